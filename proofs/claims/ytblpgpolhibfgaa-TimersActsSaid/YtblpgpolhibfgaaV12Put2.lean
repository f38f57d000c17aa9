/- Layer 12 (timers): timers that come and go: push, take, Set, Cancel, Due. -/
import Derived.Test.YtblpgpolhibfgaaV12Queue
import Derived.Test.YtblpgpolhibfgaaRes
namespace Go.Proofs.Ytblpgpolhibfgaa
open Go.RowKit

theorem Chg.two {w w' : World} {q g : Nat} (h : Chg (Two q g) w w') : Chg (QB q (some g)) w w' := h.mono (fun _ _ h => by
  rcases h with h | h
  · exact Or.inl h
  · exact Or.inr (by rw [h]))
/-- A map that came may be new. -/
def MNew (w : World) (mp mp' : Option Nat) : Prop := mp' = mp ∨ (mp = none ∧ ∃ g, mp' = some g ∧ w.heap.size ≤ g)

/-- What a timer that is set leads to. -/
theorem QA.set {w w' : World} {q g n p : Nat} {F F' S : List Tm} {M M' : Int × Int → Option Nat} {t : Tm} (h : QA w q (some g) F n M S) (hk : M t.key = some p) (hnv : t.at_ ≠ NV)
    (hq : QM w' q F' n (some g)) (hm : MapIn w' g M') (hpl : Pl F' n M') (hhp : Hp F' n) (hperm : (F'.take n).Perm ((F.set p t).take n)) : QA w' q (some g) F' n M' (insS t (remS t.key S)) := by
  refine ⟨hq, ⟨hm, h.mi.2⟩, h.le, hpl, hhp, hperm.trans (perm_set h.pl hk (by rw [h.qm.len]; exact h.le) h.perm), insS_srt (remS_srt h.srt) (fun x hx e => (mem_remS.1 hx).2 (by rw [e])), fun x hx => ?_⟩
  rcases mem_insS.1 hx with rfl | hx
  · exact hnv
  · exact h.never x (mem_remS.1 hx).1
theorem QA.hs {w : World} {q g n p : Nat} {F S : List Tm} {M : Int × Int → Option Nat} {t : Tm} (h : QA w q (some g) F n M S) (hk : M t.key = some p) : HS w q g n t F p M ((F.set p t).take n) :=
  ⟨h.qm, h.mi.1, h.mi.2, h.le, (h.pl.of_ _ _ hk).1, h.hp.hole p (h.pl.of_ _ _ hk).1, h.pl.there hk, List.Perm.refl _⟩

theorem zero_n {w : World} {q n : Nat} {F S : List Tm} {M : Int × Int → Option Nat} (h : QA w q none F n M S) : n = 0 := by
  rcases Nat.eq_zero_or_pos n with h0 | h0
  · exact h0
  · have := h.pl.at_ 0 h0
    rw [h.mi] at this
    cases this

/-- With a map, one that is pushed settles. -/
theorem QA.hsPush {w w2 : World} {q g n : Nat} {mp : Option Nat} {F S : List Tm} {M : Int × Int → Option Nat} {t : Tm} (h : QA w q mp F n M S) (hk : M t.key = none) (hn : n < 200)
    (hq : QM w2 q F (n + 1) (some g)) (hm : MapIn w2 g M) (hne : g ≠ q) : HS w2 q g (n + 1) t F n M ((F.set n t).take (n + 1)) :=
  ⟨hq, hm, hne, by omega, by omega, h.hp.push, h.pl.push hk, List.Perm.refl _⟩
theorem QA.pushed {w w' : World} {q g n : Nat} {mp : Option Nat} {F F' S : List Tm} {M M' : Int × Int → Option Nat} {t : Tm} (h : QA w q mp F n M S) (hk : M t.key = none) (hn : n < 200) (hnv : t.at_ ≠ NV) (hne : g ≠ q)
    (hq : QM w' q F' (n + 1) (some g)) (hm : MapIn w' g M') (hpl : Pl F' (n + 1) M') (hhp : Hp F' (n + 1)) (hperm : (F'.take (n + 1)).Perm ((F.set n t).take (n + 1))) : QA w' q (some g) F' (n + 1) M' (insS t (remS t.key S)) := by
  refine ⟨hq, ⟨hm, hne⟩, by omega, hpl, hhp, hperm.trans (perm_push h.pl hk (by rw [h.qm.len]; exact hn) h.perm), insS_srt (remS_srt h.srt) (fun x hx e => (mem_remS.1 hx).2 (by rw [e])), fun x hx => ?_⟩
  rcases mem_insS.1 hx with rfl | hx
  · exact hnv
  · exact h.never x (mem_remS.1 hx).1

section
variable {P : Program} {ops : Array Oper} {rest : List Oper} {o : Oper} {a : Act} {w : World} {Q : Exit → Act → World → Prop}
/-- 'map[K]V{}'. -/
theorem wpList_make_S {t : TypeId} (ho : o.op = .makeMap t none) (hw : Region.wanted o (yielded ops a.tmps) = true)
    (k : ∀ w', MapIn w' w.heap.size (fun _ => none) → Chg none_ w w' → w'.heap.size = w.heap.size + 1 → wpList P ops Q rest (a.put o.dst (.map (some w.heap.size))) w') : wpList P ops Q (o :: rest) a w :=
  BigFrame.wpList_want hw fun _ hK => by
    have k' := hK _ _ (k (w.alloc (.map #[] 0)) (MapIn.made w) ((Chg.refl none_ w).alloc _) (by simp))
    unfold Oper.wp execOp
    simp [ho, run_makeMap, Result.andThen_ok]
    exact k'
end
theorem depth_succ12 : Op.maxDepth = (Op.maxDepth - 1) + 1 := rfl
theorem eqlIn_mm (d : Nat) (w : World) : (Op.equalIn (d + 1) 58 (.map none) (.map none)).run Try.prog w = .ok true w := by
  unfold Op.equalIn
  rw [Sem.run_bind, run_underlying Try.underlying58]
  rfl
theorem eqlIn_mg (d : Nat) (g : Nat) (w : World) : (Op.equalIn (d + 1) 58 (.map (some g)) (.map none)).run Try.prog w = .ok false w := by
  unfold Op.equalIn
  rw [Sem.run_bind, run_underlying Try.underlying58]
  rfl
theorem eql_mm (w : World) : (binOp .eql 58 (.map none) (.map none)).run Try.prog w = .ok (.bool true) w := by
  have h := eqlIn_mm (Op.maxDepth - 1) w
  rw [← depth_succ12] at h
  show ((Op.equal 58 (.map none) (.map none)) >>= fun b => pure (.bool b) : Sem Value).run Try.prog w = _
  rw [Sem.run_bind, Op.equal, h]; rfl
theorem eql_mg (g : Nat) (w : World) : (binOp .eql 58 (.map (some g)) (.map none)).run Try.prog w = .ok (.bool false) w := by
  have h := eqlIn_mg (Op.maxDepth - 1) g w
  rw [← depth_succ12] at h
  show ((Op.equal 58 (.map (some g)) (.map none)) >>= fun b => pure (.bool b) : Sem Value).run Try.prog w = _
  rw [Sem.run_bind, Op.equal, h]; rfl

set_option maxRecDepth 100000 in
set_option maxHeartbeats 2000000 in
theorem push_full (q : Nat) (mp : Option Nat) (F : List Tm) (t : Tm) (w : World) (h : QM w q F 200 mp) :
    Calls Try.prog 29 #[.pointer (some ⟨q, 0, none⟩), .agg (tcell t).toArray] w fun e w' => e = .returned (.bool false) ∧ Chg none_ w w' := by
  have HQ := Lib.hid h
  clear h
  go_enter Try.func29, Try.ntmps29
  go_wp2_with ((with_reducible show wpList _ _ _ (⟨some 3, .box _ _, _, _, _, _⟩ :: _) _ _); refine wpList_box_Row rfl rfl (tcell t) rfl ?_; intro w1 hr1 hc1 hs1; have c0 : w1.cell? ⟨q, 600, none⟩ = some (.int .i64 200) := (HQ.out.chg hc1 (fun h => h)).c600; have HC1 := Lib.hid hc1; clear hr1 hc1 hs1)
  go_ret
  exact ⟨rfl, HC1.out⟩

set_option maxRecDepth 100000 in
set_option maxHeartbeats 2000000 in
theorem push_some (q g n : Nat) (F S : List Tm) (M : Int × Int → Option Nat) (t : Tm) (w : World) (h : QA w q (some g) F n M S) (ht : TOk t) (hnv : t.at_ ≠ NV) (hk : M t.key = none) (hn : n < 200) :
    Calls Try.prog 29 #[.pointer (some ⟨q, 0, none⟩), .agg (tcell t).toArray] w fun e w' => e = .returned (.bool true) ∧ QIs w' q (some g) (insS t (remS t.key S)) ∧ Chg (QB q (some g)) w w' := by
  have HQ := Lib.hid h
  have HT := Lib.hid ht
  have HK := Lib.hid hk
  have HN := Lib.hid hnv
  have heq := eql_mg g
  have HNE := Lib.hid h.mi.2
  have n1 : ((n : Int) == 200) = false := by rw [beq_eq_false_iff_ne]; omega
  have HB := Lib.hid (show w.heap.size ≠ q from by have := HQ.out.qm.lt; omega)
  clear h ht hk hnv
  go_enter Try.func29, Try.ntmps29
  go_wp2_with ((with_reducible show wpList _ _ _ (⟨some 3, .box _ _, _, _, _, _⟩ :: _) _ _); refine wpList_box_Row rfl rfl (tcell t) rfl ?_; intro w1 hr1 hc1 hs1; have HQ1 := Lib.hid (HQ.out.chg hc1 (fun _ _ h => h)); have c0 := HQ1.out.qm.c600; have c1 := HQ1.out.qm.c601; have f0 := HQ1.out.qm.row.frozen 600; have HR1 := Lib.hid hr1; have HC1 := Lib.hid hc1; clear hr1 hc1 hs1)
  have HQ2 : Hid (QM (w1.setCell ⟨q, 600, none⟩ (.int .i64 ((n : Int) + 1))) q F (n + 1) (some g)) := Lib.hid (by have := HQ1.out.qm.count (n + 1); rwa [Int.natCast_add] at this)
  have HM2 : Hid (MapIn (w1.setCell ⟨q, 600, none⟩ (.int .i64 ((n : Int) + 1))) g M) := Lib.hid (HQ1.out.mi.1.chg ((Chg.refl (· = q) w1).setCell (p := ⟨q, 600, none⟩) (fun _ => rfl) _) HQ1.out.mi.2)
  have HR2 : Hid (Row (w1.setCell ⟨q, 600, none⟩ (.int .i64 ((n : Int) + 1))) w.heap.size 27 (tcell t)) := Lib.hid (HR1.out.far (p := ⟨q, 600, none⟩) HB.out _)
  have HC2 : Hid (Chg (Two q g) w (w1.setCell ⟨q, 600, none⟩ (.int .i64 ((n : Int) + 1)))) := Lib.hid ((Two.chg HC1.out).trans ((Chg.refl (Two q g) w1).setCell (p := ⟨q, 600, none⟩) (fun _ => Or.inl rfl) _))
  clear c0 c1 f0 HQ1 HR1 HC1
  generalize w1.setCell ⟨q, 600, none⟩ (.int .i64 ((n : Int) + 1)) = w2 at HQ2 HM2 HR2 HC2 ⊢
  have c0 := HQ2.out.c600
  rw [Int.natCast_add] at c0
  have a0 := HR2.out.cell 0
  have a1 := HR2.out.cell 1
  have a2 := HR2.out.cell 2
  simp only [tcell, List.getElem?_cons_zero, List.getElem?_cons_succ] at a0 a1 a2
  have HST := Lib.hid (settle_any q g (n + 1) t HT.out n F _ M w2.drew (HQ.out.hsPush HK.out hn HQ2.out HM2.out HNE.out).drew)
  refine wp_region_still_tail 7 (by kernel_rfl) (by kernel_rfl) ?_
  simp only [List.take_succ_cons, List.take_zero, List.drop_succ_cons, List.drop_zero]
  iterate 7 still_step
  refine wpStill_nil ?_
  change wpList _ _ _ _ _ (World.drew _)
  clear a0 a1 a2 c0
  go_wp2_with (go_at_call 28; refine HST.out.mono ?_; rintro e w3 ⟨F3, M3, rfl, h1, h2, h3, h4, h5, h6⟩; have HF := Lib.hid (HQ.out.pushed HK.out hn HN.out HNE.out h1 h2 h3 h4 h5); have HC3 := Lib.hid (HC2.out.trans h6.undrew); clear h1 h2 h3 h4 h5 h6)
  go_ret
  exact ⟨rfl, ⟨_, _, _, HF.out⟩, HC3.out.two⟩

set_option maxRecDepth 100000 in
set_option maxHeartbeats 2000000 in
theorem push_none (q n : Nat) (F S : List Tm) (M : Int × Int → Option Nat) (t : Tm) (w : World) (h : QA w q none F n M S) (ht : TOk t) (hnv : t.at_ ≠ NV) (hk : M t.key = none) (hn : n < 200) :
    Calls Try.prog 29 #[.pointer (some ⟨q, 0, none⟩), .agg (tcell t).toArray] w fun e w' => e = .returned (.bool true) ∧ (∃ g, w.heap.size ≤ g ∧ QIs w' q (some g) (insS t (remS t.key S))) ∧ Chg (QB q none) w w' := by
  have HQ := Lib.hid h
  have HT := Lib.hid ht
  have HK := Lib.hid hk
  have HN := Lib.hid hnv
  have heq := eql_mm
  have n1 : ((n : Int) == 200) = false := by rw [beq_eq_false_iff_ne]; omega
  have HB := Lib.hid (show w.heap.size ≠ q from by have := HQ.out.qm.lt; omega)
  clear h ht hk hnv
  go_enter Try.func29, Try.ntmps29
  go_wp2_with (first | ((with_reducible show wpList _ _ _ (⟨some 3, .box _ _, _, _, _, _⟩ :: _) _ _); refine wpList_box_Row rfl rfl (tcell t) rfl ?_; intro w1 hr1 hc1 hs1; have HQ1 := Lib.hid (HQ.out.chg hc1 (fun _ _ h => h)); have c0 := HQ1.out.qm.c600; have c1 := HQ1.out.qm.c601; have HR1 := Lib.hid hr1; have HC1 := Lib.hid hc1; clear hr1 hc1 hs1) | ((with_reducible show wpList _ _ _ (⟨_, .makeMap _ _, _, _, _, _⟩ :: _) _ _); refine wpList_make_S rfl rfl ?_; intro w2 hm2 hc2 hs2; have HQ2 := Lib.hid (HQ1.out.qm.chg hc2 (fun h => h)); have c0 := HQ2.out.c600; have c1 := HQ2.out.c601; have f0 := HQ2.out.row.frozen 600; have f1 := HQ2.out.row.frozen 601; have HR2 := Lib.hid (HR1.out.chg hc2 (fun h => h)); have HC2 := Lib.hid (HC1.out.trans hc2); have HM2 := Lib.hid hm2; clear hm2 hc2 hs2))
  have HG := Lib.hid (show w.heap.size ≤ w1.heap.size from HC1.out.size)
  have HNE := Lib.hid (show w1.heap.size ≠ q from by have := HQ1.out.qm.lt; omega)
  have HQM : Hid (QM ((w2.setCell ⟨q, 601, none⟩ (.map (some w1.heap.size))).setCell ⟨q, 600, none⟩ (.int .i64 ((n : Int) + 1))) q F (n + 1) (some w1.heap.size)) := Lib.hid (by have := (HQ2.out.map (some w1.heap.size)).count (n + 1); rwa [Int.natCast_add] at this)
  have HCC : Hid (Chg (· = q) w2 ((w2.setCell ⟨q, 601, none⟩ (.map (some w1.heap.size))).setCell ⟨q, 600, none⟩ (.int .i64 ((n : Int) + 1)))) := Lib.hid (((Chg.refl (· = q) w2).setCell (p := ⟨q, 601, none⟩) (fun _ => rfl) _).setCell (p := ⟨q, 600, none⟩) (fun _ => rfl) _)
  have HM : Hid (∀ k, M k = none) := Lib.hid HQ.out.mi
  clear c0 c1 f0 f1
  generalize (w2.setCell ⟨q, 601, none⟩ (.map (some w1.heap.size))).setCell ⟨q, 600, none⟩ (.int .i64 ((n : Int) + 1)) = w3 at HQM HCC ⊢
  have HM3 : Hid (MapIn w3 w1.heap.size M) := Lib.hid (by
    have e : M = fun _ => none := funext HM.out
    rw [e]
    exact HM2.out.chg HCC.out HNE.out)
  have HR3 := Lib.hid (HR2.out.chg HCC.out HB.out)
  have HC3 : Hid (Chg (QB q none) w w3) := Lib.hid ((HC2.out.mono (fun _ _ h => h.elim)).trans (HCC.out.mono (fun _ _ h => Or.inl h)))
  clear HQ1 HQ2 HR1 HR2 HC1 HC2 HCC HM2 HM
  generalize w1.heap.size = g at *
  have c0 := HQM.out.c600
  rw [Int.natCast_add] at c0
  have a0 := HR3.out.cell 0
  have a1 := HR3.out.cell 1
  have a2 := HR3.out.cell 2
  simp only [tcell, List.getElem?_cons_zero, List.getElem?_cons_succ] at a0 a1 a2
  have HST := Lib.hid (settle_any q g (n + 1) t HT.out n F _ M w3.drew (HQ.out.hsPush HK.out hn HQM.out HM3.out HNE.out).drew)
  refine wp_region_still_tail 7 (by kernel_rfl) (by kernel_rfl) ?_
  simp only [List.take_succ_cons, List.take_zero, List.drop_succ_cons, List.drop_zero]
  iterate 7 still_step
  refine wpStill_nil ?_
  change wpList _ _ _ _ _ (World.drew _)
  clear a0 a1 a2 c0
  go_wp2_with (go_at_call 28; refine HST.out.mono ?_; rintro e w4 ⟨F3, M3, rfl, h1, h2, h3, h4, h5, h6⟩; have HF := Lib.hid (HQ.out.pushed HK.out hn HN.out HNE.out h1 h2 h3 h4 h5); have HC4 := Lib.hid (HC3.out.andThen h6.undrew (fun b hb h => by
    rcases h with h | h
    · exact Or.inl h
    · have := HG.out; omega)); clear h1 h2 h3 h4 h5 h6)
  go_ret
  exact ⟨rfl, ⟨g, HG.out, ⟨_, _, _, HF.out⟩⟩, HC4.out⟩
end Go.Proofs.Ytblpgpolhibfgaa
