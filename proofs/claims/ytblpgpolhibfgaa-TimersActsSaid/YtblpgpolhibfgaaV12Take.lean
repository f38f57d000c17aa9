/- Layer 12 (timers): a timer is taken out of the heap. -/
import Derived.Test.YtblpgpolhibfgaaV12Put2
namespace Go.Proofs.Ytblpgpolhibfgaa
open Go.RowKit

theorem QB.two {q g b : Nat} (h : QB q (some g) b) : b = q ∨ b = g := by
  rcases h with h | h
  · exact Or.inl h
  · exact Or.inr (Option.some.inj h).symm
theorem QA.hsTake {w w2 : World} {q g n p : Nat} {F S : List Tm} {M : Int × Int → Option Nat} (h : QA w q (some g) F (n + 1) M S) (hp : p < n)
    (hq : QM w2 q (F.set n zT) n (some g)) (hm : MapIn w2 g (upd M (tm F p).key none)) : HS w2 q g n (tm F n) (F.set n zT) p (upd M (tm F p).key none) (((F.set n zT).set p (tm F n)).take n) := by
  have hlen := h.qm.len
  have hle := h.le
  refine ⟨hq, hm, h.mi.2, by omega, hp, ?_, h.pl.take zT hp (by omega), List.Perm.refl _⟩
  have h1 : Hp (F.set n zT) n := (h.hp.less (Nat.le_succ n)).set_past (Nat.le_refl n) (by omega)
  exact h1.hole p hp
theorem QA.took {w w' : World} {q g n p : Nat} {F F' S : List Tm} {M M' : Int × Int → Option Nat} (h : QA w q (some g) F (n + 1) M S)
    (hq : QM w' q F' n (some g)) (hm : MapIn w' g M') (hpl : Pl F' n M') (hhp : Hp F' n) (hperm : (F'.take n).Perm (remS (tm F p).key S)) : QIs w' q (some g) (remS (tm F p).key S) :=
  ⟨F', n, M', hq, ⟨hm, h.mi.2⟩, by have := h.le; omega, hpl, hhp, hperm, remS_srt h.srt, fun x hx => h.never x (mem_remS.1 hx).1⟩

theorem zeroTm : (Try.prog.info? 27).map (·.zero) = some (some (.agg (tcell zT).toArray)) := by kernel_rfl

set_option maxRecDepth 100000 in
set_option maxHeartbeats 4000000 in
theorem take_any (q g n p : Nat) (F S : List Tm) (M : Int × Int → Option Nat) (w : World) (h : QA w q (some g) F (n + 1) M S) (hp : p ≤ n) :
    Calls Try.prog 26 #[.pointer (some ⟨q, 0, none⟩), .int .i64 (p : Int)] w fun e w' => e = .returned (.agg (tcell (tm F p)).toArray) ∧ QIs w' q (some g) (remS (tm F p).key S) ∧ Chg (QB q (some g)) w w' := by
  have HQ := Lib.hid h
  have hle := h.le
  have HT := Lib.hid (tm_ok h.qm.ok p)
  have HLQ := Lib.hid h.qm.lt
  have HLG := Lib.hid h.mi.1.lt
  have HNE := Lib.hid h.mi.2
  have p1 : (p : Int) < 200 := by omega
  have n1 : (n : Int) < 200 := by omega
  clear h
  go_enter Try.func26, Try.ntmps26
  go_wp2_with (first | ((with_reducible show wpList _ _ _ (⟨some 4, .alloc _, _, _, _, _⟩ :: _) _ _); refine wpList_alloc_Row rfl rfl (tcell zT) zeroTm ?_; intro w1 hr1 hc1 hs1; have HR1 := Lib.hid hr1; have HC1 := Lib.hid hc1; have HQ1 := Lib.hid (HQ.out.chg hc1 (fun _ _ h => h)); have HS1 := Lib.hid hs1; obtain ⟨b0, b1, b2⟩ := HQ1.out.qm.timer (i := p) (by omega); clear hr1 hc1 hs1) | ((with_reducible show wpList _ _ _ (⟨some 12, .load _ _, _, _, _, _⟩ :: _) _ _); refine wpList_load_Mid (cs := tcell (tm F p)) rfl rfl rfl (HQ1.out.qm.at_ p (by omega)) Try.underlying27 rfl sizeTm ?_) | ((with_reducible show wpList _ _ _ (⟨some 5, .alloc _, _, _, _, _⟩ :: _) _ _); refine wpList_alloc_Row rfl rfl (tcell zT) zeroTm ?_; intro w2 hr2 hc2 hs2; have HR2 := Lib.hid hr2; have HC2 := Lib.hid (HC1.out.trans hc2); have HRR2 := Lib.hid (HR1.out.chg hc2 (fun h => h)); have HQ2 := Lib.hid (HQ1.out.chg hc2 (fun _ _ h => h)); have HG1 := Lib.hid (show w.heap.size < w1.heap.size from HR1.out.lt); clear hr2 hc2 hs2) | ((with_reducible show wpList _ _ _ (⟨none, .store _ (.tmp 5) _, _, _, _, _⟩ :: _) _ _); refine wpList_store_Row (xs := tcell (tm F p)) rfl rfl rfl HR2.out rfl rfl sizeTm rfl ?_; intro w3 hr3 hcs3 hs3; have HC31 := Lib.hid (hcs3 (· = w1.heap.size) w2 (Chg.refl _ _) (fun _ => rfl)); have HR3 := Lib.hid hr3; have HC3 := Lib.hid (HC2.out.andThen HC31.out (fun b hb e => by have := HG1.out; omega)); have HRR3 := Lib.hid (HRR2.out.chg HC31.out (by have := HG1.out; omega)); have HQ3 := Lib.hid (HQ2.out.chg HC31.out (fun b hb e => by have := HLQ.out; have := HLG.out; have := HG1.out; rcases hb.two with hb | hb <;> omega)); have c1 := HQ3.out.qm.c601; have a1 := HR3.out.cell 1; have a2 := HR3.out.cell 2; simp only [tcell, List.getElem?_cons_zero, List.getElem?_cons_succ] at a1 a2; clear hr3 hcs3 hs3))
  simp only [Act.put, List.setIfInBounds_toArray, List.set_cons_zero, List.set_cons_succ]
  refine wp_region_still_tail 9 (by kernel_rfl) (by kernel_rfl) ?_
  simp only [List.take_succ_cons, List.take_zero, List.drop_succ_cons, List.drop_zero]
  iterate 9 still_step
  refine wpStill_nil ?_
  change wpList _ _ _ _ _ (World.drew _)
  clear a1 a2 c1 b0 b1 b2
  have HGW := Lib.hid (show w.heap.size ≠ g by have := HLG.out; omega)
  have HGV := Lib.hid (show w1.heap.size ≠ g by have := HLG.out; have := HG1.out; omega)
  have HQW := Lib.hid (show w.heap.size ≠ q by have := HLQ.out; omega)
  have HQV := Lib.hid (show w1.heap.size ≠ q by have := HLQ.out; have := HG1.out; omega)
  go_wp2_with ((with_reducible show wpList _ _ _ (⟨_, .call _, _, _, _, _⟩ :: _) _ _); refine wpList_delete_S _ _ rfl rfl (tm F p).key rfl rfl Try.underlying58 keyed HQ3.out.mi.1.drew HT.out.k ?_; intro w4 hm4 hc4 hs4; have HM4 := Lib.hid hm4; have HQ4 := Lib.hid (HQ3.out.qm.drew.chg hc4 (fun e => HNE.out e.symm)); have HR4 := Lib.hid (HR3.out.drew.chg hc4 HGV.out); have HRR4 := Lib.hid (HRR3.out.drew.chg hc4 HGW.out); have HC4 : Hid (Chg (QB q (some g)) w w4) := Lib.hid ((HC3.out.mono (fun _ _ h => h.elim)).trans (hc4.undrew.mono (fun _ _ h => Or.inr (by rw [h])))); have c0 := HQ4.out.c600; have f0 := HQ4.out.row.frozen 600; clear hm4 hc4 hs4)
  have HQ5 : Hid (QM (w4.setCell ⟨q, 600, none⟩ (.int .i64 (n : Int))) q F n (some g)) := Lib.hid (HQ4.out.count n)
  have HC51 : Hid (Chg (· = q) w4 (w4.setCell ⟨q, 600, none⟩ (.int .i64 (n : Int)))) := Lib.hid ((Chg.refl (· = q) w4).setCell (p := ⟨q, 600, none⟩) (fun _ => rfl) _)
  clear c0 f0
  generalize w4.setCell ⟨q, 600, none⟩ (.int .i64 (n : Int)) = w5 at HQ5 HC51 ⊢
  have HM5 := Lib.hid (HM4.out.chg HC51.out HNE.out)
  have HR5 := Lib.hid (HR4.out.chg HC51.out HQV.out)
  have HRR5 := Lib.hid (HRR4.out.chg HC51.out HQW.out)
  have HC5 : Hid (Chg (QB q (some g)) w w5) := Lib.hid (HC4.out.trans (HC51.out.mono (fun _ _ h => Or.inl h)))
  clear HQ4 HM4 HR4 HRR4 HC4 HC51 HQ1 HQ2 HQ3 HR1 HR2 HRR2 HR3 HRR3 HC1 HC2 HC31 HC3
  refine wp_region_held_drew (S := fun w' => Chg none_ w5 w') (by kernel_rfl) ((Chg.refl _ _).drew) (fun hch0 => ?_)
  refine wpAnyH_take (i := 0) (v := .pointer (some ⟨q, 0, none⟩)) rfl (by kernel_rfl) (by kernel_rfl) (by kernel_rfl) (by first | exact fun _ _ _ h => h | exact fun _ _ _ h => nomatch h.1) (Or.inl ⟨by rfl, fun w_ hw_ => by go_simp⟩) hch0 ?_
  refine wpAnyH_take (i := 1) (v := .pointer (some ⟨q, 0, none⟩)) rfl (by kernel_rfl) (by kernel_rfl) (by kernel_rfl) (by first | exact fun _ _ _ h => h | exact fun _ _ _ h => nomatch h.1) (Or.inl ⟨by rfl, fun w_ hw_ => by go_simp⟩) hch0 ?_
  refine wpAnyH_take (i := 2) (v := .pointer (some ⟨q, 0, none⟩)) rfl (by kernel_rfl) (by kernel_rfl) (by kernel_rfl) (by first | exact fun _ _ _ h => h | exact fun _ _ _ h => nomatch h.1) (Or.inl ⟨by rfl, fun w_ hw_ => by go_simp⟩) hch0 ?_
  try simp only [Act.put, List.setIfInBounds_toArray, List.set_cons_zero, List.set_cons_succ, List.getElem_toArray, List.getElem_cons_succ, List.getElem_cons_zero]
  refine wpAnyH_take (i := 3) (v := .pointer (some ⟨q, 600, none⟩)) rfl (by kernel_rfl) (by kernel_rfl) (by kernel_rfl) (by first | exact fun _ _ _ h => h | exact fun _ _ _ h => nomatch h.1) (Or.inl ⟨by rfl, fun w_ hw_ => by go_simp⟩) hch0 ?_
  refine wpAnyH_take (i := 4) (v := .int .i64 (n : Int)) rfl (by kernel_rfl) (by kernel_rfl) (by kernel_rfl) (by first | exact fun _ _ _ h => h | exact fun _ _ _ h => nomatch h.1) (Or.inl ⟨by rfl, fun w_ hw_ => by have c := (HQ5.out.chg hw_ (fun h => h)).c600; go_simp⟩) hch0 ?_
  try simp only [Act.put, List.setIfInBounds_toArray, List.set_cons_zero, List.set_cons_succ, List.getElem_toArray, List.getElem_cons_succ, List.getElem_cons_zero]
  refine wpAnyH_take (i := 5) (v := .pointer (some ⟨q, 0, none⟩)) rfl (by kernel_rfl) (by kernel_rfl) (by kernel_rfl) (by first | exact fun _ _ _ h => h | exact fun _ _ _ h => nomatch h.1) (Or.inl ⟨by rfl, fun w_ hw_ => by go_simp⟩) hch0 ?_
  refine wpAnyH_take (i := 6) (v := .pointer (some ⟨q, 0, none⟩)) rfl (by kernel_rfl) (by kernel_rfl) (by kernel_rfl) (by first | exact fun _ _ _ h => h | exact fun _ _ _ h => nomatch h.1) (Or.inl ⟨by rfl, fun w_ hw_ => by go_simp⟩) hch0 ?_
  try simp only [Act.put, List.setIfInBounds_toArray, List.set_cons_zero, List.set_cons_succ, List.getElem_toArray, List.getElem_cons_succ, List.getElem_cons_zero]
  refine wpAnyH_take (i := 7) (v := .pointer (some ⟨q, n * 3, none⟩)) rfl (by kernel_rfl) (by kernel_rfl) (by kernel_rfl) (by first | exact fun _ _ _ h => h | exact fun _ _ _ h => nomatch h.1) (Or.inl ⟨by rfl, fun w_ hw_ => by go_simp⟩) hch0 ?_
  refine wpAnyH_take (i := 8) (v := .agg (tcell (tm F n)).toArray) rfl (by kernel_rfl) (by kernel_rfl) (by kernel_rfl) (by first | exact fun _ _ _ h => h | exact fun _ _ _ h => nomatch h.1) (yieldsIf_load_mid (by rfl) 27 _ rfl q (n * 3) rfl (tcell (tm F n)) _ (fun w' hw' => (HQ5.out.chg hw' (fun h => h)).at_ n (by omega)) Try.underlying27 rfl sizeTm) hch0 ?_
  try simp only [Act.put, List.setIfInBounds_toArray, List.set_cons_zero, List.set_cons_succ, List.getElem_toArray, List.getElem_cons_succ, List.getElem_cons_zero]
  refine wpAnyH_ready (rs := [9]) (by kernel_rfl) (by simp) ?_
  refine AllReadyH.cons rfl (fun K hK => ?_) AllReadyH.nil
  rw [if_pos (by rfl)]
  try simp only [List.getElem_toArray, List.getElem_cons_succ, List.getElem_cons_zero]
  refine wp_alloc_row rfl (tcell zT) zeroTm ?_
  intro w6 hr6 hc6 hs6
  have HR6 := Lib.hid hr6
  have HC6 := Lib.hid hc6.undrew
  clear hr6 hc6 hs6
  refine hK.out _ _ HC6.out (fun _ => ?_)
  clear hK K
  try simp only [Act.put, List.setIfInBounds_toArray, List.set_cons_zero, List.set_cons_succ]
  refine wpAnyH_ready (rs := [10]) (by kernel_rfl) (by simp) ?_
  refine AllReadyH.cons rfl (fun K hK => ?_) AllReadyH.nil
  rw [if_pos (by rfl)]
  try simp only [List.getElem_toArray, List.getElem_cons_succ, List.getElem_cons_zero]
  refine wp_store_row (xs := tcell (tm F n)) rfl rfl HR6.out rfl rfl sizeTm rfl ?_
  intro w7 hr7 hcs7 hs7
  have HC7 := Lib.hid (HC6.out.andThen (hcs7 (· = w5.heap.size) w6 (Chg.refl _ _) (fun _ => rfl)) (fun b hb e => by omega) : Chg none_ w5 w7)
  have HR7 := Lib.hid hr7
  clear hr7 hcs7 hs7
  refine hK.out _ _ HC7.out (fun _ => ?_)
  clear hK K
  try simp only [Act.put]
  refine wpAnyH_done (by kernel_rfl) ?_ _
  have HG5 := Lib.hid (show g < w5.heap.size from HM5.out.lt)
  have HGQ := Lib.hid (show q < w5.heap.size from HQ5.out.lt)
  have HV5 := Lib.hid (show w1.heap.size < w5.heap.size from HR5.out.lt)
  have HQ7 := Lib.hid (HQ5.out.chg HC7.out (fun h => h))
  have HM7 := Lib.hid (HM5.out.chg HC7.out (fun h => h))
  have HRA7 := Lib.hid (HR5.out.chg HC7.out (fun h => h))
  have HRR7 := Lib.hid (HRR5.out.chg HC7.out (fun h => h))
  have HC70 : Hid (Chg (QB q (some g)) w w7) := Lib.hid (HC5.out.trans (HC7.out.mono (fun _ _ h => h.elim)))
  clear HQ5 HM5 HR5 HRR5 HC5 HC6 HR6 HC7
  have c0 := HQ7.out.c600
  have HNB := Lib.hid (show ∀ b, QB q (some g) b → b ≠ w.heap.size ∧ b ≠ w1.heap.size from fun b hb => by
    have := HLQ.out
    have := HLG.out
    have := HG1.out
    rcases hb.two with h | h <;> omega)
  have hn200 : n < 200 := by omega
  go_wp2
  refine wp_region_still_tail 9 (by kernel_rfl) (by kernel_rfl) ?_
  simp only [List.take_succ_cons, List.take_zero, List.drop_succ_cons, List.drop_zero]
  iterate 9 still_step
  refine wpStill_nil ?_
  change wpList _ _ _ _ _ (World.drew _)
  clear c0
  by_cases hpn : p < n
  · have pn : (p : Int) < (n : Int) := by omega
    go_wp2_with (first | ((with_reducible show wpList _ _ _ (⟨none, .store _ (.tmp 46) _, _, _, _, _⟩ :: _) _ _); refine wpList_store_Q rfl rfl (i := n) (t := zT) rfl HQ7.out.drew (by omega) ⟨by decide, by decide, by decide⟩ rfl sizeTm ?_; intro w8 hq8 hc8 hs8; have HQ8 := Lib.hid hq8; have HM8 := Lib.hid (HM7.out.drew.chg hc8 HNE.out); have HR8 := Lib.hid (HR7.out.drew.chg hc8 (fun e => by have := HGQ.out; have e2 : w5.heap.size = q := e; omega)); have HRA8 := Lib.hid (HRA7.out.drew.chg hc8 HQV.out); have HRR8 := Lib.hid (HRR7.out.drew.chg hc8 HQW.out); have HC8 : Hid (Chg (QB q (some g)) w w8) := Lib.hid (HC70.out.trans (hc8.undrew.mono (fun _ _ h => Or.inl h))); have c8 := hq8.c600; clear hq8 hc8 hs8) | ((with_reducible show wpList _ _ _ (⟨some 55, .load _ _, _, _, _, _⟩ :: _) _ _); refine wpList_load_Row rfl rfl rfl HR8.out Try.underlying27 rfl sizeTm ?_) | (go_at_call 28; refine (settle_any q g n (tm F n) (tm_ok HQ.out.qm.ok n) p _ _ _ w8 (HQ.out.hsTake hpn HQ8.out HM8.out)).mono ?_; rintro e w9 ⟨F9, M9, rfl, h1, h2, h3, h4, h5, h6⟩; have HF := Lib.hid (HQ.out.took h1 h2 h3 h4 (h5.trans (perm_take zT HQ.out.pl hpn (by have := HQ.out.qm.len; omega) HQ.out.perm))); have HC9 := Lib.hid (HC8.out.trans h6.two); have HRA9 := Lib.hid (HRA8.out.chg h6.two (fun h => (HNB.out _ h).2 rfl)); have HRR9 := Lib.hid (HRR8.out.chg h6.two (fun h => (HNB.out _ h).1 rfl)); clear h1 h2 h3 h4 h5 h6) | ((with_reducible show wpList _ _ _ (⟨some 57, .load _ _, _, _, _, _⟩ :: _) _ _); refine wpList_load_Row rfl rfl rfl HRA9.out Try.underlying27 rfl sizeTm ?_) | ((with_reducible show wpList _ _ _ (⟨none, .store _ (.tmp 4) _, _, _, _, _⟩ :: _) _ _); refine wpList_store_Row (xs := tcell (tm F p)) rfl rfl rfl HRR9.out rfl rfl sizeTm rfl ?_; intro wz hrz hcz hsz; have HRZ := Lib.hid hrz; have HCZ := Lib.hid (hcz (· = w.heap.size) w9 (Chg.refl _ _) (fun _ => rfl)); clear hrz hcz hsz))
    refine ret_row rfl rfl HRZ.out Try.underlying27 rfl sizeTm rfl ?_
    exact ⟨rfl, HF.out.chg HCZ.out (fun b hb e => (HNB.out _ hb).1 e), HC9.out.andThen HCZ.out (fun b hb e => by omega)⟩
  · have hpe : n = p := by omega
    subst hpe
    go_wp2_with (first | ((with_reducible show wpList _ _ _ (⟨none, .store _ (.tmp 46) _, _, _, _, _⟩ :: _) _ _); refine wpList_store_Q rfl rfl (i := n) (t := zT) rfl HQ7.out.drew (by omega) ⟨by decide, by decide, by decide⟩ rfl sizeTm ?_; intro w8 hq8 hc8 hs8; have HQ8 := Lib.hid hq8; have HM8 := Lib.hid (HM7.out.drew.chg hc8 HNE.out); have HR8 := Lib.hid (HR7.out.drew.chg hc8 (fun e => by have := HGQ.out; have e2 : w5.heap.size = q := e; omega)); have HRA8 := Lib.hid (HRA7.out.drew.chg hc8 HQV.out); have HRR8 := Lib.hid (HRR7.out.drew.chg hc8 HQW.out); have HC8 : Hid (Chg (QB q (some g)) w w8) := Lib.hid (HC70.out.trans (hc8.undrew.mono (fun _ _ h => Or.inl h))); have c8 := hq8.c600; clear hq8 hc8 hs8) | ((with_reducible show wpList _ _ _ (⟨some 57, .load _ _, _, _, _, _⟩ :: _) _ _); refine wpList_load_Row rfl rfl rfl HRA8.out Try.underlying27 rfl sizeTm ?_) | ((with_reducible show wpList _ _ _ (⟨none, .store _ (.tmp 4) _, _, _, _, _⟩ :: _) _ _); refine wpList_store_Row (xs := tcell (tm F n)) rfl rfl rfl HRR8.out rfl rfl sizeTm rfl ?_; intro wz hrz hcz hsz; have HRZ := Lib.hid hrz; have HCZ := Lib.hid (hcz (· = w.heap.size) w8 (Chg.refl _ _) (fun _ => rfl)); clear hrz hcz hsz))
    refine ret_row rfl rfl HRZ.out Try.underlying27 rfl sizeTm rfl ?_
    have HF := HQ.out.took HQ8.out HM8.out (HQ.out.pl.takeLast zT (by have := HQ.out.qm.len; omega)) ((HQ.out.hp.less (Nat.le_succ n)).set_past (Nat.le_refl n) (by have := HQ.out.qm.len; omega)) (perm_takeLast zT HQ.out.pl (by have := HQ.out.qm.len; omega) HQ.out.perm)
    exact ⟨rfl, HF.chg HCZ.out (fun b hb e => (HNB.out _ hb).1 e), HC8.out.andThen HCZ.out (fun b hb e => by omega)⟩
end Go.Proofs.Ytblpgpolhibfgaa
