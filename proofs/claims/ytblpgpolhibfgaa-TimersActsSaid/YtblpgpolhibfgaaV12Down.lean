/- Layer 12 (timers): a free place goes down. -/
import Derived.Test.YtblpgpolhibfgaaV12Up
namespace Go.Proofs.Ytblpgpolhibfgaa
open Go.RowKit

/-- The place of the one that comes ahead of the two below a place. -/
def fbN (F : List Tm) (n p : Nat) : Nat := if 2 * p + 2 < n ∧ Ah (tm F (2 * p + 2)) (tm F (2 * p + 1)) then 2 * p + 2 else 2 * p + 1
theorem fbN_par (F : List Tm) (n p : Nat) : par (fbN F n p) = p := by unfold fbN par; split <;> omega
theorem fbN_pos (F : List Tm) (n p : Nat) : 0 < fbN F n p := by unfold fbN; split <;> omega
theorem fbN_least (F : List Tm) (n p s : Nat) (h0 : 0 < s) (hs : s < n) (hp : par s = p) : ¬ Ah (tm F s) (tm F (fbN F n p)) ∧ fbN F n p < n := by
  have hs2 : s = 2 * p + 1 ∨ s = 2 * p + 2 := by unfold par at hp; omega
  unfold fbN
  split
  · next h =>
    refine ⟨?_, h.1⟩
    rcases hs2 with rfl | rfl
    · exact h.2.asym
    · exact Ah.irrefl _
  · next h =>
    refine ⟨?_, by omega⟩
    rcases hs2 with rfl | rfl
    · exact Ah.irrefl _
    · exact fun hh => h ⟨hs, hh⟩

set_option maxRecDepth 100000 in
set_option maxHeartbeats 2000000 in
theorem first_any (q n p : Nat) (F : List Tm) (mp : Option Nat) (w : World) (h : QM w q F n mp) (hn : n ≤ 200) (hp : p < 200) :
    Calls Try.prog 43 #[.pointer (some ⟨q, 0, none⟩), .int .i64 (p : Int)] w fun e w' => e = .returned (.int .i64 ((fbN F n p : Nat) : Int)) ∧ Chg none_ w w' := by
  have HQ := Lib.hid h
  have c6 := h.c600
  have k1 : IntKind.i64.wrap (2 * (p : Int)) = ((2 * p : Nat) : Int) := by simp [IntKind.wrap, IntKind.bits, IntKind.signed]; omega
  by_cases hc : 2 * p + 2 < n
  · obtain ⟨a0, a1, a2⟩ := h.timer (i := 2 * p + 2) (by omega)
    obtain ⟨b0, b1, b2⟩ := h.timer (i := 2 * p + 1) (by omega)
    have g1 : (2 * (p : Int) + 1 + 1) < (n : Int) := by omega
    have g2 : 2 * (p : Int) + 1 + 1 < 200 := by omega
    have g3 : 2 * (p : Int) + 1 < 200 := by omega
    have g4 : 0 ≤ 2 * (p : Int) + 1 + 1 := by omega
    have g5 : 0 ≤ 2 * (p : Int) + 1 := by omega
    have t1 : (2 * (p : Int) + 1).toNat = 2 * p + 1 := by omega
    have t2 : (2 * (p : Int) + 1 + 1).toNat = 2 * p + 2 := by omega
    have HCMP : Hid (∀ w, Calls Try.prog 33 #[.agg (tcell (tm F (2 * p + 2))).toArray, .agg (tcell (tm F (2 * p + 1))).toArray] w fun e w' => e = .returned (.int .i64 (cmpT (tm F (2 * p + 2)) (tm F (2 * p + 1)))) ∧ Chg none_ w w') := Lib.hid (fun w => compare_any (tm F (2 * p + 2)) (tm F (2 * p + 1)) w)
    have e1 : ∀ c, c = cmpT (tm F (2 * p + 2)) (tm F (2 * p + 1)) → fbN F n p = if c < 0 then 2 * p + 2 else 2 * p + 1 := fun c e => by
      unfold fbN
      subst e
      by_cases hA : Ah (tm F (2 * p + 2)) (tm F (2 * p + 1))
      · rw [if_pos ⟨hc, hA⟩, if_pos ((cmpT_lt _ _).2 hA)]
      · rw [if_neg (fun x => hA x.2), if_neg (fun x => hA ((cmpT_lt _ _).1 x))]
    have E1 := Lib.hid (e1 _ rfl)
    clear e1 h
    generalize cmpT (tm F (2 * p + 2)) (tm F (2 * p + 1)) = c at *
    rw [E1.out]
    by_cases hneg : c < 0
    · rw [if_pos hneg]
      have e2 : ((2 * p + 2 : Nat) : Int) = 2 * (p : Int) + 1 + 1 := by omega
      rw [e2]
      clear e2 E1
      go_enter Try.func43, Try.ntmps43
      go_wp2
      refine wp_region_still_tail 19 (by kernel_rfl) (by kernel_rfl) ?_
      simp only [List.take_succ_cons, List.take_zero, List.drop_succ_cons, List.drop_zero]
      iterate 19 still_step
      refine wpStill_nil ?_
      change wpList _ _ _ _ _ (World.drew _)
      clear a0 a1 a2 b0 b1 b2 c6
      go_wp2_with (go_at_call 33; refine (HCMP.out _).mono ?_; rintro e w2 ⟨rfl, hc2⟩; have HC2 := Lib.hid hc2.undrew; clear hc2)
      go_ret
      exact ⟨rfl, HC2.out⟩
    · rw [if_neg hneg]
      have e2 : ((2 * p + 1 : Nat) : Int) = 2 * (p : Int) + 1 := by omega
      rw [e2]
      clear e2 E1
      go_enter Try.func43, Try.ntmps43
      go_wp2
      refine wp_region_still_tail 19 (by kernel_rfl) (by kernel_rfl) ?_
      simp only [List.take_succ_cons, List.take_zero, List.drop_succ_cons, List.drop_zero]
      iterate 19 still_step
      refine wpStill_nil ?_
      change wpList _ _ _ _ _ (World.drew _)
      clear a0 a1 a2 b0 b1 b2 c6
      go_wp2_with (go_at_call 33; refine (HCMP.out _).mono ?_; rintro e w2 ⟨rfl, hc2⟩; have HC2 := Lib.hid hc2.undrew; clear hc2)
      go_ret
      exact ⟨rfl, HC2.out⟩
  · have e1 : fbN F n p = 2 * p + 1 := by unfold fbN; rw [if_neg (fun x => hc x.1)]
    rw [e1]
    have gd : decide (2 * (p : Int) + 1 + 1 < (n : Int)) = false := by simp; omega
    have e2 : ((2 * p + 1 : Nat) : Int) = 2 * (p : Int) + 1 := by omega
    rw [e2]
    clear h k1 e1 e2
    go_enter Try.func43, Try.ntmps43
    go_wp2
    go_quiet (fail)
    go_wp2
    go_ret
    exact ⟨rfl, (Chg.refl _ _).drewN _⟩

section
variable {P : Program} {a : Act} {w : World} {Q : Exit → Act → World → Prop}
/-- A scope with one label to which the run jumps back: what holds at the label's first pass is what holds at a jump. -/
theorem wp_scope_back {c rest : Code} (l : Nat) (J : Act → World → Prop) (μ : Act → World → Nat) (hf : findLabel c l = some (.seq .skip rest))
    (pass : ∀ a w, J a w → rest.wp P (Exit.jump l (fun a' w' => J a' w' ∧ μ a' w' < μ a w) Q) a w)
    (first : (∀ a w, J a w → rest.wp P (Exit.jump l J Q) a w) → c.wp P (Exit.jump l J Q) a w) : (Code.scope c).wp P Q a w :=
  wp_scope_jumps l J μ hf (first fun a w h => Code.wp_mono (fun e a' w' he => by
    cases e <;> first | exact he | exact ⟨he.1, he.2.1⟩) (pass a w h)) (fun a w h => wp_seq (wp_skip (pass a w h)))
end

theorem HS.finish {w : World} {q g n p : Nat} {t : Tm} {F B : List Tm} {M : Int × Int → Option Nat} (h : HS w q g n t F p M B) (hd : ∀ c, 0 < c → c < n → par c = p → ¬ Ah (tm F c) t) (hu : p = 0 ∨ ¬ Ah t (tm F (par p))) : Hp (F.set p t) n :=
  h.hole.done h.lt (by have := h.qm.len; have := h.le; omega) hu hd

set_option maxRecDepth 100000 in
set_option maxHeartbeats 4000000 in
theorem down_any (q g n : Nat) (t : Tm) (p : Nat) (F B : List Tm) (M : Int × Int → Option Nat) (w : World) (h : HS w q g n t F p M B) (hu : p = 0 ∨ ¬ Ah t (tm F (par p))) :
    Calls Try.prog 36 #[.pointer (some ⟨q, 0, none⟩), .int .i64 (p : Int), .agg (tcell t).toArray] w fun e w' => ∃ p' F' M', e = .returned (.int .i64 ((p' : Nat) : Int)) ∧ HS w' q g n t F' p' M' B ∧ Hp (F'.set p' t) n ∧ Chg (Two q g) w w' := by
  have HH := Lib.hid h
  have HB := Lib.hid (show ¬ Two q g w.heap.size from fun e => by
    have h1 := HH.out.qm.lt
    have h2 := HH.out.mi.lt
    rcases e with e | e <;> omega)
  have HU := Lib.hid hu
  clear h hu
  go_enter Try.func36, Try.ntmps36
  go_wp2_with ((with_reducible show wpList _ _ _ (⟨some 5, .box _ _, _, _, _, _⟩ :: _) _ _); refine wpList_box_Row rfl rfl (tcell t) rfl ?_; intro w0 hr1 hc1 hs1; have HR1 := Lib.hid hr1; have HC1 := Lib.hid hc1; have HH1 := Lib.hid (HH.out.chg hc1 (fun h => h) (fun h => h)); clear hr1 hc1 hs1)
  refine wp_scope_back 0 (fun a' w' => ∃ (k : Nat) (F' : List Tm) (M' : Int × Int → Option Nat) (u7 u8 u9 u10 u11 u12 u13 u14 u15 u16 u17 u18 u19 u20 u21 u22 u23 u24 u25 u26 u27 u28 u29 u30 u31 u32 u33 u34 u35 u36 u37 u38 : Value), a' = { tmps := #[.pointer (some ⟨q, 0, none⟩), .int .i64 ((k : Nat) : Int), .agg (tcell t).toArray, undef, undef, .pointer (some ⟨w.heap.size, 0, none⟩), .int .i64 0, u7, u8, u9, u10, u11, u12, u13, u14, u15, u16, u17, u18, u19, u20, u21, u22, u23, u24, u25, u26, u27, u28, u29, u30, u31, u32, u33, u34, u35, u36, u37, u38], defers := [] } ∧ HS w' q g n t F' k M' B ∧ (k = 0 ∨ ¬ Ah t (tm F' (par k))) ∧ Row w' w.heap.size 27 (tcell t) ∧ Chg (Two q g) w w') (fun a' _ => n - (intOf (a'.tmps.getD 1 undef)).toNat) rfl ?_ ?_
  · rintro a' w1 ⟨k, F', M', u7, u8, u9, u10, u11, u12, u13, u14, u15, u16, u17, u18, u19, u20, u21, u22, u23, u24, u25, u26, u27, u28, u29, u30, u31, u32, u33, u34, u35, u36, u37, u38, rfl, hh, hu, hr, hc⟩
    have HK := Lib.hid hh
    have HRW := Lib.hid hr
    have HCW := Lib.hid hc
    have HU1 := Lib.hid hu
    have hkn := hh.lt
    have hn2 := hh.le
    have HF := Lib.hid (first_any q n k F' (some g) w1 hh.qm hn2 (by omega))
    have HL := Lib.hid (fbN_least F' n k)
    have HP := Lib.hid (fbN_par F' n k)
    have HP0 := Lib.hid (fbN_pos F' n k)
    generalize fbN F' n k = b at *
    clear hh hr hc hu HH HU
    by_cases hb : b < n
    · have b1 : (b : Int) < (n : Int) := by omega
      have hb2 : b < 200 := by omega
      have i1 : (b : Int) < 200 := by omega
      have HCMP : Hid (∀ w, Calls Try.prog 33 #[.agg (tcell (tm F' b)).toArray, .agg (tcell t).toArray] w fun e w' => e = .returned (.int .i64 (cmpT (tm F' b) t)) ∧ Chg none_ w w') := Lib.hid (fun w => compare_any (tm F' b) t w)
      have HPUT := Lib.hid (fun (w' : World) (hx : HS w' q g n t F' k M' B) => put_any q g k n F' M' (tm F' b) w' hx.qm hx.mi hx.ne (by have := hx.le; have := hx.lt; omega) (tm_ok hx.qm.ok _))
      by_cases hcp : cmpT (tm F' b) t < 0
      · have HA := Lib.hid ((cmpT_lt _ _).1 hcp)
        generalize cmpT (tm F' b) t = c at *
        go_wp2_with (go_at_call 43; refine HF.out.mono ?_; rintro e w2 ⟨rfl, hc2⟩; have HK2 := Lib.hid (HK.out.chg hc2 (fun h => h) (fun h => h)); have HR2 := Lib.hid (HRW.out.chg hc2 (fun h => h)); have HC2 := Lib.hid (HCW.out.trans (Two.chg hc2)); obtain ⟨a0, a1, a2⟩ := HK2.out.qm.timer hb2; have c6 := HK2.out.qm.c600; have b0 := HR2.out.cell 0; have b3 := HR2.out.cell 1; have b2 := HR2.out.cell 2; simp only [tcell, List.getElem?_cons_zero, List.getElem?_cons_succ] at b0 b3 b2; clear hc2)
        refine wp_region_still_tail 14 (by kernel_rfl) (by kernel_rfl) ?_
        simp only [List.take_succ_cons, List.take_zero, List.drop_succ_cons, List.drop_zero]
        iterate 14 still_step
        refine wpStill_nil ?_
        change wpList _ _ _ _ _ (World.drew _)
        clear a0 a1 a2 b0 b3 b2 c6
        go_wp2_with (first | (go_at_call 33; refine (HCMP.out _).mono ?_; rintro e w3 ⟨rfl, hc3⟩; have HK3 := Lib.hid (HK2.out.drew.chg hc3 (fun h => h) (fun h => h)); have HC3 := Lib.hid (HC2.out.trans (Two.chg hc3.undrew)); have HR3 := Lib.hid (HR2.out.drew.chg hc3 (fun h => h)); obtain ⟨a0, a1, a2⟩ := HK3.out.qm.timer hb2; clear hc3) | (go_at_call 35; refine (HPUT.out _ HK3.out).mono ?_; rintro e w4 ⟨rfl, hq4, hm4, hc4⟩; have HK4 := Lib.hid (HK3.out.down HP0.out hb HP.out (fun s h0 hs hp => (HL.out s h0 hs hp).1) hq4 hm4); have HC4 := Lib.hid (HC3.out.trans hc4); have HR4 := Lib.hid (HR3.out.chg hc4 HB.out); clear hq4 hm4 hc4))
        go_step3
        refine ⟨rfl, ⟨b, _, _, _, _, _, _, _, _, _, _, _, _, _, _, _, _, _, _, _, _, _, _, _, _, _, _, _, _, _, _, _, _, _, _, rfl, HK4.out, Or.inr ?_, HR4.out, HC4.out⟩, ?_⟩
        · rw [HP.out, tm_self _ _ _ (by have := HK2.out.qm.len; omega)]
          exact HA.out.asym
        · have := HP.out
          have := HP0.out
          unfold par at *
          simp [intOf]
          omega
      · have HD : Hid (∀ c, 0 < c → c < n → par c = k → ¬ Ah (tm F' c) t) := Lib.hid (fun c h0 hc hp => Ah.ntrans (fun x => hcp ((cmpT_lt _ _).2 x)) (HL.out c h0 hc hp).1)
        generalize cmpT (tm F' b) t = c at *
        go_wp2_with (go_at_call 43; refine HF.out.mono ?_; rintro e w2 ⟨rfl, hc2⟩; have HK2 := Lib.hid (HK.out.chg hc2 (fun h => h) (fun h => h)); have HR2 := Lib.hid (HRW.out.chg hc2 (fun h => h)); have HC2 := Lib.hid (HCW.out.trans (Two.chg hc2)); obtain ⟨a0, a1, a2⟩ := HK2.out.qm.timer hb2; have c6 := HK2.out.qm.c600; have b0 := HR2.out.cell 0; have b3 := HR2.out.cell 1; have b2 := HR2.out.cell 2; simp only [tcell, List.getElem?_cons_zero, List.getElem?_cons_succ] at b0 b3 b2; clear hc2)
        refine wp_region_still_tail 14 (by kernel_rfl) (by kernel_rfl) ?_
        simp only [List.take_succ_cons, List.take_zero, List.drop_succ_cons, List.drop_zero]
        iterate 14 still_step
        refine wpStill_nil ?_
        change wpList _ _ _ _ _ (World.drew _)
        clear a0 a1 a2 b0 b3 b2 c6
        go_wp2_with (go_at_call 33; refine (HCMP.out _).mono ?_; rintro e w3 ⟨rfl, hc3⟩; have HK3 := Lib.hid (HK2.out.drew.chg hc3 (fun h => h) (fun h => h)); have HC3 := Lib.hid (HC2.out.trans (Two.chg hc3.undrew)); clear hc3)
        simp only [Exit.jump]
        go_ret
        exact ⟨k, F', M', rfl, HK3.out, HK3.out.finish HD.out HU1.out, HC3.out⟩
    · have gd : decide ((b : Int) < (n : Int)) = false := by simp; omega
      have HD : Hid (∀ c, 0 < c → c < n → par c = k → ¬ Ah (tm F' c) t) := Lib.hid (fun c h0 hc hp => absurd (HL.out c h0 hc hp).2 hb)
      go_wp2_with (go_at_call 43; refine HF.out.mono ?_; rintro e w2 ⟨rfl, hc2⟩; have HK2 := Lib.hid (HK.out.chg hc2 (fun h => h) (fun h => h)); have HC2 := Lib.hid (HCW.out.trans (Two.chg hc2)); have c6 := HK2.out.qm.c600; clear hc2)
      go_quiet (fail)
      go_wp2
      simp only [Exit.jump]
      go_ret
      exact ⟨k, F', M', rfl, HK2.out.chg ((Chg.refl none_ _).drewN _) (fun h => h) (fun h => h), HK2.out.finish HD.out HU1.out, HC2.out.drewN _⟩
  · intro HPASS
    have HPA := Lib.hid HPASS
    clear HPASS
    go_wp2
    go_step3
    rename_i hK
    exact hK _ _ (HPA.out _ _ ⟨p, F, M, _, _, _, _, _, _, _, _, _, _, _, _, _, _, _, _, _, _, _, _, _, _, _, _, _, _, _, _, _, _, _, _, rfl, HH1.out, HU.out, HR1.out, Two.chg HC1.out⟩)
end Go.Proofs.Ytblpgpolhibfgaa
