/- Layer 12 (timers): a free place goes up. -/
import Derived.Test.YtblpgpolhibfgaaV12Put
namespace Go.Proofs.Ytblpgpolhibfgaa
open Go.RowKit

/-- A queue with a free place, for a timer. -/
structure HS (w : World) (q g n : Nat) (t : Tm) (F : List Tm) (p : Nat) (M : Int × Int → Option Nat) (B : List Tm) : Prop where
  qm : QM w q F n (some g)
  mi : MapIn w g M
  ne : g ≠ q
  le : n ≤ 200
  lt : p < n
  hole : Hole F n p
  pl : PlH F n p t.key M
  perm : ((F.set p t).take n).Perm B
theorem HS.chg {w w' : World} {q g n p : Nat} {t : Tm} {F B : List Tm} {M : Int × Int → Option Nat} {S : Nat → Prop} (h : HS w q g n t F p M B) (hc : Chg S w w') (h1 : ¬ S q) (h2 : ¬ S g) : HS w' q g n t F p M B :=
  ⟨h.qm.chg hc h1, h.mi.chg hc h2, h.ne, h.le, h.lt, h.hole, h.pl, h.perm⟩
theorem HS.drew {w : World} {q g n p : Nat} {t : Tm} {F B : List Tm} {M : Int × Int → Option Nat} (h : HS w q g n t F p M B) : HS w.drew q g n t F p M B :=
  ⟨h.qm.drew, h.mi.drew, h.ne, h.le, h.lt, h.hole, h.pl, h.perm⟩

theorem HS.up {w w' : World} {q g n p : Nat} {t : Tm} {F B : List Tm} {M : Int × Int → Option Nat} (h : HS w q g n t F p M B) (h0 : 0 < p)
    (hq : QM w' q (F.set p (tm F (par p))) n (some g)) (hm : MapIn w' g (upd M (tm F (par p)).key (some p))) : HS w' q g n t (F.set p (tm F (par p))) (par p) (upd M (tm F (par p)).key (some p)) B := by
  have ha : par p < p := by unfold par; omega
  have hlt := h.lt
  have hlen := h.qm.len
  have hle := h.le
  exact ⟨hq, hm, h.ne, h.le, by omega, h.hole.up h0 h.lt (by omega), h.pl.move h.lt (by omega) (by omega) (by omega), (perm_swap t h.lt (by omega) (by omega) (by omega)).trans h.perm⟩
theorem HS.down {w w' : World} {q g n p b : Nat} {t : Tm} {F B : List Tm} {M : Int × Int → Option Nat} (h : HS w q g n t F p M B) (hb0 : 0 < b) (hb : b < n) (hbp : par b = p) (hs : ∀ s, 0 < s → s < n → par s = p → ¬ Ah (tm F s) (tm F b))
    (hq : QM w' q (F.set p (tm F b)) n (some g)) (hm : MapIn w' g (upd M (tm F b).key (some p))) : HS w' q g n t (F.set p (tm F b)) b (upd M (tm F b).key (some p)) B := by
  have hlt := h.lt
  have hlen := h.qm.len
  have hle := h.le
  have hpb : p < b := by unfold par at hbp; omega
  exact ⟨hq, hm, h.ne, h.le, hb, h.hole.down hb0 hb hbp (by omega) hs, h.pl.move h.lt hb (by omega) (by omega), (perm_swap t h.lt hb (by omega) (by omega)).trans h.perm⟩

theorem Two.chg {w w' : World} {q g : Nat} (h : Chg none_ w w') : Chg (Two q g) w w' := h.mono (fun _ _ h => h.elim)

set_option maxRecDepth 100000 in
set_option maxHeartbeats 2000000 in
theorem up_any (q g n : Nat) (t : Tm) (p : Nat) (F B : List Tm) (M : Int × Int → Option Nat) (w : World) (h : HS w q g n t F p M B) :
    Calls Try.prog 37 #[.pointer (some ⟨q, 0, none⟩), .int .i64 (p : Int), .agg (tcell t).toArray] w fun e w' => ∃ p' F' M', e = .returned (.int .i64 ((p' : Nat) : Int)) ∧ HS w' q g n t F' p' M' B ∧ (p' = 0 ∨ ¬ Ah t (tm F' (par p'))) ∧ Chg (Two q g) w w' := by
  have HH := Lib.hid h
  clear h
  go_enter Try.func37, Try.ntmps37
  go_wp2_with ((with_reducible show wpList _ _ _ (⟨some 5, .box _ _, _, _, _, _⟩ :: _) _ _); refine wpList_box_Row rfl rfl (tcell t) rfl ?_; intro w1 hr1 hc1 hs1; have HR1 := Lib.hid hr1; have HC1 := Lib.hid hc1; have HH1 := Lib.hid (HH.out.chg hc1 (fun h => h) (fun h => h)); clear hr1 hc1 hs1)
  go_loopw [1] (fun i wr => ∃ (k : Nat) (F' : List Tm) (M' : Int × Int → Option Nat), i = .int .i64 (k : Int) ∧ HS wr q g n t F' k M' B ∧ Row wr w.heap.size 27 (tcell t) ∧ Chg (Two q g) w wr) (fun i _ => (intOf i).toNat)
  case atStart => exact ⟨p, F, M, rfl, HH1.out, HR1.out, Two.chg HC1.out⟩
  case round =>
    obtain ⟨k, F', M', rfl, hh, hr, hc⟩ := hrel
    have HK := Lib.hid hh
    have HRW := Lib.hid hr
    have HCW := Lib.hid hc
    by_cases hk : k = 0
    · subst hk
      clear hh hr hc HH HH1
      go_wp2
      go_ret
      exact ⟨0, F', M', rfl, HK.out, Or.inl rfl, HCW.out⟩
    · have k0 : 0 < (k : Int) := by omega
      have k1 : ((k : Int) - 1) / 2 = ((par k : Nat) : Int) := by unfold par; omega
      have hpk : par k < k := by unfold par; omega
      have hpl : par k < 200 := by have := hh.lt; have := hh.le; omega
      have i1 : ((par k : Nat) : Int) < 200 := by omega
      obtain ⟨b0, b1, b2⟩ := hh.qm.timer hpl
      have a0 := hr.cell 0
      have a1 := hr.cell 1
      have a2 := hr.cell 2
      simp only [tcell, List.getElem?_cons_zero, List.getElem?_cons_succ] at a0 a1 a2
      have HCMP : Hid (∀ w, Calls Try.prog 33 #[.agg (tcell t).toArray, .agg (tcell (tm F' (par k))).toArray] w fun e w' => e = .returned (.int .i64 (cmpT t (tm F' (par k)))) ∧ Chg none_ w w') := Lib.hid (fun w => compare_any t (tm F' (par k)) w)
      have HB := Lib.hid (show ¬ Two q g w.heap.size from fun e => by
        have h1 := HH.out.qm.lt
        have h2 := HH.out.mi.lt
        rcases e with e | e <;> omega)
      have HPUT := Lib.hid (fun (w' : World) (hx : HS w' q g n t F' k M' B) => put_any q g k n F' M' (tm F' (par k)) w' hx.qm hx.mi hx.ne (by have := hx.le; have := hx.lt; omega) (tm_ok hx.qm.ok _))
      clear hh hr hc HH HH1
      by_cases hcp : 0 < cmpT t (tm F' (par k))
      · have HUP : Hid (¬ Ah t (tm F' (par k))) := Lib.hid (((cmpT_gt _ _).1 hcp).asym)
        generalize cmpT t (tm F' (par k)) = c at *
        go_wp2
        refine wp_region_still_tail 7 (by kernel_rfl) (by kernel_rfl) ?_
        simp only [List.take_succ_cons, List.take_zero, List.drop_succ_cons, List.drop_zero]
        iterate 7 still_step
        refine wpStill_nil ?_
        change wpList _ _ _ _ _ (World.drew _)
        clear a0 a1 a2 b0 b1 b2
        go_wp2_with (go_at_call 33; refine (HCMP.out _).mono ?_; rintro e w2 ⟨rfl, hc2⟩; have HK2 := Lib.hid (HK.out.drew.chg hc2 (fun h => h) (fun h => h)); have HC2 := Lib.hid (HCW.out.trans (Two.chg hc2.undrew)); clear hc2)
        go_ret
        exact ⟨k, F', M', rfl, HK2.out, Or.inr HUP.out, HC2.out⟩
      · generalize cmpT t (tm F' (par k)) = c at *
        go_wp2
        refine wp_region_still_tail 7 (by kernel_rfl) (by kernel_rfl) ?_
        simp only [List.take_succ_cons, List.take_zero, List.drop_succ_cons, List.drop_zero]
        iterate 7 still_step
        refine wpStill_nil ?_
        change wpList _ _ _ _ _ (World.drew _)
        clear a0 a1 a2 b0 b1 b2
        go_wp2_with (first | (go_at_call 33; refine (HCMP.out _).mono ?_; rintro e w2 ⟨rfl, hc2⟩; have HK2 := Lib.hid (HK.out.drew.chg hc2 (fun h => h) (fun h => h)); have HC2 := Lib.hid (HCW.out.trans (Two.chg hc2.undrew)); have HR2 := Lib.hid (HRW.out.drew.chg hc2 (fun h => h)); obtain ⟨b0, b1, b2⟩ := HK2.out.qm.timer hpl; clear hc2) | (go_at_call 35; refine (HPUT.out _ HK2.out).mono ?_; rintro e w3 ⟨rfl, hq3, hm3, hc3⟩; have HK3 := Lib.hid (HK2.out.up (by omega) hq3 hm3); have HC3 := Lib.hid (HC2.out.trans hc3); have HR3 := Lib.hid (HR2.out.chg hc3 HB.out); clear hq3 hm3 hc3))
        go_roundw
        case rel => exact ⟨par k, _, _, rfl, HK3.out, HR3.out, HC3.out⟩
        case measure => simp [intOf]; omega
end Go.Proofs.Ytblpgpolhibfgaa
