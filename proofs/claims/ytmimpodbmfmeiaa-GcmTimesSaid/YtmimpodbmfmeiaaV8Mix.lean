/- Layer 8 (aes): a block's columns, multiplied, the program's. -/
import Derived.Test.YtmimpodbmfmeiaaV8Block
import Derived.StillTailTactics
namespace Go.Proofs.Ytmimpodbmfmeiaa
open Go.RowKit

def mixF (s : List Nat) (i : Nat) : Nat := mixC (s.getD (i / 4 * 4 + i % 4) 0) (s.getD (i / 4 * 4 + (i + 1) % 4) 0) (s.getD (i / 4 * 4 + (i + 2) % 4) 0) (s.getD (i / 4 * 4 + (i + 3) % 4) 0)
theorem mixV (p q r s : Nat) (hp : p < 256) (hq : q < 256) (hr : r < 256) (hs : s < 256) : bits .xor .u8 (bits .xor .u8 (bits .xor .u8 ((dbl (p ^^^ q) : Nat) : Int) (q : Int)) (r : Int)) (s : Int) = ((mixC p q r s : Nat) : Int) := by
  have h0 := dbl_lt (xor8_lt hp hq)
  rw [u8_xor_nat _ _ h0 hq, u8_xor_nat _ _ (xor8_lt h0 hq) hr, u8_xor_nat _ _ (xor8_lt (xor8_lt h0 hq) hr) hs]
  rfl
theorem mix_four (s : List Nat) (m : Nat) (hm : m % 4 = 0) :
    ((((partF (mixF s) s 16 m).set m (mixC (s.getD m 0) (s.getD (m + 1) 0) (s.getD (m + 2) 0) (s.getD (m + 3) 0))).set (m + 1) (mixC (s.getD (m + 1) 0) (s.getD (m + 2) 0) (s.getD (m + 3) 0) (s.getD m 0))).set (m + 2) (mixC (s.getD (m + 2) 0) (s.getD (m + 3) 0) (s.getD m 0) (s.getD (m + 1) 0))).set (m + 3) (mixC (s.getD (m + 3) 0) (s.getD m 0) (s.getD (m + 1) 0) (s.getD (m + 2) 0)) = partF (mixF s) s 16 (m + 4) := by
  have e (i a b c d : Nat) (ha : i / 4 * 4 + i % 4 = a) (hb : i / 4 * 4 + (i + 1) % 4 = b) (hc : i / 4 * 4 + (i + 2) % 4 = c) (hd : i / 4 * 4 + (i + 3) % 4 = d) : mixC (s.getD a 0) (s.getD b 0) (s.getD c 0) (s.getD d 0) = mixF s i := by subst ha; subst hb; subst hc; subst hd; rfl
  rw [e m m (m + 1) (m + 2) (m + 3) (by omega) (by omega) (by omega) (by omega), e (m + 1) (m + 1) (m + 2) (m + 3) m (by omega) (by omega) (by omega) (by omega), e (m + 2) (m + 2) (m + 3) m (m + 1) (by omega) (by omega) (by omega) (by omega), e (m + 3) (m + 3) m (m + 1) (m + 2) (by omega) (by omega) (by omega) (by omega)]
  rw [partF_set, partF_set, partF_set, partF_set]

set_option maxRecDepth 100000 in
set_option maxHeartbeats 1000000 in
theorem mul_any (g : Nat) (s : List Nat) (w : World) (hs : s.length = 16) (hsb : ∀ x ∈ s, x < 256) (hr : Row w g 68 (u8s s)) : Calls Try.prog 50 #[.pointer (some ⟨g, 0, none⟩)] w fun e w' => e = .returned (.tuple #[]) ∧ Row w' g 68 (u8s (mixB s)) ∧ Chg (· = g) w w' := by
  have HS := Lib.hid hs
  have HSB := Lib.hid (fun i => getD_lt hsb i (by decide))
  have HR := Lib.hid hr
  clear hs hsb hr
  go_enter Try.func50, Try.ntmps50
  go_wp2
  go_loopw [2, 3, 4, 5, 6, 7, 8] (fun i _ _ _ _ _ _ wr => ∃ m : Nat, m ≤ 16 ∧ m % 4 = 0 ∧ i = .int .i64 m ∧ Row wr g 68 (u8s (partF (mixF s) s 16 m)) ∧ Chg (· = g) w wr) (fun i _ _ _ _ _ _ _ => 16 - (intOf i).toNat)
  case atStart => exact ⟨0, Nat.zero_le _, rfl, rfl, by rw [partF_0 _ _ _ HS.out]; exact HR.out, Chg.refl _ _⟩
  case round =>
    obtain ⟨m, hm, hm4, rfl, hrow, hch⟩ := hrel
    have HC := Lib.hid hch
    by_cases hlt : m < 16
    · have c0 := Row.u8 hrow (i := m) (by rw [partF_len]; omega)
      have c1 := Row.u8 hrow (i := m + 1) (by rw [partF_len]; omega)
      have c2 := Row.u8 hrow (i := m + 2) (by rw [partF_len]; omega)
      have c3 := Row.u8 hrow (i := m + 3) (by rw [partF_len]; omega)
      rw [partF_get _ _ _ _ _ (by omega) (by omega)] at c0 c1 c2 c3
      have f0 := hrow.frozen m
      have f1 := hrow.frozen (m + 1)
      have f2 := hrow.frozen (m + 2)
      have f3 := hrow.frozen (m + 3)
      have HM := Lib.hid (mix_four s m hm4)
      have hp : s.getD m 0 < 256 := HSB.out m
      have hq : s.getD (m + 1) 0 < 256 := HSB.out (m + 1)
      have hr : s.getD (m + 2) 0 < 256 := HSB.out (m + 2)
      have ht : s.getD (m + 3) 0 < 256 := HSB.out (m + 3)
      have HROW := Lib.hid hrow
      clear hrow hch
      generalize s.getD m 0 = p at c0 HM hp
      generalize s.getD (m + 1) 0 = q at c1 HM hq
      generalize s.getD (m + 2) 0 = r at c2 HM hr
      generalize s.getD (m + 3) 0 = t at c3 HM ht
      have x1 := u8_xor_nat p q hp hq
      have x2 := u8_xor_nat q r hq hr
      have x3 := u8_xor_nat r t hr ht
      have x4 := u8_xor_nat t p ht hp
      have HX1 := Lib.hid (xor8_lt hp hq)
      have HX2 := Lib.hid (xor8_lt hq hr)
      have HX3 := Lib.hid (xor8_lt hr ht)
      have HX4 := Lib.hid (xor8_lt ht hp)
      have y1 := mixV p q r t hp hq hr ht
      have y2 := mixV q r t p hq hr ht hp
      have y3 := mixV r t p q hr ht hp hq
      have y4 := mixV t p q r ht hp hq hr
      go_wp2_with (first | ((with_reducible show wpList _ _ _ (⟨some 15, _, _, _, _, _⟩ :: _) _ _); refine wpList_slice_arr_low rfl 68 5 _ _ rfl 16 1 m g 0 rfl rfl Try.underlying68 size5 hlt ?_) | ((with_reducible show wpList _ _ _ (⟨some 16, _, _, _, _, _⟩ :: _) _ _); refine wpList_arrayAt rfl 73 5 4 _ rfl (some ⟨g, 0 + m * 1, none⟩) (16 - m) (16 - m) rfl Try.underlying73 (by omega) ?_))
      go_region
      go_wp2
      refine wp_region_still_tail 13 (by kernel_rfl) (by kernel_rfl) ?_
      simp only [List.take_succ_cons, List.take_zero, List.drop_succ_cons, List.drop_zero]
      iterate 4 still_step
      still_call ((double_any (p ^^^ q) HX1.out _).mono fun _ _ h => ⟨h.1, h.2.symm⟩)
      iterate 8 still_step
      refine wpStill_nil ?_
      change wpList _ _ _ _ _ (World.drew _)
      go_wp2
      refine wp_region_still_tail 13 (by kernel_rfl) (by kernel_rfl) ?_
      simp only [List.take_succ_cons, List.take_zero, List.drop_succ_cons, List.drop_zero]
      iterate 4 still_step
      still_call ((double_any (q ^^^ r) HX2.out _).mono fun _ _ h => ⟨h.1, h.2.symm⟩)
      iterate 8 still_step
      refine wpStill_nil ?_
      change wpList _ _ _ _ _ (World.drew _)
      go_wp2
      refine wp_region_still_tail 13 (by kernel_rfl) (by kernel_rfl) ?_
      simp only [List.take_succ_cons, List.take_zero, List.drop_succ_cons, List.drop_zero]
      iterate 4 still_step
      still_call ((double_any (r ^^^ t) HX3.out _).mono fun _ _ h => ⟨h.1, h.2.symm⟩)
      iterate 8 still_step
      refine wpStill_nil ?_
      change wpList _ _ _ _ _ (World.drew _)
      go_wp2
      refine wp_region_still_tail 13 (by kernel_rfl) (by kernel_rfl) ?_
      simp only [List.take_succ_cons, List.take_zero, List.drop_succ_cons, List.drop_zero]
      iterate 4 still_step
      still_call ((double_any (t ^^^ p) HX4.out _).mono fun _ _ h => ⟨h.1, h.2.symm⟩)
      iterate 8 still_step
      refine wpStill_nil ?_
      change wpList _ _ _ _ _ (World.drew _)
      go_wp2
      go_roundw
      case rel =>
        refine ⟨m + 4, by omega, by omega, by go_num, ?_, (((((HC.out.setCell (fun _ => rfl) _).setCell (fun _ => rfl) _).setCell (fun _ => rfl) _).setCell (fun _ => rfl) _).drew.drew.drew.drew.drew)⟩
        rw [← HM.out, ← u8s_set, ← u8s_set, ← u8s_set, ← u8s_set]
        exact (((HROW.out.set m _).set (m + 1) _).set (m + 2) _).set (m + 3) _
      case measure => simp [intOf]; omega
    · have hk6 : m = 16 := by omega
      subst hk6
      rw [partF_all] at hrow
      have HROW := Lib.hid hrow
      clear hrow hch
      go_wp2
      refine bodyPost_end (results_none rfl _ _ _) rfl ?_
      exact ⟨rfl, HROW.out, HC.out⟩
end Go.Proofs.Ytmimpodbmfmeiaa
