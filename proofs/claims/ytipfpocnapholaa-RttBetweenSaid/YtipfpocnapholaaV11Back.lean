/- Layer 11 (ticks): multiples and backoffs of both sides, told plainly. -/
import Derived.Test.YtipfpocnapholaaV11Mul
namespace Go.Proofs.Ytipfpocnapholaa
open Go.RowKit

theorem times_over (a b : Nat) : (if a * b / 18446744073709551616 = 0 then a * b % 18446744073709551616 else 18446744073709551615) = timesN a b := by
  unfold timesN NV
  generalize a * b = n
  split <;> omega

set_option maxHeartbeats 1000000 in
theorem ttimes_any (a b : Nat) (hA : a < 18446744073709551616) (hB : b < 18446744073709551616) (w : World) : Calls Try.prog 27 #[.int .u64 (a : Int), .int .u64 (b : Int)] w fun e w' => e = .returned (.int .u64 (timesN a b : Nat)) ∧ Chg none_ w w' := by
  have HC := Lib.hid (((Chg.refl none_ w).alloc (.cells #[.int .u64 (a : Int)] 22)).alloc (.cells #[.int .u64 (b : Int)] 22))
  have HH := Lib.hid (fun w' ha hb => held_any 18446744073709551615 _ _ _ _ w' (times1_any a b w.heap.size (w.heap.size + 1) hA hB w' ha hb))
  rw [times_over] at HH
  go_enter Try.func27, Try.ntmps27
  go_wp2_with (go_at_call 29; refine (HH.out _ (by simp [go_sem]) (by simp [go_sem])).mono ?_; rintro e w' ⟨rfl, rfl⟩)
  go_ret
  exact ⟨rfl, HC.out⟩

set_option maxHeartbeats 2000000 in
theorem tback_any (t : Nat) (c : Int) (ht : t < 18446744073709551616) (w : World) : Calls Try.prog 24 #[.int .u64 (t : Int), .int .i64 c] w fun e w' => e = .returned (.int .u64 (boffN t c : Nat)) ∧ Chg none_ w w' := by
  by_cases h1 : c < 1
  · rw [boff_self t c (by unfold NV; omega) h1]
    go_enter Try.func24, Try.ntmps24
    go_wp2
    go_ret
    exact ⟨rfl, Chg.refl _ _⟩
  by_cases h2 : 63 < c
  · have HT := Lib.hid (fun w => ttimes_any t 18446744073709551615 ht (by omega) w)
    rw [boff_great t c h2, show NV = 18446744073709551615 from rfl]
    go_enter Try.func24, Try.ntmps24
    go_wp2_with (go_at_call 27; refine (HT.out _).mono ?_; rintro e w' ⟨rfl, hc⟩)
    go_ret
    exact ⟨rfl, hc⟩
  · obtain ⟨n, rfl⟩ := Int.eq_ofNat_of_zero_le (show 0 ≤ c by omega)
    rw [boff_mid, Int.toNat_natCast]
    have hp : 2 ^ n < 18446744073709551616 := Nat.lt_of_lt_of_le (Nat.pow_lt_pow_right (show 1 < 2 by omega) (show n < 64 by omega)) (by decide)
    have HT := Lib.hid (fun w => ttimes_any t (2 ^ n) ht hp w)
    have HW : Hid (IntKind.u64.wrap ((2 : Int) ^ n) = ((2 ^ n : Nat) : Int)) := Lib.hid (by have := wrapN (2 ^ n) hp; rw [← this]; congr 1)
    go_enter Try.func24, Try.ntmps24
    go_wp2_with (go_at_call 27; (try rw [HW.out]); refine (HT.out _).mono ?_; rintro e w' ⟨rfl, hc⟩)
    go_ret
    exact ⟨rfl, hc⟩

theorem radd_any (a b : Nat) (ha : a < 18446744073709551616) (_hb : b < 18446744073709551616) (w : World) : Calls Try.prog 28 #[.int .u64 (a : Int), .int .u64 (b : Int)] w fun e w' => e = .returned (.int .u64 (addN a b : Nat)) ∧ w' = w := by
  by_cases h : 18446744073709551615 - a < b
  · have e1 : addN a b = 18446744073709551615 := by unfold addN NV; omega
    have h2 : (18446744073709551615 : Int) - (a : Int) < (b : Int) := by omega
    rw [e1]
    clear h
    go_enter Try.func28, Try.ntmps28
    go_wp2
    go_ret
    exact ⟨rfl, rfl⟩
  · have e1 : addN a b = a + b := by unfold addN NV; omega
    have h2 : ¬ (18446744073709551615 : Int) - (a : Int) < (b : Int) := by omega
    rw [e1]
    clear h
    go_enter Try.func28, Try.ntmps28
    go_wp2
    go_ret
    exact ⟨rfl, rfl⟩

set_option maxHeartbeats 2000000 in
theorem rback_any (t : Nat) (c : Int) (ht : t < 18446744073709551616) (hc : c < 9223372036854775808) (w : World) : Calls Try.prog 26 #[.int .u64 (t : Int), .int .i64 c] w fun e w' => e = .returned (.int .u64 (boffN t c : Nat)) ∧ w' = w := by
  obtain ⟨r, hr⟩ : ∃ r, r = boffN t c := ⟨_, rfl⟩
  rw [← hr]
  have HR := Lib.hid hr
  have HA := Lib.hid (fun (x : Nat) (hx : x < 18446744073709551616) w => radd_any x x hx hx w)
  clear hr
  go_enter Try.func26, Try.ntmps26
  go_wp2
  go_loopw [0, 5] (fun x i wr => ∃ k : Nat, k ≤ 70 ∧ ((k : Int) ≤ c ∨ k = 0) ∧ i = .int .i64 (k : Int) ∧ x = .int .u64 (boffN t (k : Int) : Nat) ∧ wr = w) (fun _ i _ => 70 - (intOf i).toNat)
  case atStart => exact ⟨0, by omega, by omega, rfl, by rw [boff_self t _ (by unfold NV; omega) (by omega)], rfl⟩
  case round =>
    obtain ⟨k, hk, hkc, rfl, rfl, rfl⟩ := hrel
    by_cases hlt : k < 70 ∧ (k : Int) < c
    · obtain ⟨h1, h2⟩ := hlt
      have hb : boffN t (k : Int) < 18446744073709551616 := by have := boff_le t (k : Int); unfold NV at this; omega
      have HS := Lib.hid (boff_succ t k)
      have h3 : (k : Int) < 70 := by omega
      generalize boffN t (k : Int) = x at *
      go_wp2_with (go_at_call 28; refine (HA.out x hb _).mono ?_; rintro e w' ⟨rfl, rfl⟩)
      go_roundw
      case rel => exact ⟨k + 1, by omega, by omega, by go_num, by rw [HS.out], trivial⟩
      case measure => simp [intOf]; omega
    · have hE : boffN t (k : Int) = r := by
        rw [HR.out]
        by_cases h7 : k = 70
        · subst h7
          rw [boff_70 t c (by omega)]
        · by_cases h0 : k = 0
          · subst h0
            rw [boff_self t c (by unfold NV; omega) (by omega), boff_self t _ (by unfold NV; omega) (by omega)]
          · rw [show c = (k : Int) by omega]
      rw [hE]
      by_cases h2 : (k : Int) < c
      · have h3 : ¬ (k : Int) < 70 := by omega
        clear hlt
        go_wp2
        go_ret
        exact ⟨rfl, rfl⟩
      · clear hlt
        go_wp2
        go_ret
        exact ⟨rfl, rfl⟩

end Go.Proofs.Ytipfpocnapholaa
