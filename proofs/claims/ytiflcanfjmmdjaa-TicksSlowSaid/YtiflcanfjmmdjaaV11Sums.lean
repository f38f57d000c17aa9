/- Layer 11 (ticks): sums, multiples, differences, backoffs and powers of both sides, told plainly. -/
import Derived.Test.YtiflcanfjmmdjaaV11Small
namespace Go.Proofs.Ytiflcanfjmmdjaa
open Go.RowKit

theorem add_over (a b : Nat) : (if (a + b) / 18446744073709551616 = 0 then (a + b) % 18446744073709551616 else 18446744073709551615) = addN a b := by
  unfold addN NV
  split <;> omega
theorem times_over (a b : Nat) : (if a * b / 18446744073709551616 = 0 then a * b % 18446744073709551616 else 18446744073709551615) = timesN a b := by
  unfold timesN NV
  generalize a * b = n
  split <;> omega
theorem sub_over (a b : Nat) (ha : a < 18446744073709551616) (hb : b < 18446744073709551616) : (if borN a b = 0 then (a + 18446744073709551616 - b) % 18446744073709551616 else 0) = a - b := by
  unfold borN
  by_cases h : a < b
  · rw [if_pos h, if_neg (by omega)]; omega
  · rw [if_neg h, if_pos rfl]; omega

set_option maxHeartbeats 1000000 in
theorem tadd_any (a b : Nat) (w : World) : Calls Try.prog 11 #[.int .u64 (a : Int), .int .u64 (b : Int)] w fun e w' => e = .returned (.int .u64 (addN a b : Nat)) ∧ Chg none_ w w' := by
  have HC := Lib.hid (((Chg.refl none_ w).alloc (.cells #[.int .u64 (a : Int)] 22)).alloc (.cells #[.int .u64 (b : Int)] 22))
  have HH := Lib.hid (fun w' ha hb => held_any 18446744073709551615 _ _ _ _ w' (add1_any a b w.heap.size (w.heap.size + 1) w' ha hb))
  rw [add_over] at HH
  go_enter Try.func11, Try.ntmps11
  go_wp2_with (go_at_call 25; refine (HH.out _ (by simp [go_sem]) (by simp [go_sem])).mono ?_; rintro e w' ⟨rfl, rfl⟩)
  go_ret
  exact ⟨rfl, HC.out⟩

set_option maxHeartbeats 1000000 in
theorem ttimes_any (a b : Nat) (hA : a < 18446744073709551616) (hB : b < 18446744073709551616) (w : World) : Calls Try.prog 13 #[.int .u64 (a : Int), .int .u64 (b : Int)] w fun e w' => e = .returned (.int .u64 (timesN a b : Nat)) ∧ Chg none_ w w' := by
  have HC := Lib.hid (((Chg.refl none_ w).alloc (.cells #[.int .u64 (a : Int)] 22)).alloc (.cells #[.int .u64 (b : Int)] 22))
  have HH := Lib.hid (fun w' ha hb => held_any 18446744073709551615 _ _ _ _ w' (times1_any a b w.heap.size (w.heap.size + 1) hA hB w' ha hb))
  rw [times_over] at HH
  go_enter Try.func13, Try.ntmps13
  go_wp2_with (go_at_call 25; refine (HH.out _ (by simp [go_sem]) (by simp [go_sem])).mono ?_; rintro e w' ⟨rfl, rfl⟩)
  go_ret
  exact ⟨rfl, HC.out⟩

set_option maxHeartbeats 1000000 in
theorem tsub_any (a b : Nat) (hA : a < 18446744073709551616) (hB : b < 18446744073709551616) (w : World) : Calls Try.prog 15 #[.int .u64 (a : Int), .int .u64 (b : Int)] w fun e w' => e = .returned (.int .u64 (a - b : Nat)) ∧ Chg none_ w w' := by
  have HC := Lib.hid (((Chg.refl none_ w).alloc (.cells #[.int .u64 (a : Int)] 22)).alloc (.cells #[.int .u64 (b : Int)] 22))
  have HH := Lib.hid (fun w' ha hb => held_any 0 _ _ _ _ w' (sub1_any a b w.heap.size (w.heap.size + 1) w' ha hb))
  rw [sub_over a b hA hB] at HH
  go_enter Try.func15, Try.ntmps15
  go_wp2_with (go_at_call 25; refine (HH.out _ (by simp [go_sem]) (by simp [go_sem])).mono ?_; rintro e w' ⟨rfl, rfl⟩)
  go_ret
  exact ⟨rfl, HC.out⟩

set_option maxHeartbeats 1000000 in
theorem tpower_any (n : Nat) (hn : n < 18446744073709551616) (w : World) : Calls Try.prog 18 #[.int .u64 (n : Int)] w fun e w' => e = .returned (.bool (isPow n)) ∧ w' = w := by
  have HO := Lib.hid (fun w => ones64_any n hn w)
  have hq : isPow n = ((onesN n : Int) == 1) := by
    unfold isPow
    by_cases h : onesN n = 1
    · rw [h]; rfl
    · have e1 : (onesN n == 1) = false := by rw [beq_eq_false_iff_ne]; omega
      have e2 : ((onesN n : Int) == 1) = false := by rw [beq_eq_false_iff_ne]; omega
      rw [e1, e2]
  rw [hq]
  go_enter Try.func18, Try.ntmps18
  go_wp2_with (go_at_call 32; refine (HO.out _).mono ?_; rintro e w' ⟨rfl, rfl⟩)
  go_ret
  exact ⟨rfl, rfl⟩

set_option maxHeartbeats 2000000 in
theorem tback_any (t : Nat) (c : Int) (ht : t < 18446744073709551616) (w : World) : Calls Try.prog 16 #[.int .u64 (t : Int), .int .i64 c] w fun e w' => e = .returned (.int .u64 (boffN t c : Nat)) ∧ Chg none_ w w' := by
  by_cases h1 : c < 1
  · rw [boff_self t c (by unfold NV; omega) h1]
    go_enter Try.func16, Try.ntmps16
    go_wp2
    go_ret
    exact ⟨rfl, Chg.refl _ _⟩
  by_cases h2 : 63 < c
  · have HT := Lib.hid (fun w => ttimes_any t 18446744073709551615 ht (by omega) w)
    rw [boff_great t c h2, show NV = 18446744073709551615 from rfl]
    go_enter Try.func16, Try.ntmps16
    go_wp2_with (go_at_call 13; refine (HT.out _).mono ?_; rintro e w' ⟨rfl, hc⟩)
    go_ret
    exact ⟨rfl, hc⟩
  · obtain ⟨n, rfl⟩ := Int.eq_ofNat_of_zero_le (show 0 ≤ c by omega)
    rw [boff_mid, Int.toNat_natCast]
    have hp : 2 ^ n < 18446744073709551616 := Nat.lt_of_lt_of_le (Nat.pow_lt_pow_right (show 1 < 2 by omega) (show n < 64 by omega)) (by decide)
    have HT := Lib.hid (fun w => ttimes_any t (2 ^ n) ht hp w)
    have HW : Hid (IntKind.u64.wrap ((2 : Int) ^ n) = ((2 ^ n : Nat) : Int)) := Lib.hid (by have := wrapN (2 ^ n) hp; rw [← this]; congr 1)
    go_enter Try.func16, Try.ntmps16
    go_wp2_with (go_at_call 13; (try rw [HW.out]); refine (HT.out _).mono ?_; rintro e w' ⟨rfl, hc⟩)
    go_ret
    exact ⟨rfl, hc⟩

/-! ### the document's -/

theorem radd_any (a b : Nat) (ha : a < 18446744073709551616) (_hb : b < 18446744073709551616) (w : World) : Calls Try.prog 12 #[.int .u64 (a : Int), .int .u64 (b : Int)] w fun e w' => e = .returned (.int .u64 (addN a b : Nat)) ∧ w' = w := by
  by_cases h : 18446744073709551615 - a < b
  · have e1 : addN a b = 18446744073709551615 := by unfold addN NV; omega
    have h2 : (18446744073709551615 : Int) - (a : Int) < (b : Int) := by omega
    rw [e1]
    clear h
    go_enter Try.func12, Try.ntmps12
    go_wp2
    go_ret
    exact ⟨rfl, rfl⟩
  · have e1 : addN a b = a + b := by unfold addN NV; omega
    have h2 : ¬ (18446744073709551615 : Int) - (a : Int) < (b : Int) := by omega
    rw [e1]
    clear h
    go_enter Try.func12, Try.ntmps12
    go_wp2
    go_ret
    exact ⟨rfl, rfl⟩

theorem rtimes_any (a b : Nat) (ha : a < 18446744073709551616) (_hb : b < 18446744073709551616) (w : World) : Calls Try.prog 14 #[.int .u64 (a : Int), .int .u64 (b : Int)] w fun e w' => e = .returned (.int .u64 (timesN a b : Nat)) ∧ w' = w := by
  by_cases h0 : a = 0
  · subst h0
    have e1 : timesN 0 b = 0 := by unfold timesN; rw [Nat.zero_mul]; rfl
    rw [e1]
    go_enter Try.func14, Try.ntmps14
    go_wp2
    go_ret
    exact ⟨by simp, rfl⟩
  have hq : (18446744073709551615 : Int) / (a : Int) = ((18446744073709551615 / a : Nat) : Int) := by simp
  by_cases h : 18446744073709551615 / a < b
  · have e1 : timesN a b = 18446744073709551615 := by
      unfold timesN NV
      have := (Nat.div_lt_iff_lt_mul (show 0 < a by omega)).1 h
      rw [Nat.mul_comm b a] at this
      exact Nat.min_eq_right (by omega)
    rw [e1]
    generalize 18446744073709551615 / a = q at *
    have h2 : (q : Int) < (b : Int) := by omega
    have h3 : 0 < (a : Int) := by omega
    have h4 : ((a : Int) == 0) = false := by rw [beq_eq_false_iff_ne]; omega
    clear h
    go_enter Try.func14, Try.ntmps14
    go_wp2
    go_ret
    exact ⟨rfl, rfl⟩
  · have hle : a * b ≤ 18446744073709551615 := by
      have := (Nat.le_div_iff_mul_le (show 0 < a by omega)).1 (show b ≤ 18446744073709551615 / a by omega)
      rw [Nat.mul_comm]; exact this
    have e1 : timesN a b = a * b := Nat.min_eq_left hle
    have e2 : (a : Int) * (b : Int) = ((a * b : Nat) : Int) := by simp
    have e3 : IntKind.u64.wrap ((a * b : Nat) : Int) = ((a * b : Nat) : Int) := wrapN _ (by omega)
    rw [e1]
    generalize 18446744073709551615 / a = q at *
    generalize a * b = n at *
    have h2 : ¬ (q : Int) < (b : Int) := by omega
    have h3 : 0 < (a : Int) := by omega
    have h4 : ((a : Int) == 0) = false := by rw [beq_eq_false_iff_ne]; omega
    clear h
    go_enter Try.func14, Try.ntmps14
    go_wp2
    go_ret
    exact ⟨rfl, rfl⟩

set_option maxHeartbeats 2000000 in
theorem rpower_any (n : Nat) (hn : n < 18446744073709551616) (w : World) : Calls Try.prog 19 #[.int .u64 (n : Int)] w fun e w' => e = .returned (.bool (isPow n)) ∧ w' = w := by
  obtain ⟨q, hq⟩ : ∃ q, q = isPow n := ⟨_, rfl⟩
  rw [← hq]
  have HQ := Lib.hid hq
  clear hq
  go_enter Try.func19, Try.ntmps19
  go_wp2
  go_loopw [0] (fun x wr => ∃ k : Nat, k < 18446744073709551616 ∧ x = .int .u64 (k : Int) ∧ Hid (q = isPow k) ∧ wr = w) (fun x _ => (intOf x).toNat)
  case atStart => exact ⟨n, hn, rfl, HQ, rfl⟩
  case round =>
    obtain ⟨k, hk, rfl, HK, rfl⟩ := hrel
    by_cases hc : 1 < k ∧ k % 2 = 0
    · obtain ⟨c1, c2⟩ := hc
      have h1 : 1 < (k : Int) := by omega
      have h2 : (k : Int) % 2 = 0 := by omega
      have HE : Hid (q = isPow (k / 2)) := Lib.hid (by rw [HK.out, isPow_half k c1 c2])
      clear c2
      go_wp2
      go_roundw
      case rel => exact ⟨k / 2, by omega, by simp, HE, trivial⟩
      case measure => simp [intOf]; omega
    · have HE : Hid (q = (k == 1)) := Lib.hid (by rw [HK.out, isPow_end k hc])
      have HE2 : q = ((k : Int) == 1) := by
        rw [HE.out]
        by_cases h : k = 1
        · subst h; rfl
        · have e1 : (k == 1) = false := by rw [beq_eq_false_iff_ne]; omega
          have e2 : ((k : Int) == 1) = false := by rw [beq_eq_false_iff_ne]; omega
          rw [e1, e2]
      by_cases h1 : 1 < k
      · have h2 : ((k : Int) % 2 == 0) = false := by rw [beq_eq_false_iff_ne]; omega
        have h3 : 1 < (k : Int) := by omega
        have hx : ((k : Int) == 1) = false := by rw [beq_eq_false_iff_ne]; omega
        rw [hx] at HE2
        subst HE2
        clear hc
        go_wp2
        go_ret
        exact ⟨rfl, rfl⟩
      · have h3 : ¬ 1 < (k : Int) := by omega
        rw [HE2]
        clear hc
        go_wp2
        go_ret
        exact ⟨rfl, rfl⟩

set_option maxHeartbeats 2000000 in
theorem rback_any (t : Nat) (c : Int) (ht : t < 18446744073709551616) (hc : c < 9223372036854775808) (w : World) : Calls Try.prog 17 #[.int .u64 (t : Int), .int .i64 c] w fun e w' => e = .returned (.int .u64 (boffN t c : Nat)) ∧ w' = w := by
  obtain ⟨r, hr⟩ : ∃ r, r = boffN t c := ⟨_, rfl⟩
  rw [← hr]
  have HR := Lib.hid hr
  have HA := Lib.hid (fun (x : Nat) (hx : x < 18446744073709551616) w => radd_any x x hx hx w)
  clear hr
  go_enter Try.func17, Try.ntmps17
  go_wp2
  go_loopw [0, 5] (fun x i wr => ∃ k : Nat, k ≤ 70 ∧ ((k : Int) ≤ c ∨ k = 0) ∧ i = .int .i64 (k : Int) ∧ x = .int .u64 (boffN t (k : Int) : Nat) ∧ wr = w) (fun _ i _ => 70 - (intOf i).toNat)
  case atStart => exact ⟨0, by omega, by omega, rfl, by rw [boff_self t _ (by unfold NV; omega) (by omega)], rfl⟩
  case round =>
    obtain ⟨k, hk, hkc, rfl, rfl, rfl⟩ := hrel
    by_cases hlt : k < 70 ∧ (k : Int) < c
    · obtain ⟨h1, h2⟩ := hlt
      have hb : boffN t (k : Int) < 18446744073709551616 := by have := boff_le t (k : Int); unfold NV at this; omega
      have HS := Lib.hid (boff_succ t k)
      have h3 : (k : Int) < 70 := by omega
      generalize boffN t (k : Int) = x at *
      go_wp2_with (go_at_call 12; refine (HA.out x hb _).mono ?_; rintro e w' ⟨rfl, rfl⟩)
      go_roundw
      case rel => exact ⟨k + 1, by omega, by omega, by go_num, by rw [HS.out], trivial⟩
      case measure => simp [intOf]; omega
    · have hE : boffN t (k : Int) = r := by
        rw [HR.out]
        by_cases h7 : k = 70
        · subst h7
          rw [boff_70 t c (by omega)]
        · by_cases h0 : k = 0
          · subst h0
            rw [boff_self t c (by unfold NV; omega) (by omega), boff_self t _ (by unfold NV; omega) (by omega)]
          · rw [show c = (k : Int) by omega]
      rw [hE]
      by_cases h2 : (k : Int) < c
      · have h3 : ¬ (k : Int) < 70 := by omega
        clear hlt
        go_wp2
        go_ret
        exact ⟨rfl, rfl⟩
      · clear hlt
        go_wp2
        go_ret
        exact ⟨rfl, rfl⟩
end Go.Proofs.Ytiflcanfjmmdjaa
