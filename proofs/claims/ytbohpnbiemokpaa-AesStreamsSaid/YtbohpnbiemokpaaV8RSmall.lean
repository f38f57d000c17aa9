/- Layer 8 (aes): products and boxes, the document's. -/
import Derived.Test.YtbohpnbiemokpaaV8Small
import Derived.Test.YtbohpnbiemokpaaV8Search
namespace Go.Proofs.Ytbohpnbiemokpaa
open Go.RowKit

theorem i64_xor_nat (a b : Nat) (ha : a < 9223372036854775808) (hb : b < 9223372036854775808) : bits .xor .i64 (a : Int) (b : Int) = ((a ^^^ b : Nat) : Int) := by
  have hx : a ^^^ b < 2 ^ 63 := Nat.xor_lt_two_pow (by omega) (by omega)
  show IntKind.i64.wrap ((BitVec.ofInt 64 (a : Int) ^^^ BitVec.ofInt 64 (b : Int)).toNat : Int) = _
  rw [BitVec.toNat_xor, ofInt_u64 a (by omega), ofInt_u64 b (by omega)]
  exact IntWalk.i64_in _ (by omega)
theorem dbl_over {x : Nat} (hx : x < 256) (h : 255 < x * 2) : (x * 2) ^^^ 283 = dbl x := by
  have hh : ((List.range 256).all fun x => decide (255 < x * 2 → (x * 2) ^^^ 283 = dbl x)) = true := by decide +kernel
  have := List.all_eq_true.1 hh x (by simpa using hx)
  exact of_decide_eq_true this h
theorem dbl_under {x : Nat} (h : ¬ 255 < x * 2) : x * 2 = dbl x := by
  unfold dbl
  rw [show x / 128 = 0 from by omega, Nat.zero_mul, Nat.xor_zero]
  omega

set_option maxRecDepth 100000 in
theorem rtimes_any (a b : Nat) (ha : a < 256) (hb : b < 256) (w : World) : Calls Try.prog 12 #[.int .u8 a, .int .u8 b] w fun e w' => e = .returned (.int .u8 (mulN a b : Nat)) ∧ w = w' := by
  go_enter Try.func12, Try.ntmps12
  go_wp2
  go_loopw [5, 6, 7] (fun x y p wr => ∃ k a' b' p' : Nat, k ≤ 8 ∧ x = .int .i64 a' ∧ y = .int .i64 b' ∧ p = .int .i64 p' ∧ a' < 256 ∧ b' < 2 ^ k ∧ b' < 256 ∧ p' < 256 ∧ Hid (mulS k a' b' p' = mulN a b) ∧ wr = w) (fun _ y _ _ => (intOf y).toNat)
  case atStart => exact ⟨8, a, b, 0, Nat.le_refl _, rfl, rfl, rfl, ha, hb, hb, by decide, Lib.hid rfl, rfl⟩
  case round =>
    obtain ⟨k, a', b', p', hk, rfl, rfl, rfl, ha', hbk, hb', hp', HM, rfl⟩ := hrel
    have HP := Lib.hid hp'
    by_cases hpos : 0 < b'
    · obtain ⟨k, rfl⟩ : ∃ j, k = j + 1 := ⟨k - 1, by have : k ≠ 0 := (by rintro rfl; simp at hbk; omega); omega⟩
      have HN : Hid (mulS k (dbl a') (b' / 2) (if b' % 2 = 1 then p' ^^^ a' else p') = mulN a b) := Lib.hid (by rw [← HM.out, mulS])
      have HB : Hid (b' / 2 < 2 ^ k) := Lib.hid (by rw [Nat.pow_succ] at hbk; omega)
      clear hbk
      have HD := Lib.hid (dbl_lt ha')
      have HXL := Lib.hid (xor8_lt hp' ha')
      have h1 := i64_xor_nat p' a' (by omega) (by omega)
      rcases (by omega : b' % 2 = 1 ∨ b' % 2 = 0) with hm | hm
      · rw [if_pos hm] at HN
        have hmi : (b' : Int) % 2 = 1 := by omega
        by_cases ho : 255 < a' * 2
        · have h2 : bits .xor .i64 ((a' : Int) * 2) 283 = ((dbl a' : Nat) : Int) := by rw [← dbl_over ha' ho, ← i64_xor_nat (a' * 2) 283 (by omega) (by decide)]; rfl
          go_wp2
          go_roundw
          case rel => exact ⟨k, dbl a', b' / 2, p' ^^^ a', by omega, rfl, rfl, rfl, HD.out, HB.out, by omega, HXL.out, HN, by first | rfl | trivial⟩
          case measure => simp [intOf]; omega
        · have h2 := dbl_under ho
          go_wp2
          go_roundw
          case rel => exact ⟨k, dbl a', b' / 2, p' ^^^ a', by omega, by rw [← h2]; rfl, rfl, rfl, HD.out, HB.out, by omega, HXL.out, HN, by first | rfl | trivial⟩
          case measure => simp [intOf]; omega
      · rw [if_neg (by omega)] at HN
        have hmi : (b' : Int) % 2 = 0 := by omega
        by_cases ho : 255 < a' * 2
        · have h2 : bits .xor .i64 ((a' : Int) * 2) 283 = ((dbl a' : Nat) : Int) := by rw [← dbl_over ha' ho, ← i64_xor_nat (a' * 2) 283 (by omega) (by decide)]; rfl
          go_wp2
          go_roundw
          case rel => exact ⟨k, dbl a', b' / 2, p', by omega, rfl, rfl, rfl, HD.out, HB.out, by omega, HP.out, HN, by first | rfl | trivial⟩
          case measure => simp [intOf]; omega
        · have h2 := dbl_under ho
          go_wp2
          go_roundw
          case rel => exact ⟨k, dbl a', b' / 2, p', by omega, by rw [← h2]; rfl, rfl, rfl, HD.out, HB.out, by omega, HP.out, HN, by first | rfl | trivial⟩
          case measure => simp [intOf]; omega
    · have hb0 : b' = 0 := by omega
      subst hb0
      have HE : Hid (p' = mulN a b) := Lib.hid (by rw [← HM.out, mulS_zero])
      have hpi : (p' : Int) % 256 = p' := by omega
      go_wp2
      go_ret
      exact ⟨ret_u8 (by rw [HE.out]), by first | rfl | trivial⟩

theorem rolI (x : Nat) : (x : Int) * 2 % 256 + (x : Int) / 128 = ((rol8 x : Nat) : Int) := by unfold rol8; omega
set_option maxRecDepth 100000 in
theorem rbox_any (a : Nat) (ha : a < 256) (w : World) : Calls Try.prog 14 #[.int .u8 a] w fun e w' => e = .returned (.int .u8 (sbox a : Nat)) ∧ w = w' := by
  have HS := Lib.hid (search_inv ha)
  have HSL := Lib.hid (searchN_lt a)
  have HB := Lib.hid (sbox_aff a ha)
  have HIL := Lib.hid (invN_lt ha)
  have HR := Lib.hid (fun k => rolS_lt (invN_lt ha) k)
  have HA := Lib.hid (fun k => affS_lt (invN_lt ha) k)
  go_enter Try.func14, Try.ntmps14
  go_wp2
  go_loopw [3, 4] (fun x i wr => ∃ k : Nat, k ≤ 255 ∧ i = .int .i64 (k + 1 : Nat) ∧ x = .int .i64 (searchN a k : Nat) ∧ wr = w) (fun _ i _ => 256 - (intOf i).toNat)
  case atStart => exact ⟨0, by omega, rfl, rfl, rfl⟩
  case round =>
    obtain ⟨k, hk, rfl, rfl, rfl⟩ := hrel
    by_cases hlt : k < 255
    · have HN : Hid (searchN a (k + 1) = if mulN a (k + 1) = 1 then k + 1 else searchN a k) := Lib.hid (by rw [searchN])
      have hki : ((k + 1 : Nat) : Int) % 256 = ((k + 1 : Nat) : Int) := by omega
      by_cases hm : mulN a (k + 1) = 1
      · rw [if_pos hm] at HN
        go_wp2_with (go_at_call 12; refine (rtimes_any a (k + 1) ha (by omega) _).mono ?_; rintro e w' ⟨rfl, rfl⟩; rw [hm])
        go_roundw
        case rel => exact ⟨k + 1, by omega, by go_num, by rw [HN.out] <;> try rfl, by first | rfl | trivial⟩
        case measure => simp [intOf]; omega
      · rw [if_neg hm] at HN
        go_wp2_with (go_at_call 12; refine (rtimes_any a (k + 1) ha (by omega) _).mono ?_; rintro e w' ⟨rfl, rfl⟩)
        go_roundw
        case rel => exact ⟨k + 1, by omega, by go_num, by rw [HN.out] <;> try rfl, by first | rfl | trivial⟩
        case measure => simp [intOf]; omega
    · have hk5 : k = 255 := by omega
      subst hk5
      rw [HS.out]
      have h99 : bits .xor .i64 ((invN a : Nat) : Int) 99 = ((affS (invN a) 0 : Nat) : Int) := i64_xor_nat (invN a) 99 (by have := HIL.out; omega) (by decide)
      go_wp2
      go_loopw [3, 5, 6] (fun x o i wr' => ∃ k : Nat, k ≤ 4 ∧ i = .int .i64 k ∧ x = .int .i64 (rolS (invN a) k : Nat) ∧ o = .int .i64 (affS (invN a) k : Nat) ∧ wr' = wr) (fun _ _ i _ => 4 - (intOf i).toNat)
      case atStart => exact ⟨0, by omega, rfl, rfl, rfl, rfl⟩
      case round =>
        obtain ⟨k, hk, rfl, rfl, rfl, rfl⟩ := hrel
        have h1 := HR.out k
        have h2 := HA.out k
        have HRS : Hid (rolS (invN a) (k + 1) = rol8 (rolS (invN a) k)) := Lib.hid rfl
        have HAS : Hid (affS (invN a) (k + 1) = affS (invN a) k ^^^ rol8 (rolS (invN a) k)) := Lib.hid rfl
        by_cases hlt : k < 4
        · generalize rolS (invN a) k = x at h1 HRS HAS ⊢
          generalize affS (invN a) k = y at h2 HAS ⊢
          have h3 := rolI x
          have h4 := i64_xor_nat y (rol8 x) (by omega) (by have := rol8_lt h1; omega)
          go_wp2
          go_roundw
          case rel => exact ⟨k + 1, by omega, by go_num, by rw [HRS.out], by rw [HAS.out], by first | rfl | trivial⟩
          case measure => simp [intOf]; omega
        · have hk4 : k = 4 := by omega
          subst hk4
          have h5 : ((affS (invN a) 4 : Nat) : Int) % 256 = ((affS (invN a) 4 : Nat) : Int) := by omega
          go_wp2
          go_ret
          exact ⟨ret_u8 (by rw [← HB.out]; rfl), by first | rfl | trivial⟩
end Go.Proofs.Ytbohpnbiemokpaa
