/- Bits of whole numbers: low bits struck, parts joined. No program is named here. -/
import Derived.WalkKit
import Derived.Laws.BitsAllLaws
import Derived.IntWalk
namespace Go.Proofs.Ytakoeamfmmbdiaa

theorem strike_low (a m : Nat) (ha : a < 2 ^ 64) (_hm : m ≤ 64) : a &&& (2 ^ 64 - (2 ^ m - 1 + 1)) = a / 2 ^ m * 2 ^ m := by
  apply Nat.eq_of_testBit_eq
  intro i
  have h1 : 2 ^ m - 1 < 2 ^ 64 := by
    have : 2 ^ m ≤ 2 ^ 64 := Nat.pow_le_pow_right (by omega) _hm
    have := Nat.two_pow_pos m
    omega
  rw [Nat.testBit_and, Nat.testBit_two_pow_sub_succ h1, Nat.testBit_two_pow_sub_one, Nat.testBit_mul_two_pow, Nat.testBit_div_two_pow]
  by_cases hi : i < m
  · simp [hi]; omega
  · have hmi : m ≤ i := by omega
    rw [show i - m + m = i from by omega]
    by_cases h64 : i < 64
    · simp [hi, h64, hmi]
    · have : a.testBit i = false := Nat.testBit_lt_two_pow (Nat.lt_of_lt_of_le ha (Nat.pow_le_pow_right (by omega) (by omega)))
      simp [this]

theorem wrap_i64_small (n : Int) (h0 : 0 ≤ n) (h1 : n < 9223372036854775808) : IntKind.i64.wrap n = n := IntWalk.i64_in _ (by omega)

theorem i64_or_nat (a b : Nat) (ha : a < 9223372036854775808) (hb : b < 9223372036854775808) : bits .or .i64 (a : Int) (b : Int) = ((a ||| b : Nat) : Int) := by
  have hx : a ||| b < 2 ^ 63 := Nat.or_lt_two_pow (by omega) (by omega)
  show IntKind.i64.wrap ((BitVec.ofInt 64 (a : Int) ||| BitVec.ofInt 64 (b : Int)).toNat : Int) = _
  rw [BitVec.toNat_or, ofInt_u64 a (by omega), ofInt_u64 b (by omega)]
  exact wrap_i64_small _ (by omega) (by omega)

theorem i64_strike (a m : Nat) (ha : a < 9223372036854775808) (hm : m ≤ 62) : bits .andNot .i64 (a : Int) ((2 ^ m - 1 : Nat) : Int) = ((a / 2 ^ m * 2 ^ m : Nat) : Int) := by
  have h2 : 2 ^ m - 1 < 2 ^ 62 := by
    have : 2 ^ m ≤ 2 ^ 62 := Nat.pow_le_pow_right (by omega) hm
    have := Nat.two_pow_pos m
    omega
  show IntKind.i64.wrap ((BitVec.ofInt 64 (a : Int) &&& ~~~BitVec.ofInt 64 ((2 ^ m - 1 : Nat) : Int)).toNat : Int) = _
  rw [BitVec.toNat_and, BitVec.toNat_not, ofInt_u64 a (by omega), ofInt_u64 (2 ^ m - 1) (by omega), show 2 ^ 64 - 1 - (2 ^ m - 1) = 2 ^ 64 - (2 ^ m - 1 + 1) from by omega, strike_low a m (by omega) (by omega)]
  have : a / 2 ^ m * 2 ^ m ≤ a := Nat.div_mul_le_self a (2 ^ m)
  exact wrap_i64_small _ (by omega) (by omega)

theorem or_parts (x y m : Nat) (hy : y < 2 ^ m) : x * 2 ^ m ||| y = x * 2 ^ m + y := by
  have := Nat.two_pow_add_eq_or_of_lt (i := m) (b := y) hy x
  rw [Nat.mul_comm x]
  exact this.symm
end Go.Proofs.Ytakoeamfmmbdiaa
