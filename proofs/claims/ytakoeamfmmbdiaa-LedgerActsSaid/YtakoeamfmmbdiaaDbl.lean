/- Whole numbers as floats: below 2^53 their sums are whole, and each is the same as itself. (Over any program.) -/
import Derived.Laws.ComplexArith
namespace Go.Proofs.Ytakoeamfmmbdiaa
open Ieee

/-- The word of a whole number. -/
def dbl (m : Nat) : Nat := floatOfInt .f64 (m : Int)
theorem dbl_def (m : Nat) : dbl m = double.nearest false m 0 := by
  have h : decide ((m : Int) < 0) = false := decide_eq_false (by omega)
  show double.nearest (decide ((m : Int) < 0)) (m : Int).natAbs 0 = _
  rw [h, Int.natAbs_natCast]

theorem log2_shift {x : Nat} (k : Nat) (h : 0 < x) : (x * 2 ^ k).log2 = x.log2 + k := by
  have h1 := Nat.log2_self_le (n := x) (by omega)
  have h2 := @Nat.lt_log2_self x
  have hx : x * 2 ^ k ≠ 0 := Nat.ne_of_gt (Nat.mul_pos h (Nat.two_pow_pos k))
  apply Nat.le_antisymm
  · apply Nat.le_of_lt_succ
    rw [Nat.log2_lt hx, Nat.succ_eq_add_one, show x.log2 + k + 1 = (x.log2 + 1) + k by omega, Nat.pow_add]
    exact Nat.mul_lt_mul_of_pos_right h2 (Nat.two_pow_pos k)
  · rw [Nat.le_log2 hx, Nat.pow_add]
    exact Nat.mul_le_mul_right _ h1
theorem log2_53 {x : Nat} (h0 : 0 < x) (h : x < 2 ^ 53) : x.log2 ≤ 52 := by
  have := (Nat.log2_lt (n := x) (k := 53) (by omega)).2 h
  omega

theorem cut_mul (n d : Nat) : Toward.even.cut false (n * 2 ^ d) d = n := by
  have hg : 0 < 2 ^ d := Nat.two_pow_pos d
  by_cases hn : n = 0
  · subst hn
    simp [Toward.cut]
  · have hd : min d ((n * 2 ^ d).log2 + 2) = d := by rw [log2_shift d (by omega)]; omega
    have h1 : n * 2 ^ d / 2 ^ d = n := Nat.mul_div_cancel _ hg
    have h2 : n * 2 ^ d % 2 ^ d = 0 := Nat.mul_mod_left _ _
    have hz : (2 ^ d == 2 * 0) = false := by rw [beq_eq_false_iff_ne]; omega
    unfold Toward.cut
    simp only [hd, Nat.shiftLeft_eq, Nat.one_mul, h1, h2, hz, Bool.false_and, Bool.or_false]
    simp

theorem nearest_shift (x k : Nat) (h0 : 0 < x) (h : x < 2 ^ 53) : double.nearest false (x * 2 ^ k) (-(k : Int)) = (x.log2 + 1022) * 2 ^ 52 + x * 2 ^ (52 - x.log2) := by
  have hl := log2_53 h0 h
  have hx : x * 2 ^ k ≠ 0 := Nat.ne_of_gt (Nat.mul_pos h0 (Nat.two_pow_pos k))
  have hlast : max (-(k : Int) + ((x * 2 ^ k).log2 : Nat) - (double.fractionBits : Nat)) double.leastPlace = (x.log2 : Int) - 52 := by
    rw [log2_shift k h0]
    show max (-(k : Int) + ((x.log2 + k : Nat) : Int) - ((52 : Nat) : Int)) (2 - 2 ^ (11 - 1) - ((52 : Nat) : Int)) = _
    have : (2 - 2 ^ (11 - 1) - ((52 : Nat) : Int) : Int) = -1074 := by decide
    rw [this]; omega
  have hkept : Toward.even.cut false ((x * 2 ^ k) <<< (-(k : Int) - ((x.log2 : Int) - 52)).toNat) (((x.log2 : Int) - 52) - (-(k : Int))).toNat = x * 2 ^ (52 - x.log2) := by
    by_cases hc : 52 ≤ x.log2 + k
    · have e1 : (-(k : Int) - ((x.log2 : Int) - 52)).toNat = 0 := by omega
      have e2 : (((x.log2 : Int) - 52) - (-(k : Int))).toNat = x.log2 + k - 52 := by omega
      rw [e1, e2, Nat.shiftLeft_zero]
      have : x * 2 ^ k = x * 2 ^ (52 - x.log2) * 2 ^ (x.log2 + k - 52) := by rw [Nat.mul_assoc, ← Nat.pow_add]; congr 2; omega
      rw [this, cut_mul]
    · have e1 : (-(k : Int) - ((x.log2 : Int) - 52)).toNat = 52 - x.log2 - k := by omega
      have e2 : (((x.log2 : Int) - 52) - (-(k : Int))).toNat = 0 := by omega
      rw [e1, e2, Nat.shiftLeft_eq]
      have : x * 2 ^ k * 2 ^ (52 - x.log2 - k) = x * 2 ^ (52 - x.log2) * 2 ^ 0 := by rw [Nat.mul_assoc, ← Nat.pow_add, Nat.pow_zero, Nat.mul_one]; congr 2; omega
      rw [this, cut_mul]
  have hup : (((x.log2 : Int) - 52) - double.leastPlace).toNat = x.log2 + 1022 := by
    have : double.leastPlace = -1074 := by decide
    rw [this]; omega
  have hlt : x * 2 ^ (52 - x.log2) < 2 ^ 53 := by
    have h2 := @Nat.lt_log2_self x
    have := Nat.mul_lt_mul_of_pos_right h2 (Nat.two_pow_pos (52 - x.log2))
    rw [← Nat.pow_add, show x.log2 + 1 + (52 - x.log2) = 53 by omega] at this
    exact this
  have hb : double.binade = 2 ^ 52 := rfl
  have hi : double.infRung = 2047 * 2 ^ 52 := by decide
  unfold Format.nearest
  rw [if_neg hx]
  simp only [hlast, hkept, hup, hb, hi, Format.word, Bool.false_eq_true, if_false]
  apply Nat.min_eq_left
  omega

theorem dbl_pos (m : Nat) (h0 : 0 < m) (h : m < 2 ^ 53) : dbl m = (m.log2 + 1022) * 2 ^ 52 + m * 2 ^ (52 - m.log2) := by
  have := nearest_shift m 0 h0 h
  rw [Nat.pow_zero, Nat.mul_one] at this
  rw [dbl_def]; exact this
theorem dbl_zero : dbl 0 = 0 := by rw [dbl_def]; decide

/-- What a whole number's word stands for. -/
theorem read_dbl (m : Nat) (h : m < 2 ^ 53) : ∃ A i, double.read (dbl m) = .number false A i ∧ -1074 ≤ i ∧ i ≤ 0 ∧ A * 2 ^ (i + 1074).toNat = m * 2 ^ 1074 := by
  by_cases h0 : m = 0
  · subst h0
    exact ⟨0, -1074, by rw [dbl_zero]; decide, by omega, by omega, by simp only [Nat.zero_mul]⟩
  · have hp : 0 < m := by omega
    have hl := log2_53 hp h
    refine ⟨m * 2 ^ (52 - m.log2), (m.log2 : Int) - 52, ?_, by omega, by omega, ?_⟩
    · rw [dbl_pos m hp h]
      have hlt : m * 2 ^ (52 - m.log2) < 2 ^ 53 := by
        have h2 := @Nat.lt_log2_self m
        have := Nat.mul_lt_mul_of_pos_right h2 (Nat.two_pow_pos (52 - m.log2))
        rw [← Nat.pow_add, show m.log2 + 1 + (52 - m.log2) = 53 by omega] at this
        exact this
      have hge : 2 ^ 52 ≤ m * 2 ^ (52 - m.log2) := by
        have h2 := Nat.log2_self_le (n := m) (by omega)
        have := Nat.mul_le_mul_right (2 ^ (52 - m.log2)) h2
        rw [← Nat.pow_add, show m.log2 + (52 - m.log2) = 52 by omega] at this
        exact this
      generalize m * 2 ^ (52 - m.log2) = A at *
      generalize m.log2 = L at *
      have hs : double.signWeight = 2 ^ 63 := by decide
      have hb : double.binade = 2 ^ 52 := rfl
      have hi : double.infRung = 2047 * 2 ^ 52 := by decide
      have hp' : double.leastPlace = -1074 := by decide
      have q1 : ((L + 1022) * 2 ^ 52 + A) / 2 ^ 63 % 2 = 0 := by omega
      have q2 : ((L + 1022) * 2 ^ 52 + A) % 2 ^ 63 = (L + 1022) * 2 ^ 52 + A := by omega
      have q3 : ¬ ((L + 1022) * 2 ^ 52 + A) < 2 ^ 52 := by omega
      have q4 : ((L + 1022) * 2 ^ 52 + A) < 2047 * 2 ^ 52 := by omega
      have q5 : 2 ^ 52 + ((L + 1022) * 2 ^ 52 + A) % 2 ^ 52 = A := by omega
      have q6 : ((L + 1022) * 2 ^ 52 + A) / 2 ^ 52 - 1 = L + 1022 := by omega
      unfold Format.read
      simp only [hs, hb, hi, hp', q1, q2]
      rw [if_neg q3, if_pos q4, q5, q6]
      simp only [Nat.reduceBEq, Datum.number.injEq, true_and]
      omega
    · rw [Nat.mul_assoc, ← Nat.pow_add]; congr 2; omega

theorem dbl_add (a b : Nat) (h : a + b < 2 ^ 53) : floatBits .add .f64 (dbl a) (dbl b) = some (dbl (a + b)) := by
  obtain ⟨A, i, ha, hi1, hi2, hA⟩ := read_dbl a (by omega)
  obtain ⟨B, j, hb, hj1, hj2, hB⟩ := read_dbl b (by omega)
  have hsub : ∀ (X x : Nat) (i k : Int), X * 2 ^ (i + 1074).toNat = x * 2 ^ 1074 → -1074 ≤ k → k ≤ i → k ≤ 0 → X <<< (i - k).toNat = x * 2 ^ (-k).toNat := by
    intro X x i k hX h1 h2 h3
    rw [Nat.shiftLeft_eq]
    refine Nat.eq_of_mul_eq_mul_right (Nat.two_pow_pos (k + 1074).toNat) ?_
    rw [Nat.mul_assoc, Nat.mul_assoc, ← Nat.pow_add, ← Nat.pow_add, show (i - k).toNat + (k + 1074).toNat = (i + 1074).toNat by omega, show (-k).toNat + (k + 1074).toNat = 1074 by omega]
    exact hX
  have h1 := hsub A a i (min i j) hA (by omega) (by omega) (by omega)
  have h2 := hsub B b j (min i j) hB (by omega) (by omega) (by omega)
  have hk : min i j = -((-(min i j)).toNat : Int) := by omega
  show double.add (dbl a) (dbl b) = _
  unfold Format.add
  rw [ha, hb]
  simp only [Datum.sum, signed, Bool.false_eq_true, if_false, h1, h2, Option.map_some, Format.write]
  generalize (-(min i j)).toNat = k at *
  have ht : (((a * 2 ^ k : Nat) : Int) + ((b * 2 ^ k : Nat) : Int)) = (((a + b) * 2 ^ k : Nat) : Int) := by rw [Nat.add_mul]; omega
  rw [ht, Int.natAbs_natCast, hk]
  have hs : (if (((a + b) * 2 ^ k : Nat) : Int) = 0 then false && false else decide ((((a + b) * 2 ^ k : Nat) : Int) < 0)) = false := by
    split
    · rfl
    · exact decide_eq_false (by omega)
  rw [hs]
  by_cases h0 : a + b = 0
  · rw [h0, Nat.zero_mul, dbl_zero]
    simp [Format.nearest, Format.word]
  · rw [nearest_shift (a + b) k (by omega) h, dbl_pos (a + b) (by omega) h]
theorem dbl_eq (a : Nat) (h : a < 2 ^ 53) : FloatKind.f64.format.order (dbl a) (dbl a) = some .eq := by
  obtain ⟨A, i, ha, _, _, _⟩ := read_dbl a h
  show double.order (dbl a) (dbl a) = some .eq
  unfold Format.order
  rw [ha]
  simp [Datum.order, compare, compareOfLessAndEq]
end Go.Proofs.Ytakoeamfmmbdiaa
