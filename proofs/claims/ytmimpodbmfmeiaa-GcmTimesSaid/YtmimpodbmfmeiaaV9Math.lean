/- Layer 9 (gcm), plain: products of polynomials modulo x^128 + x^7 + x^2 + x + 1; the factor of x to the power i is bit i. No program is named here. -/
import Derived.WalkKit
namespace Go.Proofs.Ytmimpodbmfmeiaa

/-- Once more times x. -/
def gD (a : Nat) : Nat := (2 * a % 2 ^ 128) ^^^ (if a.testBit 127 then 135 else 0)
def gP (a : Nat) : Nat → Nat
  | 0 => a
  | k + 1 => gD (gP a k)
/-- The product, by the low n factors of b. -/
def gS (a b : Nat) : Nat → Nat
  | 0 => 0
  | n + 1 => gS a b n ^^^ (if b.testBit n then gP a n else 0)
def gM (a b : Nat) : Nat := gS a b 128
theorem xorL (a b c : Nat) : a ^^^ (b ^^^ c) = b ^^^ (a ^^^ c) := by rw [← Nat.xor_assoc, Nat.xor_comm a b, Nat.xor_assoc]
theorem xor4 (a b c d : Nat) : (a ^^^ b) ^^^ (c ^^^ d) = (a ^^^ c) ^^^ (b ^^^ d) := by rw [Nat.xor_assoc, xorL b c d, ← Nat.xor_assoc]
theorem ite_xor (p q : Bool) (x : Nat) : (if (p ^^ q) = true then x else 0) = (if p = true then x else 0) ^^^ (if q = true then x else 0) := by cases p <;> cases q <;> simp
theorem ite_xor2 (p : Bool) (x y : Nat) : (if p = true then x ^^^ y else 0) = (if p = true then x else 0) ^^^ (if p = true then y else 0) := by cases p <;> simp
theorem two_xor (a b : Nat) : 2 * (a ^^^ b) = 2 * a ^^^ 2 * b := by
  have h : ∀ n, 2 * n = n <<< 1 := fun n => by rw [Nat.shiftLeft_eq, Nat.pow_one, Nat.mul_comm]
  rw [h, h, h]
  apply Nat.eq_of_testBit_eq
  intro i
  simp only [Nat.testBit_shiftLeft, Nat.testBit_xor]
  cases decide (1 ≤ i) <;> simp
theorem gD_xor (a b : Nat) : gD (a ^^^ b) = gD a ^^^ gD b := by
  unfold gD
  rw [two_xor, Nat.xor_mod_two_pow, Nat.testBit_xor, ite_xor, xor4]
theorem gD_lt (a : Nat) : gD a < 2 ^ 128 := by
  unfold gD
  refine Nat.xor_lt_two_pow (Nat.mod_lt _ (Nat.two_pow_pos 128)) ?_
  split <;> decide
theorem gP_xor (a b : Nat) : ∀ k, gP (a ^^^ b) k = gP a k ^^^ gP b k
  | 0 => rfl
  | k + 1 => by rw [gP, gP_xor a b k, gD_xor]; rfl
theorem gD_zero : gD 0 = 0 := by decide
theorem gP_zero : ∀ k, gP 0 k = 0
  | 0 => rfl
  | k + 1 => by rw [gP, gP_zero k, gD_zero]
theorem gP_lt {a : Nat} (h : a < 2 ^ 128) : ∀ k, gP a k < 2 ^ 128
  | 0 => h
  | _ + 1 => gD_lt _
theorem gP_add (a j : Nat) : ∀ k, gP (gP a j) k = gP a (j + k)
  | 0 => rfl
  | k + 1 => by rw [gP, gP_add a j k]; rfl
theorem gS_lt {a : Nat} (h : a < 2 ^ 128) (b : Nat) : ∀ n, gS a b n < 2 ^ 128
  | 0 => by rw [gS]; exact Nat.two_pow_pos 128
  | n + 1 => by
    rw [gS]
    refine Nat.xor_lt_two_pow (gS_lt h b n) ?_
    split
    · exact gP_lt h n
    · exact Nat.two_pow_pos 128
theorem gS_xor_b (a b c : Nat) : ∀ n, gS a (b ^^^ c) n = gS a b n ^^^ gS a c n
  | 0 => by simp [gS]
  | n + 1 => by rw [gS, gS, gS, gS_xor_b a b c n, Nat.testBit_xor, ite_xor, xor4]
theorem gS_xor_a (a b c : Nat) : ∀ n, gS (a ^^^ b) c n = gS a c n ^^^ gS b c n
  | 0 => by simp [gS]
  | n + 1 => by rw [gS, gS, gS, gS_xor_a a b c n, gP_xor, ite_xor2, xor4]
theorem gM_xor_b (a b c : Nat) : gM a (b ^^^ c) = gM a b ^^^ gM a c := gS_xor_b a b c 128
theorem gM_xor_a (a b c : Nat) : gM (a ^^^ b) c = gM a c ^^^ gM b c := gS_xor_a a b c 128
theorem gS_zero_b (a : Nat) : ∀ n, gS a 0 n = 0
  | 0 => rfl
  | n + 1 => by rw [gS, gS_zero_b a n]; simp
theorem gS_zero_a (b : Nat) : ∀ n, gS 0 b n = 0
  | 0 => rfl
  | n + 1 => by rw [gS, gS_zero_a b n, gP_zero]; simp
theorem gM_zero (a : Nat) : gM a 0 = 0 := gS_zero_b a 128
theorem gM_zero' (b : Nat) : gM 0 b = 0 := gS_zero_a b 128
/-- By a power of x. -/
theorem gS_pow (a i : Nat) : ∀ n, gS a (2 ^ i) n = if i < n then gP a i else 0
  | 0 => by rw [gS, if_neg (by omega)]
  | n + 1 => by
    rw [gS, gS_pow a i n, Nat.testBit_two_pow]
    by_cases h : i = n
    · subst h; rw [if_neg (by omega), if_pos (by simp), if_pos (by omega), Nat.zero_xor]
    · have e : decide (i = n) = false := by simp [h]
      rw [e]
      simp only [Bool.false_eq_true, if_false, Nat.xor_zero]
      by_cases h2 : i < n
      · rw [if_pos h2, if_pos (by omega)]
      · rw [if_neg h2, if_neg (by omega)]
theorem gM_pow (a : Nat) {i : Nat} (h : i < 128) : gM a (2 ^ i) = gP a i := by rw [gM, gS_pow, if_pos h]
theorem gP_one : ∀ k, k < 128 → gP 1 k = 2 ^ k
  | 0, _ => rfl
  | k + 1, h => by
    rw [gP, gP_one k (by omega), gD, Nat.testBit_two_pow, if_neg (by simp; omega), Nat.xor_zero, ← Nat.pow_succ', Nat.mod_eq_of_lt (Nat.pow_lt_pow_right (by decide) h)]
theorem pow_comm {i j : Nat} (hi : i < 128) (hj : j < 128) : gM (2 ^ i) (2 ^ j) = gM (2 ^ j) (2 ^ i) := by
  rw [gM_pow _ hj, gM_pow _ hi, ← gP_one i hi, ← gP_one j hj, gP_add, gP_add, Nat.add_comm]
/-- The highest bit apart. -/
theorem top_bit {a n : Nat} (h : a < 2 ^ (n + 1)) : a = (a % 2 ^ n) ^^^ (if a.testBit n then 2 ^ n else 0) := by
  apply Nat.eq_of_testBit_eq
  intro i
  rw [Nat.testBit_xor, Nat.testBit_mod_two_pow]
  by_cases hi : i < n
  · rw [decide_eq_true hi, Bool.true_and]
    have : (if a.testBit n then 2 ^ n else 0).testBit i = false := by
      split
      · rw [Nat.testBit_two_pow]; simp; omega
      · exact Nat.zero_testBit i
    rw [this, Bool.xor_false]
  · rw [decide_eq_false hi, Bool.false_and, Bool.false_xor]
    by_cases e : i = n
    · subst e
      cases hb : a.testBit i
      · simp
      · simp
    · have h1 : a.testBit i = false := Nat.testBit_lt_two_pow (Nat.lt_of_lt_of_le h (Nat.pow_le_pow_right (by decide) (by omega)))
      rw [h1]
      split
      · rw [Nat.testBit_two_pow]; simp; omega
      · rw [Nat.zero_testBit]
theorem pow_left {i : Nat} (hi : i < 128) : ∀ n, n ≤ 128 → ∀ b, b < 2 ^ n → gM (2 ^ i) b = gM b (2 ^ i)
  | 0, _, b, h => by
    have : b = 0 := by rw [Nat.pow_zero] at h; omega
    rw [this, gM_zero, gM_zero']
  | n + 1, hn, b, h => by
    have e := top_bit h
    have hu := Nat.mod_lt b (Nat.two_pow_pos n)
    have h2 : gM (2 ^ i) (if b.testBit n then 2 ^ n else 0) = gM (if b.testBit n then 2 ^ n else 0) (2 ^ i) := by
      split
      · exact pow_comm hi (by omega)
      · rw [gM_zero, gM_zero']
    generalize b % 2 ^ n = u at e hu
    generalize (if b.testBit n then 2 ^ n else 0) = v at e h2
    subst e
    rw [gM_xor_b (2 ^ i) u v, gM_xor_a u v (2 ^ i), pow_left hi n (by omega) u hu, h2]
theorem gM_comm_n : ∀ n, n ≤ 128 → ∀ a, a < 2 ^ n → ∀ b, b < 2 ^ 128 → gM a b = gM b a
  | 0, _, a, h, b, _ => by
    have : a = 0 := by rw [Nat.pow_zero] at h; omega
    rw [this, gM_zero, gM_zero']
  | n + 1, hn, a, h, b, hb => by
    have e := top_bit h
    have hu := Nat.mod_lt a (Nat.two_pow_pos n)
    have h2 : gM (if a.testBit n then 2 ^ n else 0) b = gM b (if a.testBit n then 2 ^ n else 0) := by
      split
      · exact pow_left (by omega) 128 (Nat.le_refl _) b hb
      · rw [gM_zero, gM_zero']
    generalize a % 2 ^ n = u at e hu
    generalize (if a.testBit n then 2 ^ n else 0) = v at e h2
    subst e
    rw [gM_xor_b b u v, gM_xor_a u v b, gM_comm_n n (by omega) u hu b hb, h2]
theorem gM_comm {a b : Nat} (ha : a < 2 ^ 128) (hb : b < 2 ^ 128) : gM a b = gM b a := gM_comm_n 128 (Nat.le_refl _) a ha b hb
theorem gM_one {a : Nat} : gM a 1 = a := by
  have := gM_pow a (i := 0) (by decide)
  rw [Nat.pow_zero] at this
  rw [this]; rfl
theorem gM_lt {a : Nat} (h : a < 2 ^ 128) (b : Nat) : gM a b < 2 ^ 128 := gS_lt h b 128

/-! What a polynomial of more factors is, reduced. -/
def gE (p : Nat) : Nat → Nat
  | 0 => 0
  | n + 1 => gE p n ^^^ (if p.testBit n then gP 1 n else 0)
theorem gE_xor (p q : Nat) : ∀ n, gE (p ^^^ q) n = gE p n ^^^ gE q n
  | 0 => by simp [gE]
  | n + 1 => by rw [gE, gE, gE, gE_xor p q n, Nat.testBit_xor, ite_xor, xor4]
theorem gE_zero : ∀ n, gE 0 n = 0
  | 0 => rfl
  | n + 1 => by rw [gE, gE_zero n]; simp
theorem gE_pow (i : Nat) : ∀ n, gE (2 ^ i) n = if i < n then gP 1 i else 0
  | 0 => by rw [gE, if_neg (by omega)]
  | n + 1 => by
    rw [gE, gE_pow i n, Nat.testBit_two_pow]
    by_cases h : i = n
    · subst h; rw [if_neg (by omega), if_pos (by simp), if_pos (by omega), Nat.zero_xor]
    · have e : decide (i = n) = false := by simp [h]
      rw [e]
      simp only [Bool.false_eq_true, if_false, Nat.xor_zero]
      by_cases h2 : i < n
      · rw [if_pos h2, if_pos (by omega)]
      · rw [if_neg h2, if_neg (by omega)]
/-- What is reduced stays. -/
theorem gE_low : ∀ m, m ≤ 128 → ∀ p, p < 2 ^ m → ∀ n, m ≤ n → gE p n = p
  | 0, _, p, h, n, _ => by
    have : p = 0 := by rw [Nat.pow_zero] at h; omega
    rw [this, gE_zero]
  | m + 1, hm, p, h, n, hn => by
    have e := top_bit h
    have h1 := gE_low m (by omega) (p % 2 ^ m) (Nat.mod_lt _ (Nat.two_pow_pos m)) n (by omega)
    rw [e, gE_xor, ← e, h1]
    have h2 : gE (if p.testBit m then 2 ^ m else 0) n = if p.testBit m then 2 ^ m else 0 := by
      split
      · rw [gE_pow, if_pos (by omega), gP_one m (by omega)]
      · exact gE_zero n
    rw [h2, ← e]
theorem gP_1_128 : gP 1 128 = 135 := by
  rw [gP, gP_one 127 (by decide)]; decide
/-- The modulus, times a power of x, is nothing. -/
theorem gE_mod (k n : Nat) (h : 128 + k < n) : gE (2 ^ (128 + k) ^^^ 2 ^ k ^^^ 2 ^ (k + 1) ^^^ 2 ^ (k + 2) ^^^ 2 ^ (k + 7)) n = 0 := by
  rw [gE_xor, gE_xor, gE_xor, gE_xor, gE_pow, gE_pow, gE_pow, gE_pow, gE_pow, if_pos h, if_pos (by omega), if_pos (by omega), if_pos (by omega), if_pos (by omega)]
  have a : ∀ j, gP 1 (k + j) = gP (gP 1 j) k := fun j => by rw [gP_add, Nat.add_comm]
  have a0 : gP 1 k = gP (gP 1 0) k := rfl
  rw [Nat.add_comm 128 k, a 128, a 1, a 2, a 7, a0, gP_1_128, ← gP_xor, ← gP_xor, ← gP_xor, ← gP_xor]
  have : 135 ^^^ gP 1 0 ^^^ gP 1 1 ^^^ gP 1 2 ^^^ gP 1 7 = 0 := by decide
  rw [this, gP_zero]

/-! The product by all factors, and what is left of it. -/
theorem gE_shift {y : Nat} (i : Nat) (hi : i < 128) : ∀ m, m ≤ 128 → ∀ y, y < 2 ^ m → gE (y <<< i) 255 = gP y i
  | 0, _, y, h => by
    have : y = 0 := by rw [Nat.pow_zero] at h; omega
    rw [this, Nat.zero_shiftLeft, gE_zero, gP_zero]
  | m + 1, hm, y, h => by
    have e := top_bit h
    have hu := Nat.mod_lt y (Nat.two_pow_pos m)
    have h2 : gE ((if y.testBit m then 2 ^ m else 0) <<< i) 255 = gP (if y.testBit m then 2 ^ m else 0) i := by
      split
      · rw [Nat.shiftLeft_eq, ← Nat.pow_add, gE_pow, if_pos (by omega), ← gP_one m (by omega), gP_add]
      · rw [Nat.zero_shiftLeft, gE_zero, gP_zero]
    generalize y % 2 ^ m = u at e hu
    generalize (if y.testBit m then 2 ^ m else 0) = v at e h2
    subst e
    have hs : (u ^^^ v) <<< i = (u <<< i) ^^^ (v <<< i) := Nat.shiftLeft_xor_distrib
    rw [hs, gE_xor, gP_xor, gE_shift (y := y) i hi m (by omega) u hu, h2]
def clS (x y : Nat) : Nat → Nat
  | 0 => 0
  | n + 1 => clS x y n ^^^ (if x.testBit n then y <<< n else 0)
theorem gE_clS {x y : Nat} (hy : y < 2 ^ 128) : ∀ n, n ≤ 128 → gE (clS x y n) 255 = gS y x n
  | 0, _ => by rw [clS, gE_zero, gS]
  | n + 1, hn => by
    rw [clS, gE_xor, gE_clS hy n (by omega), gS]
    congr 1
    split
    · exact gE_shift (y := y) n (by omega) 128 (Nat.le_refl _) y hy
    · exact gE_zero 255
theorem clS_lt {x y : Nat} (hy : y < 2 ^ 128) : ∀ n, n ≤ 128 → clS x y n < 2 ^ 255
  | 0, _ => Nat.two_pow_pos 255
  | n + 1, hn => by
    rw [clS]
    refine Nat.xor_lt_two_pow (clS_lt hy n (by omega)) ?_
    split
    · rw [Nat.shiftLeft_eq]
      refine Nat.lt_of_lt_of_le (Nat.mul_lt_mul_of_pos_right hy (Nat.two_pow_pos n)) ?_
      rw [← Nat.pow_add]
      exact Nat.pow_le_pow_right (by decide) (by omega)
    · exact Nat.two_pow_pos 255
def rd1 (p i : Nat) : Nat := if p.testBit i then p ^^^ (2 ^ (128 + (i - 128)) ^^^ 2 ^ (i - 128) ^^^ 2 ^ (i - 128 + 1) ^^^ 2 ^ (i - 128 + 2) ^^^ 2 ^ (i - 128 + 7)) else p
def rdS (p : Nat) : Nat → Nat
  | 0 => p
  | n + 1 => rd1 (rdS p n) (254 - n)
theorem rd1_lt {p i : Nat} (hi : 128 ≤ i) (h : p < 2 ^ (i + 1)) : rd1 p i < 2 ^ i := by
  have hlt : rd1 p i < 2 ^ (i + 1) := by
    unfold rd1
    split
    · refine Nat.xor_lt_two_pow h ?_
      refine Nat.xor_lt_two_pow (Nat.xor_lt_two_pow (Nat.xor_lt_two_pow (Nat.xor_lt_two_pow ?_ ?_) ?_) ?_) ?_ <;> exact Nat.pow_lt_pow_right (by decide) (by omega)
    · exact h
  have hb : (rd1 p i).testBit i = false := by
    unfold rd1
    split
    · rename_i hp
      have e : 128 + (i - 128) = i := by omega
      rw [e]
      simp only [Nat.testBit_xor, Nat.testBit_two_pow, hp]
      have a0 : decide (i - 128 = i) = false := by simp; omega
      have a1 : decide (i - 128 + 1 = i) = false := by simp; omega
      have a2 : decide (i - 128 + 2 = i) = false := by simp; omega
      have a3 : decide (i - 128 + 7 = i) = false := by simp; omega
      rw [a0, a1, a2, a3]; simp
    · rename_i hp; simpa using hp
  have := top_bit hlt
  rw [hb] at this
  rw [this]
  simp only [Bool.false_eq_true, if_false, Nat.xor_zero]
  exact Nat.mod_lt _ (Nat.two_pow_pos i)
theorem rd1_gE (p i : Nat) (hi : 128 ≤ i) (h : i < 255) : gE (rd1 p i) 255 = gE p 255 := by
  unfold rd1
  split
  · rw [gE_xor, gE_mod (i - 128) 255 (by omega), Nat.xor_zero]
  · rfl
theorem rdS_all {p : Nat} (h : p < 2 ^ 255) : ∀ n, n ≤ 127 → rdS p n < 2 ^ (255 - n) ∧ gE (rdS p n) 255 = gE p 255
  | 0, _ => ⟨h, rfl⟩
  | n + 1, hn => by
    obtain ⟨h1, h2⟩ := rdS_all h n (by omega)
    rw [rdS]
    refine ⟨?_, by rw [rd1_gE _ _ (by omega) (by omega), h2]⟩
    have := rd1_lt (p := rdS p n) (i := 254 - n) (by omega) (by rw [show 254 - n + 1 = 255 - n from by omega]; exact h1)
    rwa [show 255 - (n + 1) = 254 - n from by omega]
/-- The document's product is that. -/
theorem rdS_clS {x y : Nat} (hy : y < 2 ^ 128) : rdS (clS x y 128) 127 = gM y x := by
  obtain ⟨h1, h2⟩ := rdS_all (clS_lt (x := x) hy 128 (Nat.le_refl _)) 127 (Nat.le_refl _)
  rw [gE_low 128 (Nat.le_refl _) _ h1 255 (by decide), gE_clS hy 128 (Nat.le_refl _)] at h2
  exact h2
end Go.Proofs.Ytmimpodbmfmeiaa
