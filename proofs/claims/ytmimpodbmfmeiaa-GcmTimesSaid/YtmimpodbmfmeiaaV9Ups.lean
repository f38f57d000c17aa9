/- Layer 9 (gcm), plain: a polynomial's powers of x one behind the other. No program is named here. -/
import Derived.Test.YtmimpodbmfmeiaaV9Poly
namespace Go.Proofs.Ytmimpodbmfmeiaa

/-- The powers below m. -/
def upto (n m : Nat) : List Nat := (List.range m).filter fun i => n.testBit i
theorem upto_0 (n : Nat) : upto n 0 = [] := rfl
theorem upto_succ (n m : Nat) (h : n.testBit m = true) : upto n (m + 1) = upto n m ++ [m] := by
  unfold upto
  rw [List.range_succ, List.filter_append]
  simp [h]
theorem upto_none (n m : Nat) (h : n.testBit m = false) : upto n (m + 1) = upto n m := by
  unfold upto
  rw [List.range_succ, List.filter_append]
  simp [h]
theorem upto_gap (n m : Nat) : ∀ d, (∀ j, m ≤ j → j < m + d → n.testBit j = false) → upto n (m + d) = upto n m
  | 0, _ => rfl
  | d + 1, h => by
    rw [← Nat.add_assoc, upto_none _ _ (h _ (by omega) (by omega))]
    exact upto_gap n m d fun j h1 h2 => h j h1 (by omega)
theorem upto_len (n m : Nat) : (upto n m).length ≤ m := by
  have := List.length_filter_le (fun i => n.testBit i) (List.range m)
  simpa [upto] using this
/-- The product, power by power. -/
def sumUp (a : Nat) (l : List Nat) : Nat := l.foldl (fun s i => s ^^^ gP a i) 0
theorem sumUp_snoc (a : Nat) (l : List Nat) (i : Nat) : sumUp a (l ++ [i]) = sumUp a l ^^^ gP a i := by simp [sumUp]
theorem sumUp_upto (a n : Nat) : ∀ m, sumUp a (upto n m) = gS a n m
  | 0 => rfl
  | m + 1 => by
    rw [gS, ← sumUp_upto a n m]
    cases h : n.testBit m
    · rw [upto_none n m h]; simp
    · rw [upto_succ n m h, sumUp_snoc]; simp

/-- A word of the two. -/
def wordN (n i : Nat) : Nat := if i = 0 then fW n else lW n
theorem wordN_lt (n i : Nat) : wordN n i < 2 ^ 64 := by
  unfold wordN
  by_cases h : i = 0
  · rw [if_pos h]; exact fW_lt n
  · rw [if_neg h]; exact lW_lt n
theorem wordN_bit (n i k : Nat) (hi : i < 2) (hk : k < 64) : (wordN n i).testBit k = n.testBit (64 * i + 63 - k) := by
  unfold wordN
  rcases (by omega : i = 0 ∨ i = 1) with rfl | rfl
  · rw [if_pos rfl, fW_bit, decide_eq_true hk, Bool.true_and]
  · rw [if_neg (by decide), lW_bit, decide_eq_true hk, Bool.true_and]
/-- What is left of a word behind m places. -/
theorem left_none (n i m : Nat) (hi : i < 2) (hm : m ≤ 64) (h : wordN n i % 2 ^ (64 - m) = 0) : upto n (64 * i + 64) = upto n (64 * i + m) := by
  rw [show 64 * i + 64 = 64 * i + m + (64 - m) from by omega]
  refine upto_gap n _ _ fun j h1 h2 => ?_
  have hb : (wordN n i % 2 ^ (64 - m)).testBit (64 * i + 63 - j) = false := by rw [h]; exact Nat.zero_testBit _
  rw [Nat.testBit_mod_two_pow, decide_eq_true (by omega), Bool.true_and, wordN_bit n i _ hi (by omega)] at hb
  rwa [show 64 * i + 63 - (64 * i + 63 - j) = j from by omega] at hb
theorem left_some (n i m wd : Nat) (hi : i < 2) (hm : m ≤ 64) (hw : wordN n i % 2 ^ (64 - m) = wd) (h : wd ≠ 0) :
    ∃ p q, m ≤ p ∧ p < 64 ∧ q + p = 63 ∧ Nat.log2 wd = q ∧ upto n (64 * i + (p + 1)) = upto n (64 * i + m) ++ [64 * i + p] ∧ wd ^^^ 2 ^ q = wordN n i % 2 ^ (64 - (p + 1)) := by
  obtain ⟨h1, h2⟩ := (Nat.log2_eq_iff h).1 rfl
  have hlt : wd < 2 ^ (64 - m) := by rw [← hw]; exact Nat.mod_lt _ (Nat.two_pow_pos _)
  have hq : Nat.log2 wd < 64 - m := (Nat.pow_lt_pow_iff_right (by decide)).1 (Nat.lt_of_le_of_lt h1 hlt)
  generalize Nat.log2 wd = q at h1 h2 hq ⊢
  have hbit : ∀ k, k < 64 - m → wd.testBit k = n.testBit (64 * i + 63 - k) := fun k hk => by
    rw [← hw, Nat.testBit_mod_two_pow, decide_eq_true hk, Bool.true_and, wordN_bit n i k hi (by omega)]
  have htop : wd.testBit q = true := by
    cases hb : wd.testBit q
    · exfalso
      have e := top_bit h2
      rw [hb] at e
      simp only [Bool.false_eq_true, if_false, Nat.xor_zero] at e
      have := Nat.mod_lt wd (Nat.two_pow_pos q)
      omega
    · rfl
  refine ⟨63 - q, q, by omega, by omega, by omega, rfl, ?_, ?_⟩
  · rw [← Nat.add_assoc, upto_succ n _ (by rw [← htop, hbit q hq]; congr 1; omega)]
    congr 1
    rw [show 64 * i + (63 - q) = 64 * i + m + (63 - q - m) from by omega]
    refine upto_gap n _ _ fun j g1 g2 => ?_
    have := hbit (64 * i + 63 - j) (by omega)
    rw [show 64 * i + 63 - (64 * i + 63 - j) = j from by omega] at this
    rw [← this]
    exact Nat.testBit_lt_two_pow (Nat.lt_of_lt_of_le h2 (Nat.pow_le_pow_right (by decide) (by omega)))
  · have e := top_bit h2
    rw [htop, if_pos rfl] at e
    have e2 : wd ^^^ 2 ^ q = wd % 2 ^ q := by
      have := congrArg (fun z => z ^^^ 2 ^ q) e
      simp only [Nat.xor_assoc, Nat.xor_self, Nat.xor_zero] at this
      exact this
    rw [e2, ← hw, show 64 - (63 - q + 1) = q from by omega]
    exact Nat.mod_mod_of_dvd _ (Nat.pow_dvd_pow 2 (by omega))
end Go.Proofs.Ytmimpodbmfmeiaa
