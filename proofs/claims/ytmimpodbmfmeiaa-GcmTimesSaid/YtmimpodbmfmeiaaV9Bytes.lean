/- Layer 9 (gcm), plain: blocks of 16 bytes as polynomials. No program is named here. -/
import Derived.WalkKit
namespace Go.Proofs.Ytmimpodbmfmeiaa

/-- The number of these bits. -/
def ofB (f : Nat → Bool) : Nat → Nat
  | 0 => 0
  | n + 1 => ofB f n ^^^ (if f n then 2 ^ n else 0)
theorem ofB_bit (f : Nat → Bool) (i : Nat) : ∀ n, (ofB f n).testBit i = (decide (i < n) && f i)
  | 0 => by simp [ofB]
  | n + 1 => by
    rw [ofB, Nat.testBit_xor, ofB_bit f i n]
    by_cases e : i = n
    · subst e
      cases hf : f i
      · simp
      · simp
    · have : (if f n = true then 2 ^ n else 0).testBit i = false := by
        split
        · rw [Nat.testBit_two_pow]; simp; omega
        · exact Nat.zero_testBit i
      rw [this, Bool.xor_false]
      congr 1
      rw [decide_eq_decide]; omega
theorem ofB_lt (f : Nat → Bool) : ∀ n, ofB f n < 2 ^ n
  | 0 => by rw [ofB]; decide
  | n + 1 => by
    rw [ofB]
    refine Nat.xor_lt_two_pow (Nat.lt_of_lt_of_le (ofB_lt f n) (Nat.pow_le_pow_right (by decide) (Nat.le_succ n))) ?_
    split
    · exact Nat.pow_lt_pow_right (by decide) (Nat.lt_succ_self n)
    · exact Nat.two_pow_pos _
theorem ofB_eq {n x : Nat} (h : x < 2 ^ n) {f : Nat → Bool} (hf : ∀ i, i < n → f i = x.testBit i) : ofB f n = x := by
  apply Nat.eq_of_testBit_eq
  intro i
  rw [ofB_bit]
  by_cases hi : i < n
  · rw [decide_eq_true hi, Bool.true_and, hf i hi]
  · rw [decide_eq_false hi, Bool.false_and]
    exact (Nat.testBit_lt_two_pow (Nat.lt_of_lt_of_le h (Nat.pow_le_pow_right (by decide) (by omega)))).symm
theorem ofB_congr {n : Nat} {f g : Nat → Bool} (h : ∀ i, i < n → f i = g i) : ofB f n = ofB g n :=
  ofB_eq (ofB_lt g n) fun i hi => by rw [ofB_bit, decide_eq_true hi, Bool.true_and, h i hi]
theorem ofB_xor (f g : Nat → Bool) (n : Nat) : ofB (fun i => f i ^^ g i) n = ofB f n ^^^ ofB g n :=
  ofB_eq (Nat.xor_lt_two_pow (ofB_lt f n) (ofB_lt g n)) fun i hi => by rw [Nat.testBit_xor, ofB_bit, ofB_bit, decide_eq_true hi, Bool.true_and, Bool.true_and]

/-- A block's polynomial, and back. -/
def polBit (l : List Nat) (i : Nat) : Bool := (l.getD (i / 8) 0).testBit (7 - i % 8)
def polB (l : List Nat) : Nat := ofB (polBit l) 128
def byteN (n j : Nat) : Nat := ofB (fun k => n.testBit (8 * j + (7 - k))) 8
def bpol (n : Nat) : List Nat := (List.range 16).map (byteN n)
theorem bpol_len (n : Nat) : (bpol n).length = 16 := by simp [bpol]
theorem byteN_lt (n j : Nat) : byteN n j < 256 := ofB_lt _ 8
theorem bpol_lt (n : Nat) : ∀ x ∈ bpol n, x < 256 := by
  intro x hx
  simp only [bpol, List.mem_map] at hx
  obtain ⟨j, _, rfl⟩ := hx
  exact byteN_lt n j
theorem bpol_get (n j : Nat) (h : j < 16) : (bpol n).getD j 0 = byteN n j := by simp [bpol, List.getD_eq_getElem?_getD, h]
theorem polB_lt (l : List Nat) : polB l < 2 ^ 128 := ofB_lt _ 128
theorem polB_nblk {n : Nat} (h : n < 2 ^ 128) : polB (bpol n) = n :=
  ofB_eq h fun i hi => by
    unfold polBit
    rw [bpol_get _ _ (by omega), byteN, ofB_bit, decide_eq_true (by omega), Bool.true_and]
    congr 1
    omega
theorem bpol_polB {l : List Nat} (h : l.length = 16) (hb : ∀ x ∈ l, x < 256) : bpol (polB l) = l := by
  apply List.ext_getElem (by rw [bpol_len, h])
  intro j h1 h2
  have hj : j < 16 := by rw [bpol_len] at h1; exact h1
  have e1 : (bpol (polB l))[j] = byteN (polB l) j := by
    have := bpol_get (polB l) j hj
    rw [List.getD_eq_getElem?_getD, List.getElem?_eq_getElem h1] at this
    exact this
  refine e1.trans ?_
  refine ofB_eq (n := 8) (hb _ (List.getElem_mem h2)) fun k hk => ?_
  unfold polB
  rw [ofB_bit, decide_eq_true (by omega), Bool.true_and]
  unfold polBit
  rw [show (8 * j + (7 - k)) / 8 = j from by omega, show 7 - (8 * j + (7 - k)) % 8 = k from by omega, List.getD_eq_getElem?_getD, List.getElem?_eq_getElem h2]
  rfl
theorem polB_xor (l m : List Nat) : polB ((List.range 16).map fun i => l.getD i 0 ^^^ m.getD i 0) = polB l ^^^ polB m := by
  unfold polB
  rw [← ofB_xor]
  refine ofB_congr fun i hi => ?_
  have hi16 : i / 8 < 16 := by omega
  have e : ((List.range 16).map fun i => l.getD i 0 ^^^ m.getD i 0).getD (i / 8) 0 = l.getD (i / 8) 0 ^^^ m.getD (i / 8) 0 := by simp [List.getD_eq_getElem?_getD, hi16]
  unfold polBit
  rw [e, Nat.testBit_xor]
theorem bpol_xor (a b : Nat) : bpol (a ^^^ b) = (List.range 16).map fun i => (bpol a).getD i 0 ^^^ (bpol b).getD i 0 := by
  unfold bpol
  apply List.map_congr_left
  intro j hj
  have hj : j < 16 := List.mem_range.1 hj
  have ea := bpol_get a j hj
  have eb := bpol_get b j hj
  unfold bpol at ea eb
  rw [ea, eb]
  unfold byteN
  rw [← ofB_xor]
  exact ofB_congr fun k _ => Nat.testBit_xor ..
theorem polB_one : polB [128, 0, 0, 0, 0, 0, 0, 0, 0, 0, 0, 0, 0, 0, 0, 0] = 1 := by decide +kernel
theorem polB_zero : polB [0, 0, 0, 0, 0, 0, 0, 0, 0, 0, 0, 0, 0, 0, 0, 0] = 0 := by decide +kernel
theorem bpol_zero : bpol 0 = [0, 0, 0, 0, 0, 0, 0, 0, 0, 0, 0, 0, 0, 0, 0, 0] := by decide +kernel
end Go.Proofs.Ytmimpodbmfmeiaa
