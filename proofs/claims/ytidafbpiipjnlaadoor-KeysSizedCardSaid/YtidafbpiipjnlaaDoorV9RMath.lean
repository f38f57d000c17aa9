/- Layer 9 (gcm), plain: polynomials as lists of bits, as the document reckons. No program is named here. -/
import Derived.Test.YtidafbpiipjnlaaDoorKM

import Derived.Test.YtidafbpiipjnlaaDoorK0
namespace Go.Proofs.YtidafbpiipjnlaaDoor

/-- Go's ints as values. -/
def i64s (l : List Nat) : List Value := l.map fun (x : Nat) => Value.int .i64 (x : Int)
@[simp] theorem i64s_length (l : List Nat) : (i64s l).length = l.length := by simp [i64s]
theorem i64s_get (l : List Nat) (i : Nat) : (i64s l)[i]? = l[i]?.map fun (x : Nat) => Value.int .i64 (x : Int) := by simp [i64s]
theorem i64s_one (l : List Nat) : ∀ u ∈ i64s l, u.oneCell' = true := by
  intro u hu
  simp only [i64s, List.mem_map] at hu
  obtain ⟨x, _, rfl⟩ := hu
  rfl
theorem i64s_set (l : List Nat) (i v : Nat) : (i64s l).set i (.int .i64 (v : Int)) = i64s (l.set i v) := by simp [i64s, List.map_set]
theorem i64s_append (l m : List Nat) : i64s l ++ i64s m = i64s (l ++ m) := by simp [i64s]

def b01 (b : Bool) : Nat := if b then 1 else 0
theorem b01_lt (b : Bool) : b01 b < 2 := by cases b <;> decide
theorem b01_xor (a b : Bool) : b01 a ^^^ b01 b = b01 (a ^^ b) := by cases a <;> cases b <;> decide
/-- The first N bits of a number. -/
def bitsL (n N : Nat) : List Nat := (List.range N).map fun j => b01 (n.testBit j)
theorem bitsL_len (n N : Nat) : (bitsL n N).length = N := by simp [bitsL]
theorem bitsL_get (n N j : Nat) (h : j < N) : (bitsL n N).getD j 0 = b01 (n.testBit j) := by simp [bitsL, List.getD_eq_getElem?_getD, h]
theorem bitsL_zero (N : Nat) : bitsL 0 N = List.replicate N 0 := by
  unfold bitsL b01
  simp only [Nat.zero_testBit]
  rw [List.map_const']
  simp
theorem bitsL_succ (n N : Nat) : bitsL n (N + 1) = bitsL n N ++ [b01 (n.testBit N)] := by simp [bitsL, List.range_succ]
theorem bitsL_set (n N j : Nat) (b : Bool) : (bitsL n N).set j (b01 (n.testBit j) ^^^ b01 b) = bitsL (n ^^^ (if b then 2 ^ j else 0)) N := by
  apply List.ext_getElem (by simp [bitsL])
  intro i h1 h2
  rw [List.getElem_set]
  simp only [bitsL, List.getElem_map, List.getElem_range]
  by_cases e : j = i
  · subst e
    rw [if_pos rfl, b01_xor, Nat.testBit_xor]
    congr 2
    cases b <;> simp
  · rw [if_neg e, Nat.testBit_xor]
    have : (if b = true then 2 ^ j else 0).testBit i = false := by
      cases b
      · simp
      · rw [if_pos rfl, Nat.testBit_two_pow]; simpa using e
    rw [this, Bool.xor_false]
theorem bitsL_one (n N j : Nat) : (bitsL n N).set j (b01 (n.testBit j) ^^^ 1) = bitsL (n ^^^ 2 ^ j) N := bitsL_set n N j true
theorem bitsL_null (n N j : Nat) (h : n.testBit j = true) : (bitsL n N).set j 0 = bitsL (n ^^^ 2 ^ j) N := by
  have := bitsL_one n N j
  rwa [h] at this
/-- A bit of a block, as the document finds it. -/
theorem polBit_div (l : List Nat) (i : Nat) : l.getD (i / 8) 0 / 2 ^ (7 - i % 8) % 2 = b01 (polBit l i) := by
  unfold polBit b01
  rw [Nat.testBit_eq_decide_div_mod_eq]
  have := Nat.mod_lt (l.getD (i / 8) 0 / 2 ^ (7 - i % 8)) (show 0 < 2 by decide)
  by_cases h : l.getD (i / 8) 0 / 2 ^ (7 - i % 8) % 2 = 1
  · rw [h]; simp
  · rw [show l.getD (i / 8) 0 / 2 ^ (7 - i % 8) % 2 = 0 from by omega]; simp
theorem polB_bit (l : List Nat) (i : Nat) (h : i < 128) : (polB l).testBit i = polBit l i := by
  unfold polB
  rw [ofB_bit, decide_eq_true h, Bool.true_and]
/-- A part of a product: the powers below i whole, of the i-th one the low k. -/
def clP (x y i k : Nat) : Nat := clS x y i ^^^ (if x.testBit i then (y % 2 ^ k) <<< i else 0)
theorem clP_0 (x y i : Nat) : clP x y i 0 = clS x y i := by
  unfold clP
  rw [Nat.pow_zero, Nat.mod_one, Nat.zero_shiftLeft]
  split <;> rw [Nat.xor_zero]
theorem clP_none (x y i k : Nat) (h : x.testBit i = false) : clP x y i k = clS x y (i + 1) := by
  unfold clP
  rw [clS, h]; simp
theorem clP_all (x y i : Nat) (hy : y < 2 ^ 128) : clP x y i 128 = clS x y (i + 1) := by
  unfold clP
  rw [clS, Nat.mod_eq_of_lt hy]
theorem mod_succ_bit (y k : Nat) : y % 2 ^ (k + 1) = y % 2 ^ k ^^^ (if y.testBit k then 2 ^ k else 0) := by
  have h := top_bit (a := y % 2 ^ (k + 1)) (n := k) (Nat.mod_lt _ (Nat.two_pow_pos _))
  rw [Nat.testBit_mod_two_pow, decide_eq_true (Nat.lt_succ_self k), Bool.true_and, Nat.mod_mod_of_dvd _ (Nat.pow_dvd_pow 2 (Nat.le_succ k))] at h
  exact h
theorem clP_succ (x y i k : Nat) (h : x.testBit i = true) : clP x y i (k + 1) = clP x y i k ^^^ (if y.testBit k then 2 ^ (i + k) else 0) := by
  unfold clP
  rw [h, if_pos rfl, if_pos rfl, mod_succ_bit, Nat.shiftLeft_xor_distrib, Nat.xor_assoc]
  congr 2
  split
  · rw [Nat.shiftLeft_eq, ← Nat.pow_add, Nat.add_comm]
  · rw [Nat.zero_shiftLeft]
/-- Bytes out of bits, the first i of them laid. -/
def outB (n i j : Nat) : Nat := if 8 * (j + 1) ≤ i then byteN n j else if 8 * j ≤ i then byteN n j / 2 ^ (8 * (j + 1) - i) else 0
def outL (n i : Nat) : List Nat := (List.range 16).map (outB n i)
theorem outL_len (n i : Nat) : (outL n i).length = 16 := by simp [outL]
theorem outL_0 (n : Nat) : outL n 0 = List.replicate 16 0 := by
  apply List.ext_getElem (by simp [outL])
  intro j h1 h2
  simp only [outL, List.getElem_map, List.getElem_range, List.getElem_replicate]
  unfold outB
  rw [if_neg (by omega)]
  split
  · rename_i h
    rw [show j = 0 from by omega]
    exact Nat.div_eq_of_lt (byteN_lt n 0)
  · rfl
theorem outL_all (n : Nat) : outL n 128 = bpol n := by
  unfold outL bpol
  apply List.map_congr_left
  intro j hj
  have := List.mem_range.1 hj
  unfold outB
  rw [if_pos (by omega)]
theorem outB_step (n i : Nat) : outB n i (i / 8) * 2 + b01 (n.testBit i) = outB n (i + 1) (i / 8) := by
  have hb : (byteN n (i / 8)).testBit (7 - i % 8) = n.testBit i := by
    unfold byteN
    rw [ofB_bit, decide_eq_true (by omega), Bool.true_and]
    congr 1
    omega
  have hd : byteN n (i / 8) / 2 ^ (7 - i % 8) = byteN n (i / 8) / 2 ^ (8 - i % 8) * 2 + b01 (n.testBit i) := by
    rw [← hb, show 8 - i % 8 = (7 - i % 8) + 1 from by omega, Nat.pow_succ, ← Nat.div_div_eq_div_mul]
    have e : b01 ((byteN n (i / 8)).testBit (7 - i % 8)) = byteN n (i / 8) / 2 ^ (7 - i % 8) % 2 := by
      unfold b01
      rw [Nat.testBit_eq_decide_div_mod_eq]
      by_cases h : byteN n (i / 8) / 2 ^ (7 - i % 8) % 2 = 1
      · rw [h]; simp
      · rw [show byteN n (i / 8) / 2 ^ (7 - i % 8) % 2 = 0 from by omega]; simp
    rw [e]
    omega
  unfold outB
  rw [if_neg (by omega), if_pos (by omega), show 8 * (i / 8 + 1) - i = 8 - i % 8 from by omega, ← hd]
  by_cases h : 8 * (i / 8 + 1) ≤ i + 1
  · rw [if_pos h, show 7 - i % 8 = 0 from by omega, Nat.pow_zero, Nat.div_one]
  · rw [if_neg h, if_pos (by omega), show 8 * (i / 8 + 1) - (i + 1) = 7 - i % 8 from by omega]
theorem outL_set (n i : Nat) (_h : i < 128) : (outL n i).set (i / 8) (outB n (i + 1) (i / 8)) = outL n (i + 1) := by
  apply List.ext_getElem (by simp [outL])
  intro j h1 h2
  rw [List.getElem_set]
  simp only [outL, List.getElem_map, List.getElem_range]
  by_cases e : i / 8 = j
  · subst e; rw [if_pos rfl]
  · rw [if_neg e]
    unfold outB
    by_cases h3 : 8 * (j + 1) ≤ i
    · rw [if_pos h3, if_pos (by omega)]
    · rw [if_neg h3, if_neg (show ¬ 8 * (j + 1) ≤ i + 1 by omega)]
      by_cases h4 : 8 * j ≤ i
      · omega
      · rw [if_neg h4]
        by_cases h5 : 8 * j ≤ i + 1
        · rw [if_pos h5, show 8 * (j + 1) - (i + 1) = 8 from by omega]
          exact (Nat.div_eq_of_lt (byteN_lt n j)).symm
        · rw [if_neg h5]
theorem outB_lt (n i j : Nat) : outB n i j < 256 := by
  unfold outB
  have := byteN_lt n j
  split
  · exact this
  · split
    · exact Nat.lt_of_le_of_lt (Nat.div_le_self _ _) this
    · decide
theorem bitsL_flip (n m N j : Nat) (h : n.testBit j = m.testBit j) : (bitsL n N).set j (b01 (m.testBit j) ^^^ 1) = bitsL (n ^^^ 2 ^ j) N := by rw [← h]; exact bitsL_one n N j
/-- One factor reduced. -/
theorem bitsL_rd (p i j : Nat) (hi : i = 128 + j) (h : p.testBit i = true) : (((((bitsL p 255).set i 0).set j (b01 (p.testBit j) ^^^ 1)).set (j + 1) (b01 (p.testBit (j + 1)) ^^^ 1)).set (j + 2) (b01 (p.testBit (j + 2)) ^^^ 1)).set (j + 7) (b01 (p.testBit (j + 7)) ^^^ 1) = bitsL (rd1 p i) 255 := by
  have tb : ∀ (n a c : Nat), a ≠ c → (n ^^^ 2 ^ a).testBit c = n.testBit c := fun n a c hn => by
    rw [Nat.testBit_xor, Nat.testBit_two_pow, decide_eq_false hn, Bool.xor_false]
  rw [bitsL_null p 255 i h, bitsL_flip _ p 255 j (tb _ _ _ (by omega)), bitsL_flip _ p 255 (j + 1) (by rw [tb _ _ _ (by omega), tb _ _ _ (by omega)]), bitsL_flip _ p 255 (j + 2) (by rw [tb _ _ _ (by omega), tb _ _ _ (by omega), tb _ _ _ (by omega)]), bitsL_flip _ p 255 (j + 7) (by rw [tb _ _ _ (by omega), tb _ _ _ (by omega), tb _ _ _ (by omega), tb _ _ _ (by omega)])]
  unfold rd1
  rw [if_pos h, show i - 128 = j from by omega, ← hi]
  congr 1
  simp only [Nat.xor_assoc]
theorem rd1_none (p i : Nat) (h : p.testBit i = false) : rd1 p i = p := by unfold rd1; rw [h]; rfl
end Go.Proofs.YtidafbpiipjnlaaDoor
