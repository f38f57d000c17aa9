/- Layer 8 (aes): the document's state lies row by row: what its steps come to. No program is named here. -/
import Derived.Test.YtbohpnbiemokpaaV8Inj
namespace Go.Proofs.Ytbohpnbiemokpaa

/-- Where a place lies in the other order. -/
def posT (j : Nat) : Nat := j % 4 * 4 + j / 4
theorem posT_lt {j : Nat} (h : j < 16) : posT j < 16 := by unfold posT; omega
theorem posT_posT {j : Nat} (h : j < 16) : posT (posT j) = j := by unfold posT; omega
/-- A list filled in the other order, up to k. -/
def trP (f : Nat → Nat) (l : List Nat) (k : Nat) : List Nat := (List.range 16).map fun j => if posT j < k then f (posT j) else l.getD j 0
theorem trP_len (f : Nat → Nat) (l : List Nat) (k : Nat) : (trP f l k).length = 16 := by simp [trP]
theorem trP_0 (f : Nat → Nat) (l : List Nat) (h : l.length = 16) : trP f l 0 = l := by
  unfold trP
  simp only [Nat.not_lt_zero, if_false]
  exact list_eta l 16 h
theorem trP_set (f : Nat → Nat) (l : List Nat) (k : Nat) (h : k < 16) : (trP f l k).set (posT k) (f k) = trP f l (k + 1) := by
  apply List.ext_getElem
  · simp [trP]
  intro i h1 h2
  rw [List.getElem_set]
  simp only [trP, List.getElem_map, List.getElem_range]
  have hi : i < 16 := by simpa [trP] using h2
  by_cases e : posT k = i
  · subst e
    rw [if_pos rfl, posT_posT h, if_pos (by omega)]
  · rw [if_neg e]
    have : posT i ≠ k := fun x => e (by rw [← x, posT_posT hi])
    by_cases e2 : posT i < k
    · rw [if_pos e2, if_pos (by omega)]
    · rw [if_neg e2, if_neg (by omega)]
/-- A block in the other order. -/
def trB (l : List Nat) : List Nat := (List.range 16).map fun j => l.getD (posT j) 0
theorem trB_len (l : List Nat) : (trB l).length = 16 := by simp [trB]
theorem trB_get (l : List Nat) (j : Nat) (h : j < 16) : (trB l).getD j 0 = l.getD (posT j) 0 := map_range_get _ 16 j h
theorem trP_all (f : Nat → Nat) (l : List Nat) : trP f l 16 = trB ((List.range 16).map f) := by
  unfold trP trB
  apply List.map_congr_left
  intro j hj
  have hj : j < 16 := List.mem_range.1 hj
  rw [if_pos (posT_lt hj), map_range_get f 16 _ (posT_lt hj)]
theorem trB_trB (l : List Nat) (h : l.length = 16) : trB (trB l) = l :=
  eq_of_at (trB_len _) h fun i hi => by rw [trB_get _ _ hi, trB_get _ _ (posT_lt hi), posT_posT hi]
theorem trB_lt {l : List Nat} (h : ∀ x ∈ l, x < 256) : ∀ x ∈ trB l, x < 256 := by
  intro x hx
  simp only [trB, List.mem_map] at hx
  obtain ⟨i, _, rfl⟩ := hx
  exact getD_lt h _ (by decide)
/-- Boxes, and rows turned. -/
def boxT (s : List Nat) (m : Nat) : Nat := sbox (s.getD (m / 4 * 4 + (m % 4 + m / 4) % 4) 0)
theorem boxT_all (s : List Nat) : (List.range 16).map (boxT (trB s)) = trB (shiftB (subB s)) :=
  eq_of_at (by simp) (trB_len _) fun i hi => by
    rw [map_range_get _ 16 i hi, trB_get _ _ hi, boxT, trB_get _ _ (by omega)]
    unfold shiftB subB
    rw [map_range_get _ 16 _ (posT_lt hi), map_range_get _ 16 _ (by omega)]
    unfold posT
    rw [(show ∀ i, i < 16 → (i / 4 * 4 + (i % 4 + i / 4) % 4) % 4 * 4 + (i / 4 * 4 + (i % 4 + i / 4) % 4) / 4 = (i % 4 * 4 + i / 4 + (i % 4 * 4 + i / 4) % 4 * 4) % 16 from by decide) i hi]
/-- Columns mixed, up to c. -/
def mixV4 (p q r s : Nat) : Nat := mulN p 2 ^^^ mulN q 3 ^^^ r ^^^ s
theorem mixV4_eq {p q : Nat} (r s : Nat) (hp : p < 256) (hq : q < 256) : mixV4 p q r s = mixC p q r s := by
  rw [mixV4, mixC, mul_two hp, mul_three hq, dbl_xor hp hq]
  simp only [Nat.xor_assoc, xor_lc]
def mixT (n : List Nat) (j : Nat) : Nat := mixC (n.getD (j / 4 * 4 + j % 4) 0) (n.getD ((j / 4 + 1) % 4 * 4 + j % 4) 0) (n.getD ((j / 4 + 2) % 4 * 4 + j % 4) 0) (n.getD ((j / 4 + 3) % 4 * 4 + j % 4) 0)
def mixP (n : List Nat) (c : Nat) : List Nat := (List.range 16).map fun j => if j % 4 < c then mixT n j else n.getD j 0
theorem mixP_len (n : List Nat) (c : Nat) : (mixP n c).length = 16 := by simp [mixP]
theorem mixP_0 (n : List Nat) (h : n.length = 16) : mixP n 0 = n := by
  unfold mixP
  simp only [Nat.not_lt_zero, if_false]
  exact list_eta n 16 h
theorem mixP_set (n : List Nat) (c : Nat) (h : c < 4) : ((((mixP n c).set c (mixT n c)).set (4 + c) (mixT n (4 + c))).set (8 + c) (mixT n (8 + c))).set (12 + c) (mixT n (12 + c)) = mixP n (c + 1) := by
  apply List.ext_getElem
  · simp [mixP]
  intro i h1 h2
  have hi : i < 16 := by simpa [mixP] using h2
  simp only [List.getElem_set, mixP, List.getElem_map, List.getElem_range]
  by_cases e3 : 12 + c = i
  · subst e3; rw [if_pos rfl, if_pos (by omega)]
  rw [if_neg e3]
  by_cases e2 : 8 + c = i
  · subst e2; rw [if_pos rfl, if_pos (by omega)]
  rw [if_neg e2]
  by_cases e1 : 4 + c = i
  · subst e1; rw [if_pos rfl, if_pos (by omega)]
  rw [if_neg e1]
  by_cases e0 : c = i
  · subst e0; rw [if_pos rfl, if_pos (by omega)]
  rw [if_neg e0]
  by_cases e : i % 4 < c
  · rw [if_pos e, if_pos (by omega)]
  · rw [if_neg e, if_neg (by omega)]
theorem mixP_all (n : List Nat) : mixP (trB n) 4 = trB (mixB n) :=
  eq_of_at (mixP_len _ _) (trB_len _) fun i hi => by
    unfold mixP
    rw [map_range_get _ 16 i hi, if_pos (Nat.mod_lt _ (by decide)), trB_get _ _ hi, mixB_get _ _ (posT_lt hi), mixT]
    rw [trB_get _ _ (by omega), trB_get _ _ (by omega), trB_get _ _ (by omega), trB_get _ _ (by omega)]
    unfold posT
    have e : ∀ k, k < 4 → ((i / 4 + k) % 4 * 4 + i % 4) % 4 * 4 + ((i / 4 + k) % 4 * 4 + i % 4) / 4 = (i % 4 * 4 + i / 4) / 4 * 4 + (i % 4 * 4 + i / 4 + k) % 4 := fun k hk => (show ∀ k, k < 4 → ∀ i, i < 16 → ((i / 4 + k) % 4 * 4 + i % 4) % 4 * 4 + ((i / 4 + k) % 4 * 4 + i % 4) / 4 = (i % 4 * 4 + i / 4) / 4 * 4 + (i % 4 * 4 + i / 4 + k) % 4 from by decide) k hk i hi
    rw [e 1 (by decide), e 2 (by decide), e 3 (by decide), show (i / 4 * 4 + i % 4) % 4 * 4 + (i / 4 * 4 + i % 4) / 4 = (i % 4 * 4 + i / 4) / 4 * 4 + (i % 4 * 4 + i / 4) % 4 from by omega]
/-- A step of the rounds, row by row. -/
theorem stepT (ks s : List Nat) (r : Nat) : (List.range 16).map (fun i => ((if r < 10 then mixP (trB (shiftB (subB s))) 4 else trB (shiftB (subB s))).getD (posT i) 0) ^^^ ks.getD (16 * r + i) 0) = stepB ks s r := by
  unfold stepB xorB
  apply List.map_congr_left
  intro i hi
  have hi : i < 16 := List.mem_range.1 hi
  have hd : (ks.drop (16 * r)).getD i 0 = ks.getD (16 * r + i) 0 := by rw [List.getD_eq_getElem?_getD, List.getD_eq_getElem?_getD, List.getElem?_drop]
  rw [hd]
  congr 1
  by_cases h : r < 10
  · rw [if_pos h, if_pos h, mixP_all, trB_get _ _ (posT_lt hi), posT_posT hi]
  · rw [if_neg h, if_neg h, trB_get _ _ (posT_lt hi), posT_posT hi]
end Go.Proofs.Ytbohpnbiemokpaa
