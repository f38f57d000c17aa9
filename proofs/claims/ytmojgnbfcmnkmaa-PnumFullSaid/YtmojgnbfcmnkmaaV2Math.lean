/- Layer 2 (pnum): what is cut is told again: the numbers alone. -/
import Derived.Test.YtmojgnbfcmnkmaaV2Full
namespace Go.Proofs.Ytmojgnbfcmnkmaa

theorem foldB_arr (n s : Nat) (h1 : 1 ≤ s) (h4 : s ≤ 4) : foldB 0 (arr n s s) = n % 2 ^ (8 * s) := by
  rcases isS_of h1 h4 with rfl | rfl | rfl | rfl <;> simp [arr, foldB, List.range_succ] <;> omega

theorem arr_lt (n s k : Nat) : ∀ x ∈ arr n s k, x < 256 := by
  intro x hx
  simp only [arr, List.mem_map, List.mem_range] at hx
  obtain ⟨j, _, rfl⟩ := hx
  split <;> omega

/-- Within half a window of what is expected, the number is told. -/
theorem tell_near (n E s : Nat) (h1 : 1 ≤ s) (h4 : s ≤ 4) (hn : n ≤ 4611686018427387903) (ha : (E : Int) - (half s : Nat) < n) (hb : (n : Int) ≤ E + (half s : Nat)) :
    tell (E : Int) ((cand E s (n % 2 ^ (8 * s)) : Nat) : Int) ((half s : Nat) : Int) = n := by
  rcases isS_of h1 h4 with rfl | rfl | rfl | rfl
  · rw [half_1] at *
    simp only [tell, cand, Nat.reduceMul, Nat.reducePow]
    (repeat' split) <;> omega
  · rw [half_2] at *
    simp only [tell, cand, Nat.reduceMul, Nat.reducePow]
    (repeat' split) <;> omega
  · rw [half_3] at *
    simp only [tell, cand, Nat.reduceMul, Nat.reducePow]
    (repeat' split) <;> omega
  · rw [half_4] at *
    simp only [tell, cand, Nat.reduceMul, Nat.reducePow]
    (repeat' split) <;> omega

/-- What is told has the low bytes, isn't less than 0, and lies within a window. -/
theorem tell_props (E s low : Nat) (h1 : 1 ≤ s) (h4 : s ≤ 4) (hl : low < 2 ^ (8 * s)) :
    0 ≤ tell (E : Int) ((cand E s low : Nat) : Int) ((half s : Nat) : Int) ∧ tell (E : Int) ((cand E s low : Nat) : Int) ((half s : Nat) : Int) % ((2 ^ (8 * s) : Nat) : Int) = low
    ∧ tell (E : Int) ((cand E s low : Nat) : Int) ((half s : Nat) : Int) - E < ((2 ^ (8 * s) : Nat) : Int) ∧ -((2 ^ (8 * s) : Nat) : Int) < tell (E : Int) ((cand E s low : Nat) : Int) ((half s : Nat) : Int) - E
    ∧ tell (E : Int) ((cand E s low : Nat) : Int) ((half s : Nat) : Int) ≤ E + 4294967296 := by
  rcases isS_of h1 h4 with rfl | rfl | rfl | rfl
  · rw [half_1]
    simp only [tell, cand, Nat.reduceMul, Nat.reducePow] at hl ⊢
    (repeat' split) <;> omega
  · rw [half_2]
    simp only [tell, cand, Nat.reduceMul, Nat.reducePow] at hl ⊢
    (repeat' split) <;> omega
  · rw [half_3]
    simp only [tell, cand, Nat.reduceMul, Nat.reducePow] at hl ⊢
    (repeat' split) <;> omega
  · rw [half_4]
    simp only [tell, cand, Nat.reduceMul, Nat.reducePow] at hl ⊢
    (repeat' split) <;> omega

/-- The number, told of its low bytes by whoever got la as the greatest one. -/
theorem full_cut (n s : Nat) (la : Int) (h1 : 1 ≤ s) (h4 : s ≤ 4) (hn : n ≤ 4611686018427387903) (hl0 : -1 ≤ la) (hl1 : la ≤ 4611686018427387903) (ha : la + 1 - (half s : Nat) < n) (hb : (n : Int) ≤ la + 1 + (half s : Nat)) :
    fullI la (cutB n s) = n := by
  have e : cutB n s = arr n s s := by
    unfold cutB
    rw [if_pos (by omega)]
    simp
  rw [e]
  unfold fullI
  rw [arr_len, if_pos ⟨h1, h4, hl0, hl1⟩, foldB_arr n s h1 h4]
  obtain ⟨E, hE⟩ : ∃ E : Nat, la + 1 = (E : Int) := ⟨(la + 1).toNat, by omega⟩
  rw [hE, Int.toNat_natCast]
  exact tell_near n E s h1 h4 hn (by omega) (by omega)

theorem lenD_range (d : Int) : 1 ≤ lenD d ∧ lenD d ≤ 4 := by
  unfold lenD
  (repeat' split) <;> omega
theorem lenD_half (d : Int) (h : d ≤ 1073741824) : d < (half (lenD d) : Nat) := by
  unfold lenD
  (repeat' split)
  · rw [half_1]; omega
  · rw [half_2]; omega
  · rw [half_3]; omega
  · rw [half_4]; omega
end Go.Proofs.Ytmojgnbfcmnkmaa
