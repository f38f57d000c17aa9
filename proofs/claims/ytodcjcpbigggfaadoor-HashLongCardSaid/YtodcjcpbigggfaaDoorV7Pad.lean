/- Layer 7 (hash): a text, filled up, block by block. No program is named here. -/
import Derived.Test.YtodcjcpbigggfaaDoorV7Bits
namespace Go.Proofs.YtodcjcpbigggfaaDoor

theorem be8_len (n : Nat) : (be8 n).length = 8 := by simp [be8]
theorem be8_lt (n : Nat) : ∀ x ∈ be8 n, x < 256 := by
  intro x hx
  simp only [be8, List.mem_map] at hx
  obtain ⟨j, _, rfl⟩ := hx
  exact Nat.mod_lt _ (by decide)
/-- What is left of a text behind its whole blocks. -/
def tailN (l : List Nat) : List Nat := l.drop (64 * (l.length / 64))
theorem tailN_len (l : List Nat) : (tailN l).length = l.length % 64 := by simp [tailN]; omega
/-- The block that the text ends in, with the byte 128. -/
def lastN (l : List Nat) : List Nat := tailN l ++ 128 :: List.replicate (63 - l.length % 64) 0
theorem lastN_len (l : List Nat) : (lastN l).length = 64 := by simp [lastN, tailN_len]; omega
theorem tailN_lt {l : List Nat} (hl : ∀ x ∈ l, x < 256) : ∀ x ∈ tailN l, x < 256 := fun x hx => hl x (List.mem_of_mem_drop hx)
theorem lastN_lt {l : List Nat} (hl : ∀ x ∈ l, x < 256) : ∀ x ∈ lastN l, x < 256 := by
  intro x hx
  simp only [lastN, List.mem_append, List.mem_cons, List.mem_replicate] at hx
  rcases hx with h | rfl | ⟨_, rfl⟩
  · exact tailN_lt hl x h
  · decide
  · decide
theorem blkN_lt {l : List Nat} (hl : ∀ x ∈ l, x < 256) (i : Nat) : ∀ x ∈ blkN l i, x < 256 := fun x hx => hl x (List.mem_of_mem_drop (List.mem_of_mem_take hx))
theorem blkN_len (l : List Nat) (i : Nat) (hi : i < l.length / 64) : (blkN l i).length = 64 := by simp [blkN]; omega
theorem blkN_app (l m : List Nat) (i : Nat) (hi : i < l.length / 64) : blkN (l ++ m) i = blkN l i := by
  unfold blkN
  rw [List.drop_append_of_le_length (by omega), List.take_append_of_le_length (by simp; omega)]
theorem runN_app (s : St8) (l m : List Nat) : ∀ k, k ≤ l.length / 64 → runN s (l ++ m) k = runN s l k
  | 0, _ => rfl
  | k + 1, h => by rw [runN, runN, runN_app s l m k (by omega), blkN_app l m k (by omega)]
theorem drop_whole (l m : List Nat) : (l ++ m).drop (64 * (l.length / 64)) = tailN l ++ m := by
  rw [List.drop_append_of_le_length (by omega)]; rfl

/-- What stands behind a text. -/
def padT (ahead : Nat) (l : List Nat) : List Nat := 128 :: (List.replicate (padZ l.length) 0 ++ be8 (8 * (ahead + l.length)))
theorem padN_eq (ahead : Nat) (l : List Nat) : padN ahead l = l ++ padT ahead l := rfl
theorem padT_len (ahead : Nat) (l : List Nat) : (padT ahead l).length = padZ l.length + 9 := by simp [padT, be8_len]
theorem padN_blocks (ahead : Nat) (l : List Nat) : (padN ahead l).length / 64 = l.length / 64 + (if l.length % 64 < 56 then 1 else 2) := by
  rw [padN_eq, List.length_append, padT_len, padZ]
  split <;> omega

theorem dig_short (s : St8) (ahead : Nat) (l : List Nat) (h : l.length % 64 < 56) :
    digN s ahead l = bytesN (turnN (runN s l (l.length / 64)) ((lastN l).take 56 ++ be8 (8 * (ahead + l.length)))) := by
  unfold digN
  rw [padN_blocks, if_pos h, runN, padN_eq, runN_app s l _ _ (Nat.le_refl _)]
  congr 2
  unfold blkN
  rw [drop_whole, List.take_of_length_le (by rw [List.length_append, tailN_len, padT_len, padZ, if_pos h]; omega)]
  unfold padT lastN padZ
  rw [if_pos h, List.take_append, List.take_of_length_le (by rw [tailN_len]; omega), tailN_len, show 56 - l.length % 64 = (55 - l.length % 64) + 1 from by omega, List.take_succ_cons, List.take_replicate, Nat.min_eq_left (by omega)]
  simp

theorem dig_long (s : St8) (ahead : Nat) (l : List Nat) (h : 56 ≤ l.length % 64) :
    digN s ahead l = bytesN (turnN (turnN (runN s l (l.length / 64)) (lastN l)) (List.replicate 56 0 ++ be8 (8 * (ahead + l.length)))) := by
  have hn : ¬ l.length % 64 < 56 := by omega
  have hm : l.length % 64 < 64 := Nat.mod_lt _ (by decide)
  have hz : List.replicate (padZ l.length) 0 = List.replicate (63 - l.length % 64) 0 ++ List.replicate 56 0 := by
    rw [List.replicate_append_replicate, padZ, if_neg hn]
    congr 1
    omega
  have hp : tailN l ++ padT ahead l = lastN l ++ (List.replicate 56 0 ++ be8 (8 * (ahead + l.length))) := by
    unfold padT lastN
    rw [hz]
    simp
  unfold digN
  rw [padN_blocks, if_neg hn, show l.length / 64 + 2 = (l.length / 64 + 1) + 1 from rfl, runN, runN, padN_eq, runN_app s l _ _ (Nat.le_refl _)]
  have h1 : blkN (l ++ padT ahead l) (l.length / 64) = lastN l := by
    unfold blkN
    rw [drop_whole, hp, List.take_append_of_le_length (by rw [lastN_len]; omega), List.take_of_length_le (by rw [lastN_len]; omega)]
  have h2 : blkN (l ++ padT ahead l) (l.length / 64 + 1) = List.replicate 56 0 ++ be8 (8 * (ahead + l.length)) := by
    unfold blkN
    rw [show 64 * (l.length / 64 + 1) = 64 * (l.length / 64) + 64 from by omega, ← List.drop_drop, drop_whole, hp, List.drop_append_of_le_length (by rw [lastN_len]; omega), List.drop_of_length_le (by rw [lastN_len]; omega), List.nil_append, List.take_of_length_le (by simp [be8_len])]
  rw [h1, h2]

theorem digN_len (s : St8) (ahead : Nat) (l : List Nat) : (digN s ahead l).length = 32 := bytesN_len _
theorem digN_lt (s : St8) (ahead : Nat) (l : List Nat) : ∀ x ∈ digN s ahead l, x < 256 := bytesN_lt _

/-- The last bytes, as far as they are laid. -/
def cntP (b : List Nat) (n i : Nat) : List Nat := b.take (64 - i) ++ (be8 n).drop (8 - i)
theorem cntP_len (b : List Nat) (n i : Nat) (hb : b.length = 64) (hi : i ≤ 8) : (cntP b n i).length = 64 := by simp [cntP, be8_len]; omega
theorem cntP_0 (b : List Nat) (n : Nat) (hb : b.length = 64) : cntP b n 0 = b := by
  unfold cntP
  rw [List.take_of_length_le (by omega), List.drop_of_length_le (by rw [be8_len]; omega), List.append_nil]
theorem cntP_8 (b : List Nat) (n : Nat) : cntP b n 8 = b.take 56 ++ be8 n := rfl
theorem cntP_set (b : List Nat) (n i : Nat) (hb : b.length = 64) (hi : i < 8) : (cntP b n i).set (63 - i) (n / 2 ^ (8 * i) % 256) = cntP b n (i + 1) := by
  have h1 : b.take (64 - i) = b.take (63 - i) ++ [b.getD (63 - i) 0] := by
    rw [show 64 - i = (63 - i) + 1 from by omega, List.take_succ_eq_append_getElem (by omega)]
    simp [List.getD_eq_getElem?_getD, show 63 - i < b.length from by omega]
  have h2 : (be8 n).drop (8 - (i + 1)) = (n / 2 ^ (8 * i) % 256) :: (be8 n).drop (8 - i) := by
    rw [List.drop_eq_getElem_cons (by rw [be8_len]; omega), show 8 - (i + 1) + 1 = 8 - i from by omega]
    congr 1
    simp only [be8, List.getElem_map, List.getElem_range]
    rw [show 7 - (8 - (i + 1)) = i from by omega]
  unfold cntP
  rw [h1, h2, List.append_assoc, List.set_append_right _ _ (by rw [List.length_take]; omega), show 63 - i - (b.take (63 - i)).length = 0 from by simp; omega, show 64 - (i + 1) = 63 - i from by omega]
  rfl
end Go.Proofs.YtodcjcpbigggfaaDoor
