/- Layer 8 (aes): round keys, word by word. No program is named here. -/
import Derived.Test.YtmimpodbmfmeiaaV8Math
namespace Go.Proofs.Ytmimpodbmfmeiaa

theorem rcon_lt : ∀ k, rcon k < 256
  | 0 => by simp [rcon]
  | k + 1 => dbl_lt (rcon_lt k)
theorem keysN_len (key : List Nat) : ∀ m, (keysN key m).length = m
  | 0 => rfl
  | m + 1 => by rw [keysN, List.length_append, keysN_len key m]; rfl
theorem keysN_pre (key : List Nat) (m i : Nat) (h : i < m) : ∀ j, (keysN key (m + j)).getD i 0 = (keysN key m).getD i 0
  | 0 => rfl
  | j + 1 => by
    rw [← Nat.add_assoc, keysN, List.getD_eq_getElem?_getD, List.getElem?_append_left (by rw [keysN_len]; omega), ← List.getD_eq_getElem?_getD, keysN_pre key m i h j]
theorem keysN_take (key : List Nat) (hk : key.length = 16) : ∀ m, m ≤ 16 → keysN key m = key.take m
  | 0, _ => rfl
  | m + 1, h => by
    rw [keysN, keysN_take key hk m (by omega), keyAt, if_pos (by omega), List.take_succ_eq_append_getElem (by omega)]
    simp [List.getD_eq_getElem?_getD, show m < key.length from by omega]
theorem keyAt_lt {key l : List Nat} (hk : ∀ x ∈ key, x < 256) (hl : ∀ x ∈ l, x < 256) (m : Nat) : keyAt key l m < 256 := by
  have g : ∀ {l : List Nat} (_ : ∀ x ∈ l, x < 256) (i : Nat), l.getD i 0 < 256 := by
    intro l h i
    rw [List.getD_eq_getElem?_getD]
    cases hi : l[i]? with
    | none => decide
    | some x => exact h x (List.mem_of_getElem? hi)
  unfold keyAt
  split
  · exact g hk _
  · refine xor8_lt (g hl _) ?_
    split
    · split
      · exact xor8_lt (sbox_lt _) (rcon_lt _)
      · split <;> exact sbox_lt _
    · exact g hl _
theorem keysN_lt {key : List Nat} (hk : ∀ x ∈ key, x < 256) : ∀ m, ∀ x ∈ keysN key m, x < 256
  | 0 => by simp [keysN]
  | m + 1 => by
    intro x hx
    rw [keysN, List.mem_append, List.mem_singleton] at hx
    rcases hx with h | rfl
    · exact keysN_lt hk m x h
    · exact keyAt_lt hk (keysN_lt hk m) m

/-- The word ahead of word i, turned through the boxes, and what word i is made of. -/
def prevW (l : List Nat) (i : Nat) : List Nat := [l.getD (4 * (i - 1)) 0, l.getD (4 * (i - 1) + 1) 0, l.getD (4 * (i - 1) + 2) 0, l.getD (4 * (i - 1) + 3) 0]
def turnW (x : List Nat) (p : Nat) : List Nat := [sbox (x.getD 1 0) ^^^ p, sbox (x.getD 2 0), sbox (x.getD 3 0), sbox (x.getD 0 0)]
def nextW (l : List Nat) (i : Nat) : List Nat := if i % 4 = 0 then turnW (prevW l i) (rcon (i / 4 - 1)) else prevW l i
theorem keyAt_word (key : List Nat) (i j : Nat) (hi : 4 ≤ i) (hj : j < 4) : keyAt key (keysN key (4 * i + j)) (4 * i + j) = (keysN key (4 * i)).getD (4 * (i - 4) + j) 0 ^^^ (nextW (keysN key (4 * i)) i).getD j 0 := by
  have hp : ∀ a b, a = b → b < 4 * i → (keysN key (4 * i + j)).getD a 0 = (keysN key (4 * i)).getD b 0 := by intro a b e h; subst e; exact keysN_pre key (4 * i) a h j
  unfold keyAt
  rw [if_neg (by omega), hp (4 * i + j - 16) (4 * (i - 4) + j) (by omega) (by omega), show (4 * i + j) / 4 = i from by omega, show (4 * i + j) % 4 = j from by omega]
  congr 1
  unfold nextW
  by_cases h4 : i % 4 = 0
  · rw [if_pos h4, if_pos h4, show (4 * i + j) / 16 - 1 = i / 4 - 1 from by omega]
    rcases (by omega : j = 0 ∨ j = 1 ∨ j = 2 ∨ j = 3) with rfl | rfl | rfl | rfl
    · rw [if_pos rfl, hp (4 * i + 0 - 3) (4 * (i - 1) + 1) (by omega) (by omega)]; rfl
    · rw [if_neg (by decide), if_neg (by decide), hp (4 * i + 1 - 3) (4 * (i - 1) + 2) (by omega) (by omega)]; rfl
    · rw [if_neg (by decide), if_neg (by decide), hp (4 * i + 2 - 3) (4 * (i - 1) + 3) (by omega) (by omega)]; rfl
    · rw [if_neg (by decide), if_pos rfl, hp (4 * i + 3 - 7) (4 * (i - 1)) (by omega) (by omega)]; rfl
  · rw [if_neg h4, if_neg h4, hp (4 * i + j - 4) (4 * (i - 1) + j) (by omega) (by omega)]
    rcases (by omega : j = 0 ∨ j = 1 ∨ j = 2 ∨ j = 3) with rfl | rfl | rfl | rfl <;> rfl
theorem nextW_len (l : List Nat) (i : Nat) : (nextW l i).length = 4 := by unfold nextW; split <;> rfl
/-- The round keys, as far as they are laid. -/
def kP (key : List Nat) (m : Nat) : List Nat := keysN key m ++ List.replicate (176 - m) 0
theorem kP_len (key : List Nat) (m : Nat) (h : m ≤ 176) : (kP key m).length = 176 := by simp [kP, keysN_len]; omega
theorem kP_all (key : List Nat) : kP key 176 = keysN key 176 := by unfold kP; rw [Nat.sub_self, List.replicate_zero, List.append_nil]
theorem kP_set (key : List Nat) (m : Nat) (h : m < 176) : (kP key m).set m (keyAt key (keysN key m) m) = kP key (m + 1) := by
  unfold kP
  rw [keysN, List.set_append_right _ _ (by rw [keysN_len]; exact Nat.le_refl _), keysN_len, Nat.sub_self, show 176 - m = (176 - (m + 1)) + 1 from by omega, List.replicate_succ, List.set_cons_zero, List.append_assoc]
  rfl
theorem kP_get (key : List Nat) (m i : Nat) (h : i < m) : (kP key m).getD i 0 = (keysN key m).getD i 0 := by
  unfold kP
  rw [List.getD_eq_getElem?_getD, List.getElem?_append_left (by rw [keysN_len]; exact h), ← List.getD_eq_getElem?_getD]
theorem kP_0 (key : List Nat) : kP key 0 = List.replicate 176 0 := rfl
theorem kP_split (key : List Nat) (hk : key.length = 16) (k : Nat) (h : k < 4) : kP key (4 * k) = key.take (4 * k) ++ List.replicate 4 0 ++ List.replicate (172 - 4 * k) 0 ∧ key.take (4 * k) ++ (key.drop (4 * k)).take 4 ++ List.replicate (172 - 4 * k) 0 = kP key (4 * (k + 1)) := by
  unfold kP
  rw [keysN_take key hk _ (by omega), keysN_take key hk _ (by omega), List.append_assoc, List.replicate_append_replicate, show 4 + (172 - 4 * k) = 176 - 4 * k from by omega, show 176 - 4 * (k + 1) = 172 - 4 * k from by omega]
  refine ⟨rfl, ?_⟩
  rw [show 4 * (k + 1) = 4 * k + 4 from by omega, List.take_add]
end Go.Proofs.Ytmimpodbmfmeiaa
