/- Layer 7 (hash): the words' arithmetic stays below 2^32. No program is named here. -/
import Derived.Test.YtodcjcpbigggfaaDoorV7Math
import Derived.WalkKit
import Derived.Laws.BitsAllLaws
namespace Go.Proofs.YtodcjcpbigggfaaDoor

theorem rotr_lt (x n : Nat) : rotr x n < 4294967296 := Nat.mod_lt _ (by decide)
theorem rotr_eq (x n : Nat) (hx : x < 4294967296) : rotr x n = x * 2 ^ (32 - n) % 4294967296 ||| x / 2 ^ n := by
  unfold rotr
  rw [show (4294967296 : Nat) = 2 ^ 32 from rfl, Nat.or_mod_two_pow, Nat.shiftLeft_eq, Nat.shiftRight_eq_div_pow, Nat.or_comm]
  congr 1
  exact Nat.mod_eq_of_lt (Nat.lt_of_le_of_lt (Nat.div_le_self _ _) hx)
theorem xor_lt {a b : Nat} (ha : a < 4294967296) (hb : b < 4294967296) : a ^^^ b < 4294967296 := Nat.xor_lt_two_pow (n := 32) ha hb
theorem and_lt {a : Nat} (b : Nat) (ha : a < 4294967296) : a &&& b < 4294967296 := Nat.lt_of_le_of_lt Nat.and_le_left ha
theorem shr_lt {a : Nat} (n : Nat) (ha : a < 4294967296) : a >>> n < 4294967296 := by rw [Nat.shiftRight_eq_div_pow]; exact Nat.lt_of_le_of_lt (Nat.div_le_self _ _) ha
theorem sg0_lt {x : Nat} (hx : x < 4294967296) : sg0 x < 4294967296 := xor_lt (xor_lt (rotr_lt _ _) (rotr_lt _ _)) (shr_lt _ hx)
theorem sg1_lt {x : Nat} (hx : x < 4294967296) : sg1 x < 4294967296 := xor_lt (xor_lt (rotr_lt _ _) (rotr_lt _ _)) (shr_lt _ hx)
theorem bs0_lt (x : Nat) : bs0 x < 4294967296 := xor_lt (xor_lt (rotr_lt _ _) (rotr_lt _ _)) (rotr_lt _ _)
theorem bs1_lt (x : Nat) : bs1 x < 4294967296 := xor_lt (xor_lt (rotr_lt _ _) (rotr_lt _ _)) (rotr_lt _ _)
theorem chN_lt {e : Nat} (f g : Nat) (he : e < 4294967296) : chN e f g < 4294967296 := xor_lt (and_lt _ he) (and_lt _ (by omega))
theorem majN_lt {a b : Nat} (c : Nat) (ha : a < 4294967296) (hb : b < 4294967296) : majN a b c < 4294967296 := xor_lt (xor_lt (and_lt _ ha) (and_lt _ ha)) (and_lt _ hb)
theorem kN_len : kN.length = 64 := rfl
theorem kN_lt : ∀ x ∈ kN, x < 4294967296 := by decide
theorem getD_lt {l : List Nat} {m : Nat} (h : ∀ x ∈ l, x < m) (i : Nat) (hm : 0 < m) : l.getD i 0 < m := by
  rw [List.getD_eq_getElem?_getD]
  cases hi : l[i]? with
  | none => simpa using hm
  | some x => simpa using h x (List.mem_of_getElem? hi)

theorem wordsN_len (b : List Nat) : ∀ t, (wordsN b t).length = t
  | 0 => rfl
  | t + 1 => by simp [wordsN, wordsN_len b t]
theorem wordOf_lt {b : List Nat} (hb : ∀ x ∈ b, x < 256) (t : Nat) : wordOf b t < 4294967296 := by
  have h := fun i => getD_lt hb i (by decide)
  have := h (4 * t); have := h (4 * t + 1); have := h (4 * t + 2); have := h (4 * t + 3)
  unfold wordOf; omega
theorem wordsN_lt {b : List Nat} (hb : ∀ x ∈ b, x < 256) : ∀ t, ∀ x ∈ wordsN b t, x < 4294967296
  | 0 => by simp [wordsN]
  | t + 1 => by
    intro x hx
    simp only [wordsN, List.mem_append, List.mem_singleton] at hx
    rcases hx with h | rfl
    · exact wordsN_lt hb t x h
    · split
      · exact wordOf_lt hb t
      · exact Nat.mod_lt _ (by decide)
theorem stepN_ok {s : St8} (k w : Nat) (h : s.Ok) : (stepN s k w).Ok :=
  ⟨Nat.mod_lt _ (by decide), h.a, h.b, h.c, Nat.mod_lt _ (by decide), h.e, h.f, h.g⟩
theorem roundsN_ok {s : St8} (w : List Nat) (h : s.Ok) : ∀ t, (roundsN s w t).Ok
  | 0 => h
  | t + 1 => stepN_ok _ _ (roundsN_ok w h t)
theorem addN_ok (s r : St8) : (addN s r).Ok := by constructor <;> exact Nat.mod_lt _ (by decide)
theorem turnN_ok (s : St8) (b : List Nat) : (turnN s b).Ok := addN_ok _ _
theorem first8_ok : first8.Ok := by constructor <;> decide
theorem runN_ok {s : St8} (l : List Nat) (h : s.Ok) : ∀ k, (runN s l k).Ok
  | 0 => h
  | _ + 1 => turnN_ok _ _
theorem bytesN_len (s : St8) : (bytesN s).length = 32 := by simp [bytesN]
theorem bytesN_lt (s : St8) : ∀ x ∈ bytesN s, x < 256 := by
  intro x hx
  simp only [bytesN, List.mem_map] at hx
  obtain ⟨i, _, rfl⟩ := hx
  exact Nat.mod_lt _ (by decide)
end Go.Proofs.YtodcjcpbigggfaaDoor
