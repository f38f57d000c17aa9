/- Bytes of an integer, new memory that holds bytes, numbers that bytes make: for every layer. -/
import Derived.Test.YtbmhoijdbhokaaaProg
import Derived.Test.YtbmhoijdbhokaaaBase
namespace Go.Proofs.Ytbmhoijdbhokaaa
open Go.RowKit

theorem info5 : (Try.prog.info? 5).map (fun i => (i.zero, i.size, i.bytes)) = some (some (.int .u8 0), 1, 1) := by kernel_rfl

/-- The bytes of n, the lowest k of s laid (from the end on), the others 0. -/
def arr (n s k : Nat) : List Nat := (List.range s).map fun j => if s - 1 - j < k then n / 2 ^ (8 * (s - 1 - j)) % 256 else 0
theorem arr_len (n s k : Nat) : (arr n s k).length = s := by simp [arr]
theorem arr_0 (n s : Nat) : arr n s 0 = List.replicate s 0 := by
  apply List.ext_getElem <;> simp [arr]
theorem arr_set (n s k : Nat) (hk : k < s) : (arr n s k).set (s - 1 - k) (n / 2 ^ (8 * k) % 256) = arr n s (k + 1) := by
  apply List.ext_getElem
  · simp [arr]
  · intro i h1 h2
    simp [arr] at h1
    rw [List.getElem_set]
    simp only [arr, List.getElem_map, List.getElem_range]
    by_cases hi : s - 1 - k = i
    · subst hi
      rw [if_pos rfl, show s - 1 - (s - 1 - k) = k from by omega, if_pos (by omega)]
    · rw [if_neg hi]
      by_cases hlt : s - 1 - i < k
      · rw [if_pos hlt, if_pos (by omega)]
      · rw [if_neg hlt, if_neg (by omega)]
theorem u8s_set (l : List Nat) (i v : Nat) : (u8s l).set i (.int .u8 (v : Int)) = u8s (l.set i v) := by simp [u8s, List.map_set]

/-- The answer is new memory, or nil. -/
def NewBytes (w w' : World) (v : Value) (l : List Nat) : Prop :=
  Chg none_ w w' ∧ ((l = [] ∧ v = .slice none 0 0) ∨ (l ≠ [] ∧ v = .slice (some ⟨w.heap.size, 0, none⟩) l.length l.length ∧ Row w' w.heap.size 5 (u8s l)))


theorem own_of_row {w : World} {g base n : Nat} {e : TypeId} {cs : List Value} (h : Row w g e cs) (hb : base ≤ g) (hn : cs.length = n) (hm : n ≤ maxLen) : w.ownsRow base e 1 (.slice (some ⟨g, 0, none⟩) n n) n cs :=
  ⟨by omega, .inr ⟨g, n, cs.toArray, rfl, hb, h, Nat.le_refl _, hm, by simp [hn], by simp [← hn]⟩⟩

theorem NewBytes.view {w w' : World} {v : Value} {l : List Nat} (h : NewBytes w w' v l) : ∃ A cap, v = .slice A l.length cap ∧ View w' (fun b => w.heap.size ≤ b) A l.length (u8s l) := by
  rcases h.2 with ⟨rfl, rfl⟩ | ⟨_, rfl, hr⟩
  · exact ⟨none, 0, rfl, View.none_ _ _ _⟩
  · have := View.row (T := fun b => w.heap.size ≤ b) hr (n := l.length) (by simp) (Nat.le_refl _)
    rw [List.take_of_length_le (by simp)] at this
    exact ⟨_, _, rfl, this⟩

theorem nat_of_wf {k : IntKind} {x : Int} (h : (Lit.int k x).wf = true) (hk : k.min = 0) : ∃ n : Nat, x = (n : Int) := by
  have : decide (k.min ≤ x) = true := by
    have h2 : (decide (k.min ≤ x) && decide (x ≤ k.max)) = true := h
    simp only [Bool.and_eq_true] at h2
    exact h2.1
  rw [hk] at this
  exact ⟨x.toNat, by simp at this; omega⟩


/-- The number that bytes are, behind a first one. -/
def foldB (f : Nat) (l : List Nat) : Nat := l.foldl (fun n b => n * 256 + b) f
theorem foldB_snoc (f : Nat) (l : List Nat) (b : Nat) : foldB f (l ++ [b]) = foldB f l * 256 + b := by simp [foldB]
theorem foldB_lt (l : List Nat) (hl : ∀ x ∈ l, x < 256) : ∀ (f m : Nat), f < m → foldB f l < m * 256 ^ l.length := by
  induction l with
  | nil => intro f m h; simpa [foldB] using h
  | cons b l ih =>
    intro f m h
    have hb : b < 256 := hl b (by simp)
    have := ih (fun x hx => hl x (by simp [hx])) (f * 256 + b) (m * 256) (by omega)
    simpa [foldB, Nat.pow_succ, Nat.mul_assoc, Nat.mul_comm] using this

theorem or_256 (m y : Nat) (hy : y < 256) : m * 256 ||| y = m * 256 + y := by
  have := Nat.two_pow_add_eq_or_of_lt (i := 8) (b := y) (by omega) m
  rw [Nat.mul_comm m 256]
  exact this.symm
end Go.Proofs.Ytbmhoijdbhokaaa
