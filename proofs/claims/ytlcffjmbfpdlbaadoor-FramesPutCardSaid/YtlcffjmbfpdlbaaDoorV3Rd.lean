/- A reader's state, as a list and an error: one contract for each of its calls, there or not. -/
import Derived.Test.YtlcffjmbfpdlbaaDoorV1Math
namespace Go.Proofs.YtlcffjmbfpdlbaaDoor
open Go.RowKit

/-- What is left, and the error. -/
abbrev St := List Nat × Int

def failSt (e : Int) (s : St) : St := if s.2 ≠ 0 ∨ e = 0 then s else ([], e)
def rdInt (s : St) : Nat × St :=
  if s.2 ≠ 0 then (0, ([], s.2)) else match s.1 with
  | [] => (0, ([], 2))
  | f :: r => if needs f ≤ r.length then (foldB (f % 64) (r.take (needs f)), (r.drop (needs f), 0)) else (0, ([], 2))
def rdByte (s : St) : Nat × St :=
  if s.2 ≠ 0 then (0, ([], s.2)) else match s.1 with
  | [] => (0, ([], 2))
  | f :: r => (f, (r, 0))
def rdBytes (n : Nat) (s : St) : List Nat × St :=
  if s.2 ≠ 0 then ([], ([], s.2)) else if n ≤ s.1.length then (s.1.take n, (s.1.drop n, 0)) else ([], ([], 2))

/-- The reader in block g is in that state; its bytes lie in blocks of T. -/
def RdS (w : World) (g : Nat) (T : Nat → Prop) (s : St) : Prop := Rd w g T s.1 s.2 ∧ ∀ x ∈ s.1, x < 256

theorem RdS.chg {w w' : World} {g : Nat} {T S : Nat → Prop} {s : St} (h : RdS w g T s) (hc : Chg S w w') (hg : ¬ S g) (hs : ∀ b, T b → ¬ S b) : RdS w' g T s := ⟨h.1.chg hc hg hs, h.2⟩
theorem RdS.bad {w : World} {g : Nat} {T : Nat → Prop} {s : St} (h : RdS w g T s) (hb : s.2 ≠ 0) : s.1 = [] := by
  obtain ⟨⟨_, _, _, _, _, _, h5⟩, _⟩ := h; exact h5 hb
theorem RdS.len {w : World} {g : Nat} {T : Nat → Prop} {s : St} (h : RdS w g T s) : s.1.length ≤ 1000000 := by
  obtain ⟨⟨_, _, _, _, h3, _⟩, _⟩ := h; exact h3
theorem RdS.lt {w : World} {g : Nat} {T : Nat → Prop} {s : St} (h : RdS w g T s) : g < w.heap.size := by
  obtain ⟨⟨_, _, h1, _⟩, _⟩ := h; exact h1.lt

theorem foldB_62 (f : Nat) (l : List Nat) (_hf : f < 256) (hl : ∀ x ∈ l, x < 256) (hn : l.length ≤ 7) : foldB (f % 64) l < 4611686018427387904 := by
  have h1 := foldB_lt l hl (f % 64) 64 (by omega)
  exact Nat.lt_of_lt_of_le h1 (Nat.le_trans (Nat.mul_le_mul_left _ (Nat.pow_le_pow_right (by omega) hn)) (by decide))
theorem needs_le (f : Nat) (hf : f < 256) : needs f ≤ 7 := by rcases needs_cases f hf with h | h | h | h <;> omega
theorem rdInt_lt (s : St) (h : ∀ x ∈ s.1, x < 256) : (rdInt s).1 < 4611686018427387904 := by
  unfold rdInt
  split
  · show (0 : Nat) < _; omega
  · split
    · show (0 : Nat) < _; omega
    · rename_i f r hs
      rw [hs] at h
      have hf := h f (by simp)
      split
      · exact foldB_62 f _ hf (fun x hx => h x (by simp [List.mem_of_mem_take hx])) (by rw [List.length_take]; have := needs_le f hf; omega)
      · show (0 : Nat) < _; omega
theorem rdInt_mem (s : St) (h : ∀ x ∈ s.1, x < 256) : ∀ x ∈ (rdInt s).2.1, x < 256 := by
  unfold rdInt
  split
  · simp
  · split
    · simp
    · rename_i f r hs
      rw [hs] at h
      split
      · intro x hx; exact h x (by simp [List.mem_of_mem_drop hx])
      · simp
theorem rdByte_mem (s : St) (h : ∀ x ∈ s.1, x < 256) : (rdByte s).1 < 256 ∧ ∀ x ∈ (rdByte s).2.1, x < 256 := by
  unfold rdByte
  split
  · simp
  · split
    · simp
    · rename_i f r hs
      rw [hs] at h
      exact ⟨h f (by simp), fun x hx => h x (by simp [hx])⟩
theorem rdBytes_mem (n : Nat) (s : St) (h : ∀ x ∈ s.1, x < 256) : (∀ x ∈ (rdBytes n s).1, x < 256) ∧ ∀ x ∈ (rdBytes n s).2.1, x < 256 := by
  unfold rdBytes
  split
  · simp
  · split
    · exact ⟨fun x hx => h x (List.mem_of_mem_take hx), fun x hx => h x (List.mem_of_mem_drop hx)⟩
    · simp

section
variable (w : World) (g : Nat) (T : Nat → Prop) (s : St)

theorem int_any (h : RdS w g T s) (hT : ¬ T g) : Calls Tryd.prog 56 #[.pointer (some ⟨g, 0, none⟩)] w fun e w' =>
    e = .returned (.int .u64 ((rdInt s).1 : Nat)) ∧ RdS w' g T (rdInt s).2 ∧ Chg (· = g) w w' := by
  obtain ⟨hr, hx⟩ := h
  have hm := rdInt_mem s hx
  obtain ⟨xs, bad⟩ := s
  by_cases hb : bad = 0
  · subst hb
    cases xs with
    | nil => exact (int_no1 w g T [] 0 hr (.inr (by simp))).mono fun e w' ⟨h1, h2, h3⟩ => ⟨h1, ⟨h2, by simp [rdInt]⟩, h3⟩
    | cons f r =>
      have hf : f < 256 := hx f (by simp)
      by_cases hn : needs f ≤ r.length
      · have e : rdInt (f :: r, 0) = (foldB (f % 64) (r.take (needs f)), (r.drop (needs f), 0)) := by simp [rdInt, hn]
        rw [e] at hm ⊢
        exact (int_ok w g T f r hr hT hf (fun x h => hx x (by simp [h])) hn).mono fun e w' ⟨h1, h2, h3⟩ => ⟨h1, ⟨h2, hm⟩, h3⟩
      · have e : rdInt (f :: r, 0) = (0, ([], 2)) := by simp [rdInt, hn]
        rw [e]
        exact (int_no2 w g T f r hr hT hf (by omega)).mono fun e w' ⟨h1, h2, h3⟩ => ⟨h1, ⟨h2, by simp⟩, h3⟩
  · have e : rdInt (xs, bad) = (0, ([], bad)) := by simp [rdInt, hb]
    rw [e]
    exact (int_no1 w g T xs bad hr (.inl hb)).mono fun e w' ⟨h1, h2, h3⟩ => ⟨h1, ⟨by simpa [badOf, hb] using h2, by simp⟩, h3⟩

/-- So many bytes, in new memory. -/
def BytesPost (w : World) (g : Nat) (T : Nat → Prop) (n : Nat) (s : St) (e : Ending) (w' : World) : Prop :=
  ∃ A cap, e = .returned (.slice A (rdBytes n s).1.length cap) ∧ View w' (fun b => w.heap.size ≤ b) A (rdBytes n s).1.length (u8s (rdBytes n s).1) ∧ RdS w' g T (rdBytes n s).2 ∧ Chg (· = g) w w'

theorem bytes_any (n : Nat) (h : RdS w g T s) (hT : ¬ T g) : Calls Tryd.prog 76 #[.pointer (some ⟨g, 0, none⟩), .int .u64 n] w (BytesPost w g T n s) := by
  obtain ⟨hr, hx⟩ := h
  have hm := (rdBytes_mem n s hx).2
  unfold BytesPost
  obtain ⟨xs, bad⟩ := s
  by_cases hb : bad = 0
  · subst hb
    by_cases hn : n ≤ xs.length
    · have e : rdBytes n (xs, 0) = (xs.take n, (xs.drop n, 0)) := by simp [rdBytes, hn]
      have hl : (xs.take n).length = n := by rw [List.length_take]; omega
      rw [e] at hm ⊢
      rw [hl]
      exact (bytes_ok w g T xs n hr hT hn).mono fun e w' ⟨A, cap, h1, h2, h3, h4, h5⟩ => ⟨A, cap, h1, h3, ⟨h4, hm⟩, h5⟩
    · have e : rdBytes n (xs, 0) = ([], ([], 2)) := by simp [rdBytes, hn]
      rw [e]
      exact (bytes_no w g T xs 0 n hr (.inr (by omega))).mono fun e w' ⟨A, cap, h1, h2, h3⟩ => ⟨A, cap, h1, ⟨rfl, fun h => absurd h (by simp)⟩, ⟨h2, by simp⟩, h3⟩
  · have e : rdBytes n (xs, bad) = ([], ([], bad)) := by simp [rdBytes, hb]
    rw [e]
    exact (bytes_no w g T xs bad n hr (.inl hb)).mono fun e w' ⟨A, cap, h1, h2, h3⟩ => ⟨A, cap, h1, ⟨rfl, fun h => absurd h (by simp)⟩, ⟨by simpa [badOf, hb] using h2, by simp⟩, h3⟩

theorem badS_any (h : RdS w g T s) : Calls Tryd.prog 27 #[.pointer (some ⟨g, 0, none⟩)] w fun e w' => e = .returned (.int .i64 s.2) ∧ w = w' := bad_ok w g T s.1 s.2 h.1
theorem leftS_any (h : RdS w g T s) : Calls Tryd.prog 25 #[.pointer (some ⟨g, 0, none⟩)] w fun e w' => e = .returned (.int .i64 s.1.length) ∧ w = w' := left_ok w g T s.1 s.2 h.1
theorem failS_any (x : Int) (h : RdS w g T s) : Calls Tryd.prog 28 #[.pointer (some ⟨g, 0, none⟩), .int .i64 x] w fun e w' => e = .returned (.tuple #[]) ∧ RdS w' g T (failSt x s) ∧ Chg (· = g) w w' := by
  obtain ⟨hr, hx⟩ := h
  obtain ⟨xs, bad⟩ := s
  by_cases hc : bad ≠ 0 ∨ x = 0
  · have e : failSt x (xs, bad) = (xs, bad) := by simp only [failSt]; rw [if_pos hc]
    rw [e]
    exact (fail_no w g T xs bad x hr hc).mono fun e w' ⟨h1, h2⟩ => ⟨h1, h2 ▸ ⟨hr, hx⟩, h2 ▸ Chg.refl _ _⟩
  · have e : failSt x (xs, bad) = ([], x) := by simp only [failSt]; rw [if_neg hc]
    rw [e]
    have h0 : bad = 0 := by omega
    subst h0
    exact (fail_yes w g T xs x hr (by omega)).mono fun e w' ⟨h1, h2, h3⟩ => ⟨h1, ⟨h2, by simp⟩, h3⟩
end
end Go.Proofs.YtlcffjmbfpdlbaaDoor
