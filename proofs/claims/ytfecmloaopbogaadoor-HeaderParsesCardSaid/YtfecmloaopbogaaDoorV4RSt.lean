/- The document's reader's state, as what is left and an error (the very states of varint's reader): one contract for each of its calls. -/
import Derived.Test.YtfecmloaopbogaaDoorV1RInt
import Derived.Test.YtfecmloaopbogaaDoorV3Rd
namespace Go.Proofs.YtfecmloaopbogaaDoor
open Go.RowKit

/-- The document's reader in block g, over the bytes bs, is in that state. -/
def RS (w : World) (g : Nat) (T : Nat → Prop) (bs : List Nat) (s : St) : Prop :=
  ∃ at_, RR w g T bs at_ s.2 ∧ (s.2 = 0 → s.1 = bs.drop at_) ∧ (s.2 ≠ 0 → s.1 = []) ∧ ∀ x ∈ bs, x < 256

section
variable {w w' : World} {g : Nat} {T S : Nat → Prop} {bs : List Nat} {s : St}
theorem RS.chg (h : RS w g T bs s) (hc : Chg S w w') (hg : ¬ S g) (hs : ∀ b, T b → ¬ S b) : RS w' g T bs s := by
  obtain ⟨a, h1, h2⟩ := h; exact ⟨a, h1.chg hc hg hs, h2⟩
theorem RS.lt (h : RS w g T bs s) : g < w.heap.size := by
  obtain ⟨_, ⟨_, _, h1, _⟩, _⟩ := h; exact h1.lt
theorem RS.mem (h : RS w g T bs s) : ∀ x ∈ s.1, x < 256 := by
  obtain ⟨a, _, h2, h3, h4⟩ := h
  intro x hx
  by_cases hb : s.2 = 0
  · rw [h2 hb] at hx; exact h4 x (List.mem_of_mem_drop hx)
  · rw [h3 hb] at hx; cases hx
theorem RS.len (h : RS w g T bs s) : s.1.length ≤ 1000000 := by
  obtain ⟨a, ⟨_, _, _, _, _, h5, _⟩, h2, h3, _⟩ := h
  by_cases hb : s.2 = 0
  · rw [h2 hb, List.length_drop]; omega
  · rw [h3 hb]; simp
theorem RS.le (h : RS w g T bs s) : s.1.length ≤ bs.length := by
  obtain ⟨a, _, h2, h3, _⟩ := h
  by_cases hb : s.2 = 0
  · rw [h2 hb, List.length_drop]; omega
  · rw [h3 hb]; simp
/-- The place, while nothing is wrong. -/
theorem RS.place (h : RS w g T bs s) (hb : s.2 = 0) : ∃ A cap, Row w g 60 [.slice A bs.length cap, .int .i64 ((bs.length : Int) - (s.1.length : Int)), .int .i64 0] := by
  obtain ⟨a, ⟨A, cap, h1, _, h3, _⟩, h2, _⟩ := h
  refine ⟨A, cap, ?_⟩
  rw [h2 hb, List.length_drop]
  rw [hb] at h1
  have e : (bs.length : Int) - ((bs.length - a : Nat) : Int) = (a : Int) := by omega
  rw [e]
  exact h1
theorem RS.bad (h : RS w g T bs s) : ∃ A cap a, Row w g 60 [.slice A bs.length cap, .int .i64 a, .int .i64 s.2] := by
  obtain ⟨a, ⟨A, cap, h1, _⟩, _⟩ := h
  exact ⟨A, cap, _, h1⟩

theorem rleft_st (h : RS w g T bs s) : Calls Tryd.prog 43 #[.pointer (some ⟨g, 0, none⟩)] w fun e w' => e = .returned (.int .i64 (s.1.length : Nat)) ∧ ∃ k, w' = w.drewN k := by
  obtain ⟨a, h1, h2, h3, _⟩ := h
  have e : rleft bs a s.2 = s.1.length := by
    unfold rleft
    by_cases hb : s.2 = 0
    · rw [if_pos hb, h2 hb, List.length_drop]
    · rw [if_neg hb, h3 hb]; rfl
  have p := rleft_any w g T bs a s.2 h1
  rwa [e] at p

theorem rbytes_st (n : Nat) (h : RS w g T bs s) (hT : ¬ T g) : Calls Tryd.prog 42 #[.pointer (some ⟨g, 0, none⟩), .int .u64 n] w fun e w' =>
    ∃ A c, e = .returned (.slice A (rdBytes n s).1.length c) ∧ View w' (fun b => w.heap.size ≤ b) A (rdBytes n s).1.length (u8s (rdBytes n s).1) ∧ RS w' g T bs (rdBytes n s).2 ∧ Chg (· = g) w w' := by
  obtain ⟨a, h1, h2, h3, h4⟩ := h
  obtain ⟨xs, bad⟩ := s
  simp only at h1 h2 h3
  by_cases hb : bad = 0
  · subst hb
    obtain rfl := h2 rfl
    by_cases hn : n ≤ bs.length - a
    · have e : rdBytes n (bs.drop a, 0) = ((bs.drop a).take n, ((bs.drop a).drop n, 0)) := by simp [rdBytes, hn]
      have hl : ((bs.drop a).take n).length = n := by rw [List.length_take, List.length_drop]; omega
      rw [e, hl]
      exact (rbytes_ok w g T bs a n h1 hT hn).mono fun e w' ⟨A, cap, q1, _, q3, q4, q5⟩ => ⟨A, cap, q1, q3, ⟨a + n, q4, fun _ => by rw [List.drop_drop], fun q => absurd rfl q, h4⟩, q5⟩
    · have e : rdBytes n (bs.drop a, 0) = ([], ([], 2)) := by simp [rdBytes, hn]
      rw [e]
      exact (rbytes_no w g T bs a 0 n h1 hT (.inr (by omega))).mono fun e w' ⟨q1, q2, q3⟩ => ⟨none, 0, q1, View.none_ _ _ _, ⟨a, q2, fun q => absurd q (by decide), fun _ => rfl, h4⟩, q3⟩
  · have e : rdBytes n (xs, bad) = ([], ([], bad)) := by simp [rdBytes, hb]
    have eb : badOf bad = bad := by simp [badOf, hb]
    rw [e]
    exact (rbytes_no w g T bs a bad n h1 hT (.inl hb)).mono fun e w' ⟨q1, q2, q3⟩ => ⟨none, 0, q1, View.none_ _ _ _, ⟨a, eb ▸ q2, fun q => absurd q hb, fun _ => rfl, h4⟩, q3⟩

/-- .. with the room that the answer has. -/
theorem rbytes_stc (n : Nat) (h : RS w g T bs s) (hT : ¬ T g) : Calls Tryd.prog 42 #[.pointer (some ⟨g, 0, none⟩), .int .u64 n] w fun e w' =>
    ∃ A c, e = .returned (.slice A (rdBytes n s).1.length c) ∧ (rdBytes n s).1.length ≤ c ∧ View w' (fun b => w.heap.size ≤ b) A (rdBytes n s).1.length (u8s (rdBytes n s).1) ∧ RS w' g T bs (rdBytes n s).2 ∧ Chg (· = g) w w' := by
  obtain ⟨a, h1, h2, h3, h4⟩ := h
  obtain ⟨xs, bad⟩ := s
  simp only at h1 h2 h3
  by_cases hb : bad = 0
  · subst hb
    obtain rfl := h2 rfl
    by_cases hn : n ≤ bs.length - a
    · have e : rdBytes n (bs.drop a, 0) = ((bs.drop a).take n, ((bs.drop a).drop n, 0)) := by simp [rdBytes, hn]
      have hl : ((bs.drop a).take n).length = n := by rw [List.length_take, List.length_drop]; omega
      rw [e, hl]
      exact (rbytes_ok w g T bs a n h1 hT hn).mono fun e w' ⟨A, cap, q1, q2, q3, q4, q5⟩ => ⟨A, cap, q1, q2, q3, ⟨a + n, q4, fun _ => by rw [List.drop_drop], fun q => absurd rfl q, h4⟩, q5⟩
    · have e : rdBytes n (bs.drop a, 0) = ([], ([], 2)) := by simp [rdBytes, hn]
      rw [e]
      exact (rbytes_no w g T bs a 0 n h1 hT (.inr (by omega))).mono fun e w' ⟨q1, q2, q3⟩ => ⟨none, 0, q1, Nat.le_refl _, View.none_ _ _ _, ⟨a, q2, fun q => absurd q (by decide), fun _ => rfl, h4⟩, q3⟩
  · have e : rdBytes n (xs, bad) = ([], ([], bad)) := by simp [rdBytes, hb]
    have eb : badOf bad = bad := by simp [badOf, hb]
    rw [e]
    exact (rbytes_no w g T bs a bad n h1 hT (.inl hb)).mono fun e w' ⟨q1, q2, q3⟩ => ⟨none, 0, q1, Nat.le_refl _, View.none_ _ _ _, ⟨a, eb ▸ q2, fun q => absurd q hb, fun _ => rfl, h4⟩, q3⟩

theorem getD_drop (bs : List Nat) (a f : Nat) (r : List Nat) (h : bs.drop a = f :: r) : bs.getD a 0 = f ∧ bs.drop (a + 1) = r ∧ a < bs.length := by
  have hl : a < bs.length := by
    rcases Nat.lt_or_ge a bs.length with q | q
    · exact q
    · rw [List.drop_eq_nil_of_le q] at h; cases h
  rw [List.drop_eq_getElem_cons hl] at h
  injection h with q1 q2
  exact ⟨by rw [List.getD_eq_getElem?_getD, List.getElem?_eq_getElem hl]; exact q1, q2, hl⟩

theorem rint_st (h : RS w g T bs s) (hT : ¬ T g) : Calls Tryd.prog 44 #[.pointer (some ⟨g, 0, none⟩)] w fun e w' =>
    e = .returned (.int .u64 ((rdInt s).1 : Nat)) ∧ RS w' g T bs (rdInt s).2 ∧ Chg (· = g) w w' := by
  obtain ⟨a, h1, h2, h3, h4⟩ := h
  obtain ⟨xs, bad⟩ := s
  simp only at h1 h2 h3
  by_cases hb : bad = 0
  · subst hb
    have hx := h2 rfl
    cases hc : xs with
    | nil =>
      have e : rdInt ([], 0) = (0, ([], 2)) := by simp [rdInt]
      rw [e]
      have hl : bs.length - a < 1 := by rw [hc] at hx; have := congrArg List.length hx; simp at this; omega
      exact (rint_no1 w g T bs a 0 h1 hT (.inr hl)).mono fun e w' ⟨q1, q2, q3⟩ => ⟨q1, ⟨a, q2, fun q => absurd q (by decide), fun _ => rfl, h4⟩, q3⟩
    | cons f r =>
      obtain ⟨k1, k2, k3⟩ := getD_drop bs a f r (by rw [← hx, hc])
      have hf : f < 256 := h4 f (List.mem_of_mem_drop (i := a) (by rw [← hx, hc]; simp))
      have hrl : r.length = bs.length - (a + 1) := by rw [← k2, List.length_drop]
      have p := rint_any w g T bs a f h1 hT (by omega) k1 hf h4
      by_cases hn : needs f ≤ r.length
      · have e : rdInt (f :: r, 0) = (foldB (f % 64) (r.take (needs f)), (r.drop (needs f), 0)) := by simp [rdInt, hn]
        rw [e]
        have hn' : needs f + 1 ≤ bs.length - a := by omega
        refine p.mono fun e w' ⟨q1, _, q3⟩ => ?_
        obtain ⟨q4, q5⟩ := q1 hn'
        rw [k2] at q4
        exact ⟨q4, ⟨_, q5, fun _ => by rw [← k2, List.drop_drop, show a + 1 + needs f = a + (needs f + 1) from by omega], fun q => absurd rfl q, h4⟩, q3⟩
      · have e : rdInt (f :: r, 0) = (0, ([], 2)) := by simp [rdInt, hn]
        rw [e]
        have hn' : ¬ needs f + 1 ≤ bs.length - a := by omega
        refine p.mono fun e w' ⟨_, q2, q3⟩ => ?_
        obtain ⟨q4, q5⟩ := q2 hn'
        exact ⟨q4, ⟨a, q5, fun q => absurd q (by decide), fun _ => rfl, h4⟩, q3⟩
  · have e : rdInt (xs, bad) = (0, ([], bad)) := by simp [rdInt, hb]
    have eb : badOf bad = bad := by simp [badOf, hb]
    rw [e]
    exact (rint_no1 w g T bs a bad h1 hT (.inl hb)).mono fun e w' ⟨q1, q2, q3⟩ => ⟨q1, ⟨a, eb ▸ q2, fun q => absurd q hb, fun _ => rfl, h4⟩, q3⟩
end
end Go.Proofs.YtfecmloaopbogaaDoor
