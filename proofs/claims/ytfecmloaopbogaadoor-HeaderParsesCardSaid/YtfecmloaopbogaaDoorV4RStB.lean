/- The document's reader by states: Byte. -/
import Derived.Test.YtfecmloaopbogaaDoorV4RSt
import Derived.Test.YtfecmloaopbogaaDoorV1RByte
namespace Go.Proofs.YtfecmloaopbogaaDoor
open Go.RowKit

section
variable {w w' : World} {g : Nat} {T S : Nat → Prop} {bs : List Nat} {s : St}
theorem rbyte_st (h : RS w g T bs s) (hT : ¬ T g) : Calls Tryd.prog 41 #[.pointer (some ⟨g, 0, none⟩)] w fun e w' =>
    e = .returned (.int .u8 ((rdByte s).1 : Nat)) ∧ RS w' g T bs (rdByte s).2 ∧ Chg (· = g) w w' := by
  obtain ⟨a, h1, h2, h3, h4⟩ := h
  obtain ⟨xs, bad⟩ := s
  simp only at h1 h2 h3
  by_cases hb : bad = 0
  · subst hb
    have hx := h2 rfl
    cases hc : xs with
    | nil =>
      have e : rdByte ([], 0) = (0, ([], 2)) := by simp [rdByte]
      rw [e]
      have hl : bs.length - a < 1 := by rw [hc] at hx; have := congrArg List.length hx; simp at this; omega
      exact (rbyte_no w g T bs a 0 h1 hT (.inr hl)).mono fun e w' ⟨q1, q2, q3⟩ => ⟨q1, ⟨a, q2, fun q => absurd q (by decide), fun _ => rfl, h4⟩, q3⟩
    | cons f r =>
      have e : rdByte (f :: r, 0) = (f, (r, 0)) := by simp [rdByte]
      rw [e]
      obtain ⟨k1, k2, k3⟩ := getD_drop bs a f r (by rw [← hx, hc])
      have p := rbyte_ok w g T bs a h1 hT (by omega)
      rw [k1] at p
      exact p.mono fun e w' ⟨q1, q2, q3⟩ => ⟨q1, ⟨a + 1, q2, fun _ => k2.symm, fun q => absurd rfl q, h4⟩, q3⟩
  · have e : rdByte (xs, bad) = (0, ([], bad)) := by simp [rdByte, hb]
    have eb : badOf bad = bad := by simp [badOf, hb]
    rw [e]
    exact (rbyte_no w g T bs a bad h1 hT (.inl hb)).mono fun e w' ⟨q1, q2, q3⟩ => ⟨q1, ⟨a, eb ▸ q2, fun q => absurd q hb, fun _ => rfl, h4⟩, q3⟩
end
end Go.Proofs.YtfecmloaopbogaaDoor
