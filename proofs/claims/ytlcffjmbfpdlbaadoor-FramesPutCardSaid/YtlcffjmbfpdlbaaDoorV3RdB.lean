/- A reader's state: Byte. -/
import Derived.Test.YtlcffjmbfpdlbaaDoorV3Rd
import Derived.Test.YtlcffjmbfpdlbaaDoorV1Byte
namespace Go.Proofs.YtlcffjmbfpdlbaaDoor
open Go.RowKit

section
variable (w : World) (g : Nat) (T : Nat → Prop) (s : St)
theorem byte_any (h : RdS w g T s) (hT : ¬ T g) : Calls Tryd.prog 73 #[.pointer (some ⟨g, 0, none⟩)] w fun e w' =>
    e = .returned (.int .u8 ((rdByte s).1 : Nat)) ∧ RdS w' g T (rdByte s).2 ∧ Chg (· = g) w w' := by
  obtain ⟨hr, hx⟩ := h
  have hm := (rdByte_mem s hx).2
  obtain ⟨xs, bad⟩ := s
  by_cases hb : bad = 0
  · subst hb
    cases xs with
    | nil => exact (byte_no w g T [] 0 hr (.inr (by simp))).mono fun e w' ⟨h1, h2, h3⟩ => ⟨h1, ⟨h2, by simp [rdByte]⟩, h3⟩
    | cons f r =>
      have e : rdByte (f :: r, 0) = (f, (r, 0)) := by simp [rdByte]
      rw [e] at hm ⊢
      exact (byte_ok w g T f r hr hT).mono fun e w' ⟨h1, h2, h3⟩ => ⟨h1, ⟨h2, hm⟩, h3⟩
  · have e : rdByte (xs, bad) = (0, ([], bad)) := by simp [rdByte, hb]
    rw [e]
    exact (byte_no w g T xs bad hr (.inl hb)).mono fun e w' ⟨h1, h2, h3⟩ => ⟨h1, ⟨by simpa [badOf, hb] using h2, by simp⟩, h3⟩
end
end Go.Proofs.YtlcffjmbfpdlbaaDoor
