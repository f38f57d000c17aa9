/- Layer 3 (frames): what is read is within Go's integers; which parts stand where. -/
import Derived.Test.YtlcffjmbfpdlbaaDoorV3Next
namespace Go.Proofs.YtlcffjmbfpdlbaaDoor
open Go.RowKit

theorem rdInt_64 (s : St) (h : ∀ x ∈ s.1, x < 256) : (rdInt s).1 < 18446744073709551616 := Nat.lt_trans (rdInt_lt s h) (by decide)
theorem failSt_mem (e : Int) (s : St) (h : ∀ x ∈ s.1, x < 256) : ∀ x ∈ (failSt e s).1, x < 256 := by
  unfold failSt
  split
  · exact h
  · intro x hx; simp at hx
theorem ackLoop_ok : ∀ (n lo : Nat) (l : List (Nat × Nat)) (s : St), lo < 18446744073709551616 → (∀ x ∈ l, x.1 < 18446744073709551616 ∧ x.2 < 18446744073709551616) → (∀ x ∈ s.1, x < 256) →
    (∀ x ∈ (ackLoop n lo l s).1, x.1 < 18446744073709551616 ∧ x.2 < 18446744073709551616) ∧ ∀ x ∈ (ackLoop n lo l s).2.1, x < 256
  | 0, _, _, _, _, hl, hs => ⟨hl, hs⟩
  | n + 1, lo, l, s, hlo, hl, hs => by
    have h1 := rdInt_mem s hs
    have h2 := rdInt_mem _ h1
    simp only [ackLoop]
    split
    · exact ⟨hl, failSt_mem _ _ h2⟩
    · refine ackLoop_ok n _ _ _ (by omega) (fun x hx => ?_) h2
      simp only [List.mem_append, List.mem_singleton] at hx
      rcases hx with hx | rfl
      · exact hl x hx
      · simp only; omega
theorem told_mem (p : Part) (s : St) (h : ∀ x ∈ s.1, x < 256) : ∀ x ∈ (toldM p s).2.1, x < 256 := by
  cases p <;> first | exact rdInt_mem s h | exact (rdByte_mem s h).2 | exact h

theorem setP_ok (p : Part) (n : Nat) (f : Fr) (of : f.Ok) (hn : n < 18446744073709551616) : (setP p n f).Ok := by
  obtain ⟨h1, h2, h3, h4, h5, h6, h7, h8, h9⟩ := of
  cases p <;> first | exact ⟨h1, h2, hn, h4, h5, h6, h7, h8, h9⟩ | exact ⟨h1, h2, h3, hn, h5, h6, h7, h8, h9⟩ | exact ⟨h1, h2, h3, h4, h5, hn, h7, h8, h9⟩
theorem readP_ok (p : Part) (f : Fr) (s : St) (of : f.Ok) (hs : ∀ x ∈ s.1, x < 256) : (readP p f s).1.Ok ∧ ∀ x ∈ (readP p f s).2.1, x < 256 := by
  have hi : ∀ q : Part, (setP q (rdInt s).1 f).Ok ∧ ∀ x ∈ (rdInt s).2.1, x < 256 := fun q => ⟨setP_ok q _ f of (rdInt_64 s hs), rdInt_mem s hs⟩
  have hd : ∀ q : Part, (Fr.Ok { f with data := (rdBytes (toldM q s).1 (toldM q s).2).1 }) ∧ ∀ x ∈ (rdBytes (toldM q s).1 (toldM q s).2).2.1, x < 256 := by
    intro q
    have hb := rdBytes_mem (toldM q s).1 _ (told_mem q s hs)
    obtain ⟨h1, h2, h3, h4, h5, h6, h7, h8, h9⟩ := of
    exact ⟨⟨h1, h2, h3, h4, h5, h6, hb.1, h8, h9⟩, hb.2⟩
  cases p
  case id => exact hi .id
  case amount => exact hi .amount
  case code => exact hi .code
  case counted => exact hd .counted
  case shortly => exact hd .shortly
  case challenge => exact hd .challenge
  case allLeft => exact hd .allLeft
  case token =>
    have hb := rdBytes_mem 16 s hs
    obtain ⟨h1, h2, h3, h4, h5, h6, h7, h8, h9⟩ := of
    refine ⟨⟨h1, h2, h3, h4, h5, h6, h7, h8, fun x hx => ?_⟩, hb.2⟩
    simp only [readP, overlay, List.mem_append] at hx
    rcases hx with hx | hx
    · exact hb.1 x hx
    · exact h9 x (List.mem_of_mem_drop hx)
  case zeros =>
    obtain ⟨h1, h2, h3, h4, h5, h6, h7, h8, h9⟩ := of
    have hz : (zerosS 1199 s).1 + 1 < 18446744073709551616 ∧ ∀ x ∈ (zerosS 1199 s).2.1, x < 256 := by
      unfold zerosS
      split
      · exact ⟨by show 0 + 1 < _; omega, hs⟩
      · refine ⟨?_, fun x hx => hs x (List.mem_of_mem_drop hx)⟩
        have := zc_le 1199 s.1
        show zc 1199 s.1 + 1 < _
        omega
    exact ⟨⟨h1, h2, h3, hz.1, h5, h6, h7, h8, h9⟩, hz.2⟩
  case dropped => exact ⟨of, rdInt_mem _ (rdInt_mem _ (rdInt_mem s hs))⟩
  case acked =>
    have m1 := rdInt_mem s hs
    have m2 := rdInt_mem _ m1
    have m3 := rdInt_mem _ m2
    have m4 := rdInt_mem _ m3
    have b0 := rdInt_64 s hs
    have b1 := rdInt_64 _ m1
    obtain ⟨h1, h2, h3, h4, h5, h6, h7, h8, h9⟩ := of
    simp only [readP, ackedM]
    split
    · exact ⟨⟨h1, h2, h3, h4, h5, h6, h7, h8, h9⟩, failSt_mem _ _ m4⟩
    · have hk := ackLoop_ok (rdInt (rdInt (rdInt s).2).2).1 ((rdInt s).1 - (rdInt (rdInt (rdInt (rdInt s).2).2).2).1) [((rdInt s).1 - (rdInt (rdInt (rdInt (rdInt s).2).2).2).1, (rdInt s).1)] _ (by omega) (fun x hx => by simp only [List.mem_singleton] at hx; subst hx; simp only; omega) m4
      exact ⟨⟨h1, h2, h3, h4, b1, h6, h7, hk.1, h9⟩, hk.2⟩

/-- What reading leaves of the kind and the Flag. -/
theorem readP_kind (p : Part) (f : Fr) (s : St) : (readP p f s).1.kind = f.kind ∧ (readP p f s).1.flag = f.flag := by
  cases p
  case acked => simp only [readP, ackedM]; split <;> exact ⟨rfl, rfl⟩
  all_goals exact ⟨rfl, rfl⟩
theorem readAll_kind : ∀ (ps : List Part) (x : Fr × St), (readAll ps x).1.kind = x.1.kind ∧ (readAll ps x).1.flag = x.1.flag
  | [], _ => ⟨rfl, rfl⟩
  | p :: ps, x => by
    have h1 := readAll_kind ps (readP p x.1 x.2)
    have h2 := readP_kind p x.1 x.2
    exact ⟨h1.1.trans h2.1, h1.2.trans h2.2⟩
/-- Acked ranges come first. -/
theorem acked_first : ∀ x ∈ kdL, ∀ (t i : Nat) (h : i < (x.2.pf.parts t).length), (x.2.pf.parts t)[i] = .acked → i = 0 := by
  intro x hx t i h ha
  have hm : Part.acked ∈ (x.2.pf.parts t).drop i := by
    rw [← ha]
    exact List.mem_of_getElem? (i := 0) (by rw [List.getElem?_drop, Nat.add_zero, List.getElem?_eq_getElem h])
  rcases Nat.eq_zero_or_pos i with rfl | hi
  · rfl
  exfalso
  have hm2 : Part.acked ∈ (x.2.pf.parts t).drop 1 := by
    rw [show i = 1 + (i - 1) from by omega, ← List.drop_drop] at hm
    exact List.mem_of_mem_drop hm
  clear ha h hm hi
  simp only [kdL, List.mem_cons, List.not_mem_nil, or_false] at hx
  rcases hx with rfl | rfl | rfl | rfl | rfl | rfl | rfl | rfl | rfl | rfl | rfl | rfl | rfl | rfl | rfl | rfl | rfl | rfl | rfl | rfl
  all_goals simp only [PF.parts, ackParts, streamParts, closeParts] at hm2
  all_goals (revert hm2; (repeat' split) <;> simp)
end Go.Proofs.YtlcffjmbfpdlbaaDoor
