/- Layer 3 (frames), plain: what is put is parsed again, also one behind the other. -/
import Derived.Test.YtlcffjmbfpdlbaaDoorV3NextPut2
import Derived.Test.YtlcffjmbfpdlbaaDoorV3ParseM
namespace Go.Proofs.YtlcffjmbfpdlbaaDoor
open Go.RowKit

theorem typ_stream (f : Fr) (h : f.kind = 8) : typM f / 2 % 2 = 1 := by
  obtain ⟨k, i, a, b, c, fl, dt, rg, tk⟩ := f
  simp only at h
  subst h
  by_cases ha : a = 0 <;> cases fl <;> simp [typM, ha]
theorem typ_ack (f : Fr) (h : f.kind = 2) (hf : f.flag = false) : typM f % 2 = 0 := by
  obtain ⟨k, i, a, b, c, fl, dt, rg, tk⟩ := f
  simp only at h hf
  subst h hf
  simp [typM]
/-- A right frame's parts can be put, and tell where they end. -/
theorem parts_ok {f : Fr} (of : f.Ok) (ht : f.tok.length = 16) (hl : f.data.length ≤ 1000000) (hr : rightB f = true) : ∀ p ∈ partsOf f, PutOk p f ∧ p ≠ .allLeft ∧ (p = .zeros → f.kind = 0 ∧ partsOf f = [.zeros]) := by
  unfold rightB at hr
  unfold partsOf
  cases hd : kdM (keyM f.kind) with
  | none => intro p hp; cases hp
  | some d =>
    rw [hd] at hr
    simp only at hr ⊢
    have hsm := keyM_small f.kind of.k0 of.k1 (kdM_lt hd)
    have hfl := (has_whole hr).1
    have hx := hd
    unfold kdM at hx
    simp only [Option.map_eq_some_iff] at hx
    obtain ⟨x, hx, rfl⟩ := hx
    have hk1 := List.find?_some hx
    have hk2 : f.kind = (x.1 : Nat) := by
      have : x.1 = keyM f.kind := by simpa using hk1
      omega
    have hm := List.mem_of_find?_eq_some hx
    simp only [hasB, Bool.and_eq_true, decide_eq_true_eq] at hr
    obtain ⟨⟨b1, b2, b3, b4⟩, _, hfit⟩ := hr
    clear hx hk1 hd hsm
    simp only [kdL, List.mem_cons, List.not_mem_nil, or_false] at hm
    have hs8 := typ_stream f
    have ha2 := typ_ack f
    rcases hm with rfl | rfl | rfl | rfl | rfl | rfl | rfl | rfl | rfl | rfl | rfl | rfl | rfl | rfl | rfl | rfl | rfl | rfl | rfl | rfl
    all_goals simp only at hk2 hfl hfit
    all_goals intro p hp
    case inr.inr.inl =>
      have h0 : f.flag = false := by cases h : f.flag <;> simp_all
      simp only [PF.parts, ackParts, ha2 hk2 h0] at hp
      simp at hp
      subst hp
      simp only [fitsB] at hfit
      simp at hfit
      exact ⟨⟨by omega, hfit⟩, by decide, fun e => by cases e⟩
    all_goals cases p
    all_goals first
      | (exfalso; simp [PF.parts] at hp; done)
      | (exfalso; simp only [PF.parts, closeParts] at hp; split at hp <;> simp at hp; done)
      | (exfalso; simp only [PF.parts, streamParts, hs8 hk2, if_true] at hp; split at hp <;> simp at hp; done)
      | exact ⟨show f.id < 4611686018427387904 by omega, by decide, fun e => by cases e⟩
      | exact ⟨show f.a < 4611686018427387904 by omega, by decide, fun e => by cases e⟩
      | exact ⟨show f.code < 4611686018427387904 by omega, by decide, fun e => by cases e⟩
      | exact ⟨show f.data.length < 4611686018427387904 by omega, by decide, fun e => by cases e⟩
      | exact ⟨ht, by decide, fun e => by cases e⟩
      | (simp only [fitsB] at hfit; simp at hfit; exact ⟨show f.data.length < 256 by omega, by decide, fun e => by cases e⟩)
      | (simp only [fitsB] at hfit; simp at hfit; exact ⟨show f.data.length = 8 from hfit, by decide, fun e => by cases e⟩)
      | (simp only [fitsB] at hfit; simp at hfit; exact ⟨hfit, by decide, fun _ => ⟨hk2, rfl⟩⟩)
theorem follow_plain (f : Fr) (l : List Nat) : ∀ ps : List Part, (∀ p ∈ ps, PutOk p f ∧ p ≠ .allLeft ∧ p ≠ .zeros) → Follow f ps l
  | [], _ => trivial
  | p :: ps, h => ⟨(h p (by simp)).1, fun e => absurd e (h p (by simp)).2.1, fun e => absurd e (h p (by simp)).2.2, follow_plain f l ps (fun q hq => h q (by simp [hq]))⟩
/-- What may stand behind a right frame's bytes: anything but a byte 0 behind paddings that are less than 1200. -/
theorem follow_right {f : Fr} (of : f.Ok) (ht : f.tok.length = 16) (hl : f.data.length ≤ 1000000) (hr : rightB f = true) (l : List Nat) (hz : f.kind = 0 → f.a = 1200 ∨ l.head? ≠ some 0) : Follow f (partsOf f) l := by
  have h := parts_ok of ht hl hr
  by_cases hk : ∃ p ∈ partsOf f, p = .zeros
  · obtain ⟨p, hp, rfl⟩ := hk
    obtain ⟨h1, h2, h3⟩ := h _ hp
    obtain ⟨h4, h5⟩ := h3 rfl
    rw [h5]
    exact ⟨h1, fun e => (nomatch e), fun _ => by simpa [putAll] using hz h4, trivial⟩
  · exact follow_plain f l _ (fun p hp => ⟨(h p hp).1, (h p hp).2.1, fun e => hk ⟨p, hp, e⟩⟩)
theorem next_right {f : Fr} (of : f.Ok) (ht : f.tok.length = 16) (hl : f.data.length ≤ 1000000) (hr : rightB f = true) (l : List Nat) (hz : f.kind = 0 → f.a = 1200 ∨ l.head? ≠ some 0) : nextM (putM f ++ l, 0) = (f, (l, 0)) :=
  next_put f of ht hr l (follow_right of ht hl hr l hz)
theorem putM_ne {f : Fr} (of : f.Ok) (ht : f.tok.length = 16) (hl : f.data.length ≤ 1000000) (hr : rightB f = true) : putM f ≠ [] := by
  intro h
  have h1 := next_right of ht hl hr [] (fun _ => .inr (by simp))
  rw [h] at h1
  have h2 : (nextM ([] ++ [], 0)).2.2 = 2 := rfl
  rw [h1] at h2
  cases h2
/-- One frame alone, and two. -/
theorem loop_one {f : Fr} (of : f.Ok) (ht : f.tok.length = 16) (hl : f.data.length ≤ 1000000) (hr : rightB f = true) (l : List Fr) : loopP l (putM f, 0) = (stepP l f, ([], 0)) := by
  have h := next_right of ht hl hr [] (fun _ => .inr (by simp))
  rw [List.append_nil] at h
  rw [loopP_on l _ (putM_ne of ht hl hr), h, loopP_stop _ _ rfl]
theorem loop_more {f : Fr} (of : f.Ok) (ht : f.tok.length = 16) (hl : f.data.length ≤ 1000000) (hr : rightB f = true) (l : List Fr) (m : List Nat) (hz : f.kind = 0 → f.a = 1200 ∨ m.head? ≠ some 0) : loopP l (putM f ++ m, 0) = loopP (stepP l f) (m, 0) := by
  rw [loopP_on l _ (by simp [putM_ne of ht hl hr]), next_right of ht hl hr m hz]
end Go.Proofs.YtlcffjmbfpdlbaaDoor
