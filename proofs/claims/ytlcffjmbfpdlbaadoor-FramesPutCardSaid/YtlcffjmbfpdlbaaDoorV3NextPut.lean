/- Layer 3 (frames), plain: a right frame that was put is the one that stands there. -/
import Derived.Test.YtlcffjmbfpdlbaaDoorV3Back
namespace Go.Proofs.YtlcffjmbfpdlbaaDoor
open Go.RowKit

theorem dropP_setF (p q : Part) (f g : Fr) : dropP q (setF p f g) = setF p (dropP q f) (dropP q g) := by
  cases p <;> cases q <;> rfl
theorem dropAll_setF (p : Part) : ∀ (ps : List Part) (f g : Fr), dropAll ps (setF p f g) = setF p (dropAll ps f) (dropAll ps g)
  | [], _, _ => rfl
  | q :: ps, f, g => by
    show dropAll ps (dropP q (setF p f g)) = _
    rw [dropP_setF, dropAll_setF p ps]
    rfl
theorem dropP_comm (p q : Part) (f : Fr) : dropP q (dropP p f) = dropP p (dropP q f) := by
  cases p <;> cases q <;> rfl
theorem dropAll_comm (p : Part) : ∀ (ps : List Part) (f : Fr), dropAll ps (dropP p f) = dropP p (dropAll ps f)
  | [], _ => rfl
  | q :: ps, f => by
    show dropAll ps (dropP q (dropP p f)) = _
    rw [dropP_comm, dropAll_comm p ps]
    rfl
theorem setF_same (p : Part) (f g : Fr) (h : dropP p f = dropP p g) : setF p f g = f := by
  obtain ⟨a1, a2, a3, a4, a5, a6, a7, a8, a9⟩ := f
  obtain ⟨b1, b2, b3, b4, b5, b6, b7, b8, b9⟩ := g
  cases p <;> simp_all [dropP, setF, setP]
/-- With all its parts a frame is whole again. -/
theorem fold_setF (f : Fr) : ∀ (ps : List Part) (g : Fr), dropAll ps f = dropAll ps g → ps.foldl (fun g p => setF p f g) g = f
  | [], g, h => h.symm
  | p :: ps, g, h => by
    have h2 : dropP p (dropAll ps f) = dropP p (dropAll ps g) := by rw [← dropAll_comm, ← dropAll_comm]; exact h
    refine fold_setF f ps (setF p f g) ?_
    rw [dropAll_setF, setF_same p _ _ h2]
theorem dropP_flag (p : Part) (f : Fr) (b : Bool) : dropP p { f with flag := b } = { dropP p f with flag := b } := by cases p <;> rfl
theorem dropAll_flag (b : Bool) : ∀ (ps : List Part) (f : Fr), dropAll ps { f with flag := b } = { dropAll ps f with flag := b }
  | [], _ => rfl
  | p :: ps, f => by
    show dropAll ps (dropP p { f with flag := b }) = _
    rw [dropP_flag, dropAll_flag b ps]
    rfl
theorem dropAll_keep : ∀ (ps : List Part) (f : Fr), (dropAll ps f).flag = f.flag ∧ (dropAll ps f).kind = f.kind
  | [], _ => ⟨rfl, rfl⟩
  | p :: ps, f => by
    have h := dropAll_keep ps (dropP p f)
    have h2 : (dropP p f).flag = f.flag ∧ (dropP p f).kind = f.kind := by cases p <;> exact ⟨rfl, rfl⟩
    exact ⟨h.1.trans h2.1, h.2.trans h2.2⟩
theorem dropAll_plain (k : Int) (b : Bool) : ∀ ps : List Part, dropAll ps { kind := k, flag := b } = { kind := k, flag := b }
  | [] => rfl
  | p :: ps => by
    have h : dropP p { kind := k, flag := b } = ({ kind := k, flag := b } : Fr) := by cases p <;> rfl
    show dropAll ps (dropP p _) = _
    rw [h, dropAll_plain k b ps]
/-- A frame that has what its kind has: its Flag, and all of it by its parts. -/
theorem has_whole {d : KD} {f : Fr} (h : hasB d f = true) : (f.flag = true → d.flagged = true) ∧ (d.pf.parts (typM f)).foldl (fun g p => setF p f g) { kind := f.kind, flag := f.flag } = f := by
  simp only [hasB, Bool.and_eq_true, decide_eq_true_eq] at h
  have h2 := h.2.1
  rw [dropAll_flag] at h2
  have hfl : (f.flag && !d.flagged) = false := by
    have := congrArg Fr.flag h2
    simpa using this
  refine ⟨fun e => by rw [e] at hfl; simpa using hfl, fold_setF f _ _ ?_⟩
  rw [dropAll_plain]
  have hk := dropAll_keep (d.pf.parts (typM f)) f
  generalize dropAll (d.pf.parts (typM f)) f = X at *
  obtain ⟨a1, a2, a3, a4, a5, a6, a7, a8, a9⟩ := X
  simp only [Fr.mk.injEq] at h2 hk ⊢
  exact ⟨h2.1, h2.2.1, h2.2.2.1, h2.2.2.2.1, h2.2.2.2.2.1, hk.1, h2.2.2.2.2.2.2.1, h2.2.2.2.2.2.2.2.1, h2.2.2.2.2.2.2.2.2⟩

end Go.Proofs.YtlcffjmbfpdlbaaDoor
