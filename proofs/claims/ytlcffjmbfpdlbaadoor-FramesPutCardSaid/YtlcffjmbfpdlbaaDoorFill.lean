/- Own words: a struct within a literal's cells. No program is named here. (As in V10Sc.) -/
import Derived.Test.YtlcffjmbfpdlbaaDoorFlat
import Derived.DeepKeys
namespace Go.Proofs.YtlcffjmbfpdlbaaDoor
open Go.RowKit

theorem setList_mid (xs : List Value) : ∀ (ys pre post : List Value), xs.length = ys.length → xs.zipIdx.foldl (fun l x => l.set (pre.length + x.2) x.1) (pre ++ (ys ++ post)) = pre ++ (xs ++ post) := by
  induction xs with
  | nil => intro ys pre post h; have : ys = [] := List.eq_nil_of_length_eq_zero h.symm; subst this; simp
  | cons x r ih =>
    intro ys pre post h
    cases ys with
    | nil => cases h
    | cons y ys =>
      have hl : r.length = ys.length := by simpa using h
      have := ih ys (pre ++ [x]) post hl
      rw [List.zipIdx_cons, List.foldl_cons, List.zipIdx_succ, List.foldl_map]
      simp only [Nat.add_zero]
      have e1 : (pre ++ (y :: ys ++ post)).set pre.length x = pre ++ [x] ++ (ys ++ post) := by simp
      rw [e1]
      have e2 : (fun (l : List Value) (y : Value × Nat) => l.set (pre.length + (y.2 + 1)) y.1) = fun l y => l.set ((pre ++ [x]).length + y.2) y.1 := by
        funext l y; congr 1; simp; omega
      rw [e2, this]
      simp
theorem fill_part {place : Nat → Option (Nat × Nat)} {k : Nat} {v : Value} {xs pre ys post : List Value} {rest : List (Nat × Value)} (hv : v.cells = xs.toArray) (hp : place k = some (pre.length, xs.length)) (hl : xs.length = ys.length) :
    Instr.fill place (pre ++ (ys ++ post)).toArray ((k, v) :: rest) = Instr.fill place (pre ++ (xs ++ post)).toArray rest := by
  have e : ∀ (l : List (Value × Nat)) (cs : List Value), (l.foldl (fun (cs : Array Value) (x : Value × Nat) => cs.setIfInBounds (pre.length + x.2) x.1) cs.toArray) = (l.foldl (fun (cs : List Value) (x : Value × Nat) => cs.set (pre.length + x.2) x.1) cs).toArray := by
    intro l
    induction l with
    | nil => intro cs; rfl
    | cons a l ih => intro cs; simp only [List.foldl_cons, List.setIfInBounds_toArray]; exact ih _
  have h := setList_mid xs ys pre post hl
  have hz : (xs.toArray.zipIdx) = xs.zipIdx.toArray := by simp
  rw [Instr.fill, hp]
  simp only [hv]
  rw [if_neg (by simp; omega), hz, List.foldl_toArray', e, h]
  rfl

end Go.Proofs.YtlcffjmbfpdlbaaDoor
