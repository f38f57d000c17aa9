/- A struct that is handed back out of its cell with one value more, or two. -/
import Derived.Test.YtblpgpolhibfgaaFlat
namespace Go.Proofs.Ytblpgpolhibfgaa
open Go.RowKit

section
variable {P : Program} {fn : Func} {p u v : Tmp} {ty : TypeId} {a : Act} {w : World} {g : Nat} {e : TypeId} {cs : List Value} {d : TypeDesc} {R : Ending → World → Prop}
theorem ret_row2 (hres : fn.results = #[.cell p ty, .tmp u])
    (hp : a.tmps.getD p undef = .pointer (some ⟨g, 0, none⟩)) (hr : Row w g e cs) (hu : P.underlying ty = some d) (hd : d.isRow = true) (hi : (P.info? ty).map (·.size) = some cs.length) (hdef : a.defers = [])
    (h : R (.returned (.tuple #[.agg cs.toArray, a.tmps.getD u undef])) w) : bodyPost P fn R Exit.ret a w := by
  have hp' : a.tmps[p]?.getD undef = .pointer (some ⟨g, 0, none⟩) := by simpa using hp
  refine bodyPost_ret ?_ hdef h
  simp [results, hres, hp', asAddr, run_loadVar_row w g e ty cs.toArray (0, 0) d hr hu (by cases d <;> first | rfl | cases hd) (by simpa using hi)]
theorem ret_row3 (hres : fn.results = #[.cell p ty, .tmp u, .tmp v])
    (hp : a.tmps.getD p undef = .pointer (some ⟨g, 0, none⟩)) (hr : Row w g e cs) (hu : P.underlying ty = some d) (hd : d.isRow = true) (hi : (P.info? ty).map (·.size) = some cs.length) (hdef : a.defers = [])
    (h : R (.returned (.tuple #[.agg cs.toArray, a.tmps.getD u undef, a.tmps.getD v undef])) w) : bodyPost P fn R Exit.ret a w := by
  have hp' : a.tmps[p]?.getD undef = .pointer (some ⟨g, 0, none⟩) := by simpa using hp
  refine bodyPost_ret ?_ hdef h
  simp [results, hres, hp', asAddr, run_loadVar_row w g e ty cs.toArray (0, 0) d hr hu (by cases d <;> first | rfl | cases hd) (by simpa using hi)]
end
end Go.Proofs.Ytblpgpolhibfgaa
