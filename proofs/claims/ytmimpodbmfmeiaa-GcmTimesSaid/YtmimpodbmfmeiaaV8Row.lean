/- Rows of bytes: read and written at a place. No program is named here. -/
import Derived.Test.YtmimpodbmfmeiaaAloc
import Derived.Test.YtmimpodbmfmeiaaBytes
namespace Go.Proofs.Ytmimpodbmfmeiaa
open Go.RowKit

theorem u8s_oneA (l : List Nat) : (u8s l).all (·.oneCell') = true := List.all_eq_true.2 (u8s_one l)
theorem Row.u8 {w : World} {g : Nat} {e : TypeId} {l : List Nat} (h : Row w g e (u8s l)) {i : Nat} (hi : i < l.length) : w.cell? ⟨g, i, none⟩ = some (.int .u8 ((l.getD i 0 : Nat) : Int)) := by
  rw [h.cell, u8s_get, List.getElem?_eq_getElem hi]
  simp [List.getD_eq_getElem?_getD, hi]
theorem getD_lt {l : List Nat} {m : Nat} (h : ∀ x ∈ l, x < m) (i : Nat) (hm : 0 < m) : l.getD i 0 < m := by
  rw [List.getD_eq_getElem?_getD]
  cases hi : l[i]? with
  | none => simpa using hm
  | some x => simpa using h x (List.mem_of_getElem? hi)
theorem ret_u8 {a b : Int} (h : a = b) : Ending.returned (.int .u8 a) = .returned (.int .u8 b) := by rw [h]
end Go.Proofs.Ytmimpodbmfmeiaa
