/- A digest by value that came in. -/
import Derived.Test.YtfpflhcabjcamaaDoorK0
import Derived.ChangeOld
import Derived.ChangeSlices
import Derived.OpenShut
import Derived.Deep.Fields
namespace Go.Proofs.YtfpflhcabjcamaaDoor
open Go.RowKit Go.ChangeShapes Go.WideShapes Go.Deep

set_option maxRecDepth 100000
theorem cellsHash : Tryd.prog.cellsOf 26 = 32 := by kernel_rfl
section
variable {H : Type} {enc : TypeId × Value → H} {W : World} {held : Bool}
theorem open_hash {r : Reach} {b0 : Nat} {v : Value} {d : DataW H} {p : List MemPlace} (hv : Value.okWide Tryd.prog W r b0 26 v) (h : DataW.Trod enc Tryd.prog W 0 (fun _ => true) held 26 v d p) :
    ∃ t : List Nat, v = .agg (u8s t).toArray ∧ t.length = 32 ∧ ∀ x ∈ t, x < 256 := by
  obtain ⟨cs, rfl, hsz⟩ : ∃ cs, v = .agg cs ∧ cs.size = Tryd.prog.cellsOf 26 := by
    simp only [Value.okWide, Tryd.underlying26] at hv
    obtain ⟨cs, h1, h2, _⟩ := hv
    exact ⟨cs, h1, h2⟩
  obtain ⟨l⟩ := cs
  have hl : l.length = 32 := hsz.trans cellsHash
  obtain ⟨fuel, hf⟩ := h
  obtain ⟨ys, m, _, _, _, hly, hy⟩ := DataW.trod_array Tryd.underlying26 hf
  obtain ⟨t, rfl, ht⟩ := cells_numsh l (fun v hv => by
    obtain ⟨i, hi, rfl⟩ := List.mem_iff_getElem.1 hv
    have q := hy i (by omega)
    have hys : ys[i]? = some (ys[i]'(by omega)) := List.getElem?_eq_getElem _
    rw [hys, cellsU8h, Nat.mul_one] at q
    simp only [Value.cells] at q
    rw [List.drop_eq_getElem_cons hi, List.take_succ_cons, List.take_zero] at q
    obtain ⟨z, qz, _, wz⟩ := DataW.trod_int Tryd.underlying5 q
    obtain ⟨k, rfl, hk⟩ := nat_u8h wz
    simp at qz
    exact ⟨k, qz, hk⟩)
  exact ⟨t, rfl, by simpa using hl, ht⟩
end
end Go.Proofs.YtfpflhcabjcamaaDoor
