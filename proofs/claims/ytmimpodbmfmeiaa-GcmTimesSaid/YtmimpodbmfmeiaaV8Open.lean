/- Layer 8 (aes): a block by value that came in. -/
import Derived.Test.YtmimpodbmfmeiaaV8Eq
import Derived.Test.YtmimpodbmfmeiaaOpenU8
import Derived.ChangeOld
import Derived.ChangeSlices
import Derived.OpenShut
import Derived.Deep.Fields
namespace Go.Proofs.Ytmimpodbmfmeiaa
open Go.RowKit Go.ChangeShapes Go.WideShapes Go.Deep

theorem cellsBlk : Try.prog.cellsOf 22 = 16 := by kernel_rfl
section
variable {H : Type} {enc : TypeId × Value → H} {W : World} {held : Bool}
theorem open_blk {r : Reach} {b0 : Nat} {v : Value} {d : DataW H} {p : List MemPlace} (hv : Value.okWide Try.prog W r b0 22 v) (h : DataW.Trod enc Try.prog W 0 (fun _ => true) held 22 v d p) :
    ∃ t : List Nat, v = .agg (u8s t).toArray ∧ t.length = 16 ∧ ∀ x ∈ t, x < 256 := by
  obtain ⟨cs, rfl, hsz⟩ : ∃ cs, v = .agg cs ∧ cs.size = Try.prog.cellsOf 22 := by
    simp only [Value.okWide, Try.underlying22] at hv
    obtain ⟨cs, h1, h2, _⟩ := hv
    exact ⟨cs, h1, h2⟩
  obtain ⟨l⟩ := cs
  have hl : l.length = 16 := hsz.trans cellsBlk
  obtain ⟨fuel, hf⟩ := h
  obtain ⟨ys, m, _, _, _, hly, hy⟩ := DataW.trod_array Try.underlying22 hf
  obtain ⟨t, rfl, ht⟩ := cells_numsh l (fun v hv => by
    obtain ⟨i, hi, rfl⟩ := List.mem_iff_getElem.1 hv
    have q := hy i (by omega)
    have hys : ys[i]? = some (ys[i]'(by omega)) := List.getElem?_eq_getElem _
    rw [hys, cellsU8h, Nat.mul_one] at q
    simp only [Value.cells] at q
    rw [List.drop_eq_getElem_cons hi, List.take_succ_cons, List.take_zero] at q
    obtain ⟨z, qz, _, wz⟩ := DataW.trod_int Try.underlying5 q
    obtain ⟨k, rfl, hk⟩ := nat_u8h wz
    simp at qz
    exact ⟨k, qz, hk⟩)
  exact ⟨t, rfl, by simpa using hl, ht⟩
end
end Go.Proofs.Ytmimpodbmfmeiaa
