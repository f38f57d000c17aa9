/- Arrays of bytes by value that came in. -/
import Derived.Test.YtmimpodbmfmeiaaBase
import Derived.Test.YtmimpodbmfmeiaaEqU8
import Derived.ChangeOld
import Derived.ChangeSlices
import Derived.OpenShut
import Derived.Deep.Fields
namespace Go.Proofs.Ytmimpodbmfmeiaa
open Go.RowKit Go.ChangeShapes Go.WideShapes Go.Deep

theorem nat_u8h {x : Int} (h : (Lit.int .u8 x).wf = true) : ∃ n : Nat, x = (n : Int) ∧ n < 256 := by
  have h2 : (decide (0 ≤ x) && decide (x ≤ 255)) = true := h
  simp only [Bool.and_eq_true, decide_eq_true_eq] at h2
  exact ⟨x.toNat, by omega, by omega⟩
theorem cells_numsh : ∀ (l : List Value), (∀ v ∈ l, ∃ n : Nat, v = .int .u8 (n : Int) ∧ n < 256) → ∃ t : List Nat, l = u8s t ∧ ∀ x ∈ t, x < 256
  | [], _ => ⟨[], rfl, by simp⟩
  | v :: l, h => by
    obtain ⟨n, rfl, hn⟩ := h v (by simp)
    obtain ⟨t, rfl, ht⟩ := cells_numsh l (fun v hv => h v (by simp [hv]))
    exact ⟨n :: t, rfl, by simpa using ⟨hn, ht⟩⟩
end Go.Proofs.Ytmimpodbmfmeiaa
