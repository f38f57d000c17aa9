/- Layer 10 (keys): keys that are updated so often. -/
import Derived.Test.YtfpflhcabjcamaaDoorV10Alive
namespace Go.Proofs.YtfpflhcabjcamaaDoor
open Go.RowKit

/-- Keys that are updated so often. -/
def uN (h : List Nat) : Nat → Sc
  | 0 => makeN h false
  | k + 1 => updateN (uN h k)
theorem uN_ok (h : List Nat) : ∀ k, (uN h k).Ok
  | 0 => makeN_ok _ _
  | _ + 1 => updateN_ok _
theorem uN_phase (h : List Nat) : ∀ k, (uN h k).phase = decide (k % 2 = 1)
  | 0 => rfl
  | k + 1 => by
    show (!(uN h k).phase) = _
    rw [uN_phase h k]
    rcases Nat.mod_two_eq_zero_or_one k with e | e
    · rw [decide_eq_false (by omega), decide_eq_true (by omega)]; rfl
    · rw [decide_eq_true (by omega), decide_eq_false (by omega)]; rfl

end Go.Proofs.YtfpflhcabjcamaaDoor
