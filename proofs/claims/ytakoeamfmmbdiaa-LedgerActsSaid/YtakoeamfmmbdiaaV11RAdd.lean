/- Layer 11 (ticks): the document's sum. -/
import Derived.Test.YtakoeamfmmbdiaaV11Held
namespace Go.Proofs.Ytakoeamfmmbdiaa
open Go.RowKit

theorem radd_any (a b : Nat) (ha : a < 18446744073709551616) (_hb : b < 18446744073709551616) (w : World) : Calls Try.prog 39 #[.int .u64 (a : Int), .int .u64 (b : Int)] w fun e w' => e = .returned (.int .u64 (addN a b : Nat)) ∧ w' = w := by
  by_cases h : 18446744073709551615 - a < b
  · have e1 : addN a b = 18446744073709551615 := by unfold addN NV; omega
    have h2 : (18446744073709551615 : Int) - (a : Int) < (b : Int) := by omega
    rw [e1]
    clear h
    go_enter Try.func39, Try.ntmps39
    go_wp2
    go_ret
    exact ⟨rfl, rfl⟩
  · have e1 : addN a b = a + b := by unfold addN NV; omega
    have h2 : ¬ (18446744073709551615 : Int) - (a : Int) < (b : Int) := by omega
    rw [e1]
    clear h
    go_enter Try.func39, Try.ntmps39
    go_wp2
    go_ret
    exact ⟨rfl, rfl⟩

end Go.Proofs.Ytakoeamfmmbdiaa
