/- Layer 11 (ticks): the program's sum. -/
import Derived.Test.YtakoeamfmmbdiaaV11Held
namespace Go.Proofs.Ytakoeamfmmbdiaa
open Go.RowKit

theorem add64 (x y : Nat) (w : World) : (callFunc 44 #[.int .u64 (x : Int), .int .u64 (y : Int), .int .u64 0]).run Try.prog w =
    .ok (.value (.tuple #[.int .u64 (((x + y) % 18446744073709551616 : Nat) : Int), .int .u64 (((x + y) / 18446744073709551616 : Nat) : Int)])) w := by
  rw [run_callFunc_extern Try.func44 (by kernel_rfl) (by kernel_rfl) (by kernel_rfl) (e := add64Entry) (by kernel_rfl), run_add64 (x : Int) (y : Int) 0 (by omega) (by omega) (by omega) (by omega)]
  simp only [Result.andThen]
  congr 5 <;> omega
theorem add1_any (a b g g' : Nat) (w : World) (ha : w.cell? ⟨g, 0, none⟩ = some (.int .u64 (a : Int))) (hb : w.cell? ⟨g', 0, none⟩ = some (.int .u64 (b : Int))) :
    Reckons 43 #[.pointer (some ⟨g, 0, none⟩), .pointer (some ⟨g', 0, none⟩)] w ((a + b) / 18446744073709551616) ((a + b) % 18446744073709551616) := by
  refine ⟨Try.call43, ?_⟩
  go_enter Try.func43, Try.ntmps43
  go_wp2_with (simp only [add64])
  refine bodyPost_ret (results_tmp2 rfl _ _ _) rfl ?_
  exact ⟨rfl, rfl⟩
theorem add_over (a b : Nat) : (if (a + b) / 18446744073709551616 = 0 then (a + b) % 18446744073709551616 else 18446744073709551615) = addN a b := by
  unfold addN NV
  split <;> omega
set_option maxHeartbeats 1000000 in
theorem tadd_any (a b : Nat) (w : World) : Calls Try.prog 35 #[.int .u64 (a : Int), .int .u64 (b : Int)] w fun e w' => e = .returned (.int .u64 (addN a b : Nat)) ∧ Chg none_ w w' := by
  have HC := Lib.hid (((Chg.refl none_ w).alloc (.cells #[.int .u64 (a : Int)] 29)).alloc (.cells #[.int .u64 (b : Int)] 29))
  have HH := Lib.hid (fun w' ha hb => held_any 18446744073709551615 _ _ _ _ w' (add1_any a b w.heap.size (w.heap.size + 1) w' ha hb))
  rw [add_over] at HH
  go_enter Try.func35, Try.ntmps35
  go_wp2_with (go_at_call 42; refine (HH.out _ (by simp [go_sem]) (by simp [go_sem])).mono ?_; rintro e w' ⟨rfl, rfl⟩)
  go_ret
  exact ⟨rfl, HC.out⟩

end Go.Proofs.Ytakoeamfmmbdiaa
