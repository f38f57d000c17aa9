/- Layer 11 (ticks): the functions of the bits that go over, and held. -/
import Derived.Test.YtakoeamfmmbdiaaProg
import Derived.Test.YtakoeamfmmbdiaaV11Math
import Derived.Test.YtakoeamfmmbdiaaBits
import Derived.IntWalk
import Derived.Lib.Hide
import Derived.Laws.Externs
import Derived.Laws.BitsAllLaws
import Derived.BigQuiet
import Derived.Deep.QuietTactic
import Derived.RegionTactic
import Derived.BigRegion
namespace Go.Proofs.Ytakoeamfmmbdiaa
open Go.RowKit

theorem wrapN (n : Nat) (h : n < 18446744073709551616) : IntKind.u64.wrap (n : Int) = (n : Int) := by
  simp only [IntKind.wrap, IntKind.bits, IntKind.signed]
  simp
  omega
theorem wrapM (n : Nat) : IntKind.u64.wrap (n : Int) = ((n % 18446744073709551616 : Nat) : Int) := by
  simp only [IntKind.wrap, IntKind.bits, IntKind.signed]
  simp
theorem and32 (x : Nat) (hx : x < 18446744073709551616) : bits .and .u64 (x : Int) 4294967295 = ((x % 4294967296 : Nat) : Int) := by
  have := u64_and_nat x 4294967295 (by omega) (by omega)
  rw [show ((4294967295 : Nat) : Int) = 4294967295 from rfl] at this
  rw [this, show (4294967295 : Nat) = 2 ^ 32 - 1 from rfl, Nat.and_two_pow_sub_one_eq_mod]

/-! ### the functions of the bits that go over -/

/-- A function that reckons a number and the bits that go over, and turns nothing. -/
def Reckons (fn : FuncId) (cap : Array Value) (W : World) (over low : Nat) : Prop :=
  (∀ args w, (callFunc fn args).run Try.prog w = .ok (.enter fn args) w) ∧ Calls Try.prog fn cap W fun e w' => e = .returned (.tuple #[.int .u64 (over : Int), .int .u64 (low : Int)]) ∧ w' = W

theorem held_any (bound over low : Nat) (fn : FuncId) (c : Array Value) (w : World) (h : Reckons fn c w over low) :
    Calls Try.prog 42 #[.int .u64 (bound : Int), .func (.func fn) #[] c] w fun e w' => e = .returned (.int .u64 ((if over = 0 then low else bound : Nat) : Int)) ∧ w' = w := by
  obtain ⟨hen, hr⟩ := h
  have HR := Lib.hid hr
  clear hr
  by_cases hz : over = 0
  · subst hz
    rw [if_pos rfl]
    go_enter Try.func42, Try.ntmps42
    go_wp2_with (refine (HR.out).mono ?_; rintro e w' ⟨rfl, rfl⟩)
    go_ret
    exact ⟨rfl, rfl⟩
  · rw [if_neg hz]
    have hz2 : ((over : Int) != 0) = true := by simp; omega
    go_enter Try.func42, Try.ntmps42
    go_wp2_with (refine (HR.out).mono ?_; rintro e w' ⟨rfl, rfl⟩)
    go_ret
    exact ⟨rfl, rfl⟩
end Go.Proofs.Ytakoeamfmmbdiaa
