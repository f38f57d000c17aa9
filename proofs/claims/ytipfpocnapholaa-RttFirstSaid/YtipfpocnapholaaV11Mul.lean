/- Layer 11 (ticks): multiples, the program's (math/bits.Mul64, held, the closure of Times). -/
import Derived.Test.YtipfpocnapholaaProg
import Derived.Test.YtipfpocnapholaaV11Math
import Derived.Test.YtipfpocnapholaaBits
import Derived.IntWalk
import Derived.Lib.Hide
import Derived.Lib.Mul64
import Derived.Laws.Externs
import Derived.Laws.BitsAllLaws
import Derived.BigQuiet
import Derived.Deep.QuietTactic
import Derived.RegionTactic
import Derived.BigRegion
namespace Go.Proofs.Ytipfpocnapholaa
open Go.RowKit

theorem wrapN (n : Nat) (h : n < 18446744073709551616) : IntKind.u64.wrap (n : Int) = (n : Int) := by
  simp only [IntKind.wrap, IntKind.bits, IntKind.signed]
  simp
  omega
theorem wrapM (n : Nat) : IntKind.u64.wrap (n : Int) = ((n % 18446744073709551616 : Nat) : Int) := by
  simp only [IntKind.wrap, IntKind.bits, IntKind.signed]
  simp
theorem and32 (x : Nat) (hx : x < 18446744073709551616) : bits .and .u64 (x : Int) 4294967295 = ((x % 4294967296 : Nat) : Int) := by
  have := u64_and_nat x 4294967295 (by omega) (by omega)
  rw [show ((4294967295 : Nat) : Int) = 4294967295 from rfl] at this
  rw [this, show (4294967295 : Nat) = 2 ^ 32 - 1 from rfl, Nat.and_two_pow_sub_one_eq_mod]

set_option maxRecDepth 100000 in
set_option maxHeartbeats 1000000 in
theorem mul64_any (x y : Nat) (hx : x < 18446744073709551616) (hy : y < 18446744073709551616) (w : World) : Calls Try.prog 31 #[.int .u64 (x : Int), .int .u64 (y : Int)] w fun e w' =>
    e = .returned (.tuple #[.int .u64 ((x * y / 18446744073709551616 : Nat) : Int), .int .u64 ((x * y % 18446744073709551616 : Nat) : Int)]) ∧ w' = w := by
  have HL := Lib.hid (Lib.mul64_hi x y hx hy)
  have b1 := and32 x hx
  have b2 := and32 y hy
  obtain ⟨x0, e0⟩ : ∃ n, n = x % 4294967296 := ⟨_, rfl⟩
  obtain ⟨y0, e1⟩ : ∃ n, n = y % 4294967296 := ⟨_, rfl⟩
  obtain ⟨x1, e2⟩ : ∃ n, n = x / 4294967296 := ⟨_, rfl⟩
  obtain ⟨y1, e3⟩ : ∃ n, n = y / 4294967296 := ⟨_, rfl⟩
  have c1 : (x : Int) / 4294967296 = (x1 : Int) := by rw [e2]; omega
  have c2 : (y : Int) / 4294967296 = (y1 : Int) := by rw [e3]; omega
  rw [← e0] at b1
  rw [← e1] at b2
  rw [← e0, ← e1, ← e2, ← e3] at HL
  have d0 : IntKind.u64.wrap ((x0 : Int) * (y0 : Int)) = ((x0 * y0 : Nat) : Int) := wrapN (x0 * y0) HL.out.1
  have dl : IntKind.u64.wrap ((x : Int) * (y : Int)) = ((x * y % 18446744073709551616 : Nat) : Int) := wrapM (x * y)
  have q0 : x1 * y0 < 18446744073709551616 := by have := HL.out.2.1; omega
  have q1 : x0 * y1 < 18446744073709551616 := by have := HL.out.2.2.1; omega
  have hxy : x * y / 18446744073709551616 < 18446744073709551616 := by
    rw [Nat.div_lt_iff_lt_mul (by omega)]
    exact Nat.mul_lt_mul'' hx hy
  have q2 : x1 * y1 < 18446744073709551616 := by have := HL.out.2.2.2; omega
  have d1 : IntKind.u64.wrap ((x1 : Int) * (y0 : Int)) = ((x1 * y0 : Nat) : Int) := wrapN _ q0
  have d2 : IntKind.u64.wrap ((x0 : Int) * (y1 : Int)) = ((x0 * y1 : Nat) : Int) := wrapN _ q1
  have d3 : IntKind.u64.wrap ((x1 : Int) * (y1 : Int)) = ((x1 * y1 : Nat) : Int) := wrapN _ q2
  generalize x0 * y0 = A at *
  generalize x1 * y0 = B at *
  generalize x0 * y1 = C at *
  generalize x1 * y1 = D at *
  obtain ⟨t, et⟩ : ∃ n, n = B + A / 4294967296 := ⟨_, rfl⟩
  have f1 : IntKind.u64.wrap ((B : Int) + (A : Int) / 4294967296) = (t : Int) := by
    have := wrapN t (by rw [et]; exact HL.out.2.1)
    rw [← this, et]; congr 1
  have b3 : bits .and .u64 (t : Int) 4294967295 = ((t % 4294967296 : Nat) : Int) := and32 t (by rw [et]; exact HL.out.2.1)
  rw [← et] at HL
  obtain ⟨t0, et0⟩ : ∃ n, n = t % 4294967296 := ⟨_, rfl⟩
  obtain ⟨t1, et1⟩ : ∃ n, n = t / 4294967296 := ⟨_, rfl⟩
  have c3 : (t : Int) / 4294967296 = (t1 : Int) := by rw [et1]; omega
  rw [← et0] at b3
  rw [← et0, ← et1] at HL
  obtain ⟨u, eu⟩ : ∃ n, n = t0 + C := ⟨_, rfl⟩
  have f2 : IntKind.u64.wrap ((t0 : Int) + (C : Int)) = (u : Int) := by
    have := wrapN u (by rw [eu]; exact HL.out.2.2.1)
    rw [← this, eu]; congr 1
  rw [← eu] at HL
  obtain ⟨v, ev⟩ : ∃ n, n = x * y / 18446744073709551616 := ⟨_, rfl⟩
  rw [← ev] at HL hxy ⊢
  have f3 : IntKind.u64.wrap ((D : Int) + (t1 : Int)) = ((D + t1 : Nat) : Int) := wrapN (D + t1) (by have := HL.out.2.2.2; omega)
  have f4 : IntKind.u64.wrap ((D : Int) + (t1 : Int) + (u : Int) / 4294967296) = (v : Int) := by
    have := wrapN v hxy
    rw [← this]; congr 1; have := HL.out.2.2.2; omega
  obtain ⟨lo, el⟩ : ∃ n, n = x * y % 18446744073709551616 := ⟨_, rfl⟩
  rw [← el] at dl ⊢
  clear e0 e1 e2 e3 et et0 et1 eu ev el q0 q1 q2 hxy HL
  go_enter Try.func31, Try.ntmps31
  go_wp2
  refine bodyPost_ret (results_tmp2 rfl _ _ _) rfl ?_
  exact ⟨rfl, rfl⟩

/-! ### the functions of the bits that go over -/

/-- A function that reckons a number and the bits that go over, and turns nothing. -/
def Reckons (fn : FuncId) (cap : Array Value) (W : World) (over low : Nat) : Prop :=
  (∀ args w, (callFunc fn args).run Try.prog w = .ok (.enter fn args) w) ∧ Calls Try.prog fn cap W fun e w' => e = .returned (.tuple #[.int .u64 (over : Int), .int .u64 (low : Int)]) ∧ w' = W

theorem held_any (bound over low : Nat) (fn : FuncId) (c : Array Value) (w : World) (h : Reckons fn c w over low) :
    Calls Try.prog 29 #[.int .u64 (bound : Int), .func (.func fn) #[] c] w fun e w' => e = .returned (.int .u64 ((if over = 0 then low else bound : Nat) : Int)) ∧ w' = w := by
  obtain ⟨hen, hr⟩ := h
  have HR := Lib.hid hr
  clear hr
  by_cases hz : over = 0
  · subst hz
    rw [if_pos rfl]
    go_enter Try.func29, Try.ntmps29
    go_wp2_with (refine (HR.out).mono ?_; rintro e w' ⟨rfl, rfl⟩)
    go_ret
    exact ⟨rfl, rfl⟩
  · rw [if_neg hz]
    have hz2 : ((over : Int) != 0) = true := by simp; omega
    go_enter Try.func29, Try.ntmps29
    go_wp2_with (refine (HR.out).mono ?_; rintro e w' ⟨rfl, rfl⟩)
    go_ret
    exact ⟨rfl, rfl⟩

theorem times1_any (a b g g' : Nat) (hA : a < 18446744073709551616) (hB : b < 18446744073709551616) (w : World) (ha : w.cell? ⟨g, 0, none⟩ = some (.int .u64 (a : Int))) (hb : w.cell? ⟨g', 0, none⟩ = some (.int .u64 (b : Int))) :
    Reckons 30 #[.pointer (some ⟨g, 0, none⟩), .pointer (some ⟨g', 0, none⟩)] w (a * b / 18446744073709551616) (a * b % 18446744073709551616) := by
  refine ⟨Try.call30, ?_⟩
  have HM := Lib.hid (fun w => mul64_any a b hA hB w)
  go_enter Try.func30, Try.ntmps30
  go_wp2_with (go_at_call 31; refine (HM.out _).mono ?_; rintro e w' ⟨rfl, rfl⟩)
  refine bodyPost_ret (results_tmp2 rfl _ _ _) rfl ?_
  exact ⟨rfl, rfl⟩
end Go.Proofs.Ytipfpocnapholaa
