/- Layer 11 (ticks): sums, multiples, differences, backoffs and powers, the program's. -/
import Derived.Test.YtiflcanfjmmdjaaProg
import Derived.Test.YtiflcanfjmmdjaaV11Math
import Derived.Test.YtiflcanfjmmdjaaBits
import Derived.IntWalk
import Derived.Lib.Hide
import Derived.Lib.Mul64
import Derived.Laws.Externs
import Derived.Laws.BitsAllLaws
import Derived.BigQuiet
import Derived.Deep.QuietTactic
import Derived.RegionTactic
import Derived.BigRegion
namespace Go.Proofs.Ytiflcanfjmmdjaa
open Go.RowKit

def sub64E : Array Value → Sem Value := fun args => do
  let (x, y, b) ← Extern.MathBitsCarry.three "Sub64" args
  pure (Extern.MathBitsCarry.pair ((x + Extern.MathBitsCarry.m64 - y - b) % Extern.MathBitsCarry.m64) (if x < y + b then 1 else 0))

theorem add64 (x y : Nat) (w : World) : (callFunc 27 #[.int .u64 (x : Int), .int .u64 (y : Int), .int .u64 0]).run Try.prog w =
    .ok (.value (.tuple #[.int .u64 (((x + y) % 18446744073709551616 : Nat) : Int), .int .u64 (((x + y) / 18446744073709551616 : Nat) : Int)])) w := by
  rw [run_callFunc_extern Try.func27 (by kernel_rfl) (by kernel_rfl) (by kernel_rfl) (e := add64Entry) (by kernel_rfl), run_add64 (x : Int) (y : Int) 0 (by omega) (by omega) (by omega) (by omega)]
  simp only [Result.andThen]
  congr 5 <;> omega
/-- What is borrowed. -/
def borN (x y : Nat) : Nat := if x < y then 1 else 0
theorem sub64 (x y : Nat) (w : World) : (callFunc 31 #[.int .u64 (x : Int), .int .u64 (y : Int), .int .u64 0]).run Try.prog w =
    .ok (.value (.tuple #[.int .u64 (((x + 18446744073709551616 - y) % 18446744073709551616 : Nat) : Int), .int .u64 (borN x y : Int)])) w := by
  rw [run_callFunc_extern Try.func31 (by kernel_rfl) (by kernel_rfl) (by kernel_rfl) (e := sub64E) (by kernel_rfl)]
  rfl

theorem wrapN (n : Nat) (h : n < 18446744073709551616) : IntKind.u64.wrap (n : Int) = (n : Int) := by
  simp only [IntKind.wrap, IntKind.bits, IntKind.signed]
  simp
  omega
theorem wrapM (n : Nat) : IntKind.u64.wrap (n : Int) = ((n % 18446744073709551616 : Nat) : Int) := by
  simp only [IntKind.wrap, IntKind.bits, IntKind.signed]
  simp
theorem and32 (x : Nat) (hx : x < 18446744073709551616) : bits .and .u64 (x : Int) 4294967295 = ((x % 4294967296 : Nat) : Int) := by
  have := u64_and_nat x 4294967295 (by omega) (by omega)
  rw [show ((4294967295 : Nat) : Int) = 4294967295 from rfl] at this
  rw [this, show (4294967295 : Nat) = 2 ^ 32 - 1 from rfl, Nat.and_two_pow_sub_one_eq_mod]

set_option maxRecDepth 100000 in
set_option maxHeartbeats 1000000 in
theorem mul64_any (x y : Nat) (hx : x < 18446744073709551616) (hy : y < 18446744073709551616) (w : World) : Calls Try.prog 29 #[.int .u64 (x : Int), .int .u64 (y : Int)] w fun e w' =>
    e = .returned (.tuple #[.int .u64 ((x * y / 18446744073709551616 : Nat) : Int), .int .u64 ((x * y % 18446744073709551616 : Nat) : Int)]) ∧ w' = w := by
  have HL := Lib.hid (Lib.mul64_hi x y hx hy)
  have b1 := and32 x hx
  have b2 := and32 y hy
  obtain ⟨x0, e0⟩ : ∃ n, n = x % 4294967296 := ⟨_, rfl⟩
  obtain ⟨y0, e1⟩ : ∃ n, n = y % 4294967296 := ⟨_, rfl⟩
  obtain ⟨x1, e2⟩ : ∃ n, n = x / 4294967296 := ⟨_, rfl⟩
  obtain ⟨y1, e3⟩ : ∃ n, n = y / 4294967296 := ⟨_, rfl⟩
  have c1 : (x : Int) / 4294967296 = (x1 : Int) := by rw [e2]; omega
  have c2 : (y : Int) / 4294967296 = (y1 : Int) := by rw [e3]; omega
  rw [← e0] at b1
  rw [← e1] at b2
  rw [← e0, ← e1, ← e2, ← e3] at HL
  have d0 : IntKind.u64.wrap ((x0 : Int) * (y0 : Int)) = ((x0 * y0 : Nat) : Int) := wrapN (x0 * y0) HL.out.1
  have dl : IntKind.u64.wrap ((x : Int) * (y : Int)) = ((x * y % 18446744073709551616 : Nat) : Int) := wrapM (x * y)
  have q0 : x1 * y0 < 18446744073709551616 := by have := HL.out.2.1; omega
  have q1 : x0 * y1 < 18446744073709551616 := by have := HL.out.2.2.1; omega
  have hxy : x * y / 18446744073709551616 < 18446744073709551616 := by
    rw [Nat.div_lt_iff_lt_mul (by omega)]
    exact Nat.mul_lt_mul'' hx hy
  have q2 : x1 * y1 < 18446744073709551616 := by have := HL.out.2.2.2; omega
  have d1 : IntKind.u64.wrap ((x1 : Int) * (y0 : Int)) = ((x1 * y0 : Nat) : Int) := wrapN _ q0
  have d2 : IntKind.u64.wrap ((x0 : Int) * (y1 : Int)) = ((x0 * y1 : Nat) : Int) := wrapN _ q1
  have d3 : IntKind.u64.wrap ((x1 : Int) * (y1 : Int)) = ((x1 * y1 : Nat) : Int) := wrapN _ q2
  generalize x0 * y0 = A at *
  generalize x1 * y0 = B at *
  generalize x0 * y1 = C at *
  generalize x1 * y1 = D at *
  obtain ⟨t, et⟩ : ∃ n, n = B + A / 4294967296 := ⟨_, rfl⟩
  have f1 : IntKind.u64.wrap ((B : Int) + (A : Int) / 4294967296) = (t : Int) := by
    have := wrapN t (by rw [et]; exact HL.out.2.1)
    rw [← this, et]; congr 1
  have b3 : bits .and .u64 (t : Int) 4294967295 = ((t % 4294967296 : Nat) : Int) := and32 t (by rw [et]; exact HL.out.2.1)
  rw [← et] at HL
  obtain ⟨t0, et0⟩ : ∃ n, n = t % 4294967296 := ⟨_, rfl⟩
  obtain ⟨t1, et1⟩ : ∃ n, n = t / 4294967296 := ⟨_, rfl⟩
  have c3 : (t : Int) / 4294967296 = (t1 : Int) := by rw [et1]; omega
  rw [← et0] at b3
  rw [← et0, ← et1] at HL
  obtain ⟨u, eu⟩ : ∃ n, n = t0 + C := ⟨_, rfl⟩
  have f2 : IntKind.u64.wrap ((t0 : Int) + (C : Int)) = (u : Int) := by
    have := wrapN u (by rw [eu]; exact HL.out.2.2.1)
    rw [← this, eu]; congr 1
  rw [← eu] at HL
  obtain ⟨v, ev⟩ : ∃ n, n = x * y / 18446744073709551616 := ⟨_, rfl⟩
  rw [← ev] at HL hxy ⊢
  have f3 : IntKind.u64.wrap ((D : Int) + (t1 : Int)) = ((D + t1 : Nat) : Int) := wrapN (D + t1) (by have := HL.out.2.2.2; omega)
  have f4 : IntKind.u64.wrap ((D : Int) + (t1 : Int) + (u : Int) / 4294967296) = (v : Int) := by
    have := wrapN v hxy
    rw [← this]; congr 1; have := HL.out.2.2.2; omega
  obtain ⟨lo, el⟩ : ∃ n, n = x * y % 18446744073709551616 := ⟨_, rfl⟩
  rw [← el] at dl ⊢
  clear e0 e1 e2 e3 et et0 et1 eu ev el q0 q1 q2 hxy HL
  go_enter Try.func29, Try.ntmps29
  go_wp2
  refine bodyPost_ret (results_tmp2 rfl _ _ _) rfl ?_
  exact ⟨rfl, rfl⟩

theorem i64_and_nat (a b : Nat) (ha : a < 9223372036854775808) (hb : b < 9223372036854775808) : bits .and .i64 (a : Int) (b : Int) = ((a &&& b : Nat) : Int) := by
  have hx : a &&& b < 2 ^ 63 := Nat.and_lt_two_pow a (by omega)
  show IntKind.i64.wrap ((BitVec.ofInt 64 (a : Int) &&& BitVec.ofInt 64 (b : Int)).toNat : Int) = _
  rw [BitVec.toNat_and, ofInt_u64 a (by omega), ofInt_u64 b (by omega)]
  exact wrap_i64_small _ (by omega) (by omega)

set_option maxRecDepth 100000 in
set_option maxHeartbeats 1000000 in
theorem ones64_any (x : Nat) (hx : x < 18446744073709551616) (w : World) : Calls Try.prog 32 #[.int .u64 (x : Int)] w fun e w' => e = .returned (.int .i64 (onesN x : Nat)) ∧ w' = w := by
  obtain ⟨a, ea⟩ : ∃ n, n = x / 2 &&& 6148914691236517205 := ⟨_, rfl⟩
  obtain ⟨b, eb⟩ : ∃ n, n = x &&& 6148914691236517205 := ⟨_, rfl⟩
  have la : a ≤ 6148914691236517205 := by rw [ea]; exact Nat.and_le_right
  have lb : b ≤ 6148914691236517205 := by rw [eb]; exact Nat.and_le_right
  have k1 : bits .and .u64 ((x : Int) / 2) 6148914691236517205 = (a : Int) := by rw [ea]; exact u64_and_nat (x / 2) 6148914691236517205 (by omega) (by omega)
  have k2 : bits .and .u64 (x : Int) 6148914691236517205 = (b : Int) := by rw [eb]; exact u64_and_nat x 6148914691236517205 (by omega) (by omega)
  obtain ⟨y, ey⟩ : ∃ n, n = a + b := ⟨_, rfl⟩
  have k3 : IntKind.u64.wrap ((a : Int) + (b : Int)) = (y : Int) := by rw [ey]; exact wrapN (a + b) (by omega)
  have sy : y = sw1 x := by rw [ey, ea, eb]; rfl
  have ly : y < 18446744073709551616 := by omega
  clear ea eb
  obtain ⟨c, ec⟩ : ∃ n, n = y / 4 &&& 3689348814741910323 := ⟨_, rfl⟩
  obtain ⟨d, ed⟩ : ∃ n, n = y &&& 3689348814741910323 := ⟨_, rfl⟩
  have lc : c ≤ 3689348814741910323 := by rw [ec]; exact Nat.and_le_right
  have ld : d ≤ 3689348814741910323 := by rw [ed]; exact Nat.and_le_right
  have k4 : bits .and .u64 ((y : Int) / 4) 3689348814741910323 = (c : Int) := by rw [ec]; exact u64_and_nat (y / 4) 3689348814741910323 (by omega) (by omega)
  have k5 : bits .and .u64 (y : Int) 3689348814741910323 = (d : Int) := by rw [ed]; exact u64_and_nat y 3689348814741910323 (by omega) (by omega)
  obtain ⟨z, ez⟩ : ∃ n, n = c + d := ⟨_, rfl⟩
  have k6 : IntKind.u64.wrap ((c : Int) + (d : Int)) = (z : Int) := by rw [ez]; exact wrapN (c + d) (by omega)
  have sz : z = sw2 (sw1 x) := by rw [ez, ec, ed, sy]; rfl
  have lz : z ≤ 7378697629483820646 := by omega
  clear ec ed ey sy
  obtain ⟨t, et⟩ : ∃ n, n = z / 16 + z := ⟨_, rfl⟩
  have lt : t < 18446744073709551616 := by omega
  have k7 : IntKind.u64.wrap ((z : Int) / 16 + (z : Int)) = (t : Int) := by
    have := wrapN t lt
    rw [← this, et]; congr 1
  obtain ⟨f, ef⟩ : ∃ n, n = t &&& 1085102592571150095 := ⟨_, rfl⟩
  have k8 : bits .and .u64 (t : Int) 1085102592571150095 = (f : Int) := by rw [ef]; exact u64_and_nat t 1085102592571150095 (by omega) (by omega)
  have sf : f = cntB 8 x := by rw [ef, et, sz, ← sw3_cnt x hx]; rfl
  clear ef et ez sz
  obtain ⟨g, eg⟩ : ∃ n, n = f + f / 256 := ⟨_, rfl⟩
  obtain ⟨h, eh⟩ : ∃ n, n = g + g / 65536 := ⟨_, rfl⟩
  obtain ⟨m, em⟩ : ∃ n, n = h + h / 4294967296 := ⟨_, rfl⟩
  obtain ⟨r1, r2, r3, r4⟩ := cnt_sum x hx g h m (by rw [← sf]; exact eg) eh em
  have k9 : IntKind.u64.wrap ((f : Int) + (f : Int) / 256) = (g : Int) := by
    have := wrapN g r2
    rw [← this, eg]; congr 1
  have k10 : IntKind.u64.wrap ((g : Int) + (g : Int) / 65536) = (h : Int) := by
    have := wrapN h r3
    rw [← this, eh]; congr 1
  have k11 : IntKind.u64.wrap ((h : Int) + (h : Int) / 4294967296) = (m : Int) := by
    have := wrapN m (by omega)
    rw [← this, em]; congr 1
  obtain ⟨o, eo⟩ : ∃ n, n = onesN x := ⟨_, rfl⟩
  rw [← eo] at r1 ⊢
  have k12 : bits .and .i64 (wrap64 (m : Int)) 127 = (o : Int) := by
    have hw : wrap64 (m : Int) = (m : Int) := by unfold wrap64; omega
    rw [hw, ← r1]
    have := i64_and_nat m 127 r4 (by omega)
    rw [show ((127 : Nat) : Int) = 127 from rfl] at this
    rw [this, show (127 : Nat) = 2 ^ 7 - 1 from rfl, Nat.and_two_pow_sub_one_eq_mod]
  clear eg eh em r2 r3 r4 sf la lb lc ld lz lt ly eo r1
  go_enter Try.func32, Try.ntmps32
  go_wp2
  go_ret
  exact ⟨rfl, rfl⟩

/-! ### the functions of the bits that go over -/

/-- A function that reckons a number and the bits that go over, and turns nothing. -/
def Reckons (fn : FuncId) (cap : Array Value) (W : World) (over low : Nat) : Prop :=
  (∀ args w, (callFunc fn args).run Try.prog w = .ok (.enter fn args) w) ∧ Calls Try.prog fn cap W fun e w' => e = .returned (.tuple #[.int .u64 (over : Int), .int .u64 (low : Int)]) ∧ w' = W

theorem held_any (bound over low : Nat) (fn : FuncId) (c : Array Value) (w : World) (h : Reckons fn c w over low) :
    Calls Try.prog 25 #[.int .u64 (bound : Int), .func (.func fn) #[] c] w fun e w' => e = .returned (.int .u64 ((if over = 0 then low else bound : Nat) : Int)) ∧ w' = w := by
  obtain ⟨hen, hr⟩ := h
  have HR := Lib.hid hr
  clear hr
  by_cases hz : over = 0
  · subst hz
    rw [if_pos rfl]
    go_enter Try.func25, Try.ntmps25
    go_wp2_with (refine (HR.out).mono ?_; rintro e w' ⟨rfl, rfl⟩)
    go_ret
    exact ⟨rfl, rfl⟩
  · rw [if_neg hz]
    have hz2 : ((over : Int) != 0) = true := by simp; omega
    go_enter Try.func25, Try.ntmps25
    go_wp2_with (refine (HR.out).mono ?_; rintro e w' ⟨rfl, rfl⟩)
    go_ret
    exact ⟨rfl, rfl⟩

theorem add1_any (a b g g' : Nat) (w : World) (ha : w.cell? ⟨g, 0, none⟩ = some (.int .u64 (a : Int))) (hb : w.cell? ⟨g', 0, none⟩ = some (.int .u64 (b : Int))) :
    Reckons 26 #[.pointer (some ⟨g, 0, none⟩), .pointer (some ⟨g', 0, none⟩)] w ((a + b) / 18446744073709551616) ((a + b) % 18446744073709551616) := by
  refine ⟨Try.call26, ?_⟩
  go_enter Try.func26, Try.ntmps26
  go_wp2_with (simp only [add64])
  refine bodyPost_ret (results_tmp2 rfl _ _ _) rfl ?_
  exact ⟨rfl, rfl⟩
theorem sub1_any (a b g g' : Nat) (w : World) (ha : w.cell? ⟨g, 0, none⟩ = some (.int .u64 (a : Int))) (hb : w.cell? ⟨g', 0, none⟩ = some (.int .u64 (b : Int))) :
    Reckons 30 #[.pointer (some ⟨g, 0, none⟩), .pointer (some ⟨g', 0, none⟩)] w (borN a b) ((a + 18446744073709551616 - b) % 18446744073709551616) := by
  refine ⟨Try.call30, ?_⟩
  go_enter Try.func30, Try.ntmps30
  go_wp2_with (simp only [sub64])
  refine bodyPost_ret (results_tmp2 rfl _ _ _) rfl ?_
  exact ⟨rfl, rfl⟩
theorem times1_any (a b g g' : Nat) (hA : a < 18446744073709551616) (hB : b < 18446744073709551616) (w : World) (ha : w.cell? ⟨g, 0, none⟩ = some (.int .u64 (a : Int))) (hb : w.cell? ⟨g', 0, none⟩ = some (.int .u64 (b : Int))) :
    Reckons 28 #[.pointer (some ⟨g, 0, none⟩), .pointer (some ⟨g', 0, none⟩)] w (a * b / 18446744073709551616) (a * b % 18446744073709551616) := by
  refine ⟨Try.call28, ?_⟩
  have HM := Lib.hid (fun w => mul64_any a b hA hB w)
  go_enter Try.func28, Try.ntmps28
  go_wp2_with (go_at_call 29; refine (HM.out _).mono ?_; rintro e w' ⟨rfl, rfl⟩)
  refine bodyPost_ret (results_tmp2 rfl _ _ _) rfl ?_
  exact ⟨rfl, rfl⟩
end Go.Proofs.Ytiflcanfjmmdjaa
