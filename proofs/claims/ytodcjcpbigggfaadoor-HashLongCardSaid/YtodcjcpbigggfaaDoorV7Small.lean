/- Layer 7 (hash): turned words; the program's and the document's. -/
import Derived.Test.YtodcjcpbigggfaaDoorProg
import Derived.Test.YtodcjcpbigggfaaDoorBase
import Derived.Test.YtodcjcpbigggfaaDoorV7Bits
import Derived.IntWalk
import Derived.Lib.Hide
namespace Go.Proofs.YtodcjcpbigggfaaDoor
open Go.RowKit

def turns : List Nat := [2, 6, 7, 11, 13, 17, 18, 19, 22, 25]
theorem ret_u32 {a b : Int} (h : a = b) : Ending.returned (.int .u32 a) = .returned (.int .u32 b) := by rw [h]
theorem cnt2 : bits .and .u64 (IntKind.u64.wrap (-2)) 31 = 30 := by decide +kernel
theorem cnt6 : bits .and .u64 (IntKind.u64.wrap (-6)) 31 = 26 := by decide +kernel
theorem cnt7 : bits .and .u64 (IntKind.u64.wrap (-7)) 31 = 25 := by decide +kernel
theorem cnt11 : bits .and .u64 (IntKind.u64.wrap (-11)) 31 = 21 := by decide +kernel
theorem cnt13 : bits .and .u64 (IntKind.u64.wrap (-13)) 31 = 19 := by decide +kernel
theorem cnt17 : bits .and .u64 (IntKind.u64.wrap (-17)) 31 = 15 := by decide +kernel
theorem cnt18 : bits .and .u64 (IntKind.u64.wrap (-18)) 31 = 14 := by decide +kernel
theorem cnt19 : bits .and .u64 (IntKind.u64.wrap (-19)) 31 = 13 := by decide +kernel
theorem cnt22 : bits .and .u64 (IntKind.u64.wrap (-22)) 31 = 10 := by decide +kernel
theorem cnt25 : bits .and .u64 (IntKind.u64.wrap (-25)) 31 = 7 := by decide +kernel

theorem rot_val (x n : Nat) (hx : x < 4294967296) : bits .or .u32 ((x : Int) * (2 ^ (32 - n) : Nat) % 4294967296) ((x : Int) / (2 ^ n : Nat)) = rotr x n := by
  rw [rotr_eq x n hx]
  have := u32_or_nat (x * 2 ^ (32 - n) % 4294967296) (x / 2 ^ n) (Nat.mod_lt _ (by decide)) (Nat.lt_of_le_of_lt (Nat.div_le_self _ _) hx)
  rw [← this, Int.natCast_emod, Int.natCast_mul]
  rfl
theorem rrot_val (x n : Nat) (hx : x < 4294967296) : (bits .or .u64 ((x : Int) / (2 ^ n : Nat)) ((x : Int) * (2 ^ (32 - n) : Nat))).tmod 4294967296 = rotr x n := by
  have h1 : x * 2 ^ (32 - n) < 18446744073709551616 := by
    have : 2 ^ (32 - n) ≤ 2 ^ 32 := Nat.pow_le_pow_right (by omega) (by omega)
    have := Nat.mul_le_mul (Nat.le_of_lt_succ (show x < 4294967295 + 1 from hx)) this
    omega
  have h2 : x / 2 ^ n < 18446744073709551616 := Nat.lt_of_le_of_lt (Nat.div_le_self _ _) (by omega)
  have := u64_or_nat (x / 2 ^ n) (x * 2 ^ (32 - n)) h2 h1
  unfold rotr
  rw [Nat.shiftLeft_eq, Nat.shiftRight_eq_div_pow]
  rw [← Int.natCast_mul, show ((x : Int) / (2 ^ n : Nat)) = ((x / 2 ^ n : Nat) : Int) from rfl, this]
  rfl
set_option maxHeartbeats 1000000 in
theorem rotl_any (x n : Nat) (hx : x < 4294967296) (hn : n ∈ turns) (w : World) : Calls Tryd.prog 31 #[.int .u32 x, .int .i64 (-(n : Int))] w fun e w' => e = .returned (.int .u32 (rotr x n)) ∧ w = w' := by
  have hr := fun n => rot_val x n hx
  have h2 := cnt2
  have h6 := cnt6
  have h7 := cnt7
  have h11 := cnt11
  have h13 := cnt13
  have h17 := cnt17
  have h18 := cnt18
  have h19 := cnt19
  have h22 := cnt22
  have h25 := cnt25
  simp only [turns, List.mem_cons, List.not_mem_nil, or_false] at hn
  have HR := Lib.hid hr
  clear hr
  rcases hn with rfl | rfl | rfl | rfl | rfl | rfl | rfl | rfl | rfl | rfl
  · go_enter Tryd.func31, Tryd.ntmps31
    go_wp2
    go_ret
    exact ⟨ret_u32 (HR.out 2), rfl⟩
  · go_enter Tryd.func31, Tryd.ntmps31
    go_wp2
    go_ret
    exact ⟨ret_u32 (HR.out 6), rfl⟩
  · go_enter Tryd.func31, Tryd.ntmps31
    go_wp2
    go_ret
    exact ⟨ret_u32 (HR.out 7), rfl⟩
  · go_enter Tryd.func31, Tryd.ntmps31
    go_wp2
    go_ret
    exact ⟨ret_u32 (HR.out 11), rfl⟩
  · go_enter Tryd.func31, Tryd.ntmps31
    go_wp2
    go_ret
    exact ⟨ret_u32 (HR.out 13), rfl⟩
  · go_enter Tryd.func31, Tryd.ntmps31
    go_wp2
    go_ret
    exact ⟨ret_u32 (HR.out 17), rfl⟩
  · go_enter Tryd.func31, Tryd.ntmps31
    go_wp2
    go_ret
    exact ⟨ret_u32 (HR.out 18), rfl⟩
  · go_enter Tryd.func31, Tryd.ntmps31
    go_wp2
    go_ret
    exact ⟨ret_u32 (HR.out 19), rfl⟩
  · go_enter Tryd.func31, Tryd.ntmps31
    go_wp2
    go_ret
    exact ⟨ret_u32 (HR.out 22), rfl⟩
  · go_enter Tryd.func31, Tryd.ntmps31
    go_wp2
    go_ret
    exact ⟨ret_u32 (HR.out 25), rfl⟩

theorem right_any (x n : Nat) (hx : x < 4294967296) (hn : n ∈ turns) (w : World) : Calls Tryd.prog 28 #[.int .u32 x, .int .i64 n] w fun e w' => e = .returned (.int .u32 (rotr x n)) ∧ w = w' := by
  have hl : n ≤ 25 := by revert hn; simp [turns]; omega
  go_enter Tryd.func28, Tryd.ntmps28
  go_wp2_with (go_at_call 31; refine (rotl_any x n hx hn _).mono ?_; rintro e w' ⟨rfl, rfl⟩)
  go_ret
  exact ⟨rfl, rfl⟩

theorem right_2 (x : Nat) (hx : x < 4294967296) (w : World) : Calls Tryd.prog 28 #[.int .u32 x, .int .i64 2] w fun e w' => e = .returned (.int .u32 (rotr x 2)) ∧ w = w' := right_any x 2 hx (by decide) w
theorem right_6 (x : Nat) (hx : x < 4294967296) (w : World) : Calls Tryd.prog 28 #[.int .u32 x, .int .i64 6] w fun e w' => e = .returned (.int .u32 (rotr x 6)) ∧ w = w' := right_any x 6 hx (by decide) w
theorem right_7 (x : Nat) (hx : x < 4294967296) (w : World) : Calls Tryd.prog 28 #[.int .u32 x, .int .i64 7] w fun e w' => e = .returned (.int .u32 (rotr x 7)) ∧ w = w' := right_any x 7 hx (by decide) w
theorem right_11 (x : Nat) (hx : x < 4294967296) (w : World) : Calls Tryd.prog 28 #[.int .u32 x, .int .i64 11] w fun e w' => e = .returned (.int .u32 (rotr x 11)) ∧ w = w' := right_any x 11 hx (by decide) w
theorem right_13 (x : Nat) (hx : x < 4294967296) (w : World) : Calls Tryd.prog 28 #[.int .u32 x, .int .i64 13] w fun e w' => e = .returned (.int .u32 (rotr x 13)) ∧ w = w' := right_any x 13 hx (by decide) w
theorem right_17 (x : Nat) (hx : x < 4294967296) (w : World) : Calls Tryd.prog 28 #[.int .u32 x, .int .i64 17] w fun e w' => e = .returned (.int .u32 (rotr x 17)) ∧ w = w' := right_any x 17 hx (by decide) w
theorem right_18 (x : Nat) (hx : x < 4294967296) (w : World) : Calls Tryd.prog 28 #[.int .u32 x, .int .i64 18] w fun e w' => e = .returned (.int .u32 (rotr x 18)) ∧ w = w' := right_any x 18 hx (by decide) w
theorem right_19 (x : Nat) (hx : x < 4294967296) (w : World) : Calls Tryd.prog 28 #[.int .u32 x, .int .i64 19] w fun e w' => e = .returned (.int .u32 (rotr x 19)) ∧ w = w' := right_any x 19 hx (by decide) w
theorem right_22 (x : Nat) (hx : x < 4294967296) (w : World) : Calls Tryd.prog 28 #[.int .u32 x, .int .i64 22] w fun e w' => e = .returned (.int .u32 (rotr x 22)) ∧ w = w' := right_any x 22 hx (by decide) w
theorem right_25 (x : Nat) (hx : x < 4294967296) (w : World) : Calls Tryd.prog 28 #[.int .u32 x, .int .i64 25] w fun e w' => e = .returned (.int .u32 (rotr x 25)) ∧ w = w' := right_any x 25 hx (by decide) w
theorem s0_any (x : Nat) (hx : x < 4294967296) (w : World) : Calls Tryd.prog 30 #[.int .u32 x] w fun e w' => e = .returned (.int .u32 (sg0 x)) ∧ w = w' := by
  go_enter Tryd.func30, Tryd.ntmps30
  go_wp2_with (go_at_call 28; first | ((with_reducible refine (right_7 x hx _).mono ?_); rintro e w' ⟨rfl, rfl⟩) | ((with_reducible refine (right_18 x hx _).mono ?_); rintro e w' ⟨rfl, rfl⟩))
  go_ret
  refine ⟨ret_u32 ?_, rfl⟩
  show bits .xor .u32 (bits .xor .u32 (rotr x 7) (rotr x 18)) ((x : Int) / 8) = _
  rw [u32_xor_nat _ _ (rotr_lt _ _) (rotr_lt _ _)]
  have := u32_xor_nat (rotr x 7 ^^^ rotr x 18) (x >>> 3) (xor_lt (rotr_lt _ _) (rotr_lt _ _)) (shr_lt _ hx)
  rw [Nat.shiftRight_eq_div_pow] at this
  unfold sg0
  rw [Nat.shiftRight_eq_div_pow]
  exact this

theorem s1_any (x : Nat) (hx : x < 4294967296) (w : World) : Calls Tryd.prog 29 #[.int .u32 x] w fun e w' => e = .returned (.int .u32 (sg1 x)) ∧ w = w' := by
  go_enter Tryd.func29, Tryd.ntmps29
  go_wp2_with (go_at_call 28; first | ((with_reducible refine (right_17 x hx _).mono ?_); rintro e w' ⟨rfl, rfl⟩) | ((with_reducible refine (right_19 x hx _).mono ?_); rintro e w' ⟨rfl, rfl⟩))
  go_ret
  refine ⟨ret_u32 ?_, rfl⟩
  show bits .xor .u32 (bits .xor .u32 (rotr x 17) (rotr x 19)) ((x : Int) / 1024) = _
  rw [u32_xor_nat _ _ (rotr_lt _ _) (rotr_lt _ _)]
  have := u32_xor_nat (rotr x 17 ^^^ rotr x 19) (x >>> 10) (xor_lt (rotr_lt _ _) (rotr_lt _ _)) (shr_lt _ hx)
  rw [Nat.shiftRight_eq_div_pow] at this
  unfold sg1
  rw [Nat.shiftRight_eq_div_pow]
  exact this

set_option maxHeartbeats 1000000 in
theorem rright_any (x n : Nat) (hx : x < 4294967296) (hn : n ∈ turns) (w : World) : Calls Tryd.prog 25 #[.int .u64 x, .int .i64 n] w fun e w' => e = .returned (.int .u64 (rotr x n)) ∧ w = w' := by
  have hr := fun n => rrot_val x n hx
  simp only [turns, List.mem_cons, List.not_mem_nil, or_false] at hn
  have HR := Lib.hid hr
  clear hr
  rcases hn with rfl | rfl | rfl | rfl | rfl | rfl | rfl | rfl | rfl | rfl
  · go_enter Tryd.func25, Tryd.ntmps25
    go_wp2
    go_ret
    exact ⟨ret_u64 (HR.out 2), rfl⟩
  · go_enter Tryd.func25, Tryd.ntmps25
    go_wp2
    go_ret
    exact ⟨ret_u64 (HR.out 6), rfl⟩
  · go_enter Tryd.func25, Tryd.ntmps25
    go_wp2
    go_ret
    exact ⟨ret_u64 (HR.out 7), rfl⟩
  · go_enter Tryd.func25, Tryd.ntmps25
    go_wp2
    go_ret
    exact ⟨ret_u64 (HR.out 11), rfl⟩
  · go_enter Tryd.func25, Tryd.ntmps25
    go_wp2
    go_ret
    exact ⟨ret_u64 (HR.out 13), rfl⟩
  · go_enter Tryd.func25, Tryd.ntmps25
    go_wp2
    go_ret
    exact ⟨ret_u64 (HR.out 17), rfl⟩
  · go_enter Tryd.func25, Tryd.ntmps25
    go_wp2
    go_ret
    exact ⟨ret_u64 (HR.out 18), rfl⟩
  · go_enter Tryd.func25, Tryd.ntmps25
    go_wp2
    go_ret
    exact ⟨ret_u64 (HR.out 19), rfl⟩
  · go_enter Tryd.func25, Tryd.ntmps25
    go_wp2
    go_ret
    exact ⟨ret_u64 (HR.out 22), rfl⟩
  · go_enter Tryd.func25, Tryd.ntmps25
    go_wp2
    go_ret
    exact ⟨ret_u64 (HR.out 25), rfl⟩
theorem rright_2 (x : Nat) (hx : x < 4294967296) (w : World) : Calls Tryd.prog 25 #[.int .u64 x, .int .i64 2] w fun e w' => e = .returned (.int .u64 (rotr x 2)) ∧ w = w' := rright_any x 2 hx (by decide) w
theorem rright_6 (x : Nat) (hx : x < 4294967296) (w : World) : Calls Tryd.prog 25 #[.int .u64 x, .int .i64 6] w fun e w' => e = .returned (.int .u64 (rotr x 6)) ∧ w = w' := rright_any x 6 hx (by decide) w
theorem rright_7 (x : Nat) (hx : x < 4294967296) (w : World) : Calls Tryd.prog 25 #[.int .u64 x, .int .i64 7] w fun e w' => e = .returned (.int .u64 (rotr x 7)) ∧ w = w' := rright_any x 7 hx (by decide) w
theorem rright_11 (x : Nat) (hx : x < 4294967296) (w : World) : Calls Tryd.prog 25 #[.int .u64 x, .int .i64 11] w fun e w' => e = .returned (.int .u64 (rotr x 11)) ∧ w = w' := rright_any x 11 hx (by decide) w
theorem rright_13 (x : Nat) (hx : x < 4294967296) (w : World) : Calls Tryd.prog 25 #[.int .u64 x, .int .i64 13] w fun e w' => e = .returned (.int .u64 (rotr x 13)) ∧ w = w' := rright_any x 13 hx (by decide) w
theorem rright_17 (x : Nat) (hx : x < 4294967296) (w : World) : Calls Tryd.prog 25 #[.int .u64 x, .int .i64 17] w fun e w' => e = .returned (.int .u64 (rotr x 17)) ∧ w = w' := rright_any x 17 hx (by decide) w
theorem rright_18 (x : Nat) (hx : x < 4294967296) (w : World) : Calls Tryd.prog 25 #[.int .u64 x, .int .i64 18] w fun e w' => e = .returned (.int .u64 (rotr x 18)) ∧ w = w' := rright_any x 18 hx (by decide) w
theorem rright_19 (x : Nat) (hx : x < 4294967296) (w : World) : Calls Tryd.prog 25 #[.int .u64 x, .int .i64 19] w fun e w' => e = .returned (.int .u64 (rotr x 19)) ∧ w = w' := rright_any x 19 hx (by decide) w
theorem rright_22 (x : Nat) (hx : x < 4294967296) (w : World) : Calls Tryd.prog 25 #[.int .u64 x, .int .i64 22] w fun e w' => e = .returned (.int .u64 (rotr x 22)) ∧ w = w' := rright_any x 22 hx (by decide) w
theorem rright_25 (x : Nat) (hx : x < 4294967296) (w : World) : Calls Tryd.prog 25 #[.int .u64 x, .int .i64 25] w fun e w' => e = .returned (.int .u64 (rotr x 25)) ∧ w = w' := rright_any x 25 hx (by decide) w
end Go.Proofs.YtodcjcpbigggfaaDoor
