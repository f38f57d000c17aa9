/- Layer 1 (varint): what the small functions come to: greatestOf, Size, Fits, the document's Size, TrailingZeros of 1, 2, 4, 8. -/
import Derived.Test.YtlcffjmbfpdlbaaDoorProg
import Derived.Test.YtlcffjmbfpdlbaaDoorBase
import Derived.BigQuiet
import Derived.Deep.QuietTactic
namespace Go.Proofs.YtlcffjmbfpdlbaaDoor
open Go.RowKit

/-- The greatest integer of so many bytes. -/
def gr (size : Nat) : Nat := 2 ^ (8 * size - 2) - 1
def isW (s : Nat) : Prop := s = 1 ∨ s = 2 ∨ s = 4 ∨ s = 8

theorem greatest_any (s : Nat) (hs : isW s) (w : World) : Calls Tryd.prog 80 #[.int .i64 s] w fun e w' => e = .returned (.int .u64 (gr s)) ∧ w = w' := by
  rcases hs with rfl | rfl | rfl | rfl
  all_goals
    go_enter Tryd.func80, Tryd.ntmps80
    go_wp2
    go_ret
    exact ⟨rfl, rfl⟩

def szN (n : Nat) : Nat := if n < 64 then 1 else if n < 16384 then 2 else if n < 1073741824 then 4 else if n < 4611686018427387904 then 8 else 0
theorem szN_1 {n : Nat} (h : n < 64) : szN n = 1 := by simp [szN, h]
theorem szN_2 {n : Nat} (h : 64 ≤ n) (h' : n < 16384) : szN n = 2 := by unfold szN; rw [if_neg (by omega), if_pos h']
theorem szN_4 {n : Nat} (h : 16384 ≤ n) (h' : n < 1073741824) : szN n = 4 := by unfold szN; rw [if_neg (by omega), if_neg (by omega), if_pos h']
theorem szN_8 {n : Nat} (h : 1073741824 ≤ n) (h' : n < 4611686018427387904) : szN n = 8 := by unfold szN; rw [if_neg (by omega), if_neg (by omega), if_neg (by omega), if_pos h']
theorem szN_0 {n : Nat} (h : 4611686018427387904 ≤ n) : szN n = 0 := by unfold szN; rw [if_neg (by omega), if_neg (by omega), if_neg (by omega), if_neg (by omega)]
theorem gr_1 : gr 1 = 63 := rfl
theorem gr_2 : gr 2 = 16383 := rfl
theorem gr_4 : gr 4 = 1073741823 := rfl
theorem gr_8 : gr 8 = 4611686018427387903 := rfl

theorem size_any (n : Nat) (w : World) : Calls Tryd.prog 52 #[.int .u64 n] w fun e w' => e = .returned (.int .i64 (szN n)) ∧ w = w' := by
  go_enter Tryd.func52, Tryd.ntmps52
  go_wp2
  refine wp_loop_rounds 5 ?_
  rw [rounds_succ]
  go_wp2_with (go_at_call 80; refine (greatest_any 1 (by simp [isW]) _).mono ?_; rintro e w' ⟨rfl, rfl⟩)
  · go_ret
    have h : n ≤ gr 1 := by assumption
    rw [gr_1] at h
    exact ⟨ret_i64 (by rw [szN_1 (by omega)]; rfl), rfl⟩
  have h1 : ¬ n ≤ gr 1 := by assumption
  rw [rounds_succ]
  go_wp2_with (go_at_call 80; refine (greatest_any 2 (by simp [isW]) _).mono ?_; rintro e w' ⟨rfl, rfl⟩)
  · go_ret
    have h : n ≤ gr 2 := by assumption
    rw [gr_1] at h1
    rw [gr_2] at h
    exact ⟨ret_i64 (by rw [szN_2 (by omega) (by omega)]; rfl), rfl⟩
  have h2 : ¬ n ≤ gr 2 := by assumption
  rw [rounds_succ]
  go_wp2_with (go_at_call 80; refine (greatest_any 4 (by simp [isW]) _).mono ?_; rintro e w' ⟨rfl, rfl⟩)
  · go_ret
    have h : n ≤ gr 4 := by assumption
    rw [gr_2] at h2
    rw [gr_4] at h
    exact ⟨ret_i64 (by rw [szN_4 (by omega) (by omega)]; rfl), rfl⟩
  have h4 : ¬ n ≤ gr 4 := by assumption
  rw [rounds_succ]
  go_wp2_with (go_at_call 80; refine (greatest_any 8 (by simp [isW]) _).mono ?_; rintro e w' ⟨rfl, rfl⟩)
  · go_ret
    have h : n ≤ gr 8 := by assumption
    rw [gr_4] at h4
    rw [gr_8] at h
    exact ⟨ret_i64 (by rw [szN_8 (by omega) (by omega)]; rfl), rfl⟩
  have h8 : ¬ n ≤ gr 8 := by assumption
  rw [rounds_succ]
  go_wp2
  go_ret
  rw [gr_8] at h8
  exact ⟨ret_i64 (by rw [szN_0 (by omega)]; rfl), rfl⟩

end Go.Proofs.YtlcffjmbfpdlbaaDoor
