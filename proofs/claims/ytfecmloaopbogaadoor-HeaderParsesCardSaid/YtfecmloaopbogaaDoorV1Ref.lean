/- Layer 1 (varint), the document's answer: Fits, Size, Left, Fail. -/
import Derived.Test.YtfecmloaopbogaaDoorV1Small
namespace Go.Proofs.YtfecmloaopbogaaDoor
open Go.RowKit

/-- The document's Fits. -/
def fitsB (n : Nat) (s : Int) : Bool := if s = 1 then decide (n < 64) else if s = 2 then decide (n < 16384) else if s = 4 then decide (n < 1073741824) else if s = 8 then decide (n < 4611686018427387904) else false

theorem fits_any (n : Nat) (s : Int) (w : World) : Calls Tryd.prog 58 #[.int .u64 n, .int .i64 s] w fun e w' => e = .returned (.bool (fitsB n s)) ∧ w = w' := by
  by_cases h1 : s = 1
  · subst h1
    go_enter Tryd.func58, Tryd.ntmps58
    go_wp2
    go_ret
    exact ⟨ret_bool (by rw [Bool.eq_iff_iff]; simp only [fitsB, decide_eq_true_eq, if_true, Int.reduceEq, if_false]; omega), rfl⟩
  by_cases h2 : s = 2
  · subst h2
    go_enter Tryd.func58, Tryd.ntmps58
    go_wp2
    go_ret
    exact ⟨ret_bool (by rw [Bool.eq_iff_iff]; simp only [fitsB, decide_eq_true_eq, if_true, Int.reduceEq, if_false]; omega), rfl⟩
  by_cases h4 : s = 4
  · subst h4
    go_enter Tryd.func58, Tryd.ntmps58
    go_wp2
    go_ret
    exact ⟨ret_bool (by rw [Bool.eq_iff_iff]; simp only [fitsB, decide_eq_true_eq, if_true, Int.reduceEq, if_false]; omega), rfl⟩
  by_cases h8 : s = 8
  · subst h8
    go_enter Tryd.func58, Tryd.ntmps58
    go_wp2
    go_ret
    exact ⟨ret_bool (by rw [Bool.eq_iff_iff]; simp only [fitsB, decide_eq_true_eq, if_true, Int.reduceEq, if_false]; omega), rfl⟩
  have b1 : (s == 1) = false := by simpa using h1
  have b2 : (s == 2) = false := by simpa using h2
  have b4 : (s == 4) = false := by simpa using h4
  have b8 : (s == 8) = false := by simpa using h8
  go_enter Tryd.func58, Tryd.ntmps58
  go_wp2
  go_ret
  exact ⟨ret_bool (by simp [fitsB, h1, h2, h4, h8]), rfl⟩

theorem fitsB_0 (n : Nat) (s : Int) (h1 : s ≠ 1) (h2 : s ≠ 2) (h4 : s ≠ 4) (h8 : s ≠ 8) : fitsB n s = false := by simp [fitsB, h1, h2, h4, h8]
theorem fitsB_1 (n : Nat) : fitsB n 1 = decide (n < 64) := rfl
theorem fitsB_2 (n : Nat) : fitsB n 2 = decide (n < 16384) := rfl
theorem fitsB_4 (n : Nat) : fitsB n 4 = decide (n < 1073741824) := rfl
theorem fitsB_8 (n : Nat) : fitsB n 8 = decide (n < 4611686018427387904) := rfl

theorem rsize_any (n : Nat) (w : World) : Calls Tryd.prog 50 #[.int .u64 n] w fun e w' => e = .returned (.int .i64 (szN n)) ∧ w = w' := by
  have b3 := fitsB_0 n 3 (by omega) (by omega) (by omega) (by omega)
  have b5 := fitsB_0 n 5 (by omega) (by omega) (by omega) (by omega)
  have b6 := fitsB_0 n 6 (by omega) (by omega) (by omega) (by omega)
  have b7 := fitsB_0 n 7 (by omega) (by omega) (by omega) (by omega)
  by_cases h1 : n < 64
  · have b1 : fitsB n 1 = true := by rw [fitsB_1]; exact decide_eq_true h1
    have hz := szN_1 h1
    clear h1
    go_enter Tryd.func50, Tryd.ntmps50
    go_wp2
    refine wp_loop_rounds 9 ?_
    iterate 1
      rw [rounds_succ]
      go_wp2_with (go_at_call 58; refine (fits_any n _ _).mono ?_; rintro e w' ⟨rfl, rfl⟩)
    go_ret
    exact ⟨ret_i64 (by rw [hz]; rfl), rfl⟩
  have b1 : fitsB n 1 = false := by rw [fitsB_1]; exact decide_eq_false h1
  by_cases h2 : n < 16384
  · have b2 : fitsB n 2 = true := by rw [fitsB_2]; exact decide_eq_true h2
    have hz := szN_2 (by omega) h2
    clear h2 h1
    go_enter Tryd.func50, Tryd.ntmps50
    go_wp2
    refine wp_loop_rounds 9 ?_
    iterate 2
      rw [rounds_succ]
      go_wp2_with (go_at_call 58; refine (fits_any n _ _).mono ?_; rintro e w' ⟨rfl, rfl⟩)
    go_ret
    exact ⟨ret_i64 (by rw [hz]; rfl), rfl⟩
  have b2 : fitsB n 2 = false := by rw [fitsB_2]; exact decide_eq_false h2
  by_cases h4 : n < 1073741824
  · have b4 : fitsB n 4 = true := by rw [fitsB_4]; exact decide_eq_true h4
    have hz := szN_4 (by omega) h4
    clear h2 h1 h4
    go_enter Tryd.func50, Tryd.ntmps50
    go_wp2
    refine wp_loop_rounds 9 ?_
    iterate 4
      rw [rounds_succ]
      go_wp2_with (go_at_call 58; refine (fits_any n _ _).mono ?_; rintro e w' ⟨rfl, rfl⟩)
    go_ret
    exact ⟨ret_i64 (by rw [hz]; rfl), rfl⟩
  have b4 : fitsB n 4 = false := by rw [fitsB_4]; exact decide_eq_false h4
  by_cases h8 : n < 4611686018427387904
  · have b8 : fitsB n 8 = true := by rw [fitsB_8]; exact decide_eq_true h8
    have hz := szN_8 (by omega) h8
    clear h2 h1 h4 h8
    go_enter Tryd.func50, Tryd.ntmps50
    go_wp2
    refine wp_loop_rounds 9 ?_
    iterate 8
      rw [rounds_succ]
      go_wp2_with (go_at_call 58; refine (fits_any n _ _).mono ?_; rintro e w' ⟨rfl, rfl⟩)
    go_ret
    exact ⟨ret_i64 (by rw [hz]; rfl), rfl⟩
  have b8 : fitsB n 8 = false := by rw [fitsB_8]; exact decide_eq_false h8
  have hz := szN_0 (n := n) (by omega)
  clear h2 h1 h4 h8
  go_enter Tryd.func50, Tryd.ntmps50
  go_wp2
  refine wp_loop_rounds 9 ?_
  iterate 9
    rw [rounds_succ]
    go_wp2_with (go_at_call 58; refine (fits_any n _ _).mono ?_; rintro e w' ⟨rfl, rfl⟩)
  go_ret
  exact ⟨ret_i64 (by rw [hz]; rfl), rfl⟩
end Go.Proofs.YtfecmloaopbogaaDoor
