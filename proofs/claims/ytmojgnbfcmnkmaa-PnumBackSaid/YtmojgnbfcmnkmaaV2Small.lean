/- Layer 2 (pnum): what the small functions come to: isNumber, isSize, halfWindow, Length; and the document's Length. -/
import Derived.Test.YtmojgnbfcmnkmaaBytes
import Derived.Lib.Hide
import Derived.IntWalk
namespace Go.Proofs.Ytmojgnbfcmnkmaa
open Go.RowKit

theorem isnum_yes (n : Int) (w : World) (h0 : 0 ≤ n) (h1 : n ≤ 4611686018427387903) : Calls Try.prog 16 #[.int .i64 n] w fun e w' => e = .returned (.bool true) ∧ w = w' := by
  go_enter Try.func16, Try.ntmps16
  go_wp2
  go_ret
  exact ⟨ret_bool (by simp), rfl⟩
theorem isnum_no (n : Int) (w : World) (h : n < 0 ∨ 4611686018427387903 < n) : Calls Try.prog 16 #[.int .i64 n] w fun e w' => e = .returned (.bool false) ∧ w = w' := by
  rcases h with h | h
  · have h' : ¬ 0 ≤ n := by omega
    go_enter Try.func16, Try.ntmps16
    go_wp2
    go_ret
    exact ⟨rfl, rfl⟩
  · have h' : 0 ≤ n := by omega
    have h'' : ¬ n ≤ 4611686018427387903 := by omega
    go_enter Try.func16, Try.ntmps16
    go_wp2
    go_ret
    exact ⟨ret_bool (by simp), rfl⟩

theorem issize_yes (n : Int) (w : World) (h0 : 1 ≤ n) (h1 : n ≤ 4) : Calls Try.prog 18 #[.int .i64 n] w fun e w' => e = .returned (.bool true) ∧ w = w' := by
  go_enter Try.func18, Try.ntmps18
  go_wp2
  go_ret
  exact ⟨ret_bool (by simp), rfl⟩
theorem issize_no (n : Int) (w : World) (h : n < 1 ∨ 4 < n) : Calls Try.prog 18 #[.int .i64 n] w fun e w' => e = .returned (.bool false) ∧ w = w' := by
  rcases h with h | h
  · have h' : ¬ 1 ≤ n := by omega
    go_enter Try.func18, Try.ntmps18
    go_wp2
    go_ret
    exact ⟨rfl, rfl⟩
  · have h' : 1 ≤ n := by omega
    have h'' : ¬ n ≤ 4 := by omega
    go_enter Try.func18, Try.ntmps18
    go_wp2
    go_ret
    exact ⟨ret_bool (by simp), rfl⟩

/-- A number is cut to so many bytes. -/
def isS (s : Nat) : Prop := s = 1 ∨ s = 2 ∨ s = 3 ∨ s = 4
/-- Half the window. -/
def half (s : Nat) : Nat := 2 ^ (8 * s - 1)
theorem halfu_any (s : Nat) (hs : isS s) (w : World) : Calls Try.prog 17 #[.int .i64 s] w fun e w' => e = .returned (.int .u64 (half s)) ∧ w = w' := by
  rcases hs with rfl | rfl | rfl | rfl
  all_goals
    go_enter Try.func17, Try.ntmps17
    go_wp2
    go_ret
    exact ⟨rfl, rfl⟩
theorem halfi_any (s : Nat) (hs : isS s) (w : World) : Calls Try.prog 19 #[.int .i64 s] w fun e w' => e = .returned (.int .i64 (half s)) ∧ w = w' := by
  rcases hs with rfl | rfl | rfl | rfl
  all_goals
    go_enter Try.func19, Try.ntmps19
    go_wp2
    go_ret
    exact ⟨rfl, rfl⟩
theorem half_1 : half 1 = 128 := rfl
theorem half_2 : half 2 = 32768 := rfl
theorem half_3 : half 3 = 8388608 := rfl
theorem half_4 : half 4 = 2147483648 := rfl

/-- There is something to tell. -/
def okL (n acked : Int) : Prop := 0 ≤ n ∧ n ≤ 4611686018427387903 ∧ -1 ≤ acked ∧ acked < n
instance (n acked : Int) : Decidable (okL n acked) := inferInstanceAs (Decidable (_ ∧ _ ∧ _ ∧ _))
/-- How many bytes a distance takes. -/
def lenD (d : Int) : Nat := if d < 128 then 1 else if d < 32768 then 2 else if d < 8388608 then 3 else 4
def lenI (n acked : Int) : Nat := if okL n acked then lenD (n - acked) else 0
theorem lenD_1 {d : Int} (h : d < 128) : lenD d = 1 := by simp [lenD, h]
theorem lenD_2 {d : Int} (h : ¬ d < 128) (h2 : d < 32768) : lenD d = 2 := by simp [lenD, h, h2]
theorem lenD_3 {d : Int} (h : ¬ d < 32768) (h2 : d < 8388608) : lenD d = 3 := by unfold lenD; rw [if_neg (by omega), if_neg h, if_pos h2]
theorem lenD_4 {d : Int} (h : ¬ d < 8388608) : lenD d = 4 := by unfold lenD; rw [if_neg (by omega), if_neg (by omega), if_neg h]
theorem lenI_no {n a : Int} (h : ¬ okL n a) : lenI n a = 0 := by simp [lenI, h]
theorem lenI_yes {n a : Int} (h : okL n a) : lenI n a = lenD (n - a) := by simp [lenI, h]

theorem length_yes (n a d : Int) (HD : Hid (n - a = d)) (w : World) (h : okL n a) : Calls Try.prog 9 #[.int .i64 n, .int .i64 a] w fun e w' => e = .returned (.int .i64 (lenD d)) ∧ w = w' := by
  obtain ⟨h0, h1, h2, h3⟩ := h
  have b2 : ¬ a < -1 := by omega
  have b3 : ¬ n ≤ a := by omega
  go_enter Try.func9, Try.ntmps9
  go_wp2_with (go_at_call 16; refine (isnum_yes n _ h0 h1).mono ?_; rintro e w' ⟨rfl, rfl⟩)
  have hd0 : 0 ≤ n - a := by omega
  have hd1 : n - a ≤ 4611686018427387904 := by omega
  rw [HD.out] at hd0 hd1 ⊢
  refine wp_loop_rounds 4 ?_
  rw [rounds_succ]
  go_wp2_with (go_at_call 17; refine (halfu_any 1 (by simp [isS]) _).mono ?_; rintro e w' ⟨rfl, rfl⟩)
  · go_ret
    have h : d < half 1 := by assumption
    rw [half_1] at h
    exact ⟨ret_i64 (by rw [lenD_1 (by omega)]; rfl), rfl⟩
  have g1 : half 1 ≤ d := by assumption
  rw [rounds_succ]
  go_wp2_with (go_at_call 17; refine (halfu_any 2 (by simp [isS]) _).mono ?_; rintro e w' ⟨rfl, rfl⟩)
  · go_ret
    have h : d < half 2 := by assumption
    rw [half_1] at g1
    rw [half_2] at h
    exact ⟨ret_i64 (by rw [lenD_2 (by omega) (by omega)]; rfl), rfl⟩
  have g2 : half 2 ≤ d := by assumption
  rw [rounds_succ]
  go_wp2_with (go_at_call 17; refine (halfu_any 3 (by simp [isS]) _).mono ?_; rintro e w' ⟨rfl, rfl⟩)
  · go_ret
    have h : d < half 3 := by assumption
    rw [half_2] at g2
    rw [half_3] at h
    exact ⟨ret_i64 (by rw [lenD_3 (by omega) (by omega)]; rfl), rfl⟩
  have g3 : half 3 ≤ d := by assumption
  rw [rounds_succ]
  go_wp2
  go_ret
  rw [half_3] at g3
  exact ⟨ret_i64 (by rw [lenD_4 (by omega)]; rfl), rfl⟩

theorem length_no (n a : Int) (w : World) (h : ¬ okL n a) : Calls Try.prog 9 #[.int .i64 n, .int .i64 a] w fun e w' => e = .returned (.int .i64 0) ∧ w = w' := by
  unfold okL at h
  by_cases h0 : n < 0 ∨ 4611686018427387903 < n
  · go_enter Try.func9, Try.ntmps9
    go_wp2_with (go_at_call 16; refine (isnum_no n _ h0).mono ?_; rintro e w' ⟨rfl, rfl⟩)
    go_ret
    exact ⟨rfl, rfl⟩
  by_cases h1 : a < -1
  · clear h
    go_enter Try.func9, Try.ntmps9
    go_wp2_with (go_at_call 16; refine (isnum_yes n _ (by omega) (by omega)).mono ?_; rintro e w' ⟨rfl, rfl⟩)
    go_ret
    exact ⟨rfl, rfl⟩
  have h2 : n ≤ a := by omega
  clear h
  go_enter Try.func9, Try.ntmps9
  go_wp2_with (go_at_call 16; refine (isnum_yes n _ (by omega) (by omega)).mono ?_; rintro e w' ⟨rfl, rfl⟩)
  go_ret
  exact ⟨rfl, rfl⟩

theorem length_any (n a : Int) (w : World) : Calls Try.prog 9 #[.int .i64 n, .int .i64 a] w fun e w' => e = .returned (.int .i64 (lenI n a)) ∧ w = w' := by
  by_cases h : okL n a
  · rw [lenI_yes h]; exact length_yes n a _ (Lib.hid rfl) w h
  · rw [lenI_no h]; exact length_no n a w h

/-- How many bits a distance has. -/
theorem bits_step (d k : Nat) : d / 2 ^ k / 2 = d / 2 ^ (k + 1) := by rw [Nat.pow_succ, Nat.div_div_eq_div_mul]

theorem lenD_bits (D k s : Nat) (hs : 1 ≤ s) (h1 : 0 < k → 2 ^ (k - 1) ≤ D) (h2 : D < 2 ^ k) : k + 1 ≤ 8 * s ↔ D < half s := by
  unfold half
  constructor
  · intro h
    exact Nat.lt_of_lt_of_le h2 (Nat.pow_le_pow_right (by omega) (by omega))
  · intro h
    rcases Nat.eq_zero_or_pos k with h0 | h0
    · omega
    · have := Nat.lt_of_le_of_lt (h1 h0) h
      have := (Nat.pow_lt_pow_iff_right (by omega : 1 < 2)).1 this
      omega

set_option maxHeartbeats 1000000 in
theorem rlength_yes (n a : Int) (D : Nat) (HD : Hid (n - a = (D : Int))) (w : World) (h : okL n a) : Calls Try.prog 10 #[.int .i64 n, .int .i64 a] w fun e w' => e = .returned (.int .i64 (lenD (D : Int))) ∧ w = w' := by
  obtain ⟨h0, h1, h2, h3⟩ := h
  have b0 : ¬ n < 0 := by omega
  have b1 : ¬ 4611686018427387903 < n := by omega
  have b2 : ¬ a < -1 := by omega
  have b3 : ¬ n ≤ a := by omega
  go_enter Try.func10, Try.ntmps10
  go_wp2
  have hd0 : 0 < n - a := by omega
  have hd1 : n - a ≤ 4611686018427387904 := by omega
  rw [HD.out] at hd0 hd1 ⊢
  go_loop [5, 6] (fun b t => ∃ k : Nat, k ≤ 63 ∧ b = .int .i64 ((k : Int) + 1) ∧ t = .int .i64 ((D / 2 ^ k : Nat) : Int) ∧ Hid (0 < k → 2 ^ (k - 1) ≤ D)) (fun _ t => (intOf t).toNat)
  case atStart => exact ⟨0, by omega, rfl, by simp, fun h => absurd h (by omega)⟩
  case round =>
    obtain ⟨k, hk, rfl, rfl, hge⟩ := hrel
    by_cases hpos : 0 < D / 2 ^ k
    · have hle : 2 ^ k ≤ D := by
        rcases Nat.lt_or_ge D (2 ^ k) with h | h
        · rw [Nat.div_eq_of_lt h] at hpos; omega
        · exact h
      have hk63 : k < 63 := by
        rcases Nat.lt_or_ge k 63 with h | h
        · exact h
        · have : 2 ^ 63 ≤ 2 ^ k := Nat.pow_le_pow_right (by omega) h
          have : D < 2 ^ 63 := by omega
          omega
      have hq : D / 2 ^ k ≤ D := Nat.div_le_self _ _
      have hst := bits_step D k
      generalize hD2 : D / 2 ^ k = q at hpos hq hst ⊢
      generalize hD3 : D / 2 ^ (k + 1) = q2 at hst
      have H1 := Lib.hid hst
      have H2 := Lib.hid hD2
      have H3 := Lib.hid hD3
      have H4 := Lib.hid hle
      clear hst hD2 hD3 hle
      go_wp2
      go_round
      case rel => exact ⟨k + 1, by omega, by go_num, by rw [H3.out, ← H1.out]; go_num, fun _ => H4.out⟩
      case measure => simp [intOf]; omega
    · have hz : D / 2 ^ k = 0 := Nat.le_zero.1 (Nat.not_lt.1 hpos)
      have hlt : D < 2 ^ k := by
        rcases Nat.lt_or_ge D (2 ^ k) with h | h
        · exact h
        · have := Nat.div_pos h (Nat.two_pow_pos k); omega
      have H1 := Lib.hid hlt
      clear hlt
      rw [hz]
      clear hpos hz
      go_wp2
      refine wp_loop_rounds 4 ?_
      rw [rounds_succ]
      go_wp2
      · go_ret
        have h : (k : Int) + 1 ≤ 8 := by assumption
        have := (lenD_bits D k 1 (by omega) hge.out H1.out).1 (by omega)
        rw [half_1] at this
        exact ⟨ret_i64 (by rw [lenD_1 (by omega)]; rfl), rfl⟩
      have g1 : ¬ (k : Int) + 1 ≤ 8 := by omega
      rw [rounds_succ]
      go_wp2
      · go_ret
        have h : (k : Int) + 1 ≤ 16 := by assumption
        have t1 := (lenD_bits D k 1 (by omega) hge.out H1.out).2
        have t2 := (lenD_bits D k 2 (by omega) hge.out H1.out).1 (by omega)
        rw [half_1] at t1
        rw [half_2] at t2
        exact ⟨ret_i64 (by rw [lenD_2 (by omega) (by omega)]; rfl), rfl⟩
      rw [rounds_succ]
      go_wp2
      · go_ret
        have h : (k : Int) + 1 ≤ 24 := by assumption
        have t1 := (lenD_bits D k 2 (by omega) hge.out H1.out).2
        have t2 := (lenD_bits D k 3 (by omega) hge.out H1.out).1 (by omega)
        rw [half_2] at t1
        rw [half_3] at t2
        exact ⟨ret_i64 (by rw [lenD_3 (by omega) (by omega)]; rfl), rfl⟩
      rw [rounds_succ]
      go_wp2
      go_ret
      have t1 := (lenD_bits D k 3 (by omega) hge.out H1.out).2
      rw [half_3] at t1
      exact ⟨ret_i64 (by rw [lenD_4 (by omega)]; rfl), rfl⟩

theorem rlength_no (n a : Int) (w : World) (h : ¬ okL n a) : Calls Try.prog 10 #[.int .i64 n, .int .i64 a] w fun e w' => e = .returned (.int .i64 0) ∧ w = w' := by
  unfold okL at h
  have hn : n < 0 ∨ (0 ≤ n ∧ 4611686018427387903 < n) ∨ (0 ≤ n ∧ n ≤ 4611686018427387903 ∧ a < -1) ∨ (0 ≤ n ∧ n ≤ 4611686018427387903 ∧ -1 ≤ a ∧ n ≤ a) := by omega
  clear h
  rcases hn with h | ⟨_, h⟩ | ⟨_, _, h⟩ | ⟨_, _, _, h⟩
  all_goals
    go_enter Try.func10, Try.ntmps10
    go_wp2
    go_ret
    exact ⟨rfl, rfl⟩

theorem rlength_any (n a : Int) (w : World) : Calls Try.prog 10 #[.int .i64 n, .int .i64 a] w fun e w' => e = .returned (.int .i64 (lenI n a)) ∧ w = w' := by
  by_cases h : okL n a
  · rw [lenI_yes h]
    obtain ⟨D, hD⟩ : ∃ D : Nat, n - a = (D : Int) := ⟨(n - a).toNat, by unfold okL at h; omega⟩
    rw [hD]
    exact rlength_yes n a D (Lib.hid hD) w h
  · rw [lenI_no h]; exact rlength_no n a w h
end Go.Proofs.Ytmojgnbfcmnkmaa
