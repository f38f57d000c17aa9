/- Layer 2 (pnum): Cut, and the document's Cut. -/
import Derived.Test.YtmojgnbfcmnkmaaV2Small
import Derived.Deep.RegionHeld3
namespace Go.Proofs.Ytmojgnbfcmnkmaa
open Go.RowKit

/-- A number's low bytes. -/
def cutB (n : Int) (s : Int) : List Nat := if 0 ≤ n ∧ n ≤ 4611686018427387903 ∧ 1 ≤ s ∧ s ≤ 4 then arr n.toNat s.toNat s.toNat else []

theorem isS_of {s : Nat} (h : 1 ≤ s) (h' : s ≤ 4) : isS s := by unfold isS; omega

theorem cut_no (n s : Int) (w : World) (h : ¬ (0 ≤ n ∧ n ≤ 4611686018427387903 ∧ 1 ≤ s ∧ s ≤ 4)) : Calls Try.prog 12 #[.int .i64 n, .int .i64 s] w fun e w' => e = .returned (.slice none 0 0) ∧ w = w' := by
  have hn : (n < 0 ∨ 4611686018427387903 < n) ∨ (0 ≤ n ∧ n ≤ 4611686018427387903 ∧ (s < 1 ∨ 4 < s)) := by omega
  clear h
  rcases hn with h | ⟨h1, h2, h3⟩
  · go_enter Try.func12, Try.ntmps12
    go_wp2_with (first | (go_at_call 16; refine (isnum_no n _ h).mono ?_; rintro e w' ⟨rfl, rfl⟩))
    go_ret
    exact ⟨rfl, rfl⟩
  · go_enter Try.func12, Try.ntmps12
    go_wp2_with (first | (go_at_call 16; refine (isnum_yes n _ h1 h2).mono ?_; rintro e w' ⟨rfl, rfl⟩) | (go_at_call 18; refine (issize_no s _ h3).mono ?_; rintro e w' ⟨rfl, rfl⟩))
    go_ret
    exact ⟨rfl, rfl⟩

set_option maxHeartbeats 2000000 in
theorem cut_yes (n s : Nat) (w : World) (hn : n ≤ 4611686018427387903) (hs1 : 1 ≤ s) (hs4 : s ≤ 4) : Calls Try.prog 12 #[.int .i64 n, .int .i64 s] w fun e w' =>
    e = .returned (.slice (some ⟨w.heap.size, 0, none⟩) s s) ∧ Row w' w.heap.size 5 (u8s (arr n s s)) ∧ Chg none_ w w' := by
  obtain ⟨i0, hi, hz0, hz1, hz2⟩ := info_parts info5
  go_enter Try.func12, Try.ntmps12
  go_wp2_with (first | (go_at_call 16; refine (isnum_yes n _ (by omega) (by omega)).mono ?_; rintro e w' ⟨rfl, rfl⟩) | (go_at_call 18; refine (issize_yes s _ (by omega) (by omega)).mono ?_; rintro e w' ⟨rfl, rfl⟩) | (at_make; refine wpList_make_full _ rfl _ _ _ rfl w.heap.size 5 i0 _ 1 Try.underlying25 hi hz0 hz1 _ _ _ _ s rfl rfl rfl rfl (by rw [hz2]; omega) (by unfold maxLen; omega) (Nat.le_refl _) ?_; intro w1 hown hgrow))
  have hR : Row w1 w.heap.size 5 (u8s (arr n s 0)) := by
    have := Row.of_made hown
    rw [show (Value.int .u8 0).cells = #[.int .u8 0] from rfl, toList_madeCells_one] at this
    simpa [arr_0, u8s] using this
  have hC : Chg none_ w w1 := (Chg.refl none_ w).grown hgrow (by intro k hk; cases hk)
  clear hown hgrow
  go_loopw [19] (fun i wr => ∃ k : Nat, k ≤ s ∧ i = .int .i64 k ∧ Row wr w.heap.size 5 (u8s (arr n s k)) ∧ Chg none_ w wr) (fun i _ => s - (intOf i).toNat)
  case atStart => exact ⟨0, Nat.zero_le _, rfl, hR, hC⟩
  case round =>
    obtain ⟨k, hk, rfl, hrow, hch⟩ := hrel
    clear hR hC
    by_cases hlt : k < s
    · have hf := hrow.frozen (s - 1 - k)
      have hc : wr.cell? ⟨w.heap.size, s - 1 - k, none⟩ = some (.int .u8 (((arr n s k).getD (s - 1 - k) 0 : Nat) : Int)) := by
        rw [hrow.cell, u8s_get]
        have : s - 1 - k < (arr n s k).length := by rw [arr_len]; omega
        simp [this, List.getD]
      go_wp2
      go_roundw
      case rel =>
        refine ⟨k + 1, by omega, by go_num, ?_, hch.setCell (fun h => absurd h (by simp)) _⟩
        have := hrow.set (s - 1 - k) (.int .u8 ((n / 2 ^ (8 * k) % 256 : Nat) : Int))
        rw [u8s_set, arr_set n s k hlt] at this
        simpa using this
      case measure => simp [intOf]; omega
    · have hks : k = s := by omega
      subst hks
      go_wp2
      go_ret
      exact ⟨rfl, hrow, hch⟩

theorem rcut_no (n s : Int) (w : World) (h : ¬ (0 ≤ n ∧ n ≤ 4611686018427387903 ∧ 1 ≤ s ∧ s ≤ 4)) : Calls Try.prog 13 #[.int .i64 n, .int .i64 s] w fun e w' => e = .returned (.slice none 0 0) ∧ w = w' := by
  have hn : n < 0 ∨ (0 ≤ n ∧ 4611686018427387903 < n) ∨ (0 ≤ n ∧ n ≤ 4611686018427387903 ∧ s < 1) ∨ (0 ≤ n ∧ n ≤ 4611686018427387903 ∧ 1 ≤ s ∧ 4 < s) := by omega
  clear h
  rcases hn with h | ⟨_, h⟩ | ⟨_, _, h⟩ | ⟨_, _, _, h⟩
  all_goals
    go_enter Try.func13, Try.ntmps13
    go_wp2
    go_ret
    exact ⟨rfl, rfl⟩

set_option maxHeartbeats 2000000 in
theorem rcut_yes (n s : Nat) (w : World) (hn : n ≤ 4611686018427387903) (hs1 : 1 ≤ s) (hs4 : s ≤ 4) : Calls Try.prog 13 #[.int .i64 n, .int .i64 s] w fun e w' =>
    e = .returned (.slice (some ⟨w.heap.size, 0, none⟩) s s) ∧ Row w' w.heap.size 5 (u8s (arr n s s)) ∧ Chg none_ w w' := by
  obtain ⟨i0, hi, hz0, hz1, hz2⟩ := info_parts info5
  have g0 : ¬ (n : Int) < 0 := by omega
  have g1 : ¬ (4611686018427387903 : Int) < n := by omega
  have g2 : ¬ (s : Int) < 1 := by omega
  have g3 : ¬ (4 : Int) < s := by omega
  go_enter Try.func13, Try.ntmps13
  go_wp2_with (first | (at_make; refine wpList_make_full _ rfl _ _ _ rfl w.heap.size 5 i0 _ 1 Try.underlying25 hi hz0 hz1 _ _ _ _ s rfl rfl rfl rfl (by rw [hz2]; omega) (by unfold maxLen; omega) (Nat.le_refl _) ?_; intro w1 hown hgrow))
  have hR : Row w1 w.heap.size 5 (u8s (arr n s 0)) := by
    have := Row.of_made hown
    rw [show (Value.int .u8 0).cells = #[.int .u8 0] from rfl, toList_madeCells_one] at this
    simpa [arr_0, u8s] using this
  have hC : Chg none_ w w1 := (Chg.refl none_ w).grown hgrow (by intro k hk; cases hk)
  clear hown hgrow g0 g1 g2 g3
  go_loopw [0, 6] (fun t i wr => ∃ k : Nat, k ≤ s ∧ i = .int .i64 ((s : Int) - 1 - k) ∧ t = .int .i64 ((n / 2 ^ (8 * k) : Nat) : Int) ∧ Row wr w.heap.size 5 (u8s (arr n s k)) ∧ Chg none_ w wr) (fun _ i _ => (intOf i + 1).toNat)
  case atStart => exact ⟨0, Nat.zero_le _, by simp, by simp, hR, hC⟩
  case round =>
    obtain ⟨k, hk, rfl, rfl, hrow, hch⟩ := hrel
    clear hR hC
    by_cases hlt : k < s
    · have hf := hrow.frozen (s - 1 - k)
      have hc : wr.cell? ⟨w.heap.size, s - 1 - k, none⟩ = some (.int .u8 (((arr n s k).getD (s - 1 - k) 0 : Nat) : Int)) := by
        rw [hrow.cell, u8s_get]
        have : s - 1 - k < (arr n s k).length := by rw [arr_len]; omega
        simp [this, List.getD]
      have htn : ((s : Int) - 1 - (k : Int)).toNat = s - 1 - k := by omega
      have hle : n / 2 ^ (8 * k) ≤ n := Nat.div_le_self _ _
      have hq : n / 2 ^ (8 * k) / 256 = n / 2 ^ (8 * (k + 1)) := by
        rw [show 8 * (k + 1) = 8 * k + 8 from by omega, Nat.pow_add, ← Nat.div_div_eq_div_mul]
      generalize hnk : n / 2 ^ (8 * k) = nk at hq hle ⊢
      have HQ := Lib.hid hq
      have HN := Lib.hid hnk
      clear hnk hq
      go_wp2
      go_roundw
      case rel =>
        refine ⟨k + 1, by omega, by go_num, by rw [← HQ.out]; go_num, ?_, hch.setCell (fun h => absurd h (by simp)) _⟩
        have := hrow.set (s - 1 - k) (.int .u8 ((n / 2 ^ (8 * k) % 256 : Nat) : Int))
        rw [u8s_set, arr_set n s k hlt, HN.out] at this
        simpa using this
      case measure => simp [intOf]; omega
    · have hks : k = s := by omega
      subst hks
      go_wp2
      go_ret
      exact ⟨rfl, hrow, hch⟩

theorem cut_any (n s : Int) (w : World) : Calls Try.prog 12 #[.int .i64 n, .int .i64 s] w fun e w' => ∃ v, e = .returned v ∧ NewBytes w w' v (cutB n s) := by
  by_cases h : 0 ≤ n ∧ n ≤ 4611686018427387903 ∧ 1 ≤ s ∧ s ≤ 4
  · have e : cutB n s = arr n.toNat s.toNat s.toNat := by simp [cutB, h]
    obtain ⟨a, rfl⟩ : ∃ a : Nat, n = (a : Int) := ⟨n.toNat, by omega⟩
    obtain ⟨t, rfl⟩ : ∃ t : Nat, s = (t : Int) := ⟨s.toNat, by omega⟩
    simp only [Int.toNat_natCast] at e
    refine (cut_yes a t w (by omega) (by omega) (by omega)).mono fun _ _ ⟨h1, h2, h3⟩ => ⟨_, h1, h3, .inr ⟨?_, by rw [e, arr_len], by rw [e]; exact h2⟩⟩
    rw [e]; intro h0
    have := arr_len a t t
    rw [h0] at this; simp at this; omega
  · have e : cutB n s = [] := by unfold cutB; rw [if_neg h]
    exact (cut_no n s w h).mono fun _ _ ⟨h1, h2⟩ => ⟨_, h1, h2 ▸ Chg.refl _ _, .inl ⟨e, rfl⟩⟩

theorem rcut_any (n s : Int) (w : World) : Calls Try.prog 13 #[.int .i64 n, .int .i64 s] w fun e w' => ∃ v, e = .returned v ∧ NewBytes w w' v (cutB n s) := by
  by_cases h : 0 ≤ n ∧ n ≤ 4611686018427387903 ∧ 1 ≤ s ∧ s ≤ 4
  · have e : cutB n s = arr n.toNat s.toNat s.toNat := by simp [cutB, h]
    obtain ⟨a, rfl⟩ : ∃ a : Nat, n = (a : Int) := ⟨n.toNat, by omega⟩
    obtain ⟨t, rfl⟩ : ∃ t : Nat, s = (t : Int) := ⟨s.toNat, by omega⟩
    simp only [Int.toNat_natCast] at e
    refine (rcut_yes a t w (by omega) (by omega) (by omega)).mono fun _ _ ⟨h1, h2, h3⟩ => ⟨_, h1, h3, .inr ⟨?_, by rw [e, arr_len], by rw [e]; exact h2⟩⟩
    rw [e]; intro h0
    have := arr_len a t t
    rw [h0] at this; simp at this; omega
  · have e : cutB n s = [] := by unfold cutB; rw [if_neg h]
    exact (rcut_no n s w h).mono fun _ _ ⟨h1, h2⟩ => ⟨_, h1, h2 ▸ Chg.refl _ _, .inl ⟨e, rfl⟩⟩

theorem cutB_len (n s : Int) : (cutB n s).length ≤ 4 := by
  unfold cutB
  split
  · rw [arr_len]; omega
  · simp
end Go.Proofs.Ytmojgnbfcmnkmaa
