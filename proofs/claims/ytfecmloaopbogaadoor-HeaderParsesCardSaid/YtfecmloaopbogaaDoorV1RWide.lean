/- Layer 1 (varint), the document's answer: Wide, Put; and Same. -/
import Derived.Test.YtfecmloaopbogaaDoorV1Ref
import Derived.Test.YtfecmloaopbogaaDoorSame
import Derived.Test.YtfecmloaopbogaaDoorV1Wide
import Derived.Lib.Hide
namespace Go.Proofs.YtfecmloaopbogaaDoor
open Go.RowKit

theorem fitsB_iff (n s : Nat) (hs : isW s) : fitsB n s = decide (n ≤ gr s) := by
  rcases hs with rfl | rfl | rfl | rfl
  · rw [show fitsB n (1 : Nat) = decide (n < 64) from rfl, gr_1, Bool.eq_iff_iff]; simp; omega
  · rw [show fitsB n (2 : Nat) = decide (n < 16384) from rfl, gr_2, Bool.eq_iff_iff]; simp; omega
  · rw [show fitsB n (4 : Nat) = decide (n < 1073741824) from rfl, gr_4, Bool.eq_iff_iff]; simp; omega
  · rw [show fitsB n (8 : Nat) = decide (n < 4611686018427387904) from rfl, gr_8, Bool.eq_iff_iff]; simp; omega

theorem rwide_none (n : Nat) (s : Int) (w : World) (hf : fitsB n s = false) : Calls Tryd.prog 49 #[.int .u64 n, .int .i64 s] w fun e w' => e = .returned (.slice none 0 0) ∧ w = w' := by
  go_enter Tryd.func49, Tryd.ntmps49
  go_wp2_with (go_at_call 58; refine (fits_any n s _).mono ?_; rintro e w' ⟨rfl, rfl⟩)
  go_ret
  exact ⟨rfl, rfl⟩

theorem be_0 (n k : Nat) (h : lg k = 0) : be n k = arr n k k := by
  unfold be
  rw [h]
  apply List.ext_getElem
  · simp
  · intro i h1 h2
    rw [List.getElem_set]
    by_cases hi : 0 = i
    · subst hi
      rw [if_pos rfl, List.getD_eq_getElem?_getD, List.getElem?_eq_getElem h2]
      simp
    · rw [if_neg hi]

set_option maxHeartbeats 2000000 in
set_option maxRecDepth 100000 in
theorem rwide_any (n s : Nat) (w : World) (hs : isW s) (hn : n ≤ gr s) : Calls Tryd.prog 49 #[.int .u64 n, .int .i64 s] w fun e w' =>
    e = .returned (.slice (some ⟨w.heap.size, 0, none⟩) s s) ∧ Row w' w.heap.size 5 (u8s (be n s)) ∧ Chg none_ w w' := by
  have hs8 : s ≤ 8 := by unfold isW at hs; omega
  have hs1 : 1 ≤ s := by unfold isW at hs; omega
  have hfit : fitsB n s = true := by rw [fitsB_iff n s hs]; exact decide_eq_true hn
  have hhead := head_lt n s hs hn
  have hbe : ∀ m, lg s = m → be n s = (arr n s s).set 0 ((arr n s s).getD 0 0 + m * 64) := fun m h => by rw [← h]; rfl
  have hsw : (s = 1 ∧ ((s : Int) == 2) = false ∧ ((s : Int) == 4) = false ∧ ((s : Int) == 8) = false) ∨ (s = 2 ∧ ((s : Int) == 2) = true) ∨ (s = 4 ∧ ((s : Int) == 2) = false ∧ ((s : Int) == 4) = true) ∨ (s = 8 ∧ ((s : Int) == 2) = false ∧ ((s : Int) == 4) = false ∧ ((s : Int) == 8) = true) := by
    rcases hs with rfl | rfl | rfl | rfl <;> simp
  have HB := Lib.hid hbe
  have HH := Lib.hid hhead
  have HSW := Lib.hid hsw
  clear hbe hhead hsw
  obtain ⟨i0, hi, hz0, hz1, hz2⟩ := info_parts info5
  go_enter Tryd.func49, Tryd.ntmps49
  go_wp2_with (first | (go_at_call 58; refine (fits_any n _ _).mono ?_; rintro e w' ⟨rfl, rfl⟩) | (at_make; refine wpList_make_full _ rfl _ _ _ rfl w.heap.size 5 i0 _ 1 Tryd.underlying23 hi hz0 hz1 _ _ _ _ s rfl rfl rfl rfl (by rw [hz2]; omega) (by unfold maxLen; omega) (Nat.le_refl _) ?_; intro w1 hown hgrow))
  have hR : Row w1 w.heap.size 5 (u8s (arr n s 0)) := by
    have := Row.of_made hown
    rw [show (Value.int .u8 0).cells = #[.int .u8 0] from rfl, toList_madeCells_one] at this
    simpa [arr_0, u8s] using this
  have hC : Chg none_ w w1 := (Chg.refl none_ w).grown hgrow (by intro k hk; cases hk)
  clear hown hgrow
  go_loopw [0, 6] (fun t i wr => ∃ k : Nat, k ≤ s ∧ i = .int .i64 ((s : Int) - 1 - k) ∧ t = .int .u64 ((n / 2 ^ (8 * k) : Nat) : Int) ∧ Row wr w.heap.size 5 (u8s (arr n s k)) ∧ Chg none_ w wr) (fun _ i _ => (intOf i + 1).toNat)
  case atStart => exact ⟨0, Nat.zero_le _, by simp, by simp, hR, hC⟩
  case round =>
    obtain ⟨k, hk, rfl, rfl, hrow, hch⟩ := hrel
    clear hR hC
    by_cases hlt : k < s
    · have hf := hrow.frozen (s - 1 - k)
      have hc : wr.cell? ⟨w.heap.size, s - 1 - k, none⟩ = some (.int .u8 (((arr n s k).getD (s - 1 - k) 0 : Nat) : Int)) := by
        rw [hrow.cell, u8s_get]
        have : s - 1 - k < (arr n s k).length := by rw [arr_len]; omega
        simp [this, List.getD]
      have htn : ((s : Int) - 1 - (k : Int)).toNat = s - 1 - k := by omega
      have hwr : IntKind.u64.wrap (((n / 2 ^ (8 * k) : Nat) : Int) / 256) = ((n / 2 ^ (8 * (k + 1)) : Nat) : Int) := by
        have h1 : n / 2 ^ (8 * k) ≤ n := Nat.div_le_self _ _
        have h2 : n ≤ 4611686018427387903 := by
          rcases hs with rfl | rfl | rfl | rfl
          · rw [gr_1] at hn; omega
          · rw [gr_2] at hn; omega
          · rw [gr_4] at hn; omega
          · rw [gr_8] at hn; omega
        rw [show 8 * (k + 1) = 8 * k + 8 from by omega, Nat.pow_add, ← Nat.div_div_eq_div_mul]
        generalize n / 2 ^ (8 * k) = q at h1 ⊢
        rw [IntWalk.u64_in _ (by omega)]
        rfl
      have HW := Lib.hid hwr
      clear hwr
      generalize hnk : n / 2 ^ (8 * k) = nk at HW ⊢
      have HN := Lib.hid hnk
      clear hnk
      go_wp2
      go_roundw
      case rel =>
        refine ⟨k + 1, by omega, by go_num, by rw [HW.out], ?_, hch.setCell (fun h => absurd h (by simp)) _⟩
        have := hrow.set (s - 1 - k) (.int .u8 ((n / 2 ^ (8 * k) % 256 : Nat) : Int))
        rw [u8s_set, arr_set n s k hlt, HN.out] at this
        simpa using this
      case measure => simp [intOf]; omega
    · have hks : k = s := by omega
      subst hks
      have hf := hrow.frozen 0
      have hk0 : 0 < k := hs1
      have hc : wr.cell? ⟨w.heap.size, 0, none⟩ = some (.int .u8 (((arr n k k).getD 0 0 : Nat) : Int)) := by
        rw [hrow.cell, u8s_get]
        have : 0 < (arr n k k).length := by rw [arr_len]; omega
        simp [this, List.getD]
      have hset : ∀ m, lg k = m → Row (wr.setCell ⟨w.heap.size, 0, none⟩ (.int .u8 (((arr n k k).getD 0 0 + m * 64 : Nat) : Int))) w.heap.size 5 (u8s (be n k)) := fun m hm => by
        have := hrow.set 0 (.int .u8 (((arr n k k).getD 0 0 + m * 64 : Nat) : Int))
        rw [u8s_set] at this
        rw [HB.out m hm]
        exact this
      have HS := Lib.hid hset
      clear hset
      have hh := HH.out
      generalize ha : (arr n k k).getD 0 0 = a at hc hh HS
      clear ha
      rcases HSW.out with ⟨hk1, s2, s4, s8⟩ | ⟨hk1, s2⟩ | ⟨hk1, s2, s4⟩ | ⟨hk1, s2, s4, s8⟩
      · have HK := Lib.hid hk1
        clear hk1
        go_wp2
        go_ret
        refine ⟨rfl, ?_, hch⟩
        have e : be n k = arr n k k := be_0 n k (by rw [HK.out]; rfl)
        rw [e]; exact hrow
      · have HK := Lib.hid hk1
        clear hk1
        go_wp2
        go_ret
        refine ⟨rfl, ?_, hch.setCell (fun h => absurd h (by simp)) _⟩
        exact HS.out 1 (by rw [HK.out]; rfl)
      · have HK := Lib.hid hk1
        clear hk1
        go_wp2
        go_ret
        refine ⟨rfl, ?_, hch.setCell (fun h => absurd h (by simp)) _⟩
        exact HS.out 2 (by rw [HK.out]; rfl)
      · have HK := Lib.hid hk1
        clear hk1
        go_wp2
        go_ret
        refine ⟨rfl, ?_, hch.setCell (fun h => absurd h (by simp)) _⟩
        exact HS.out 3 (by rw [HK.out]; rfl)

theorem fitsB_no (n : Nat) (s : Int) (hs : ¬ (s = 1 ∨ s = 2 ∨ s = 4 ∨ s = 8)) : fitsB n s = false := fitsB_0 n s (by omega) (by omega) (by omega) (by omega)

theorem rwide_all (n : Nat) (s : Int) (w : World) : Calls Tryd.prog 49 #[.int .u64 n, .int .i64 s] w fun e w' =>
    ∃ v, e = .returned v ∧ NewBytes w w' v (wideB n s) := by
  by_cases hs : s = 1 ∨ s = 2 ∨ s = 4 ∨ s = 8
  · obtain ⟨t, rfl⟩ : ∃ t : Nat, s = (t : Int) := ⟨s.toNat, by omega⟩
    have ht : isW t := by unfold isW; omega
    by_cases hn : n ≤ gr t
    · have e : wideB n t = be n t := by unfold wideB; rw [if_pos ⟨hs, by simpa using hn⟩]; simp
      have h0 : be n t ≠ [] := by intro h; have := be_len n t; rw [h] at this; simp at this; unfold isW at ht; omega
      refine (rwide_any n t w ht hn).mono fun _ _ ⟨h1, h2, h3⟩ => ⟨_, h1, h3, .inr ⟨by rw [e]; exact h0, by rw [e, be_len], by rw [e]; exact h2⟩⟩
    · have e : wideB n t = [] := by unfold wideB; rw [if_neg (by intro h; exact hn (by simpa using h.2))]
      refine (rwide_none n t w (by rw [fitsB_iff n t ht]; exact decide_eq_false hn)).mono fun _ _ ⟨h1, h2⟩ => ⟨_, h1, h2 ▸ Chg.refl _ _, .inl ⟨e, rfl⟩⟩
  · have e : wideB n s = [] := by unfold wideB; rw [if_neg (fun h => hs h.1)]
    exact (rwide_none n s w (fitsB_no n s hs)).mono fun _ _ ⟨h1, h2⟩ => ⟨_, h1, h2 ▸ Chg.refl _ _, .inl ⟨e, rfl⟩⟩

theorem rput_any (n : Nat) (w : World) : Calls Tryd.prog 30 #[.int .u64 n] w fun e w' =>
    ∃ v, e = .returned v ∧ NewBytes w w' v (wideB n (szN n)) := by
  go_enter Tryd.func30, Tryd.ntmps30
  go_wp2_with (first | (go_at_call 50; refine (rsize_any n _).mono ?_; rintro e w' ⟨rfl, rfl⟩) | (go_at_call 49; refine (rwide_all n _ _).mono ?_; rintro e w' ⟨v, rfl, hv⟩))
  go_ret
  exact ⟨v, rfl, hv⟩

end Go.Proofs.YtfecmloaopbogaaDoor
