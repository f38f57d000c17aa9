/- Layer 11 (ticks): the laws of sums' order, of powers, and of what is left, walked. -/
import Derived.Test.YtiflcanfjmmdjaaV11Laws
namespace Go.Proofs.Ytiflcanfjmmdjaa
open Go.RowKit

theorem add_comm' (a b : Nat) : addN a b = addN b a := by unfold addN; rw [Nat.add_comm]
theorem times_comm' (a b : Nat) : timesN a b = timesN b a := by unfold timesN; rw [Nat.mul_comm]

set_option maxRecDepth 100000 in
set_option maxHeartbeats 4000000 in
theorem walk_TicksOrder (a0 b0 c0 : Int) (w : World) (ha : (Lit.int .u64 a0).wf = true) (hb : (Lit.int .u64 b0).wf = true) (hc : (Lit.int .u64 c0).wf = true) :
    Calls Try.prog 7 #[.int .u64 a0, .int .u64 b0, .int .u64 c0] w fun e w' => e = .returned (.bool true) ∧ Chg none_ w w' := by
  obtain ⟨a, rfl⟩ := nat_of_wf ha rfl
  obtain ⟨b, rfl⟩ := nat_of_wf hb rfl
  obtain ⟨c, rfl⟩ := nat_of_wf hc rfl
  have hA := u64_of_wf ha
  have hB := u64_of_wf hb
  have hC := u64_of_wf hc
  clear ha hb hc
  have H1 := Lib.hid (fun w => tadd_any a b w)
  have H2 := Lib.hid (fun w => tadd_any a c w)
  have H3 := Lib.hid (fun w => tadd_any b a w)
  have H4 := Lib.hid (fun w => ttimes_any a b hA hB w)
  have H5 := Lib.hid (fun w => ttimes_any b a hB hA w)
  have H6 : Hid (∀ w, Calls Try.prog 13 #[.int .u64 (a : Int), .int .u64 1] w fun e w' => e = .returned (.int .u64 (a : Int)) ∧ Chg none_ w w') := Lib.hid (fun w => by
    have := ttimes_any a 1 hA (by omega) w
    rw [show timesN a 1 = a by unfold timesN NV; omega] at this
    exact this)
  rw [add_comm' b a] at H3
  rw [times_comm' b a] at H5
  have e1 : (a : Int) ≤ (addN a b : Nat) := by unfold addN NV; omega
  have e2 : (b : Int) ≤ (addN a b : Nat) := by unfold addN NV; omega
  have e3 : ¬ c < b → (addN a b : Nat) ≤ addN a c := by intro h; unfold addN NV; omega
  have hS : addN a b < 18446744073709551616 := by unfold addN NV; omega
  have H7 := Lib.hid (fun w => tsub_any (addN a b) b hS hB w)
  have e4 : addN a b ≠ 18446744073709551615 → addN a b - b = a := by intro h; unfold addN NV at *; omega
  generalize addN a b = s at *
  generalize addN a c = t at *
  generalize timesN a b = p at *
  by_cases hbc : c < b
  · have h1 : (c : Int) < (b : Int) := by omega
    by_cases hs : s = 18446744073709551615
    · subst hs
      clear e3 e4 hbc
      go_enter Try.func7, Try.ntmps7
      go_wp2_with (first | (go_at_call 10; refine (alive_any _).mono ?_; rintro e w9 ⟨rfl, hc⟩; have HC := Lib.hid hc; clear hc) | (go_at_call_of 11 (Value.int IntKind.u64 (c : Int)); refine (H2.out _).mono ?_; rintro e w9 ⟨rfl, hc⟩; have HC := Lib.hid (HC.out.trans hc); clear hc) | (go_at_call 11; refine (H1.out _).mono ?_; rintro e w9 ⟨rfl, hc⟩; have HC := Lib.hid (HC.out.trans hc); clear hc) | (go_at_call 11; refine (H3.out _).mono ?_; rintro e w9 ⟨rfl, hc⟩; have HC := Lib.hid (HC.out.trans hc); clear hc) | (go_at_call_of 13 (Value.int IntKind.u64 1); refine (H6.out _).mono ?_; rintro e w9 ⟨rfl, hc⟩; have HC := Lib.hid (HC.out.trans hc); clear hc) | (go_at_call 13; refine (H4.out _).mono ?_; rintro e w9 ⟨rfl, hc⟩; have HC := Lib.hid (HC.out.trans hc); clear hc) | (go_at_call 13; refine (H5.out _).mono ?_; rintro e w9 ⟨rfl, hc⟩; have HC := Lib.hid (HC.out.trans hc); clear hc) | (go_at_call 15; refine (H7.out _).mono ?_; rintro e w9 ⟨rfl, hc⟩; have HC := Lib.hid (HC.out.trans hc); clear hc))
      go_ret
      exact ⟨rfl, HC.out⟩
    · have h2 : ((s : Int) == 18446744073709551615) = false := by rw [beq_eq_false_iff_ne]; omega
      rw [e4 hs] at H7
      clear e3 e4 hbc hs
      go_enter Try.func7, Try.ntmps7
      go_wp2_with (first | (go_at_call 10; refine (alive_any _).mono ?_; rintro e w9 ⟨rfl, hc⟩; have HC := Lib.hid hc; clear hc) | (go_at_call_of 11 (Value.int IntKind.u64 (c : Int)); refine (H2.out _).mono ?_; rintro e w9 ⟨rfl, hc⟩; have HC := Lib.hid (HC.out.trans hc); clear hc) | (go_at_call 11; refine (H1.out _).mono ?_; rintro e w9 ⟨rfl, hc⟩; have HC := Lib.hid (HC.out.trans hc); clear hc) | (go_at_call 11; refine (H3.out _).mono ?_; rintro e w9 ⟨rfl, hc⟩; have HC := Lib.hid (HC.out.trans hc); clear hc) | (go_at_call_of 13 (Value.int IntKind.u64 1); refine (H6.out _).mono ?_; rintro e w9 ⟨rfl, hc⟩; have HC := Lib.hid (HC.out.trans hc); clear hc) | (go_at_call 13; refine (H4.out _).mono ?_; rintro e w9 ⟨rfl, hc⟩; have HC := Lib.hid (HC.out.trans hc); clear hc) | (go_at_call 13; refine (H5.out _).mono ?_; rintro e w9 ⟨rfl, hc⟩; have HC := Lib.hid (HC.out.trans hc); clear hc) | (go_at_call 15; refine (H7.out _).mono ?_; rintro e w9 ⟨rfl, hc⟩; have HC := Lib.hid (HC.out.trans hc); clear hc))
      go_ret
      exact ⟨rfl, HC.out⟩
  · have h1 : ¬ (c : Int) < (b : Int) := by omega
    have h3 : (s : Int) ≤ (t : Int) := by have := e3 hbc; omega
    by_cases hs : s = 18446744073709551615
    · subst hs
      have h4 : (18446744073709551615 : Int) ≤ (t : Int) := h3
      have h5 : 18446744073709551615 ≤ t := by omega
      clear e3 e4 h3
      go_enter Try.func7, Try.ntmps7
      go_wp2_with (first | (go_at_call 10; refine (alive_any _).mono ?_; rintro e w9 ⟨rfl, hc⟩; have HC := Lib.hid hc; clear hc) | (go_at_call_of 11 (Value.int IntKind.u64 (c : Int)); refine (H2.out _).mono ?_; rintro e w9 ⟨rfl, hc⟩; have HC := Lib.hid (HC.out.trans hc); clear hc) | (go_at_call 11; refine (H1.out _).mono ?_; rintro e w9 ⟨rfl, hc⟩; have HC := Lib.hid (HC.out.trans hc); clear hc) | (go_at_call 11; refine (H3.out _).mono ?_; rintro e w9 ⟨rfl, hc⟩; have HC := Lib.hid (HC.out.trans hc); clear hc) | (go_at_call_of 13 (Value.int IntKind.u64 1); refine (H6.out _).mono ?_; rintro e w9 ⟨rfl, hc⟩; have HC := Lib.hid (HC.out.trans hc); clear hc) | (go_at_call 13; refine (H4.out _).mono ?_; rintro e w9 ⟨rfl, hc⟩; have HC := Lib.hid (HC.out.trans hc); clear hc) | (go_at_call 13; refine (H5.out _).mono ?_; rintro e w9 ⟨rfl, hc⟩; have HC := Lib.hid (HC.out.trans hc); clear hc) | (go_at_call 15; refine (H7.out _).mono ?_; rintro e w9 ⟨rfl, hc⟩; have HC := Lib.hid (HC.out.trans hc); clear hc))
      go_ret
      exact ⟨rfl, HC.out⟩
    · have h2 : ((s : Int) == 18446744073709551615) = false := by rw [beq_eq_false_iff_ne]; omega
      rw [e4 hs] at H7
      clear e3 e4 hbc hs
      go_enter Try.func7, Try.ntmps7
      go_wp2_with (first | (go_at_call 10; refine (alive_any _).mono ?_; rintro e w9 ⟨rfl, hc⟩; have HC := Lib.hid hc; clear hc) | (go_at_call_of 11 (Value.int IntKind.u64 (c : Int)); refine (H2.out _).mono ?_; rintro e w9 ⟨rfl, hc⟩; have HC := Lib.hid (HC.out.trans hc); clear hc) | (go_at_call 11; refine (H1.out _).mono ?_; rintro e w9 ⟨rfl, hc⟩; have HC := Lib.hid (HC.out.trans hc); clear hc) | (go_at_call 11; refine (H3.out _).mono ?_; rintro e w9 ⟨rfl, hc⟩; have HC := Lib.hid (HC.out.trans hc); clear hc) | (go_at_call_of 13 (Value.int IntKind.u64 1); refine (H6.out _).mono ?_; rintro e w9 ⟨rfl, hc⟩; have HC := Lib.hid (HC.out.trans hc); clear hc) | (go_at_call 13; refine (H4.out _).mono ?_; rintro e w9 ⟨rfl, hc⟩; have HC := Lib.hid (HC.out.trans hc); clear hc) | (go_at_call 13; refine (H5.out _).mono ?_; rintro e w9 ⟨rfl, hc⟩; have HC := Lib.hid (HC.out.trans hc); clear hc) | (go_at_call 15; refine (H7.out _).mono ?_; rintro e w9 ⟨rfl, hc⟩; have HC := Lib.hid (HC.out.trans hc); clear hc))
      go_ret
      exact ⟨rfl, HC.out⟩

theorem lgN_le (n : Nat) : lgN n ≤ n := by
  induction n with
  | zero => rw [lgN_zero]; omega
  | succ n ih => rw [lgN_succ]; split <;> omega

set_option maxRecDepth 100000 in
set_option maxHeartbeats 4000000 in
theorem walk_TicksPowers (n0 : Int) (w : World) (hn : (Lit.int .u16 n0).wf = true) :
    Calls Try.prog 6 #[.int .u16 n0] w fun e w' => e = .returned (.bool true) ∧ Chg none_ w w' := by
  obtain ⟨n, rfl⟩ := nat_of_wf hn rfl
  have hN := u16_of_wf hn
  clear hn
  have HP := Lib.hid (fun (k : Nat) (hk : k < 18446744073709551616) w => tpower_any k hk w)
  have HP0 : Hid (∀ w, Calls Try.prog 18 #[.int .u64 0] w fun e w' => e = .returned (.bool false) ∧ w' = w) := Lib.hid (fun w => by
    have := tpower_any 0 (by omega) w
    rw [show isPow 0 = false by rw [isPow_end 0 (by omega)]; rfl] at this
    exact this)
  go_enter Try.func6, Try.ntmps6
  go_wp2_with (go_at_call 10; refine (alive_any _).mono ?_; rintro e w9 ⟨rfl, hc⟩; have HC := Lib.hid hc; clear hc)
  go_loopw [4, 5] (fun m k wr => ∃ (i K : Nat), m = .int .i64 (i : Int) ∧ k = .int .i64 (K : Int) ∧ i ≤ 16 ∧ Hid (K = 2 ^ i) ∧ (i = 0 ∨ K ≤ 2 * n) ∧ K ≤ 131072 ∧ w9 = wr) (fun m _ _ => 17 - (intOf m).toNat)
  case atStart => exact ⟨0, 1, rfl, rfl, by omega, Lib.hid rfl, .inl rfl, by omega, rfl⟩
  case round =>
    obtain ⟨i, K, rfl, rfl, hi, HK, hK2, hK, rfl⟩ := hrel
    by_cases hc : K ≤ n
    · have h1 : (K : Int) ≤ (n : Int) := by omega
      have hi16 : i < 16 := by
        have hk := HK.out
        by_cases h : i < 16
        · exact h
        · have : i = 16 := by omega
          subst this
          have : K = 65536 := hk
          omega
      have HK' : Hid (2 * K = 2 ^ (i + 1)) := Lib.hid (by rw [Nat.pow_succ, HK.out, Nat.mul_comm])
      clear hi
      go_wp2
      go_roundw
      case rel => exact ⟨i + 1, 2 * K, by go_num, by go_num, by omega, HK', .inr (by omega), by omega, trivial⟩
      case measure => simp [intOf]; omega
    · have h1 : ¬ (K : Int) ≤ (n : Int) := by omega
      have HLG : Hid (lgN n = i) := Lib.hid (by
        have hk := HK.out
        rcases i with _ | i
        · have : K = 1 := hk
          have : n = 0 := by omega
          rw [this, lgN_zero]
        · rw [Nat.pow_succ] at hk
          exact lgN_eq i n (by omega) (by rw [Nat.pow_succ]; omega))
      clear HK hK2 hc
      go_wp2
      go_loopw [3, 6] (fun d k wr => ∃ (j D : Nat), j ≤ n ∧ k = .int .i64 ((j : Int) + 1) ∧ d = .int .i64 (D : Int) ∧ D ≤ j ∧ Hid (D = lgN j) ∧ w9 = wr) (fun _ k _ => n + 1 - (intOf k).toNat)
      case atStart => exact ⟨0, 0, by omega, rfl, rfl, by omega, Lib.hid lgN_zero.symm, rfl⟩
      case round =>
        obtain ⟨j, D, hj, rfl, rfl, hD, HD, rfl⟩ := hrel
        by_cases hc : j < n
        · have h2 : (j : Int) + 1 ≤ (n : Int) := by omega
          have HPW : Hid (∀ w, Calls Try.prog 18 #[.int .u64 ((j : Int) + 1)] w fun e w' => e = .returned (.bool (isPow (j + 1))) ∧ w' = w) := Lib.hid (fun w => by
            have := HP.out (j + 1) (by omega) w
            rw [Int.natCast_add] at this
            exact this)
          by_cases hp : isPow (j + 1) = true
          · rw [hp] at HPW
            have HD' : Hid (D + 1 = lgN (j + 1)) := Lib.hid (by rw [lgN_succ, hp, if_pos rfl, HD.out])
            clear hp HD
            go_wp2_with (go_at_call 18; refine (HPW.out _).mono ?_; rintro e w8 ⟨rfl, rfl⟩)
            go_roundw
            case rel => exact ⟨j + 1, D + 1, by omega, by go_num, by go_num, by omega, HD', trivial⟩
            case measure => simp [intOf]; omega
          · have hp2 : isPow (j + 1) = false := by simpa using hp
            rw [hp2] at HPW
            have HD' : Hid (D = lgN (j + 1)) := Lib.hid (by rw [lgN_succ, hp2, HD.out]; simp)
            clear hp hp2 HD
            go_wp2_with (go_at_call 18; refine (HPW.out _).mono ?_; rintro e w8 ⟨rfl, rfl⟩)
            go_roundw
            case rel => exact ⟨j + 1, D, by omega, by go_num, rfl, by omega, HD', trivial⟩
            case measure => simp [intOf]; omega
        · have hjn : j = n := by omega
          subst hjn
          have h2 : ¬ (j : Int) + 1 ≤ (j : Int) := by omega
          have hDi : D = i := by rw [HD.out, HLG.out]
          subst hDi
          clear hc hD HD HLG
          go_wp2_with (go_at_call 18; refine (HP0.out _).mono ?_; rintro e w8 ⟨rfl, rfl⟩)
          go_ret
          exact ⟨rfl, HC.out⟩

theorem at_zero (S E t : Nat) (ht : t ≤ S) : atN S E t 0 0 = (t, 0) := by
  unfold atN
  rw [if_neg (by omega), Nat.sub_zero, Nat.zero_div]
  split
  · rename_i h
    have : S = t := by omega
    rw [this]
  · simp

theorem at_full (S E t x : Nat) (hE : 0 < E) : (atN S E t 0 (S * E + x)).1 = S := by
  unfold atN
  rw [if_neg (by omega), Nat.sub_zero]
  have h : S ≤ (S * E + x) / E := by rw [Nat.le_div_iff_mul_le hE]; omega
  rw [if_pos (by omega)]

set_option maxRecDepth 100000 in
set_option maxHeartbeats 4000000 in
theorem walk_TicksLeft (s0 e0 x0 : Int) (w : World) (hs : (Lit.int .u8 s0).wf = true) (he : (Lit.int .u8 e0).wf = true) (hx : (Lit.int .u16 x0).wf = true) :
    Calls Try.prog 9 #[.int .u8 s0, .int .u8 e0, .int .u16 x0] w fun e w' => e = .returned (.bool true) ∧ Chg none_ w w' := by
  obtain ⟨S, rfl⟩ := nat_of_wf hs rfl
  obtain ⟨E, rfl⟩ := nat_of_wf he rfl
  obtain ⟨x, rfl⟩ := nat_of_wf hx rfl
  have hS := u8_of_wf hs
  have hE := u8_of_wf he
  have hX := u16_of_wf hx
  clear hs he hx
  by_cases hz : E = 0
  · subst hz
    have HN := Lib.hid (fun w => new_nil S w)
    go_enter Try.func9, Try.ntmps9
    go_wp2_with (first | (go_at_call 10; refine (alive_any _).mono ?_; rintro e w9 ⟨rfl, hc⟩; have HC := Lib.hid hc; clear hc) | (go_at_call 20; refine (HN.out _).mono ?_; rintro e w9 ⟨rfl, rfl⟩))
    go_ret
    exact ⟨rfl, HC.out⟩
  have hE0 : 0 < E := by omega
  have HN := Lib.hid (fun w => new_any S E hE0 w)
  have HT := Lib.hid (fun (g t : Nat) (ht : t ≤ S) (w : World) (hr : Row w g 51 (bk S E t 0)) => by
    have := take_any g S E t 0 0 ⟨by omega, hE0, by omega, ht, by omega⟩ (by omega) w hr
    rw [at_zero S E t ht] at this
    exact this)
  have HL0 := Lib.hid (fun (g : Nat) (w : World) (hr : Row w g 51 (bk S E 0 0)) => by
    have := left_any g S E 0 0 0 ⟨by omega, hE0, by omega, by omega, by omega⟩ (by omega) w hr
    rw [at_zero S E 0 (by omega)] at this
    exact this)
  have hle : S * E ≤ 65025 := by
    have := Nat.mul_le_mul (show S ≤ 255 by omega) (show E ≤ 255 by omega)
    omega
  have HL1 := Lib.hid (fun (g : Nat) (w : World) (hr : Row w g 51 (bk S E 0 0)) => by
    have := left_any g S E 0 0 (S * E + x) ⟨by omega, hE0, by omega, by omega, by omega⟩ (by omega) w hr
    rw [at_full S E 0 x hE0] at this
    exact this)
  have hm : (S : Int) * (E : Int) = ((S * E : Nat) : Int) := by simp
  generalize S * E = y at *
  rw [Int.natCast_add] at HL1
  go_enter Try.func9, Try.ntmps9
  go_wp2_with (first | (go_at_call 10; refine (alive_any _).mono ?_; rintro e w9 ⟨rfl, hc⟩; have HC := Lib.hid hc; clear hc) | (go_at_call 20; refine (HN.out _).mono ?_; rintro e w1 ⟨rfl, hr, hc, hs⟩; have HR := Lib.hid hr; have HC1 := Lib.hid (HC.out.trans hc); have HG := Lib.hid HC.out.size; clear hr hc hs))
  have HG2 := HG
  obtain ⟨g, hg⟩ : ∃ g, g = w9.heap.size := ⟨_, rfl⟩
  rw [← hg] at HR HG ⊢
  clear hg
  go_loopw [8, 9] (fun n i wr => ∃ k : Nat, k ≤ S ∧ n = .int .i64 (k : Int) ∧ i = .int .i64 (k : Int) ∧ Hid (Row wr g 51 (bk S E (S - k) 0)) ∧ Hid (Chg none_ w wr)) (fun n _ _ => S - (intOf n).toNat)
  case atStart => exact ⟨0, by omega, rfl, rfl, HR, HC1⟩
  case round =>
    obtain ⟨k, hk, rfl, rfl, HRk, HCk⟩ := hrel
    have HTk := HT.out g (S - k) (by omega) wr HRk.out
    have h300 : (k : Int) < 300 := by omega
    by_cases hc : k < S
    · have hd : decide (0 < S - k) = true := by simp; omega
      have ht : takeN (S - k) = S - (k + 1) := by unfold takeN; omega
      rw [hd, ht] at HTk
      have HTK := Lib.hid HTk
      clear hd ht HTk
      go_wp2_with (go_at_call 21; refine (HTK.out).mono ?_; rintro e w8 ⟨rfl, hr, hc8⟩; have HR8 := Lib.hid hr; have HC8 := Lib.hid (HCk.out.past hc8 HG.out); clear hr hc8)
      go_roundw
      case rel => exact ⟨k + 1, by omega, by go_num, by go_num, HR8, HC8⟩
      case measure => simp [intOf]; omega
    · have hkS : k = S := by omega
      have hd : decide (0 < S - k) = false := by simp; omega
      have ht : takeN (S - k) = 0 := by unfold takeN; omega
      rw [hd, ht] at HTk
      have HTK := Lib.hid HTk
      subst hkS
      clear hd ht HTk hc
      go_wp2_with (first | (go_at_call 21; refine (HTK.out).mono ?_; rintro e w8 ⟨rfl, hr, hc8⟩; have HR8 := Lib.hid hr; have HC8 := Lib.hid (HCk.out.past hc8 HG.out); clear hr hc8) | (go_at_call_of 22 (Value.int IntKind.u64 0); refine (HL0.out _ _ HR8.out).mono ?_; rintro e w7 ⟨rfl, hc7⟩; have HR7 := Lib.hid (HR8.out.chg hc7 (fun h => h)); have HC7 := Lib.hid (HC8.out.trans hc7); clear hc7) | (go_at_call 22; refine (HL1.out _ _ HR7.out).mono ?_; rintro e w6 ⟨rfl, hc6⟩; have HC6 := Lib.hid (HC7.out.trans hc6); clear hc6))
      go_ret
      exact ⟨rfl, HC6.out⟩
end Go.Proofs.Ytiflcanfjmmdjaa
