/- Layer 11 (ticks): the laws of sums, of powers, of their order, of backoffs, and of what is left, walked. -/
import Derived.Test.YtiflcanfjmmdjaaV11Alive
import Derived.Test.YtiflcanfjmmdjaaBytes
namespace Go.Proofs.Ytiflcanfjmmdjaa
open Go.RowKit

theorem u64_of_wf {n : Nat} (h : (Lit.int .u64 (n : Int)).wf = true) : n < 18446744073709551616 := by
  rw [show (Lit.int .u64 (n : Int)).wf = (decide ((0 : Int) ≤ n) && decide ((n : Int) ≤ 18446744073709551615)) from rfl] at h
  simp at h; omega
theorem u8_of_wf {n : Nat} (h : (Lit.int .u8 (n : Int)).wf = true) : n < 256 := by
  rw [show (Lit.int .u8 (n : Int)).wf = (decide ((0 : Int) ≤ n) && decide ((n : Int) ≤ 255)) from rfl] at h
  simp at h; omega
theorem u16_of_wf {n : Nat} (h : (Lit.int .u16 (n : Int)).wf = true) : n < 65536 := by
  rw [show (Lit.int .u16 (n : Int)).wf = (decide ((0 : Int) ≤ n) && decide ((n : Int) ≤ 65535)) from rfl] at h
  simp at h; omega
theorem i64_of_wf {n : Int} (h : (Lit.int .i64 n).wf = true) : n < 9223372036854775808 := by
  rw [show (Lit.int .i64 n).wf = (decide ((-9223372036854775808 : Int) ≤ n) && decide (n ≤ 9223372036854775807)) from rfl] at h
  simp at h; omega

set_option maxRecDepth 100000 in
set_option maxHeartbeats 4000000 in
theorem walk_TicksSums (a0 b0 c : Int) (w : World) (ha : (Lit.int .u64 a0).wf = true) (hb : (Lit.int .u64 b0).wf = true) (hc : (Lit.int .i64 c).wf = true) :
    Calls Try.prog 3 #[.int .u64 a0, .int .u64 b0, .int .i64 c] w fun e w' => e = .returned (.bool true) ∧ Chg none_ w w' := by
  obtain ⟨a, rfl⟩ := nat_of_wf ha rfl
  obtain ⟨b, rfl⟩ := nat_of_wf hb rfl
  have hA := u64_of_wf ha
  have hB := u64_of_wf hb
  have hC := i64_of_wf hc
  clear ha hb hc
  have H1 := Lib.hid (fun w => tadd_any a b w)
  have R1 := Lib.hid (fun w => radd_any a b hA hB w)
  have H2 := Lib.hid (fun w => ttimes_any a b hA hB w)
  have R2 := Lib.hid (fun w => rtimes_any a b hA hB w)
  have H3 := Lib.hid (fun w => tsub_any a b hA hB w)
  have H4 := Lib.hid (fun w => tback_any a c hA w)
  have R4 := Lib.hid (fun w => rback_any a c hA hC w)
  have H5 := Lib.hid (fun w => tpower_any a hA w)
  have R5 := Lib.hid (fun w => rpower_any a hA w)
  generalize addN a b = s at *
  generalize timesN a b = p at *
  generalize boffN a c = q at *
  generalize isPow a = r at *
  obtain ⟨d, hd⟩ : ∃ d, d = a - b := ⟨_, rfl⟩
  rw [← hd] at H3
  by_cases hab : b < a
  · have h1 : (b : Int) < (a : Int) := by omega
    have h2 : (a : Int) - (b : Int) = (d : Int) := by omega
    clear hd hab
    go_enter Try.func3, Try.ntmps3
    go_wp2_with (first | (go_at_call 10; refine (alive_any _).mono ?_; rintro e w9 ⟨rfl, hc⟩; have HC := Lib.hid hc; clear hc) | (go_at_call 11; refine (H1.out _).mono ?_; rintro e w9 ⟨rfl, hc⟩; have HC := Lib.hid (HC.out.trans hc); clear hc) | (go_at_call 12; refine (R1.out _).mono ?_; rintro e w9 ⟨rfl, rfl⟩) | (go_at_call 13; refine (H2.out _).mono ?_; rintro e w9 ⟨rfl, hc⟩; have HC := Lib.hid (HC.out.trans hc); clear hc) | (go_at_call 14; refine (R2.out _).mono ?_; rintro e w9 ⟨rfl, rfl⟩) | (go_at_call 15; refine (H3.out _).mono ?_; rintro e w9 ⟨rfl, hc⟩; have HC := Lib.hid (HC.out.trans hc); clear hc) | (go_at_call 16; refine (H4.out _).mono ?_; rintro e w9 ⟨rfl, hc⟩; have HC := Lib.hid (HC.out.trans hc); clear hc) | (go_at_call 17; refine (R4.out _).mono ?_; rintro e w9 ⟨rfl, rfl⟩) | (go_at_call 18; refine (H5.out _).mono ?_; rintro e w9 ⟨rfl, rfl⟩) | (go_at_call 19; refine (R5.out _).mono ?_; rintro e w9 ⟨rfl, rfl⟩))
    go_ret
    exact ⟨rfl, HC.out⟩
  · have h1 : ¬ (b : Int) < (a : Int) := by omega
    have h2 : d = 0 := by omega
    subst h2
    clear hd hab
    go_enter Try.func3, Try.ntmps3
    go_wp2_with (first | (go_at_call 10; refine (alive_any _).mono ?_; rintro e w9 ⟨rfl, hc⟩; have HC := Lib.hid hc; clear hc) | (go_at_call 11; refine (H1.out _).mono ?_; rintro e w9 ⟨rfl, hc⟩; have HC := Lib.hid (HC.out.trans hc); clear hc) | (go_at_call 12; refine (R1.out _).mono ?_; rintro e w9 ⟨rfl, rfl⟩) | (go_at_call 13; refine (H2.out _).mono ?_; rintro e w9 ⟨rfl, hc⟩; have HC := Lib.hid (HC.out.trans hc); clear hc) | (go_at_call 14; refine (R2.out _).mono ?_; rintro e w9 ⟨rfl, rfl⟩) | (go_at_call 15; refine (H3.out _).mono ?_; rintro e w9 ⟨rfl, hc⟩; have HC := Lib.hid (HC.out.trans hc); clear hc) | (go_at_call 16; refine (H4.out _).mono ?_; rintro e w9 ⟨rfl, hc⟩; have HC := Lib.hid (HC.out.trans hc); clear hc) | (go_at_call 17; refine (R4.out _).mono ?_; rintro e w9 ⟨rfl, rfl⟩) | (go_at_call 18; refine (H5.out _).mono ?_; rintro e w9 ⟨rfl, rfl⟩) | (go_at_call 19; refine (R5.out _).mono ?_; rintro e w9 ⟨rfl, rfl⟩))
    go_ret
    exact ⟨rfl, HC.out⟩

set_option maxRecDepth 100000 in
set_option maxHeartbeats 4000000 in
theorem walk_TicksBack (t0 m0 n0 : Int) (w : World) (ht : (Lit.int .u64 t0).wf = true) (hm : (Lit.int .u8 m0).wf = true) (hn : (Lit.int .u8 n0).wf = true) :
    Calls Try.prog 8 #[.int .u64 t0, .int .u8 m0, .int .u8 n0] w fun e w' => e = .returned (.bool true) ∧ Chg none_ w w' := by
  obtain ⟨t, rfl⟩ := nat_of_wf ht rfl
  obtain ⟨m, rfl⟩ := nat_of_wf hm rfl
  obtain ⟨n, rfl⟩ := nat_of_wf hn rfl
  have hT := u64_of_wf ht
  have hM := u8_of_wf hm
  have hN := u8_of_wf hn
  clear ht hm hn
  obtain ⟨p, hp⟩ : ∃ p, p = m % 40 := ⟨_, rfl⟩
  obtain ⟨q, hq⟩ : ∃ q, q = n % 40 := ⟨_, rfl⟩
  have p1 : (m : Int) % 40 = (p : Int) := by omega
  have q1 : (n : Int) % 40 = (q : Int) := by omega
  have p2 : p < 40 := by omega
  have q2 : q < 40 := by omega
  have hx : boffN t (p : Int) < 18446744073709551616 := by have := boff_le t (p : Int); unfold NV at this; omega
  have HB := boff_boff t p q
  have HG : t ≤ boffN t ((p + q : Nat) : Int) := boff_ge t _ (by unfold NV; omega)
  have H1 := Lib.hid (fun w => tback_any t (p : Int) hT w)
  have H2 := Lib.hid (fun w => tback_any (boffN t (p : Int)) (q : Int) hx w)
  have H3 := Lib.hid (fun w => tback_any t ((p + q : Nat) : Int) hT w)
  rw [HB] at H2
  rw [Int.natCast_add] at H3 H2 HG
  generalize boffN t ((p : Int) + (q : Int)) = r at *
  generalize boffN t (p : Int) = x at *
  have HG2 : (t : Int) ≤ (r : Int) := by omega
  clear hp hq HB HG
  go_enter Try.func8, Try.ntmps8
  go_wp2_with (first | (go_at_call 10; refine (alive_any _).mono ?_; rintro e w9 ⟨rfl, hc⟩; have HC := Lib.hid hc; clear hc) | (go_at_call_of 16 (Value.int IntKind.u64 (x : Int)); refine (H2.out _).mono ?_; rintro e w9 ⟨rfl, hc⟩; have HC := Lib.hid (HC.out.trans hc); clear hc) | (go_at_call_of 16 ((p : Int) + (q : Int)); refine (H3.out _).mono ?_; rintro e w9 ⟨rfl, hc⟩; have HC := Lib.hid (HC.out.trans hc); clear hc) | (go_at_call 16; refine (H1.out _).mono ?_; rintro e w9 ⟨rfl, hc⟩; have HC := Lib.hid (HC.out.trans hc); clear hc))
  go_ret
  exact ⟨rfl, HC.out⟩
end Go.Proofs.Ytiflcanfjmmdjaa
