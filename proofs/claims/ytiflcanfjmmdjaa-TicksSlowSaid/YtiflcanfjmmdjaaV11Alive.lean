/- Layer 11 (ticks): the document's example, and a bucket: alive. -/
import Derived.Test.YtiflcanfjmmdjaaV11RBucket
namespace Go.Proofs.Ytiflcanfjmmdjaa
open Go.RowKit

theorem Chg.past {w w1 w2 : World} {g : Nat} (h : Chg none_ w w1) (k : Chg (· = g) w1 w2) (hg : w.heap.size ≤ g) : Chg none_ w w2 :=
  h.andThen k (fun b hb e => by subst e; omega)

set_option maxRecDepth 100000 in
set_option maxHeartbeats 4000000 in
theorem alive_any (w : World) : Calls Try.prog 10 #[] w fun e w' => e = .returned (.bool true) ∧ Chg none_ w w' := by
  have HN : Hid (∀ w, Calls Try.prog 20 #[.int .u64 2, .int .u64 10] w fun e w' => e = .returned (.pointer (some ⟨w.heap.size, 0, none⟩)) ∧ Row w' w.heap.size 51 (bk 2 10 2 0) ∧ Chg none_ w w' ∧ w'.heap.size = w.heap.size + 1) := Lib.hid (fun w => new_any 2 10 (by omega) w)
  have HNN : Hid (∀ w, Calls Try.prog 20 #[.int .u64 1, .int .u64 0] w fun e w' => e = .returned (.pointer none) ∧ w' = w) := Lib.hid (fun w => new_nil 1 w)
  have HT1 : Hid (∀ g w, Row w g 51 (bk 2 10 2 0) → Calls Try.prog 21 #[.pointer (some ⟨g, 0, none⟩), .int .u64 0] w fun e w' => e = .returned (.bool true) ∧ Row w' g 51 (bk 2 10 1 0) ∧ Chg (· = g) w w') := Lib.hid (fun g w hr => by
    have := take_any g 2 10 2 0 0 ⟨by omega, by omega, by omega, by omega, by omega⟩ (by omega) w hr
    rw [show atN 2 10 2 0 0 = (2, 0) by decide] at this
    exact this)
  have HT2 : Hid (∀ g w, Row w g 51 (bk 2 10 1 0) → Calls Try.prog 21 #[.pointer (some ⟨g, 0, none⟩), .int .u64 0] w fun e w' => e = .returned (.bool true) ∧ Row w' g 51 (bk 2 10 0 0) ∧ Chg (· = g) w w') := Lib.hid (fun g w hr => by
    have := take_any g 2 10 1 0 0 ⟨by omega, by omega, by omega, by omega, by omega⟩ (by omega) w hr
    rw [show atN 2 10 1 0 0 = (1, 0) by decide] at this
    exact this)
  have HT3 : Hid (∀ g w, Row w g 51 (bk 2 10 0 0) → Calls Try.prog 21 #[.pointer (some ⟨g, 0, none⟩), .int .u64 9] w fun e w' => e = .returned (.bool false) ∧ Row w' g 51 (bk 2 10 0 0) ∧ Chg (· = g) w w') := Lib.hid (fun g w hr => by
    have := take_any g 2 10 0 0 9 ⟨by omega, by omega, by omega, by omega, by omega⟩ (by omega) w hr
    rw [show atN 2 10 0 0 9 = (0, 0) by decide] at this
    exact this)
  have HT4 : Hid (∀ g w, Row w g 51 (bk 2 10 0 0) → Calls Try.prog 21 #[.pointer (some ⟨g, 0, none⟩), .int .u64 10] w fun e w' => e = .returned (.bool true) ∧ Row w' g 51 (bk 2 10 0 10) ∧ Chg (· = g) w w') := Lib.hid (fun g w hr => by
    have := take_any g 2 10 0 0 10 ⟨by omega, by omega, by omega, by omega, by omega⟩ (by omega) w hr
    rw [show atN 2 10 0 0 10 = (1, 10) by decide] at this
    exact this)
  have HL : Hid (∀ g w, Row w g 51 (bk 2 10 0 0) → Calls Try.prog 22 #[.pointer (some ⟨g, 0, none⟩), .int .u64 10] w fun e w' => e = .returned (.int .u64 1) ∧ Chg none_ w w') := Lib.hid (fun g w hr => by
    have := left_any g 2 10 0 0 10 ⟨by omega, by omega, by omega, by omega, by omega⟩ (by omega) w hr
    rw [show atN 2 10 0 0 10 = (1, 10) by decide] at this
    exact this)
  have HA1 : Hid (∀ w, Calls Try.prog 11 #[.int .u64 18446744073709551615, .int .u64 1] w fun e w' => e = .returned (.int .u64 18446744073709551615) ∧ Chg none_ w w') := Lib.hid (fun w => by have := tadd_any 18446744073709551615 1 w; rw [show addN 18446744073709551615 1 = 18446744073709551615 by decide] at this; exact this)
  have HA2 : Hid (∀ w, Calls Try.prog 11 #[.int .u64 2, .int .u64 3] w fun e w' => e = .returned (.int .u64 5) ∧ Chg none_ w w') := Lib.hid (fun w => by have := tadd_any 2 3 w; rw [show addN 2 3 = 5 by decide] at this; exact this)
  have HX : Hid (∀ w, Calls Try.prog 13 #[.int .u64 1099511627776, .int .u64 1099511627776] w fun e w' => e = .returned (.int .u64 18446744073709551615) ∧ Chg none_ w w') := Lib.hid (fun w => by have := ttimes_any 1099511627776 1099511627776 (by omega) (by omega) w; rw [show timesN 1099511627776 1099511627776 = 18446744073709551615 by decide] at this; exact this)
  have HS : Hid (∀ w, Calls Try.prog 15 #[.int .u64 3, .int .u64 5] w fun e w' => e = .returned (.int .u64 0) ∧ Chg none_ w w') := Lib.hid (fun w => by have := tsub_any 3 5 (by omega) (by omega) w; rw [show 3 - 5 = 0 by decide] at this; exact this)
  have HB : Hid (∀ w, Calls Try.prog 16 #[.int .u64 3, .int .i64 2] w fun e w' => e = .returned (.int .u64 12) ∧ Chg none_ w w') := Lib.hid (fun w => by have := tback_any 3 2 (by omega) w; rw [show boffN 3 2 = 12 by decide] at this; exact this)
  have HP8 : Hid (∀ w, Calls Try.prog 18 #[.int .u64 8] w fun e w' => e = .returned (.bool true) ∧ w' = w) := Lib.hid (fun w => by have := tpower_any 8 (by omega) w; rw [show isPow 8 = true from isPow_pow 3] at this; exact this)
  have HP6 : Hid (∀ w, Calls Try.prog 18 #[.int .u64 6] w fun e w' => e = .returned (.bool false) ∧ w' = w) := Lib.hid (fun w => by have := tpower_any 6 (by omega) w; rw [show isPow 6 = false by rw [isPow_half 6 (by omega) (by omega), isPow_end _ (by omega)]; rfl] at this; exact this)
  go_enter Try.func10, Try.ntmps10
  go_wp2_with (first | (go_at_call_of 20 (Value.int IntKind.u64 1); refine (HNN.out _).mono ?_; rintro e w9 ⟨rfl, rfl⟩) | (go_at_call 20; refine (HN.out _).mono ?_; rintro e w1 ⟨rfl, hr, hc, hs⟩; have HRa := Lib.hid hr; have HC := Lib.hid hc; clear hr hc hs) | (go_at_call_of 21 (Value.int IntKind.u64 9); refine (HT3.out _ _ HRc.out).mono ?_; rintro e w9 ⟨rfl, hr, hc⟩; have HRd := Lib.hid hr; have HC := Lib.hid (HC.out.past hc (Nat.le_refl _)); clear hr hc) | (go_at_call_of 21 (Value.int IntKind.u64 10); refine (HT4.out _ _ HRd.out).mono ?_; rintro e w9 ⟨rfl, hr, hc⟩; have HRe := Lib.hid hr; have HC := Lib.hid (HC.out.past hc (Nat.le_refl _)); clear hr hc) | (go_at_call 21; refine (HT1.out _ _ HRa.out).mono ?_; rintro e w9 ⟨rfl, hr, hc⟩; have HRb := Lib.hid hr; have HC := Lib.hid (HC.out.past hc (Nat.le_refl _)); clear hr hc) | (go_at_call 21; refine (HT2.out _ _ HRb.out).mono ?_; rintro e w9 ⟨rfl, hr, hc⟩; have HRc := Lib.hid hr; have HC := Lib.hid (HC.out.past hc (Nat.le_refl _)); clear hr hc) | (go_at_call_of 11 (Value.int IntKind.u64 2); refine (HA2.out _).mono ?_; rintro e w9 ⟨rfl, hc⟩; have HRd := Lib.hid (HRd.out.chg hc (fun h => h)); have HC := Lib.hid (HC.out.trans hc); clear hc) | (go_at_call 11; refine (HA1.out _).mono ?_; rintro e w9 ⟨rfl, hc⟩; have HRd := Lib.hid (HRd.out.chg hc (fun h => h)); have HC := Lib.hid (HC.out.trans hc); clear hc) | (go_at_call 13; refine (HX.out _).mono ?_; rintro e w9 ⟨rfl, hc⟩; have HRd := Lib.hid (HRd.out.chg hc (fun h => h)); have HC := Lib.hid (HC.out.trans hc); clear hc) | (go_at_call 15; refine (HS.out _).mono ?_; rintro e w9 ⟨rfl, hc⟩; have HRd := Lib.hid (HRd.out.chg hc (fun h => h)); have HC := Lib.hid (HC.out.trans hc); clear hc) | (go_at_call 16; refine (HB.out _).mono ?_; rintro e w9 ⟨rfl, hc⟩; have HRd := Lib.hid (HRd.out.chg hc (fun h => h)); have HC := Lib.hid (HC.out.trans hc); clear hc) | (go_at_call_of 18 (Value.int IntKind.u64 8); refine (HP8.out _).mono ?_; rintro e w9 ⟨rfl, rfl⟩) | (go_at_call 18; refine (HP6.out _).mono ?_; rintro e w9 ⟨rfl, rfl⟩) | (go_at_call 22; refine (HL.out _ _ HRd.out).mono ?_; rintro e w9 ⟨rfl, hc⟩; have HRd := Lib.hid (HRd.out.chg hc (fun h => h)); have HC := Lib.hid (HC.out.trans hc); clear hc))
  go_ret
  exact ⟨rfl, HC.out⟩
end Go.Proofs.Ytiflcanfjmmdjaa
