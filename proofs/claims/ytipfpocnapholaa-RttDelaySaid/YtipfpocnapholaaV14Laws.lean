/- Layer 14 (rtt): the laws of the first answer, of delays, and of the probe's time, walked. -/
import Derived.Test.YtipfpocnapholaaV14Alive
import Derived.Test.YtipfpocnapholaaBytes
namespace Go.Proofs.Ytipfpocnapholaa
open Go.RowKit

theorem u64_of_wf {n : Nat} (h : (Lit.int .u64 (n : Int)).wf = true) : n < 18446744073709551616 := by
  rw [show (Lit.int .u64 (n : Int)).wf = (decide ((0 : Int) ≤ n) && decide ((n : Int) ≤ 18446744073709551615)) from rfl] at h
  simp at h; omega
theorem u32_of_wf {n : Nat} (h : (Lit.int .u32 (n : Int)).wf = true) : n < 4294967296 := by
  rw [show (Lit.int .u32 (n : Int)).wf = (decide ((0 : Int) ≤ n) && decide ((n : Int) ≤ 4294967295)) from rfl] at h
  simp at h; omega
theorem u8_of_wf {n : Nat} (h : (Lit.int .u8 (n : Int)).wf = true) : n < 256 := by
  rw [show (Lit.int .u8 (n : Int)).wf = (decide ((0 : Int) ≤ n) && decide ((n : Int) ≤ 255)) from rfl] at h
  simp at h; omega

/-- Another estimator's Take leaves this one. -/
theorem EO.take2 {w0 w : World} {g g' : Nat} {s s' : Est} (h : EO w0 w g s) (k : EO w0 w g' s') (hne : g' ≠ g) (t d : Nat) : Calls Try.prog 10 #[.pointer (some ⟨g, 0, none⟩), .int .u64 (t : Int), .int .u64 (d : Int)] w fun e w' => e = .returned (.tuple #[]) ∧ EO w0 w' g (takeE s t d) ∧ EO w0 w' g' s' :=
  (rTake_any g s t d h.ok w h.at_).mono fun _ _ ⟨a, b, c⟩ => 
    have hc := h.chg.andThen c (fun k hk (e : k = g) => by have := h.new; omega)
    ⟨a, ⟨b, takeE_ok s h.ok t d, hc, h.new⟩, ⟨k.at_.chg c hne, k.ok, hc, k.new⟩⟩

theorem first_eq (gu t d : Nat) : takeE (newE gu) t d = ⟨heldN t, heldN t / 2, heldN t, heldN t, true⟩ := by
  unfold takeE takeH newE; rfl

set_option maxRecDepth 100000 in
set_option maxHeartbeats 4000000 in
theorem walk_RttFirst (g0 t0 d0 : Int) (w : World) (hg : (Lit.int .u64 g0).wf = true) (ht : (Lit.int .u64 t0).wf = true) (hd : (Lit.int .u64 d0).wf = true) :
    Calls Try.prog 8 #[.int .u64 g0, .int .u64 t0, .int .u64 d0] w fun e w' => e = .returned (.bool true) ∧ Chg none_ w w' := by
  obtain ⟨gu, rfl⟩ := nat_of_wf hg rfl
  obtain ⟨t, rfl⟩ := nat_of_wf ht rfl
  obtain ⟨d, rfl⟩ := nat_of_wf hd rfl
  clear hg ht hd
  have HN1 : Hid (∀ w1, Chg none_ w w1 → Calls Try.prog 17 #[.int .u64 (gu : Int)] w1 fun e w' => e = .returned (.pointer (some ⟨w1.heap.size, 0, none⟩)) ∧ EO w w' w1.heap.size (newE gu)) := Lib.hid (fun w1 hc => EO.new_any gu w w1 hc)
  have HN2 : Hid (∀ w1 ga s, EO w w1 ga s → Calls Try.prog 17 #[.int .u64 7] w1 fun e w' => ∃ gb, e = .returned (.pointer (some ⟨gb, 0, none⟩)) ∧ EO w w' gb (newE 7) ∧ EO w w' ga s ∧ ga ≠ gb) := Lib.hid (fun w1 ga s h => (rNew_any 7 w1).mono fun _ _ ⟨a, b, c, _⟩ => ⟨_, a, ⟨b, newE_ok 7, h.chg.trans c, h.chg.size⟩, h.quiet c, by have := h.at_.lt; omega⟩)
  have HTA : Hid (∀ w1 ga gb s s', EO w w1 ga s → EO w w1 gb s' → ga ≠ gb → Calls Try.prog 10 #[.pointer (some ⟨ga, 0, none⟩), .int .u64 (t : Int), .int .u64 (d : Int)] w1 fun e w' => e = .returned (.tuple #[]) ∧ EO w w' ga (takeE s t d) ∧ EO w w' gb s') := Lib.hid (fun w1 ga gb s s' h k hne => h.take2 k (fun e => hne e.symm) t d)
  have HTB : Hid (∀ w1 ga gb s s', EO w w1 ga s → EO w w1 gb s' → ga ≠ gb → Calls Try.prog 10 #[.pointer (some ⟨gb, 0, none⟩), .int .u64 (t : Int), .int .u64 0] w1 fun e w' => e = .returned (.tuple #[]) ∧ EO w w' ga s ∧ EO w w' gb (takeE s' t 0)) := Lib.hid (fun w1 ga gb s s' h k hne => (k.take2 h hne t 0).mono fun _ _ ⟨a, b, c⟩ => ⟨a, c, b⟩)
  obtain ⟨x, hx⟩ : ∃ x, x = heldN t := ⟨_, rfl⟩
  have HF : Hid (∀ gu d, takeE (newE gu) t d = ⟨x, x / 2, x, x, true⟩) := Lib.hid (fun gu d => by rw [first_eq, hx])
  have hb : x ≤ 1099511627776 := by rw [hx]; exact heldN_le t
  clear hx
  obtain ⟨h, hh⟩ : ∃ h, h = x / 2 := ⟨_, rfl⟩
  rw [← hh] at HF
  have hh2 : (x : Int) / 2 = (h : Int) := by omega
  have hh3 : h < 18446744073709551616 := by omega
  clear hh
  have HS : Hid (∀ w1 g, EO w w1 g ⟨x, h, x, x, true⟩ → Calls Try.prog 11 #[.pointer (some ⟨g, 0, none⟩)] w1 fun e w' => e = .returned (.int .u64 (x : Int)) ∧ w' = w1) := Lib.hid (fun w1 g h => rSmooth_any g _ w1 h.at_)
  have HV : Hid (∀ w1 g, EO w w1 g ⟨x, h, x, x, true⟩ → Calls Try.prog 12 #[.pointer (some ⟨g, 0, none⟩)] w1 fun e w' => e = .returned (.int .u64 (h : Int)) ∧ w' = w1) := Lib.hid (fun w1 g h => rVar_any g _ w1 h.at_)
  have HL : Hid (∀ w1 g, EO w w1 g ⟨x, h, x, x, true⟩ → Calls Try.prog 13 #[.pointer (some ⟨g, 0, none⟩)] w1 fun e w' => e = .returned (.int .u64 (x : Int)) ∧ w' = w1) := Lib.hid (fun w1 g h => rLeast_any g _ w1 h.at_)
  have HA : Hid (∀ w1 g, EO w w1 g ⟨x, h, x, x, true⟩ → Calls Try.prog 14 #[.pointer (some ⟨g, 0, none⟩)] w1 fun e w' => e = .returned (.int .u64 (x : Int)) ∧ w' = w1) := Lib.hid (fun w1 g h => rLatest_any g _ w1 h.at_)
  go_enter Try.func8, Try.ntmps8
  go_wp2_with (first | (go_at_call 9; refine (alive_any _).mono ?_; rintro e w1 ⟨rfl, hc⟩; have HC := Lib.hid hc; clear hc) | (go_at_call_of 17 (Value.int IntKind.u64 7); refine (HN2.out _ _ _ HEa.out).mono ?_; rintro e w9 ⟨gb, rfl, h1, h2, h3⟩; have HEb := Lib.hid h1; have HEa := Lib.hid h2; have HNE := Lib.hid h3; clear h1 h2 h3) | (go_at_call 17; refine (HN1.out _ HC.out).mono ?_; rintro e w9 ⟨rfl, h1⟩; have HEa := Lib.hid h1; clear h1) | (go_at_call_of 10 (Value.int IntKind.u64 0); refine (HTB.out _ _ _ _ _ HEa.out HEb.out HNE.out).mono ?_; rintro e w8 ⟨rfl, h1, h2⟩; have HEc := Lib.hid h1; have HEd := Lib.hid h2; clear h1 h2; rw [HF.out] at HEc HEd) | (go_at_call 10; refine (HTA.out _ _ _ _ _ HEa.out HEb.out HNE.out).mono ?_; rintro e w7 ⟨rfl, h1, h2⟩; have HEa := Lib.hid h1; have HEb := Lib.hid h2; clear h1 h2) | (go_at_call 11; refine (HS.out _ _ HEc.out).mono ?_; rintro e w6 ⟨rfl, rfl⟩) | (go_at_call 11; refine (HS.out _ _ HEd.out).mono ?_; rintro e w6 ⟨rfl, rfl⟩) | (go_at_call 12; refine (HV.out _ _ HEc.out).mono ?_; rintro e w6 ⟨rfl, rfl⟩) | (go_at_call 12; refine (HV.out _ _ HEd.out).mono ?_; rintro e w6 ⟨rfl, rfl⟩) | (go_at_call 13; refine (HL.out _ _ HEc.out).mono ?_; rintro e w6 ⟨rfl, rfl⟩) | (go_at_call 14; refine (HA.out _ _ HEc.out).mono ?_; rintro e w6 ⟨rfl, rfl⟩))
  go_ret
  exact ⟨rfl, HEd.out.chg⟩

/-- What answers that take a time and a delay that is told come to. -/
def Dl (t : Nat) (s : Est) : Prop := s.sm = t ∧ s.le = t ∧ s.an = true
theorem Dl.first (t : Nat) (ht : t < 4294967296) (gu : Nat) : Dl t (takeE (newE gu) t 0) := by
  rw [first_eq, heldN_of t (by unfold MT; omega)]
  exact ⟨rfl, rfl, rfl⟩
theorem Dl.next {t d : Nat} (ht : t < 4294967296) (hd : d < 4294967296) {s : Est} (h : Dl t s) : Dl t (takeE s (t + d) d) := by
  obtain ⟨h1, h2, h3⟩ := h
  unfold takeE
  rw [heldN_of (t + d) (by unfold MT; omega), heldN_of d (by unfold MT; omega)]
  unfold takeH
  rw [if_neg (by rw [h3]; decide), h2, Nat.min_eq_left (by omega), h1]
  have : adjN (t + d) d t = t := by unfold adjN; rw [if_pos (by omega)]; omega
  rw [this]
  exact ⟨by show (7 * t + t) / 8 = t; omega, rfl, rfl⟩

set_option maxRecDepth 100000 in
set_option maxHeartbeats 4000000 in
theorem walk_RttDelay (t0 d0 n0 : Int) (w : World) (ht : (Lit.int .u32 t0).wf = true) (hd : (Lit.int .u32 d0).wf = true) (hn : (Lit.int .u8 n0).wf = true) :
    Calls Try.prog 7 #[.int .u32 t0, .int .u32 d0, .int .u8 n0] w fun e w' => e = .returned (.bool true) ∧ Chg none_ w w' := by
  obtain ⟨t, rfl⟩ := nat_of_wf ht rfl
  obtain ⟨d, rfl⟩ := nat_of_wf hd rfl
  obtain ⟨n, rfl⟩ := nat_of_wf hn rfl
  have hT := u32_of_wf ht
  have hD := u32_of_wf hd
  have hN := u8_of_wf hn
  clear ht hd hn
  have HN1 : Hid (∀ w1, Chg none_ w w1 → Calls Try.prog 17 #[.int .u64 50] w1 fun e w' => ∃ g s, e = .returned (.pointer (some ⟨g, 0, none⟩)) ∧ EO w w' g s ∧ s = newE 50) := Lib.hid (fun w1 hc => (EO.new_any 50 w w1 hc).mono fun _ _ ⟨a, b⟩ => ⟨_, _, a, b, rfl⟩)
  have HT1 : Hid (∀ w1 g s, EO w w1 g s → s = newE 50 → Calls Try.prog 10 #[.pointer (some ⟨g, 0, none⟩), .int .u64 (t : Int), .int .u64 0] w1 fun e w' => e = .returned (.tuple #[]) ∧ ∃ s', EO w w' g s' ∧ Dl t s') := Lib.hid (fun w1 g s h hs => (h.take t 0).mono fun _ _ ⟨a, b⟩ => ⟨a, _, b, by rw [hs]; exact Dl.first t hT 50⟩)
  have HT2 : Hid (∀ w1 g s, EO w w1 g s → Dl t s → Calls Try.prog 10 #[.pointer (some ⟨g, 0, none⟩), .int .u64 ((t : Int) + (d : Int)), .int .u64 (d : Int)] w1 fun e w' => e = .returned (.tuple #[]) ∧ ∃ s', EO w w' g s' ∧ Dl t s') := Lib.hid (fun w1 g s h hs => (h.take (t + d) d).mono fun _ _ ⟨a, b⟩ => ⟨a, _, b, hs.next hT hD⟩)
  have HS : Hid (∀ w1 g s, EO w w1 g s → Dl t s → Calls Try.prog 11 #[.pointer (some ⟨g, 0, none⟩)] w1 fun e w' => e = .returned (.int .u64 (t : Int)) ∧ w' = w1) := Lib.hid (fun w1 g s h hs => by have := rSmooth_any g s w1 h.at_; rwa [hs.1] at this)
  have HL : Hid (∀ w1 g s, EO w w1 g s → Dl t s → Calls Try.prog 13 #[.pointer (some ⟨g, 0, none⟩)] w1 fun e w' => e = .returned (.int .u64 (t : Int)) ∧ w' = w1) := Lib.hid (fun w1 g s h hs => by have := rLeast_any g s w1 h.at_; rwa [hs.2.1] at this)
  go_enter Try.func7, Try.ntmps7
  go_wp2_with (first | (go_at_call 9; refine (alive_any _).mono ?_; rintro e w1 ⟨rfl, hc⟩; have HC := Lib.hid hc; clear hc) | (go_at_call 17; refine (HN1.out _ HC.out).mono ?_; rintro e w9 ⟨g, s, rfl, h1, h2⟩; have HEa := Lib.hid h1; have HSE := Lib.hid h2; clear h1 h2) | (go_at_call 10; refine (HT1.out _ _ _ HEa.out HSE.out).mono ?_; rintro e w8 ⟨rfl, s1, h1, h2⟩; have HEb := Lib.hid h1; have HDb := Lib.hid h2; clear h1 h2))
  go_loopw [8] (fun i wr => ∃ (k : Nat) (s : Est), k ≤ n ∧ i = .int .i64 (k : Int) ∧ Hid (EO w wr g s) ∧ Hid (Dl t s)) (fun i _ => n - (intOf i).toNat)
  case atStart => exact ⟨0, s1, by omega, rfl, HEb, HDb⟩
  case round =>
    obtain ⟨k, s2, hk, rfl, HE, HD⟩ := hrel
    by_cases hlt : (k : Int) < (n : Int)
    · go_wp2_with (go_at_call 10; refine (HT2.out _ _ _ HE.out HD.out).mono ?_; rintro e w8 ⟨rfl, s3, h1, h2⟩; have HE3 := Lib.hid h1; have HD3 := Lib.hid h2; clear h1 h2)
      go_roundw
      case rel => exact ⟨k + 1, s3, by omega, by go_num, HE3, HD3⟩
      case measure => simp [intOf]; omega
    · go_wp2_with (first | (go_at_call 11; refine (HS.out _ _ _ HE.out HD.out).mono ?_; rintro e w6 ⟨rfl, rfl⟩) | (go_at_call 13; refine (HL.out _ _ _ HE.out HD.out).mono ?_; rintro e w6 ⟨rfl, rfl⟩))
      go_ret
      exact ⟨rfl, HE.out.chg⟩
end Go.Proofs.Ytipfpocnapholaa
