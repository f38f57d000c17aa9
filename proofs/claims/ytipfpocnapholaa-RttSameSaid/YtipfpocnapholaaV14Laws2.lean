/- Layer 14 (rtt): the laws of answers that take the same time, and of the probe's time, walked. -/
import Derived.Test.YtipfpocnapholaaV14Laws
namespace Go.Proofs.Ytipfpocnapholaa
open Go.RowKit

/-- How great var may be behind so many answers of the same time. -/
def dcay : Nat → Nat
  | 0 => 549755813888
  | k + 1 => 3 * dcay k / 4
theorem dcay_end : dcay 119 = 0 := by decide +kernel

/-- Behind k + 1 answers of the same time. -/
structure Sm (t k : Nat) (s : Est) : Prop where
  sm : s.sm = t
  le : s.le = t
  an : s.an = true
  vr : s.vr ≤ dcay k
theorem Sm.first (t : Nat) (ht : t ≤ MT) (gu : Nat) : Sm t 0 (takeE (newE gu) t 0) := by
  rw [first_eq, heldN_of t ht]
  refine ⟨rfl, rfl, rfl, ?_⟩
  show t / 2 ≤ 549755813888
  unfold MT at ht; omega
theorem same_next {t : Nat} (ht : t ≤ MT) {s : Est} (h1 : s.sm = t) (h2 : s.le = t) (h3 : s.an = true) : takeE s t 0 = ⟨t, 3 * s.vr / 4, t, t, true⟩ := by
  unfold takeE
  rw [heldN_of t ht, heldN_of 0 (Nat.zero_le _)]
  unfold takeH
  rw [if_neg (by rw [h3]; decide), h2, Nat.min_self, h1]
  have e1 : adjN t 0 t = t := by unfold adjN; split <;> omega
  have e2 : farN t t = 0 := by unfold farN; omega
  rw [e1, e2, show (7 * t + t) / 8 = t by omega, Nat.add_zero]
theorem Sm.next {t k : Nat} (ht : t ≤ MT) {s : Est} (h : Sm t k s) : Sm t (k + 1) (takeE s t 0) := by
  rw [same_next ht h.sm h.le h.an]
  refine ⟨rfl, rfl, rfl, ?_⟩
  show 3 * s.vr / 4 ≤ 3 * dcay k / 4
  have := h.vr
  omega

theorem probe_zero (s : Est) (h : s.Ok) : probeE s 0 0 = s.sm + max (4 * s.vr) 1 := by
  have := probeS_lt s h 0
  unfold probeE boffN
  rw [show (0 : Int).toNat = 0 from rfl, Nat.pow_zero, Nat.mul_one, Nat.min_eq_left (by unfold NV; unfold MT at this; omega)]
  unfold probeS
  rw [heldN_of 0 (Nat.zero_le _), Nat.add_zero]

/-- What is known behind k answers: the estimator, and the last probe's time. -/
def Same1 (t : Nat) : Nat → Est → Nat → Prop
  | 0, s, p => p = 0 ∧ ∃ gu, s = newE gu
  | k + 1, s, p => Sm t k s ∧ p = t + max (4 * s.vr) 1
theorem Same1.next {t k : Nat} {s : Est} {p : Nat} (ht : t ≤ MT) (hok : s.Ok) (h : Same1 t k s p) :
    (takeE s t 0).sm = t ∧ ∃ p', p' = probeE (takeE s t 0) 0 0 ∧ Same1 t (k + 1) (takeE s t 0) p' ∧ (0 < k → p' ≤ p) ∧ p' ≤ 6 * MT := by
  have hok2 := takeE_ok s hok t 0
  have hb := probeS_lt _ hok2 0
  have hz := probe_zero _ hok2
  have hb2 : probeE (takeE s t 0) 0 0 ≤ 6 * MT := by
    rw [hz]; unfold probeS at hb; omega
  cases k with
  | zero =>
    obtain ⟨_, gu, rfl⟩ := h
    have hS := Sm.first t ht gu
    exact ⟨hS.sm, _, rfl, ⟨hS, by rw [hz, hS.sm]⟩, fun h => absurd h (by omega), hb2⟩
  | succ k =>
    obtain ⟨h, hp⟩ := h
    have hS := h.next ht
    refine ⟨hS.sm, _, rfl, ⟨hS, by rw [hz, hS.sm]⟩, fun _ => ?_, hb2⟩
    rw [hz, hS.sm, hp, same_next ht h.sm h.le h.an]
    show t + max (4 * (3 * s.vr / 4)) 1 ≤ t + max (4 * s.vr) 1
    omega
theorem Same1.end_ {t : Nat} {s : Est} {p : Nat} (h : Same1 t 120 s p) : p ≤ t + 12 := by
  obtain ⟨h, hp⟩ := h
  have := h.vr
  rw [dcay_end] at this
  omega

set_option maxRecDepth 100000 in
set_option maxHeartbeats 4000000 in
theorem walk_RttSame (g0 t0 : Int) (w : World) (hg : (Lit.int .u64 g0).wf = true) (ht : (Lit.int .u64 t0).wf = true) :
    Calls Try.prog 5 #[.int .u64 g0, .int .u64 t0] w fun e w' => e = .returned (.bool true) ∧ Chg none_ w w' := by
  obtain ⟨gu, rfl⟩ := nat_of_wf hg rfl
  obtain ⟨t, rfl⟩ := nat_of_wf ht rfl
  clear hg ht
  by_cases hm : (1099511627776 : Int) < (t : Int)
  · go_enter Try.func5, Try.ntmps5
    go_wp2_with (go_at_call 9; refine (alive_any _).mono ?_; rintro e w1 ⟨rfl, hc⟩; have HC := Lib.hid hc; clear hc)
    go_ret
    exact ⟨rfl, HC.out⟩
  have hT : t ≤ MT := by unfold MT; omega
  have HN1 : Hid (∀ w1, Chg none_ w w1 → Calls Try.prog 17 #[.int .u64 (gu : Int)] w1 fun e w' => ∃ g, e = .returned (.pointer (some ⟨g, 0, none⟩)) ∧ EO w w' g (newE gu)) := Lib.hid (fun w1 hc => (EO.new_any gu w w1 hc).mono fun _ _ ⟨a, b⟩ => ⟨_, a, b⟩)
  have HT : Hid (∀ w1 g s, EO w w1 g s → Calls Try.prog 10 #[.pointer (some ⟨g, 0, none⟩), .int .u64 (t : Int), .int .u64 0] w1 fun e w' => e = .returned (.tuple #[]) ∧ EO w w' g (takeE s t 0)) := Lib.hid (fun w1 g s h => h.take t 0)
  have HP : Hid (∀ w1 g s p, EO w w1 g s → p = probeE s 0 0 → Calls Try.prog 15 #[.pointer (some ⟨g, 0, none⟩), .int .u64 0, .int .i64 0] w1 fun e w' => e = .returned (.int .u64 (p : Int)) ∧ EO w w' g s) := Lib.hid (fun w1 g s p h hp => by rw [hp]; exact h.probe 0 0)
  have HS : Hid (∀ w1 g s, EO w w1 g s → s.sm = t → Calls Try.prog 11 #[.pointer (some ⟨g, 0, none⟩)] w1 fun e w' => e = .returned (.int .u64 (t : Int)) ∧ w' = w1) := Lib.hid (fun w1 g s h hs => by have := rSmooth_any g s w1 h.at_; rwa [hs] at this)
  go_enter Try.func5, Try.ntmps5
  go_wp2_with (first | (go_at_call 9; refine (alive_any _).mono ?_; rintro e w1 ⟨rfl, hc⟩; have HC := Lib.hid hc; clear hc) | (go_at_call 17; refine (HN1.out _ HC.out).mono ?_; rintro e w9 ⟨g, rfl, h1⟩; have HEa := Lib.hid h1; clear h1))
  go_loopw [6, 7] (fun l i wr => ∃ (k : Nat) (s : Est) (p : Nat), k ≤ 120 ∧ p ≤ 6 * MT ∧ i = .int .i64 (k : Int) ∧ l = .int .u64 (p : Int) ∧ Hid (EO w wr g s) ∧ Hid (Same1 t k s p)) (fun _ i _ => 120 - (intOf i).toNat)
  case atStart => exact ⟨0, newE gu, 0, by omega, Nat.zero_le _, rfl, rfl, HEa, Lib.hid ⟨rfl, gu, rfl⟩⟩
  case round =>
    obtain ⟨k, s, p, hk, hp, rfl, rfl, HE, HSM⟩ := hrel
    by_cases hlt : (k : Int) < 120
    · obtain ⟨n1, p', n2, n3, n4, n5⟩ := HSM.out.next hT HE.out.ok
      have H1 := Lib.hid n1
      have H2 := Lib.hid n2
      have H3 := Lib.hid n3
      clear n1 n2 n3
      unfold MT at hp n5
      by_cases hk0 : k = 0
      · subst hk0
        clear n4
        go_wp2_with (first | (go_at_call 10; refine (HT.out _ _ _ HE.out).mono ?_; rintro e w8 ⟨rfl, h1⟩; have HE3 := Lib.hid h1; clear h1) | (go_at_call 15; refine (HP.out _ _ _ p' HE3.out H2.out).mono ?_; rintro e w7 ⟨rfl, h1⟩; have HE4 := Lib.hid h1; clear h1) | (go_at_call 11; refine (HS.out _ _ _ HE4.out H1.out).mono ?_; rintro e w6 ⟨rfl, rfl⟩))
        go_roundw
        case rel => exact ⟨1, _, p', by omega, by unfold MT; omega, by go_num, rfl, HE4, H3⟩
        case measure => simp [intOf]
      · have hk1 : 0 < (k : Int) := by omega
        have hpp : ¬ (p : Int) < (p' : Int) := by have := n4 (by omega); omega
        clear n4 hk0
        go_wp2_with (first | (go_at_call 10; refine (HT.out _ _ _ HE.out).mono ?_; rintro e w8 ⟨rfl, h1⟩; have HE3 := Lib.hid h1; clear h1) | (go_at_call 15; refine (HP.out _ _ _ p' HE3.out H2.out).mono ?_; rintro e w7 ⟨rfl, h1⟩; have HE4 := Lib.hid h1; clear h1) | (go_at_call 11; refine (HS.out _ _ _ HE4.out H1.out).mono ?_; rintro e w6 ⟨rfl, rfl⟩))
        go_roundw
        case rel => exact ⟨k + 1, _, p', by omega, by unfold MT; omega, by go_num, rfl, HE4, H3⟩
        case measure => simp [intOf]; omega
    · have hke : k = 120 := by omega
      subst hke
      have hle : (p : Int) ≤ (t : Int) + 12 := by have := HSM.out.end_; omega
      have hTB : t ≤ 1099511627776 := hT
      go_wp2
      go_ret
      exact ⟨rfl, HE.out.chg⟩
end Go.Proofs.Ytipfpocnapholaa
