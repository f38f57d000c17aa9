/- Layer 12 (timers): the law of the next time, walked. -/
import Derived.Test.YtblpgpolhibfgaaV12Quiet
namespace Go.Proofs.Ytblpgpolhibfgaa
open Go.RowKit

set_option maxRecDepth 100000 in
set_option maxHeartbeats 4000000 in
theorem walk_TimersNext (l : List Tm) (A : Option Addr) (cap : Nat) (k0 : Int) (w : World) (_hb : l.length ≤ cap ∧ cap ≤ maxLen) (hv : View w (fun _ => True) A (l.length * 3) (tcells l)) (ho : ∀ t ∈ l, TOk t) (hk : (Lit.int .u8 k0).wf = true) :
    Calls Try.prog 7 #[.slice A l.length cap, .int .u8 k0] w fun e w' => e = .returned (.bool true) ∧ Chg none_ w w' := by
  obtain ⟨kk, rfl⟩ : ∃ n : Nat, k0 = (n : Int) := ⟨k0.toNat, by
    have h2 : (decide (0 ≤ k0) && decide (k0 ≤ 255)) = true := hk
    simp only [Bool.and_eq_true, decide_eq_true_eq] at h2
    omega⟩
  have hkk : kk < 256 := by
    have h2 : (decide (0 ≤ (kk : Int)) && decide ((kk : Int) ≤ 255)) = true := hk
    simp only [Bool.and_eq_true, decide_eq_true_eq] at h2
    omega
  clear hk
  by_cases hbig : 100 < l.length
  · have h1 : (100 : Int) < (l.length : Int) := by omega
    clear hv
    go_enter Try.func7, Try.ntmps7
    go_wp2_with (go_at_call 9; refine (alive_any _).mono ?_; rintro e w1 ⟨rfl, hc⟩; have HC := Lib.hid hc; clear hc)
    go_ret
    exact ⟨rfl, HC.out⟩
  have h1 : ¬ (100 : Int) < (l.length : Int) := by omega
  have HV := Lib.hid (fun w' (hc : Chg none_ w w') => hv.chg hc (fun _ _ h => h))
  have HO := Lib.hid (fun k (hk : k < l.length) => ho _ (tm_mem hk))
  clear hv ho
  go_enter Try.func7, Try.ntmps7
  go_wp2_with (first | (go_at_call 9; refine (alive_any _).mono ?_; rintro e w1 ⟨rfl, hc⟩; have HC1 := Lib.hid hc; clear hc) | (go_at_call 18; refine (New_own w1).mono ?_; rintro e w2 ⟨rfl, hqo, hc⟩; have HQ2 := Lib.hid hqo; have HC2 := Lib.hid (HC1.out.trans hc); clear hqo hc))
  have H0 := Lib.hid HC1.out.size
  clear HC1
  generalize w1.heap.size = q at *
  go_loopw [6] (fun i wr => ∃ (k : Nat) (S : List Tm), i = .int .i64 (k : Int) ∧ k ≤ l.length ∧ QO wr q q S ∧ S.length ≤ k ∧ Chg none_ w wr) (fun i _ => l.length - (intOf i).toNat)
  case atStart => exact ⟨0, [], rfl, Nat.zero_le _, HQ2.out, Nat.le_refl _, HC2.out⟩
  case round =>
    obtain ⟨k, S, rfl, hk, hq, hS, hc⟩ := hrel
    have HQ := Lib.hid hq
    have HC := Lib.hid hc
    by_cases hlt : k < l.length
    · have k1 : (k : Int) < (l.length : Int) := by omega
      obtain ⟨b, o, rfl, hbl, _, hr⟩ := (HV.out wr hc).tmAt hlt
      have HR := Lib.hid (hr k hlt)
      have HT := Lib.hid (HO.out k hlt)
      have HSL := Lib.hid (setS_len (tm l k) S)
      clear hq hc hr
      go_wp2_with (first | ((with_reducible show wpList _ _ _ (⟨some 25, .load _ _, _, _, _, _⟩ :: _) _ _); refine wpList_load_Mid (cs := tcell (tm l k)) rfl rfl rfl HR.out Try.underlying27 rfl sizeTm ?_) | (go_at_call 11; refine (Set_own q q S (tm l k) HT.out w wr H0.out HQ.out.base HC.out HQ.out).mono ?_; rintro e w3 ⟨rfl, hqo, hc⟩; have HQ3 := Lib.hid hqo; have HC3 := Lib.hid hc; clear hqo hc))
      go_roundw
      case rel => exact ⟨k + 1, _, by go_num, by omega, HQ3.out, by have := HSL.out; omega, HC3.out⟩
      case measure => simp [intOf]; omega
    · have hke : k = l.length := by omega
      subst hke
      clear hq hc hlt hk
      go_wp2
      go_loopw [7] (fun i wr => ∃ (k : Nat) (S : List Tm), i = .int .i64 (k : Int) ∧ k ≤ l.length + 4 ∧ QO wr q q S ∧ Chg none_ w wr) (fun i _ => l.length + 5 - (intOf i).toNat)
      case atStart => exact ⟨0, S, rfl, Nat.zero_le _, HQ.out, HC.out⟩
      case round =>
        clear HQ HC hS
        clear S
        obtain ⟨k, S, rfl, hk, hq, hc⟩ := hrel
        have HQ := Lib.hid hq
        have HC := Lib.hid hc
        by_cases hlt : k < l.length
        · have k1 : (k : Int) < (l.length : Int) := by omega
          have k0 : 0 ≤ (k : Int) := by omega
          obtain ⟨b, o, rfl, hbl, _, hr⟩ := (HV.out wr hc).tmAt hlt
          have a1 := hr k hlt 1 _ rfl
          have a2 := hr k hlt 2 _ rfl
          have HT := Lib.hid (HO.out k hlt).k
          have HVR := Lib.hid (fun w' (hc' : Chg none_ w w') => (HV.out w' hc').tmAt hlt)
          have HCA := Lib.hid (fun w1 (hc : Chg none_ w w1) (h : QO w1 q q S) => Cancel_own q q S (tm l k).key HT.out w w1 H0.out hc h)
          clear hq hc hr
          go_wp2
          refine wp_region_still_tail 11 (by kernel_rfl) (by kernel_rfl) ?_
          simp only [List.take_succ_cons, List.take_zero, List.drop_succ_cons, List.drop_zero]
          iterate 11 still_step
          refine wpStill_nil ?_
          change wpList _ _ _ _ _ (World.drew _)
          clear a1 a2
          go_wp2_with (go_at_call 12; refine (HCA.out _ HC.out.drew HQ.out.drew).mono ?_; rintro e w3 ⟨rfl, hqo, hc⟩; have HQ3 := Lib.hid hqo; have HC3 := Lib.hid hc; clear hqo hc)
          obtain ⟨b', o', hbo, _, _, hr3⟩ := HVR.out _ HC3.out
          injection hbo with hbo
          injection hbo with hb1 ho1
          subst hb1 ho1
          have a1 := hr3 k hlt 1 _ rfl
          have a2 := hr3 k hlt 2 _ rfl
          clear hr3
          obtain ⟨mp, hq3, hB3⟩ := HQ3.out
          have HQI := Lib.hid hq3
          have HAT : Hid (∀ m, Calls Try.prog 17 #[.pointer (some ⟨q, 0, none⟩), .int .i64 (tm l k).conn, .int .i64 (tm l k).kind] (w3.drewN m) fun e w' => e = .returned (.int .u64 18446744073709551615) ∧ w' = w3.drewN m) := Lib.hid (fun m => by
            have := At_q q mp (remS (tm l k).key S) (tm l k).key HT.out (w3.drewN m) (HQI.out.quiet ((Chg.refl _ _).drewN m))
            rwa [show atS (tm l k).key (remS (tm l k).key S) = NV by unfold atS; rw [find_none (fun x hx => (mem_remS.1 hx).2)]] at this)
          go_quiet ((go_at_call 17; exact Calls.quiet_of_same (HAT.out _)))
          clear a1 a2
          obtain ⟨r4, hr4⟩ : ∃ r, r = kk % 4 := ⟨_, rfl⟩
          have e4 : (kk : Int) % 4 = (r4 : Int) := by omega
          have hr4b : r4 < 4 := by omega
          clear hr4 HAT
          generalize remS (tm l k).key S = R at *
          have HLI := Lib.hid (List_any q mp R (w3.drewN nq) (HQI.out.quiet ((Chg.refl _ _).drewN nq)))
          rcases R with _ | ⟨t, R⟩
          · go_wp2_with (go_at_call 15; refine HLI.out.mono ?_; rintro e w5 ⟨v5, rfl, ho5, hc5⟩; obtain ⟨A5, cap5, rfl, _⟩ := ho5.view; have HC5 := Lib.hid ((HC3.out.drewN nq).trans hc5); have HQ5 := Lib.hid ((HQI.out.quiet ((Chg.refl _ _).drewN nq)).quiet hc5); clear ho5 hc5)
            have HLQ : Hid (∀ m, Calls Try.prog 14 #[.pointer (some ⟨q, 0, none⟩)] (w5.drewN m) fun e w' => e = .returned (.int .i64 0) ∧ ∃ m', w' = (w5.drewN m).drewN m') := Lib.hid (fun m => Len_q q mp [] _ (HQ5.out.quiet ((Chg.refl _ _).drewN m)))
            have HNQ : Hid (∀ m, Calls Try.prog 16 #[.pointer (some ⟨q, 0, none⟩)] (w5.drewN m) fun e w' => e = .returned (.int .u64 18446744073709551615) ∧ ∃ m', w' = (w5.drewN m).drewN m') := Lib.hid (fun m => Next_q q mp [] _ (HQ5.out.quiet ((Chg.refl _ _).drewN m)))
            show Code.wp _ _ _ _ _
            go_quiet ((first | (go_at_call 14; exact Calls.quiet_of (HLQ.out _)) | (go_at_call 16; exact Calls.quiet_of (HNQ.out _))))
            go_wp2
            go_roundw
            case rel => exact ⟨k + 1 + r4, [], by go_num, by omega, ⟨mp, HQ5.out.quiet ((Chg.refl _ _).drewN _), hB3⟩, HC5.out.drewN _⟩
            case measure => simp [intOf]; omega
          · obtain ⟨n, hn⟩ : ∃ n, n = (t :: R).length := ⟨_, rfl⟩
            have n1 : ((n : Int) == 0) = false := by rw [beq_eq_false_iff_ne, hn, List.length_cons]; omega
            have n2 : (0 : Int) < (n : Int) := by rw [hn, List.length_cons]; omega
            have n3 : 0 < n := by rw [hn, List.length_cons]; omega
            have HNN := Lib.hid hn
            clear hn
            have HLI2 : Hid (Calls Try.prog 15 #[.pointer (some ⟨q, 0, none⟩)] (w3.drewN nq) fun e w' => ∃ b o cap, e = .returned (.slice (some ⟨b, o, none⟩) n cap) ∧ w'.cell? ⟨b, o, none⟩ = some (.int .u64 (t.at_ : Int)) ∧ Chg none_ (w3.drewN nq) w') := Lib.hid (HLI.out.mono (fun e w5 ⟨v5, he, ho5, hc5⟩ => by
              obtain ⟨A5, cap5, hv, _, _, hv5⟩ := ho5.view
              obtain ⟨b5, o5, hA, _, _, hr5⟩ := hv5.tmAt (k := 0) (by simp)
              have x0 := hr5 0 (by simp) 0 _ rfl
              simp only [Nat.zero_mul, Nat.add_zero] at x0
              exact ⟨b5, o5, cap5, by rw [he, hv, hA, HNN.out], x0, hc5⟩))
            clear HLI
            go_wp2_with (go_at_call 15; refine HLI2.out.mono ?_; rintro e w5 ⟨b5, o5, cap5, rfl, x1, hc5⟩; have HC5 := Lib.hid ((HC3.out.drewN nq).trans hc5); have HQ5 := Lib.hid ((HQI.out.quiet ((Chg.refl _ _).drewN nq)).quiet hc5); clear hc5)
            have HLQ : Hid (∀ m, Calls Try.prog 14 #[.pointer (some ⟨q, 0, none⟩)] (w5.drewN m) fun e w' => e = .returned (.int .i64 (n : Int)) ∧ ∃ m', w' = (w5.drewN m).drewN m') := Lib.hid (fun m => by rw [HNN.out]; exact Len_q q mp _ _ (HQ5.out.quiet ((Chg.refl _ _).drewN m)))
            have HNQ : Hid (∀ m, Calls Try.prog 16 #[.pointer (some ⟨q, 0, none⟩)] (w5.drewN m) fun e w' => e = .returned (.int .u64 (t.at_ : Int)) ∧ ∃ m', w' = (w5.drewN m).drewN m') := Lib.hid (fun m => Next_q q mp _ _ (HQ5.out.quiet ((Chg.refl _ _).drewN m)))
            show Code.wp _ _ _ _ _
            go_quiet ((first | (go_at_call 14; exact Calls.quiet_of (HLQ.out _)) | (go_at_call 16; exact Calls.quiet_of (HNQ.out _))))
            go_wp2
            go_roundw
            case rel => exact ⟨k + 1 + r4, t :: R, by go_num, by omega, ⟨mp, HQ5.out.quiet ((Chg.refl _ _).drewN _), hB3⟩, HC5.out.drewN _⟩
            case measure => simp [intOf]; omega
        · have n1 : ¬ ((k : Int) < (l.length : Int)) := by omega
          clear hq hc
          go_wp2
          go_ret
          exact ⟨rfl, HC.out⟩
end Go.Proofs.Ytblpgpolhibfgaa
