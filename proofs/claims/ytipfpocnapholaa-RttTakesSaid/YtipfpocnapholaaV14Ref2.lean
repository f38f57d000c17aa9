/- Layer 14 (rtt): the document's probe's time, and how long a packet may be overtaken. -/
import Derived.Test.YtipfpocnapholaaV14Ref
namespace Go.Proofs.Ytipfpocnapholaa
open Go.RowKit

theorem st_field (e : Est) : (st e)[0]? = some (.int .u64 (e.sm : Nat)) ∧ (st e)[1]? = some (.int .u64 (e.vr : Nat)) ∧ (st e)[2]? = some (.int .u64 (e.le : Nat)) ∧ (st e)[3]? = some (.int .u64 (e.la : Nat)) := ⟨rfl, rfl, rfl, rfl⟩

set_option maxRecDepth 100000 in
set_option maxHeartbeats 4000000 in
theorem rProbe_ref (s : Est) (d0 : Nat) (c : Int) (hc : c < 9223372036854775808) (hok : s.Ok) (w : World) :
    Calls Try.prog 19 #[.agg (st s).toArray, .int .u64 (d0 : Int), .int .i64 c] w fun e w' => e = .returned (.int .u64 (probeE s d0 c : Nat)) ∧ Chg none_ w w' := by
  have hps := probeS_lt s hok d0
  have HBK := Lib.hid (fun w => rback_any (probeS s d0) c (by unfold MT at hps; omega) hc w)
  have HD := Lib.hid (fun w => held_ref14 d0 w)
  unfold probeE
  generalize boffN (probeS s d0) c = r at *
  have hb := heldN_le d0
  obtain ⟨o1, o2, _, _⟩ := hok
  obtain ⟨m, hm⟩ : ∃ m : Nat, m = max (4 * s.vr) 1 := ⟨_, rfl⟩
  have hs : probeS s d0 = s.sm + m + heldN d0 := by rw [hm]; rfl
  rw [hs] at HBK
  unfold MT at *
  generalize heldN d0 = d at *
  unfold st
  generalize hss : s.sm = sm at *
  generalize hsv : s.vr = vr at *
  generalize hsl : s.le = le at *
  generalize hsa : s.la = la at *
  have hs2 : sm + m + d < 18446744073709551616 := by omega
  clear hps hs hb
  by_cases hv : vr = 0
  · have hm2 : m = 1 := by omega
    subst hm2
    subst hv
    clear hm
    go_enter Try.func19, Try.ntmps19
    go_wp2
    go_quiet ((first | (go_at_call 25; exact Calls.quiet_of_same (HD.out _)) | (go_at_call 26; exact Calls.quiet_of_same (HBK.out _))))
    go_wp2
    go_ret
    exact ⟨rfl, ((Chg.refl none_ w).alloc _).drewN _⟩
  · have hm2 : m = 4 * vr := by omega
    have hv2 : ((vr : Int) == 0) = false := by rw [beq_eq_false_iff_ne]; omega
    have hv3 : (4 * (vr : Int) == 0) = false := by rw [beq_eq_false_iff_ne]; omega
    have hm3 : 4 * (vr : Int) = (m : Int) := by omega
    have hm4 : ((m : Int) == 0) = false := by rw [beq_eq_false_iff_ne]; omega
    clear hm hm2 hv
    go_enter Try.func19, Try.ntmps19
    go_wp2
    go_quiet ((first | (go_at_call 25; exact Calls.quiet_of_same (HD.out _)) | (go_at_call 26; exact Calls.quiet_of_same (HBK.out _))))
    go_wp2
    go_ret
    exact ⟨rfl, ((Chg.refl none_ w).alloc _).drewN _⟩

set_option maxRecDepth 100000 in
set_option maxHeartbeats 4000000 in
theorem rLoss_ref (s : Est) (hok : s.Ok) (w : World) :
    Calls Try.prog 20 #[.agg (st s).toArray] w fun e w' => e = .returned (.int .u64 (lossE s : Nat)) ∧ Chg none_ w w' := by
  obtain ⟨o1, _, _, o4⟩ := hok
  unfold lossE
  unfold MT at *
  unfold st
  generalize hss : s.sm = sm at *
  generalize hsv : s.vr = vr at *
  generalize hsl : s.le = le at *
  generalize hsa : s.la = la at *
  obtain ⟨m, hm⟩ : ∃ m : Nat, m = max sm la := ⟨_, rfl⟩
  obtain ⟨q, hq⟩ : ∃ q : Nat, q = 9 * m / 8 := ⟨_, rfl⟩
  rw [← hm, ← hq]
  have hm2 : m ≤ 1099511627776 := by omega
  obtain ⟨p, hp⟩ : ∃ p : Nat, p = 9 * m := ⟨_, rfl⟩
  have hp2 : 9 * (m : Int) = (p : Int) := by omega
  have hq2 : (p : Int) / 8 = (q : Int) := by omega
  have hq3 : q < 18446744073709551616 := by omega
  have hq4 : p < 18446744073709551616 := by omega
  clear hp
  clear hq
  have HM := Lib.hid hm
  clear hm
  by_cases hg : (sm : Int) < (la : Int)
  · have hm3 : la = m := by rw [HM.out]; omega
    subst hm3
    clear HM
    by_cases h0 : q = 0
    · have h1 : ((q : Int) == 0) = true := by rw [beq_iff_eq]; omega
      have h2 : max q 1 = 1 := by omega
      rw [h2]
      clear h0 h2
      go_enter Try.func20, Try.ntmps20
      go_wp2
      go_ret
      exact ⟨rfl, (Chg.refl none_ w).alloc _⟩
    · have h1 : ((q : Int) == 0) = false := by rw [beq_eq_false_iff_ne]; omega
      have h2 : max q 1 = q := by omega
      rw [h2]
      clear h0 h2
      go_enter Try.func20, Try.ntmps20
      go_wp2
      go_ret
      exact ⟨rfl, (Chg.refl none_ w).alloc _⟩
  · have hm3 : sm = m := by rw [HM.out]; omega
    subst hm3
    clear HM
    by_cases h0 : q = 0
    · have h1 : ((q : Int) == 0) = true := by rw [beq_iff_eq]; omega
      have h2 : max q 1 = 1 := by omega
      rw [h2]
      clear h0 h2
      go_enter Try.func20, Try.ntmps20
      go_wp2
      go_ret
      exact ⟨rfl, (Chg.refl none_ w).alloc _⟩
    · have h1 : ((q : Int) == 0) = false := by rw [beq_eq_false_iff_ne]; omega
      have h2 : max q 1 = q := by omega
      rw [h2]
      clear h0 h2
      go_enter Try.func20, Try.ntmps20
      go_wp2
      go_ret
      exact ⟨rfl, (Chg.refl none_ w).alloc _⟩
end Go.Proofs.Ytipfpocnapholaa
