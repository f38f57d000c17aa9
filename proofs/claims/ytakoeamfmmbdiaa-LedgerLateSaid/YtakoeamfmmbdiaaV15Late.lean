/- Layer 15 (ledger): the law LedgerLate. -/
import Derived.Test.YtakoeamfmmbdiaaV15Alive
namespace Go.Proofs.Ytakoeamfmmbdiaa
open Go.RowKit

/-- The law's packet, and so many of them. -/
def pt (t : Nat) : It := ⟨0, t, 0, true, none, 0, []⟩
def TS (t n : Nat) : List Sn := (List.range n).map fun (i : Nat) => ⟨(i : Int), t, 0, true, []⟩
theorem TS_succ (t n : Nat) : TS t (n + 1) = TS t n ++ [{ (pt t).pl with num := (n : Int) }] := by
  unfold TS
  rw [List.range_succ, List.map_append]
  rfl
theorem TS_len (t n : Nat) : (TS t n).length = n := by simp [TS]
theorem pt_D (t : Nat) (ht : t < 4294967296) (w : World) : ItD w (fun _ => False) (pt t) := ⟨View.none_ _ _ _, fun y hy => (nomatch hy), by show 0 ≤ 1000; decide, by show t < 18446744073709551616; omega⟩
/-- Two packets, or three. -/
theorem TS2 (t : Nat) : TS t 2 = [⟨0, t, 0, true, []⟩, ⟨1, t, 0, true, []⟩] := rfl
theorem TS3 (t : Nat) : TS t 3 = [⟨0, t, 0, true, []⟩, ⟨1, t, 0, true, []⟩, ⟨2, t, 0, true, []⟩] := rfl
theorem t_ack (t k : Nat) (hk : k = 2 ∨ k = 3) : badS [(k - 1, k - 1)] k = false ∧ (TS t k).filter (inS [(k - 1, k - 1)]) = [⟨((k - 1 : Nat) : Int), t, 0, true, []⟩] ∧ (TS t k).filter (fun s => !inS [(k - 1, k - 1)] s) = TS t (k - 1) ∧ maxS 0 ((TS t k).filter (inS [(k - 1, k - 1)])) = k := by
  rcases hk with rfl | rfl
  · exact ⟨by decide, rfl, rfl, rfl⟩
  · exact ⟨by decide, rfl, rfl, rfl⟩
theorem t_lost (t k d now : Nat) (hk : k = 2 ∨ k = 3) (ht : t < 4294967296) (hd : d < 4294967296) (q : Bool) (hq : decide (t + d ≤ now) = q) : ∀ s ∈ TS t (k - 1), lostS k d now s = q := by
  have ha : addN t d = t + d := by unfold addN NV; omega
  rcases hk with rfl | rfl
  · intro s hs
    rw [show TS t (2 - 1) = [⟨0, t, 0, true, []⟩] from rfl] at hs
    obtain rfl : s = ⟨0, t, 0, true, []⟩ := by simpa using hs
    show lostB 0 t (((2 : Nat) : Int) - 1) d now = q
    unfold lostB
    rw [ha, hq]
    cases q <;> decide
  · intro s hs
    rw [show TS t (3 - 1) = [⟨0, t, 0, true, []⟩, ⟨1, t, 0, true, []⟩] from rfl] at hs
    have h2 : s = ⟨0, t, 0, true, []⟩ ∨ s = ⟨1, t, 0, true, []⟩ := by simpa using hs
    rcases h2 with rfl | rfl
    · show lostB 0 t (((3 : Nat) : Int) - 1) d now = q
      unfold lostB
      rw [ha, hq]
      cases q <;> decide
    · show lostB 1 t (((3 : Nat) : Int) - 1) d now = q
      unfold lostB
      rw [ha, hq]
      cases q <;> decide
theorem t_due (t k d : Nat) (hk : k = 2 ∨ k = 3) (ht : t < 4294967296) (hd : d < 4294967296) : dueP k d (TS t (k - 1)) = t + d := by
  have ha : addN t d = t + d := by unfold addN NV; omega
  rcases hk with rfl | rfl
  · unfold dueP
    rw [show TS t (2 - 1) = [⟨0, t, 0, true, []⟩] from rfl]
    simp only [List.foldl_cons, List.foldl_nil, ha]
    rw [if_pos (by decide)]
    omega
  · unfold dueP
    rw [show TS t (3 - 1) = [⟨0, t, 0, true, []⟩, ⟨1, t, 0, true, []⟩] from rfl]
    simp only [List.foldl_cons, List.foldl_nil, ha]
    rw [if_pos (by decide), if_pos (by decide)]
    omega
section
variable {w : World} {B g : Nat}
theorem tSend (t n : Nat) (ht : t < 4294967296) (h : LedP w B g (TS t n) n 0) (hn : n < 64) :
    Calls Try.prog 9 #[.pointer (some ⟨g, 0, none⟩), .agg (itc (pt t)).toArray] w fun e w' => e = .returned (.tuple #[.int .i64 (n : Int), .int .i64 0]) ∧ LedP w' B g (TS t (n + 1)) (n + 1) 0 ∧ Chg (Tn B g) w w' := by
  rw [TS_succ]
  exact pSend h (pt_D t ht w) (by show (0 : Int) ≤ 0; decide) (by show (0 : Int) ≤ 1200; decide) (by rw [TS_len]; exact hn) (by omega)
theorem tAck (t k : Nat) (hk : k = 2 ∨ k = 3) {T0 : Nat → Prop} {A : Option Addr} (h : LedP w B g (TS t k) k 0) (hv : View w T0 A (1 * 2) (([(k - 1, k - 1)] : List (Nat × Nat)).flatMap rgc)) :
    Calls Try.prog 10 #[.pointer (some ⟨g, 0, none⟩), .slice A 1 1] w fun e w' => ∃ AG cg, e = .returned (.tuple #[.slice AG 1 cg, .int .i64 0]) ∧ LedP w' B g (TS t (k - 1)) k k ∧ Chg (Tn B g) w w' := by
  obtain ⟨q1, q2, q3, q4⟩ := t_ack t k hk
  refine (pAck (r := [(k - 1, k - 1)]) (c := 1) h hv (by show 1 ≤ 1000000; decide) q1).mono ?_
  rintro e w' ⟨AG, cg, G, rfl, h1, h2, h3, h4⟩
  rw [q4, q3] at h3
  exact ⟨AG, cg, by rw [q2]; rfl, h3, h4⟩
theorem tDue (t k d : Nat) (hk : k = 2 ∨ k = 3) (ht : t < 4294967296) (hd : d < 4294967296) (h : LedP w B g (TS t (k - 1)) k k) : Calls Try.prog 15 #[.pointer (some ⟨g, 0, none⟩), .int .u64 (d : Int)] w fun e w' => e = .returned (.int .u64 ((t + d : Nat) : Int)) ∧ Chg none_ w w' := by
  have := pDue d h
  rwa [t_due t k d hk ht hd] at this
/-- Ahead of the time none is lost, at it all are. -/
theorem tLost (t k d now : Nat) (hk : k = 2 ∨ k = 3) (ht : t < 4294967296) (hd : d < 4294967296) (q : Bool) (hq : decide (t + d ≤ now) = q) (h : LedP w B g (TS t (k - 1)) k k) :
    Calls Try.prog 12 #[.pointer (some ⟨g, 0, none⟩), .int .u64 (now : Int), .int .u64 (d : Int)] w fun e w' => ∃ AG cg, e = .returned (.slice AG (if q then k - 1 else 0) cg) ∧ LedP w' B g (if q then [] else TS t (k - 1)) k k ∧ Chg (Tn B g) w w' := by
  have hl := t_lost t k d now hk ht hd q hq
  refine (pLost now d h).mono ?_
  rintro e w' ⟨AG, cg, G, rfl, h1, h2, h3, h4⟩
  cases q with
  | true =>
    have e1 : (TS t (k - 1)).filter (lostS k d now) = TS t (k - 1) := List.filter_eq_self.2 hl
    have e2 : (TS t (k - 1)).filter (fun s => !lostS k d now s) = [] := List.filter_eq_nil_iff.2 (fun s hs => by simp [hl s hs])
    rw [e2] at h3
    exact ⟨AG, cg, by rw [e1, TS_len, if_pos rfl], h3, h4⟩
  | false =>
    have e1 : (TS t (k - 1)).filter (lostS k d now) = [] := List.filter_eq_nil_iff.2 (fun s hs => by simp [hl s hs])
    have e2 : (TS t (k - 1)).filter (fun s => !lostS k d now s) = TS t (k - 1) := List.filter_eq_self.2 (fun s hs => by simp [hl s hs])
    rw [e2] at h3
    exact ⟨AG, cg, by rw [e1]; rfl, h3, h4⟩
theorem tLost0 (k d now : Nat) (h : LedP w B g [] k k) : Calls Try.prog 12 #[.pointer (some ⟨g, 0, none⟩), .int .u64 (now : Int), .int .u64 (d : Int)] w fun e w' => ∃ AG cg, e = .returned (.slice AG 0 cg) ∧ LedP w' B g [] k k ∧ Chg (Tn B g) w w' := by
  refine (pLost now d h).mono ?_
  rintro e w' ⟨AG, cg, G, rfl, h1, h2, h3, h4⟩
  exact ⟨AG, cg, rfl, h3, h4⟩
theorem tDue0 (k : Nat) (h : LedP w B g [] k k) : Calls Try.prog 15 #[.pointer (some ⟨g, 0, none⟩), .int .u64 0] w fun e w' => e = .returned (.int .u64 18446744073709551615) ∧ Chg none_ w w' := pDue 0 h
theorem tLostAll (t k d now kk : Nat) (hk : k = 2 ∨ k = 3) (hkk : kk = k - 1) (ht : t < 4294967296) (hd : d < 4294967296) (hq : t + d ≤ now) (h : LedP w B g (TS t (k - 1)) k k) :
    Calls Try.prog 12 #[.pointer (some ⟨g, 0, none⟩), .int .u64 (now : Int), .int .u64 (d : Int)] w fun e w' => ∃ AG cg, e = .returned (.slice AG kk cg) ∧ LedP w' B g [] k k ∧ Chg (Tn B g) w w' := by
  rw [hkk]
  exact tLost t k d now hk ht hd true (decide_eq_true hq) h
theorem tLostNone (t k d now : Nat) (hk : k = 2 ∨ k = 3) (ht : t < 4294967296) (hd : d < 4294967296) (hq : now < t + d) (h : LedP w B g (TS t (k - 1)) k k) :
    Calls Try.prog 12 #[.pointer (some ⟨g, 0, none⟩), .int .u64 (now : Int), .int .u64 (d : Int)] w fun e w' => ∃ AG cg, e = .returned (.slice AG 0 cg) ∧ LedP w' B g (TS t (k - 1)) k k ∧ Chg (Tn B g) w w' :=
  tLost t k d now hk ht hd false (decide_eq_false (by omega)) h
theorem tLostMax (t k d kk : Nat) (hk : k = 2 ∨ k = 3) (hkk : kk = k - 1) (ht : t < 4294967296) (hd : d < 4294967296) (h : LedP w B g (TS t (k - 1)) k k) :
    Calls Try.prog 12 #[.pointer (some ⟨g, 0, none⟩), .int .u64 18446744073709551615, .int .u64 (d : Int)] w fun e w' => ∃ AG cg, e = .returned (.slice AG kk cg) ∧ LedP w' B g [] k k ∧ Chg (Tn B g) w w' := by
  have := tLostAll t k d 18446744073709551615 kk hk hkk ht hd (by omega) h
  rwa [show ((18446744073709551615 : Nat) : Int) = 18446744073709551615 from rfl] at this
theorem tLostZ (k d : Nat) (h : LedP w B g [] k k) : Calls Try.prog 12 #[.pointer (some ⟨g, 0, none⟩), .int .u64 0, .int .u64 (d : Int)] w fun e w' => ∃ AG cg, e = .returned (.slice AG 0 cg) ∧ LedP w' B g [] k k ∧ Chg (Tn B g) w w' := tLost0 k d 0 h
theorem tDueZ (t k d : Nat) (hk : k = 2 ∨ k = 3) (ht : t < 4294967296) (hd : d < 4294967296) (hz : t + d = 0) (h : LedP w B g (TS t (k - 1)) k k) : Calls Try.prog 15 #[.pointer (some ⟨g, 0, none⟩), .int .u64 (d : Int)] w fun e w' => e = .returned (.int .u64 0) ∧ Chg none_ w w' := by
  have := tDue t k d hk ht hd h
  rwa [hz, show ((0 : Nat) : Int) = 0 from rfl] at this
end

set_option maxRecDepth 100000 in
set_option maxHeartbeats 4000000 in
theorem walk_LedgerLate (n0 t0 d0 a0 : Int) (w : World) (hn : (Lit.int .u8 n0).wf = true) (ht : (Lit.int .u32 t0).wf = true) (hd : (Lit.int .u32 d0).wf = true) (ha : (Lit.int .u8 a0).wf = true) :
    Calls Try.prog 5 #[.int .u8 n0, .int .u32 t0, .int .u32 d0, .int .u8 a0] w fun e w' => e = .returned (.bool true) ∧ Chg none_ w w' := by
  have hn' : 0 ≤ n0 ∧ n0 ≤ 255 := by simpa [Lit.wf, IntKind.min, IntKind.max, IntKind.bits, IntKind.signed] using hn
  have ht' : 0 ≤ t0 ∧ t0 ≤ 4294967295 := by simpa [Lit.wf, IntKind.min, IntKind.max, IntKind.bits, IntKind.signed] using ht
  have hd' : 0 ≤ d0 ∧ d0 ≤ 4294967295 := by simpa [Lit.wf, IntKind.min, IntKind.max, IntKind.bits, IntKind.signed] using hd
  obtain ⟨n, rfl⟩ : ∃ n : Nat, n0 = (n : Int) := ⟨n0.toNat, by omega⟩
  obtain ⟨t, rfl⟩ : ∃ t : Nat, t0 = (t : Int) := ⟨t0.toNat, by omega⟩
  obtain ⟨d, rfl⟩ : ∃ d : Nat, d0 = (d : Int) := ⟨d0.toNat, by omega⟩
  obtain ⟨k, hk⟩ : ∃ k, k = 2 + n % 2 := ⟨_, rfl⟩
  obtain ⟨r, hr⟩ : ∃ r, r = n % 2 := ⟨_, rfl⟩
  obtain ⟨kk, hkk⟩ : ∃ kk, kk = k - 1 := ⟨_, rfl⟩
  have HK : Hid (k = 2 ∨ k = 3) := Lib.hid (by omega)
  have HKK := Lib.hid hkk
  have HT : Hid (t < 4294967296 ∧ d < 4294967296) := Lib.hid (by omega)
  have e1t : Int.tmod (n : Int) 2 = (r : Int) := by rw [Int.tmod_eq_emod_of_nonneg (by omega)]; omega
  have e3 : (2 : Int) + (r : Int) = (k : Int) := by omega
  have e4 : (k : Int) - 1 = (kk : Int) := by omega
  have hk3 : (k : Int) ≤ 3 := by omega
  have hk2 : (2 : Int) ≤ (k : Int) := by omega
  have hkk2 : (kk : Int) ≤ 2 := by omega
  have hkk1 : (1 : Int) ≤ (kk : Int) := by omega
  have hr1 : (r : Int) ≤ 1 := by omega
  obtain ⟨hn1, hn2⟩ := hn'
  obtain ⟨ht1, ht2⟩ := ht'
  obtain ⟨hd1, hd2⟩ := hd'
  obtain ⟨u, hu⟩ : ∃ u, u = t + d := ⟨_, rfl⟩
  have HU := Lib.hid hu
  have e5 : (t : Int) + (d : Int) = (u : Int) := by omega
  have hu2 : (u : Int) ≤ 8589934590 := by omega
  have hu1 : (0 : Int) ≤ (u : Int) := by omega
  clear hk hr hkk hu hn ht hd ha
  have HAL := Lib.hid (alive_any w)
  go_enter Try.func5, Try.ntmps5
  go_wp2_with (first | ((with_reducible show Calls _ 7 _ _ _); refine HAL.out.mono ?_; rintro e wv ⟨rfl, hc⟩; have HCV := Lib.hid hc; clear hc) | ((with_reducible show wpList _ _ _ (⟨some 9, .alloc _, _, _, _, _⟩ :: _) _ _); refine wpList_alloc_Row rfl rfl [.slice none 0 0, .int .i64 0, .int .i64 0] zeroLg ?_; intro w1 hr1 hc1 hs1; have HL := Lib.hid (LedP.zero hr1); have HC := Lib.hid (HCV.out.trans hc1); have HF := Lib.hid (And.intro HCV.out.size hr1.lt); clear hr1 hc1 hs1))
  go_loopw [11] (fun i wr => ∃ j : Nat, i = .int .i64 (j : Int) ∧ j ≤ k ∧ Hid (LedP wr w1.heap.size wv.heap.size (TS t j) j 0) ∧ Hid (Chg none_ w wr)) (fun i _ => k - (intOf i).toNat)
  case atStart => exact ⟨0, rfl, Nat.zero_le _, HL, HC⟩
  case round =>
    clear HL HC HCV
    obtain ⟨j, rfl, hj, HL, HC⟩ := hrel
    by_cases hlt : j < k
    · have k1 : (j : Int) < (k : Int) := by omega
      go_wp2_with ((with_reducible show Calls _ 9 _ _ _); refine (tSend t j HT.out.1 HL.out (by have := HK.out; omega)).mono ?_; rintro e w6 ⟨rfl, hl, hc⟩; have HL := Lib.hid hl; have HC := Lib.hid (HC.out.andThen hc (turnW HF.out.1 HF.out.2)); clear hl hc)
      go_roundw
      case rel => exact ⟨j + 1, by go_num, by omega, HL, HC⟩
      case measure => simp [intOf]; omega
    · have hke : j = k := by omega
      subst hke
      clear hlt hj
      have hwm : IntKind.u64.wrap (-1 : Int) = 18446744073709551615 := by decide
      by_cases hu0 : u = 0
      · have hu3 : (u : Int) = 0 := by omega
        have HTZ : Hid (t + d = 0) := Lib.hid (by have := HU.out; omega)
        simp only [hu3] at e5
        clear hu0 hu1 hu2
        go_wp2_with (first | ((with_reducible show wpList _ _ _ (⟨some 40, _, _, _, _, _⟩ :: _) _ _); refine wpList_newN (f := fun g => .slice (some ⟨g, 0, none⟩) 1 1) (e := 63) (cs := rgc (kk, kk)) rfl (fun w_ => by have := run_sliceR (kk, kk) w_; simp [execOp, Act.eval] at this ⊢; simp [this]) ?_; intro w7 hr hc hs; have HV := Lib.hid (viewR hr); rw [HKK.out] at HV; have HL := Lib.hid (HL.out.quiet hc); have HC := Lib.hid (HC.out.trans hc); clear hr hc hs) | ((with_reducible show Calls _ 10 _ _ _); refine (tAck t j HK.out HL.out HV.out).mono ?_; rintro e w9 ⟨AG, cg, rfl, hl, hc⟩; have HL := Lib.hid hl; have HC := Lib.hid (HC.out.andThen hc (turnW HF.out.1 HF.out.2)); clear hl hc) | ((with_reducible show Calls _ 15 _ _ _); (with_reducible show Calls _ _ #[_, .int .u64 (d : Int)] _ _); refine (tDueZ t j d HK.out HT.out.1 HT.out.2 HTZ.out HL.out).mono ?_; rintro e w9 ⟨rfl, hc⟩; have HL := Lib.hid (HL.out.quiet hc); have HC := Lib.hid (HC.out.trans hc); clear hc) | ((with_reducible show Calls _ 15 _ _ _); (with_reducible show Calls _ _ #[_, .int .u64 0] _ _); refine (tDue0 j HL.out).mono ?_; rintro e w9 ⟨rfl, hc⟩; have HL := Lib.hid (HL.out.quiet hc); have HC := Lib.hid (HC.out.trans hc); clear hc) | ((with_reducible show Calls _ 12 _ _ _); (with_reducible show Calls _ _ #[_, .int .u64 18446744073709551615, _] _ _); refine (tLostMax t j d kk HK.out HKK.out HT.out.1 HT.out.2 HL.out).mono ?_; rintro e w9 ⟨AX, cx, rfl, hl, hc⟩; have HL := Lib.hid hl; have HC := Lib.hid (HC.out.andThen hc (turnW HF.out.1 HF.out.2)); clear hl hc) | ((with_reducible show Calls _ 12 _ _ _); (with_reducible show Calls _ _ #[_, .int .u64 0, _] _ _); refine (tLostZ j d HL.out).mono ?_; rintro e w9 ⟨AX, cx, rfl, hl, hc⟩; have HL := Lib.hid hl; have HC := Lib.hid (HC.out.andThen hc (turnW HF.out.1 HF.out.2)); clear hl hc))
        go_ret
        exact ⟨rfl, HC.out⟩
      · obtain ⟨u1, hu3⟩ : ∃ u1, u1 = u - 1 := ⟨_, rfl⟩
        have e6 : (u : Int) - 1 = (u1 : Int) := by omega
        have hu4 : (1 : Int) ≤ (u : Int) := by omega
        have HU1 : Hid (u1 < t + d) := Lib.hid (by have := HU.out; omega)
        have hne : ((u : Int) == 0) = false := by rw [beq_eq_false_iff_ne]; omega
        clear hu0 hu3
        go_wp2_with (first | ((with_reducible show wpList _ _ _ (⟨some 40, _, _, _, _, _⟩ :: _) _ _); refine wpList_newN (f := fun g => .slice (some ⟨g, 0, none⟩) 1 1) (e := 63) (cs := rgc (kk, kk)) rfl (fun w_ => by have := run_sliceR (kk, kk) w_; simp [execOp, Act.eval] at this ⊢; simp [this]) ?_; intro w7 hr hc hs; have HV := Lib.hid (viewR hr); rw [HKK.out] at HV; have HL := Lib.hid (HL.out.quiet hc); have HC := Lib.hid (HC.out.trans hc); clear hr hc hs) | ((with_reducible show Calls _ 10 _ _ _); refine (tAck t j HK.out HL.out HV.out).mono ?_; rintro e w9 ⟨AG, cg, rfl, hl, hc⟩; have HL := Lib.hid hl; have HC := Lib.hid (HC.out.andThen hc (turnW HF.out.1 HF.out.2)); clear hl hc) | ((with_reducible show Calls _ 15 _ _ _); (with_reducible show Calls _ _ #[_, .int .u64 (d : Int)] _ _); refine (tDue t j d HK.out HT.out.1 HT.out.2 HL.out).mono ?_; rintro e w9 ⟨rfl, hc⟩; simp only [← HU.out]; have HL := Lib.hid (HL.out.quiet hc); have HC := Lib.hid (HC.out.trans hc); clear hc) | ((with_reducible show Calls _ 15 _ _ _); (with_reducible show Calls _ _ #[_, .int .u64 0] _ _); refine (tDue0 j HL.out).mono ?_; rintro e w9 ⟨rfl, hc⟩; have HL := Lib.hid (HL.out.quiet hc); have HC := Lib.hid (HC.out.trans hc); clear hc) | ((with_reducible show Calls _ 12 _ _ _); (with_reducible show Calls _ _ #[_, .int .u64 (u1 : Int), _] _ _); refine (tLostNone t j d u1 HK.out HT.out.1 HT.out.2 (by have := HU1.out; omega) HL.out).mono ?_; rintro e w9 ⟨AX, cx, rfl, hl, hc⟩; have HL := Lib.hid hl; have HC := Lib.hid (HC.out.andThen hc (turnW HF.out.1 HF.out.2)); clear hl hc) | ((with_reducible show Calls _ 12 _ _ _); (with_reducible show Calls _ _ #[_, .int .u64 (u : Int), _] _ _); refine (tLostAll t j d u kk HK.out HKK.out HT.out.1 HT.out.2 (by have := HU.out; omega) HL.out).mono ?_; rintro e w9 ⟨AX, cx, rfl, hl, hc⟩; have HL := Lib.hid hl; have HC := Lib.hid (HC.out.andThen hc (turnW HF.out.1 HF.out.2)); clear hl hc))
        go_ret
        exact ⟨rfl, HC.out⟩
end Go.Proofs.Ytakoeamfmmbdiaa
