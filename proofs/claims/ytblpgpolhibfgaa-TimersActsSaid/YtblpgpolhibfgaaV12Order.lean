/- Layer 12 (timers): laws walked: what is due comes in order. -/
import Derived.Test.YtblpgpolhibfgaaV12Open
namespace Go.Proofs.Ytblpgpolhibfgaa
open Go.RowKit

theorem QO.base {w : World} {base q : Nat} {S : List Tm} (h : QO w base q S) : base ≤ w.heap.size := by
  obtain ⟨mp, h1, h2⟩ := h
  have := h1.lt q (Or.inl rfl)
  have := h2 q (Or.inl rfl)
  omega
theorem insS_len (t : Tm) (S : List Tm) : (insS t S).length = S.length + 1 := by
  have := (insS_perm t S).length_eq
  simpa using this
theorem remS_len (k : Int × Int) (S : List Tm) : (remS k S).length ≤ S.length := List.length_filter_le _ _
theorem setS_len (t : Tm) (S : List Tm) : (setS t S).length ≤ S.length + 1 := by
  unfold setS
  have := remS_len t.key S
  split
  · omega
  · split
    · rw [insS_len]; omega
    · omega
theorem View.tmAt {w : World} {T : Nat → Prop} {A : Option Addr} {l : List Tm} {k : Nat} (h : View w T A (l.length * 3) (tcells l)) (hk : k < l.length) : ∃ b o, A = some ⟨b, o, none⟩ ∧ b < w.heap.size ∧ T b ∧ ∀ k, k < l.length → w.rangeAt b (o + k * 3) (tcell (tm l k)) := by
  obtain ⟨b, o, h1, h2, h3, h4⟩ := h.2 (by omega)
  refine ⟨b, o, h1, h2, h3, fun k hk j v hv => ?_⟩
  have hj : j < 3 := by
    have := (List.getElem?_eq_some_iff.1 hv).1
    rwa [tcell_len] at this
  rw [Nat.add_assoc, h4 _ (by omega), tcells_get l k j hk hj]
  exact hv
theorem tm_mem {l : List Tm} {k : Nat} (h : k < l.length) : tm l k ∈ l := by
  unfold tm
  rw [List.getD_eq_getElem?_getD, List.getElem?_eq_getElem h]
  exact List.getElem_mem h

set_option maxRecDepth 100000 in
set_option maxHeartbeats 4000000 in
theorem walk_TimersOrder (l : List Tm) (A : Option Addr) (cap : Nat) (now0 : Int) (w : World) (_hb : l.length ≤ cap ∧ cap ≤ maxLen) (hv : View w (fun _ => True) A (l.length * 3) (tcells l)) (ho : ∀ t ∈ l, TOk t) (hn : (Lit.int .u64 now0).wf = true) :
    Calls Try.prog 4 #[.slice A l.length cap, .int .u64 now0] w fun e w' => e = .returned (.bool true) ∧ Chg none_ w w' := by
  obtain ⟨now, rfl, hnow⟩ := u64_nat12 hn
  clear hn
  by_cases hbig : 150 < l.length
  · have h1 : (150 : Int) < (l.length : Int) := by omega
    clear hv
    go_enter Try.func4, Try.ntmps4
    go_wp2_with (go_at_call 9; refine (alive_any _).mono ?_; rintro e w1 ⟨rfl, hc⟩; have HC := Lib.hid hc; clear hc)
    go_ret
    exact ⟨rfl, HC.out⟩
  have h1 : ¬ (150 : Int) < (l.length : Int) := by omega
  have HV := Lib.hid (fun w' (hc : Chg none_ w w') => hv.chg hc (fun _ _ h => h))
  have HO := Lib.hid (fun k (hk : k < l.length) => ho _ (tm_mem hk))
  clear hv ho
  go_enter Try.func4, Try.ntmps4
  go_wp2_with (first | (go_at_call 9; refine (alive_any _).mono ?_; rintro e w1 ⟨rfl, hc⟩; have HC1 := Lib.hid hc; clear hc) | (go_at_call 18; refine (New_own w1).mono ?_; rintro e w2 ⟨rfl, hqo, hc⟩; have HQ2 := Lib.hid hqo; have HC2 := Lib.hid (HC1.out.trans hc); clear hqo hc))
  have H0 := Lib.hid HC1.out.size
  clear HC1
  generalize w1.heap.size = q at *
  go_loopw [6] (fun i wr => ∃ (k : Nat) (S : List Tm), i = .int .i64 (k : Int) ∧ k ≤ l.length ∧ QO wr q q S ∧ S.length ≤ k ∧ Chg none_ w wr) (fun i _ => l.length - (intOf i).toNat)
  case atStart => exact ⟨0, [], rfl, Nat.zero_le _, HQ2.out, Nat.le_refl _, HC2.out⟩
  case round =>
    obtain ⟨k, S, rfl, hk, hq, hS, hc⟩ := hrel
    have HQ := Lib.hid hq
    have HC := Lib.hid hc
    by_cases hlt : k < l.length
    · have k1 : (k : Int) < (l.length : Int) := by omega
      obtain ⟨b, o, rfl, hbl, _, hr⟩ := (HV.out wr hc).tmAt hlt
      have HR := Lib.hid (hr k hlt)
      have HT := Lib.hid (HO.out k hlt)
      have HSL := Lib.hid (setS_len (tm l k) S)
      clear hq hc hr
      go_wp2_with (first | ((with_reducible show wpList _ _ _ (⟨some 29, .load _ _, _, _, _, _⟩ :: _) _ _); refine wpList_load_Mid (cs := tcell (tm l k)) rfl rfl rfl HR.out Try.underlying27 rfl sizeTm ?_) | (go_at_call 11; refine (Set_own q q S (tm l k) HT.out w wr H0.out HQ.out.base HC.out HQ.out).mono ?_; rintro e w3 ⟨rfl, hqo, hc⟩; have HQ3 := Lib.hid hqo; have HC3 := Lib.hid hc; clear hqo hc))
      go_roundw
      case rel => exact ⟨k + 1, _, by go_num, by omega, HQ3.out, by have := HSL.out; omega, HC3.out⟩
      case measure => simp [intOf]; omega
    · have hke : k = l.length := by omega
      subst hke
      clear hq hc hlt hk
      have HSO := Lib.hid HQ.out.ok
      have HL0 : Hid (Calls Try.prog 14 #[.pointer (some ⟨q, 0, none⟩)] wr fun e w' => e = .returned (.int .i64 (S.length : Int)) ∧ Chg none_ wr w') := Lib.hid (Len_own q q S wr HQ.out)
      go_wp2_with (go_at_call 14; refine HL0.out.mono ?_; rintro e w3 ⟨rfl, hc⟩; have HQ3 := Lib.hid (HQ.out.quiet hc); have HC3 := Lib.hid (HC.out.trans hc); clear hc)
      clear HL0 HQ HC HQ2 HC2
      go_loopw [8, 9, 10] (fun n la i wr => ∃ (j : Nat) (R : List Tm) (last : Nat), n = .int .i64 (j : Int) ∧ la = .int .u64 (last : Int) ∧ i = .int .i64 (j : Int) ∧ QO wr q q R ∧ R.length + j = S.length ∧ (∀ t ∈ R, last ≤ t.at_) ∧ Chg none_ w wr) (fun _ _ i _ => l.length + 1 - (intOf i).toNat)
      case atStart => exact ⟨0, S, 0, rfl, rfl, rfl, HQ3.out, rfl, fun _ _ => Nat.zero_le _, HC3.out⟩
      case round =>
        obtain ⟨j, R, last, rfl, rfl, rfl, hq, hl, hla, hc⟩ := hrel
        have hj : (j : Int) ≤ (l.length : Int) := by omega
        have HQ := Lib.hid hq
        have HC := Lib.hid hc
        have HRO := Lib.hid hq.ok
        clear hq hc
        have e0 : (S.length : Int) - (j : Int) = (R.length : Int) := by omega
        have HLN : Hid (∀ w1, QO w1 q q R → Calls Try.prog 14 #[.pointer (some ⟨q, 0, none⟩)] w1 fun e w' => e = .returned (.int .i64 (R.length : Int)) ∧ Chg none_ w1 w') := Lib.hid (fun w1 h => Len_own q q R w1 h)
        rcases R with _ | ⟨t, R⟩
        · have HD : Hid (Calls Try.prog 10 #[.pointer (some ⟨q, 0, none⟩), .int .u64 (now : Int)] wr fun e w' => e = .returned (.tuple #[.agg #[.int .u64 0, .int .i64 0, .int .i64 0], .bool false]) ∧ Chg none_ wr w') := Lib.hid (by
            obtain ⟨mp, h1, _⟩ := HQ.out
            exact Due_none _ now wr (fun w' hc => Len_any q mp [] w' (h1.quiet hc)))
          have e1 : (S.length : Int) - (j : Int) = 0 := e0
          have HLN2 : Hid (∀ w1, QO w1 q q [] → Calls Try.prog 14 #[.pointer (some ⟨q, 0, none⟩)] w1 fun e w' => e = .returned (.int .i64 0) ∧ Chg none_ w1 w') := HLN
          clear hla HRO hl e0 HLN
          go_wp2_with (first | (go_at_call 10; refine HD.out.mono ?_; rintro e w4 ⟨rfl, hc⟩; have HQ4 := Lib.hid (HQ.out.quiet (hc.trans ((Chg.refl none_ w4).alloc (.cells #[.int .u64 0, .int .i64 0, .int .i64 0] 27)))); have HC4 := Lib.hid (HC.out.trans (hc.trans ((Chg.refl none_ w4).alloc (.cells #[.int .u64 0, .int .i64 0, .int .i64 0] 27)))); clear hc) | (go_at_call 14; refine (HLN2.out _ HQ4.out).mono ?_; rintro e w5 ⟨rfl, hc⟩; have HQ5 := Lib.hid (HQ4.out.quiet hc); have HC5 := Lib.hid (HC4.out.trans hc); clear hc HQ4) | (go_at_call 14; refine (HLN2.out _ HQ5.out).mono ?_; rintro e w6 ⟨rfl, hc⟩; have HQ6 := Lib.hid (HQ5.out.quiet hc); have HC6 := Lib.hid (HC5.out.trans hc); clear hc HQ5))
          go_ret
          exact ⟨rfl, HC6.out⟩
        · have l1 : ((R.length : Int) + 1 == 0) = false := by rw [beq_eq_false_iff_ne]; omega
          have HLN2 : Hid (∀ w1, QO w1 q q (t :: R) → Calls Try.prog 14 #[.pointer (some ⟨q, 0, none⟩)] w1 fun e w' => e = .returned (.int .i64 ((R.length : Int) + 1)) ∧ Chg none_ w1 w') := Lib.hid (fun w1 h => by
            have := HLN.out w1 h
            rwa [List.length_cons, Int.natCast_add] at this)
          rw [List.length_cons, Int.natCast_add] at e0
          have e1 : (S.length : Int) - (j : Int) = (R.length : Int) + 1 := e0
          by_cases hd : t.at_ ≤ now
          · have d1 : ¬ (now : Int) < (t.at_ : Int) := by omega
            have d2 : ¬ (t.at_ : Int) < (last : Int) := by have := hla t (by simp); omega
            have d3 : decide ((now : Int) < (t.at_ : Int)) = false := by simp; omega
            have HD : Hid (Calls Try.prog 10 #[.pointer (some ⟨q, 0, none⟩), .int .u64 (now : Int)] wr fun e w' => e = .returned (.tuple #[.agg #[.int .u64 (t.at_ : Int), .int .i64 t.conn, .int .i64 t.kind], .bool true]) ∧ QO w' q q R ∧ Chg none_ w w') := Lib.hid (by
              have h := Due_own q q (t :: R) now w wr H0.out HC.out HQ.out
              have e : dueS now (t :: R) = some (t, R) := by
                have : dueS now (t :: R) = if t.at_ ≤ now then some (t, R) else none := rfl
                rw [this, if_pos hd]
              rw [e] at h
              exact h)
            have HNL : Hid (∀ x ∈ R, t.at_ ≤ x.at_) := Lib.hid (fun x hx => by
              have := (List.pairwise_cons.1 HRO.out.2.1).1 x hx
              unfold Ah at this
              omega)
            clear hla HRO e0 HLN HLN2
            go_wp2_with (go_at_call 10; refine HD.out.mono ?_; rintro e w4 ⟨rfl, hqo, hc⟩; have HQ4 := Lib.hid (hqo.quiet ((Chg.refl none_ w4).alloc (.cells #[.int .u64 (t.at_ : Int), .int .i64 t.conn, .int .i64 t.kind] 27))); have HC4 := Lib.hid (hc.alloc (.cells #[.int .u64 (t.at_ : Int), .int .i64 t.conn, .int .i64 t.kind] 27)); clear hqo hc)
            go_roundw
            case rel => exact ⟨j + 1, R, t.at_, by go_num, rfl, by go_num, HQ4.out, by simp at hl; omega, HNL.out, HC4.out⟩
            case measure => simp [intOf]; omega
          · have d1 : (now : Int) < (t.at_ : Int) := by omega
            have HD : Hid (Calls Try.prog 10 #[.pointer (some ⟨q, 0, none⟩), .int .u64 (now : Int)] wr fun e w' => e = .returned (.tuple #[.agg #[.int .u64 0, .int .i64 0, .int .i64 0], .bool false]) ∧ Chg none_ wr w') := Lib.hid (by
              obtain ⟨mp, h1, _⟩ := HQ.out
              exact Due_late q mp t R now wr h1 (by omega))
            have HNX : Hid (∀ w1, QO w1 q q (t :: R) → Calls Try.prog 16 #[.pointer (some ⟨q, 0, none⟩)] w1 fun e w' => e = .returned (.int .u64 (t.at_ : Int)) ∧ Chg none_ w1 w') := Lib.hid (fun w1 h => Next_own q q _ w1 h)
            clear hla HRO hl e0 HLN
            go_wp2_with (first | (go_at_call 10; refine HD.out.mono ?_; rintro e w4 ⟨rfl, hc⟩; have HQ4 := Lib.hid (HQ.out.quiet (hc.trans ((Chg.refl none_ w4).alloc (.cells #[.int .u64 0, .int .i64 0, .int .i64 0] 27)))); have HC4 := Lib.hid (HC.out.trans (hc.trans ((Chg.refl none_ w4).alloc (.cells #[.int .u64 0, .int .i64 0, .int .i64 0] 27)))); clear hc) | (go_at_call 14; refine (HLN2.out _ HQ4.out).mono ?_; rintro e w5 ⟨rfl, hc⟩; have HQ5 := Lib.hid (HQ4.out.quiet hc); have HC5 := Lib.hid (HC4.out.trans hc); clear hc HQ4) | (go_at_call 14; refine (HLN2.out _ HQ5.out).mono ?_; rintro e w6 ⟨rfl, hc⟩; have HQ6 := Lib.hid (HQ5.out.quiet hc); have HC6 := Lib.hid (HC5.out.trans hc); clear hc HQ5) | (go_at_call 16; refine (HNX.out _ HQ6.out).mono ?_; rintro e w7 ⟨rfl, hc⟩; have HQ7 := Lib.hid (HQ6.out.quiet hc); have HC7 := Lib.hid (HC6.out.trans hc); clear hc HQ6))
            go_ret
            exact ⟨rfl, HC7.out⟩
end Go.Proofs.Ytblpgpolhibfgaa
