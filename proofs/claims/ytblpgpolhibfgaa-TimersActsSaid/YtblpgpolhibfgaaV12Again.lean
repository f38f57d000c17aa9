/- Layer 12 (timers): the law of a timer that was due and is set again, walked. -/
import Derived.Test.YtblpgpolhibfgaaV12Order
namespace Go.Proofs.Ytblpgpolhibfgaa
open Go.RowKit

theorem QIs.far {w w1 : World} {q : Nat} {mp : Option Nat} {S : List Tm} (h : QIs w q mp S) (h1 : Chg none_ w w1) (v : Value) : QIs (w1.setCell ⟨w.heap.size, 0, none⟩ v) q mp S :=
  (h.quiet h1).chg ((Chg.refl (· = w.heap.size) w1).setCell (p := ⟨w.heap.size, 0, none⟩) (fun _ => rfl) v) (fun b hb e => by have := h.lt b hb; omega)
theorem QIs.keys {w : World} {q : Nat} {mp : Option Nat} {S : List Tm} (h : QIs w q mp S) : (S.map Tm.key).Nodup := by
  obtain ⟨F, n, M, h⟩ := h
  have hlen : (F.take n).length = n := by rw [List.length_take, h.qm.len]; have := h.le; omega
  refine (h.perm.map Tm.key).nodup_iff.1 ?_
  rw [List.nodup_iff_pairwise_ne, List.pairwise_iff_getElem]
  intro i j hi hj hij
  rw [List.length_map] at hi hj
  rw [List.getElem_map, List.getElem_map]
  intro e
  have ei : ∀ i (hi : i < (F.take n).length), (F.take n)[i] = tm F i := fun i hi => by
    rw [← take_getD (by omega : i < n), List.getD_eq_getElem?_getD, List.getElem?_eq_getElem hi]
    rfl
  rw [ei i hi, ei j hj] at e
  have := h.pl.inj (by omega) (by omega) e
  omega
theorem find_none {k : Int × Int} {S : List Tm} (h : ∀ x ∈ S, x.key ≠ k) : findS k S = none := by
  unfold findS
  rw [List.find?_eq_none]
  intro x hx
  simpa using h x hx
theorem find_ins {t : Tm} {R : List Tm} (h : ∀ x ∈ R, x.key ≠ t.key) : findS t.key (insS t R) = some t := by
  induction R with
  | nil => unfold insS findS; simp
  | cons a R ih =>
    have ha : a.key ≠ t.key := h a (by simp)
    unfold insS
    split
    · unfold findS; simp
    · have := ih (fun x hx => h x (by simp [hx]))
      unfold findS at this ⊢
      rw [List.find?_cons_of_neg (by simpa using ha)]
      exact this
theorem rem_self {k : Int × Int} {S : List Tm} (h : ∀ x ∈ S, x.key ≠ k) : remS k S = S := by
  unfold remS
  rw [List.filter_eq_self]
  intro x hx
  simpa using h x hx
theorem head_apart {t : Tm} {S : List Tm} (h : ((t :: S).map Tm.key).Nodup) : ∀ x ∈ S, x.key ≠ t.key := fun x hx e => by
  rw [List.map_cons, List.nodup_cons] at h
  exact h.1 (List.mem_map.2 ⟨x, hx, e⟩)

set_option maxRecDepth 100000 in
set_option maxHeartbeats 4000000 in
theorem walk_TimersAgain (l : List Tm) (A : Option Addr) (cap : Nat) (now0 : Int) (w : World) (_hb : l.length ≤ cap ∧ cap ≤ maxLen) (hv : View w (fun _ => True) A (l.length * 3) (tcells l)) (ho : ∀ t ∈ l, TOk t) (hn : (Lit.int .u64 now0).wf = true) :
    Calls Try.prog 8 #[.slice A l.length cap, .int .u64 now0] w fun e w' => e = .returned (.bool true) ∧ Chg none_ w w' := by
  obtain ⟨now, rfl, hnow⟩ := u64_nat12 hn
  clear hn
  by_cases hbig : 100 < l.length
  · have h1 : (100 : Int) < (l.length : Int) := by omega
    clear hv
    go_enter Try.func8, Try.ntmps8
    go_wp2_with (go_at_call 9; refine (alive_any _).mono ?_; rintro e w1 ⟨rfl, hc⟩; have HC := Lib.hid hc; clear hc)
    go_ret
    exact ⟨rfl, HC.out⟩
  have h1 : ¬ (100 : Int) < (l.length : Int) := by omega
  have HV := Lib.hid (fun w' (hc : Chg none_ w w') => hv.chg hc (fun _ _ h => h))
  have HO := Lib.hid (fun k (hk : k < l.length) => ho _ (tm_mem hk))
  clear hv ho
  go_enter Try.func8, Try.ntmps8
  go_wp2_with (first | (go_at_call 9; refine (alive_any _).mono ?_; rintro e w1 ⟨rfl, hc⟩; have HC1 := Lib.hid hc; clear hc) | (go_at_call 18; refine (New_own w1).mono ?_; rintro e w2 ⟨rfl, hqo, hc⟩; have HQ2 := Lib.hid hqo; have HC2 := Lib.hid (HC1.out.trans hc); clear hqo hc))
  have H0 := Lib.hid HC1.out.size
  clear HC1
  generalize w1.heap.size = q at *
  go_loopw [6] (fun i wr => ∃ (k : Nat) (S : List Tm), i = .int .i64 (k : Int) ∧ k ≤ l.length ∧ QO wr q q S ∧ S.length ≤ k ∧ Chg none_ w wr) (fun i _ => l.length - (intOf i).toNat)
  case atStart => exact ⟨0, [], rfl, Nat.zero_le _, HQ2.out, Nat.le_refl _, HC2.out⟩
  case round =>
    obtain ⟨k, S, rfl, hk, hq, hS, hc⟩ := hrel
    have HQ := Lib.hid hq
    have HC := Lib.hid hc
    by_cases hlt : k < l.length
    · have k1 : (k : Int) < (l.length : Int) := by omega
      obtain ⟨b, o, rfl, hbl, _, hr⟩ := (HV.out wr hc).tmAt hlt
      have HR := Lib.hid (hr k hlt)
      have HT := Lib.hid (HO.out k hlt)
      have HSL := Lib.hid (setS_len (tm l k) S)
      clear hq hc hr
      go_wp2_with (first | ((with_reducible show wpList _ _ _ (⟨some 26, .load _ _, _, _, _, _⟩ :: _) _ _); refine wpList_load_Mid (cs := tcell (tm l k)) rfl rfl rfl HR.out Try.underlying27 rfl sizeTm ?_) | (go_at_call 11; refine (Set_own q q S (tm l k) HT.out w wr H0.out HQ.out.base HC.out HQ.out).mono ?_; rintro e w3 ⟨rfl, hqo, hc⟩; have HQ3 := Lib.hid hqo; have HC3 := Lib.hid hc; clear hqo hc))
      go_roundw
      case rel => exact ⟨k + 1, _, by go_num, by omega, HQ3.out, by have := HSL.out; omega, HC3.out⟩
      case measure => simp [intOf]; omega
    · have hke : k = l.length := by omega
      subst hke
      clear hq hc hlt hk
      have HSO := Lib.hid HQ.out.ok
      have hS2 : S.length ≤ 100 := by omega
      clear HQ2 HC2 hS
      rcases S with _ | ⟨t, S⟩
      · have HD : Hid (Calls Try.prog 10 #[.pointer (some ⟨q, 0, none⟩), .int .u64 (now : Int)] wr fun e w' => e = .returned (.tuple #[.agg #[.int .u64 0, .int .i64 0, .int .i64 0], .bool false]) ∧ Chg none_ wr w') := Lib.hid (by
          obtain ⟨mp, h1, _⟩ := HQ.out
          exact Due_none _ now wr (fun w' hc => Len_any q mp [] w' (h1.quiet hc)))
        have HNX : Hid (∀ w1, QO w1 q q [] → Calls Try.prog 16 #[.pointer (some ⟨q, 0, none⟩)] w1 fun e w' => e = .returned (.int .u64 18446744073709551615) ∧ Chg none_ w1 w') := Lib.hid (fun w1 h => Next_own q q [] w1 h)
        by_cases hx : now = 18446744073709551615
        · have d3 : decide ((now : Int) < 18446744073709551615) = false := by simp; omega
          clear hx
          go_wp2_with (first | (go_at_call 10; refine HD.out.mono ?_; rintro e w4 ⟨rfl, hc⟩; have HQ4 := Lib.hid (HQ.out.quiet (hc.trans ((Chg.refl none_ w4).alloc (.cells #[.int .u64 0, .int .i64 0, .int .i64 0] 27)))); have HC4 := Lib.hid (HC.out.trans (hc.trans ((Chg.refl none_ w4).alloc (.cells #[.int .u64 0, .int .i64 0, .int .i64 0] 27)))); clear hc) | (go_at_call 16; refine (HNX.out _ HQ4.out).mono ?_; rintro e w5 ⟨rfl, hc⟩; have HQ5 := Lib.hid (HQ4.out.quiet hc); have HC5 := Lib.hid (HC4.out.trans hc); clear hc HQ4) | (go_at_call 16; refine (HNX.out _ HQ5.out).mono ?_; rintro e w6 ⟨rfl, hc⟩; have HQ6 := Lib.hid (HQ5.out.quiet hc); have HC6 := Lib.hid (HC5.out.trans hc); clear hc HQ5))
          go_ret
          exact ⟨rfl, HC6.out⟩
        · have d3 : (now : Int) < 18446744073709551615 := by omega
          clear hx
          go_wp2_with (first | (go_at_call 10; refine HD.out.mono ?_; rintro e w4 ⟨rfl, hc⟩; have HQ4 := Lib.hid (HQ.out.quiet (hc.trans ((Chg.refl none_ w4).alloc (.cells #[.int .u64 0, .int .i64 0, .int .i64 0] 27)))); have HC4 := Lib.hid (HC.out.trans (hc.trans ((Chg.refl none_ w4).alloc (.cells #[.int .u64 0, .int .i64 0, .int .i64 0] 27)))); clear hc) | (go_at_call 16; refine (HNX.out _ HQ4.out).mono ?_; rintro e w5 ⟨rfl, hc⟩; have HQ5 := Lib.hid (HQ4.out.quiet hc); have HC5 := Lib.hid (HC4.out.trans hc); clear hc HQ4) | (go_at_call 16; refine (HNX.out _ HQ5.out).mono ?_; rintro e w6 ⟨rfl, hc⟩; have HQ6 := Lib.hid (HQ5.out.quiet hc); have HC6 := Lib.hid (HC5.out.trans hc); clear hc HQ5))
          go_ret
          exact ⟨rfl, HC5.out⟩
      · have HNX : Hid (∀ w1, QO w1 q q (t :: S) → Calls Try.prog 16 #[.pointer (some ⟨q, 0, none⟩)] w1 fun e w' => e = .returned (.int .u64 (t.at_ : Int)) ∧ Chg none_ w1 w') := Lib.hid (fun w1 h => Next_own q q _ w1 h)
        by_cases hd : t.at_ ≤ now
        · have HTO := Lib.hid (HSO.out.1 t (by simp))
          have HD : Hid (Calls Try.prog 10 #[.pointer (some ⟨q, 0, none⟩), .int .u64 (now : Int)] wr fun e w' => e = .returned (.tuple #[.agg #[.int .u64 (t.at_ : Int), .int .i64 t.conn, .int .i64 t.kind], .bool true]) ∧ QO w' q q S ∧ Chg none_ w w') := Lib.hid (by
            have h := Due_own q q (t :: S) now w wr H0.out HC.out HQ.out
            have e : dueS now (t :: S) = some (t, S) := by
              have : dueS now (t :: S) = if t.at_ ≤ now then some (t, S) else none := rfl
              rw [this, if_pos hd]
            rw [e] at h
            exact h)
          have HLN : Hid (∀ mp w1, QIs w1 q mp S → Calls Try.prog 14 #[.pointer (some ⟨q, 0, none⟩)] w1 fun e w' => e = .returned (.int .i64 (S.length : Int)) ∧ Chg none_ w1 w') := Lib.hid (fun mp w1 h => Len_any q mp S w1 h)
          by_cases hx : now = NV
          · have d3 : ((now : Int) == 18446744073709551615) = true := by rw [hx]; decide
            clear hx HNX
            go_wp2_with (first | (go_at_call 10; refine HD.out.mono ?_; rintro e w4 ⟨rfl, ⟨mp, hq4, hB4⟩, hc⟩; have HQ4 := Lib.hid hq4; have HB4 := Lib.hid hB4; have HL4 := Lib.hid (fun b hb => hq4.lt b hb); have HC4 := Lib.hid hc; clear hq4 hB4 hc) | (go_at_call 14; refine (HLN.out mp _ (HQ4.out.quiet ((Chg.refl none_ w4).alloc (.cells #[.int .u64 (t.at_ : Int), .int .i64 t.conn, .int .i64 t.kind] 27)))).mono ?_; rintro e w5 ⟨rfl, hc⟩; have HR5 := Lib.hid ((Row.new w4 27 [.int .u64 (t.at_ : Int), .int .i64 t.conn, .int .i64 t.kind]).chg hc (fun h => h)); have HQ5 := Lib.hid (HQ4.out.far (((Chg.refl none_ w4).alloc (.cells #[.int .u64 (t.at_ : Int), .int .i64 t.conn, .int .i64 t.kind] 27)).trans hc)); have HC5 := Lib.hid (HC4.out.trans (((Chg.refl none_ w4).alloc (.cells #[.int .u64 (t.at_ : Int), .int .i64 t.conn, .int .i64 t.kind] 27)).trans hc)); have c0 := HR5.out.cell 0; have c1 := HR5.out.cell 1; have c2 := HR5.out.cell 2; simp only [List.getElem?_cons_zero, List.getElem?_cons_succ] at c0 c1 c2; have f0 := HR5.out.frozen 0; clear hc HQ4))
            go_ret
            exact ⟨rfl, HC5.out⟩
          · have hx2 : now < 18446744073709551615 := by unfold NV at hx; omega
            have d3 : ((now : Int) == 18446744073709551615) = false := by rw [beq_eq_false_iff_ne]; omega
            obtain ⟨N, hN⟩ : ∃ N : Int, N = (now : Int) + 1 := ⟨_, rfl⟩
            have d5 : IntKind.u64.wrap ((now : Int) + 1) = N := by rw [hN]; simp [IntKind.wrap, IntKind.bits, IntKind.signed]; omega
            have HAP : Hid (∀ x ∈ S, x.key ≠ t.key) := Lib.hid (by
              obtain ⟨mp, h1, _⟩ := HQ.out
              exact head_apart h1.keys)
            have HAT : Hid (∀ mp w1, QIs w1 q mp S → Calls Try.prog 17 #[.pointer (some ⟨q, 0, none⟩), .int .i64 t.conn, .int .i64 t.kind] w1 fun e w' => e = .returned (.int .u64 18446744073709551615) ∧ Chg none_ w1 w') := Lib.hid (fun mp w1 h => by
              have := At_any q mp S t.key HTO.out.k w1 h
              rwa [show atS t.key S = NV by unfold atS; rw [find_none HAP.out]] at this)
            have HTN : Hid (TOk ⟨now + 1, t.conn, t.kind⟩) := Lib.hid ⟨by show now + 1 < _; omega, HTO.out.k⟩
            have HSB : Hid (setB ⟨now + 1, t.conn, t.kind⟩ S = true) := Lib.hid (by
              unfold setB
              have : S.length < 200 := by simp at hS2; omega
              simp [this])
            by_cases hy : now + 1 = NV
            · have d6 : (N == 18446744073709551615) = true := by
                unfold NV at hy
                rw [beq_iff_eq]; omega
              have HSE : Hid (∀ mp w1, QIs w1 q mp S → Calls Try.prog 11 #[.pointer (some ⟨q, 0, none⟩), .agg #[.int .u64 N, .int .i64 t.conn, .int .i64 t.kind]] w1 fun e w' => e = .returned (.bool true) ∧ MNow w1 w' q mp (setS ⟨now + 1, t.conn, t.kind⟩ S) ∧ Chg (QB q mp) w1 w') := Lib.hid (fun mp w1 h => by
                have := Set_any q mp S ⟨now + 1, t.conn, t.kind⟩ HTN.out w1 h
                rw [HSB.out] at this
                subst hN
                exact this)
              clear hx hx2 hy HNX hd hN
              go_wp2_with (first | (go_at_call 10; refine HD.out.mono ?_; rintro e w4 ⟨rfl, ⟨mp, hq4, hB4⟩, hc⟩; have HQ4 := Lib.hid hq4; have HB4 := Lib.hid hB4; have HL4 := Lib.hid (fun b hb => hq4.lt b hb); have HC4 := Lib.hid hc; clear hq4 hB4 hc) | (go_at_call 14; refine (HLN.out mp _ (HQ4.out.quiet ((Chg.refl none_ w4).alloc (.cells #[.int .u64 (t.at_ : Int), .int .i64 t.conn, .int .i64 t.kind] 27)))).mono ?_; rintro e w5 ⟨rfl, hc⟩; have HR5 := Lib.hid ((Row.new w4 27 [.int .u64 (t.at_ : Int), .int .i64 t.conn, .int .i64 t.kind]).chg hc (fun h => h)); have HQ5 := Lib.hid (HQ4.out.far (((Chg.refl none_ w4).alloc (.cells #[.int .u64 (t.at_ : Int), .int .i64 t.conn, .int .i64 t.kind] 27)).trans hc)); have HC5 := Lib.hid (HC4.out.trans (((Chg.refl none_ w4).alloc (.cells #[.int .u64 (t.at_ : Int), .int .i64 t.conn, .int .i64 t.kind] 27)).trans hc)); have c0 := HR5.out.cell 0; have c1 := HR5.out.cell 1; have c2 := HR5.out.cell 2; simp only [List.getElem?_cons_zero, List.getElem?_cons_succ] at c0 c1 c2; have f0 := HR5.out.frozen 0; clear hc HQ4) | (go_at_call 17; refine (HAT.out mp _ (HQ5.out _)).mono ?_; rintro e w6 ⟨rfl, hc⟩; clear c0 c1 c2 f0; have HR6 : Hid (Row w6 w4.heap.size 27 [.int .u64 N, .int .i64 t.conn, .int .i64 t.kind]) := Lib.hid ((HR5.out.set 0 (.int .u64 N)).chg hc (fun h => h)); have HQ6 := Lib.hid ((HQ5.out _).quiet hc); have HC6 := Lib.hid (((HC5.out.setCell (p := ⟨w4.heap.size, 0, none⟩) (fun h => by have := HC4.out.size; have h2 : w4.heap.size < w.heap.size := h; omega) _)).trans hc); have c0 := HR6.out.cell 0; have c1 := HR6.out.cell 1; have c2 := HR6.out.cell 2; simp only [List.getElem?_cons_zero, List.getElem?_cons_succ] at c0 c1 c2; clear hc HQ5) | (go_at_call 11; refine (HSE.out mp _ HQ6.out).mono ?_; rintro e w7 ⟨rfl, ⟨mp7, _, hq7⟩, hcq⟩; clear c0 c1 c2; have HR7 := Lib.hid (HR6.out.chg hcq (fun e => by have := HL4.out _ e; omega)); have HQ7 := Lib.hid hq7; have HC7 := Lib.hid (chg_past HB4.out H0.out HC6.out hcq); have c0 := HR7.out.cell 0; have c1 := HR7.out.cell 1; have c2 := HR7.out.cell 2; simp only [List.getElem?_cons_zero, List.getElem?_cons_succ] at c0 c1 c2; clear hq7 hcq HQ6))
              go_ret
              exact ⟨rfl, HC7.out⟩
            · have d6 : (N == 18446744073709551615) = false := by
                unfold NV at hy
                rw [beq_eq_false_iff_ne]; omega
              have HSE : Hid (∀ mp w1, QIs w1 q mp S → Calls Try.prog 11 #[.pointer (some ⟨q, 0, none⟩), .agg #[.int .u64 N, .int .i64 t.conn, .int .i64 t.kind]] w1 fun e w' => e = .returned (.bool true) ∧ MNow w1 w' q mp (insS ⟨now + 1, t.conn, t.kind⟩ S) ∧ Chg (QB q mp) w1 w') := Lib.hid (fun mp w1 h => by
                have := Set_any q mp S ⟨now + 1, t.conn, t.kind⟩ HTN.out w1 h
                rw [HSB.out] at this
                have e : setS ⟨now + 1, t.conn, t.kind⟩ S = insS ⟨now + 1, t.conn, t.kind⟩ S := by
                  unfold setS
                  rw [if_neg hy, if_pos (Or.inr (by simp at hS2; omega)), show remS (Tm.key ⟨now + 1, t.conn, t.kind⟩) S = S from rem_self HAP.out]
                rw [e] at this
                subst hN
                exact this)
              have HL2 : Hid (∀ mp w1, QIs w1 q mp (insS ⟨now + 1, t.conn, t.kind⟩ S) → Calls Try.prog 14 #[.pointer (some ⟨q, 0, none⟩)] w1 fun e w' => e = .returned (.int .i64 ((S.length : Int) + 1)) ∧ Chg none_ w1 w') := Lib.hid (fun mp w1 h => by
                have := Len_any q mp _ w1 h
                rwa [insS_len, Int.natCast_add] at this)
              have HA2 : Hid (∀ mp w1, QIs w1 q mp (insS ⟨now + 1, t.conn, t.kind⟩ S) → Calls Try.prog 17 #[.pointer (some ⟨q, 0, none⟩), .int .i64 t.conn, .int .i64 t.kind] w1 fun e w' => e = .returned (.int .u64 N) ∧ Chg none_ w1 w') := Lib.hid (fun mp w1 h => by
                have := At_any q mp _ t.key HTO.out.k w1 h
                rw [show atS t.key (insS ⟨now + 1, t.conn, t.kind⟩ S) = now + 1 by unfold atS; rw [show findS t.key (insS ⟨now + 1, t.conn, t.kind⟩ S) = some ⟨now + 1, t.conn, t.kind⟩ from find_ins (t := ⟨now + 1, t.conn, t.kind⟩) HAP.out], Int.natCast_add] at this
                subst hN
                exact this)
              have hln : S.length ≤ 99 := by simp at hS2; omega
              clear hx hx2 hy HNX hd hN hS2
              generalize S.length = len at HLN HL2 hln
              have e7 : ((len : Int) + 1 == (len : Int) + 1) = true := by rw [beq_iff_eq]
              go_wp2_with (first | (go_at_call 10; refine HD.out.mono ?_; rintro e w4 ⟨rfl, ⟨mp, hq4, hB4⟩, hc⟩; have HQ4 := Lib.hid hq4; have HB4 := Lib.hid hB4; have HL4 := Lib.hid (fun b hb => hq4.lt b hb); have HC4 := Lib.hid hc; clear hq4 hB4 hc) | (go_at_call 14; refine (HLN.out mp _ (HQ4.out.quiet ((Chg.refl none_ w4).alloc (.cells #[.int .u64 (t.at_ : Int), .int .i64 t.conn, .int .i64 t.kind] 27)))).mono ?_; rintro e w5 ⟨rfl, hc⟩; have HR5 := Lib.hid ((Row.new w4 27 [.int .u64 (t.at_ : Int), .int .i64 t.conn, .int .i64 t.kind]).chg hc (fun h => h)); have HQ5 := Lib.hid (HQ4.out.far (((Chg.refl none_ w4).alloc (.cells #[.int .u64 (t.at_ : Int), .int .i64 t.conn, .int .i64 t.kind] 27)).trans hc)); have HC5 := Lib.hid (HC4.out.trans (((Chg.refl none_ w4).alloc (.cells #[.int .u64 (t.at_ : Int), .int .i64 t.conn, .int .i64 t.kind] 27)).trans hc)); have c0 := HR5.out.cell 0; have c1 := HR5.out.cell 1; have c2 := HR5.out.cell 2; simp only [List.getElem?_cons_zero, List.getElem?_cons_succ] at c0 c1 c2; have f0 := HR5.out.frozen 0; clear hc HQ4) | (go_at_call 17; refine (HAT.out mp _ (HQ5.out _)).mono ?_; rintro e w6 ⟨rfl, hc⟩; clear c0 c1 c2 f0; have HR6 : Hid (Row w6 w4.heap.size 27 [.int .u64 N, .int .i64 t.conn, .int .i64 t.kind]) := Lib.hid ((HR5.out.set 0 (.int .u64 N)).chg hc (fun h => h)); have HQ6 := Lib.hid ((HQ5.out _).quiet hc); have HC6 := Lib.hid (((HC5.out.setCell (p := ⟨w4.heap.size, 0, none⟩) (fun h => by have := HC4.out.size; have h2 : w4.heap.size < w.heap.size := h; omega) _)).trans hc); have c0 := HR6.out.cell 0; have c1 := HR6.out.cell 1; have c2 := HR6.out.cell 2; simp only [List.getElem?_cons_zero, List.getElem?_cons_succ] at c0 c1 c2; clear hc HQ5) | (go_at_call 11; refine (HSE.out mp _ HQ6.out).mono ?_; rintro e w7 ⟨rfl, ⟨mp7, _, hq7⟩, hcq⟩; clear c0 c1 c2; have HR7 := Lib.hid (HR6.out.chg hcq (fun e => by have := HL4.out _ e; omega)); have HQ7 := Lib.hid hq7; have HC7 := Lib.hid (chg_past HB4.out H0.out HC6.out hcq); have c0 := HR7.out.cell 0; have c1 := HR7.out.cell 1; have c2 := HR7.out.cell 2; simp only [List.getElem?_cons_zero, List.getElem?_cons_succ] at c0 c1 c2; clear hq7 hcq HQ6) | (go_at_call 14; refine (HL2.out mp7 _ HQ7.out).mono ?_; rintro e w8 ⟨rfl, hc⟩; clear c0 c1 c2; have HR8 := Lib.hid (HR7.out.chg hc (fun h => h)); have HQ8 := Lib.hid (HQ7.out.quiet hc); have HC8 := Lib.hid (HC7.out.trans hc); have c0 := HR8.out.cell 0; have c1 := HR8.out.cell 1; have c2 := HR8.out.cell 2; simp only [List.getElem?_cons_zero, List.getElem?_cons_succ] at c0 c1 c2; clear hc HQ7) | (go_at_call 17; refine (HA2.out mp7 _ HQ8.out).mono ?_; rintro e w9 ⟨rfl, hc⟩; have HC9 := Lib.hid (HC8.out.trans hc); clear hc HQ8))
              go_ret
              exact ⟨rfl, HC9.out⟩
        · have d1 : (now : Int) < (t.at_ : Int) := by omega
          have HD : Hid (Calls Try.prog 10 #[.pointer (some ⟨q, 0, none⟩), .int .u64 (now : Int)] wr fun e w' => e = .returned (.tuple #[.agg #[.int .u64 0, .int .i64 0, .int .i64 0], .bool false]) ∧ Chg none_ wr w') := Lib.hid (by
            obtain ⟨mp, h1, _⟩ := HQ.out
            exact Due_late q mp t S now wr h1 (by omega))
          go_wp2_with (first | (go_at_call 10; refine HD.out.mono ?_; rintro e w4 ⟨rfl, hc⟩; have HQ4 := Lib.hid (HQ.out.quiet (hc.trans ((Chg.refl none_ w4).alloc (.cells #[.int .u64 0, .int .i64 0, .int .i64 0] 27)))); have HC4 := Lib.hid (HC.out.trans (hc.trans ((Chg.refl none_ w4).alloc (.cells #[.int .u64 0, .int .i64 0, .int .i64 0] 27)))); clear hc) | (go_at_call 16; refine (HNX.out _ HQ4.out).mono ?_; rintro e w5 ⟨rfl, hc⟩; have HQ5 := Lib.hid (HQ4.out.quiet hc); have HC5 := Lib.hid (HC4.out.trans hc); clear hc HQ4) | (go_at_call 16; refine (HNX.out _ HQ5.out).mono ?_; rintro e w6 ⟨rfl, hc⟩; have HQ6 := Lib.hid (HQ5.out.quiet hc); have HC6 := Lib.hid (HC5.out.trans hc); clear hc HQ5))
          go_ret
          exact ⟨rfl, HC5.out⟩
end Go.Proofs.Ytblpgpolhibfgaa
