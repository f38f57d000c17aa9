/- Layer 12 (timers): the document's Set. -/
import Derived.Test.YtblpgpolhibfgaaV12RCan
namespace Go.Proofs.Ytblpgpolhibfgaa
open Go.RowKit

section
variable {o : Oper} {a : Act} {w w0 : World} {K : Act → World → Prop} {Q : Exit → Act → World → Prop}
theorem wp_append_T2 (s x : Operand) (ho : o.op = .call { callee := .builtin .append, args := #[s, x], argTypes := #[34, 34] }) {base : Nat} {v : Value} {L M : List Tm} {T : Nat → Prop} {A : Option Addr} {m c : Nat}
    (hs : a.eval s = v) (hown : OwnedT w base v L) (hx : a.eval x = .slice A m c) (hv : View w T A (m * 3) (tcells M)) (hlen : L.length + m ≤ 1000000) (hbase : base ≤ w.heap.size) (hc0 : Chg none_ w0 w) (hb0 : w0.heap.size ≤ base)
    (k : ∀ v' w', OwnedT w' base v' (L ++ M) → Chg none_ w0 w' → Chg (fun b => v.ownBlock = some b) w w' → K (a.put o.dst v') w') : Oper.wp Try.prog o a w K Q := by
  obtain ⟨i0, hi, hz0, hz1, hz2⟩ := infoTm_parts
  have hm : M.length = m := by have := hv.1; rw [tcells_len] at this; omega
  obtain ⟨v', w', hr, h2, h3⟩ := run_append_viewN (P := Try.prog) w 34 o.type 27 i0 _ 3 24 Try.underlying34 hi hz0 hz1 hz2 rfl (by decide) base v L.length (tcells L) hown T A m c (tcells M) hv (tcells_one _) (by unfold maxLen; omega) (by omega) hbase
  unfold Oper.wp execOp
  simp only [ho, resolve, invoke, builtin, Sem.run_bind, Sem.run_pure, Result.andThen_ok, List.map_toArray, List.map_cons, List.map_nil, hs, hx, hr]
  refine k v' w' ?_ (hc0.appendN hb0 hown h3) (Chg.of_grown h3)
  unfold OwnedT
  rw [List.length_append, hm, show tcells (L ++ M) = tcells L ++ tcells M by simp [tcells]]
  exact h2
end

theorem ins_at {t : Tm} : ∀ {R : List Tm} {p : Nat}, Srt R → p ≤ R.length → (∀ m, p ≤ m → m < R.length → Ah t (tm R m)) → (0 < p → ¬ Ah t (tm R (p - 1))) → insS t R = R.take p ++ t :: R.drop p
  | [], p, _, hp, _, _ => by
    have : p = 0 := by simpa using hp
    subst this
    rfl
  | a :: R, 0, _, _, h, _ => by
    have h0 : Ah t a := h 0 (Nat.le_refl _) (by simp)
    unfold insS
    rw [if_pos h0]
    rfl
  | a :: R, p + 1, hs, hp, h, h2 => by
    obtain ⟨s1, s2⟩ := List.pairwise_cons.1 hs
    have hn : ¬ Ah t (tm (a :: R) p) := h2 (by omega)
    have hp' : p ≤ R.length := by simpa using hp
    have ha : ¬ Ah t a := fun ha => by
      rcases p with _ | p
      · exact hn ha
      · exact hn (ha.trans (s1 _ (tm_mem (l := R) (k := p) (by omega))))
    have := ins_at (p := p) s2 hp' (fun m h3 h4 => h (m + 1) (by omega) (by simpa using h4)) (fun h3 => by
      rcases p with _ | p
      · omega
      · exact hn)
    unfold insS
    rw [if_neg ha, this]
    rfl

set_option maxRecDepth 100000 in
set_option maxHeartbeats 40000000 in
theorem RSet_any (r : Nat) (T : Nat → Prop) (S : List Tm) (t : Tm) (w : World) (h : RQ w T r S) (hs : S.length ≤ 200) (hn : (S.map Tm.key).Nodup) (hsrt : Srt S) (hnv : ∀ x ∈ S, x.at_ ≠ NV) :
    Calls Try.prog 19 #[.pointer (some ⟨r, 0, none⟩), .agg (tcell t).toArray] w fun e w' => e = .returned (.bool (setB t S)) ∧ RQ w' (fun b => T b ∨ w.heap.size ≤ b) r (setS t S) ∧ Chg (· = r) w w' := by
  have HQ := Lib.hid h
  have HRL := Lib.hid h.lt
  obtain ⟨R, hR⟩ : ∃ R, R = remS t.key S := ⟨_, rfl⟩
  have HSR : Hid (Srt R) := Lib.hid (hR ▸ remS_srt hsrt)
  have hRl : R.length ≤ 200 := by rw [hR]; exact Nat.le_trans (List.length_filter_le _ _) hs
  have HCA : Hid (∀ w1, RQ w1 T r S → Calls Try.prog 20 #[.pointer (some ⟨r, 0, none⟩), .int .i64 t.conn, .int .i64 t.kind] w1 fun e w' => e = .returned (.bool (findS t.key S).isSome) ∧ RQ w' (fun b => T b ∨ w1.heap.size ≤ b) r R ∧ Chg (· = r) w1 w') := Lib.hid (fun w1 h => by rw [hR]; exact RCancel_any r T S t.key w1 h hs hn)
  have HAT : Hid (∀ w1, RQ w1 T r S → Calls Try.prog 24 #[.pointer (some ⟨r, 0, none⟩), .int .i64 t.conn, .int .i64 t.kind] w1 fun e w' => e = .returned (.int .u64 ((atS t.key S : Nat) : Int)) ∧ w' = w1) := Lib.hid (fun w1 h => RAt_any r T S t.key w1 h (by omega))
  clear h
  by_cases htn : t.at_ = NV
  · have e1 : setB t S = true := by unfold setB; rw [decide_eq_true htn]; rfl
    have e2 : setS t S = R := by unfold setS; rw [if_pos htn, hR]
    have q1 : ((t.at_ : Int) == 18446744073709551615) = true := by rw [beq_iff_eq, htn]; rfl
    rw [e1, e2]
    generalize (findS t.key S).isSome = fb at HCA
    clear e1 e2 htn hR hsrt hnv hn HAT
    go_enter Try.func19, Try.ntmps19
    go_wp2_with (first | ((with_reducible show wpList _ _ _ (⟨some 3, .box _ _, _, _, _, _⟩ :: _) _ _); refine wpList_box_Row rfl rfl (tcell t) rfl ?_; intro w1 hr1 hc1 hs1; have HR1 := Lib.hid hr1; have HC1 := Lib.hid hc1; have HG1 := Lib.hid (show w.heap.size < w1.heap.size by omega); have HQ1 := Lib.hid (HQ.out.quiet hc1); have x0 := hr1.cell 0; have x1 := hr1.cell 1; have x2 := hr1.cell 2; simp only [tcell, List.getElem?_cons_zero, List.getElem?_cons_succ] at x0 x1 x2; clear hr1 hc1 hs1) | (go_at_call 20; refine (HCA.out _ HQ1.out).mono ?_; rintro e w4 ⟨rfl, hq4, hc4⟩; clear x0 x1 x2; have HQ4 := Lib.hid (hq4.mono (T' := fun b => T b ∨ w.heap.size ≤ b) (fun b _ h => h.imp id (fun h => Nat.le_trans HC1.out.size h))); have HC4 := Lib.hid (show Chg (· = r) w w4 from (HC1.out.mono (fun _ _ h => h.elim)).trans hc4); have HR4 := Lib.hid (HR1.out.chg hc4 (fun (e : w.heap.size = r) => by have := HRL.out; omega)); clear hq4 hc4))
    go_ret
    exact ⟨rfl, HQ4.out, HC4.out⟩
  · have q1 : ((t.at_ : Int) == 18446744073709551615) = false := by rw [beq_eq_false_iff_ne]; unfold NV at htn; omega
    have hat : (findS t.key S = none ∧ (((atS t.key S : Nat) : Int) == 18446744073709551615) = true) ∨ ((findS t.key S).isSome = true ∧ (((atS t.key S : Nat) : Int) == 18446744073709551615) = false) := by
      unfold atS
      cases hf : findS t.key S with
      | none => exact Or.inl ⟨rfl, rfl⟩
      | some x =>
        refine Or.inr ⟨rfl, ?_⟩
        have := hnv x (List.mem_of_find?_eq_some hf)
        unfold NV at this
        rw [beq_eq_false_iff_ne]
        show ((x.at_ : Nat) : Int) ≠ _
        omega
    by_cases hfull : findS t.key S = none ∧ 200 ≤ S.length
    · have q2 : (((atS t.key S : Nat) : Int) == 18446744073709551615) = true := hat.elim (·.2) (fun h => by rw [hfull.1] at h; cases h.1)
      have q3 : (200 : Int) ≤ (S.length : Int) := by omega
      have e1 : setB t S = false := by unfold setB; rw [decide_eq_false htn, hfull.1, decide_eq_false (by omega)]; rfl
      have e2 : setS t S = S := by unfold setS; rw [if_neg htn, if_neg (by rw [hfull.1]; simp; omega)]
      obtain ⟨A, cap, hr, hcap, hmx, hv⟩ := HQ.out
      have HRW := Lib.hid hr
      rw [e1, e2]
      clear e1 e2 htn hR hsrt hnv hn hat hfull hr hv
      generalize atS t.key S = av at *
      go_enter Try.func19, Try.ntmps19
      go_wp2_with (first | ((with_reducible show wpList _ _ _ (⟨some 3, .box _ _, _, _, _, _⟩ :: _) _ _); refine wpList_box_Row rfl rfl (tcell t) rfl ?_; intro w1 hr1 hc1 hs1; have HR1 := Lib.hid hr1; have HC1 := Lib.hid hc1; have HG1 := Lib.hid (show w.heap.size < w1.heap.size by omega); have HQ1 := Lib.hid (HQ.out.quiet hc1); have x0 := hr1.cell 0; have x1 := hr1.cell 1; have x2 := hr1.cell 2; simp only [tcell, List.getElem?_cons_zero, List.getElem?_cons_succ] at x0 x1 x2; have cq := (HRW.out.chg hc1 (fun h => h)).cell 0; simp only [List.getElem?_cons_zero] at cq; clear hr1 hc1 hs1) | (go_at_call 24; refine (HAT.out _ HQ1.out).mono ?_; rintro e w2 ⟨rfl, rfl⟩))
      go_ret
      exact ⟨rfl, HQ1.out.mono (fun _ _ h => Or.inl h), HC1.out.mono (fun _ _ h => h.elim)⟩
    · have e1 : setB t S = true := by
        unfold setB
        rcases hat with h | h
        · rw [decide_eq_true (show S.length < 200 by have := hfull; rw [h.1] at this; simp at this; omega)]; simp
        · rw [h.1]; simp
      have e2 : setS t S = insS t R := by
        unfold setS
        rw [if_neg htn, if_pos, hR]
        rcases hat with h | h
        · exact Or.inr (by have := hfull; rw [h.1] at this; simp at this; omega)
        · exact Or.inl h.1
      have hc : ((((atS t.key S : Nat) : Int) == 18446744073709551615) = true ∧ ¬ (200 : Int) ≤ (S.length : Int)) ∨ (((atS t.key S : Nat) : Int) == 18446744073709551615) = false := by
        rcases hat with h | h
        · exact Or.inl ⟨h.2, by have := hfull; rw [h.1] at this; simp at this; omega⟩
        · exact Or.inr h.2
      obtain ⟨A, cap, hr, hcap, hmx, hv⟩ := HQ.out
      have HRW := Lib.hid hr
      rw [e1, e2]
      generalize atS t.key S = av at *
      generalize (findS t.key S).isSome = fb at HCA
      clear e1 e2 htn hR hsrt hnv hn hat hfull hr hv
      rcases hc with ⟨q2, q3⟩ | q2
      · go_enter Try.func19, Try.ntmps19
        go_wp2_with (first | ((with_reducible show wpList _ _ _ (⟨some 3, .box _ _, _, _, _, _⟩ :: _) _ _); refine wpList_box_Row rfl rfl (tcell t) rfl ?_; intro w1 hr1 hc1 hs1; have HR1 := Lib.hid hr1; have HC1 := Lib.hid hc1; have HG1 := Lib.hid (show w.heap.size < w1.heap.size by omega); have HQ1 := Lib.hid (HQ.out.quiet hc1); have x0 := hr1.cell 0; have x1 := hr1.cell 1; have x2 := hr1.cell 2; simp only [tcell, List.getElem?_cons_zero, List.getElem?_cons_succ] at x0 x1 x2; have cq := (HRW.out.chg hc1 (fun h => h)).cell 0; simp only [List.getElem?_cons_zero] at cq; clear hr1 hc1 hs1) | (go_at_call 24; refine (HAT.out _ HQ1.out).mono ?_; rintro e w2 ⟨rfl, rfl⟩) | (go_at_call 20; refine (HCA.out _ HQ1.out).mono ?_; rintro e w4 ⟨rfl, hq4, hc4⟩; clear x0 x1 x2 cq; have HQ4 := Lib.hid (hq4.mono (T' := fun b => T b ∨ w.heap.size ≤ b) (fun b _ h => h.imp id (fun h => Nat.le_trans HC1.out.size h))); have HC4 := Lib.hid (show Chg (· = r) w w4 from (HC1.out.mono (fun _ _ h => h.elim)).trans hc4); have HR4 := Lib.hid (HR1.out.chg hc4 (fun (e : w.heap.size = r) => by have := HRL.out; omega)); clear hq4 hc4; obtain ⟨A4, cap4, hr4, hcap4, hmx4, hv4⟩ := HQ4.out; have c4 : w4.cell? ⟨r, 0, none⟩ = some (.slice A4 R.length cap4) := hr4.cell 0; have HRW4 := Lib.hid hr4; have HRL4 := Lib.hid hr4.lt; have HV4 := Lib.hid hv4; clear hr4 hv4))
        have HBX : Hid (∀ x, Chg none_ w4 x → x.rangeAt w.heap.size 0 (tcell t)) := Lib.hid (fun x hx => (HR4.out.chg hx (fun h => h)).range)
        have HSZ4 := Lib.hid HC4.out.size
        go_loopw [5] (fun i wr => ∃ p : Nat, i = .int .i64 (p : Int) ∧ p ≤ R.length ∧ (∀ m, p ≤ m → m < R.length → Ah t (tm R m)) ∧ Chg none_ w4 wr) (fun i _ => (intOf i).toNat)
        case atStart => exact ⟨R.length, rfl, Nat.le_refl _, fun m h1 h2 => absurd h2 (by omega), Chg.refl _ _⟩
        case round =>
          obtain ⟨p, rfl, hp, hm, hcr⟩ := hrel
          have HRB := Lib.hid hm
          by_cases hp0 : p = 0
          · have HP0 : Hid (p = 0) := Lib.hid hp0
            have hin : insS t R = R.take p ++ t :: R.drop p := ins_at HSR.out hp hm (fun h => absurd h (by omega))
            clear hm hp0
            go_wp2
            refine wp_region_late (fun x => Chg none_ w4 x) 13 (by kernel_rfl) ?_
            have hy : Chg none_ w4 wr.drew := hcr.drew
            generalize wr.drew = wy at hy ⊢
            refine late_take (i := 0) (v := .int .i64 (p : Int)) [1, 2, 13] rfl (by kernel_rfl) (by kernel_rfl) (by kernel_rfl) (by kernel_rfl) (by first | exact fun _ _ _ h => h | exact fun _ _ _ h => nomatch h.1) (Or.inl ⟨by rfl, fun w_ hw_ => by go_simp⟩) hy ?_
            try simp only [Act.put, List.setIfInBounds_toArray, List.set_cons_zero, List.set_cons_succ, List.getElem_toArray, List.getElem_cons_zero]
            refine late_take (i := 1) (v := .bool false) [2, 13] rfl (by kernel_rfl) (by kernel_rfl) (by kernel_rfl) (by kernel_rfl) (by first | exact fun _ _ _ h => h | exact fun _ _ _ h => nomatch h.1) (Or.inl ⟨by rfl, fun w_ hw_ => by have p0_ := HP0.out; go_simp⟩) hy ?_
            try simp only [Act.put, List.setIfInBounds_toArray, List.set_cons_zero, List.set_cons_succ, List.getElem_toArray, List.getElem_cons_succ, List.getElem_cons_zero]
            refine late_take (i := 2) (v := .bool false) [13] rfl (by kernel_rfl) (by kernel_rfl) (by kernel_rfl) (by kernel_rfl) (by first | exact fun _ _ _ h => h | exact fun _ _ _ h => nomatch h.1) (Or.inl ⟨by rfl, fun w_ hw_ => by go_simp⟩) hy ?_
            try simp only [Act.put, List.setIfInBounds_toArray, List.set_cons_zero, List.set_cons_succ, List.getElem_toArray, List.getElem_cons_succ, List.getElem_cons_zero]
            refine late_take (i := 3) (v := undef) [12, 13] rfl (by kernel_rfl) (by kernel_rfl) (by kernel_rfl) (by kernel_rfl) (by first | exact fun _ _ _ h => h | exact fun _ _ _ h => nomatch h.1) (Or.inr ⟨by rfl, rfl⟩) hy ?_
            try simp only [Act.put, List.setIfInBounds_toArray, List.set_cons_zero, List.set_cons_succ, List.getElem_toArray, List.getElem_cons_succ, List.getElem_cons_zero]
            refine late_take (i := 4) (v := undef) [5, 6, 7, 10, 11, 12, 13] rfl (by kernel_rfl) (by kernel_rfl) (by kernel_rfl) (by kernel_rfl) (by first | exact fun _ _ _ h => h | exact fun _ _ _ h => nomatch h.1) (Or.inr ⟨by rfl, rfl⟩) hy ?_
            try simp only [Act.put, List.setIfInBounds_toArray, List.set_cons_zero, List.set_cons_succ, List.getElem_toArray, List.getElem_cons_succ, List.getElem_cons_zero]
            refine late_take (i := 5) (v := undef) [6, 7, 10, 11, 12, 13] rfl (by kernel_rfl) (by kernel_rfl) (by kernel_rfl) (by kernel_rfl) (by first | exact fun _ _ _ h => h | exact fun _ _ _ h => nomatch h.1) (Or.inr ⟨by rfl, rfl⟩) hy ?_
            try simp only [Act.put, List.setIfInBounds_toArray, List.set_cons_zero, List.set_cons_succ, List.getElem_toArray, List.getElem_cons_succ, List.getElem_cons_zero]
            refine late_take (i := 6) (v := undef) [7, 10, 11, 12, 13] rfl (by kernel_rfl) (by kernel_rfl) (by kernel_rfl) (by kernel_rfl) (by first | exact fun _ _ _ h => h | exact fun _ _ _ h => nomatch h.1) (Or.inr ⟨by rfl, rfl⟩) hy ?_
            try simp only [Act.put, List.setIfInBounds_toArray, List.set_cons_zero, List.set_cons_succ, List.getElem_toArray, List.getElem_cons_succ, List.getElem_cons_zero]
            refine late_take (i := 7) (v := undef) [10, 11, 12, 13] rfl (by kernel_rfl) (by kernel_rfl) (by kernel_rfl) (by kernel_rfl) (by first | exact fun _ _ _ h => h | exact fun _ _ _ h => nomatch h.1) (Or.inr ⟨by rfl, rfl⟩) hy ?_
            try simp only [Act.put, List.setIfInBounds_toArray, List.set_cons_zero, List.set_cons_succ, List.getElem_toArray, List.getElem_cons_succ, List.getElem_cons_zero]
            refine late_take (i := 8) (v := undef) [9, 10, 11, 12, 13] rfl (by kernel_rfl) (by kernel_rfl) (by kernel_rfl) (by kernel_rfl) (by first | exact fun _ _ _ h => h | exact fun _ _ _ h => nomatch h.1) (Or.inr ⟨by rfl, rfl⟩) hy ?_
            try simp only [Act.put, List.setIfInBounds_toArray, List.set_cons_zero, List.set_cons_succ, List.getElem_toArray, List.getElem_cons_succ, List.getElem_cons_zero]
            refine late_take (i := 9) (v := undef) [10, 11, 12, 13] rfl (by kernel_rfl) (by kernel_rfl) (by kernel_rfl) (by kernel_rfl) (by first | exact fun _ _ _ h => h | exact fun _ _ _ h => nomatch h.1) (Or.inr ⟨by rfl, rfl⟩) hy ?_
            try simp only [Act.put, List.setIfInBounds_toArray, List.set_cons_zero, List.set_cons_succ, List.getElem_toArray, List.getElem_cons_succ, List.getElem_cons_zero]
            refine late_take (i := 10) (v := undef) [11, 12, 13] rfl (by kernel_rfl) (by kernel_rfl) (by kernel_rfl) (by kernel_rfl) (by first | exact fun _ _ _ h => h | exact fun _ _ _ h => nomatch h.1) (Or.inr ⟨by rfl, rfl⟩) hy ?_
            try simp only [Act.put, List.setIfInBounds_toArray, List.set_cons_zero, List.set_cons_succ, List.getElem_toArray, List.getElem_cons_succ, List.getElem_cons_zero]
            refine late_take (i := 11) (v := undef) [12, 13] rfl (by kernel_rfl) (by kernel_rfl) (by kernel_rfl) (by kernel_rfl) (by first | exact fun _ _ _ h => h | exact fun _ _ _ h => nomatch h.1) (Or.inr ⟨by rfl, rfl⟩) hy ?_
            try simp only [Act.put, List.setIfInBounds_toArray, List.set_cons_zero, List.set_cons_succ, List.getElem_toArray, List.getElem_cons_succ, List.getElem_cons_zero]
            refine late_take (i := 12) (v := undef) [13] rfl (by kernel_rfl) (by kernel_rfl) (by kernel_rfl) (by kernel_rfl) (by first | exact fun _ _ _ h => h | exact fun _ _ _ h => nomatch h.1) (Or.inr ⟨by rfl, rfl⟩) hy ?_
            try simp only [Act.put, List.setIfInBounds_toArray, List.set_cons_zero, List.set_cons_succ, List.getElem_toArray, List.getElem_cons_succ, List.getElem_cons_zero]
            refine late_last (by kernel_rfl) rfl (by kernel_rfl) (fun K hK => ?_)
            rw [if_pos (by rfl)]
            try simp only [List.getElem_toArray, List.getElem_cons_succ, List.getElem_cons_zero]
            go_simp
            refine hK.out _ _ ?_
            clear hK K
            try simp only [Act.put, List.setIfInBounds_toArray, List.set_cons_zero, List.set_cons_succ, List.getElem_toArray, List.getElem_cons_succ, List.getElem_cons_zero]
            go_wp2
            have HV1 : Hid (View w4 (fun b => T b ∨ w.heap.size ≤ b) (highN A4 cap4) (p * 3) (tcells (R.take p))) := Lib.hid (by
              rw [tcells_take]
              exact (HV4.out.highN cap4).take (Nat.mul_le_mul_right 3 hp))
            have HV2 : Hid (View w4 (fun b => T b ∨ w.heap.size ≤ b) (dropN A4 cap4 p 3) ((R.length - p) * 3) (tcells (R.drop p))) := Lib.hid (by
              rw [tcells_drop]
              exact HV4.out.dropN hcap4)
            obtain ⟨D, hD⟩ : ∃ D, D = [] ++ R.take p ++ [t] ++ R.drop p := ⟨_, rfl⟩
            have HDD := Lib.hid hD
            have HFIN : Hid (∀ (x : World) A3 cap3, Chg none_ w4 x → D.length ≤ cap3 → cap3 ≤ maxLen → View x (fun b => w4.heap.size ≤ b) A3 (D.length * 3) (tcells D) →
                RQ (x.setCell ⟨r, 0, none⟩ (.slice A3 D.length cap3)) (fun b => T b ∨ w.heap.size ≤ b) r (insS t R) ∧ Chg (· = r) w (x.setCell ⟨r, 0, none⟩ (.slice A3 D.length cap3))) := Lib.hid (fun x A3 cap3 hc g1 g2 g3 => by
              have hD' : D = insS t R := by rw [hD, hin, List.nil_append, List.append_assoc]; rfl
              rw [hD'] at g1 g3 ⊢
              have hlt' := HRL4.out
              exact ⟨⟨A3, cap3, (HRW4.out.chg hc (fun h => h)).set 0 _, g1, g2, (g3.setCell ⟨r, 0, none⟩ (fun (h : w4.heap.size ≤ r) => by omega) _).mono (fun _ _ h => Or.inr (Nat.le_trans HSZ4.out h))⟩, (HC4.out.trans (show Chg (· = r) w4 x from hc.mono (fun _ _ h => h.elim))).setCell (p := ⟨r, 0, none⟩) (fun _ => rfl) _⟩)
            clear hD hin
            refine wp_region_late (fun x => Chg none_ w4 x) 21 (by kernel_rfl) ?_
            have hz : Chg none_ w4 wy.drew := hy.drew
            generalize wy.drew = wz at hz ⊢
            refine late_take (i := 0) (v := .pointer (some ⟨r, 0, none⟩)) [19, 20, 21] rfl (by kernel_rfl) (by kernel_rfl) (by kernel_rfl) (by kernel_rfl) (by first | exact fun _ _ _ h => h | exact fun _ _ _ h => nomatch h.1) (Or.inl ⟨by rfl, fun w_ hw_ => by go_simp⟩) hz ?_
            try simp only [Act.put, List.setIfInBounds_toArray, List.set_cons_zero, List.set_cons_succ, List.getElem_toArray, List.getElem_cons_zero]
            refine late_take (i := 2) (v := .pointer (some ⟨r, 0, none⟩)) [3, 4, 5, 7, 8, 11, 18, 21] rfl (by kernel_rfl) (by kernel_rfl) (by kernel_rfl) (by kernel_rfl) (by first | exact fun _ _ _ h => h | exact fun _ _ _ h => nomatch h.1) (Or.inl ⟨by rfl, fun w_ hw_ => by go_simp⟩) hz ?_
            try simp only [Act.put, List.setIfInBounds_toArray, List.set_cons_zero, List.set_cons_succ, List.getElem_toArray, List.getElem_cons_succ, List.getElem_cons_zero]
            refine late_take (i := 3) (v := .pointer (some ⟨r, 0, none⟩)) [4, 5, 7, 8, 11, 18, 21] rfl (by kernel_rfl) (by kernel_rfl) (by kernel_rfl) (by kernel_rfl) (by first | exact fun _ _ _ h => h | exact fun _ _ _ h => nomatch h.1) (Or.inl ⟨by rfl, fun w_ hw_ => by go_simp⟩) hz ?_
            try simp only [Act.put, List.setIfInBounds_toArray, List.set_cons_zero, List.set_cons_succ, List.getElem_toArray, List.getElem_cons_succ, List.getElem_cons_zero]
            refine late_take (i := 4) (v := .pointer (some ⟨r, 0, none⟩)) [5, 7, 8, 11, 18, 21] rfl (by kernel_rfl) (by kernel_rfl) (by kernel_rfl) (by kernel_rfl) (by first | exact fun _ _ _ h => h | exact fun _ _ _ h => nomatch h.1) (Or.inl ⟨by rfl, fun w_ hw_ => by go_simp⟩) hz ?_
            try simp only [Act.put, List.setIfInBounds_toArray, List.set_cons_zero, List.set_cons_succ, List.getElem_toArray, List.getElem_cons_succ, List.getElem_cons_zero]
            refine late_take (i := 5) (v := .slice A4 R.length cap4) [7, 8, 11, 18, 21] rfl (by kernel_rfl) (by kernel_rfl) (by kernel_rfl) (by kernel_rfl) (by first | exact fun _ _ _ h => h | exact fun _ _ _ h => nomatch h.1) (Or.inl ⟨by rfl, fun w_ hw_ => by have c0_ := (Chg.cell hw_ 0 HRL4.out (fun h => h)).trans c4; go_simp⟩) hz ?_
            try simp only [Act.put, List.setIfInBounds_toArray, List.set_cons_zero, List.set_cons_succ, List.getElem_toArray, List.getElem_cons_succ, List.getElem_cons_zero]
            refine late_take (i := 6) (v := .int .i64 (p : Int)) [7, 8, 11, 18, 21] rfl (by kernel_rfl) (by kernel_rfl) (by kernel_rfl) (by kernel_rfl) (by first | exact fun _ _ _ h => h | exact fun _ _ _ h => nomatch h.1) (Or.inl ⟨by rfl, fun w_ hw_ => by go_simp⟩) hz ?_
            try simp only [Act.put, List.setIfInBounds_toArray, List.set_cons_zero, List.set_cons_succ, List.getElem_toArray, List.getElem_cons_succ, List.getElem_cons_zero]
            refine late_take (i := 7) (v := .slice (highN A4 cap4) p cap4) [8, 11, 18, 21] rfl (by kernel_rfl) (by kernel_rfl) (by kernel_rfl) (by kernel_rfl) (by first | exact fun _ _ _ h => h | exact fun _ _ _ h => nomatch h.1) (yieldsIf_slice_highN (by rfl) 34 27 _ _ rfl A4 R.length cap4 p 3 rfl rfl Try.underlying34 sizeTm (by omega)) hz ?_
            try simp only [Act.put, List.setIfInBounds_toArray, List.set_cons_zero, List.set_cons_succ, List.getElem_toArray, List.getElem_cons_succ, List.getElem_cons_zero]
            refine late_take (i := 9) (v := .agg (tcell t).toArray) [10, 11, 18, 21] rfl (by kernel_rfl) (by kernel_rfl) (by kernel_rfl) (by kernel_rfl) (by first | exact fun _ _ _ h => h | exact fun _ _ _ h => nomatch h.1) (yieldsIf_load_mid (by rfl) 27 _ rfl w.heap.size 0 rfl (tcell t) _ (fun w' hw' => HBX.out w' hw') Try.underlying27 rfl sizeTm) hz ?_
            try simp only [Act.put, List.setIfInBounds_toArray, List.set_cons_zero, List.set_cons_succ, List.getElem_toArray, List.getElem_cons_succ, List.getElem_cons_zero]
            refine late_take (i := 12) (v := .pointer (some ⟨r, 0, none⟩)) [13, 14, 15, 17, 18, 21] rfl (by kernel_rfl) (by kernel_rfl) (by kernel_rfl) (by kernel_rfl) (by first | exact fun _ _ _ h => h | exact fun _ _ _ h => nomatch h.1) (Or.inl ⟨by rfl, fun w_ hw_ => by go_simp⟩) hz ?_
            try simp only [Act.put, List.setIfInBounds_toArray, List.set_cons_zero, List.set_cons_succ, List.getElem_toArray, List.getElem_cons_succ, List.getElem_cons_zero]
            refine late_take (i := 13) (v := .pointer (some ⟨r, 0, none⟩)) [14, 15, 17, 18, 21] rfl (by kernel_rfl) (by kernel_rfl) (by kernel_rfl) (by kernel_rfl) (by first | exact fun _ _ _ h => h | exact fun _ _ _ h => nomatch h.1) (Or.inl ⟨by rfl, fun w_ hw_ => by go_simp⟩) hz ?_
            try simp only [Act.put, List.setIfInBounds_toArray, List.set_cons_zero, List.set_cons_succ, List.getElem_toArray, List.getElem_cons_succ, List.getElem_cons_zero]
            refine late_take (i := 14) (v := .pointer (some ⟨r, 0, none⟩)) [15, 17, 18, 21] rfl (by kernel_rfl) (by kernel_rfl) (by kernel_rfl) (by kernel_rfl) (by first | exact fun _ _ _ h => h | exact fun _ _ _ h => nomatch h.1) (Or.inl ⟨by rfl, fun w_ hw_ => by go_simp⟩) hz ?_
            try simp only [Act.put, List.setIfInBounds_toArray, List.set_cons_zero, List.set_cons_succ, List.getElem_toArray, List.getElem_cons_succ, List.getElem_cons_zero]
            refine late_take (i := 15) (v := .slice A4 R.length cap4) [17, 18, 21] rfl (by kernel_rfl) (by kernel_rfl) (by kernel_rfl) (by kernel_rfl) (by first | exact fun _ _ _ h => h | exact fun _ _ _ h => nomatch h.1) (Or.inl ⟨by rfl, fun w_ hw_ => by have c0_ := (Chg.cell hw_ 0 HRL4.out (fun h => h)).trans c4; go_simp⟩) hz ?_
            try simp only [Act.put, List.setIfInBounds_toArray, List.set_cons_zero, List.set_cons_succ, List.getElem_toArray, List.getElem_cons_succ, List.getElem_cons_zero]
            refine late_take (i := 16) (v := .int .i64 (p : Int)) [17, 18, 21] rfl (by kernel_rfl) (by kernel_rfl) (by kernel_rfl) (by kernel_rfl) (by first | exact fun _ _ _ h => h | exact fun _ _ _ h => nomatch h.1) (Or.inl ⟨by rfl, fun w_ hw_ => by go_simp⟩) hz ?_
            try simp only [Act.put, List.setIfInBounds_toArray, List.set_cons_zero, List.set_cons_succ, List.getElem_toArray, List.getElem_cons_succ, List.getElem_cons_zero]
            refine late_take (i := 17) (v := .slice (dropN A4 cap4 p 3) (R.length - p) (cap4 - p)) [18, 21] rfl (by kernel_rfl) (by kernel_rfl) (by kernel_rfl) (by kernel_rfl) (by first | exact fun _ _ _ h => h | exact fun _ _ _ h => nomatch h.1) (yieldsIf_slice_lowN (by rfl) 34 27 _ _ rfl A4 R.length cap4 p 3 rfl rfl Try.underlying34 sizeTm (by omega)) hz ?_
            try simp only [Act.put, List.setIfInBounds_toArray, List.set_cons_zero, List.set_cons_succ, List.getElem_toArray, List.getElem_cons_succ, List.getElem_cons_zero]
            refine late_two (i := 1) (j := 10) (by kernel_rfl) rfl rfl (fun K hK => ?_) (fun K hK => ?_)
            · rw [if_pos (by rfl)]
              try simp only [List.getElem_toArray, List.getElem_cons_succ, List.getElem_cons_zero]
              refine wp_new_row (v := fun g => .slice (some ⟨g, 0, none⟩) 0 0) (e := 27) (cs := []) (fun w_ => by go_simp) ?_
              intro x1 hr_x1 hc_x1 hs_x1
              have h1 : Chg none_ w4 x1 := hz.trans hc_x1
              have o58 : OwnedT x1 w4.heap.size (.slice (some ⟨wz.heap.size, 0, none⟩) 0 0) [] := OwnedT.lit0 hr_x1 hz.size
              refine hK.out _ _ h1 ?_
              clear hK K
              try simp only [Act.put, List.setIfInBounds_toArray, List.set_cons_zero, List.set_cons_succ]
              refine late_two (i := 8) (j := 10) (by kernel_rfl) rfl rfl (fun K hK => ?_) (fun K hK => ?_)
              · rw [if_pos (by rfl)]
                try simp only [List.getElem_toArray, List.getElem_cons_succ, List.getElem_cons_zero]
                refine wp_append_T2 (.tmp 58) (.tmp 64) rfl (base := w4.heap.size) (v := .slice (some ⟨wz.heap.size, 0, none⟩) 0 0) (L := []) (M := R.take p) (T := (fun b => T b ∨ w.heap.size ≤ b)) (A := highN A4 cap4) (m := p) (c := cap4) (w0 := w4) rfl o58 rfl ((HV1.out.chg h1 (fun _ _ h => h))) (by simp; omega) h1.size h1 (Nat.le_refl _) ?_
                intro v65 x2 o65 h2 hg_x2
                refine hK.out _ _ h2 ?_
                clear hK K
                try simp only [Act.put, List.setIfInBounds_toArray, List.set_cons_zero, List.set_cons_succ]
                refine late_one (i := 10) (by kernel_rfl) rfl (fun K hK => ?_)
                rw [if_pos (by rfl)]
                try simp only [List.getElem_toArray, List.getElem_cons_succ, List.getElem_cons_zero]
                refine wp_new_row (v := fun g => .slice (some ⟨g, 0, none⟩) 1 1) (e := 27) (cs := tcell t) (fun w_ => by go_simp; try rfl) ?_
                intro x3 hr_x3 hc_x3 hs_x3
                have h3 : Chg none_ w4 x3 := h2.trans hc_x3
                have v67 : View x3 (fun b => b = x2.heap.size) (some ⟨x2.heap.size, 0, none⟩) (1 * 3) (tcells [t]) := View.row (cs := tcell t) hr_x3 (n := 3) (by rw [tcell_len]; exact Nat.le_refl _) rfl
                refine hK.out _ _ h3 ?_
                clear hK K
                try simp only [Act.put, List.setIfInBounds_toArray, List.set_cons_zero, List.set_cons_succ]
                refine late_one (i := 11) (by kernel_rfl) rfl (fun K hK => ?_)
                rw [if_pos (by rfl)]
                try simp only [List.getElem_toArray, List.getElem_cons_succ, List.getElem_cons_zero]
                refine wp_append_T2 (.tmp 65) (.tmp 67) rfl (base := w4.heap.size) (L := [] ++ R.take p) (M := [t]) (T := (fun b => b = x2.heap.size)) (A := some ⟨x2.heap.size, 0, none⟩) (m := 1) (c := 1) (w0 := w4) rfl (o65.chg hc_x3 (fun _ _ _ h => h)) rfl (v67) (by simp; omega) h3.size h3 (Nat.le_refl _) ?_
                intro v68 x4 o68 h4 hg_x4
                refine hK.out _ _ h4 ?_
                clear hK K
                try simp only [Act.put, List.setIfInBounds_toArray, List.set_cons_zero, List.set_cons_succ]
                refine late_one (i := 18) (by kernel_rfl) rfl (fun K hK => ?_)
                rw [if_pos (by rfl)]
                try simp only [List.getElem_toArray, List.getElem_cons_succ, List.getElem_cons_zero]
                refine wp_append_T2 (.tmp 68) (.tmp 74) rfl (base := w4.heap.size) (L := [] ++ R.take p ++ [t]) (M := R.drop p) (T := (fun b => T b ∨ w.heap.size ≤ b)) (A := dropN A4 cap4 p 3) (m := (R.length - p)) (c := (cap4 - p)) (w0 := w4) rfl o68 rfl ((HV2.out.chg h4 (fun _ _ h => h))) (by simp; omega) h4.size h4 (Nat.le_refl _) ?_
                intro v75 x5 o75 h5 hg_x5
                refine hK.out _ _ h5 ?_
                clear hK K
                try simp only [Act.put, List.setIfInBounds_toArray, List.set_cons_zero, List.set_cons_succ]
                rw [← HDD.out] at o75
                refine late_take (i := 19) (v := .pointer (some ⟨r, 0, none⟩)) [20, 21] rfl (by kernel_rfl) (by kernel_rfl) (by kernel_rfl) (by kernel_rfl) (by first | exact fun _ _ _ h => h | exact fun _ _ _ h => nomatch h.1) (Or.inl ⟨by rfl, fun w_ hw_ => by go_simp⟩) h5 ?_
                try simp only [Act.put, List.setIfInBounds_toArray, List.set_cons_zero, List.set_cons_succ, List.getElem_toArray, List.getElem_cons_succ, List.getElem_cons_zero]
                refine late_take (i := 20) (v := .pointer (some ⟨r, 0, none⟩)) [21] rfl (by kernel_rfl) (by kernel_rfl) (by kernel_rfl) (by kernel_rfl) (by first | exact fun _ _ _ h => h | exact fun _ _ _ h => nomatch h.1) (Or.inl ⟨by rfl, fun w_ hw_ => by go_simp⟩) h5 ?_
                try simp only [Act.put, List.setIfInBounds_toArray, List.set_cons_zero, List.set_cons_succ, List.getElem_toArray, List.getElem_cons_succ, List.getElem_cons_zero]
                obtain ⟨A3, cap3, rfl, g1, g2, g3⟩ := OwnedT.view o75
                have cr := (h5.cell 0 HRL4.out (fun h => h)).trans c4
                have fr := (HRW4.out.chg h5 (fun h => h)).frozen 0
                have HFX := Lib.hid (HFIN.out _ _ _ h5 g1 g2 g3)
                clear g1 g2 g3
                refine late_last (by kernel_rfl) rfl (by kernel_rfl) (fun K hK => ?_)
                rw [if_pos (by rfl)]
                try simp only [List.getElem_toArray, List.getElem_cons_succ, List.getElem_cons_zero]
                go_simp
                refine hK.out _ _ ?_
                clear hK K
                try simp only [Act.put, List.setIfInBounds_toArray, List.set_cons_zero, List.set_cons_succ, List.getElem_toArray, List.getElem_cons_succ, List.getElem_cons_zero]
                clear cr fr c4
                go_wp2
                go_ret
                exact ⟨rfl, HFX.out.1, HFX.out.2⟩
              · rw [if_pos (by rfl)]
                try simp only [List.getElem_toArray, List.getElem_cons_succ, List.getElem_cons_zero]
                refine wp_new_row (v := fun g => .slice (some ⟨g, 0, none⟩) 1 1) (e := 27) (cs := tcell t) (fun w_ => by go_simp; try rfl) ?_
                intro x2 hr_x2 hc_x2 hs_x2
                have h2 : Chg none_ w4 x2 := h1.trans hc_x2
                have v67 : View x2 (fun b => b = x1.heap.size) (some ⟨x1.heap.size, 0, none⟩) (1 * 3) (tcells [t]) := View.row (cs := tcell t) hr_x2 (n := 3) (by rw [tcell_len]; exact Nat.le_refl _) rfl
                refine hK.out _ _ h2 ?_
                clear hK K
                try simp only [Act.put, List.setIfInBounds_toArray, List.set_cons_zero, List.set_cons_succ]
                refine late_one (i := 8) (by kernel_rfl) rfl (fun K hK => ?_)
                rw [if_pos (by rfl)]
                try simp only [List.getElem_toArray, List.getElem_cons_succ, List.getElem_cons_zero]
                refine wp_append_T2 (.tmp 58) (.tmp 64) rfl (base := w4.heap.size) (v := .slice (some ⟨wz.heap.size, 0, none⟩) 0 0) (L := []) (M := R.take p) (T := (fun b => T b ∨ w.heap.size ≤ b)) (A := highN A4 cap4) (m := p) (c := cap4) (w0 := w4) rfl (o58.chg hc_x2 (fun _ _ _ h => h)) rfl ((HV1.out.chg h2 (fun _ _ h => h))) (by simp; omega) h2.size h2 (Nat.le_refl _) ?_
                intro v65 x3 o65 h3 hg_x3
                refine hK.out _ _ h3 ?_
                clear hK K
                try simp only [Act.put, List.setIfInBounds_toArray, List.set_cons_zero, List.set_cons_succ]
                refine late_one (i := 11) (by kernel_rfl) rfl (fun K hK => ?_)
                rw [if_pos (by rfl)]
                try simp only [List.getElem_toArray, List.getElem_cons_succ, List.getElem_cons_zero]
                refine wp_append_T2 (.tmp 65) (.tmp 67) rfl (base := w4.heap.size) (L := [] ++ R.take p) (M := [t]) (T := (fun b => b = x1.heap.size)) (A := some ⟨x1.heap.size, 0, none⟩) (m := 1) (c := 1) (w0 := w4) rfl o65 rfl ((v67.chg hg_x3 (fun b (e : b = x1.heap.size) h => by have h2 : some wz.heap.size = some b := h; injection h2 with h2; omega))) (by simp; omega) h3.size h3 (Nat.le_refl _) ?_
                intro v68 x4 o68 h4 hg_x4
                refine hK.out _ _ h4 ?_
                clear hK K
                try simp only [Act.put, List.setIfInBounds_toArray, List.set_cons_zero, List.set_cons_succ]
                refine late_one (i := 18) (by kernel_rfl) rfl (fun K hK => ?_)
                rw [if_pos (by rfl)]
                try simp only [List.getElem_toArray, List.getElem_cons_succ, List.getElem_cons_zero]
                refine wp_append_T2 (.tmp 68) (.tmp 74) rfl (base := w4.heap.size) (L := [] ++ R.take p ++ [t]) (M := R.drop p) (T := (fun b => T b ∨ w.heap.size ≤ b)) (A := dropN A4 cap4 p 3) (m := (R.length - p)) (c := (cap4 - p)) (w0 := w4) rfl o68 rfl ((HV2.out.chg h4 (fun _ _ h => h))) (by simp; omega) h4.size h4 (Nat.le_refl _) ?_
                intro v75 x5 o75 h5 hg_x5
                refine hK.out _ _ h5 ?_
                clear hK K
                try simp only [Act.put, List.setIfInBounds_toArray, List.set_cons_zero, List.set_cons_succ]
                rw [← HDD.out] at o75
                refine late_take (i := 19) (v := .pointer (some ⟨r, 0, none⟩)) [20, 21] rfl (by kernel_rfl) (by kernel_rfl) (by kernel_rfl) (by kernel_rfl) (by first | exact fun _ _ _ h => h | exact fun _ _ _ h => nomatch h.1) (Or.inl ⟨by rfl, fun w_ hw_ => by go_simp⟩) h5 ?_
                try simp only [Act.put, List.setIfInBounds_toArray, List.set_cons_zero, List.set_cons_succ, List.getElem_toArray, List.getElem_cons_succ, List.getElem_cons_zero]
                refine late_take (i := 20) (v := .pointer (some ⟨r, 0, none⟩)) [21] rfl (by kernel_rfl) (by kernel_rfl) (by kernel_rfl) (by kernel_rfl) (by first | exact fun _ _ _ h => h | exact fun _ _ _ h => nomatch h.1) (Or.inl ⟨by rfl, fun w_ hw_ => by go_simp⟩) h5 ?_
                try simp only [Act.put, List.setIfInBounds_toArray, List.set_cons_zero, List.set_cons_succ, List.getElem_toArray, List.getElem_cons_succ, List.getElem_cons_zero]
                obtain ⟨A3, cap3, rfl, g1, g2, g3⟩ := OwnedT.view o75
                have cr := (h5.cell 0 HRL4.out (fun h => h)).trans c4
                have fr := (HRW4.out.chg h5 (fun h => h)).frozen 0
                have HFX := Lib.hid (HFIN.out _ _ _ h5 g1 g2 g3)
                clear g1 g2 g3
                refine late_last (by kernel_rfl) rfl (by kernel_rfl) (fun K hK => ?_)
                rw [if_pos (by rfl)]
                try simp only [List.getElem_toArray, List.getElem_cons_succ, List.getElem_cons_zero]
                go_simp
                refine hK.out _ _ ?_
                clear hK K
                try simp only [Act.put, List.setIfInBounds_toArray, List.set_cons_zero, List.set_cons_succ, List.getElem_toArray, List.getElem_cons_succ, List.getElem_cons_zero]
                clear cr fr c4
                go_wp2
                go_ret
                exact ⟨rfl, HFX.out.1, HFX.out.2⟩
            · rw [if_pos (by rfl)]
              try simp only [List.getElem_toArray, List.getElem_cons_succ, List.getElem_cons_zero]
              refine wp_new_row (v := fun g => .slice (some ⟨g, 0, none⟩) 1 1) (e := 27) (cs := tcell t) (fun w_ => by go_simp; try rfl) ?_
              intro x1 hr_x1 hc_x1 hs_x1
              have h1 : Chg none_ w4 x1 := hz.trans hc_x1
              have v67 : View x1 (fun b => b = wz.heap.size) (some ⟨wz.heap.size, 0, none⟩) (1 * 3) (tcells [t]) := View.row (cs := tcell t) hr_x1 (n := 3) (by rw [tcell_len]; exact Nat.le_refl _) rfl
              refine hK.out _ _ h1 ?_
              clear hK K
              try simp only [Act.put, List.setIfInBounds_toArray, List.set_cons_zero, List.set_cons_succ]
              refine late_one (i := 1) (by kernel_rfl) rfl (fun K hK => ?_)
              rw [if_pos (by rfl)]
              try simp only [List.getElem_toArray, List.getElem_cons_succ, List.getElem_cons_zero]
              refine wp_new_row (v := fun g => .slice (some ⟨g, 0, none⟩) 0 0) (e := 27) (cs := []) (fun w_ => by go_simp) ?_
              intro x2 hr_x2 hc_x2 hs_x2
              have h2 : Chg none_ w4 x2 := h1.trans hc_x2
              have o58 : OwnedT x2 w4.heap.size (.slice (some ⟨x1.heap.size, 0, none⟩) 0 0) [] := OwnedT.lit0 hr_x2 h1.size
              refine hK.out _ _ h2 ?_
              clear hK K
              try simp only [Act.put, List.setIfInBounds_toArray, List.set_cons_zero, List.set_cons_succ]
              refine late_one (i := 8) (by kernel_rfl) rfl (fun K hK => ?_)
              rw [if_pos (by rfl)]
              try simp only [List.getElem_toArray, List.getElem_cons_succ, List.getElem_cons_zero]
              refine wp_append_T2 (.tmp 58) (.tmp 64) rfl (base := w4.heap.size) (v := .slice (some ⟨x1.heap.size, 0, none⟩) 0 0) (L := []) (M := R.take p) (T := (fun b => T b ∨ w.heap.size ≤ b)) (A := highN A4 cap4) (m := p) (c := cap4) (w0 := w4) rfl o58 rfl ((HV1.out.chg h2 (fun _ _ h => h))) (by simp; omega) h2.size h2 (Nat.le_refl _) ?_
              intro v65 x3 o65 h3 hg_x3
              refine hK.out _ _ h3 ?_
              clear hK K
              try simp only [Act.put, List.setIfInBounds_toArray, List.set_cons_zero, List.set_cons_succ]
              refine late_one (i := 11) (by kernel_rfl) rfl (fun K hK => ?_)
              rw [if_pos (by rfl)]
              try simp only [List.getElem_toArray, List.getElem_cons_succ, List.getElem_cons_zero]
              refine wp_append_T2 (.tmp 65) (.tmp 67) rfl (base := w4.heap.size) (L := [] ++ R.take p) (M := [t]) (T := (fun b => b = wz.heap.size)) (A := some ⟨wz.heap.size, 0, none⟩) (m := 1) (c := 1) (w0 := w4) rfl o65 rfl (((v67.chg hc_x2 (fun _ _ h => h)).chg hg_x3 (fun b (e : b = wz.heap.size) h => by have h2 : some x1.heap.size = some b := h; injection h2 with h2; omega))) (by simp; omega) h3.size h3 (Nat.le_refl _) ?_
              intro v68 x4 o68 h4 hg_x4
              refine hK.out _ _ h4 ?_
              clear hK K
              try simp only [Act.put, List.setIfInBounds_toArray, List.set_cons_zero, List.set_cons_succ]
              refine late_one (i := 18) (by kernel_rfl) rfl (fun K hK => ?_)
              rw [if_pos (by rfl)]
              try simp only [List.getElem_toArray, List.getElem_cons_succ, List.getElem_cons_zero]
              refine wp_append_T2 (.tmp 68) (.tmp 74) rfl (base := w4.heap.size) (L := [] ++ R.take p ++ [t]) (M := R.drop p) (T := (fun b => T b ∨ w.heap.size ≤ b)) (A := dropN A4 cap4 p 3) (m := (R.length - p)) (c := (cap4 - p)) (w0 := w4) rfl o68 rfl ((HV2.out.chg h4 (fun _ _ h => h))) (by simp; omega) h4.size h4 (Nat.le_refl _) ?_
              intro v75 x5 o75 h5 hg_x5
              refine hK.out _ _ h5 ?_
              clear hK K
              try simp only [Act.put, List.setIfInBounds_toArray, List.set_cons_zero, List.set_cons_succ]
              rw [← HDD.out] at o75
              refine late_take (i := 19) (v := .pointer (some ⟨r, 0, none⟩)) [20, 21] rfl (by kernel_rfl) (by kernel_rfl) (by kernel_rfl) (by kernel_rfl) (by first | exact fun _ _ _ h => h | exact fun _ _ _ h => nomatch h.1) (Or.inl ⟨by rfl, fun w_ hw_ => by go_simp⟩) h5 ?_
              try simp only [Act.put, List.setIfInBounds_toArray, List.set_cons_zero, List.set_cons_succ, List.getElem_toArray, List.getElem_cons_succ, List.getElem_cons_zero]
              refine late_take (i := 20) (v := .pointer (some ⟨r, 0, none⟩)) [21] rfl (by kernel_rfl) (by kernel_rfl) (by kernel_rfl) (by kernel_rfl) (by first | exact fun _ _ _ h => h | exact fun _ _ _ h => nomatch h.1) (Or.inl ⟨by rfl, fun w_ hw_ => by go_simp⟩) h5 ?_
              try simp only [Act.put, List.setIfInBounds_toArray, List.set_cons_zero, List.set_cons_succ, List.getElem_toArray, List.getElem_cons_succ, List.getElem_cons_zero]
              obtain ⟨A3, cap3, rfl, g1, g2, g3⟩ := OwnedT.view o75
              have cr := (h5.cell 0 HRL4.out (fun h => h)).trans c4
              have fr := (HRW4.out.chg h5 (fun h => h)).frozen 0
              have HFX := Lib.hid (HFIN.out _ _ _ h5 g1 g2 g3)
              clear g1 g2 g3
              refine late_last (by kernel_rfl) rfl (by kernel_rfl) (fun K hK => ?_)
              rw [if_pos (by rfl)]
              try simp only [List.getElem_toArray, List.getElem_cons_succ, List.getElem_cons_zero]
              go_simp
              refine hK.out _ _ ?_
              clear hK K
              try simp only [Act.put, List.setIfInBounds_toArray, List.set_cons_zero, List.set_cons_succ, List.getElem_toArray, List.getElem_cons_succ, List.getElem_cons_zero]
              clear cr fr c4
              go_wp2
              go_ret
              exact ⟨rfl, HFX.out.1, HFX.out.2⟩
          · obtain ⟨k, hpk⟩ : ∃ k, p = k + 1 := ⟨p - 1, by omega⟩
            have HP0 : Hid ((0 : Int) < (p : Int)) := Lib.hid (by omega)
            have HWK : Hid (IntKind.i64.wrap ((p : Int) - 1) = (k : Int)) := Lib.hid (by rw [hpk]; simp [IntKind.wrap, IntKind.bits, IntKind.signed]; omega)
            have HWK2 : Hid (IntKind.i64.wrap (k : Int) = (k : Int)) := Lib.hid (by simp [IntKind.wrap, IntKind.bits, IntKind.signed]; omega)
            have hkl : k < R.length := by omega
            have k1 : (k : Int) < (R.length : Int) := by omega
            have k0 : 0 ≤ (k : Int) := by omega
            obtain ⟨b, o, rfl, hbl, _, hk⟩ := HV4.out.tmAt hkl
            have HEL : Hid (∀ x, Chg none_ w4 x → x.rangeAt b (o + k * 3) (tcell (tm R k))) := Lib.hid (fun x hx j v hv => (World.cell?_of_block (hx.block b hbl (fun h => h))).trans (hk k hkl j v hv))
            clear hk hbl
            by_cases ha : Ah t (tm R k)
            · have HAH : Hid (∀ x, Calls Try.prog 34 #[.agg (tcell t).toArray, .agg (tcell (tm R k)).toArray] x fun e w' => e = .returned (.bool true) ∧ Chg none_ x w') := Lib.hid (fun x => by
                have := ahead_any t (tm R k) x
                rwa [decide_eq_true ha] at this)
              have HM : Hid (∀ m, k ≤ m → m < R.length → Ah t (tm R m)) := Lib.hid (fun m h1 h2 => by
                rcases Nat.lt_or_ge k m with h | h
                · exact hm m (by omega) h2
                · rw [show m = k from by omega]; exact ha)
              clear hm ha
              go_wp2
              refine wp_region_late (fun x => Chg none_ w4 x) 13 (by kernel_rfl) ?_
              have hy : Chg none_ w4 wr.drew := hcr.drew
              generalize wr.drew = wy at hy ⊢
              refine late_take (i := 0) (v := .int .i64 (p : Int)) [1, 2, 13] rfl (by kernel_rfl) (by kernel_rfl) (by kernel_rfl) (by kernel_rfl) (by first | exact fun _ _ _ h => h | exact fun _ _ _ h => nomatch h.1) (Or.inl ⟨by rfl, fun w_ hw_ => by go_simp⟩) hy ?_
              try simp only [Act.put, List.setIfInBounds_toArray, List.set_cons_zero, List.set_cons_succ, List.getElem_toArray, List.getElem_cons_zero]
              refine late_take (i := 1) (v := .bool true) [2, 13] rfl (by kernel_rfl) (by kernel_rfl) (by kernel_rfl) (by kernel_rfl) (by first | exact fun _ _ _ h => h | exact fun _ _ _ h => nomatch h.1) (Or.inl ⟨by rfl, fun w_ hw_ => by have p0_ := HP0.out; go_simp⟩) hy ?_
              try simp only [Act.put, List.setIfInBounds_toArray, List.set_cons_zero, List.set_cons_succ, List.getElem_toArray, List.getElem_cons_succ, List.getElem_cons_zero]
              refine late_take (i := 2) (v := .bool true) [13] rfl (by kernel_rfl) (by kernel_rfl) (by kernel_rfl) (by kernel_rfl) (by first | exact fun _ _ _ h => h | exact fun _ _ _ h => nomatch h.1) (Or.inl ⟨by rfl, fun w_ hw_ => by go_simp⟩) hy ?_
              try simp only [Act.put, List.setIfInBounds_toArray, List.set_cons_zero, List.set_cons_succ, List.getElem_toArray, List.getElem_cons_succ, List.getElem_cons_zero]
              refine late_take (i := 3) (v := .agg (tcell t).toArray) [12, 13] rfl (by kernel_rfl) (by kernel_rfl) (by kernel_rfl) (by kernel_rfl) (by first | exact fun _ _ _ h => h | exact fun _ _ _ h => nomatch h.1) (yieldsIf_load_mid (by rfl) 27 _ rfl w.heap.size 0 rfl (tcell t) _ (fun w' hw' => HBX.out w' hw') Try.underlying27 rfl sizeTm) hy ?_
              try simp only [Act.put, List.setIfInBounds_toArray, List.set_cons_zero, List.set_cons_succ, List.getElem_toArray, List.getElem_cons_succ, List.getElem_cons_zero]
              refine late_take (i := 4) (v := .pointer (some ⟨r, 0, none⟩)) [5, 6, 7, 10, 11, 12, 13] rfl (by kernel_rfl) (by kernel_rfl) (by kernel_rfl) (by kernel_rfl) (by first | exact fun _ _ _ h => h | exact fun _ _ _ h => nomatch h.1) (Or.inl ⟨by rfl, fun w_ hw_ => by go_simp⟩) hy ?_
              try simp only [Act.put, List.setIfInBounds_toArray, List.set_cons_zero, List.set_cons_succ, List.getElem_toArray, List.getElem_cons_succ, List.getElem_cons_zero]
              refine late_take (i := 5) (v := .pointer (some ⟨r, 0, none⟩)) [6, 7, 10, 11, 12, 13] rfl (by kernel_rfl) (by kernel_rfl) (by kernel_rfl) (by kernel_rfl) (by first | exact fun _ _ _ h => h | exact fun _ _ _ h => nomatch h.1) (Or.inl ⟨by rfl, fun w_ hw_ => by go_simp⟩) hy ?_
              try simp only [Act.put, List.setIfInBounds_toArray, List.set_cons_zero, List.set_cons_succ, List.getElem_toArray, List.getElem_cons_succ, List.getElem_cons_zero]
              refine late_take (i := 6) (v := .pointer (some ⟨r, 0, none⟩)) [7, 10, 11, 12, 13] rfl (by kernel_rfl) (by kernel_rfl) (by kernel_rfl) (by kernel_rfl) (by first | exact fun _ _ _ h => h | exact fun _ _ _ h => nomatch h.1) (Or.inl ⟨by rfl, fun w_ hw_ => by go_simp⟩) hy ?_
              try simp only [Act.put, List.setIfInBounds_toArray, List.set_cons_zero, List.set_cons_succ, List.getElem_toArray, List.getElem_cons_succ, List.getElem_cons_zero]
              refine late_take (i := 7) (v := .slice (some ⟨b, o, none⟩) R.length cap4) [10, 11, 12, 13] rfl (by kernel_rfl) (by kernel_rfl) (by kernel_rfl) (by kernel_rfl) (by first | exact fun _ _ _ h => h | exact fun _ _ _ h => nomatch h.1) (Or.inl ⟨by rfl, fun w_ hw_ => by have c0_ := (Chg.cell hw_ 0 HRL4.out (fun h => h)).trans c4; go_simp⟩) hy ?_
              try simp only [Act.put, List.setIfInBounds_toArray, List.set_cons_zero, List.set_cons_succ, List.getElem_toArray, List.getElem_cons_succ, List.getElem_cons_zero]
              refine late_take (i := 8) (v := .int .i64 (p : Int)) [9, 10, 11, 12, 13] rfl (by kernel_rfl) (by kernel_rfl) (by kernel_rfl) (by kernel_rfl) (by first | exact fun _ _ _ h => h | exact fun _ _ _ h => nomatch h.1) (Or.inl ⟨by rfl, fun w_ hw_ => by go_simp⟩) hy ?_
              try simp only [Act.put, List.setIfInBounds_toArray, List.set_cons_zero, List.set_cons_succ, List.getElem_toArray, List.getElem_cons_succ, List.getElem_cons_zero]
              refine late_take (i := 9) (v := .int .i64 (k : Int)) [10, 11, 12, 13] rfl (by kernel_rfl) (by kernel_rfl) (by kernel_rfl) (by kernel_rfl) (by first | exact fun _ _ _ h => h | exact fun _ _ _ h => nomatch h.1) (Or.inl ⟨by rfl, fun w_ hw_ => by have hw1 := HWK.out; have hw2 := HWK2.out; go_simp⟩) hy ?_
              try simp only [Act.put, List.setIfInBounds_toArray, List.set_cons_zero, List.set_cons_succ, List.getElem_toArray, List.getElem_cons_succ, List.getElem_cons_zero]
              refine late_take (i := 10) (v := .pointer (some ⟨b, o + k * 3, none⟩)) [11, 12, 13] rfl (by kernel_rfl) (by kernel_rfl) (by kernel_rfl) (by kernel_rfl) (by first | exact fun _ _ _ h => h | exact fun _ _ _ h => nomatch h.1) (Or.inl ⟨by rfl, fun w_ hw_ => by go_simp⟩) hy ?_
              try simp only [Act.put, List.setIfInBounds_toArray, List.set_cons_zero, List.set_cons_succ, List.getElem_toArray, List.getElem_cons_succ, List.getElem_cons_zero]
              refine late_take (i := 11) (v := .agg (tcell (tm R k)).toArray) [12, 13] rfl (by kernel_rfl) (by kernel_rfl) (by kernel_rfl) (by kernel_rfl) (by first | exact fun _ _ _ h => h | exact fun _ _ _ h => nomatch h.1) (yieldsIf_load_mid (by rfl) 27 _ rfl b (o + k * 3) rfl (tcell (tm R k)) _ (fun w' hw' => HEL.out w' hw') Try.underlying27 rfl sizeTm) hy ?_
              try simp only [Act.put, List.setIfInBounds_toArray, List.set_cons_zero, List.set_cons_succ, List.getElem_toArray, List.getElem_cons_succ, List.getElem_cons_zero]
              refine late_one (i := 12) (by kernel_rfl) rfl (fun K hK => ?_)
              rw [if_pos (by rfl)]
              try simp only [List.getElem_toArray, List.getElem_cons_succ, List.getElem_cons_zero]
              go_simp
              refine (HAH.out _).mono ?_
              rintro e y1 ⟨rfl, hcy⟩
              have hy1 : Chg none_ w4 y1 := hy.trans hcy
              refine hK.out _ _ hy1 ?_
              clear hK K
              try simp only [Act.put, List.setIfInBounds_toArray, List.set_cons_zero, List.set_cons_succ, List.getElem_toArray, List.getElem_cons_succ, List.getElem_cons_zero]
              refine late_last (by kernel_rfl) rfl (by kernel_rfl) (fun K hK => ?_)
              rw [if_pos (by rfl)]
              try simp only [List.getElem_toArray, List.getElem_cons_succ, List.getElem_cons_zero]
              go_simp
              refine hK.out _ _ ?_
              clear hK K
              try simp only [Act.put, List.setIfInBounds_toArray, List.set_cons_zero, List.set_cons_succ, List.getElem_toArray, List.getElem_cons_succ, List.getElem_cons_zero]
              have hw1 := HWK.out
              go_wp2
              go_roundw
              case rel => exact ⟨k, by go_num, by omega, HM.out, hy1⟩
              case measure => simp [intOf]; omega
            · have HAH : Hid (∀ x, Calls Try.prog 34 #[.agg (tcell t).toArray, .agg (tcell (tm R k)).toArray] x fun e w' => e = .returned (.bool false) ∧ Chg none_ x w') := Lib.hid (fun x => by
                have := ahead_any t (tm R k) x
                rwa [decide_eq_false ha] at this)
              have hin : insS t R = R.take p ++ t :: R.drop p := ins_at HSR.out hp hm (fun _ => by rw [show p - 1 = k from by omega]; exact ha)
              clear hm ha
              go_wp2
              refine wp_region_late (fun x => Chg none_ w4 x) 13 (by kernel_rfl) ?_
              have hy : Chg none_ w4 wr.drew := hcr.drew
              generalize wr.drew = wy at hy ⊢
              refine late_take (i := 0) (v := .int .i64 (p : Int)) [1, 2, 13] rfl (by kernel_rfl) (by kernel_rfl) (by kernel_rfl) (by kernel_rfl) (by first | exact fun _ _ _ h => h | exact fun _ _ _ h => nomatch h.1) (Or.inl ⟨by rfl, fun w_ hw_ => by go_simp⟩) hy ?_
              try simp only [Act.put, List.setIfInBounds_toArray, List.set_cons_zero, List.set_cons_succ, List.getElem_toArray, List.getElem_cons_zero]
              refine late_take (i := 1) (v := .bool true) [2, 13] rfl (by kernel_rfl) (by kernel_rfl) (by kernel_rfl) (by kernel_rfl) (by first | exact fun _ _ _ h => h | exact fun _ _ _ h => nomatch h.1) (Or.inl ⟨by rfl, fun w_ hw_ => by have p0_ := HP0.out; go_simp⟩) hy ?_
              try simp only [Act.put, List.setIfInBounds_toArray, List.set_cons_zero, List.set_cons_succ, List.getElem_toArray, List.getElem_cons_succ, List.getElem_cons_zero]
              refine late_take (i := 2) (v := .bool true) [13] rfl (by kernel_rfl) (by kernel_rfl) (by kernel_rfl) (by kernel_rfl) (by first | exact fun _ _ _ h => h | exact fun _ _ _ h => nomatch h.1) (Or.inl ⟨by rfl, fun w_ hw_ => by go_simp⟩) hy ?_
              try simp only [Act.put, List.setIfInBounds_toArray, List.set_cons_zero, List.set_cons_succ, List.getElem_toArray, List.getElem_cons_succ, List.getElem_cons_zero]
              refine late_take (i := 3) (v := .agg (tcell t).toArray) [12, 13] rfl (by kernel_rfl) (by kernel_rfl) (by kernel_rfl) (by kernel_rfl) (by first | exact fun _ _ _ h => h | exact fun _ _ _ h => nomatch h.1) (yieldsIf_load_mid (by rfl) 27 _ rfl w.heap.size 0 rfl (tcell t) _ (fun w' hw' => HBX.out w' hw') Try.underlying27 rfl sizeTm) hy ?_
              try simp only [Act.put, List.setIfInBounds_toArray, List.set_cons_zero, List.set_cons_succ, List.getElem_toArray, List.getElem_cons_succ, List.getElem_cons_zero]
              refine late_take (i := 4) (v := .pointer (some ⟨r, 0, none⟩)) [5, 6, 7, 10, 11, 12, 13] rfl (by kernel_rfl) (by kernel_rfl) (by kernel_rfl) (by kernel_rfl) (by first | exact fun _ _ _ h => h | exact fun _ _ _ h => nomatch h.1) (Or.inl ⟨by rfl, fun w_ hw_ => by go_simp⟩) hy ?_
              try simp only [Act.put, List.setIfInBounds_toArray, List.set_cons_zero, List.set_cons_succ, List.getElem_toArray, List.getElem_cons_succ, List.getElem_cons_zero]
              refine late_take (i := 5) (v := .pointer (some ⟨r, 0, none⟩)) [6, 7, 10, 11, 12, 13] rfl (by kernel_rfl) (by kernel_rfl) (by kernel_rfl) (by kernel_rfl) (by first | exact fun _ _ _ h => h | exact fun _ _ _ h => nomatch h.1) (Or.inl ⟨by rfl, fun w_ hw_ => by go_simp⟩) hy ?_
              try simp only [Act.put, List.setIfInBounds_toArray, List.set_cons_zero, List.set_cons_succ, List.getElem_toArray, List.getElem_cons_succ, List.getElem_cons_zero]
              refine late_take (i := 6) (v := .pointer (some ⟨r, 0, none⟩)) [7, 10, 11, 12, 13] rfl (by kernel_rfl) (by kernel_rfl) (by kernel_rfl) (by kernel_rfl) (by first | exact fun _ _ _ h => h | exact fun _ _ _ h => nomatch h.1) (Or.inl ⟨by rfl, fun w_ hw_ => by go_simp⟩) hy ?_
              try simp only [Act.put, List.setIfInBounds_toArray, List.set_cons_zero, List.set_cons_succ, List.getElem_toArray, List.getElem_cons_succ, List.getElem_cons_zero]
              refine late_take (i := 7) (v := .slice (some ⟨b, o, none⟩) R.length cap4) [10, 11, 12, 13] rfl (by kernel_rfl) (by kernel_rfl) (by kernel_rfl) (by kernel_rfl) (by first | exact fun _ _ _ h => h | exact fun _ _ _ h => nomatch h.1) (Or.inl ⟨by rfl, fun w_ hw_ => by have c0_ := (Chg.cell hw_ 0 HRL4.out (fun h => h)).trans c4; go_simp⟩) hy ?_
              try simp only [Act.put, List.setIfInBounds_toArray, List.set_cons_zero, List.set_cons_succ, List.getElem_toArray, List.getElem_cons_succ, List.getElem_cons_zero]
              refine late_take (i := 8) (v := .int .i64 (p : Int)) [9, 10, 11, 12, 13] rfl (by kernel_rfl) (by kernel_rfl) (by kernel_rfl) (by kernel_rfl) (by first | exact fun _ _ _ h => h | exact fun _ _ _ h => nomatch h.1) (Or.inl ⟨by rfl, fun w_ hw_ => by go_simp⟩) hy ?_
              try simp only [Act.put, List.setIfInBounds_toArray, List.set_cons_zero, List.set_cons_succ, List.getElem_toArray, List.getElem_cons_succ, List.getElem_cons_zero]
              refine late_take (i := 9) (v := .int .i64 (k : Int)) [10, 11, 12, 13] rfl (by kernel_rfl) (by kernel_rfl) (by kernel_rfl) (by kernel_rfl) (by first | exact fun _ _ _ h => h | exact fun _ _ _ h => nomatch h.1) (Or.inl ⟨by rfl, fun w_ hw_ => by have hw1 := HWK.out; have hw2 := HWK2.out; go_simp⟩) hy ?_
              try simp only [Act.put, List.setIfInBounds_toArray, List.set_cons_zero, List.set_cons_succ, List.getElem_toArray, List.getElem_cons_succ, List.getElem_cons_zero]
              refine late_take (i := 10) (v := .pointer (some ⟨b, o + k * 3, none⟩)) [11, 12, 13] rfl (by kernel_rfl) (by kernel_rfl) (by kernel_rfl) (by kernel_rfl) (by first | exact fun _ _ _ h => h | exact fun _ _ _ h => nomatch h.1) (Or.inl ⟨by rfl, fun w_ hw_ => by go_simp⟩) hy ?_
              try simp only [Act.put, List.setIfInBounds_toArray, List.set_cons_zero, List.set_cons_succ, List.getElem_toArray, List.getElem_cons_succ, List.getElem_cons_zero]
              refine late_take (i := 11) (v := .agg (tcell (tm R k)).toArray) [12, 13] rfl (by kernel_rfl) (by kernel_rfl) (by kernel_rfl) (by kernel_rfl) (by first | exact fun _ _ _ h => h | exact fun _ _ _ h => nomatch h.1) (yieldsIf_load_mid (by rfl) 27 _ rfl b (o + k * 3) rfl (tcell (tm R k)) _ (fun w' hw' => HEL.out w' hw') Try.underlying27 rfl sizeTm) hy ?_
              try simp only [Act.put, List.setIfInBounds_toArray, List.set_cons_zero, List.set_cons_succ, List.getElem_toArray, List.getElem_cons_succ, List.getElem_cons_zero]
              refine late_one (i := 12) (by kernel_rfl) rfl (fun K hK => ?_)
              rw [if_pos (by rfl)]
              try simp only [List.getElem_toArray, List.getElem_cons_succ, List.getElem_cons_zero]
              go_simp
              refine (HAH.out _).mono ?_
              rintro e y1 ⟨rfl, hcy⟩
              have hy1 : Chg none_ w4 y1 := hy.trans hcy
              refine hK.out _ _ hy1 ?_
              clear hK K
              try simp only [Act.put, List.setIfInBounds_toArray, List.set_cons_zero, List.set_cons_succ, List.getElem_toArray, List.getElem_cons_succ, List.getElem_cons_zero]
              refine late_last (by kernel_rfl) rfl (by kernel_rfl) (fun K hK => ?_)
              rw [if_pos (by rfl)]
              try simp only [List.getElem_toArray, List.getElem_cons_succ, List.getElem_cons_zero]
              go_simp
              refine hK.out _ _ ?_
              clear hK K
              try simp only [Act.put, List.setIfInBounds_toArray, List.set_cons_zero, List.set_cons_succ, List.getElem_toArray, List.getElem_cons_succ, List.getElem_cons_zero]
              go_wp2
              have HV1 : Hid (View w4 (fun b => T b ∨ w.heap.size ≤ b) (highN (some ⟨b, o, none⟩) cap4) (p * 3) (tcells (R.take p))) := Lib.hid (by
                rw [tcells_take]
                exact (HV4.out.highN cap4).take (Nat.mul_le_mul_right 3 hp))
              have HV2 : Hid (View w4 (fun b => T b ∨ w.heap.size ≤ b) (dropN (some ⟨b, o, none⟩) cap4 p 3) ((R.length - p) * 3) (tcells (R.drop p))) := Lib.hid (by
                rw [tcells_drop]
                exact HV4.out.dropN hcap4)
              obtain ⟨D, hD⟩ : ∃ D, D = [] ++ R.take p ++ [t] ++ R.drop p := ⟨_, rfl⟩
              have HDD := Lib.hid hD
              have HFIN : Hid (∀ (x : World) A3 cap3, Chg none_ w4 x → D.length ≤ cap3 → cap3 ≤ maxLen → View x (fun b => w4.heap.size ≤ b) A3 (D.length * 3) (tcells D) →
                  RQ (x.setCell ⟨r, 0, none⟩ (.slice A3 D.length cap3)) (fun b => T b ∨ w.heap.size ≤ b) r (insS t R) ∧ Chg (· = r) w (x.setCell ⟨r, 0, none⟩ (.slice A3 D.length cap3))) := Lib.hid (fun x A3 cap3 hc g1 g2 g3 => by
                have hD' : D = insS t R := by rw [hD, hin, List.nil_append, List.append_assoc]; rfl
                rw [hD'] at g1 g3 ⊢
                have hlt' := HRL4.out
                exact ⟨⟨A3, cap3, (HRW4.out.chg hc (fun h => h)).set 0 _, g1, g2, (g3.setCell ⟨r, 0, none⟩ (fun (h : w4.heap.size ≤ r) => by omega) _).mono (fun _ _ h => Or.inr (Nat.le_trans HSZ4.out h))⟩, (HC4.out.trans (show Chg (· = r) w4 x from hc.mono (fun _ _ h => h.elim))).setCell (p := ⟨r, 0, none⟩) (fun _ => rfl) _⟩)
              clear hD hin
              refine wp_region_late (fun x => Chg none_ w4 x) 21 (by kernel_rfl) ?_
              have hz : Chg none_ w4 y1.drew := hy1.drew
              generalize y1.drew = wz at hz ⊢
              refine late_take (i := 0) (v := .pointer (some ⟨r, 0, none⟩)) [19, 20, 21] rfl (by kernel_rfl) (by kernel_rfl) (by kernel_rfl) (by kernel_rfl) (by first | exact fun _ _ _ h => h | exact fun _ _ _ h => nomatch h.1) (Or.inl ⟨by rfl, fun w_ hw_ => by go_simp⟩) hz ?_
              try simp only [Act.put, List.setIfInBounds_toArray, List.set_cons_zero, List.set_cons_succ, List.getElem_toArray, List.getElem_cons_zero]
              refine late_take (i := 2) (v := .pointer (some ⟨r, 0, none⟩)) [3, 4, 5, 7, 8, 11, 18, 21] rfl (by kernel_rfl) (by kernel_rfl) (by kernel_rfl) (by kernel_rfl) (by first | exact fun _ _ _ h => h | exact fun _ _ _ h => nomatch h.1) (Or.inl ⟨by rfl, fun w_ hw_ => by go_simp⟩) hz ?_
              try simp only [Act.put, List.setIfInBounds_toArray, List.set_cons_zero, List.set_cons_succ, List.getElem_toArray, List.getElem_cons_succ, List.getElem_cons_zero]
              refine late_take (i := 3) (v := .pointer (some ⟨r, 0, none⟩)) [4, 5, 7, 8, 11, 18, 21] rfl (by kernel_rfl) (by kernel_rfl) (by kernel_rfl) (by kernel_rfl) (by first | exact fun _ _ _ h => h | exact fun _ _ _ h => nomatch h.1) (Or.inl ⟨by rfl, fun w_ hw_ => by go_simp⟩) hz ?_
              try simp only [Act.put, List.setIfInBounds_toArray, List.set_cons_zero, List.set_cons_succ, List.getElem_toArray, List.getElem_cons_succ, List.getElem_cons_zero]
              refine late_take (i := 4) (v := .pointer (some ⟨r, 0, none⟩)) [5, 7, 8, 11, 18, 21] rfl (by kernel_rfl) (by kernel_rfl) (by kernel_rfl) (by kernel_rfl) (by first | exact fun _ _ _ h => h | exact fun _ _ _ h => nomatch h.1) (Or.inl ⟨by rfl, fun w_ hw_ => by go_simp⟩) hz ?_
              try simp only [Act.put, List.setIfInBounds_toArray, List.set_cons_zero, List.set_cons_succ, List.getElem_toArray, List.getElem_cons_succ, List.getElem_cons_zero]
              refine late_take (i := 5) (v := .slice (some ⟨b, o, none⟩) R.length cap4) [7, 8, 11, 18, 21] rfl (by kernel_rfl) (by kernel_rfl) (by kernel_rfl) (by kernel_rfl) (by first | exact fun _ _ _ h => h | exact fun _ _ _ h => nomatch h.1) (Or.inl ⟨by rfl, fun w_ hw_ => by have c0_ := (Chg.cell hw_ 0 HRL4.out (fun h => h)).trans c4; go_simp⟩) hz ?_
              try simp only [Act.put, List.setIfInBounds_toArray, List.set_cons_zero, List.set_cons_succ, List.getElem_toArray, List.getElem_cons_succ, List.getElem_cons_zero]
              refine late_take (i := 6) (v := .int .i64 (p : Int)) [7, 8, 11, 18, 21] rfl (by kernel_rfl) (by kernel_rfl) (by kernel_rfl) (by kernel_rfl) (by first | exact fun _ _ _ h => h | exact fun _ _ _ h => nomatch h.1) (Or.inl ⟨by rfl, fun w_ hw_ => by go_simp⟩) hz ?_
              try simp only [Act.put, List.setIfInBounds_toArray, List.set_cons_zero, List.set_cons_succ, List.getElem_toArray, List.getElem_cons_succ, List.getElem_cons_zero]
              refine late_take (i := 7) (v := .slice (highN (some ⟨b, o, none⟩) cap4) p cap4) [8, 11, 18, 21] rfl (by kernel_rfl) (by kernel_rfl) (by kernel_rfl) (by kernel_rfl) (by first | exact fun _ _ _ h => h | exact fun _ _ _ h => nomatch h.1) (yieldsIf_slice_highN (by rfl) 34 27 _ _ rfl (some ⟨b, o, none⟩) R.length cap4 p 3 rfl rfl Try.underlying34 sizeTm (by omega)) hz ?_
              try simp only [Act.put, List.setIfInBounds_toArray, List.set_cons_zero, List.set_cons_succ, List.getElem_toArray, List.getElem_cons_succ, List.getElem_cons_zero]
              refine late_take (i := 9) (v := .agg (tcell t).toArray) [10, 11, 18, 21] rfl (by kernel_rfl) (by kernel_rfl) (by kernel_rfl) (by kernel_rfl) (by first | exact fun _ _ _ h => h | exact fun _ _ _ h => nomatch h.1) (yieldsIf_load_mid (by rfl) 27 _ rfl w.heap.size 0 rfl (tcell t) _ (fun w' hw' => HBX.out w' hw') Try.underlying27 rfl sizeTm) hz ?_
              try simp only [Act.put, List.setIfInBounds_toArray, List.set_cons_zero, List.set_cons_succ, List.getElem_toArray, List.getElem_cons_succ, List.getElem_cons_zero]
              refine late_take (i := 12) (v := .pointer (some ⟨r, 0, none⟩)) [13, 14, 15, 17, 18, 21] rfl (by kernel_rfl) (by kernel_rfl) (by kernel_rfl) (by kernel_rfl) (by first | exact fun _ _ _ h => h | exact fun _ _ _ h => nomatch h.1) (Or.inl ⟨by rfl, fun w_ hw_ => by go_simp⟩) hz ?_
              try simp only [Act.put, List.setIfInBounds_toArray, List.set_cons_zero, List.set_cons_succ, List.getElem_toArray, List.getElem_cons_succ, List.getElem_cons_zero]
              refine late_take (i := 13) (v := .pointer (some ⟨r, 0, none⟩)) [14, 15, 17, 18, 21] rfl (by kernel_rfl) (by kernel_rfl) (by kernel_rfl) (by kernel_rfl) (by first | exact fun _ _ _ h => h | exact fun _ _ _ h => nomatch h.1) (Or.inl ⟨by rfl, fun w_ hw_ => by go_simp⟩) hz ?_
              try simp only [Act.put, List.setIfInBounds_toArray, List.set_cons_zero, List.set_cons_succ, List.getElem_toArray, List.getElem_cons_succ, List.getElem_cons_zero]
              refine late_take (i := 14) (v := .pointer (some ⟨r, 0, none⟩)) [15, 17, 18, 21] rfl (by kernel_rfl) (by kernel_rfl) (by kernel_rfl) (by kernel_rfl) (by first | exact fun _ _ _ h => h | exact fun _ _ _ h => nomatch h.1) (Or.inl ⟨by rfl, fun w_ hw_ => by go_simp⟩) hz ?_
              try simp only [Act.put, List.setIfInBounds_toArray, List.set_cons_zero, List.set_cons_succ, List.getElem_toArray, List.getElem_cons_succ, List.getElem_cons_zero]
              refine late_take (i := 15) (v := .slice (some ⟨b, o, none⟩) R.length cap4) [17, 18, 21] rfl (by kernel_rfl) (by kernel_rfl) (by kernel_rfl) (by kernel_rfl) (by first | exact fun _ _ _ h => h | exact fun _ _ _ h => nomatch h.1) (Or.inl ⟨by rfl, fun w_ hw_ => by have c0_ := (Chg.cell hw_ 0 HRL4.out (fun h => h)).trans c4; go_simp⟩) hz ?_
              try simp only [Act.put, List.setIfInBounds_toArray, List.set_cons_zero, List.set_cons_succ, List.getElem_toArray, List.getElem_cons_succ, List.getElem_cons_zero]
              refine late_take (i := 16) (v := .int .i64 (p : Int)) [17, 18, 21] rfl (by kernel_rfl) (by kernel_rfl) (by kernel_rfl) (by kernel_rfl) (by first | exact fun _ _ _ h => h | exact fun _ _ _ h => nomatch h.1) (Or.inl ⟨by rfl, fun w_ hw_ => by go_simp⟩) hz ?_
              try simp only [Act.put, List.setIfInBounds_toArray, List.set_cons_zero, List.set_cons_succ, List.getElem_toArray, List.getElem_cons_succ, List.getElem_cons_zero]
              refine late_take (i := 17) (v := .slice (dropN (some ⟨b, o, none⟩) cap4 p 3) (R.length - p) (cap4 - p)) [18, 21] rfl (by kernel_rfl) (by kernel_rfl) (by kernel_rfl) (by kernel_rfl) (by first | exact fun _ _ _ h => h | exact fun _ _ _ h => nomatch h.1) (yieldsIf_slice_lowN (by rfl) 34 27 _ _ rfl (some ⟨b, o, none⟩) R.length cap4 p 3 rfl rfl Try.underlying34 sizeTm (by omega)) hz ?_
              try simp only [Act.put, List.setIfInBounds_toArray, List.set_cons_zero, List.set_cons_succ, List.getElem_toArray, List.getElem_cons_succ, List.getElem_cons_zero]
              refine late_two (i := 1) (j := 10) (by kernel_rfl) rfl rfl (fun K hK => ?_) (fun K hK => ?_)
              · rw [if_pos (by rfl)]
                try simp only [List.getElem_toArray, List.getElem_cons_succ, List.getElem_cons_zero]
                refine wp_new_row (v := fun g => .slice (some ⟨g, 0, none⟩) 0 0) (e := 27) (cs := []) (fun w_ => by go_simp) ?_
                intro x1 hr_x1 hc_x1 hs_x1
                have h1 : Chg none_ w4 x1 := hz.trans hc_x1
                have o58 : OwnedT x1 w4.heap.size (.slice (some ⟨wz.heap.size, 0, none⟩) 0 0) [] := OwnedT.lit0 hr_x1 hz.size
                refine hK.out _ _ h1 ?_
                clear hK K
                try simp only [Act.put, List.setIfInBounds_toArray, List.set_cons_zero, List.set_cons_succ]
                refine late_two (i := 8) (j := 10) (by kernel_rfl) rfl rfl (fun K hK => ?_) (fun K hK => ?_)
                · rw [if_pos (by rfl)]
                  try simp only [List.getElem_toArray, List.getElem_cons_succ, List.getElem_cons_zero]
                  refine wp_append_T2 (.tmp 58) (.tmp 64) rfl (base := w4.heap.size) (v := .slice (some ⟨wz.heap.size, 0, none⟩) 0 0) (L := []) (M := R.take p) (T := (fun b => T b ∨ w.heap.size ≤ b)) (A := highN (some ⟨b, o, none⟩) cap4) (m := p) (c := cap4) (w0 := w4) rfl o58 rfl ((HV1.out.chg h1 (fun _ _ h => h))) (by simp; omega) h1.size h1 (Nat.le_refl _) ?_
                  intro v65 x2 o65 h2 hg_x2
                  refine hK.out _ _ h2 ?_
                  clear hK K
                  try simp only [Act.put, List.setIfInBounds_toArray, List.set_cons_zero, List.set_cons_succ]
                  refine late_one (i := 10) (by kernel_rfl) rfl (fun K hK => ?_)
                  rw [if_pos (by rfl)]
                  try simp only [List.getElem_toArray, List.getElem_cons_succ, List.getElem_cons_zero]
                  refine wp_new_row (v := fun g => .slice (some ⟨g, 0, none⟩) 1 1) (e := 27) (cs := tcell t) (fun w_ => by go_simp; try rfl) ?_
                  intro x3 hr_x3 hc_x3 hs_x3
                  have h3 : Chg none_ w4 x3 := h2.trans hc_x3
                  have v67 : View x3 (fun b => b = x2.heap.size) (some ⟨x2.heap.size, 0, none⟩) (1 * 3) (tcells [t]) := View.row (cs := tcell t) hr_x3 (n := 3) (by rw [tcell_len]; exact Nat.le_refl _) rfl
                  refine hK.out _ _ h3 ?_
                  clear hK K
                  try simp only [Act.put, List.setIfInBounds_toArray, List.set_cons_zero, List.set_cons_succ]
                  refine late_one (i := 11) (by kernel_rfl) rfl (fun K hK => ?_)
                  rw [if_pos (by rfl)]
                  try simp only [List.getElem_toArray, List.getElem_cons_succ, List.getElem_cons_zero]
                  refine wp_append_T2 (.tmp 65) (.tmp 67) rfl (base := w4.heap.size) (L := [] ++ R.take p) (M := [t]) (T := (fun b => b = x2.heap.size)) (A := some ⟨x2.heap.size, 0, none⟩) (m := 1) (c := 1) (w0 := w4) rfl (o65.chg hc_x3 (fun _ _ _ h => h)) rfl (v67) (by simp; omega) h3.size h3 (Nat.le_refl _) ?_
                  intro v68 x4 o68 h4 hg_x4
                  refine hK.out _ _ h4 ?_
                  clear hK K
                  try simp only [Act.put, List.setIfInBounds_toArray, List.set_cons_zero, List.set_cons_succ]
                  refine late_one (i := 18) (by kernel_rfl) rfl (fun K hK => ?_)
                  rw [if_pos (by rfl)]
                  try simp only [List.getElem_toArray, List.getElem_cons_succ, List.getElem_cons_zero]
                  refine wp_append_T2 (.tmp 68) (.tmp 74) rfl (base := w4.heap.size) (L := [] ++ R.take p ++ [t]) (M := R.drop p) (T := (fun b => T b ∨ w.heap.size ≤ b)) (A := dropN (some ⟨b, o, none⟩) cap4 p 3) (m := (R.length - p)) (c := (cap4 - p)) (w0 := w4) rfl o68 rfl ((HV2.out.chg h4 (fun _ _ h => h))) (by simp; omega) h4.size h4 (Nat.le_refl _) ?_
                  intro v75 x5 o75 h5 hg_x5
                  refine hK.out _ _ h5 ?_
                  clear hK K
                  try simp only [Act.put, List.setIfInBounds_toArray, List.set_cons_zero, List.set_cons_succ]
                  rw [← HDD.out] at o75
                  refine late_take (i := 19) (v := .pointer (some ⟨r, 0, none⟩)) [20, 21] rfl (by kernel_rfl) (by kernel_rfl) (by kernel_rfl) (by kernel_rfl) (by first | exact fun _ _ _ h => h | exact fun _ _ _ h => nomatch h.1) (Or.inl ⟨by rfl, fun w_ hw_ => by go_simp⟩) h5 ?_
                  try simp only [Act.put, List.setIfInBounds_toArray, List.set_cons_zero, List.set_cons_succ, List.getElem_toArray, List.getElem_cons_succ, List.getElem_cons_zero]
                  refine late_take (i := 20) (v := .pointer (some ⟨r, 0, none⟩)) [21] rfl (by kernel_rfl) (by kernel_rfl) (by kernel_rfl) (by kernel_rfl) (by first | exact fun _ _ _ h => h | exact fun _ _ _ h => nomatch h.1) (Or.inl ⟨by rfl, fun w_ hw_ => by go_simp⟩) h5 ?_
                  try simp only [Act.put, List.setIfInBounds_toArray, List.set_cons_zero, List.set_cons_succ, List.getElem_toArray, List.getElem_cons_succ, List.getElem_cons_zero]
                  obtain ⟨A3, cap3, rfl, g1, g2, g3⟩ := OwnedT.view o75
                  have cr := (h5.cell 0 HRL4.out (fun h => h)).trans c4
                  have fr := (HRW4.out.chg h5 (fun h => h)).frozen 0
                  have HFX := Lib.hid (HFIN.out _ _ _ h5 g1 g2 g3)
                  clear g1 g2 g3
                  refine late_last (by kernel_rfl) rfl (by kernel_rfl) (fun K hK => ?_)
                  rw [if_pos (by rfl)]
                  try simp only [List.getElem_toArray, List.getElem_cons_succ, List.getElem_cons_zero]
                  go_simp
                  refine hK.out _ _ ?_
                  clear hK K
                  try simp only [Act.put, List.setIfInBounds_toArray, List.set_cons_zero, List.set_cons_succ, List.getElem_toArray, List.getElem_cons_succ, List.getElem_cons_zero]
                  clear cr fr c4
                  go_wp2
                  go_ret
                  exact ⟨rfl, HFX.out.1, HFX.out.2⟩
                · rw [if_pos (by rfl)]
                  try simp only [List.getElem_toArray, List.getElem_cons_succ, List.getElem_cons_zero]
                  refine wp_new_row (v := fun g => .slice (some ⟨g, 0, none⟩) 1 1) (e := 27) (cs := tcell t) (fun w_ => by go_simp; try rfl) ?_
                  intro x2 hr_x2 hc_x2 hs_x2
                  have h2 : Chg none_ w4 x2 := h1.trans hc_x2
                  have v67 : View x2 (fun b => b = x1.heap.size) (some ⟨x1.heap.size, 0, none⟩) (1 * 3) (tcells [t]) := View.row (cs := tcell t) hr_x2 (n := 3) (by rw [tcell_len]; exact Nat.le_refl _) rfl
                  refine hK.out _ _ h2 ?_
                  clear hK K
                  try simp only [Act.put, List.setIfInBounds_toArray, List.set_cons_zero, List.set_cons_succ]
                  refine late_one (i := 8) (by kernel_rfl) rfl (fun K hK => ?_)
                  rw [if_pos (by rfl)]
                  try simp only [List.getElem_toArray, List.getElem_cons_succ, List.getElem_cons_zero]
                  refine wp_append_T2 (.tmp 58) (.tmp 64) rfl (base := w4.heap.size) (v := .slice (some ⟨wz.heap.size, 0, none⟩) 0 0) (L := []) (M := R.take p) (T := (fun b => T b ∨ w.heap.size ≤ b)) (A := highN (some ⟨b, o, none⟩) cap4) (m := p) (c := cap4) (w0 := w4) rfl (o58.chg hc_x2 (fun _ _ _ h => h)) rfl ((HV1.out.chg h2 (fun _ _ h => h))) (by simp; omega) h2.size h2 (Nat.le_refl _) ?_
                  intro v65 x3 o65 h3 hg_x3
                  refine hK.out _ _ h3 ?_
                  clear hK K
                  try simp only [Act.put, List.setIfInBounds_toArray, List.set_cons_zero, List.set_cons_succ]
                  refine late_one (i := 11) (by kernel_rfl) rfl (fun K hK => ?_)
                  rw [if_pos (by rfl)]
                  try simp only [List.getElem_toArray, List.getElem_cons_succ, List.getElem_cons_zero]
                  refine wp_append_T2 (.tmp 65) (.tmp 67) rfl (base := w4.heap.size) (L := [] ++ R.take p) (M := [t]) (T := (fun b => b = x1.heap.size)) (A := some ⟨x1.heap.size, 0, none⟩) (m := 1) (c := 1) (w0 := w4) rfl o65 rfl ((v67.chg hg_x3 (fun b (e : b = x1.heap.size) h => by have h2 : some wz.heap.size = some b := h; injection h2 with h2; omega))) (by simp; omega) h3.size h3 (Nat.le_refl _) ?_
                  intro v68 x4 o68 h4 hg_x4
                  refine hK.out _ _ h4 ?_
                  clear hK K
                  try simp only [Act.put, List.setIfInBounds_toArray, List.set_cons_zero, List.set_cons_succ]
                  refine late_one (i := 18) (by kernel_rfl) rfl (fun K hK => ?_)
                  rw [if_pos (by rfl)]
                  try simp only [List.getElem_toArray, List.getElem_cons_succ, List.getElem_cons_zero]
                  refine wp_append_T2 (.tmp 68) (.tmp 74) rfl (base := w4.heap.size) (L := [] ++ R.take p ++ [t]) (M := R.drop p) (T := (fun b => T b ∨ w.heap.size ≤ b)) (A := dropN (some ⟨b, o, none⟩) cap4 p 3) (m := (R.length - p)) (c := (cap4 - p)) (w0 := w4) rfl o68 rfl ((HV2.out.chg h4 (fun _ _ h => h))) (by simp; omega) h4.size h4 (Nat.le_refl _) ?_
                  intro v75 x5 o75 h5 hg_x5
                  refine hK.out _ _ h5 ?_
                  clear hK K
                  try simp only [Act.put, List.setIfInBounds_toArray, List.set_cons_zero, List.set_cons_succ]
                  rw [← HDD.out] at o75
                  refine late_take (i := 19) (v := .pointer (some ⟨r, 0, none⟩)) [20, 21] rfl (by kernel_rfl) (by kernel_rfl) (by kernel_rfl) (by kernel_rfl) (by first | exact fun _ _ _ h => h | exact fun _ _ _ h => nomatch h.1) (Or.inl ⟨by rfl, fun w_ hw_ => by go_simp⟩) h5 ?_
                  try simp only [Act.put, List.setIfInBounds_toArray, List.set_cons_zero, List.set_cons_succ, List.getElem_toArray, List.getElem_cons_succ, List.getElem_cons_zero]
                  refine late_take (i := 20) (v := .pointer (some ⟨r, 0, none⟩)) [21] rfl (by kernel_rfl) (by kernel_rfl) (by kernel_rfl) (by kernel_rfl) (by first | exact fun _ _ _ h => h | exact fun _ _ _ h => nomatch h.1) (Or.inl ⟨by rfl, fun w_ hw_ => by go_simp⟩) h5 ?_
                  try simp only [Act.put, List.setIfInBounds_toArray, List.set_cons_zero, List.set_cons_succ, List.getElem_toArray, List.getElem_cons_succ, List.getElem_cons_zero]
                  obtain ⟨A3, cap3, rfl, g1, g2, g3⟩ := OwnedT.view o75
                  have cr := (h5.cell 0 HRL4.out (fun h => h)).trans c4
                  have fr := (HRW4.out.chg h5 (fun h => h)).frozen 0
                  have HFX := Lib.hid (HFIN.out _ _ _ h5 g1 g2 g3)
                  clear g1 g2 g3
                  refine late_last (by kernel_rfl) rfl (by kernel_rfl) (fun K hK => ?_)
                  rw [if_pos (by rfl)]
                  try simp only [List.getElem_toArray, List.getElem_cons_succ, List.getElem_cons_zero]
                  go_simp
                  refine hK.out _ _ ?_
                  clear hK K
                  try simp only [Act.put, List.setIfInBounds_toArray, List.set_cons_zero, List.set_cons_succ, List.getElem_toArray, List.getElem_cons_succ, List.getElem_cons_zero]
                  clear cr fr c4
                  go_wp2
                  go_ret
                  exact ⟨rfl, HFX.out.1, HFX.out.2⟩
              · rw [if_pos (by rfl)]
                try simp only [List.getElem_toArray, List.getElem_cons_succ, List.getElem_cons_zero]
                refine wp_new_row (v := fun g => .slice (some ⟨g, 0, none⟩) 1 1) (e := 27) (cs := tcell t) (fun w_ => by go_simp; try rfl) ?_
                intro x1 hr_x1 hc_x1 hs_x1
                have h1 : Chg none_ w4 x1 := hz.trans hc_x1
                have v67 : View x1 (fun b => b = wz.heap.size) (some ⟨wz.heap.size, 0, none⟩) (1 * 3) (tcells [t]) := View.row (cs := tcell t) hr_x1 (n := 3) (by rw [tcell_len]; exact Nat.le_refl _) rfl
                refine hK.out _ _ h1 ?_
                clear hK K
                try simp only [Act.put, List.setIfInBounds_toArray, List.set_cons_zero, List.set_cons_succ]
                refine late_one (i := 1) (by kernel_rfl) rfl (fun K hK => ?_)
                rw [if_pos (by rfl)]
                try simp only [List.getElem_toArray, List.getElem_cons_succ, List.getElem_cons_zero]
                refine wp_new_row (v := fun g => .slice (some ⟨g, 0, none⟩) 0 0) (e := 27) (cs := []) (fun w_ => by go_simp) ?_
                intro x2 hr_x2 hc_x2 hs_x2
                have h2 : Chg none_ w4 x2 := h1.trans hc_x2
                have o58 : OwnedT x2 w4.heap.size (.slice (some ⟨x1.heap.size, 0, none⟩) 0 0) [] := OwnedT.lit0 hr_x2 h1.size
                refine hK.out _ _ h2 ?_
                clear hK K
                try simp only [Act.put, List.setIfInBounds_toArray, List.set_cons_zero, List.set_cons_succ]
                refine late_one (i := 8) (by kernel_rfl) rfl (fun K hK => ?_)
                rw [if_pos (by rfl)]
                try simp only [List.getElem_toArray, List.getElem_cons_succ, List.getElem_cons_zero]
                refine wp_append_T2 (.tmp 58) (.tmp 64) rfl (base := w4.heap.size) (v := .slice (some ⟨x1.heap.size, 0, none⟩) 0 0) (L := []) (M := R.take p) (T := (fun b => T b ∨ w.heap.size ≤ b)) (A := highN (some ⟨b, o, none⟩) cap4) (m := p) (c := cap4) (w0 := w4) rfl o58 rfl ((HV1.out.chg h2 (fun _ _ h => h))) (by simp; omega) h2.size h2 (Nat.le_refl _) ?_
                intro v65 x3 o65 h3 hg_x3
                refine hK.out _ _ h3 ?_
                clear hK K
                try simp only [Act.put, List.setIfInBounds_toArray, List.set_cons_zero, List.set_cons_succ]
                refine late_one (i := 11) (by kernel_rfl) rfl (fun K hK => ?_)
                rw [if_pos (by rfl)]
                try simp only [List.getElem_toArray, List.getElem_cons_succ, List.getElem_cons_zero]
                refine wp_append_T2 (.tmp 65) (.tmp 67) rfl (base := w4.heap.size) (L := [] ++ R.take p) (M := [t]) (T := (fun b => b = wz.heap.size)) (A := some ⟨wz.heap.size, 0, none⟩) (m := 1) (c := 1) (w0 := w4) rfl o65 rfl (((v67.chg hc_x2 (fun _ _ h => h)).chg hg_x3 (fun b (e : b = wz.heap.size) h => by have h2 : some x1.heap.size = some b := h; injection h2 with h2; omega))) (by simp; omega) h3.size h3 (Nat.le_refl _) ?_
                intro v68 x4 o68 h4 hg_x4
                refine hK.out _ _ h4 ?_
                clear hK K
                try simp only [Act.put, List.setIfInBounds_toArray, List.set_cons_zero, List.set_cons_succ]
                refine late_one (i := 18) (by kernel_rfl) rfl (fun K hK => ?_)
                rw [if_pos (by rfl)]
                try simp only [List.getElem_toArray, List.getElem_cons_succ, List.getElem_cons_zero]
                refine wp_append_T2 (.tmp 68) (.tmp 74) rfl (base := w4.heap.size) (L := [] ++ R.take p ++ [t]) (M := R.drop p) (T := (fun b => T b ∨ w.heap.size ≤ b)) (A := dropN (some ⟨b, o, none⟩) cap4 p 3) (m := (R.length - p)) (c := (cap4 - p)) (w0 := w4) rfl o68 rfl ((HV2.out.chg h4 (fun _ _ h => h))) (by simp; omega) h4.size h4 (Nat.le_refl _) ?_
                intro v75 x5 o75 h5 hg_x5
                refine hK.out _ _ h5 ?_
                clear hK K
                try simp only [Act.put, List.setIfInBounds_toArray, List.set_cons_zero, List.set_cons_succ]
                rw [← HDD.out] at o75
                refine late_take (i := 19) (v := .pointer (some ⟨r, 0, none⟩)) [20, 21] rfl (by kernel_rfl) (by kernel_rfl) (by kernel_rfl) (by kernel_rfl) (by first | exact fun _ _ _ h => h | exact fun _ _ _ h => nomatch h.1) (Or.inl ⟨by rfl, fun w_ hw_ => by go_simp⟩) h5 ?_
                try simp only [Act.put, List.setIfInBounds_toArray, List.set_cons_zero, List.set_cons_succ, List.getElem_toArray, List.getElem_cons_succ, List.getElem_cons_zero]
                refine late_take (i := 20) (v := .pointer (some ⟨r, 0, none⟩)) [21] rfl (by kernel_rfl) (by kernel_rfl) (by kernel_rfl) (by kernel_rfl) (by first | exact fun _ _ _ h => h | exact fun _ _ _ h => nomatch h.1) (Or.inl ⟨by rfl, fun w_ hw_ => by go_simp⟩) h5 ?_
                try simp only [Act.put, List.setIfInBounds_toArray, List.set_cons_zero, List.set_cons_succ, List.getElem_toArray, List.getElem_cons_succ, List.getElem_cons_zero]
                obtain ⟨A3, cap3, rfl, g1, g2, g3⟩ := OwnedT.view o75
                have cr := (h5.cell 0 HRL4.out (fun h => h)).trans c4
                have fr := (HRW4.out.chg h5 (fun h => h)).frozen 0
                have HFX := Lib.hid (HFIN.out _ _ _ h5 g1 g2 g3)
                clear g1 g2 g3
                refine late_last (by kernel_rfl) rfl (by kernel_rfl) (fun K hK => ?_)
                rw [if_pos (by rfl)]
                try simp only [List.getElem_toArray, List.getElem_cons_succ, List.getElem_cons_zero]
                go_simp
                refine hK.out _ _ ?_
                clear hK K
                try simp only [Act.put, List.setIfInBounds_toArray, List.set_cons_zero, List.set_cons_succ, List.getElem_toArray, List.getElem_cons_succ, List.getElem_cons_zero]
                clear cr fr c4
                go_wp2
                go_ret
                exact ⟨rfl, HFX.out.1, HFX.out.2⟩
      · go_enter Try.func19, Try.ntmps19
        go_wp2_with (first | ((with_reducible show wpList _ _ _ (⟨some 3, .box _ _, _, _, _, _⟩ :: _) _ _); refine wpList_box_Row rfl rfl (tcell t) rfl ?_; intro w1 hr1 hc1 hs1; have HR1 := Lib.hid hr1; have HC1 := Lib.hid hc1; have HG1 := Lib.hid (show w.heap.size < w1.heap.size by omega); have HQ1 := Lib.hid (HQ.out.quiet hc1); have x0 := hr1.cell 0; have x1 := hr1.cell 1; have x2 := hr1.cell 2; simp only [tcell, List.getElem?_cons_zero, List.getElem?_cons_succ] at x0 x1 x2; have cq := (HRW.out.chg hc1 (fun h => h)).cell 0; simp only [List.getElem?_cons_zero] at cq; clear hr1 hc1 hs1) | (go_at_call 24; refine (HAT.out _ HQ1.out).mono ?_; rintro e w2 ⟨rfl, rfl⟩) | (go_at_call 20; refine (HCA.out _ HQ1.out).mono ?_; rintro e w4 ⟨rfl, hq4, hc4⟩; clear x0 x1 x2 cq; have HQ4 := Lib.hid (hq4.mono (T' := fun b => T b ∨ w.heap.size ≤ b) (fun b _ h => h.imp id (fun h => Nat.le_trans HC1.out.size h))); have HC4 := Lib.hid (show Chg (· = r) w w4 from (HC1.out.mono (fun _ _ h => h.elim)).trans hc4); have HR4 := Lib.hid (HR1.out.chg hc4 (fun (e : w.heap.size = r) => by have := HRL.out; omega)); clear hq4 hc4; obtain ⟨A4, cap4, hr4, hcap4, hmx4, hv4⟩ := HQ4.out; have c4 : w4.cell? ⟨r, 0, none⟩ = some (.slice A4 R.length cap4) := hr4.cell 0; have HRW4 := Lib.hid hr4; have HRL4 := Lib.hid hr4.lt; have HV4 := Lib.hid hv4; clear hr4 hv4))
        have HBX : Hid (∀ x, Chg none_ w4 x → x.rangeAt w.heap.size 0 (tcell t)) := Lib.hid (fun x hx => (HR4.out.chg hx (fun h => h)).range)
        have HSZ4 := Lib.hid HC4.out.size
        go_loopw [5] (fun i wr => ∃ p : Nat, i = .int .i64 (p : Int) ∧ p ≤ R.length ∧ (∀ m, p ≤ m → m < R.length → Ah t (tm R m)) ∧ Chg none_ w4 wr) (fun i _ => (intOf i).toNat)
        case atStart => exact ⟨R.length, rfl, Nat.le_refl _, fun m h1 h2 => absurd h2 (by omega), Chg.refl _ _⟩
        case round =>
          obtain ⟨p, rfl, hp, hm, hcr⟩ := hrel
          have HRB := Lib.hid hm
          by_cases hp0 : p = 0
          · have HP0 : Hid (p = 0) := Lib.hid hp0
            have hin : insS t R = R.take p ++ t :: R.drop p := ins_at HSR.out hp hm (fun h => absurd h (by omega))
            clear hm hp0
            go_wp2
            refine wp_region_late (fun x => Chg none_ w4 x) 13 (by kernel_rfl) ?_
            have hy : Chg none_ w4 wr.drew := hcr.drew
            generalize wr.drew = wy at hy ⊢
            refine late_take (i := 0) (v := .int .i64 (p : Int)) [1, 2, 13] rfl (by kernel_rfl) (by kernel_rfl) (by kernel_rfl) (by kernel_rfl) (by first | exact fun _ _ _ h => h | exact fun _ _ _ h => nomatch h.1) (Or.inl ⟨by rfl, fun w_ hw_ => by go_simp⟩) hy ?_
            try simp only [Act.put, List.setIfInBounds_toArray, List.set_cons_zero, List.set_cons_succ, List.getElem_toArray, List.getElem_cons_zero]
            refine late_take (i := 1) (v := .bool false) [2, 13] rfl (by kernel_rfl) (by kernel_rfl) (by kernel_rfl) (by kernel_rfl) (by first | exact fun _ _ _ h => h | exact fun _ _ _ h => nomatch h.1) (Or.inl ⟨by rfl, fun w_ hw_ => by have p0_ := HP0.out; go_simp⟩) hy ?_
            try simp only [Act.put, List.setIfInBounds_toArray, List.set_cons_zero, List.set_cons_succ, List.getElem_toArray, List.getElem_cons_succ, List.getElem_cons_zero]
            refine late_take (i := 2) (v := .bool false) [13] rfl (by kernel_rfl) (by kernel_rfl) (by kernel_rfl) (by kernel_rfl) (by first | exact fun _ _ _ h => h | exact fun _ _ _ h => nomatch h.1) (Or.inl ⟨by rfl, fun w_ hw_ => by go_simp⟩) hy ?_
            try simp only [Act.put, List.setIfInBounds_toArray, List.set_cons_zero, List.set_cons_succ, List.getElem_toArray, List.getElem_cons_succ, List.getElem_cons_zero]
            refine late_take (i := 3) (v := undef) [12, 13] rfl (by kernel_rfl) (by kernel_rfl) (by kernel_rfl) (by kernel_rfl) (by first | exact fun _ _ _ h => h | exact fun _ _ _ h => nomatch h.1) (Or.inr ⟨by rfl, rfl⟩) hy ?_
            try simp only [Act.put, List.setIfInBounds_toArray, List.set_cons_zero, List.set_cons_succ, List.getElem_toArray, List.getElem_cons_succ, List.getElem_cons_zero]
            refine late_take (i := 4) (v := undef) [5, 6, 7, 10, 11, 12, 13] rfl (by kernel_rfl) (by kernel_rfl) (by kernel_rfl) (by kernel_rfl) (by first | exact fun _ _ _ h => h | exact fun _ _ _ h => nomatch h.1) (Or.inr ⟨by rfl, rfl⟩) hy ?_
            try simp only [Act.put, List.setIfInBounds_toArray, List.set_cons_zero, List.set_cons_succ, List.getElem_toArray, List.getElem_cons_succ, List.getElem_cons_zero]
            refine late_take (i := 5) (v := undef) [6, 7, 10, 11, 12, 13] rfl (by kernel_rfl) (by kernel_rfl) (by kernel_rfl) (by kernel_rfl) (by first | exact fun _ _ _ h => h | exact fun _ _ _ h => nomatch h.1) (Or.inr ⟨by rfl, rfl⟩) hy ?_
            try simp only [Act.put, List.setIfInBounds_toArray, List.set_cons_zero, List.set_cons_succ, List.getElem_toArray, List.getElem_cons_succ, List.getElem_cons_zero]
            refine late_take (i := 6) (v := undef) [7, 10, 11, 12, 13] rfl (by kernel_rfl) (by kernel_rfl) (by kernel_rfl) (by kernel_rfl) (by first | exact fun _ _ _ h => h | exact fun _ _ _ h => nomatch h.1) (Or.inr ⟨by rfl, rfl⟩) hy ?_
            try simp only [Act.put, List.setIfInBounds_toArray, List.set_cons_zero, List.set_cons_succ, List.getElem_toArray, List.getElem_cons_succ, List.getElem_cons_zero]
            refine late_take (i := 7) (v := undef) [10, 11, 12, 13] rfl (by kernel_rfl) (by kernel_rfl) (by kernel_rfl) (by kernel_rfl) (by first | exact fun _ _ _ h => h | exact fun _ _ _ h => nomatch h.1) (Or.inr ⟨by rfl, rfl⟩) hy ?_
            try simp only [Act.put, List.setIfInBounds_toArray, List.set_cons_zero, List.set_cons_succ, List.getElem_toArray, List.getElem_cons_succ, List.getElem_cons_zero]
            refine late_take (i := 8) (v := undef) [9, 10, 11, 12, 13] rfl (by kernel_rfl) (by kernel_rfl) (by kernel_rfl) (by kernel_rfl) (by first | exact fun _ _ _ h => h | exact fun _ _ _ h => nomatch h.1) (Or.inr ⟨by rfl, rfl⟩) hy ?_
            try simp only [Act.put, List.setIfInBounds_toArray, List.set_cons_zero, List.set_cons_succ, List.getElem_toArray, List.getElem_cons_succ, List.getElem_cons_zero]
            refine late_take (i := 9) (v := undef) [10, 11, 12, 13] rfl (by kernel_rfl) (by kernel_rfl) (by kernel_rfl) (by kernel_rfl) (by first | exact fun _ _ _ h => h | exact fun _ _ _ h => nomatch h.1) (Or.inr ⟨by rfl, rfl⟩) hy ?_
            try simp only [Act.put, List.setIfInBounds_toArray, List.set_cons_zero, List.set_cons_succ, List.getElem_toArray, List.getElem_cons_succ, List.getElem_cons_zero]
            refine late_take (i := 10) (v := undef) [11, 12, 13] rfl (by kernel_rfl) (by kernel_rfl) (by kernel_rfl) (by kernel_rfl) (by first | exact fun _ _ _ h => h | exact fun _ _ _ h => nomatch h.1) (Or.inr ⟨by rfl, rfl⟩) hy ?_
            try simp only [Act.put, List.setIfInBounds_toArray, List.set_cons_zero, List.set_cons_succ, List.getElem_toArray, List.getElem_cons_succ, List.getElem_cons_zero]
            refine late_take (i := 11) (v := undef) [12, 13] rfl (by kernel_rfl) (by kernel_rfl) (by kernel_rfl) (by kernel_rfl) (by first | exact fun _ _ _ h => h | exact fun _ _ _ h => nomatch h.1) (Or.inr ⟨by rfl, rfl⟩) hy ?_
            try simp only [Act.put, List.setIfInBounds_toArray, List.set_cons_zero, List.set_cons_succ, List.getElem_toArray, List.getElem_cons_succ, List.getElem_cons_zero]
            refine late_take (i := 12) (v := undef) [13] rfl (by kernel_rfl) (by kernel_rfl) (by kernel_rfl) (by kernel_rfl) (by first | exact fun _ _ _ h => h | exact fun _ _ _ h => nomatch h.1) (Or.inr ⟨by rfl, rfl⟩) hy ?_
            try simp only [Act.put, List.setIfInBounds_toArray, List.set_cons_zero, List.set_cons_succ, List.getElem_toArray, List.getElem_cons_succ, List.getElem_cons_zero]
            refine late_last (by kernel_rfl) rfl (by kernel_rfl) (fun K hK => ?_)
            rw [if_pos (by rfl)]
            try simp only [List.getElem_toArray, List.getElem_cons_succ, List.getElem_cons_zero]
            go_simp
            refine hK.out _ _ ?_
            clear hK K
            try simp only [Act.put, List.setIfInBounds_toArray, List.set_cons_zero, List.set_cons_succ, List.getElem_toArray, List.getElem_cons_succ, List.getElem_cons_zero]
            go_wp2
            have HV1 : Hid (View w4 (fun b => T b ∨ w.heap.size ≤ b) (highN A4 cap4) (p * 3) (tcells (R.take p))) := Lib.hid (by
              rw [tcells_take]
              exact (HV4.out.highN cap4).take (Nat.mul_le_mul_right 3 hp))
            have HV2 : Hid (View w4 (fun b => T b ∨ w.heap.size ≤ b) (dropN A4 cap4 p 3) ((R.length - p) * 3) (tcells (R.drop p))) := Lib.hid (by
              rw [tcells_drop]
              exact HV4.out.dropN hcap4)
            obtain ⟨D, hD⟩ : ∃ D, D = [] ++ R.take p ++ [t] ++ R.drop p := ⟨_, rfl⟩
            have HDD := Lib.hid hD
            have HFIN : Hid (∀ (x : World) A3 cap3, Chg none_ w4 x → D.length ≤ cap3 → cap3 ≤ maxLen → View x (fun b => w4.heap.size ≤ b) A3 (D.length * 3) (tcells D) →
                RQ (x.setCell ⟨r, 0, none⟩ (.slice A3 D.length cap3)) (fun b => T b ∨ w.heap.size ≤ b) r (insS t R) ∧ Chg (· = r) w (x.setCell ⟨r, 0, none⟩ (.slice A3 D.length cap3))) := Lib.hid (fun x A3 cap3 hc g1 g2 g3 => by
              have hD' : D = insS t R := by rw [hD, hin, List.nil_append, List.append_assoc]; rfl
              rw [hD'] at g1 g3 ⊢
              have hlt' := HRL4.out
              exact ⟨⟨A3, cap3, (HRW4.out.chg hc (fun h => h)).set 0 _, g1, g2, (g3.setCell ⟨r, 0, none⟩ (fun (h : w4.heap.size ≤ r) => by omega) _).mono (fun _ _ h => Or.inr (Nat.le_trans HSZ4.out h))⟩, (HC4.out.trans (show Chg (· = r) w4 x from hc.mono (fun _ _ h => h.elim))).setCell (p := ⟨r, 0, none⟩) (fun _ => rfl) _⟩)
            clear hD hin
            refine wp_region_late (fun x => Chg none_ w4 x) 21 (by kernel_rfl) ?_
            have hz : Chg none_ w4 wy.drew := hy.drew
            generalize wy.drew = wz at hz ⊢
            refine late_take (i := 0) (v := .pointer (some ⟨r, 0, none⟩)) [19, 20, 21] rfl (by kernel_rfl) (by kernel_rfl) (by kernel_rfl) (by kernel_rfl) (by first | exact fun _ _ _ h => h | exact fun _ _ _ h => nomatch h.1) (Or.inl ⟨by rfl, fun w_ hw_ => by go_simp⟩) hz ?_
            try simp only [Act.put, List.setIfInBounds_toArray, List.set_cons_zero, List.set_cons_succ, List.getElem_toArray, List.getElem_cons_zero]
            refine late_take (i := 2) (v := .pointer (some ⟨r, 0, none⟩)) [3, 4, 5, 7, 8, 11, 18, 21] rfl (by kernel_rfl) (by kernel_rfl) (by kernel_rfl) (by kernel_rfl) (by first | exact fun _ _ _ h => h | exact fun _ _ _ h => nomatch h.1) (Or.inl ⟨by rfl, fun w_ hw_ => by go_simp⟩) hz ?_
            try simp only [Act.put, List.setIfInBounds_toArray, List.set_cons_zero, List.set_cons_succ, List.getElem_toArray, List.getElem_cons_succ, List.getElem_cons_zero]
            refine late_take (i := 3) (v := .pointer (some ⟨r, 0, none⟩)) [4, 5, 7, 8, 11, 18, 21] rfl (by kernel_rfl) (by kernel_rfl) (by kernel_rfl) (by kernel_rfl) (by first | exact fun _ _ _ h => h | exact fun _ _ _ h => nomatch h.1) (Or.inl ⟨by rfl, fun w_ hw_ => by go_simp⟩) hz ?_
            try simp only [Act.put, List.setIfInBounds_toArray, List.set_cons_zero, List.set_cons_succ, List.getElem_toArray, List.getElem_cons_succ, List.getElem_cons_zero]
            refine late_take (i := 4) (v := .pointer (some ⟨r, 0, none⟩)) [5, 7, 8, 11, 18, 21] rfl (by kernel_rfl) (by kernel_rfl) (by kernel_rfl) (by kernel_rfl) (by first | exact fun _ _ _ h => h | exact fun _ _ _ h => nomatch h.1) (Or.inl ⟨by rfl, fun w_ hw_ => by go_simp⟩) hz ?_
            try simp only [Act.put, List.setIfInBounds_toArray, List.set_cons_zero, List.set_cons_succ, List.getElem_toArray, List.getElem_cons_succ, List.getElem_cons_zero]
            refine late_take (i := 5) (v := .slice A4 R.length cap4) [7, 8, 11, 18, 21] rfl (by kernel_rfl) (by kernel_rfl) (by kernel_rfl) (by kernel_rfl) (by first | exact fun _ _ _ h => h | exact fun _ _ _ h => nomatch h.1) (Or.inl ⟨by rfl, fun w_ hw_ => by have c0_ := (Chg.cell hw_ 0 HRL4.out (fun h => h)).trans c4; go_simp⟩) hz ?_
            try simp only [Act.put, List.setIfInBounds_toArray, List.set_cons_zero, List.set_cons_succ, List.getElem_toArray, List.getElem_cons_succ, List.getElem_cons_zero]
            refine late_take (i := 6) (v := .int .i64 (p : Int)) [7, 8, 11, 18, 21] rfl (by kernel_rfl) (by kernel_rfl) (by kernel_rfl) (by kernel_rfl) (by first | exact fun _ _ _ h => h | exact fun _ _ _ h => nomatch h.1) (Or.inl ⟨by rfl, fun w_ hw_ => by go_simp⟩) hz ?_
            try simp only [Act.put, List.setIfInBounds_toArray, List.set_cons_zero, List.set_cons_succ, List.getElem_toArray, List.getElem_cons_succ, List.getElem_cons_zero]
            refine late_take (i := 7) (v := .slice (highN A4 cap4) p cap4) [8, 11, 18, 21] rfl (by kernel_rfl) (by kernel_rfl) (by kernel_rfl) (by kernel_rfl) (by first | exact fun _ _ _ h => h | exact fun _ _ _ h => nomatch h.1) (yieldsIf_slice_highN (by rfl) 34 27 _ _ rfl A4 R.length cap4 p 3 rfl rfl Try.underlying34 sizeTm (by omega)) hz ?_
            try simp only [Act.put, List.setIfInBounds_toArray, List.set_cons_zero, List.set_cons_succ, List.getElem_toArray, List.getElem_cons_succ, List.getElem_cons_zero]
            refine late_take (i := 9) (v := .agg (tcell t).toArray) [10, 11, 18, 21] rfl (by kernel_rfl) (by kernel_rfl) (by kernel_rfl) (by kernel_rfl) (by first | exact fun _ _ _ h => h | exact fun _ _ _ h => nomatch h.1) (yieldsIf_load_mid (by rfl) 27 _ rfl w.heap.size 0 rfl (tcell t) _ (fun w' hw' => HBX.out w' hw') Try.underlying27 rfl sizeTm) hz ?_
            try simp only [Act.put, List.setIfInBounds_toArray, List.set_cons_zero, List.set_cons_succ, List.getElem_toArray, List.getElem_cons_succ, List.getElem_cons_zero]
            refine late_take (i := 12) (v := .pointer (some ⟨r, 0, none⟩)) [13, 14, 15, 17, 18, 21] rfl (by kernel_rfl) (by kernel_rfl) (by kernel_rfl) (by kernel_rfl) (by first | exact fun _ _ _ h => h | exact fun _ _ _ h => nomatch h.1) (Or.inl ⟨by rfl, fun w_ hw_ => by go_simp⟩) hz ?_
            try simp only [Act.put, List.setIfInBounds_toArray, List.set_cons_zero, List.set_cons_succ, List.getElem_toArray, List.getElem_cons_succ, List.getElem_cons_zero]
            refine late_take (i := 13) (v := .pointer (some ⟨r, 0, none⟩)) [14, 15, 17, 18, 21] rfl (by kernel_rfl) (by kernel_rfl) (by kernel_rfl) (by kernel_rfl) (by first | exact fun _ _ _ h => h | exact fun _ _ _ h => nomatch h.1) (Or.inl ⟨by rfl, fun w_ hw_ => by go_simp⟩) hz ?_
            try simp only [Act.put, List.setIfInBounds_toArray, List.set_cons_zero, List.set_cons_succ, List.getElem_toArray, List.getElem_cons_succ, List.getElem_cons_zero]
            refine late_take (i := 14) (v := .pointer (some ⟨r, 0, none⟩)) [15, 17, 18, 21] rfl (by kernel_rfl) (by kernel_rfl) (by kernel_rfl) (by kernel_rfl) (by first | exact fun _ _ _ h => h | exact fun _ _ _ h => nomatch h.1) (Or.inl ⟨by rfl, fun w_ hw_ => by go_simp⟩) hz ?_
            try simp only [Act.put, List.setIfInBounds_toArray, List.set_cons_zero, List.set_cons_succ, List.getElem_toArray, List.getElem_cons_succ, List.getElem_cons_zero]
            refine late_take (i := 15) (v := .slice A4 R.length cap4) [17, 18, 21] rfl (by kernel_rfl) (by kernel_rfl) (by kernel_rfl) (by kernel_rfl) (by first | exact fun _ _ _ h => h | exact fun _ _ _ h => nomatch h.1) (Or.inl ⟨by rfl, fun w_ hw_ => by have c0_ := (Chg.cell hw_ 0 HRL4.out (fun h => h)).trans c4; go_simp⟩) hz ?_
            try simp only [Act.put, List.setIfInBounds_toArray, List.set_cons_zero, List.set_cons_succ, List.getElem_toArray, List.getElem_cons_succ, List.getElem_cons_zero]
            refine late_take (i := 16) (v := .int .i64 (p : Int)) [17, 18, 21] rfl (by kernel_rfl) (by kernel_rfl) (by kernel_rfl) (by kernel_rfl) (by first | exact fun _ _ _ h => h | exact fun _ _ _ h => nomatch h.1) (Or.inl ⟨by rfl, fun w_ hw_ => by go_simp⟩) hz ?_
            try simp only [Act.put, List.setIfInBounds_toArray, List.set_cons_zero, List.set_cons_succ, List.getElem_toArray, List.getElem_cons_succ, List.getElem_cons_zero]
            refine late_take (i := 17) (v := .slice (dropN A4 cap4 p 3) (R.length - p) (cap4 - p)) [18, 21] rfl (by kernel_rfl) (by kernel_rfl) (by kernel_rfl) (by kernel_rfl) (by first | exact fun _ _ _ h => h | exact fun _ _ _ h => nomatch h.1) (yieldsIf_slice_lowN (by rfl) 34 27 _ _ rfl A4 R.length cap4 p 3 rfl rfl Try.underlying34 sizeTm (by omega)) hz ?_
            try simp only [Act.put, List.setIfInBounds_toArray, List.set_cons_zero, List.set_cons_succ, List.getElem_toArray, List.getElem_cons_succ, List.getElem_cons_zero]
            refine late_two (i := 1) (j := 10) (by kernel_rfl) rfl rfl (fun K hK => ?_) (fun K hK => ?_)
            · rw [if_pos (by rfl)]
              try simp only [List.getElem_toArray, List.getElem_cons_succ, List.getElem_cons_zero]
              refine wp_new_row (v := fun g => .slice (some ⟨g, 0, none⟩) 0 0) (e := 27) (cs := []) (fun w_ => by go_simp) ?_
              intro x1 hr_x1 hc_x1 hs_x1
              have h1 : Chg none_ w4 x1 := hz.trans hc_x1
              have o58 : OwnedT x1 w4.heap.size (.slice (some ⟨wz.heap.size, 0, none⟩) 0 0) [] := OwnedT.lit0 hr_x1 hz.size
              refine hK.out _ _ h1 ?_
              clear hK K
              try simp only [Act.put, List.setIfInBounds_toArray, List.set_cons_zero, List.set_cons_succ]
              refine late_two (i := 8) (j := 10) (by kernel_rfl) rfl rfl (fun K hK => ?_) (fun K hK => ?_)
              · rw [if_pos (by rfl)]
                try simp only [List.getElem_toArray, List.getElem_cons_succ, List.getElem_cons_zero]
                refine wp_append_T2 (.tmp 58) (.tmp 64) rfl (base := w4.heap.size) (v := .slice (some ⟨wz.heap.size, 0, none⟩) 0 0) (L := []) (M := R.take p) (T := (fun b => T b ∨ w.heap.size ≤ b)) (A := highN A4 cap4) (m := p) (c := cap4) (w0 := w4) rfl o58 rfl ((HV1.out.chg h1 (fun _ _ h => h))) (by simp; omega) h1.size h1 (Nat.le_refl _) ?_
                intro v65 x2 o65 h2 hg_x2
                refine hK.out _ _ h2 ?_
                clear hK K
                try simp only [Act.put, List.setIfInBounds_toArray, List.set_cons_zero, List.set_cons_succ]
                refine late_one (i := 10) (by kernel_rfl) rfl (fun K hK => ?_)
                rw [if_pos (by rfl)]
                try simp only [List.getElem_toArray, List.getElem_cons_succ, List.getElem_cons_zero]
                refine wp_new_row (v := fun g => .slice (some ⟨g, 0, none⟩) 1 1) (e := 27) (cs := tcell t) (fun w_ => by go_simp; try rfl) ?_
                intro x3 hr_x3 hc_x3 hs_x3
                have h3 : Chg none_ w4 x3 := h2.trans hc_x3
                have v67 : View x3 (fun b => b = x2.heap.size) (some ⟨x2.heap.size, 0, none⟩) (1 * 3) (tcells [t]) := View.row (cs := tcell t) hr_x3 (n := 3) (by rw [tcell_len]; exact Nat.le_refl _) rfl
                refine hK.out _ _ h3 ?_
                clear hK K
                try simp only [Act.put, List.setIfInBounds_toArray, List.set_cons_zero, List.set_cons_succ]
                refine late_one (i := 11) (by kernel_rfl) rfl (fun K hK => ?_)
                rw [if_pos (by rfl)]
                try simp only [List.getElem_toArray, List.getElem_cons_succ, List.getElem_cons_zero]
                refine wp_append_T2 (.tmp 65) (.tmp 67) rfl (base := w4.heap.size) (L := [] ++ R.take p) (M := [t]) (T := (fun b => b = x2.heap.size)) (A := some ⟨x2.heap.size, 0, none⟩) (m := 1) (c := 1) (w0 := w4) rfl (o65.chg hc_x3 (fun _ _ _ h => h)) rfl (v67) (by simp; omega) h3.size h3 (Nat.le_refl _) ?_
                intro v68 x4 o68 h4 hg_x4
                refine hK.out _ _ h4 ?_
                clear hK K
                try simp only [Act.put, List.setIfInBounds_toArray, List.set_cons_zero, List.set_cons_succ]
                refine late_one (i := 18) (by kernel_rfl) rfl (fun K hK => ?_)
                rw [if_pos (by rfl)]
                try simp only [List.getElem_toArray, List.getElem_cons_succ, List.getElem_cons_zero]
                refine wp_append_T2 (.tmp 68) (.tmp 74) rfl (base := w4.heap.size) (L := [] ++ R.take p ++ [t]) (M := R.drop p) (T := (fun b => T b ∨ w.heap.size ≤ b)) (A := dropN A4 cap4 p 3) (m := (R.length - p)) (c := (cap4 - p)) (w0 := w4) rfl o68 rfl ((HV2.out.chg h4 (fun _ _ h => h))) (by simp; omega) h4.size h4 (Nat.le_refl _) ?_
                intro v75 x5 o75 h5 hg_x5
                refine hK.out _ _ h5 ?_
                clear hK K
                try simp only [Act.put, List.setIfInBounds_toArray, List.set_cons_zero, List.set_cons_succ]
                rw [← HDD.out] at o75
                refine late_take (i := 19) (v := .pointer (some ⟨r, 0, none⟩)) [20, 21] rfl (by kernel_rfl) (by kernel_rfl) (by kernel_rfl) (by kernel_rfl) (by first | exact fun _ _ _ h => h | exact fun _ _ _ h => nomatch h.1) (Or.inl ⟨by rfl, fun w_ hw_ => by go_simp⟩) h5 ?_
                try simp only [Act.put, List.setIfInBounds_toArray, List.set_cons_zero, List.set_cons_succ, List.getElem_toArray, List.getElem_cons_succ, List.getElem_cons_zero]
                refine late_take (i := 20) (v := .pointer (some ⟨r, 0, none⟩)) [21] rfl (by kernel_rfl) (by kernel_rfl) (by kernel_rfl) (by kernel_rfl) (by first | exact fun _ _ _ h => h | exact fun _ _ _ h => nomatch h.1) (Or.inl ⟨by rfl, fun w_ hw_ => by go_simp⟩) h5 ?_
                try simp only [Act.put, List.setIfInBounds_toArray, List.set_cons_zero, List.set_cons_succ, List.getElem_toArray, List.getElem_cons_succ, List.getElem_cons_zero]
                obtain ⟨A3, cap3, rfl, g1, g2, g3⟩ := OwnedT.view o75
                have cr := (h5.cell 0 HRL4.out (fun h => h)).trans c4
                have fr := (HRW4.out.chg h5 (fun h => h)).frozen 0
                have HFX := Lib.hid (HFIN.out _ _ _ h5 g1 g2 g3)
                clear g1 g2 g3
                refine late_last (by kernel_rfl) rfl (by kernel_rfl) (fun K hK => ?_)
                rw [if_pos (by rfl)]
                try simp only [List.getElem_toArray, List.getElem_cons_succ, List.getElem_cons_zero]
                go_simp
                refine hK.out _ _ ?_
                clear hK K
                try simp only [Act.put, List.setIfInBounds_toArray, List.set_cons_zero, List.set_cons_succ, List.getElem_toArray, List.getElem_cons_succ, List.getElem_cons_zero]
                clear cr fr c4
                go_wp2
                go_ret
                exact ⟨rfl, HFX.out.1, HFX.out.2⟩
              · rw [if_pos (by rfl)]
                try simp only [List.getElem_toArray, List.getElem_cons_succ, List.getElem_cons_zero]
                refine wp_new_row (v := fun g => .slice (some ⟨g, 0, none⟩) 1 1) (e := 27) (cs := tcell t) (fun w_ => by go_simp; try rfl) ?_
                intro x2 hr_x2 hc_x2 hs_x2
                have h2 : Chg none_ w4 x2 := h1.trans hc_x2
                have v67 : View x2 (fun b => b = x1.heap.size) (some ⟨x1.heap.size, 0, none⟩) (1 * 3) (tcells [t]) := View.row (cs := tcell t) hr_x2 (n := 3) (by rw [tcell_len]; exact Nat.le_refl _) rfl
                refine hK.out _ _ h2 ?_
                clear hK K
                try simp only [Act.put, List.setIfInBounds_toArray, List.set_cons_zero, List.set_cons_succ]
                refine late_one (i := 8) (by kernel_rfl) rfl (fun K hK => ?_)
                rw [if_pos (by rfl)]
                try simp only [List.getElem_toArray, List.getElem_cons_succ, List.getElem_cons_zero]
                refine wp_append_T2 (.tmp 58) (.tmp 64) rfl (base := w4.heap.size) (v := .slice (some ⟨wz.heap.size, 0, none⟩) 0 0) (L := []) (M := R.take p) (T := (fun b => T b ∨ w.heap.size ≤ b)) (A := highN A4 cap4) (m := p) (c := cap4) (w0 := w4) rfl (o58.chg hc_x2 (fun _ _ _ h => h)) rfl ((HV1.out.chg h2 (fun _ _ h => h))) (by simp; omega) h2.size h2 (Nat.le_refl _) ?_
                intro v65 x3 o65 h3 hg_x3
                refine hK.out _ _ h3 ?_
                clear hK K
                try simp only [Act.put, List.setIfInBounds_toArray, List.set_cons_zero, List.set_cons_succ]
                refine late_one (i := 11) (by kernel_rfl) rfl (fun K hK => ?_)
                rw [if_pos (by rfl)]
                try simp only [List.getElem_toArray, List.getElem_cons_succ, List.getElem_cons_zero]
                refine wp_append_T2 (.tmp 65) (.tmp 67) rfl (base := w4.heap.size) (L := [] ++ R.take p) (M := [t]) (T := (fun b => b = x1.heap.size)) (A := some ⟨x1.heap.size, 0, none⟩) (m := 1) (c := 1) (w0 := w4) rfl o65 rfl ((v67.chg hg_x3 (fun b (e : b = x1.heap.size) h => by have h2 : some wz.heap.size = some b := h; injection h2 with h2; omega))) (by simp; omega) h3.size h3 (Nat.le_refl _) ?_
                intro v68 x4 o68 h4 hg_x4
                refine hK.out _ _ h4 ?_
                clear hK K
                try simp only [Act.put, List.setIfInBounds_toArray, List.set_cons_zero, List.set_cons_succ]
                refine late_one (i := 18) (by kernel_rfl) rfl (fun K hK => ?_)
                rw [if_pos (by rfl)]
                try simp only [List.getElem_toArray, List.getElem_cons_succ, List.getElem_cons_zero]
                refine wp_append_T2 (.tmp 68) (.tmp 74) rfl (base := w4.heap.size) (L := [] ++ R.take p ++ [t]) (M := R.drop p) (T := (fun b => T b ∨ w.heap.size ≤ b)) (A := dropN A4 cap4 p 3) (m := (R.length - p)) (c := (cap4 - p)) (w0 := w4) rfl o68 rfl ((HV2.out.chg h4 (fun _ _ h => h))) (by simp; omega) h4.size h4 (Nat.le_refl _) ?_
                intro v75 x5 o75 h5 hg_x5
                refine hK.out _ _ h5 ?_
                clear hK K
                try simp only [Act.put, List.setIfInBounds_toArray, List.set_cons_zero, List.set_cons_succ]
                rw [← HDD.out] at o75
                refine late_take (i := 19) (v := .pointer (some ⟨r, 0, none⟩)) [20, 21] rfl (by kernel_rfl) (by kernel_rfl) (by kernel_rfl) (by kernel_rfl) (by first | exact fun _ _ _ h => h | exact fun _ _ _ h => nomatch h.1) (Or.inl ⟨by rfl, fun w_ hw_ => by go_simp⟩) h5 ?_
                try simp only [Act.put, List.setIfInBounds_toArray, List.set_cons_zero, List.set_cons_succ, List.getElem_toArray, List.getElem_cons_succ, List.getElem_cons_zero]
                refine late_take (i := 20) (v := .pointer (some ⟨r, 0, none⟩)) [21] rfl (by kernel_rfl) (by kernel_rfl) (by kernel_rfl) (by kernel_rfl) (by first | exact fun _ _ _ h => h | exact fun _ _ _ h => nomatch h.1) (Or.inl ⟨by rfl, fun w_ hw_ => by go_simp⟩) h5 ?_
                try simp only [Act.put, List.setIfInBounds_toArray, List.set_cons_zero, List.set_cons_succ, List.getElem_toArray, List.getElem_cons_succ, List.getElem_cons_zero]
                obtain ⟨A3, cap3, rfl, g1, g2, g3⟩ := OwnedT.view o75
                have cr := (h5.cell 0 HRL4.out (fun h => h)).trans c4
                have fr := (HRW4.out.chg h5 (fun h => h)).frozen 0
                have HFX := Lib.hid (HFIN.out _ _ _ h5 g1 g2 g3)
                clear g1 g2 g3
                refine late_last (by kernel_rfl) rfl (by kernel_rfl) (fun K hK => ?_)
                rw [if_pos (by rfl)]
                try simp only [List.getElem_toArray, List.getElem_cons_succ, List.getElem_cons_zero]
                go_simp
                refine hK.out _ _ ?_
                clear hK K
                try simp only [Act.put, List.setIfInBounds_toArray, List.set_cons_zero, List.set_cons_succ, List.getElem_toArray, List.getElem_cons_succ, List.getElem_cons_zero]
                clear cr fr c4
                go_wp2
                go_ret
                exact ⟨rfl, HFX.out.1, HFX.out.2⟩
            · rw [if_pos (by rfl)]
              try simp only [List.getElem_toArray, List.getElem_cons_succ, List.getElem_cons_zero]
              refine wp_new_row (v := fun g => .slice (some ⟨g, 0, none⟩) 1 1) (e := 27) (cs := tcell t) (fun w_ => by go_simp; try rfl) ?_
              intro x1 hr_x1 hc_x1 hs_x1
              have h1 : Chg none_ w4 x1 := hz.trans hc_x1
              have v67 : View x1 (fun b => b = wz.heap.size) (some ⟨wz.heap.size, 0, none⟩) (1 * 3) (tcells [t]) := View.row (cs := tcell t) hr_x1 (n := 3) (by rw [tcell_len]; exact Nat.le_refl _) rfl
              refine hK.out _ _ h1 ?_
              clear hK K
              try simp only [Act.put, List.setIfInBounds_toArray, List.set_cons_zero, List.set_cons_succ]
              refine late_one (i := 1) (by kernel_rfl) rfl (fun K hK => ?_)
              rw [if_pos (by rfl)]
              try simp only [List.getElem_toArray, List.getElem_cons_succ, List.getElem_cons_zero]
              refine wp_new_row (v := fun g => .slice (some ⟨g, 0, none⟩) 0 0) (e := 27) (cs := []) (fun w_ => by go_simp) ?_
              intro x2 hr_x2 hc_x2 hs_x2
              have h2 : Chg none_ w4 x2 := h1.trans hc_x2
              have o58 : OwnedT x2 w4.heap.size (.slice (some ⟨x1.heap.size, 0, none⟩) 0 0) [] := OwnedT.lit0 hr_x2 h1.size
              refine hK.out _ _ h2 ?_
              clear hK K
              try simp only [Act.put, List.setIfInBounds_toArray, List.set_cons_zero, List.set_cons_succ]
              refine late_one (i := 8) (by kernel_rfl) rfl (fun K hK => ?_)
              rw [if_pos (by rfl)]
              try simp only [List.getElem_toArray, List.getElem_cons_succ, List.getElem_cons_zero]
              refine wp_append_T2 (.tmp 58) (.tmp 64) rfl (base := w4.heap.size) (v := .slice (some ⟨x1.heap.size, 0, none⟩) 0 0) (L := []) (M := R.take p) (T := (fun b => T b ∨ w.heap.size ≤ b)) (A := highN A4 cap4) (m := p) (c := cap4) (w0 := w4) rfl o58 rfl ((HV1.out.chg h2 (fun _ _ h => h))) (by simp; omega) h2.size h2 (Nat.le_refl _) ?_
              intro v65 x3 o65 h3 hg_x3
              refine hK.out _ _ h3 ?_
              clear hK K
              try simp only [Act.put, List.setIfInBounds_toArray, List.set_cons_zero, List.set_cons_succ]
              refine late_one (i := 11) (by kernel_rfl) rfl (fun K hK => ?_)
              rw [if_pos (by rfl)]
              try simp only [List.getElem_toArray, List.getElem_cons_succ, List.getElem_cons_zero]
              refine wp_append_T2 (.tmp 65) (.tmp 67) rfl (base := w4.heap.size) (L := [] ++ R.take p) (M := [t]) (T := (fun b => b = wz.heap.size)) (A := some ⟨wz.heap.size, 0, none⟩) (m := 1) (c := 1) (w0 := w4) rfl o65 rfl (((v67.chg hc_x2 (fun _ _ h => h)).chg hg_x3 (fun b (e : b = wz.heap.size) h => by have h2 : some x1.heap.size = some b := h; injection h2 with h2; omega))) (by simp; omega) h3.size h3 (Nat.le_refl _) ?_
              intro v68 x4 o68 h4 hg_x4
              refine hK.out _ _ h4 ?_
              clear hK K
              try simp only [Act.put, List.setIfInBounds_toArray, List.set_cons_zero, List.set_cons_succ]
              refine late_one (i := 18) (by kernel_rfl) rfl (fun K hK => ?_)
              rw [if_pos (by rfl)]
              try simp only [List.getElem_toArray, List.getElem_cons_succ, List.getElem_cons_zero]
              refine wp_append_T2 (.tmp 68) (.tmp 74) rfl (base := w4.heap.size) (L := [] ++ R.take p ++ [t]) (M := R.drop p) (T := (fun b => T b ∨ w.heap.size ≤ b)) (A := dropN A4 cap4 p 3) (m := (R.length - p)) (c := (cap4 - p)) (w0 := w4) rfl o68 rfl ((HV2.out.chg h4 (fun _ _ h => h))) (by simp; omega) h4.size h4 (Nat.le_refl _) ?_
              intro v75 x5 o75 h5 hg_x5
              refine hK.out _ _ h5 ?_
              clear hK K
              try simp only [Act.put, List.setIfInBounds_toArray, List.set_cons_zero, List.set_cons_succ]
              rw [← HDD.out] at o75
              refine late_take (i := 19) (v := .pointer (some ⟨r, 0, none⟩)) [20, 21] rfl (by kernel_rfl) (by kernel_rfl) (by kernel_rfl) (by kernel_rfl) (by first | exact fun _ _ _ h => h | exact fun _ _ _ h => nomatch h.1) (Or.inl ⟨by rfl, fun w_ hw_ => by go_simp⟩) h5 ?_
              try simp only [Act.put, List.setIfInBounds_toArray, List.set_cons_zero, List.set_cons_succ, List.getElem_toArray, List.getElem_cons_succ, List.getElem_cons_zero]
              refine late_take (i := 20) (v := .pointer (some ⟨r, 0, none⟩)) [21] rfl (by kernel_rfl) (by kernel_rfl) (by kernel_rfl) (by kernel_rfl) (by first | exact fun _ _ _ h => h | exact fun _ _ _ h => nomatch h.1) (Or.inl ⟨by rfl, fun w_ hw_ => by go_simp⟩) h5 ?_
              try simp only [Act.put, List.setIfInBounds_toArray, List.set_cons_zero, List.set_cons_succ, List.getElem_toArray, List.getElem_cons_succ, List.getElem_cons_zero]
              obtain ⟨A3, cap3, rfl, g1, g2, g3⟩ := OwnedT.view o75
              have cr := (h5.cell 0 HRL4.out (fun h => h)).trans c4
              have fr := (HRW4.out.chg h5 (fun h => h)).frozen 0
              have HFX := Lib.hid (HFIN.out _ _ _ h5 g1 g2 g3)
              clear g1 g2 g3
              refine late_last (by kernel_rfl) rfl (by kernel_rfl) (fun K hK => ?_)
              rw [if_pos (by rfl)]
              try simp only [List.getElem_toArray, List.getElem_cons_succ, List.getElem_cons_zero]
              go_simp
              refine hK.out _ _ ?_
              clear hK K
              try simp only [Act.put, List.setIfInBounds_toArray, List.set_cons_zero, List.set_cons_succ, List.getElem_toArray, List.getElem_cons_succ, List.getElem_cons_zero]
              clear cr fr c4
              go_wp2
              go_ret
              exact ⟨rfl, HFX.out.1, HFX.out.2⟩
          · obtain ⟨k, hpk⟩ : ∃ k, p = k + 1 := ⟨p - 1, by omega⟩
            have HP0 : Hid ((0 : Int) < (p : Int)) := Lib.hid (by omega)
            have HWK : Hid (IntKind.i64.wrap ((p : Int) - 1) = (k : Int)) := Lib.hid (by rw [hpk]; simp [IntKind.wrap, IntKind.bits, IntKind.signed]; omega)
            have HWK2 : Hid (IntKind.i64.wrap (k : Int) = (k : Int)) := Lib.hid (by simp [IntKind.wrap, IntKind.bits, IntKind.signed]; omega)
            have hkl : k < R.length := by omega
            have k1 : (k : Int) < (R.length : Int) := by omega
            have k0 : 0 ≤ (k : Int) := by omega
            obtain ⟨b, o, rfl, hbl, _, hk⟩ := HV4.out.tmAt hkl
            have HEL : Hid (∀ x, Chg none_ w4 x → x.rangeAt b (o + k * 3) (tcell (tm R k))) := Lib.hid (fun x hx j v hv => (World.cell?_of_block (hx.block b hbl (fun h => h))).trans (hk k hkl j v hv))
            clear hk hbl
            by_cases ha : Ah t (tm R k)
            · have HAH : Hid (∀ x, Calls Try.prog 34 #[.agg (tcell t).toArray, .agg (tcell (tm R k)).toArray] x fun e w' => e = .returned (.bool true) ∧ Chg none_ x w') := Lib.hid (fun x => by
                have := ahead_any t (tm R k) x
                rwa [decide_eq_true ha] at this)
              have HM : Hid (∀ m, k ≤ m → m < R.length → Ah t (tm R m)) := Lib.hid (fun m h1 h2 => by
                rcases Nat.lt_or_ge k m with h | h
                · exact hm m (by omega) h2
                · rw [show m = k from by omega]; exact ha)
              clear hm ha
              go_wp2
              refine wp_region_late (fun x => Chg none_ w4 x) 13 (by kernel_rfl) ?_
              have hy : Chg none_ w4 wr.drew := hcr.drew
              generalize wr.drew = wy at hy ⊢
              refine late_take (i := 0) (v := .int .i64 (p : Int)) [1, 2, 13] rfl (by kernel_rfl) (by kernel_rfl) (by kernel_rfl) (by kernel_rfl) (by first | exact fun _ _ _ h => h | exact fun _ _ _ h => nomatch h.1) (Or.inl ⟨by rfl, fun w_ hw_ => by go_simp⟩) hy ?_
              try simp only [Act.put, List.setIfInBounds_toArray, List.set_cons_zero, List.set_cons_succ, List.getElem_toArray, List.getElem_cons_zero]
              refine late_take (i := 1) (v := .bool true) [2, 13] rfl (by kernel_rfl) (by kernel_rfl) (by kernel_rfl) (by kernel_rfl) (by first | exact fun _ _ _ h => h | exact fun _ _ _ h => nomatch h.1) (Or.inl ⟨by rfl, fun w_ hw_ => by have p0_ := HP0.out; go_simp⟩) hy ?_
              try simp only [Act.put, List.setIfInBounds_toArray, List.set_cons_zero, List.set_cons_succ, List.getElem_toArray, List.getElem_cons_succ, List.getElem_cons_zero]
              refine late_take (i := 2) (v := .bool true) [13] rfl (by kernel_rfl) (by kernel_rfl) (by kernel_rfl) (by kernel_rfl) (by first | exact fun _ _ _ h => h | exact fun _ _ _ h => nomatch h.1) (Or.inl ⟨by rfl, fun w_ hw_ => by go_simp⟩) hy ?_
              try simp only [Act.put, List.setIfInBounds_toArray, List.set_cons_zero, List.set_cons_succ, List.getElem_toArray, List.getElem_cons_succ, List.getElem_cons_zero]
              refine late_take (i := 3) (v := .agg (tcell t).toArray) [12, 13] rfl (by kernel_rfl) (by kernel_rfl) (by kernel_rfl) (by kernel_rfl) (by first | exact fun _ _ _ h => h | exact fun _ _ _ h => nomatch h.1) (yieldsIf_load_mid (by rfl) 27 _ rfl w.heap.size 0 rfl (tcell t) _ (fun w' hw' => HBX.out w' hw') Try.underlying27 rfl sizeTm) hy ?_
              try simp only [Act.put, List.setIfInBounds_toArray, List.set_cons_zero, List.set_cons_succ, List.getElem_toArray, List.getElem_cons_succ, List.getElem_cons_zero]
              refine late_take (i := 4) (v := .pointer (some ⟨r, 0, none⟩)) [5, 6, 7, 10, 11, 12, 13] rfl (by kernel_rfl) (by kernel_rfl) (by kernel_rfl) (by kernel_rfl) (by first | exact fun _ _ _ h => h | exact fun _ _ _ h => nomatch h.1) (Or.inl ⟨by rfl, fun w_ hw_ => by go_simp⟩) hy ?_
              try simp only [Act.put, List.setIfInBounds_toArray, List.set_cons_zero, List.set_cons_succ, List.getElem_toArray, List.getElem_cons_succ, List.getElem_cons_zero]
              refine late_take (i := 5) (v := .pointer (some ⟨r, 0, none⟩)) [6, 7, 10, 11, 12, 13] rfl (by kernel_rfl) (by kernel_rfl) (by kernel_rfl) (by kernel_rfl) (by first | exact fun _ _ _ h => h | exact fun _ _ _ h => nomatch h.1) (Or.inl ⟨by rfl, fun w_ hw_ => by go_simp⟩) hy ?_
              try simp only [Act.put, List.setIfInBounds_toArray, List.set_cons_zero, List.set_cons_succ, List.getElem_toArray, List.getElem_cons_succ, List.getElem_cons_zero]
              refine late_take (i := 6) (v := .pointer (some ⟨r, 0, none⟩)) [7, 10, 11, 12, 13] rfl (by kernel_rfl) (by kernel_rfl) (by kernel_rfl) (by kernel_rfl) (by first | exact fun _ _ _ h => h | exact fun _ _ _ h => nomatch h.1) (Or.inl ⟨by rfl, fun w_ hw_ => by go_simp⟩) hy ?_
              try simp only [Act.put, List.setIfInBounds_toArray, List.set_cons_zero, List.set_cons_succ, List.getElem_toArray, List.getElem_cons_succ, List.getElem_cons_zero]
              refine late_take (i := 7) (v := .slice (some ⟨b, o, none⟩) R.length cap4) [10, 11, 12, 13] rfl (by kernel_rfl) (by kernel_rfl) (by kernel_rfl) (by kernel_rfl) (by first | exact fun _ _ _ h => h | exact fun _ _ _ h => nomatch h.1) (Or.inl ⟨by rfl, fun w_ hw_ => by have c0_ := (Chg.cell hw_ 0 HRL4.out (fun h => h)).trans c4; go_simp⟩) hy ?_
              try simp only [Act.put, List.setIfInBounds_toArray, List.set_cons_zero, List.set_cons_succ, List.getElem_toArray, List.getElem_cons_succ, List.getElem_cons_zero]
              refine late_take (i := 8) (v := .int .i64 (p : Int)) [9, 10, 11, 12, 13] rfl (by kernel_rfl) (by kernel_rfl) (by kernel_rfl) (by kernel_rfl) (by first | exact fun _ _ _ h => h | exact fun _ _ _ h => nomatch h.1) (Or.inl ⟨by rfl, fun w_ hw_ => by go_simp⟩) hy ?_
              try simp only [Act.put, List.setIfInBounds_toArray, List.set_cons_zero, List.set_cons_succ, List.getElem_toArray, List.getElem_cons_succ, List.getElem_cons_zero]
              refine late_take (i := 9) (v := .int .i64 (k : Int)) [10, 11, 12, 13] rfl (by kernel_rfl) (by kernel_rfl) (by kernel_rfl) (by kernel_rfl) (by first | exact fun _ _ _ h => h | exact fun _ _ _ h => nomatch h.1) (Or.inl ⟨by rfl, fun w_ hw_ => by have hw1 := HWK.out; have hw2 := HWK2.out; go_simp⟩) hy ?_
              try simp only [Act.put, List.setIfInBounds_toArray, List.set_cons_zero, List.set_cons_succ, List.getElem_toArray, List.getElem_cons_succ, List.getElem_cons_zero]
              refine late_take (i := 10) (v := .pointer (some ⟨b, o + k * 3, none⟩)) [11, 12, 13] rfl (by kernel_rfl) (by kernel_rfl) (by kernel_rfl) (by kernel_rfl) (by first | exact fun _ _ _ h => h | exact fun _ _ _ h => nomatch h.1) (Or.inl ⟨by rfl, fun w_ hw_ => by go_simp⟩) hy ?_
              try simp only [Act.put, List.setIfInBounds_toArray, List.set_cons_zero, List.set_cons_succ, List.getElem_toArray, List.getElem_cons_succ, List.getElem_cons_zero]
              refine late_take (i := 11) (v := .agg (tcell (tm R k)).toArray) [12, 13] rfl (by kernel_rfl) (by kernel_rfl) (by kernel_rfl) (by kernel_rfl) (by first | exact fun _ _ _ h => h | exact fun _ _ _ h => nomatch h.1) (yieldsIf_load_mid (by rfl) 27 _ rfl b (o + k * 3) rfl (tcell (tm R k)) _ (fun w' hw' => HEL.out w' hw') Try.underlying27 rfl sizeTm) hy ?_
              try simp only [Act.put, List.setIfInBounds_toArray, List.set_cons_zero, List.set_cons_succ, List.getElem_toArray, List.getElem_cons_succ, List.getElem_cons_zero]
              refine late_one (i := 12) (by kernel_rfl) rfl (fun K hK => ?_)
              rw [if_pos (by rfl)]
              try simp only [List.getElem_toArray, List.getElem_cons_succ, List.getElem_cons_zero]
              go_simp
              refine (HAH.out _).mono ?_
              rintro e y1 ⟨rfl, hcy⟩
              have hy1 : Chg none_ w4 y1 := hy.trans hcy
              refine hK.out _ _ hy1 ?_
              clear hK K
              try simp only [Act.put, List.setIfInBounds_toArray, List.set_cons_zero, List.set_cons_succ, List.getElem_toArray, List.getElem_cons_succ, List.getElem_cons_zero]
              refine late_last (by kernel_rfl) rfl (by kernel_rfl) (fun K hK => ?_)
              rw [if_pos (by rfl)]
              try simp only [List.getElem_toArray, List.getElem_cons_succ, List.getElem_cons_zero]
              go_simp
              refine hK.out _ _ ?_
              clear hK K
              try simp only [Act.put, List.setIfInBounds_toArray, List.set_cons_zero, List.set_cons_succ, List.getElem_toArray, List.getElem_cons_succ, List.getElem_cons_zero]
              have hw1 := HWK.out
              go_wp2
              go_roundw
              case rel => exact ⟨k, by go_num, by omega, HM.out, hy1⟩
              case measure => simp [intOf]; omega
            · have HAH : Hid (∀ x, Calls Try.prog 34 #[.agg (tcell t).toArray, .agg (tcell (tm R k)).toArray] x fun e w' => e = .returned (.bool false) ∧ Chg none_ x w') := Lib.hid (fun x => by
                have := ahead_any t (tm R k) x
                rwa [decide_eq_false ha] at this)
              have hin : insS t R = R.take p ++ t :: R.drop p := ins_at HSR.out hp hm (fun _ => by rw [show p - 1 = k from by omega]; exact ha)
              clear hm ha
              go_wp2
              refine wp_region_late (fun x => Chg none_ w4 x) 13 (by kernel_rfl) ?_
              have hy : Chg none_ w4 wr.drew := hcr.drew
              generalize wr.drew = wy at hy ⊢
              refine late_take (i := 0) (v := .int .i64 (p : Int)) [1, 2, 13] rfl (by kernel_rfl) (by kernel_rfl) (by kernel_rfl) (by kernel_rfl) (by first | exact fun _ _ _ h => h | exact fun _ _ _ h => nomatch h.1) (Or.inl ⟨by rfl, fun w_ hw_ => by go_simp⟩) hy ?_
              try simp only [Act.put, List.setIfInBounds_toArray, List.set_cons_zero, List.set_cons_succ, List.getElem_toArray, List.getElem_cons_zero]
              refine late_take (i := 1) (v := .bool true) [2, 13] rfl (by kernel_rfl) (by kernel_rfl) (by kernel_rfl) (by kernel_rfl) (by first | exact fun _ _ _ h => h | exact fun _ _ _ h => nomatch h.1) (Or.inl ⟨by rfl, fun w_ hw_ => by have p0_ := HP0.out; go_simp⟩) hy ?_
              try simp only [Act.put, List.setIfInBounds_toArray, List.set_cons_zero, List.set_cons_succ, List.getElem_toArray, List.getElem_cons_succ, List.getElem_cons_zero]
              refine late_take (i := 2) (v := .bool true) [13] rfl (by kernel_rfl) (by kernel_rfl) (by kernel_rfl) (by kernel_rfl) (by first | exact fun _ _ _ h => h | exact fun _ _ _ h => nomatch h.1) (Or.inl ⟨by rfl, fun w_ hw_ => by go_simp⟩) hy ?_
              try simp only [Act.put, List.setIfInBounds_toArray, List.set_cons_zero, List.set_cons_succ, List.getElem_toArray, List.getElem_cons_succ, List.getElem_cons_zero]
              refine late_take (i := 3) (v := .agg (tcell t).toArray) [12, 13] rfl (by kernel_rfl) (by kernel_rfl) (by kernel_rfl) (by kernel_rfl) (by first | exact fun _ _ _ h => h | exact fun _ _ _ h => nomatch h.1) (yieldsIf_load_mid (by rfl) 27 _ rfl w.heap.size 0 rfl (tcell t) _ (fun w' hw' => HBX.out w' hw') Try.underlying27 rfl sizeTm) hy ?_
              try simp only [Act.put, List.setIfInBounds_toArray, List.set_cons_zero, List.set_cons_succ, List.getElem_toArray, List.getElem_cons_succ, List.getElem_cons_zero]
              refine late_take (i := 4) (v := .pointer (some ⟨r, 0, none⟩)) [5, 6, 7, 10, 11, 12, 13] rfl (by kernel_rfl) (by kernel_rfl) (by kernel_rfl) (by kernel_rfl) (by first | exact fun _ _ _ h => h | exact fun _ _ _ h => nomatch h.1) (Or.inl ⟨by rfl, fun w_ hw_ => by go_simp⟩) hy ?_
              try simp only [Act.put, List.setIfInBounds_toArray, List.set_cons_zero, List.set_cons_succ, List.getElem_toArray, List.getElem_cons_succ, List.getElem_cons_zero]
              refine late_take (i := 5) (v := .pointer (some ⟨r, 0, none⟩)) [6, 7, 10, 11, 12, 13] rfl (by kernel_rfl) (by kernel_rfl) (by kernel_rfl) (by kernel_rfl) (by first | exact fun _ _ _ h => h | exact fun _ _ _ h => nomatch h.1) (Or.inl ⟨by rfl, fun w_ hw_ => by go_simp⟩) hy ?_
              try simp only [Act.put, List.setIfInBounds_toArray, List.set_cons_zero, List.set_cons_succ, List.getElem_toArray, List.getElem_cons_succ, List.getElem_cons_zero]
              refine late_take (i := 6) (v := .pointer (some ⟨r, 0, none⟩)) [7, 10, 11, 12, 13] rfl (by kernel_rfl) (by kernel_rfl) (by kernel_rfl) (by kernel_rfl) (by first | exact fun _ _ _ h => h | exact fun _ _ _ h => nomatch h.1) (Or.inl ⟨by rfl, fun w_ hw_ => by go_simp⟩) hy ?_
              try simp only [Act.put, List.setIfInBounds_toArray, List.set_cons_zero, List.set_cons_succ, List.getElem_toArray, List.getElem_cons_succ, List.getElem_cons_zero]
              refine late_take (i := 7) (v := .slice (some ⟨b, o, none⟩) R.length cap4) [10, 11, 12, 13] rfl (by kernel_rfl) (by kernel_rfl) (by kernel_rfl) (by kernel_rfl) (by first | exact fun _ _ _ h => h | exact fun _ _ _ h => nomatch h.1) (Or.inl ⟨by rfl, fun w_ hw_ => by have c0_ := (Chg.cell hw_ 0 HRL4.out (fun h => h)).trans c4; go_simp⟩) hy ?_
              try simp only [Act.put, List.setIfInBounds_toArray, List.set_cons_zero, List.set_cons_succ, List.getElem_toArray, List.getElem_cons_succ, List.getElem_cons_zero]
              refine late_take (i := 8) (v := .int .i64 (p : Int)) [9, 10, 11, 12, 13] rfl (by kernel_rfl) (by kernel_rfl) (by kernel_rfl) (by kernel_rfl) (by first | exact fun _ _ _ h => h | exact fun _ _ _ h => nomatch h.1) (Or.inl ⟨by rfl, fun w_ hw_ => by go_simp⟩) hy ?_
              try simp only [Act.put, List.setIfInBounds_toArray, List.set_cons_zero, List.set_cons_succ, List.getElem_toArray, List.getElem_cons_succ, List.getElem_cons_zero]
              refine late_take (i := 9) (v := .int .i64 (k : Int)) [10, 11, 12, 13] rfl (by kernel_rfl) (by kernel_rfl) (by kernel_rfl) (by kernel_rfl) (by first | exact fun _ _ _ h => h | exact fun _ _ _ h => nomatch h.1) (Or.inl ⟨by rfl, fun w_ hw_ => by have hw1 := HWK.out; have hw2 := HWK2.out; go_simp⟩) hy ?_
              try simp only [Act.put, List.setIfInBounds_toArray, List.set_cons_zero, List.set_cons_succ, List.getElem_toArray, List.getElem_cons_succ, List.getElem_cons_zero]
              refine late_take (i := 10) (v := .pointer (some ⟨b, o + k * 3, none⟩)) [11, 12, 13] rfl (by kernel_rfl) (by kernel_rfl) (by kernel_rfl) (by kernel_rfl) (by first | exact fun _ _ _ h => h | exact fun _ _ _ h => nomatch h.1) (Or.inl ⟨by rfl, fun w_ hw_ => by go_simp⟩) hy ?_
              try simp only [Act.put, List.setIfInBounds_toArray, List.set_cons_zero, List.set_cons_succ, List.getElem_toArray, List.getElem_cons_succ, List.getElem_cons_zero]
              refine late_take (i := 11) (v := .agg (tcell (tm R k)).toArray) [12, 13] rfl (by kernel_rfl) (by kernel_rfl) (by kernel_rfl) (by kernel_rfl) (by first | exact fun _ _ _ h => h | exact fun _ _ _ h => nomatch h.1) (yieldsIf_load_mid (by rfl) 27 _ rfl b (o + k * 3) rfl (tcell (tm R k)) _ (fun w' hw' => HEL.out w' hw') Try.underlying27 rfl sizeTm) hy ?_
              try simp only [Act.put, List.setIfInBounds_toArray, List.set_cons_zero, List.set_cons_succ, List.getElem_toArray, List.getElem_cons_succ, List.getElem_cons_zero]
              refine late_one (i := 12) (by kernel_rfl) rfl (fun K hK => ?_)
              rw [if_pos (by rfl)]
              try simp only [List.getElem_toArray, List.getElem_cons_succ, List.getElem_cons_zero]
              go_simp
              refine (HAH.out _).mono ?_
              rintro e y1 ⟨rfl, hcy⟩
              have hy1 : Chg none_ w4 y1 := hy.trans hcy
              refine hK.out _ _ hy1 ?_
              clear hK K
              try simp only [Act.put, List.setIfInBounds_toArray, List.set_cons_zero, List.set_cons_succ, List.getElem_toArray, List.getElem_cons_succ, List.getElem_cons_zero]
              refine late_last (by kernel_rfl) rfl (by kernel_rfl) (fun K hK => ?_)
              rw [if_pos (by rfl)]
              try simp only [List.getElem_toArray, List.getElem_cons_succ, List.getElem_cons_zero]
              go_simp
              refine hK.out _ _ ?_
              clear hK K
              try simp only [Act.put, List.setIfInBounds_toArray, List.set_cons_zero, List.set_cons_succ, List.getElem_toArray, List.getElem_cons_succ, List.getElem_cons_zero]
              go_wp2
              have HV1 : Hid (View w4 (fun b => T b ∨ w.heap.size ≤ b) (highN (some ⟨b, o, none⟩) cap4) (p * 3) (tcells (R.take p))) := Lib.hid (by
                rw [tcells_take]
                exact (HV4.out.highN cap4).take (Nat.mul_le_mul_right 3 hp))
              have HV2 : Hid (View w4 (fun b => T b ∨ w.heap.size ≤ b) (dropN (some ⟨b, o, none⟩) cap4 p 3) ((R.length - p) * 3) (tcells (R.drop p))) := Lib.hid (by
                rw [tcells_drop]
                exact HV4.out.dropN hcap4)
              obtain ⟨D, hD⟩ : ∃ D, D = [] ++ R.take p ++ [t] ++ R.drop p := ⟨_, rfl⟩
              have HDD := Lib.hid hD
              have HFIN : Hid (∀ (x : World) A3 cap3, Chg none_ w4 x → D.length ≤ cap3 → cap3 ≤ maxLen → View x (fun b => w4.heap.size ≤ b) A3 (D.length * 3) (tcells D) →
                  RQ (x.setCell ⟨r, 0, none⟩ (.slice A3 D.length cap3)) (fun b => T b ∨ w.heap.size ≤ b) r (insS t R) ∧ Chg (· = r) w (x.setCell ⟨r, 0, none⟩ (.slice A3 D.length cap3))) := Lib.hid (fun x A3 cap3 hc g1 g2 g3 => by
                have hD' : D = insS t R := by rw [hD, hin, List.nil_append, List.append_assoc]; rfl
                rw [hD'] at g1 g3 ⊢
                have hlt' := HRL4.out
                exact ⟨⟨A3, cap3, (HRW4.out.chg hc (fun h => h)).set 0 _, g1, g2, (g3.setCell ⟨r, 0, none⟩ (fun (h : w4.heap.size ≤ r) => by omega) _).mono (fun _ _ h => Or.inr (Nat.le_trans HSZ4.out h))⟩, (HC4.out.trans (show Chg (· = r) w4 x from hc.mono (fun _ _ h => h.elim))).setCell (p := ⟨r, 0, none⟩) (fun _ => rfl) _⟩)
              clear hD hin
              refine wp_region_late (fun x => Chg none_ w4 x) 21 (by kernel_rfl) ?_
              have hz : Chg none_ w4 y1.drew := hy1.drew
              generalize y1.drew = wz at hz ⊢
              refine late_take (i := 0) (v := .pointer (some ⟨r, 0, none⟩)) [19, 20, 21] rfl (by kernel_rfl) (by kernel_rfl) (by kernel_rfl) (by kernel_rfl) (by first | exact fun _ _ _ h => h | exact fun _ _ _ h => nomatch h.1) (Or.inl ⟨by rfl, fun w_ hw_ => by go_simp⟩) hz ?_
              try simp only [Act.put, List.setIfInBounds_toArray, List.set_cons_zero, List.set_cons_succ, List.getElem_toArray, List.getElem_cons_zero]
              refine late_take (i := 2) (v := .pointer (some ⟨r, 0, none⟩)) [3, 4, 5, 7, 8, 11, 18, 21] rfl (by kernel_rfl) (by kernel_rfl) (by kernel_rfl) (by kernel_rfl) (by first | exact fun _ _ _ h => h | exact fun _ _ _ h => nomatch h.1) (Or.inl ⟨by rfl, fun w_ hw_ => by go_simp⟩) hz ?_
              try simp only [Act.put, List.setIfInBounds_toArray, List.set_cons_zero, List.set_cons_succ, List.getElem_toArray, List.getElem_cons_succ, List.getElem_cons_zero]
              refine late_take (i := 3) (v := .pointer (some ⟨r, 0, none⟩)) [4, 5, 7, 8, 11, 18, 21] rfl (by kernel_rfl) (by kernel_rfl) (by kernel_rfl) (by kernel_rfl) (by first | exact fun _ _ _ h => h | exact fun _ _ _ h => nomatch h.1) (Or.inl ⟨by rfl, fun w_ hw_ => by go_simp⟩) hz ?_
              try simp only [Act.put, List.setIfInBounds_toArray, List.set_cons_zero, List.set_cons_succ, List.getElem_toArray, List.getElem_cons_succ, List.getElem_cons_zero]
              refine late_take (i := 4) (v := .pointer (some ⟨r, 0, none⟩)) [5, 7, 8, 11, 18, 21] rfl (by kernel_rfl) (by kernel_rfl) (by kernel_rfl) (by kernel_rfl) (by first | exact fun _ _ _ h => h | exact fun _ _ _ h => nomatch h.1) (Or.inl ⟨by rfl, fun w_ hw_ => by go_simp⟩) hz ?_
              try simp only [Act.put, List.setIfInBounds_toArray, List.set_cons_zero, List.set_cons_succ, List.getElem_toArray, List.getElem_cons_succ, List.getElem_cons_zero]
              refine late_take (i := 5) (v := .slice (some ⟨b, o, none⟩) R.length cap4) [7, 8, 11, 18, 21] rfl (by kernel_rfl) (by kernel_rfl) (by kernel_rfl) (by kernel_rfl) (by first | exact fun _ _ _ h => h | exact fun _ _ _ h => nomatch h.1) (Or.inl ⟨by rfl, fun w_ hw_ => by have c0_ := (Chg.cell hw_ 0 HRL4.out (fun h => h)).trans c4; go_simp⟩) hz ?_
              try simp only [Act.put, List.setIfInBounds_toArray, List.set_cons_zero, List.set_cons_succ, List.getElem_toArray, List.getElem_cons_succ, List.getElem_cons_zero]
              refine late_take (i := 6) (v := .int .i64 (p : Int)) [7, 8, 11, 18, 21] rfl (by kernel_rfl) (by kernel_rfl) (by kernel_rfl) (by kernel_rfl) (by first | exact fun _ _ _ h => h | exact fun _ _ _ h => nomatch h.1) (Or.inl ⟨by rfl, fun w_ hw_ => by go_simp⟩) hz ?_
              try simp only [Act.put, List.setIfInBounds_toArray, List.set_cons_zero, List.set_cons_succ, List.getElem_toArray, List.getElem_cons_succ, List.getElem_cons_zero]
              refine late_take (i := 7) (v := .slice (highN (some ⟨b, o, none⟩) cap4) p cap4) [8, 11, 18, 21] rfl (by kernel_rfl) (by kernel_rfl) (by kernel_rfl) (by kernel_rfl) (by first | exact fun _ _ _ h => h | exact fun _ _ _ h => nomatch h.1) (yieldsIf_slice_highN (by rfl) 34 27 _ _ rfl (some ⟨b, o, none⟩) R.length cap4 p 3 rfl rfl Try.underlying34 sizeTm (by omega)) hz ?_
              try simp only [Act.put, List.setIfInBounds_toArray, List.set_cons_zero, List.set_cons_succ, List.getElem_toArray, List.getElem_cons_succ, List.getElem_cons_zero]
              refine late_take (i := 9) (v := .agg (tcell t).toArray) [10, 11, 18, 21] rfl (by kernel_rfl) (by kernel_rfl) (by kernel_rfl) (by kernel_rfl) (by first | exact fun _ _ _ h => h | exact fun _ _ _ h => nomatch h.1) (yieldsIf_load_mid (by rfl) 27 _ rfl w.heap.size 0 rfl (tcell t) _ (fun w' hw' => HBX.out w' hw') Try.underlying27 rfl sizeTm) hz ?_
              try simp only [Act.put, List.setIfInBounds_toArray, List.set_cons_zero, List.set_cons_succ, List.getElem_toArray, List.getElem_cons_succ, List.getElem_cons_zero]
              refine late_take (i := 12) (v := .pointer (some ⟨r, 0, none⟩)) [13, 14, 15, 17, 18, 21] rfl (by kernel_rfl) (by kernel_rfl) (by kernel_rfl) (by kernel_rfl) (by first | exact fun _ _ _ h => h | exact fun _ _ _ h => nomatch h.1) (Or.inl ⟨by rfl, fun w_ hw_ => by go_simp⟩) hz ?_
              try simp only [Act.put, List.setIfInBounds_toArray, List.set_cons_zero, List.set_cons_succ, List.getElem_toArray, List.getElem_cons_succ, List.getElem_cons_zero]
              refine late_take (i := 13) (v := .pointer (some ⟨r, 0, none⟩)) [14, 15, 17, 18, 21] rfl (by kernel_rfl) (by kernel_rfl) (by kernel_rfl) (by kernel_rfl) (by first | exact fun _ _ _ h => h | exact fun _ _ _ h => nomatch h.1) (Or.inl ⟨by rfl, fun w_ hw_ => by go_simp⟩) hz ?_
              try simp only [Act.put, List.setIfInBounds_toArray, List.set_cons_zero, List.set_cons_succ, List.getElem_toArray, List.getElem_cons_succ, List.getElem_cons_zero]
              refine late_take (i := 14) (v := .pointer (some ⟨r, 0, none⟩)) [15, 17, 18, 21] rfl (by kernel_rfl) (by kernel_rfl) (by kernel_rfl) (by kernel_rfl) (by first | exact fun _ _ _ h => h | exact fun _ _ _ h => nomatch h.1) (Or.inl ⟨by rfl, fun w_ hw_ => by go_simp⟩) hz ?_
              try simp only [Act.put, List.setIfInBounds_toArray, List.set_cons_zero, List.set_cons_succ, List.getElem_toArray, List.getElem_cons_succ, List.getElem_cons_zero]
              refine late_take (i := 15) (v := .slice (some ⟨b, o, none⟩) R.length cap4) [17, 18, 21] rfl (by kernel_rfl) (by kernel_rfl) (by kernel_rfl) (by kernel_rfl) (by first | exact fun _ _ _ h => h | exact fun _ _ _ h => nomatch h.1) (Or.inl ⟨by rfl, fun w_ hw_ => by have c0_ := (Chg.cell hw_ 0 HRL4.out (fun h => h)).trans c4; go_simp⟩) hz ?_
              try simp only [Act.put, List.setIfInBounds_toArray, List.set_cons_zero, List.set_cons_succ, List.getElem_toArray, List.getElem_cons_succ, List.getElem_cons_zero]
              refine late_take (i := 16) (v := .int .i64 (p : Int)) [17, 18, 21] rfl (by kernel_rfl) (by kernel_rfl) (by kernel_rfl) (by kernel_rfl) (by first | exact fun _ _ _ h => h | exact fun _ _ _ h => nomatch h.1) (Or.inl ⟨by rfl, fun w_ hw_ => by go_simp⟩) hz ?_
              try simp only [Act.put, List.setIfInBounds_toArray, List.set_cons_zero, List.set_cons_succ, List.getElem_toArray, List.getElem_cons_succ, List.getElem_cons_zero]
              refine late_take (i := 17) (v := .slice (dropN (some ⟨b, o, none⟩) cap4 p 3) (R.length - p) (cap4 - p)) [18, 21] rfl (by kernel_rfl) (by kernel_rfl) (by kernel_rfl) (by kernel_rfl) (by first | exact fun _ _ _ h => h | exact fun _ _ _ h => nomatch h.1) (yieldsIf_slice_lowN (by rfl) 34 27 _ _ rfl (some ⟨b, o, none⟩) R.length cap4 p 3 rfl rfl Try.underlying34 sizeTm (by omega)) hz ?_
              try simp only [Act.put, List.setIfInBounds_toArray, List.set_cons_zero, List.set_cons_succ, List.getElem_toArray, List.getElem_cons_succ, List.getElem_cons_zero]
              refine late_two (i := 1) (j := 10) (by kernel_rfl) rfl rfl (fun K hK => ?_) (fun K hK => ?_)
              · rw [if_pos (by rfl)]
                try simp only [List.getElem_toArray, List.getElem_cons_succ, List.getElem_cons_zero]
                refine wp_new_row (v := fun g => .slice (some ⟨g, 0, none⟩) 0 0) (e := 27) (cs := []) (fun w_ => by go_simp) ?_
                intro x1 hr_x1 hc_x1 hs_x1
                have h1 : Chg none_ w4 x1 := hz.trans hc_x1
                have o58 : OwnedT x1 w4.heap.size (.slice (some ⟨wz.heap.size, 0, none⟩) 0 0) [] := OwnedT.lit0 hr_x1 hz.size
                refine hK.out _ _ h1 ?_
                clear hK K
                try simp only [Act.put, List.setIfInBounds_toArray, List.set_cons_zero, List.set_cons_succ]
                refine late_two (i := 8) (j := 10) (by kernel_rfl) rfl rfl (fun K hK => ?_) (fun K hK => ?_)
                · rw [if_pos (by rfl)]
                  try simp only [List.getElem_toArray, List.getElem_cons_succ, List.getElem_cons_zero]
                  refine wp_append_T2 (.tmp 58) (.tmp 64) rfl (base := w4.heap.size) (v := .slice (some ⟨wz.heap.size, 0, none⟩) 0 0) (L := []) (M := R.take p) (T := (fun b => T b ∨ w.heap.size ≤ b)) (A := highN (some ⟨b, o, none⟩) cap4) (m := p) (c := cap4) (w0 := w4) rfl o58 rfl ((HV1.out.chg h1 (fun _ _ h => h))) (by simp; omega) h1.size h1 (Nat.le_refl _) ?_
                  intro v65 x2 o65 h2 hg_x2
                  refine hK.out _ _ h2 ?_
                  clear hK K
                  try simp only [Act.put, List.setIfInBounds_toArray, List.set_cons_zero, List.set_cons_succ]
                  refine late_one (i := 10) (by kernel_rfl) rfl (fun K hK => ?_)
                  rw [if_pos (by rfl)]
                  try simp only [List.getElem_toArray, List.getElem_cons_succ, List.getElem_cons_zero]
                  refine wp_new_row (v := fun g => .slice (some ⟨g, 0, none⟩) 1 1) (e := 27) (cs := tcell t) (fun w_ => by go_simp; try rfl) ?_
                  intro x3 hr_x3 hc_x3 hs_x3
                  have h3 : Chg none_ w4 x3 := h2.trans hc_x3
                  have v67 : View x3 (fun b => b = x2.heap.size) (some ⟨x2.heap.size, 0, none⟩) (1 * 3) (tcells [t]) := View.row (cs := tcell t) hr_x3 (n := 3) (by rw [tcell_len]; exact Nat.le_refl _) rfl
                  refine hK.out _ _ h3 ?_
                  clear hK K
                  try simp only [Act.put, List.setIfInBounds_toArray, List.set_cons_zero, List.set_cons_succ]
                  refine late_one (i := 11) (by kernel_rfl) rfl (fun K hK => ?_)
                  rw [if_pos (by rfl)]
                  try simp only [List.getElem_toArray, List.getElem_cons_succ, List.getElem_cons_zero]
                  refine wp_append_T2 (.tmp 65) (.tmp 67) rfl (base := w4.heap.size) (L := [] ++ R.take p) (M := [t]) (T := (fun b => b = x2.heap.size)) (A := some ⟨x2.heap.size, 0, none⟩) (m := 1) (c := 1) (w0 := w4) rfl (o65.chg hc_x3 (fun _ _ _ h => h)) rfl (v67) (by simp; omega) h3.size h3 (Nat.le_refl _) ?_
                  intro v68 x4 o68 h4 hg_x4
                  refine hK.out _ _ h4 ?_
                  clear hK K
                  try simp only [Act.put, List.setIfInBounds_toArray, List.set_cons_zero, List.set_cons_succ]
                  refine late_one (i := 18) (by kernel_rfl) rfl (fun K hK => ?_)
                  rw [if_pos (by rfl)]
                  try simp only [List.getElem_toArray, List.getElem_cons_succ, List.getElem_cons_zero]
                  refine wp_append_T2 (.tmp 68) (.tmp 74) rfl (base := w4.heap.size) (L := [] ++ R.take p ++ [t]) (M := R.drop p) (T := (fun b => T b ∨ w.heap.size ≤ b)) (A := dropN (some ⟨b, o, none⟩) cap4 p 3) (m := (R.length - p)) (c := (cap4 - p)) (w0 := w4) rfl o68 rfl ((HV2.out.chg h4 (fun _ _ h => h))) (by simp; omega) h4.size h4 (Nat.le_refl _) ?_
                  intro v75 x5 o75 h5 hg_x5
                  refine hK.out _ _ h5 ?_
                  clear hK K
                  try simp only [Act.put, List.setIfInBounds_toArray, List.set_cons_zero, List.set_cons_succ]
                  rw [← HDD.out] at o75
                  refine late_take (i := 19) (v := .pointer (some ⟨r, 0, none⟩)) [20, 21] rfl (by kernel_rfl) (by kernel_rfl) (by kernel_rfl) (by kernel_rfl) (by first | exact fun _ _ _ h => h | exact fun _ _ _ h => nomatch h.1) (Or.inl ⟨by rfl, fun w_ hw_ => by go_simp⟩) h5 ?_
                  try simp only [Act.put, List.setIfInBounds_toArray, List.set_cons_zero, List.set_cons_succ, List.getElem_toArray, List.getElem_cons_succ, List.getElem_cons_zero]
                  refine late_take (i := 20) (v := .pointer (some ⟨r, 0, none⟩)) [21] rfl (by kernel_rfl) (by kernel_rfl) (by kernel_rfl) (by kernel_rfl) (by first | exact fun _ _ _ h => h | exact fun _ _ _ h => nomatch h.1) (Or.inl ⟨by rfl, fun w_ hw_ => by go_simp⟩) h5 ?_
                  try simp only [Act.put, List.setIfInBounds_toArray, List.set_cons_zero, List.set_cons_succ, List.getElem_toArray, List.getElem_cons_succ, List.getElem_cons_zero]
                  obtain ⟨A3, cap3, rfl, g1, g2, g3⟩ := OwnedT.view o75
                  have cr := (h5.cell 0 HRL4.out (fun h => h)).trans c4
                  have fr := (HRW4.out.chg h5 (fun h => h)).frozen 0
                  have HFX := Lib.hid (HFIN.out _ _ _ h5 g1 g2 g3)
                  clear g1 g2 g3
                  refine late_last (by kernel_rfl) rfl (by kernel_rfl) (fun K hK => ?_)
                  rw [if_pos (by rfl)]
                  try simp only [List.getElem_toArray, List.getElem_cons_succ, List.getElem_cons_zero]
                  go_simp
                  refine hK.out _ _ ?_
                  clear hK K
                  try simp only [Act.put, List.setIfInBounds_toArray, List.set_cons_zero, List.set_cons_succ, List.getElem_toArray, List.getElem_cons_succ, List.getElem_cons_zero]
                  clear cr fr c4
                  go_wp2
                  go_ret
                  exact ⟨rfl, HFX.out.1, HFX.out.2⟩
                · rw [if_pos (by rfl)]
                  try simp only [List.getElem_toArray, List.getElem_cons_succ, List.getElem_cons_zero]
                  refine wp_new_row (v := fun g => .slice (some ⟨g, 0, none⟩) 1 1) (e := 27) (cs := tcell t) (fun w_ => by go_simp; try rfl) ?_
                  intro x2 hr_x2 hc_x2 hs_x2
                  have h2 : Chg none_ w4 x2 := h1.trans hc_x2
                  have v67 : View x2 (fun b => b = x1.heap.size) (some ⟨x1.heap.size, 0, none⟩) (1 * 3) (tcells [t]) := View.row (cs := tcell t) hr_x2 (n := 3) (by rw [tcell_len]; exact Nat.le_refl _) rfl
                  refine hK.out _ _ h2 ?_
                  clear hK K
                  try simp only [Act.put, List.setIfInBounds_toArray, List.set_cons_zero, List.set_cons_succ]
                  refine late_one (i := 8) (by kernel_rfl) rfl (fun K hK => ?_)
                  rw [if_pos (by rfl)]
                  try simp only [List.getElem_toArray, List.getElem_cons_succ, List.getElem_cons_zero]
                  refine wp_append_T2 (.tmp 58) (.tmp 64) rfl (base := w4.heap.size) (v := .slice (some ⟨wz.heap.size, 0, none⟩) 0 0) (L := []) (M := R.take p) (T := (fun b => T b ∨ w.heap.size ≤ b)) (A := highN (some ⟨b, o, none⟩) cap4) (m := p) (c := cap4) (w0 := w4) rfl (o58.chg hc_x2 (fun _ _ _ h => h)) rfl ((HV1.out.chg h2 (fun _ _ h => h))) (by simp; omega) h2.size h2 (Nat.le_refl _) ?_
                  intro v65 x3 o65 h3 hg_x3
                  refine hK.out _ _ h3 ?_
                  clear hK K
                  try simp only [Act.put, List.setIfInBounds_toArray, List.set_cons_zero, List.set_cons_succ]
                  refine late_one (i := 11) (by kernel_rfl) rfl (fun K hK => ?_)
                  rw [if_pos (by rfl)]
                  try simp only [List.getElem_toArray, List.getElem_cons_succ, List.getElem_cons_zero]
                  refine wp_append_T2 (.tmp 65) (.tmp 67) rfl (base := w4.heap.size) (L := [] ++ R.take p) (M := [t]) (T := (fun b => b = x1.heap.size)) (A := some ⟨x1.heap.size, 0, none⟩) (m := 1) (c := 1) (w0 := w4) rfl o65 rfl ((v67.chg hg_x3 (fun b (e : b = x1.heap.size) h => by have h2 : some wz.heap.size = some b := h; injection h2 with h2; omega))) (by simp; omega) h3.size h3 (Nat.le_refl _) ?_
                  intro v68 x4 o68 h4 hg_x4
                  refine hK.out _ _ h4 ?_
                  clear hK K
                  try simp only [Act.put, List.setIfInBounds_toArray, List.set_cons_zero, List.set_cons_succ]
                  refine late_one (i := 18) (by kernel_rfl) rfl (fun K hK => ?_)
                  rw [if_pos (by rfl)]
                  try simp only [List.getElem_toArray, List.getElem_cons_succ, List.getElem_cons_zero]
                  refine wp_append_T2 (.tmp 68) (.tmp 74) rfl (base := w4.heap.size) (L := [] ++ R.take p ++ [t]) (M := R.drop p) (T := (fun b => T b ∨ w.heap.size ≤ b)) (A := dropN (some ⟨b, o, none⟩) cap4 p 3) (m := (R.length - p)) (c := (cap4 - p)) (w0 := w4) rfl o68 rfl ((HV2.out.chg h4 (fun _ _ h => h))) (by simp; omega) h4.size h4 (Nat.le_refl _) ?_
                  intro v75 x5 o75 h5 hg_x5
                  refine hK.out _ _ h5 ?_
                  clear hK K
                  try simp only [Act.put, List.setIfInBounds_toArray, List.set_cons_zero, List.set_cons_succ]
                  rw [← HDD.out] at o75
                  refine late_take (i := 19) (v := .pointer (some ⟨r, 0, none⟩)) [20, 21] rfl (by kernel_rfl) (by kernel_rfl) (by kernel_rfl) (by kernel_rfl) (by first | exact fun _ _ _ h => h | exact fun _ _ _ h => nomatch h.1) (Or.inl ⟨by rfl, fun w_ hw_ => by go_simp⟩) h5 ?_
                  try simp only [Act.put, List.setIfInBounds_toArray, List.set_cons_zero, List.set_cons_succ, List.getElem_toArray, List.getElem_cons_succ, List.getElem_cons_zero]
                  refine late_take (i := 20) (v := .pointer (some ⟨r, 0, none⟩)) [21] rfl (by kernel_rfl) (by kernel_rfl) (by kernel_rfl) (by kernel_rfl) (by first | exact fun _ _ _ h => h | exact fun _ _ _ h => nomatch h.1) (Or.inl ⟨by rfl, fun w_ hw_ => by go_simp⟩) h5 ?_
                  try simp only [Act.put, List.setIfInBounds_toArray, List.set_cons_zero, List.set_cons_succ, List.getElem_toArray, List.getElem_cons_succ, List.getElem_cons_zero]
                  obtain ⟨A3, cap3, rfl, g1, g2, g3⟩ := OwnedT.view o75
                  have cr := (h5.cell 0 HRL4.out (fun h => h)).trans c4
                  have fr := (HRW4.out.chg h5 (fun h => h)).frozen 0
                  have HFX := Lib.hid (HFIN.out _ _ _ h5 g1 g2 g3)
                  clear g1 g2 g3
                  refine late_last (by kernel_rfl) rfl (by kernel_rfl) (fun K hK => ?_)
                  rw [if_pos (by rfl)]
                  try simp only [List.getElem_toArray, List.getElem_cons_succ, List.getElem_cons_zero]
                  go_simp
                  refine hK.out _ _ ?_
                  clear hK K
                  try simp only [Act.put, List.setIfInBounds_toArray, List.set_cons_zero, List.set_cons_succ, List.getElem_toArray, List.getElem_cons_succ, List.getElem_cons_zero]
                  clear cr fr c4
                  go_wp2
                  go_ret
                  exact ⟨rfl, HFX.out.1, HFX.out.2⟩
              · rw [if_pos (by rfl)]
                try simp only [List.getElem_toArray, List.getElem_cons_succ, List.getElem_cons_zero]
                refine wp_new_row (v := fun g => .slice (some ⟨g, 0, none⟩) 1 1) (e := 27) (cs := tcell t) (fun w_ => by go_simp; try rfl) ?_
                intro x1 hr_x1 hc_x1 hs_x1
                have h1 : Chg none_ w4 x1 := hz.trans hc_x1
                have v67 : View x1 (fun b => b = wz.heap.size) (some ⟨wz.heap.size, 0, none⟩) (1 * 3) (tcells [t]) := View.row (cs := tcell t) hr_x1 (n := 3) (by rw [tcell_len]; exact Nat.le_refl _) rfl
                refine hK.out _ _ h1 ?_
                clear hK K
                try simp only [Act.put, List.setIfInBounds_toArray, List.set_cons_zero, List.set_cons_succ]
                refine late_one (i := 1) (by kernel_rfl) rfl (fun K hK => ?_)
                rw [if_pos (by rfl)]
                try simp only [List.getElem_toArray, List.getElem_cons_succ, List.getElem_cons_zero]
                refine wp_new_row (v := fun g => .slice (some ⟨g, 0, none⟩) 0 0) (e := 27) (cs := []) (fun w_ => by go_simp) ?_
                intro x2 hr_x2 hc_x2 hs_x2
                have h2 : Chg none_ w4 x2 := h1.trans hc_x2
                have o58 : OwnedT x2 w4.heap.size (.slice (some ⟨x1.heap.size, 0, none⟩) 0 0) [] := OwnedT.lit0 hr_x2 h1.size
                refine hK.out _ _ h2 ?_
                clear hK K
                try simp only [Act.put, List.setIfInBounds_toArray, List.set_cons_zero, List.set_cons_succ]
                refine late_one (i := 8) (by kernel_rfl) rfl (fun K hK => ?_)
                rw [if_pos (by rfl)]
                try simp only [List.getElem_toArray, List.getElem_cons_succ, List.getElem_cons_zero]
                refine wp_append_T2 (.tmp 58) (.tmp 64) rfl (base := w4.heap.size) (v := .slice (some ⟨x1.heap.size, 0, none⟩) 0 0) (L := []) (M := R.take p) (T := (fun b => T b ∨ w.heap.size ≤ b)) (A := highN (some ⟨b, o, none⟩) cap4) (m := p) (c := cap4) (w0 := w4) rfl o58 rfl ((HV1.out.chg h2 (fun _ _ h => h))) (by simp; omega) h2.size h2 (Nat.le_refl _) ?_
                intro v65 x3 o65 h3 hg_x3
                refine hK.out _ _ h3 ?_
                clear hK K
                try simp only [Act.put, List.setIfInBounds_toArray, List.set_cons_zero, List.set_cons_succ]
                refine late_one (i := 11) (by kernel_rfl) rfl (fun K hK => ?_)
                rw [if_pos (by rfl)]
                try simp only [List.getElem_toArray, List.getElem_cons_succ, List.getElem_cons_zero]
                refine wp_append_T2 (.tmp 65) (.tmp 67) rfl (base := w4.heap.size) (L := [] ++ R.take p) (M := [t]) (T := (fun b => b = wz.heap.size)) (A := some ⟨wz.heap.size, 0, none⟩) (m := 1) (c := 1) (w0 := w4) rfl o65 rfl (((v67.chg hc_x2 (fun _ _ h => h)).chg hg_x3 (fun b (e : b = wz.heap.size) h => by have h2 : some x1.heap.size = some b := h; injection h2 with h2; omega))) (by simp; omega) h3.size h3 (Nat.le_refl _) ?_
                intro v68 x4 o68 h4 hg_x4
                refine hK.out _ _ h4 ?_
                clear hK K
                try simp only [Act.put, List.setIfInBounds_toArray, List.set_cons_zero, List.set_cons_succ]
                refine late_one (i := 18) (by kernel_rfl) rfl (fun K hK => ?_)
                rw [if_pos (by rfl)]
                try simp only [List.getElem_toArray, List.getElem_cons_succ, List.getElem_cons_zero]
                refine wp_append_T2 (.tmp 68) (.tmp 74) rfl (base := w4.heap.size) (L := [] ++ R.take p ++ [t]) (M := R.drop p) (T := (fun b => T b ∨ w.heap.size ≤ b)) (A := dropN (some ⟨b, o, none⟩) cap4 p 3) (m := (R.length - p)) (c := (cap4 - p)) (w0 := w4) rfl o68 rfl ((HV2.out.chg h4 (fun _ _ h => h))) (by simp; omega) h4.size h4 (Nat.le_refl _) ?_
                intro v75 x5 o75 h5 hg_x5
                refine hK.out _ _ h5 ?_
                clear hK K
                try simp only [Act.put, List.setIfInBounds_toArray, List.set_cons_zero, List.set_cons_succ]
                rw [← HDD.out] at o75
                refine late_take (i := 19) (v := .pointer (some ⟨r, 0, none⟩)) [20, 21] rfl (by kernel_rfl) (by kernel_rfl) (by kernel_rfl) (by kernel_rfl) (by first | exact fun _ _ _ h => h | exact fun _ _ _ h => nomatch h.1) (Or.inl ⟨by rfl, fun w_ hw_ => by go_simp⟩) h5 ?_
                try simp only [Act.put, List.setIfInBounds_toArray, List.set_cons_zero, List.set_cons_succ, List.getElem_toArray, List.getElem_cons_succ, List.getElem_cons_zero]
                refine late_take (i := 20) (v := .pointer (some ⟨r, 0, none⟩)) [21] rfl (by kernel_rfl) (by kernel_rfl) (by kernel_rfl) (by kernel_rfl) (by first | exact fun _ _ _ h => h | exact fun _ _ _ h => nomatch h.1) (Or.inl ⟨by rfl, fun w_ hw_ => by go_simp⟩) h5 ?_
                try simp only [Act.put, List.setIfInBounds_toArray, List.set_cons_zero, List.set_cons_succ, List.getElem_toArray, List.getElem_cons_succ, List.getElem_cons_zero]
                obtain ⟨A3, cap3, rfl, g1, g2, g3⟩ := OwnedT.view o75
                have cr := (h5.cell 0 HRL4.out (fun h => h)).trans c4
                have fr := (HRW4.out.chg h5 (fun h => h)).frozen 0
                have HFX := Lib.hid (HFIN.out _ _ _ h5 g1 g2 g3)
                clear g1 g2 g3
                refine late_last (by kernel_rfl) rfl (by kernel_rfl) (fun K hK => ?_)
                rw [if_pos (by rfl)]
                try simp only [List.getElem_toArray, List.getElem_cons_succ, List.getElem_cons_zero]
                go_simp
                refine hK.out _ _ ?_
                clear hK K
                try simp only [Act.put, List.setIfInBounds_toArray, List.set_cons_zero, List.set_cons_succ, List.getElem_toArray, List.getElem_cons_succ, List.getElem_cons_zero]
                clear cr fr c4
                go_wp2
                go_ret
                exact ⟨rfl, HFX.out.1, HFX.out.2⟩
end Go.Proofs.Ytblpgpolhibfgaa
