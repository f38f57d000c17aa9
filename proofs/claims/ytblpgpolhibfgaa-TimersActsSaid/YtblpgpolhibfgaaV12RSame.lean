/- Layer 12 (timers): which timers are the same, and the document's Same. -/
import Derived.Test.YtblpgpolhibfgaaV12Order
import Derived.Test.YtblpgpolhibfgaaEqTake
import Derived.DeepKeys
namespace Go.Proofs.Ytblpgpolhibfgaa
open Go.RowKit

theorem uint_cells : Try.prog.cellsOf 25 = 1 := by kernel_rfl
theorem tm_cells : Try.prog.cellsOf 27 = 3 := by kernel_rfl
theorem keyTm : Try.prog.keyTypeAt 4 27 = true := by kernel_rfl
theorem keyLits_u (m : Nat) (x : Nat) (h : x < 18446744073709551616) : Try.prog.keyLits (m + 1) 25 [.int .u64 (x : Int)] = some [.int .u64 (x : Int)] := by
  have hw : (Lit.int .u64 (x : Int)).wf = true := by
    show (decide ((0 : Int) ≤ x) && decide ((x : Int) ≤ 18446744073709551615)) = true
    simp only [Bool.and_eq_true, decide_eq_true_eq]
    omega
  unfold Program.keyLits
  rw [Try.underlying25]
  simp [hw]
def litsT (t : Tm) : List Lit := [.int .u64 (t.at_ : Int), .int .i64 t.conn, .int .i64 t.kind]
theorem keyLits_tm (t : Tm) (h : TOk t) : Try.prog.keyLits 4 27 (tcell t) = some (litsT t) := by
  have h1 : (Lit.int .i64 t.conn).wf = true := h.k.1
  have h2 : (Lit.int .i64 t.kind).wf = true := h.k.2
  unfold Program.keyLits
  rw [Try.underlying27]
  simp [tm_cells, int_cells, uint_cells, tcell, keyLits_int _ _ h1, keyLits_int _ _ h2, keyLits_u _ _ h.a, litsT]
theorem litsT_inj (a b : Tm) : litsT a = litsT b ↔ a = b := by
  constructor
  · intro h
    simp only [litsT, List.cons.injEq, Lit.int.injEq, true_and, and_true] at h
    cases a; cases b
    simp at *
    omega
  · intro h; rw [h]
theorem tm_eql (a b : Tm) (o : TOk a) (o' : TOk b) (w : World) : (Op.equalIn 10000 27 (.agg (tcell a).toArray) (.agg (tcell b).toArray)).run Try.prog w = .ok (decide (a = b)) w := by
  have hf : ∀ a : Tm, (Value.agg (tcell a).toArray).formed Try.prog 27 = true := fun a => by
    simp only [Value.formed]
    simp [Try.underlying27, tm_cells, tcell]
  obtain ⟨r, h1, h2⟩ := run_equalIn_deep (P := Try.prog) 9996 4 27 keyTm w 4 4 (.agg (tcell a).toArray) (.agg (tcell b).toArray) (litsT a) (litsT b) (hf a) (hf b) (keyLits_tm a o) (keyLits_tm b o')
  rw [show (10000 : Nat) = 9996 + 4 from rfl, h1]
  congr 1
  rw [Bool.eq_iff_iff, h2, litsT_inj]
  simp
theorem yieldsIf_neqT {P : Program} {ops : Array Oper} {S : World → Prop} {op : Oper} {a : Act} (hw : Region.wanted op (yielded ops a.tmps) = true) (T R : TypeId) (x y : Operand) (ho : op.op = .binOp .neq T x y R) (u v : Array Value) (hx : a.eval x = .agg u) (hy : a.eval y = .agg v) (b : Bool)
    (hg : ∀ w, (eqGuard .neq T x y (.agg u) (.agg v)).run P w = .ok () w) (h : ∀ w, S w → (Op.equalIn 10000 T (.agg u) (.agg v)).run P w = .ok b w) : YieldsIf P ops S op (.bool (!b)) a :=
  .inl ⟨hw, fun w hw' => by
    have hh : (Op.equal T (.agg u) (.agg v)).run P w = .ok b w := h w hw'
    unfold execOp
    simp only [ho, hx, hy, Sem.run_bind, Sem.run_pure, Result.andThen_ok, hg w, binOp, hh]⟩

set_option maxRecDepth 100000 in
set_option maxHeartbeats 2000000 in
theorem Same_any (la lb : List Tm) (A B : Option Addr) (ca cb : Nat) (Ta Tb : Nat → Prop) (w : World) (ha : View w Ta A (la.length * 3) (tcells la)) (hb : View w Tb B (lb.length * 3) (tcells lb)) (hl : la.length ≤ 100000) (oa : ∀ t ∈ la, TOk t) (ob : ∀ t ∈ lb, TOk t) :
    Calls Try.prog 25 #[.slice A la.length ca, .slice B lb.length cb] w fun e w' => e = .returned (.bool (decide (la = lb))) ∧ Chg none_ w w' := by
  by_cases hlen : la.length = lb.length
  · have hlenI : (la.length : Int) = (lb.length : Int) := by omega
    have HVA := Lib.hid (fun w' (hc : Chg none_ w w') => ha.chg hc (fun _ _ h => h))
    have HVB := Lib.hid (fun w' (hc : Chg none_ w w') => hb.chg hc (fun _ _ h => h))
    have HOA := Lib.hid (fun k (hk : k < la.length) => oa _ (tm_mem hk))
    have HOB := Lib.hid (fun k (hk : k < lb.length) => ob _ (tm_mem hk))
    have hne : ((la.length : Int) == (lb.length : Int)) = true := by rw [beq_iff_eq]; exact hlenI
    clear ha hb oa ob hlenI
    go_enter Try.func25, Try.ntmps25
    go_wp2
    go_loopw [5] (fun i wr => ∃ k : Nat, i = .int .i64 (k : Int) ∧ k ≤ la.length ∧ (∀ j, j < k → tm la j = tm lb j) ∧ Chg none_ w wr) (fun i _ => la.length - (intOf i).toNat)
    case atStart => exact ⟨0, rfl, Nat.zero_le _, fun j hj => absurd hj (by omega), Chg.refl _ _⟩
    case round =>
      obtain ⟨k, rfl, hk, hs, hc⟩ := hrel
      have HC := Lib.hid hc
      by_cases hlt : k < la.length
      · have k1 : (k : Int) < (la.length : Int) := by omega
        have k2 : (k : Int) < (lb.length : Int) := by omega
        have k0 : 0 ≤ (k : Int) := by omega
        obtain ⟨ba, oa, rfl, _, _, _⟩ := (HVA.out wr hc).tmAt hlt
        obtain ⟨bb, ob, rfl, _, _, _⟩ := (HVB.out wr hc).tmAt (k := k) (by omega)
        have HRA : Hid (∀ w', Chg none_ w w' → w'.rangeAt ba (oa + k * 3) (tcell (tm la k))) := Lib.hid (fun w' hc' => by
          obtain ⟨b', o', hbo, _, _, hr3⟩ := (HVA.out w' hc').tmAt hlt
          injection hbo with hbo
          injection hbo with hb1 ho1
          subst hb1 ho1
          exact hr3 k hlt)
        have HRB : Hid (∀ w', Chg none_ w w' → w'.rangeAt bb (ob + k * 3) (tcell (tm lb k))) := Lib.hid (fun w' hc' => by
          obtain ⟨b', o', hbo, _, _, hr3⟩ := (HVB.out w' hc').tmAt (k := k) (by omega)
          injection hbo with hbo
          injection hbo with hb1 ho1
          subst hb1 ho1
          exact hr3 k (by omega))
        by_cases he : tm la k = tm lb k
        · have HEQ : Hid (∀ w, (Op.equalIn 10000 27 (.agg (tcell (tm la k)).toArray) (.agg (tcell (tm lb k)).toArray)).run Try.prog w = .ok true w) := Lib.hid (fun w => by
            have := tm_eql (tm la k) (tm lb k) (HOA.out k hlt) (HOB.out k (by omega)) w
            rwa [decide_eq_true he] at this)
          have HS := Lib.hid (show ∀ j, j < k + 1 → tm la j = tm lb j from fun j hj => by
            rcases Nat.lt_or_ge j k with h | h
            · exact hs j h
            · rw [show j = k from by omega]; exact he)
          clear hc hs he
          go_wp2
          refine wp_region_held_drew (S := fun w' => Chg none_ w w') (by kernel_rfl) (HC.out.drew) (fun hch0 => ?_)
          refine wpAnyH_take (i := 0) (v := .slice (some ⟨ba, oa, none⟩) la.length ca) rfl (by kernel_rfl) (by kernel_rfl) (by kernel_rfl) (by first | exact fun _ _ _ h => h | exact fun _ _ _ h => nomatch h.1) (Or.inl ⟨by rfl, fun w_ hw_ => by go_simp⟩) hch0 ?_
          refine wpAnyH_take (i := 1) (v := .int .i64 (k : Int)) rfl (by kernel_rfl) (by kernel_rfl) (by kernel_rfl) (by first | exact fun _ _ _ h => h | exact fun _ _ _ h => nomatch h.1) (Or.inl ⟨by rfl, fun w_ hw_ => by go_simp⟩) hch0 ?_
          refine wpAnyH_take (i := 2) (v := .pointer (some ⟨ba, oa + k * 3, none⟩)) rfl (by kernel_rfl) (by kernel_rfl) (by kernel_rfl) (by first | exact fun _ _ _ h => h | exact fun _ _ _ h => nomatch h.1) (Or.inl ⟨by rfl, fun w_ hw_ => by go_simp⟩) hch0 ?_
          try simp only [Act.put, List.setIfInBounds_toArray, List.set_cons_zero, List.set_cons_succ, List.getElem_toArray, List.getElem_cons_succ, List.getElem_cons_zero]
          refine wpAnyH_take (i := 3) (v := .agg (tcell (tm la k)).toArray) rfl (by kernel_rfl) (by kernel_rfl) (by kernel_rfl) (by first | exact fun _ _ _ h => h | exact fun _ _ _ h => nomatch h.1) (yieldsIf_load_mid (by rfl) 27 _ rfl ba (oa + k * 3) rfl (tcell (tm la k)) _ (fun w' hw' => HRA.out w' hw') Try.underlying27 rfl sizeTm) hch0 ?_
          try simp only [Act.put, List.setIfInBounds_toArray, List.set_cons_zero, List.set_cons_succ, List.getElem_toArray, List.getElem_cons_succ, List.getElem_cons_zero]
          refine wpAnyH_take (i := 4) (v := .slice (some ⟨bb, ob, none⟩) lb.length cb) rfl (by kernel_rfl) (by kernel_rfl) (by kernel_rfl) (by first | exact fun _ _ _ h => h | exact fun _ _ _ h => nomatch h.1) (Or.inl ⟨by rfl, fun w_ hw_ => by go_simp⟩) hch0 ?_
          refine wpAnyH_take (i := 5) (v := .int .i64 (k : Int)) rfl (by kernel_rfl) (by kernel_rfl) (by kernel_rfl) (by first | exact fun _ _ _ h => h | exact fun _ _ _ h => nomatch h.1) (Or.inl ⟨by rfl, fun w_ hw_ => by go_simp⟩) hch0 ?_
          refine wpAnyH_take (i := 6) (v := .pointer (some ⟨bb, ob + k * 3, none⟩)) rfl (by kernel_rfl) (by kernel_rfl) (by kernel_rfl) (by first | exact fun _ _ _ h => h | exact fun _ _ _ h => nomatch h.1) (Or.inl ⟨by rfl, fun w_ hw_ => by go_simp⟩) hch0 ?_
          try simp only [Act.put, List.setIfInBounds_toArray, List.set_cons_zero, List.set_cons_succ, List.getElem_toArray, List.getElem_cons_succ, List.getElem_cons_zero]
          refine wpAnyH_take (i := 7) (v := .agg (tcell (tm lb k)).toArray) rfl (by kernel_rfl) (by kernel_rfl) (by kernel_rfl) (by first | exact fun _ _ _ h => h | exact fun _ _ _ h => nomatch h.1) (yieldsIf_load_mid (by rfl) 27 _ rfl bb (ob + k * 3) rfl (tcell (tm lb k)) _ (fun w' hw' => HRB.out w' hw') Try.underlying27 rfl sizeTm) hch0 ?_
          try simp only [Act.put, List.setIfInBounds_toArray, List.set_cons_zero, List.set_cons_succ, List.getElem_toArray, List.getElem_cons_succ, List.getElem_cons_zero]
          refine wpAnyH_take (i := 8) (v := .bool (!true)) rfl (by kernel_rfl) (by kernel_rfl) (by kernel_rfl) (by first | exact fun _ _ _ h => h | exact fun _ _ _ h => nomatch h.1) (yieldsIf_neqT (by rfl) 27 _ _ _ rfl (tcell (tm la k)).toArray (tcell (tm lb k)).toArray rfl rfl true (fun w => run_eqGuard_agg w .neq 27 _ _ _ _ Try.eqGuardType27) (fun w _ => HEQ.out w)) hch0 ?_
          try simp only [Act.put, List.setIfInBounds_toArray, List.set_cons_zero, List.set_cons_succ, List.getElem_toArray, List.getElem_cons_succ, List.getElem_cons_zero]
          refine wpAnyH_done (by kernel_rfl) ?_ _
          go_wp2
          go_roundw
          case rel => exact ⟨k + 1, by go_num, by omega, HS.out, hch0⟩
          case measure => simp [intOf]; omega
        · have HEQ : Hid (∀ w, (Op.equalIn 10000 27 (.agg (tcell (tm la k)).toArray) (.agg (tcell (tm lb k)).toArray)).run Try.prog w = .ok false w) := Lib.hid (fun w => by
            have := tm_eql (tm la k) (tm lb k) (HOA.out k hlt) (HOB.out k (by omega)) w
            rwa [decide_eq_false he] at this)
          have hne2 : decide (la = lb) = false := decide_eq_false (fun e => he (by rw [e]))
          have HNE2 := Lib.hid hne2
          clear hc hs he hne2
          go_wp2
          refine wp_region_held_drew (S := fun w' => Chg none_ w w') (by kernel_rfl) (HC.out.drew) (fun hch0 => ?_)
          refine wpAnyH_take (i := 0) (v := .slice (some ⟨ba, oa, none⟩) la.length ca) rfl (by kernel_rfl) (by kernel_rfl) (by kernel_rfl) (by first | exact fun _ _ _ h => h | exact fun _ _ _ h => nomatch h.1) (Or.inl ⟨by rfl, fun w_ hw_ => by go_simp⟩) hch0 ?_
          refine wpAnyH_take (i := 1) (v := .int .i64 (k : Int)) rfl (by kernel_rfl) (by kernel_rfl) (by kernel_rfl) (by first | exact fun _ _ _ h => h | exact fun _ _ _ h => nomatch h.1) (Or.inl ⟨by rfl, fun w_ hw_ => by go_simp⟩) hch0 ?_
          refine wpAnyH_take (i := 2) (v := .pointer (some ⟨ba, oa + k * 3, none⟩)) rfl (by kernel_rfl) (by kernel_rfl) (by kernel_rfl) (by first | exact fun _ _ _ h => h | exact fun _ _ _ h => nomatch h.1) (Or.inl ⟨by rfl, fun w_ hw_ => by go_simp⟩) hch0 ?_
          try simp only [Act.put, List.setIfInBounds_toArray, List.set_cons_zero, List.set_cons_succ, List.getElem_toArray, List.getElem_cons_succ, List.getElem_cons_zero]
          refine wpAnyH_take (i := 3) (v := .agg (tcell (tm la k)).toArray) rfl (by kernel_rfl) (by kernel_rfl) (by kernel_rfl) (by first | exact fun _ _ _ h => h | exact fun _ _ _ h => nomatch h.1) (yieldsIf_load_mid (by rfl) 27 _ rfl ba (oa + k * 3) rfl (tcell (tm la k)) _ (fun w' hw' => HRA.out w' hw') Try.underlying27 rfl sizeTm) hch0 ?_
          try simp only [Act.put, List.setIfInBounds_toArray, List.set_cons_zero, List.set_cons_succ, List.getElem_toArray, List.getElem_cons_succ, List.getElem_cons_zero]
          refine wpAnyH_take (i := 4) (v := .slice (some ⟨bb, ob, none⟩) lb.length cb) rfl (by kernel_rfl) (by kernel_rfl) (by kernel_rfl) (by first | exact fun _ _ _ h => h | exact fun _ _ _ h => nomatch h.1) (Or.inl ⟨by rfl, fun w_ hw_ => by go_simp⟩) hch0 ?_
          refine wpAnyH_take (i := 5) (v := .int .i64 (k : Int)) rfl (by kernel_rfl) (by kernel_rfl) (by kernel_rfl) (by first | exact fun _ _ _ h => h | exact fun _ _ _ h => nomatch h.1) (Or.inl ⟨by rfl, fun w_ hw_ => by go_simp⟩) hch0 ?_
          refine wpAnyH_take (i := 6) (v := .pointer (some ⟨bb, ob + k * 3, none⟩)) rfl (by kernel_rfl) (by kernel_rfl) (by kernel_rfl) (by first | exact fun _ _ _ h => h | exact fun _ _ _ h => nomatch h.1) (Or.inl ⟨by rfl, fun w_ hw_ => by go_simp⟩) hch0 ?_
          try simp only [Act.put, List.setIfInBounds_toArray, List.set_cons_zero, List.set_cons_succ, List.getElem_toArray, List.getElem_cons_succ, List.getElem_cons_zero]
          refine wpAnyH_take (i := 7) (v := .agg (tcell (tm lb k)).toArray) rfl (by kernel_rfl) (by kernel_rfl) (by kernel_rfl) (by first | exact fun _ _ _ h => h | exact fun _ _ _ h => nomatch h.1) (yieldsIf_load_mid (by rfl) 27 _ rfl bb (ob + k * 3) rfl (tcell (tm lb k)) _ (fun w' hw' => HRB.out w' hw') Try.underlying27 rfl sizeTm) hch0 ?_
          try simp only [Act.put, List.setIfInBounds_toArray, List.set_cons_zero, List.set_cons_succ, List.getElem_toArray, List.getElem_cons_succ, List.getElem_cons_zero]
          refine wpAnyH_take (i := 8) (v := .bool (!false)) rfl (by kernel_rfl) (by kernel_rfl) (by kernel_rfl) (by first | exact fun _ _ _ h => h | exact fun _ _ _ h => nomatch h.1) (yieldsIf_neqT (by rfl) 27 _ _ _ rfl (tcell (tm la k)).toArray (tcell (tm lb k)).toArray rfl rfl false (fun w => run_eqGuard_agg w .neq 27 _ _ _ _ Try.eqGuardType27) (fun w _ => HEQ.out w)) hch0 ?_
          try simp only [Act.put, List.setIfInBounds_toArray, List.set_cons_zero, List.set_cons_succ, List.getElem_toArray, List.getElem_cons_succ, List.getElem_cons_zero]
          refine wpAnyH_done (by kernel_rfl) ?_ _
          go_wp2
          go_ret
          exact ⟨ret_bool HNE2.out.symm, hch0⟩
      · have hke : k = la.length := by omega
        have e : la = lb := by
          apply List.ext_getElem hlen
          intro j h1 h2
          have := hs j (by omega)
          unfold tm at this
          rw [List.getD_eq_getElem?_getD, List.getD_eq_getElem?_getD, List.getElem?_eq_getElem h1, List.getElem?_eq_getElem h2] at this
          exact this
        have he2 : decide (la = lb) = true := decide_eq_true e
        have HE2 := Lib.hid he2
        have n1 : ¬ (k : Int) < (la.length : Int) := by omega
        clear hc hs he2 e hke hk hlt
        go_wp2
        go_ret
        exact ⟨ret_bool HE2.out.symm, HC.out⟩
  · have hne : ((la.length : Int) == (lb.length : Int)) = false := by rw [beq_eq_false_iff_ne]; omega
    have hne2 : decide (la = lb) = false := decide_eq_false (fun e => hlen (by rw [e]))
    rw [hne2]
    clear ha hb
    go_enter Try.func25, Try.ntmps25
    go_wp2
    go_ret
    exact ⟨rfl, Chg.refl _ _⟩
end Go.Proofs.Ytblpgpolhibfgaa
