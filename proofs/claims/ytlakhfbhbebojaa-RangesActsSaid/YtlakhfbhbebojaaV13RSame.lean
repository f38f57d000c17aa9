/- Layer 13 (ranges): which ranges are the same, and the document's Same. -/
import Derived.Test.YtlakhfbhbebojaaV13Read
import Derived.Test.YtlakhfbhbebojaaEqTake
import Derived.DeepKeys
namespace Go.Proofs.Ytlakhfbhbebojaa
open Go.RowKit

theorem uint_cells : Try.prog.cellsOf 26 = 1 := by kernel_rfl
theorem r_cells : Try.prog.cellsOf 41 = 2 := by kernel_rfl
theorem keyR : Try.prog.keyTypeAt 4 41 = true := by kernel_rfl
theorem keyLits_u (m : Nat) (x : Nat) (h : x < 18446744073709551616) : Try.prog.keyLits (m + 1) 26 [.int .u64 (x : Int)] = some [.int .u64 (x : Int)] := by
  have hw : (Lit.int .u64 (x : Int)).wf = true := by
    show (decide ((0 : Int) ≤ x) && decide ((x : Int) ≤ 18446744073709551615)) = true
    simp only [Bool.and_eq_true, decide_eq_true_eq]
    omega
  unfold Program.keyLits
  rw [Try.underlying26]
  simp [hw]
def ROk (r : Nat × Nat) : Prop := r.1 < 18446744073709551616 ∧ r.2 < 18446744073709551616
def litsR (r : Nat × Nat) : List Lit := [.int .u64 (r.1 : Int), .int .u64 (r.2 : Int)]
theorem keyLits_r (r : Nat × Nat) (h : ROk r) : Try.prog.keyLits 4 41 (rcell r) = some (litsR r) := by
  unfold Program.keyLits
  rw [Try.underlying41]
  simp [r_cells, uint_cells, rcell, keyLits_u _ _ h.1, keyLits_u _ _ h.2, litsR]
theorem litsR_inj (a b : Nat × Nat) : litsR a = litsR b ↔ a = b := by
  constructor
  · intro h
    simp only [litsR, List.cons.injEq, Lit.int.injEq, true_and, and_true] at h
    exact Prod.ext (by omega) (by omega)
  · intro h; rw [h]
theorem r_eql (a b : Nat × Nat) (o : ROk a) (o' : ROk b) (w : World) : (Op.equalIn 10000 41 (.agg (rcell a).toArray) (.agg (rcell b).toArray)).run Try.prog w = .ok (decide (a = b)) w := by
  have hf : ∀ a : Nat × Nat, (Value.agg (rcell a).toArray).formed Try.prog 41 = true := fun a => by
    simp only [Value.formed]
    simp [Try.underlying41, r_cells, rcell]
  obtain ⟨r, h1, h2⟩ := run_equalIn_deep (P := Try.prog) 9996 4 41 keyR w 4 4 (.agg (rcell a).toArray) (.agg (rcell b).toArray) (litsR a) (litsR b) (hf a) (hf b) (keyLits_r a o) (keyLits_r b o')
  rw [show (10000 : Nat) = 9996 + 4 from rfl, h1]
  congr 1
  rw [Bool.eq_iff_iff, h2, litsR_inj]
  simp
theorem yieldsIf_neqT {P : Program} {ops : Array Oper} {S : World → Prop} {op : Oper} {a : Act} (hw : Region.wanted op (yielded ops a.tmps) = true) (T R : TypeId) (x y : Operand) (ho : op.op = .binOp .neq T x y R) (u v : Array Value) (hx : a.eval x = .agg u) (hy : a.eval y = .agg v) (b : Bool)
    (hg : ∀ w, (eqGuard .neq T x y (.agg u) (.agg v)).run P w = .ok () w) (h : ∀ w, S w → (Op.equalIn 10000 T (.agg u) (.agg v)).run P w = .ok b w) : YieldsIf P ops S op (.bool (!b)) a :=
  .inl ⟨hw, fun w hw' => by
    have hh : (Op.equal T (.agg u) (.agg v)).run P w = .ok b w := h w hw'
    unfold execOp
    simp only [ho, hx, hy, Sem.run_bind, Sem.run_pure, Result.andThen_ok, hg w, binOp, hh]⟩

set_option maxRecDepth 100000 in
set_option maxHeartbeats 2000000 in
theorem Same_any (la lb : List (Nat × Nat)) (A B : Option Addr) (ca cb : Nat) (Ta Tb : Nat → Prop) (w : World) (ha : View w Ta A (la.length * 2) (rcells la)) (hb : View w Tb B (lb.length * 2) (rcells lb)) (hl : la.length ≤ 100000) (oa : ∀ t ∈ la, ROk t) (ob : ∀ t ∈ lb, ROk t) :
    Calls Try.prog 19 #[.slice A la.length ca, .slice B lb.length cb] w fun e w' => e = .returned (.bool (decide (la = lb))) ∧ Chg none_ w w' := by
  by_cases hlen : la.length = lb.length
  · have hlenI : (la.length : Int) = (lb.length : Int) := by omega
    have HVA := Lib.hid (fun w' (hc : Chg none_ w w') => ha.chg hc (fun _ _ h => h))
    have HVB := Lib.hid (fun w' (hc : Chg none_ w w') => hb.chg hc (fun _ _ h => h))
    have HOA := Lib.hid (fun k (hk : k < la.length) => oa _ (rg_mem hk))
    have HOB := Lib.hid (fun k (hk : k < lb.length) => ob _ (rg_mem hk))
    have hne : ((la.length : Int) == (lb.length : Int)) = true := by rw [beq_iff_eq]; exact hlenI
    clear ha hb oa ob hlenI
    go_enter Try.func19, Try.ntmps19
    go_wp2
    go_loopw [5] (fun i wr => ∃ k : Nat, i = .int .i64 (k : Int) ∧ k ≤ la.length ∧ (∀ j, j < k → rg la j = rg lb j) ∧ Chg none_ w wr) (fun i _ => la.length - (intOf i).toNat)
    case atStart => exact ⟨0, rfl, Nat.zero_le _, fun j hj => absurd hj (by omega), Chg.refl _ _⟩
    case round =>
      obtain ⟨k, rfl, hk, hs, hc⟩ := hrel
      have HC := Lib.hid hc
      by_cases hlt : k < la.length
      · have k1 : (k : Int) < (la.length : Int) := by omega
        have k2 : (k : Int) < (lb.length : Int) := by omega
        have k0 : 0 ≤ (k : Int) := by omega
        obtain ⟨ba, oa, rfl, _, _, _⟩ := (HVA.out wr hc).rAt hlt
        obtain ⟨bb, ob, rfl, _, _, _⟩ := (HVB.out wr hc).rAt (k := k) (by omega)
        have HRA : Hid (∀ w', Chg none_ w w' → w'.rangeAt ba (oa + k * 2) (rcell (rg la k))) := Lib.hid (fun w' hc' => by
          obtain ⟨b', o', hbo, _, _, hr3⟩ := (HVA.out w' hc').rAt hlt
          injection hbo with hbo
          injection hbo with hb1 ho1
          subst hb1 ho1
          exact hr3 k hlt)
        have HRB : Hid (∀ w', Chg none_ w w' → w'.rangeAt bb (ob + k * 2) (rcell (rg lb k))) := Lib.hid (fun w' hc' => by
          obtain ⟨b', o', hbo, _, _, hr3⟩ := (HVB.out w' hc').rAt (k := k) (by omega)
          injection hbo with hbo
          injection hbo with hb1 ho1
          subst hb1 ho1
          exact hr3 k (by omega))
        by_cases he : rg la k = rg lb k
        · have HEQ : Hid (∀ w, (Op.equalIn 10000 41 (.agg (rcell (rg la k)).toArray) (.agg (rcell (rg lb k)).toArray)).run Try.prog w = .ok true w) := Lib.hid (fun w => by
            have := r_eql (rg la k) (rg lb k) (HOA.out k hlt) (HOB.out k (by omega)) w
            rwa [decide_eq_true he] at this)
          have HS := Lib.hid (show ∀ j, j < k + 1 → rg la j = rg lb j from fun j hj => by
            rcases Nat.lt_or_ge j k with h | h
            · exact hs j h
            · rw [show j = k from by omega]; exact he)
          clear hc hs he
          go_wp2
          refine wp_region_held_drew (S := fun w' => Chg none_ w w') (by kernel_rfl) (HC.out.drew) (fun hch0 => ?_)
          refine wpAnyH_take (i := 0) (v := .slice (some ⟨ba, oa, none⟩) la.length ca) rfl (by kernel_rfl) (by kernel_rfl) (by kernel_rfl) (by first | exact fun _ _ _ h => h | exact fun _ _ _ h => nomatch h.1) (Or.inl ⟨by rfl, fun w_ hw_ => by go_simp⟩) hch0 ?_
          refine wpAnyH_take (i := 1) (v := .int .i64 (k : Int)) rfl (by kernel_rfl) (by kernel_rfl) (by kernel_rfl) (by first | exact fun _ _ _ h => h | exact fun _ _ _ h => nomatch h.1) (Or.inl ⟨by rfl, fun w_ hw_ => by go_simp⟩) hch0 ?_
          refine wpAnyH_take (i := 2) (v := .pointer (some ⟨ba, oa + k * 2, none⟩)) rfl (by kernel_rfl) (by kernel_rfl) (by kernel_rfl) (by first | exact fun _ _ _ h => h | exact fun _ _ _ h => nomatch h.1) (Or.inl ⟨by rfl, fun w_ hw_ => by go_simp⟩) hch0 ?_
          try simp only [Act.put, List.setIfInBounds_toArray, List.set_cons_zero, List.set_cons_succ, List.getElem_toArray, List.getElem_cons_succ, List.getElem_cons_zero]
          refine wpAnyH_take (i := 3) (v := .agg (rcell (rg la k)).toArray) rfl (by kernel_rfl) (by kernel_rfl) (by kernel_rfl) (by first | exact fun _ _ _ h => h | exact fun _ _ _ h => nomatch h.1) (yieldsIf_load_mid (by rfl) 41 _ rfl ba (oa + k * 2) rfl (rcell (rg la k)) _ (fun w' hw' => HRA.out w' hw') Try.underlying41 rfl sizeR) hch0 ?_
          try simp only [Act.put, List.setIfInBounds_toArray, List.set_cons_zero, List.set_cons_succ, List.getElem_toArray, List.getElem_cons_succ, List.getElem_cons_zero]
          refine wpAnyH_take (i := 4) (v := .slice (some ⟨bb, ob, none⟩) lb.length cb) rfl (by kernel_rfl) (by kernel_rfl) (by kernel_rfl) (by first | exact fun _ _ _ h => h | exact fun _ _ _ h => nomatch h.1) (Or.inl ⟨by rfl, fun w_ hw_ => by go_simp⟩) hch0 ?_
          refine wpAnyH_take (i := 5) (v := .int .i64 (k : Int)) rfl (by kernel_rfl) (by kernel_rfl) (by kernel_rfl) (by first | exact fun _ _ _ h => h | exact fun _ _ _ h => nomatch h.1) (Or.inl ⟨by rfl, fun w_ hw_ => by go_simp⟩) hch0 ?_
          refine wpAnyH_take (i := 6) (v := .pointer (some ⟨bb, ob + k * 2, none⟩)) rfl (by kernel_rfl) (by kernel_rfl) (by kernel_rfl) (by first | exact fun _ _ _ h => h | exact fun _ _ _ h => nomatch h.1) (Or.inl ⟨by rfl, fun w_ hw_ => by go_simp⟩) hch0 ?_
          try simp only [Act.put, List.setIfInBounds_toArray, List.set_cons_zero, List.set_cons_succ, List.getElem_toArray, List.getElem_cons_succ, List.getElem_cons_zero]
          refine wpAnyH_take (i := 7) (v := .agg (rcell (rg lb k)).toArray) rfl (by kernel_rfl) (by kernel_rfl) (by kernel_rfl) (by first | exact fun _ _ _ h => h | exact fun _ _ _ h => nomatch h.1) (yieldsIf_load_mid (by rfl) 41 _ rfl bb (ob + k * 2) rfl (rcell (rg lb k)) _ (fun w' hw' => HRB.out w' hw') Try.underlying41 rfl sizeR) hch0 ?_
          try simp only [Act.put, List.setIfInBounds_toArray, List.set_cons_zero, List.set_cons_succ, List.getElem_toArray, List.getElem_cons_succ, List.getElem_cons_zero]
          refine wpAnyH_take (i := 8) (v := .bool (!true)) rfl (by kernel_rfl) (by kernel_rfl) (by kernel_rfl) (by first | exact fun _ _ _ h => h | exact fun _ _ _ h => nomatch h.1) (yieldsIf_neqT (by rfl) 41 _ _ _ rfl (rcell (rg la k)).toArray (rcell (rg lb k)).toArray rfl rfl true (fun w => run_eqGuard_agg w .neq 41 _ _ _ _ Try.eqGuardType41) (fun w _ => HEQ.out w)) hch0 ?_
          try simp only [Act.put, List.setIfInBounds_toArray, List.set_cons_zero, List.set_cons_succ, List.getElem_toArray, List.getElem_cons_succ, List.getElem_cons_zero]
          refine wpAnyH_done (by kernel_rfl) ?_ _
          go_wp2
          go_roundw
          case rel => exact ⟨k + 1, by go_num, by omega, HS.out, hch0⟩
          case measure => simp [intOf]; omega
        · have HEQ : Hid (∀ w, (Op.equalIn 10000 41 (.agg (rcell (rg la k)).toArray) (.agg (rcell (rg lb k)).toArray)).run Try.prog w = .ok false w) := Lib.hid (fun w => by
            have := r_eql (rg la k) (rg lb k) (HOA.out k hlt) (HOB.out k (by omega)) w
            rwa [decide_eq_false he] at this)
          have hne2 : decide (la = lb) = false := decide_eq_false (fun e => he (by rw [e]))
          have HNE2 := Lib.hid hne2
          clear hc hs he hne2
          go_wp2
          refine wp_region_held_drew (S := fun w' => Chg none_ w w') (by kernel_rfl) (HC.out.drew) (fun hch0 => ?_)
          refine wpAnyH_take (i := 0) (v := .slice (some ⟨ba, oa, none⟩) la.length ca) rfl (by kernel_rfl) (by kernel_rfl) (by kernel_rfl) (by first | exact fun _ _ _ h => h | exact fun _ _ _ h => nomatch h.1) (Or.inl ⟨by rfl, fun w_ hw_ => by go_simp⟩) hch0 ?_
          refine wpAnyH_take (i := 1) (v := .int .i64 (k : Int)) rfl (by kernel_rfl) (by kernel_rfl) (by kernel_rfl) (by first | exact fun _ _ _ h => h | exact fun _ _ _ h => nomatch h.1) (Or.inl ⟨by rfl, fun w_ hw_ => by go_simp⟩) hch0 ?_
          refine wpAnyH_take (i := 2) (v := .pointer (some ⟨ba, oa + k * 2, none⟩)) rfl (by kernel_rfl) (by kernel_rfl) (by kernel_rfl) (by first | exact fun _ _ _ h => h | exact fun _ _ _ h => nomatch h.1) (Or.inl ⟨by rfl, fun w_ hw_ => by go_simp⟩) hch0 ?_
          try simp only [Act.put, List.setIfInBounds_toArray, List.set_cons_zero, List.set_cons_succ, List.getElem_toArray, List.getElem_cons_succ, List.getElem_cons_zero]
          refine wpAnyH_take (i := 3) (v := .agg (rcell (rg la k)).toArray) rfl (by kernel_rfl) (by kernel_rfl) (by kernel_rfl) (by first | exact fun _ _ _ h => h | exact fun _ _ _ h => nomatch h.1) (yieldsIf_load_mid (by rfl) 41 _ rfl ba (oa + k * 2) rfl (rcell (rg la k)) _ (fun w' hw' => HRA.out w' hw') Try.underlying41 rfl sizeR) hch0 ?_
          try simp only [Act.put, List.setIfInBounds_toArray, List.set_cons_zero, List.set_cons_succ, List.getElem_toArray, List.getElem_cons_succ, List.getElem_cons_zero]
          refine wpAnyH_take (i := 4) (v := .slice (some ⟨bb, ob, none⟩) lb.length cb) rfl (by kernel_rfl) (by kernel_rfl) (by kernel_rfl) (by first | exact fun _ _ _ h => h | exact fun _ _ _ h => nomatch h.1) (Or.inl ⟨by rfl, fun w_ hw_ => by go_simp⟩) hch0 ?_
          refine wpAnyH_take (i := 5) (v := .int .i64 (k : Int)) rfl (by kernel_rfl) (by kernel_rfl) (by kernel_rfl) (by first | exact fun _ _ _ h => h | exact fun _ _ _ h => nomatch h.1) (Or.inl ⟨by rfl, fun w_ hw_ => by go_simp⟩) hch0 ?_
          refine wpAnyH_take (i := 6) (v := .pointer (some ⟨bb, ob + k * 2, none⟩)) rfl (by kernel_rfl) (by kernel_rfl) (by kernel_rfl) (by first | exact fun _ _ _ h => h | exact fun _ _ _ h => nomatch h.1) (Or.inl ⟨by rfl, fun w_ hw_ => by go_simp⟩) hch0 ?_
          try simp only [Act.put, List.setIfInBounds_toArray, List.set_cons_zero, List.set_cons_succ, List.getElem_toArray, List.getElem_cons_succ, List.getElem_cons_zero]
          refine wpAnyH_take (i := 7) (v := .agg (rcell (rg lb k)).toArray) rfl (by kernel_rfl) (by kernel_rfl) (by kernel_rfl) (by first | exact fun _ _ _ h => h | exact fun _ _ _ h => nomatch h.1) (yieldsIf_load_mid (by rfl) 41 _ rfl bb (ob + k * 2) rfl (rcell (rg lb k)) _ (fun w' hw' => HRB.out w' hw') Try.underlying41 rfl sizeR) hch0 ?_
          try simp only [Act.put, List.setIfInBounds_toArray, List.set_cons_zero, List.set_cons_succ, List.getElem_toArray, List.getElem_cons_succ, List.getElem_cons_zero]
          refine wpAnyH_take (i := 8) (v := .bool (!false)) rfl (by kernel_rfl) (by kernel_rfl) (by kernel_rfl) (by first | exact fun _ _ _ h => h | exact fun _ _ _ h => nomatch h.1) (yieldsIf_neqT (by rfl) 41 _ _ _ rfl (rcell (rg la k)).toArray (rcell (rg lb k)).toArray rfl rfl false (fun w => run_eqGuard_agg w .neq 41 _ _ _ _ Try.eqGuardType41) (fun w _ => HEQ.out w)) hch0 ?_
          try simp only [Act.put, List.setIfInBounds_toArray, List.set_cons_zero, List.set_cons_succ, List.getElem_toArray, List.getElem_cons_succ, List.getElem_cons_zero]
          refine wpAnyH_done (by kernel_rfl) ?_ _
          go_wp2
          go_ret
          exact ⟨ret_bool HNE2.out.symm, hch0⟩
      · have hke : k = la.length := by omega
        have e : la = lb := by
          apply List.ext_getElem hlen
          intro j h1 h2
          have := hs j (by omega)
          unfold rg at this
          rw [List.getD_eq_getElem?_getD, List.getD_eq_getElem?_getD, List.getElem?_eq_getElem h1, List.getElem?_eq_getElem h2] at this
          exact this
        have he2 : decide (la = lb) = true := decide_eq_true e
        have HE2 := Lib.hid he2
        have n1 : ¬ (k : Int) < (la.length : Int) := by omega
        clear hc hs he2 e hke hk hlt
        go_wp2
        go_ret
        exact ⟨ret_bool HE2.out.symm, HC.out⟩
  · have hne : ((la.length : Int) == (lb.length : Int)) = false := by rw [beq_eq_false_iff_ne]; omega
    have hne2 : decide (la = lb) = false := decide_eq_false (fun e => hlen (by rw [e]))
    rw [hne2]
    clear ha hb
    go_enter Try.func19, Try.ntmps19
    go_wp2
    go_ret
    exact ⟨rfl, Chg.refl _ _⟩
end Go.Proofs.Ytlakhfbhbebojaa
