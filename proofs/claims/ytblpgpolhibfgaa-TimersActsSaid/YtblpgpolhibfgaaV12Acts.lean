/- Layer 12 (timers): the law of whatever is done, walked. -/
import Derived.Test.YtblpgpolhibfgaaV12Both
import Derived.Test.YtblpgpolhibfgaaV12Open
import Derived.Test.YtblpgpolhibfgaaV12RSame
namespace Go.Proofs.Ytblpgpolhibfgaa
open Go.RowKit

theorem zeroRQ : (Try.prog.info? 40).map (·.zero) = some (some (.agg [.slice none 0 0].toArray)) := by kernel_rfl
def ac (l : List Ac) (k : Nat) : Ac := l.getD k ac0
theorem ac_mem {l : List Ac} {k : Nat} (h : k < l.length) : ac l k ∈ l := by
  unfold ac
  rw [List.getD_eq_getElem?_getD, List.getElem?_eq_getElem h]
  exact List.getElem_mem h
theorem View.acAt {w : World} {T : Nat → Prop} {A : Option Addr} {l : List Ac} {k : Nat} (h : View w T A (l.length * 4) (acells l)) (hk : k < l.length) : ∃ b o, A = some ⟨b, o, none⟩ ∧ b < w.heap.size ∧ ∀ k, k < l.length → w.rangeAt b (o + k * 4) (acell (ac l k)) := by
  obtain ⟨b, o, h1, h2, _, h4⟩ := h.2 (by omega)
  refine ⟨b, o, h1, h2, fun k hk j v hv => ?_⟩
  have hj : j < 4 := (List.getElem?_eq_some_iff.1 hv).1
  have e := acells_get l k j hk hj
  rw [Nat.add_assoc, h4 _ (by omega), e]
  exact hv
section
variable {w0 w w' : World} {base q r g : Nat} {t : Tm} {S S' S1 : List Tm}
theorem J0.chg (h : J0 w0 base q r S S' w) : Chg none_ w0 w := by
  obtain ⟨mp, _, _, _, _, h⟩ := h
  exact h
theorem J0.rcell (h : J0 w0 base q r S S' w) : ∃ A cap, w.cell? ⟨r, 0, none⟩ = some (.slice A S'.length cap) := by
  obtain ⟨mp, _, ⟨A, cap, h, _⟩, _⟩ := h
  exact ⟨A, cap, h.cell 0⟩
theorem J.rcell (h : J w0 base q r g t S S' w) : ∃ A cap, w.cell? ⟨r, 0, none⟩ = some (.slice A S'.length cap) := h.weak.rcell
theorem due_ok {now : Nat} (h : ∀ x ∈ S, TOk x) : TOk ((dueS now S).elim zT (·.1)) := by
  have hz : TOk zT := by constructor <;> first | decide | exact ⟨rfl, rfl⟩
  unfold dueS
  split
  · split
    · exact h _ (by simp)
    · exact hz
  · exact hz
theorem rdue2 (h0 : w0.heap.size ≤ base) (hbr : base ≤ r) (w : World) (h : J w0 base q r g t S S' w) : Calls Try.prog 22 #[.pointer (some ⟨r, 0, none⟩), .int .u64 (t.at_ : Int)] w fun e w' => e = .returned (.tuple #[.agg (tcell ((dueS t.at_ S').elim zT (·.1))).toArray, .bool (dueS t.at_ S').isSome]) ∧ J w0 base q r g t S ((dueS t.at_ S').elim S' (·.2)) w' ∧ Chg (· = r) w w' := by
  obtain ⟨mp, h1, h2, h3, h4, h5, h6, h7, h8⟩ := h
  refine (RDue_any r _ S' t.at_ w h2 (fun h => h.2 rfl)).mono ?_
  rintro e w' ⟨a, hq, hc⟩
  exact ⟨a, J.ofR h0 hbr h1 h2 h3 h4 h5 h6 h7 h8 (hq.mono (fun _ _ h => Or.inl h)) hc, hc⟩
/-- What only asks. -/
theorem quiets (h : J w0 base q r g t S S w) (ht : TOk t) :
    (∀ m, Calls Try.prog 16 #[.pointer (some ⟨q, 0, none⟩)] (w.drewN m) fun e w' => e = .returned (.int .u64 ((nextS S : Nat) : Int)) ∧ ∃ n, w' = (w.drewN m).drewN n) ∧
    (∀ m, Calls Try.prog 14 #[.pointer (some ⟨q, 0, none⟩)] (w.drewN m) fun e w' => e = .returned (.int .i64 ((S.length : Nat) : Int)) ∧ ∃ n, w' = (w.drewN m).drewN n) ∧
    (∀ m, Calls Try.prog 17 #[.pointer (some ⟨q, 0, none⟩), .int .i64 t.conn, .int .i64 t.kind] (w.drewN m) fun e w' => e = .returned (.int .u64 ((atS t.key S : Nat) : Int)) ∧ w' = w.drewN m) ∧
    (∀ m, Calls Try.prog 23 #[.pointer (some ⟨r, 0, none⟩)] (w.drewN m) fun e w' => e = .returned (.int .u64 ((nextS S : Nat) : Int)) ∧ w' = w.drewN m) ∧
    (∀ m, Calls Try.prog 24 #[.pointer (some ⟨r, 0, none⟩), .int .i64 t.conn, .int .i64 t.kind] (w.drewN m) fun e w' => e = .returned (.int .u64 ((atS t.key S : Nat) : Int)) ∧ w' = w.drewN m) := by
  obtain ⟨mp, h1, h2, _⟩ := h
  have hq : ∀ m, QIs (w.drewN m) q mp S := fun m => h1.quiet ((Chg.refl _ _).drewN m)
  have hr : ∀ m, RQ (w.drewN m) _ r S := fun m => h2.quiet ((Chg.refl _ _).drewN m)
  have hl : S.length ≤ 100000 := Nat.le_trans h1.ok.2.2.1 (by decide)
  exact ⟨fun m => Next_q q mp S _ (hq m), fun m => Len_q q mp S _ (hq m), fun m => At_q q mp S t.key ht.k _ (hq m), fun m => RNext_any r _ S _ (hr m), fun m => RAt_any r _ S t.key _ (hr m) hl⟩
end
section
variable {ops : Array Oper} {rest : List Oper} {o : Oper} {a : Act} {w : World} {Q : Exit → Act → World → Prop}
theorem wpList_eqlT (hw : Region.wanted o (yielded ops a.tmps) = true) (x y : Operand) {R : TypeId} (ho : o.op = .binOp .eql 27 x y R) (u : Array Value) (hx : a.eval x = .agg u) (hy : a.eval y = .agg u) (heq : ∀ w, (Op.equalIn 10000 27 (.agg u) (.agg u)).run Try.prog w = .ok true w)
    (k : wpList Try.prog ops Q rest (a.put o.dst (.bool true)) w) : wpList Try.prog ops Q (o :: rest) a w :=
  BigFrame.wpList_want hw fun _ hK => by
    have hg := run_eqGuard_agg (P := Try.prog) w .eql 27 x y u u Try.eqGuardType27
    have hh : (Op.equal 27 (.agg u) (.agg u)).run Try.prog w = .ok true w := heq w
    unfold Oper.wp execOp
    simp only [ho, hx, hy, Sem.run_bind, Sem.run_pure, Result.andThen_ok, hg, binOp, hh]
    exact hK _ _ k
end

set_option maxRecDepth 100000 in
set_option maxHeartbeats 40000000 in
theorem walk_TimersActs (l : List Ac) (A : Option Addr) (cap : Nat) (w : World) (_hb : l.length ≤ cap ∧ cap ≤ maxLen) (hv : View w (fun _ => True) A (l.length * 4) (acells l)) (ho : ∀ x ∈ l, TOk x.t) :
    Calls Try.prog 3 #[.slice A l.length cap] w fun e w' => e = .returned (.bool true) ∧ Chg none_ w w' := by
  by_cases hbig : 300 < l.length
  · have h1 : (300 : Int) < (l.length : Int) := by omega
    clear hv
    go_enter Try.func3, Try.ntmps3
    go_wp2_with ((go_at_call 9; refine (alive_any _).mono ?_; rintro e w1 ⟨rfl, hc⟩; have HC1 := Lib.hid hc; clear hc))
    go_ret
    exact ⟨rfl, HC1.out⟩
  have h1 : ¬ (300 : Int) < (l.length : Int) := by omega
  have HV := Lib.hid (fun w' (hc : Chg none_ w w') => hv.chg hc (fun _ _ h => h))
  have HO := Lib.hid (fun k (hk : k < l.length) => ho _ (ac_mem hk))
  clear hv ho
  go_enter Try.func3, Try.ntmps3
  go_wp2_with (first | (go_at_call 9; refine (alive_any _).mono ?_; rintro e w1 ⟨rfl, hc⟩; have HC1 := Lib.hid hc; clear hc) | (go_at_call 10; refine (Due_none _ 5 _ (fun w' _ => Len_nil w')).mono ?_; rintro e wa ⟨rfl, hc⟩; have HCa := Lib.hid (HC1.out.trans hc); clear hc) | ((with_reducible show wpList _ _ _ (⟨some 4, .alloc _, _, _, _, _⟩ :: _) _ _); refine wpList_alloc_Row rfl rfl (tcell zT) zeroTm ?_; intro wb hrb hcb hsb; have HRb := Lib.hid hrb; have HCb := Lib.hid (HCa.out.trans hcb); have HSa := Lib.hid HCa.out.size; clear hrb hcb hsb) | ((with_reducible show wpList _ _ _ (⟨none, .store _ (.tmp 4) _, _, _, _, _⟩ :: _) _ _); refine wpList_store_Row (xs := tcell zT) rfl rfl rfl HRb.out rfl rfl sizeTm rfl ?_; intro wc hrc hcsc hsc; have HCc := Lib.hid (hcsc none_ w HCb.out (fun h => by have := HSa.out; omega)); clear hrc hcsc hsc) | (go_at_call 11; refine (Set_nil zT _).mono ?_; rintro e wd ⟨rfl, hc⟩; have HCd := Lib.hid (HCc.out.trans hc); clear hc) | (go_at_call 12; refine (Cancel_nil _ _ _).mono ?_; rintro e we ⟨rfl, hc⟩; have HCe := Lib.hid (HCd.out.trans hc); clear hc) | (go_at_call 13; refine (Drop_nil _ _).mono ?_; rintro e wf ⟨rfl, hc⟩; have HCf := Lib.hid (HCe.out.trans hc); clear hc) | (go_at_call 14; refine (Len_nil _).mono ?_; rintro e wg ⟨rfl, hc⟩; have HCg := Lib.hid (HCf.out.trans hc); clear hc) | (go_at_call 15; refine (List_nil _).mono ?_; rintro e wh ⟨Ah_, ch_, rfl, hc⟩; have HCh := Lib.hid (HCg.out.trans hc); clear hc) | (go_at_call 16; refine (Next_nil _).mono ?_; rintro e wi ⟨rfl, hc⟩; have HCi := Lib.hid (HCh.out.trans hc); clear hc) | (go_at_call 17; refine (At_nil _ _ _).mono ?_; rintro e wj ⟨rfl, hc⟩; have HCj := Lib.hid (HCi.out.trans hc); clear hc) | (go_at_call 18; refine (New_any _).mono ?_; rintro e wk ⟨rfl, hq, hc, hs⟩; have HQk := Lib.hid hq; have HCk := Lib.hid (HCj.out.trans hc); have HSk := Lib.hid hs; clear hq hc hs) | ((with_reducible show wpList _ _ _ (⟨some 7, .alloc _, _, _, _, _⟩ :: _) _ _); refine wpList_alloc_Row rfl rfl [.slice none 0 0] zeroRQ ?_; intro wl hrl hcl hsl; have HRl := Lib.hid hrl; have HCl := Lib.hid hcl; clear hrl hcl hsl))
  obtain ⟨q, hq⟩ : ∃ q, q = wj.heap.size := ⟨_, rfl⟩
  obtain ⟨r, hr⟩ : ∃ r, r = wk.heap.size := ⟨_, rfl⟩
  have H0 := Lib.hid (show w.heap.size ≤ q from hq ▸ HCj.out.size)
  have HBR := Lib.hid (show q ≤ r by have := HSk.out; omega)
  have HJ0 : Hid (J0 w q q r [] [] wl) := Lib.hid (by
    have hne : ¬ QB q none r := fun h => by
      rcases h with h | h
      · have := HSk.out; omega
      · cases h
    have hq1 := HQk.out
    have hr1 := HRl.out
    rw [← hq] at hq1
    rw [← hr] at hr1
    have hbb : ∀ b, QB q none b → q ≤ b := fun b hb => by
      rcases hb with hb | hb
      · omega
      · cases hb
    exact ⟨none, hq1.quiet HCl.out, ⟨none, 0, hr1, Nat.le_refl _, Nat.zero_le _, View.none_ _ _ _⟩, hne, hbb, HCk.out.trans HCl.out⟩)
  rw [← hq, ← hr]
  clear hq hr HC1 HCa HRb HCb HSa HCc HCd HCe HCf HCg HCh HCi HCj HQk HCk HSk HRl HCl
  go_wp2
  go_loopw [8] (fun i wr => ∃ (k : Nat) (S : List Tm), i = .int .i64 (k : Int) ∧ k ≤ l.length ∧ J0 w q q r S S wr) (fun i _ => l.length - (intOf i).toNat)
  case atStart => exact ⟨0, [], rfl, Nat.zero_le _, HJ0.out⟩
  case round =>
    clear HJ0
    obtain ⟨k, S, rfl, hk, hj⟩ := hrel
    have HJ := Lib.hid hj
    by_cases hlt : k < l.length
    · have k1 : (k : Int) < (l.length : Int) := by omega
      have k0 : 0 ≤ (k : Int) := by omega
      have hcw := hj.chg
      obtain ⟨b, o, rfl, hbl, hrr⟩ := (HV.out wr hcw).acAt hlt
      have HTT := Lib.hid (HO.out k hlt)
      have HSO := Lib.hid hj.ok.1
      have HSO2 := Lib.hid hj.ok.2
      have HRT0 := hrr k hlt
      generalize hx : ac l k = x at HTT HRT0
      obtain ⟨kd, t⟩ := x
      have HRT := Lib.hid (show wr.rangeAt b (o + k * 4 + 1) (tcell t) from fun j v hv => by
        have := HRT0 (j + 1) v (by unfold acell; rw [List.getElem?_cons_succ]; exact hv)
        rwa [show o + k * 4 + (j + 1) = o + k * 4 + 1 + j from by omega] at this)
      have HKC : Hid (∀ x, Chg none_ wr x → x.cell? ⟨b, o + k * 4, none⟩ = some (.int .i64 kd)) := Lib.hid (fun x hx => (World.cell?_of_block (hx.block b hbl (fun h => h))).trans (HRT0 0 _ rfl))
      have HTT := Lib.hid (show TOk t from HTT.out)
      clear hj hcw hrr HRT0 hx hbl
      by_cases n0 : kd = 0
      · subst n0
        have HQF := Lib.hid (fun g w1 (h : J w q q r g t S S w1) => qset H0.out HTT.out w1 h)
        have HRF := Lib.hid (fun g w1 (h : J w q q r g t (setS t S) S w1) => rset H0.out HBR.out HSO.out w1 h)
        generalize setB t S = sb at HQF HRF
        generalize setS t S = S1 at HQF HRF
        go_wp2_with (first | ((with_reducible show wpList _ _ _ (⟨some 68, .load _ _, _, _, _, _⟩ :: _) _ _); refine wpList_load_Mid (cs := tcell t) rfl rfl rfl HRT.out Try.underlying27 rfl sizeTm ?_) | ((with_reducible show wpList _ _ _ (⟨some 9, .alloc _, _, _, _, _⟩ :: _) _ _); refine wpList_alloc_Row rfl rfl (tcell zT) zeroTm ?_; intro w4 hr4 hc4 hs4; have HR4 := Lib.hid hr4; have HC4 := Lib.hid hc4; clear hr4 hc4 hs4) | ((with_reducible show wpList _ _ _ (⟨none, .store _ (.tmp 9) _, _, _, _, _⟩ :: _) _ _); refine wpList_store_Row (xs := tcell t) rfl rfl rfl HR4.out rfl rfl sizeTm rfl ?_; intro w5 hr5 hcs5 hs5; have HJ5 := Lib.hid (HJ.out.with (hcs5 none_ wr HC4.out (fun h => absurd h (Nat.lt_irrefl _))) (Nat.le_refl _) hr5); have a0 := (HKC.out w5 (hcs5 none_ wr HC4.out (fun h => absurd h (Nat.lt_irrefl _)))); clear hr5 hcs5 hs5))
        clear a0
        have HQF := Lib.hid (HQF.out wr.heap.size)
        have HRF := Lib.hid (HRF.out wr.heap.size)
        generalize wr.heap.size = g at *
        refine wp_region_late (fun x => Row x g 27 (tcell t)) 6 (by kernel_rfl) ?_
        have hz := HJ5.out.quiet ((Chg.refl none_ w5).drew)
        generalize w5.drew = wz at hz ⊢
        refine late_take (i := 0) (v := .pointer (some ⟨q, 0, none⟩)) [2, 5, 6] rfl (by kernel_rfl) (by kernel_rfl) (by kernel_rfl) (by kernel_rfl) (by first | exact fun _ _ _ h => h | exact fun _ _ _ h => nomatch h.1) (Or.inl ⟨by rfl, fun w_ hw_ => by go_simp⟩) hz.row ?_
        try simp only [Act.put, List.setIfInBounds_toArray, List.set_cons_zero, List.set_cons_succ, List.getElem_toArray, List.getElem_cons_zero]
        refine late_take (i := 1) (v := .agg (tcell t).toArray) [2, 5, 6] rfl (by kernel_rfl) (by kernel_rfl) (by kernel_rfl) (by kernel_rfl) (by first | exact fun _ _ _ h => h | exact fun _ _ _ h => nomatch h.1) (yieldsIf_load_mid (by rfl) 27 _ rfl g 0 rfl (tcell t) _ (fun w' hw' => Row.range hw') Try.underlying27 rfl sizeTm) hz.row ?_
        try simp only [Act.put, List.setIfInBounds_toArray, List.set_cons_zero, List.set_cons_succ, List.getElem_toArray, List.getElem_cons_succ, List.getElem_cons_zero]
        refine late_take (i := 3) (v := .agg (tcell t).toArray) [4, 5, 6] rfl (by kernel_rfl) (by kernel_rfl) (by kernel_rfl) (by kernel_rfl) (by first | exact fun _ _ _ h => h | exact fun _ _ _ h => nomatch h.1) (yieldsIf_load_mid (by rfl) 27 _ rfl g 0 rfl (tcell t) _ (fun w' hw' => Row.range hw') Try.underlying27 rfl sizeTm) hz.row ?_
        try simp only [Act.put, List.setIfInBounds_toArray, List.set_cons_zero, List.set_cons_succ, List.getElem_toArray, List.getElem_cons_succ, List.getElem_cons_zero]
        refine late_one (i := 2) (by kernel_rfl) rfl (fun K hK => ?_)
        rw [if_pos (by rfl)]
        try simp only [List.getElem_toArray, List.getElem_cons_succ, List.getElem_cons_zero]
        go_simp
        refine (HQF.out _ hz).mono ?_
        rintro e y1 ⟨rfl, h1⟩
        refine hK.out _ _ h1.row ?_
        clear hK K
        try simp only [Act.put, List.setIfInBounds_toArray, List.set_cons_zero, List.set_cons_succ, List.getElem_toArray, List.getElem_cons_succ, List.getElem_cons_zero]
        refine late_one (i := 4) (by kernel_rfl) rfl (fun K hK => ?_)
        rw [if_pos (by rfl)]
        try simp only [List.getElem_toArray, List.getElem_cons_succ, List.getElem_cons_zero]
        go_simp
        refine (HRF.out _ h1).mono ?_
        rintro e y2 ⟨rfl, h2⟩
        refine hK.out _ _ h2.row ?_
        clear hK K
        try simp only [Act.put, List.setIfInBounds_toArray, List.set_cons_zero, List.set_cons_succ, List.getElem_toArray, List.getElem_cons_succ, List.getElem_cons_zero]
        refine late_take (i := 5) (v := .bool true) [6] rfl (by kernel_rfl) (by kernel_rfl) (by kernel_rfl) (by kernel_rfl) (by first | exact fun _ _ _ h => h | exact fun _ _ _ h => nomatch h.1) (Or.inl ⟨by rfl, fun w_ hw_ => by go_simp⟩) h2.row ?_
        try simp only [Act.put, List.setIfInBounds_toArray, List.set_cons_zero, List.set_cons_succ, List.getElem_toArray, List.getElem_cons_succ, List.getElem_cons_zero]
        refine late_last (by kernel_rfl) rfl (by kernel_rfl) (fun K hK => ?_)
        rw [if_pos (by rfl)]
        try simp only [List.getElem_toArray, List.getElem_cons_succ, List.getElem_cons_zero]
        go_simp
        refine hK.out _ _ ?_
        clear hK K
        try simp only [Act.put, List.setIfInBounds_toArray, List.set_cons_zero, List.set_cons_succ, List.getElem_toArray, List.getElem_cons_succ, List.getElem_cons_zero]
        have HT := Lib.hid (quiets h2 HTT.out)
        obtain ⟨A6, cap6, c6⟩ := h2.rcell
        have x1 := h2.row.cell 1
        have x2 := h2.row.cell 2
        simp only [tcell, List.getElem?_cons_zero, List.getElem?_cons_succ] at x1 x2
        have HW6 := Lib.hid (h2.weak)
        generalize nextS S1 = nx at HT
        generalize atS t.key S1 = av at HT
        clear h2
        go_wp2
        go_quiet ((first | (go_at_call 16; exact Calls.quiet_of (HT.out.1 _)) | (go_at_call 14; exact Calls.quiet_of (HT.out.2.1 _)) | (go_at_call 17; exact Calls.quiet_of_same (HT.out.2.2.1 _)) | (go_at_call 23; exact Calls.quiet_of_same (HT.out.2.2.2.1 _)) | (go_at_call 24; exact Calls.quiet_of_same (HT.out.2.2.2.2 _))))
        go_wp2
        go_roundw
        case rel => exact ⟨k + 1, S1, by go_num, by omega, HW6.out.quiet ((Chg.refl _ _).drewN _)⟩
        case measure => simp [intOf]; omega
      · have m0 : (kd == 0) = false := by simpa using n0
        by_cases n1 : kd = 1
        · subst n1
          clear n0 m0
          have HQF := Lib.hid (fun g w1 (h : J w q q r g t S S w1) => qcan H0.out HTT.out w1 h)
          have HRF := Lib.hid (fun g w1 (h : J w q q r g t (remS t.key S) S w1) => rcan H0.out HBR.out HSO.out w1 h)
          generalize hasS t.key S = sb at HQF HRF
          generalize remS t.key S = S1 at HQF HRF
          go_wp2_with (first | ((with_reducible show wpList _ _ _ (⟨some 68, .load _ _, _, _, _, _⟩ :: _) _ _); refine wpList_load_Mid (cs := tcell t) rfl rfl rfl HRT.out Try.underlying27 rfl sizeTm ?_) | ((with_reducible show wpList _ _ _ (⟨some 9, .alloc _, _, _, _, _⟩ :: _) _ _); refine wpList_alloc_Row rfl rfl (tcell zT) zeroTm ?_; intro w4 hr4 hc4 hs4; have HR4 := Lib.hid hr4; have HC4 := Lib.hid hc4; clear hr4 hc4 hs4) | ((with_reducible show wpList _ _ _ (⟨none, .store _ (.tmp 9) _, _, _, _, _⟩ :: _) _ _); refine wpList_store_Row (xs := tcell t) rfl rfl rfl HR4.out rfl rfl sizeTm rfl ?_; intro w5 hr5 hcs5 hs5; have HJ5 := Lib.hid (HJ.out.with (hcs5 none_ wr HC4.out (fun h => absurd h (Nat.lt_irrefl _))) (Nat.le_refl _) hr5); have a0 := (HKC.out w5 (hcs5 none_ wr HC4.out (fun h => absurd h (Nat.lt_irrefl _)))); clear hr5 hcs5 hs5))
          clear a0
          have HQF := Lib.hid (HQF.out wr.heap.size)
          have HRF := Lib.hid (HRF.out wr.heap.size)
          generalize wr.heap.size = g at *
          refine wp_region_late (fun x => Row x g 27 (tcell t)) 12 (by kernel_rfl) ?_
          have hz := HJ5.out.quiet ((Chg.refl none_ w5).drew)
          generalize w5.drew = wz at hz ⊢
          refine late_take (i := 0) (v := .pointer (some ⟨q, 0, none⟩)) [5, 11, 12] rfl (by kernel_rfl) (by kernel_rfl) (by kernel_rfl) (by kernel_rfl) (by first | exact fun _ _ _ h => h | exact fun _ _ _ h => nomatch h.1) (Or.inl ⟨by rfl, fun w_ hw_ => by go_simp⟩) hz.row ?_
          try simp only [Act.put, List.setIfInBounds_toArray, List.set_cons_zero, List.set_cons_succ, List.getElem_toArray, List.getElem_cons_zero]
          refine late_take (i := 1) (v := .pointer (some ⟨g, 1, none⟩)) [2, 5, 11, 12] rfl (by kernel_rfl) (by kernel_rfl) (by kernel_rfl) (by kernel_rfl) (by first | exact fun _ _ _ h => h | exact fun _ _ _ h => nomatch h.1) (Or.inl ⟨by rfl, fun w_ hw_ => by go_simp⟩) hz.row ?_
          try simp only [Act.put, List.setIfInBounds_toArray, List.set_cons_zero, List.set_cons_succ, List.getElem_toArray, List.getElem_cons_succ, List.getElem_cons_zero]
          refine late_take (i := 2) (v := .int .i64 t.conn) [5, 11, 12] rfl (by kernel_rfl) (by kernel_rfl) (by kernel_rfl) (by kernel_rfl) (by first | exact fun _ _ _ h => h | exact fun _ _ _ h => nomatch h.1) (Or.inl ⟨by rfl, fun w_ hw_ => by have xx_ := (show Row w_ g 27 (tcell t) from hw_).cell 1; simp only [tcell, List.getElem?_cons_zero, List.getElem?_cons_succ] at xx_; go_simp⟩) hz.row ?_
          try simp only [Act.put, List.setIfInBounds_toArray, List.set_cons_zero, List.set_cons_succ, List.getElem_toArray, List.getElem_cons_succ, List.getElem_cons_zero]
          refine late_take (i := 3) (v := .pointer (some ⟨g, 2, none⟩)) [4, 5, 11, 12] rfl (by kernel_rfl) (by kernel_rfl) (by kernel_rfl) (by kernel_rfl) (by first | exact fun _ _ _ h => h | exact fun _ _ _ h => nomatch h.1) (Or.inl ⟨by rfl, fun w_ hw_ => by go_simp⟩) hz.row ?_
          try simp only [Act.put, List.setIfInBounds_toArray, List.set_cons_zero, List.set_cons_succ, List.getElem_toArray, List.getElem_cons_succ, List.getElem_cons_zero]
          refine late_take (i := 4) (v := .int .i64 t.kind) [5, 11, 12] rfl (by kernel_rfl) (by kernel_rfl) (by kernel_rfl) (by kernel_rfl) (by first | exact fun _ _ _ h => h | exact fun _ _ _ h => nomatch h.1) (Or.inl ⟨by rfl, fun w_ hw_ => by have xx_ := (show Row w_ g 27 (tcell t) from hw_).cell 2; simp only [tcell, List.getElem?_cons_zero, List.getElem?_cons_succ] at xx_; go_simp⟩) hz.row ?_
          try simp only [Act.put, List.setIfInBounds_toArray, List.set_cons_zero, List.set_cons_succ, List.getElem_toArray, List.getElem_cons_succ, List.getElem_cons_zero]
          refine late_take (i := 6) (v := .pointer (some ⟨g, 1, none⟩)) [7, 10, 11, 12] rfl (by kernel_rfl) (by kernel_rfl) (by kernel_rfl) (by kernel_rfl) (by first | exact fun _ _ _ h => h | exact fun _ _ _ h => nomatch h.1) (Or.inl ⟨by rfl, fun w_ hw_ => by go_simp⟩) hz.row ?_
          try simp only [Act.put, List.setIfInBounds_toArray, List.set_cons_zero, List.set_cons_succ, List.getElem_toArray, List.getElem_cons_succ, List.getElem_cons_zero]
          refine late_take (i := 7) (v := .int .i64 t.conn) [10, 11, 12] rfl (by kernel_rfl) (by kernel_rfl) (by kernel_rfl) (by kernel_rfl) (by first | exact fun _ _ _ h => h | exact fun _ _ _ h => nomatch h.1) (Or.inl ⟨by rfl, fun w_ hw_ => by have xx_ := (show Row w_ g 27 (tcell t) from hw_).cell 1; simp only [tcell, List.getElem?_cons_zero, List.getElem?_cons_succ] at xx_; go_simp⟩) hz.row ?_
          try simp only [Act.put, List.setIfInBounds_toArray, List.set_cons_zero, List.set_cons_succ, List.getElem_toArray, List.getElem_cons_succ, List.getElem_cons_zero]
          refine late_take (i := 8) (v := .pointer (some ⟨g, 2, none⟩)) [9, 10, 11, 12] rfl (by kernel_rfl) (by kernel_rfl) (by kernel_rfl) (by kernel_rfl) (by first | exact fun _ _ _ h => h | exact fun _ _ _ h => nomatch h.1) (Or.inl ⟨by rfl, fun w_ hw_ => by go_simp⟩) hz.row ?_
          try simp only [Act.put, List.setIfInBounds_toArray, List.set_cons_zero, List.set_cons_succ, List.getElem_toArray, List.getElem_cons_succ, List.getElem_cons_zero]
          refine late_take (i := 9) (v := .int .i64 t.kind) [10, 11, 12] rfl (by kernel_rfl) (by kernel_rfl) (by kernel_rfl) (by kernel_rfl) (by first | exact fun _ _ _ h => h | exact fun _ _ _ h => nomatch h.1) (Or.inl ⟨by rfl, fun w_ hw_ => by have xx_ := (show Row w_ g 27 (tcell t) from hw_).cell 2; simp only [tcell, List.getElem?_cons_zero, List.getElem?_cons_succ] at xx_; go_simp⟩) hz.row ?_
          try simp only [Act.put, List.setIfInBounds_toArray, List.set_cons_zero, List.set_cons_succ, List.getElem_toArray, List.getElem_cons_succ, List.getElem_cons_zero]
          refine late_one (i := 5) (by kernel_rfl) rfl (fun K hK => ?_)
          rw [if_pos (by rfl)]
          try simp only [List.getElem_toArray, List.getElem_cons_succ, List.getElem_cons_zero]
          go_simp
          refine (HQF.out _ hz).mono ?_
          rintro e y1 ⟨rfl, h1⟩
          refine hK.out _ _ h1.row ?_
          clear hK K
          try simp only [Act.put, List.setIfInBounds_toArray, List.set_cons_zero, List.set_cons_succ, List.getElem_toArray, List.getElem_cons_succ, List.getElem_cons_zero]
          refine late_one (i := 10) (by kernel_rfl) rfl (fun K hK => ?_)
          rw [if_pos (by rfl)]
          try simp only [List.getElem_toArray, List.getElem_cons_succ, List.getElem_cons_zero]
          go_simp
          refine (HRF.out _ h1).mono ?_
          rintro e y2 ⟨rfl, h2⟩
          refine hK.out _ _ h2.row ?_
          clear hK K
          try simp only [Act.put, List.setIfInBounds_toArray, List.set_cons_zero, List.set_cons_succ, List.getElem_toArray, List.getElem_cons_succ, List.getElem_cons_zero]
          refine late_take (i := 11) (v := .bool true) [12] rfl (by kernel_rfl) (by kernel_rfl) (by kernel_rfl) (by kernel_rfl) (by first | exact fun _ _ _ h => h | exact fun _ _ _ h => nomatch h.1) (Or.inl ⟨by rfl, fun w_ hw_ => by go_simp⟩) h2.row ?_
          try simp only [Act.put, List.setIfInBounds_toArray, List.set_cons_zero, List.set_cons_succ, List.getElem_toArray, List.getElem_cons_succ, List.getElem_cons_zero]
          refine late_last (by kernel_rfl) rfl (by kernel_rfl) (fun K hK => ?_)
          rw [if_pos (by rfl)]
          try simp only [List.getElem_toArray, List.getElem_cons_succ, List.getElem_cons_zero]
          go_simp
          refine hK.out _ _ ?_
          clear hK K
          try simp only [Act.put, List.setIfInBounds_toArray, List.set_cons_zero, List.set_cons_succ, List.getElem_toArray, List.getElem_cons_succ, List.getElem_cons_zero]
          have HT := Lib.hid (quiets h2 HTT.out)
          obtain ⟨A6, cap6, c6⟩ := h2.rcell
          have x1 := h2.row.cell 1
          have x2 := h2.row.cell 2
          simp only [tcell, List.getElem?_cons_zero, List.getElem?_cons_succ] at x1 x2
          have HW6 := Lib.hid (h2.weak)
          generalize nextS S1 = nx at HT
          generalize atS t.key S1 = av at HT
          clear h2
          go_wp2
          go_quiet ((first | (go_at_call 16; exact Calls.quiet_of (HT.out.1 _)) | (go_at_call 14; exact Calls.quiet_of (HT.out.2.1 _)) | (go_at_call 17; exact Calls.quiet_of_same (HT.out.2.2.1 _)) | (go_at_call 23; exact Calls.quiet_of_same (HT.out.2.2.2.1 _)) | (go_at_call 24; exact Calls.quiet_of_same (HT.out.2.2.2.2 _))))
          go_wp2
          go_roundw
          case rel => exact ⟨k + 1, S1, by go_num, by omega, HW6.out.quiet ((Chg.refl _ _).drewN _)⟩
          case measure => simp [intOf]; omega
        · have m1 : (kd == 1) = false := by simpa using n1
          by_cases n2 : kd = 2
          · subst n2
            clear n0 n1 m0 m1
            have HQF := Lib.hid (fun g w1 (h : J w q q r g t S S w1) => qdrop H0.out HTT.out w1 h)
            have HRF := Lib.hid (fun g w1 (h : J w q q r g t (dropS t.conn S) S w1) => rdrop H0.out HBR.out HSO.out w1 h)
            generalize (S.length : Int) - ((dropS t.conn S).length : Int) = sn at HQF HRF
            generalize dropS t.conn S = S1 at HQF HRF
            go_wp2_with (first | ((with_reducible show wpList _ _ _ (⟨some 68, .load _ _, _, _, _, _⟩ :: _) _ _); refine wpList_load_Mid (cs := tcell t) rfl rfl rfl HRT.out Try.underlying27 rfl sizeTm ?_) | ((with_reducible show wpList _ _ _ (⟨some 9, .alloc _, _, _, _, _⟩ :: _) _ _); refine wpList_alloc_Row rfl rfl (tcell zT) zeroTm ?_; intro w4 hr4 hc4 hs4; have HR4 := Lib.hid hr4; have HC4 := Lib.hid hc4; clear hr4 hc4 hs4) | ((with_reducible show wpList _ _ _ (⟨none, .store _ (.tmp 9) _, _, _, _, _⟩ :: _) _ _); refine wpList_store_Row (xs := tcell t) rfl rfl rfl HR4.out rfl rfl sizeTm rfl ?_; intro w5 hr5 hcs5 hs5; have HJ5 := Lib.hid (HJ.out.with (hcs5 none_ wr HC4.out (fun h => absurd h (Nat.lt_irrefl _))) (Nat.le_refl _) hr5); have a0 := (HKC.out w5 (hcs5 none_ wr HC4.out (fun h => absurd h (Nat.lt_irrefl _)))); clear hr5 hcs5 hs5))
            clear a0
            have HQF := Lib.hid (HQF.out wr.heap.size)
            have HRF := Lib.hid (HRF.out wr.heap.size)
            generalize wr.heap.size = g at *
            refine wp_region_late (fun x => Row x g 27 (tcell t)) 8 (by kernel_rfl) ?_
            have hz := HJ5.out.quiet ((Chg.refl none_ w5).drew)
            generalize w5.drew = wz at hz ⊢
            refine late_take (i := 0) (v := .pointer (some ⟨q, 0, none⟩)) [3, 7, 8] rfl (by kernel_rfl) (by kernel_rfl) (by kernel_rfl) (by kernel_rfl) (by first | exact fun _ _ _ h => h | exact fun _ _ _ h => nomatch h.1) (Or.inl ⟨by rfl, fun w_ hw_ => by go_simp⟩) hz.row ?_
            try simp only [Act.put, List.setIfInBounds_toArray, List.set_cons_zero, List.set_cons_succ, List.getElem_toArray, List.getElem_cons_zero]
            refine late_take (i := 1) (v := .pointer (some ⟨g, 1, none⟩)) [2, 3, 7, 8] rfl (by kernel_rfl) (by kernel_rfl) (by kernel_rfl) (by kernel_rfl) (by first | exact fun _ _ _ h => h | exact fun _ _ _ h => nomatch h.1) (Or.inl ⟨by rfl, fun w_ hw_ => by go_simp⟩) hz.row ?_
            try simp only [Act.put, List.setIfInBounds_toArray, List.set_cons_zero, List.set_cons_succ, List.getElem_toArray, List.getElem_cons_succ, List.getElem_cons_zero]
            refine late_take (i := 2) (v := .int .i64 t.conn) [3, 7, 8] rfl (by kernel_rfl) (by kernel_rfl) (by kernel_rfl) (by kernel_rfl) (by first | exact fun _ _ _ h => h | exact fun _ _ _ h => nomatch h.1) (Or.inl ⟨by rfl, fun w_ hw_ => by have xx_ := (show Row w_ g 27 (tcell t) from hw_).cell 1; simp only [tcell, List.getElem?_cons_zero, List.getElem?_cons_succ] at xx_; go_simp⟩) hz.row ?_
            try simp only [Act.put, List.setIfInBounds_toArray, List.set_cons_zero, List.set_cons_succ, List.getElem_toArray, List.getElem_cons_succ, List.getElem_cons_zero]
            refine late_take (i := 4) (v := .pointer (some ⟨g, 1, none⟩)) [5, 6, 7, 8] rfl (by kernel_rfl) (by kernel_rfl) (by kernel_rfl) (by kernel_rfl) (by first | exact fun _ _ _ h => h | exact fun _ _ _ h => nomatch h.1) (Or.inl ⟨by rfl, fun w_ hw_ => by go_simp⟩) hz.row ?_
            try simp only [Act.put, List.setIfInBounds_toArray, List.set_cons_zero, List.set_cons_succ, List.getElem_toArray, List.getElem_cons_succ, List.getElem_cons_zero]
            refine late_take (i := 5) (v := .int .i64 t.conn) [6, 7, 8] rfl (by kernel_rfl) (by kernel_rfl) (by kernel_rfl) (by kernel_rfl) (by first | exact fun _ _ _ h => h | exact fun _ _ _ h => nomatch h.1) (Or.inl ⟨by rfl, fun w_ hw_ => by have xx_ := (show Row w_ g 27 (tcell t) from hw_).cell 1; simp only [tcell, List.getElem?_cons_zero, List.getElem?_cons_succ] at xx_; go_simp⟩) hz.row ?_
            try simp only [Act.put, List.setIfInBounds_toArray, List.set_cons_zero, List.set_cons_succ, List.getElem_toArray, List.getElem_cons_succ, List.getElem_cons_zero]
            refine late_one (i := 3) (by kernel_rfl) rfl (fun K hK => ?_)
            rw [if_pos (by rfl)]
            try simp only [List.getElem_toArray, List.getElem_cons_succ, List.getElem_cons_zero]
            go_simp
            refine (HQF.out _ hz).mono ?_
            rintro e y1 ⟨rfl, h1⟩
            refine hK.out _ _ h1.row ?_
            clear hK K
            try simp only [Act.put, List.setIfInBounds_toArray, List.set_cons_zero, List.set_cons_succ, List.getElem_toArray, List.getElem_cons_succ, List.getElem_cons_zero]
            refine late_one (i := 6) (by kernel_rfl) rfl (fun K hK => ?_)
            rw [if_pos (by rfl)]
            try simp only [List.getElem_toArray, List.getElem_cons_succ, List.getElem_cons_zero]
            go_simp
            refine (HRF.out _ h1).mono ?_
            rintro e y2 ⟨rfl, h2⟩
            refine hK.out _ _ h2.row ?_
            clear hK K
            try simp only [Act.put, List.setIfInBounds_toArray, List.set_cons_zero, List.set_cons_succ, List.getElem_toArray, List.getElem_cons_succ, List.getElem_cons_zero]
            refine late_take (i := 7) (v := .bool true) [8] rfl (by kernel_rfl) (by kernel_rfl) (by kernel_rfl) (by kernel_rfl) (by first | exact fun _ _ _ h => h | exact fun _ _ _ h => nomatch h.1) (Or.inl ⟨by rfl, fun w_ hw_ => by go_simp⟩) h2.row ?_
            try simp only [Act.put, List.setIfInBounds_toArray, List.set_cons_zero, List.set_cons_succ, List.getElem_toArray, List.getElem_cons_succ, List.getElem_cons_zero]
            refine late_last (by kernel_rfl) rfl (by kernel_rfl) (fun K hK => ?_)
            rw [if_pos (by rfl)]
            try simp only [List.getElem_toArray, List.getElem_cons_succ, List.getElem_cons_zero]
            go_simp
            refine hK.out _ _ ?_
            clear hK K
            try simp only [Act.put, List.setIfInBounds_toArray, List.set_cons_zero, List.set_cons_succ, List.getElem_toArray, List.getElem_cons_succ, List.getElem_cons_zero]
            have HT := Lib.hid (quiets h2 HTT.out)
            obtain ⟨A6, cap6, c6⟩ := h2.rcell
            have x1 := h2.row.cell 1
            have x2 := h2.row.cell 2
            simp only [tcell, List.getElem?_cons_zero, List.getElem?_cons_succ] at x1 x2
            have HW6 := Lib.hid (h2.weak)
            generalize nextS S1 = nx at HT
            generalize atS t.key S1 = av at HT
            clear h2
            go_wp2
            go_quiet ((first | (go_at_call 16; exact Calls.quiet_of (HT.out.1 _)) | (go_at_call 14; exact Calls.quiet_of (HT.out.2.1 _)) | (go_at_call 17; exact Calls.quiet_of_same (HT.out.2.2.1 _)) | (go_at_call 23; exact Calls.quiet_of_same (HT.out.2.2.2.1 _)) | (go_at_call 24; exact Calls.quiet_of_same (HT.out.2.2.2.2 _))))
            go_wp2
            go_roundw
            case rel => exact ⟨k + 1, S1, by go_num, by omega, HW6.out.quiet ((Chg.refl _ _).drewN _)⟩
            case measure => simp [intOf]; omega
          · have m2 : (kd == 2) = false := by simpa using n2
            by_cases n3 : kd = 3
            · subst n3
              clear n0 n1 n2 m0 m1 m2
              have HQF := Lib.hid (fun g w1 (h : J w q q r g t S S w1) => qdue H0.out w1 h)
              have HRF := Lib.hid (fun g w1 (h : J w q q r g t ((dueS t.at_ S).elim S (·.2)) S w1) => rdue2 H0.out HBR.out w1 h)
              have hto : TOk ((dueS t.at_ S).elim zT (·.1)) := due_ok HSO2.out
              generalize (dueS t.at_ S).isSome = sb at HQF HRF
              generalize (dueS t.at_ S).elim S (·.2) = S1 at HQF HRF
              generalize (dueS t.at_ S).elim zT (·.1) = tt at HQF HRF hto
              have HEQ : Hid (∀ w, (Op.equalIn 10000 27 (.agg (tcell tt).toArray) (.agg (tcell tt).toArray)).run Try.prog w = .ok true w) := Lib.hid (fun w => by have := tm_eql tt tt hto hto w; rwa [decide_eq_true rfl] at this)
              clear hto
              go_wp2_with (first | ((with_reducible show wpList _ _ _ (⟨some 68, .load _ _, _, _, _, _⟩ :: _) _ _); refine wpList_load_Mid (cs := tcell t) rfl rfl rfl HRT.out Try.underlying27 rfl sizeTm ?_) | ((with_reducible show wpList _ _ _ (⟨some 9, .alloc _, _, _, _, _⟩ :: _) _ _); refine wpList_alloc_Row rfl rfl (tcell zT) zeroTm ?_; intro w4 hr4 hc4 hs4; have HR4 := Lib.hid hr4; have HC4 := Lib.hid hc4; clear hr4 hc4 hs4) | ((with_reducible show wpList _ _ _ (⟨none, .store _ (.tmp 9) _, _, _, _, _⟩ :: _) _ _); refine wpList_store_Row (xs := tcell t) rfl rfl rfl HR4.out rfl rfl sizeTm rfl ?_; intro w5 hr5 hcs5 hs5; have HJ5 := Lib.hid (HJ.out.with (hcs5 none_ wr HC4.out (fun h => absurd h (Nat.lt_irrefl _))) (Nat.le_refl _) hr5); have a0 := (HKC.out w5 (hcs5 none_ wr HC4.out (fun h => absurd h (Nat.lt_irrefl _)))); have y0 := HJ5.out.row.cell 0; simp only [tcell, List.getElem?_cons_zero] at y0; clear hr5 hcs5 hs5) | (go_at_call 10; refine (HQF.out _ _ HJ5.out).mono ?_; rintro e w6 ⟨rfl, h6⟩; have HJ6 := Lib.hid h6; clear h6 a0 y0) | ((with_reducible show wpList _ _ _ (⟨some 11, .alloc _, _, _, _, _⟩ :: _) _ _); refine wpList_alloc_Row rfl rfl (tcell zT) zeroTm ?_; intro w7 hr7 hc7 hs7; have HR7 := Lib.hid hr7; have HC7 := Lib.hid hc7; clear hr7 hc7 hs7) | ((with_reducible show wpList _ _ _ (⟨none, .store _ (.tmp 11) _, _, _, _, _⟩ :: _) _ _); refine wpList_store_Row (xs := tcell tt) rfl rfl rfl HR7.out rfl rfl sizeTm rfl ?_; intro w8 hr8 hcs8 hs8; have HR8 := Lib.hid hr8; have HJ8 := Lib.hid (HJ6.out.quiet (hcs8 none_ w6 HC7.out (fun h => absurd h (Nat.lt_irrefl _)))); have z0 := HJ8.out.row.cell 0; simp only [tcell, List.getElem?_cons_zero] at z0; have HL8 := Lib.hid HJ6.out.weak.lt; clear hr8 hcs8 hs8) | (go_at_call 22; refine (HRF.out _ _ HJ8.out).mono ?_; rintro e w9 ⟨rfl, h9, hc9⟩; have HJ9 := Lib.hid h9; have HR9 := Lib.hid (HR8.out.chg hc9 (fun (e : w6.heap.size = r) => by have := HL8.out; omega)); clear h9 hc9 z0) | ((with_reducible show wpList _ _ _ (⟨some 13, .alloc _, _, _, _, _⟩ :: _) _ _); refine wpList_alloc_Row rfl rfl (tcell zT) zeroTm ?_; intro wA hrA hcA hsA; have HRA := Lib.hid hrA; have HCA := Lib.hid hcA; have HRB := Lib.hid (HR9.out.chg hcA (fun h => h)); clear hrA hcA hsA) | ((with_reducible show wpList _ _ _ (⟨none, .store _ (.tmp 13) _, _, _, _, _⟩ :: _) _ _); refine wpList_store_Row (xs := tcell tt) rfl rfl rfl HRA.out rfl rfl sizeTm rfl ?_; intro wB hrB hcsB hsB; have HRC := Lib.hid hrB; have HRD := Lib.hid (HRB.out.chg (hcsB (· = w9.heap.size) wA (Chg.refl _ _) (fun _ => rfl)) (fun (e : w6.heap.size = w9.heap.size) => by have := HR9.out.lt; omega)); have HJB := Lib.hid (HJ9.out.quiet (hcsB none_ w9 HCA.out (fun h => absurd h (Nat.lt_irrefl _)))); clear hrB hcsB hsB) | ((with_reducible show wpList _ _ _ (⟨some 121, .load _ _, _, _, _, _⟩ :: _) _ _); refine wpList_load_Row (cs := tcell tt) rfl rfl rfl HRD.out Try.underlying27 rfl sizeTm ?_) | ((with_reducible show wpList _ _ _ (⟨some 122, .load _ _, _, _, _, _⟩ :: _) _ _); refine wpList_load_Row (cs := tcell tt) rfl rfl rfl HRC.out Try.underlying27 rfl sizeTm ?_) | ((with_reducible show wpList _ _ _ (⟨some 123, _, _, _, _, _⟩ :: _) _ _); refine wpList_eqlT rfl _ _ rfl (tcell tt).toArray rfl rfl (fun w => HEQ.out w) ?_))
              have h2 := HJB.out
              have HT := Lib.hid (quiets h2 HTT.out)
              obtain ⟨A6, cap6, c6⟩ := h2.rcell
              have x1 := h2.row.cell 1
              have x2 := h2.row.cell 2
              simp only [tcell, List.getElem?_cons_zero, List.getElem?_cons_succ] at x1 x2
              have HW6 := Lib.hid (h2.weak)
              generalize nextS S1 = nx at HT
              generalize atS t.key S1 = av at HT
              clear h2
              go_wp2
              go_quiet ((first | (go_at_call 16; exact Calls.quiet_of (HT.out.1 _)) | (go_at_call 14; exact Calls.quiet_of (HT.out.2.1 _)) | (go_at_call 17; exact Calls.quiet_of_same (HT.out.2.2.1 _)) | (go_at_call 23; exact Calls.quiet_of_same (HT.out.2.2.2.1 _)) | (go_at_call 24; exact Calls.quiet_of_same (HT.out.2.2.2.2 _))))
              go_wp2
              go_roundw
              case rel => exact ⟨k + 1, S1, by go_num, by omega, HW6.out.quiet ((Chg.refl _ _).drewN _)⟩
              case measure => simp [intOf]; omega
            · have m3 : (kd == 3) = false := by simpa using n3
              clear n0 n1 n2 n3
              go_wp2_with (first | ((with_reducible show wpList _ _ _ (⟨some 68, .load _ _, _, _, _, _⟩ :: _) _ _); refine wpList_load_Mid (cs := tcell t) rfl rfl rfl HRT.out Try.underlying27 rfl sizeTm ?_) | ((with_reducible show wpList _ _ _ (⟨some 9, .alloc _, _, _, _, _⟩ :: _) _ _); refine wpList_alloc_Row rfl rfl (tcell zT) zeroTm ?_; intro w4 hr4 hc4 hs4; have HR4 := Lib.hid hr4; have HC4 := Lib.hid hc4; clear hr4 hc4 hs4) | ((with_reducible show wpList _ _ _ (⟨none, .store _ (.tmp 9) _, _, _, _, _⟩ :: _) _ _); refine wpList_store_Row (xs := tcell t) rfl rfl rfl HR4.out rfl rfl sizeTm rfl ?_; intro w5 hr5 hcs5 hs5; have HJ5 := Lib.hid (HJ.out.with (hcs5 none_ wr HC4.out (fun h => absurd h (Nat.lt_irrefl _))) (Nat.le_refl _) hr5); have a0 := (HKC.out w5 (hcs5 none_ wr HC4.out (fun h => absurd h (Nat.lt_irrefl _)))); clear hr5 hcs5 hs5))
              clear a0
              have h2 := HJ5.out
              have HT := Lib.hid (quiets h2 HTT.out)
              obtain ⟨A6, cap6, c6⟩ := h2.rcell
              have x1 := h2.row.cell 1
              have x2 := h2.row.cell 2
              simp only [tcell, List.getElem?_cons_zero, List.getElem?_cons_succ] at x1 x2
              have HW6 := Lib.hid (h2.weak)
              generalize nextS S = nx at HT
              generalize atS t.key S = av at HT
              clear h2
              go_wp2
              go_quiet ((first | (go_at_call 16; exact Calls.quiet_of (HT.out.1 _)) | (go_at_call 14; exact Calls.quiet_of (HT.out.2.1 _)) | (go_at_call 17; exact Calls.quiet_of_same (HT.out.2.2.1 _)) | (go_at_call 23; exact Calls.quiet_of_same (HT.out.2.2.2.1 _)) | (go_at_call 24; exact Calls.quiet_of_same (HT.out.2.2.2.2 _))))
              go_wp2
              go_roundw
              case rel => exact ⟨k + 1, S, by go_num, by omega, HW6.out.quiet ((Chg.refl _ _).drewN _)⟩
              case measure => simp [intOf]; omega
    · have hke : k = l.length := by omega
      subst hke
      have n9 : ¬ ((l.length : Nat) : Int) < (l.length : Int) := by omega
      clear hlt hk hj
      obtain ⟨mp, hq6, ⟨A6, cap6, hr6, _, _, hv6⟩, _, _, hc6⟩ := HJ.out
      have c6 : wr.cell? ⟨r, 0, none⟩ = some (.slice A6 S.length cap6) := hr6.cell 0
      have HRL := Lib.hid hr6.lt
      have HQ6 := Lib.hid hq6
      have HV6 := Lib.hid hv6
      have HC6 := Lib.hid hc6
      have HSM : Hid (∀ w1 A1 c1 A2 c2 T1 T2, View w1 T1 A1 (S.length * 3) (tcells S) → View w1 T2 A2 (S.length * 3) (tcells S) → Calls Try.prog 25 #[.slice A1 S.length c1, .slice A2 S.length c2] w1 fun e w' => e = .returned (.bool true) ∧ Chg none_ w1 w') := Lib.hid (fun w1 A1 c1 A2 c2 T1 T2 h1 h2 => by
        have := Same_any S S A1 A2 c1 c2 T1 T2 w1 h1 h2 (Nat.le_trans HJ.out.ok.1.1 (by decide)) HJ.out.ok.2 HJ.out.ok.2
        rwa [decide_eq_true rfl] at this)
      clear HV HO hq6 hr6 hv6 hc6 HJ
      go_wp2
      refine wp_region_late (fun x => Chg none_ wr x) 5 (by kernel_rfl) ?_
      have hz : Chg none_ wr wr.drew := (Chg.refl none_ wr).drew
      generalize wr.drew = wz at hz ⊢
      refine late_take (i := 0) (v := .pointer (some ⟨q, 0, none⟩)) [1, 4, 5] rfl (by kernel_rfl) (by kernel_rfl) (by kernel_rfl) (by kernel_rfl) (by first | exact fun _ _ _ h => h | exact fun _ _ _ h => nomatch h.1) (Or.inl ⟨by rfl, fun w_ hw_ => by go_simp⟩) hz ?_
      try simp only [Act.put, List.setIfInBounds_toArray, List.set_cons_zero, List.set_cons_succ, List.getElem_toArray, List.getElem_cons_zero]
      refine late_take (i := 2) (v := .pointer (some ⟨r, 0, none⟩)) [3, 4, 5] rfl (by kernel_rfl) (by kernel_rfl) (by kernel_rfl) (by kernel_rfl) (by first | exact fun _ _ _ h => h | exact fun _ _ _ h => nomatch h.1) (Or.inl ⟨by rfl, fun w_ hw_ => by go_simp⟩) hz ?_
      try simp only [Act.put, List.setIfInBounds_toArray, List.set_cons_zero, List.set_cons_succ, List.getElem_toArray, List.getElem_cons_succ, List.getElem_cons_zero]
      refine late_take (i := 3) (v := .slice A6 S.length cap6) [4, 5] rfl (by kernel_rfl) (by kernel_rfl) (by kernel_rfl) (by kernel_rfl) (by first | exact fun _ _ _ h => h | exact fun _ _ _ h => nomatch h.1) (Or.inl ⟨by rfl, fun w_ hw_ => by have c0_ := (Chg.cell hw_ 0 HRL.out (fun h => h)).trans c6; go_simp⟩) hz ?_
      try simp only [Act.put, List.setIfInBounds_toArray, List.set_cons_zero, List.set_cons_succ, List.getElem_toArray, List.getElem_cons_succ, List.getElem_cons_zero]
      refine late_one (i := 1) (by kernel_rfl) rfl (fun K hK => ?_)
      rw [if_pos (by rfl)]
      try simp only [List.getElem_toArray, List.getElem_cons_succ, List.getElem_cons_zero]
      go_simp
      refine (List_any q mp S _ (HQ6.out.quiet hz)).mono ?_
      rintro e y1 ⟨v1, rfl, ho1, hc1⟩
      obtain ⟨A7, cap7, rfl, _, _, hv7⟩ := ho1.view
      have hy1 : Chg none_ wr y1 := hz.trans hc1
      refine hK.out _ _ hy1 ?_
      clear hK K
      try simp only [Act.put, List.setIfInBounds_toArray, List.set_cons_zero, List.set_cons_succ, List.getElem_toArray, List.getElem_cons_succ, List.getElem_cons_zero]
      refine late_one (i := 4) (by kernel_rfl) rfl (fun K hK => ?_)
      rw [if_pos (by rfl)]
      try simp only [List.getElem_toArray, List.getElem_cons_succ, List.getElem_cons_zero]
      go_simp
      refine (HSM.out _ _ _ _ _ _ _ hv7 (HV6.out.chg hy1 (fun _ _ h => h))).mono ?_
      rintro e y2 ⟨rfl, hc2⟩
      have hy2 : Chg none_ wr y2 := hy1.trans hc2
      refine hK.out _ _ hy2 ?_
      clear hK K
      try simp only [Act.put, List.setIfInBounds_toArray, List.set_cons_zero, List.set_cons_succ, List.getElem_toArray, List.getElem_cons_succ, List.getElem_cons_zero]
      refine late_last (by kernel_rfl) rfl (by kernel_rfl) (fun K hK => ?_)
      rw [if_pos (by rfl)]
      try simp only [List.getElem_toArray, List.getElem_cons_succ, List.getElem_cons_zero]
      go_simp
      refine hK.out _ _ ?_
      clear hK K
      try simp only [Act.put, List.setIfInBounds_toArray, List.set_cons_zero, List.set_cons_succ, List.getElem_toArray, List.getElem_cons_succ, List.getElem_cons_zero]
      go_wp2
      go_ret
      exact ⟨rfl, HC6.out.trans hy2⟩
end Go.Proofs.Ytblpgpolhibfgaa
