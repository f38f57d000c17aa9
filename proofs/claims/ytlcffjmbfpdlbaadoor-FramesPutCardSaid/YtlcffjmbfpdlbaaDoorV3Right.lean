/- Layer 3 (frames): Right. -/
import Derived.Test.YtlcffjmbfpdlbaaDoorV3Has
namespace Go.Proofs.YtlcffjmbfpdlbaaDoor
open Go.RowKit

/-- The key of a kind. -/
def keyM (k : Int) : Nat := (k % 18446744073709551616).toNat
theorem keyM_wrap (k : Int) : IntKind.u64.wrap k = (keyM k : Int) := by
  unfold keyM
  rw [Int.toNat_of_nonneg (Int.emod_nonneg _ (by decide))]
  rfl
theorem keyM_small (k : Int) (h0 : -9223372036854775808 ≤ k) (h1 : k < 9223372036854775808) (h : keyM k ≤ 30) : 0 ≤ k ∧ k < 64 ∧ keyM k = k.toNat := by
  unfold keyM at *; omega
theorem keyM_lt (k : Int) : keyM k < 18446744073709551616 := by unfold keyM; omega

/-- Is a frame right? -/
def rightB (f : Fr) : Bool := match kdM (keyM f.kind) with | none => false | some d => hasB d f

theorem size47 : (Tryd.prog.info? 41).map (·.size) = some 3 := by kernel_rfl
section
variable {P : Program} {o : Oper} {a : Act} {w : World} {K : Act → World → Prop} {Q : Exit → Act → World → Prop}
/-- A whole struct is stored into a row, at the operation. -/
theorem wp_store_Row {ty : TypeId} {x y : Operand} (ho : o.op = .store ty x y) {g : Nat} {e : TypeId} {cs xs : List Value} (hx : a.eval x = .pointer (some ⟨g, 0, none⟩)) (h : Row w g e cs)
    (hy : a.eval y = .agg xs.toArray) (hl : xs.length = cs.length) (hi : (P.info? ty).map (·.size) = some xs.length) (h1 : xs.all (·.oneCell') = true)
    (k : ∀ w', Row w' g e xs → (∀ S w0, Chg S w0 w → (g < w0.heap.size → S g) → Chg S w0 w') → K (a.put o.dst undef) w') : o.wp P a w K Q :=
  wp_store_mid ty x y ho g 0 xs.toArray hx hy (h.there 0 _ (by simp; omega)) (by simpa using hi) (by simpa using h1)
    (k _ (by simpa using h.store xs hl) (fun S w0 hc hg => by simpa using hc.setCells xs 0 hg))
/-- 'k, known := all[t]'. -/
theorem wp_look_kind {m kx : Operand} {t : TypeId} (ho : o.op = .lookup t m kx true) {v mv kv : Value} (hm : a.eval m = mv) (hkx : a.eval kx = kv) (hr : (Instr.lookup t mv kv true).run P w = .ok v w) (h : K (a.put o.dst v) w) : o.wp P a w K Q := by
  unfold Oper.wp execOp
  simp only [ho, hm, hkx, hr, Sem.run_bind, Sem.run_pure, Result.andThen_ok]
  exact h
end
theorem KindsAt.lift {w : World} {T T' : Nat → Prop} {g : Nat} (h : KindsAt w T g) (_ : Nat) (hs : ∀ b, b < w.heap.size → T b → T' b) : KindsAt w T' g := by
  obtain ⟨es, h1, h2⟩ := h; exact ⟨es, h1, h2.mono hs⟩
theorem PFIs.cell {w : World} {T : Nat → Prop} {p : PF} {v : Value} (h : PFIs w T p v) : v.oneCell' = true := by
  cases p
  case list l => obtain ⟨g, A, c, _, _, _, rfl⟩ := h; rfl
  all_goals (obtain rfl := h; rfl)
theorem len3 : ∀ {l : List Value}, l.length = 3 → ∃ x y z, l = [x, y, z]
  | [x, y, z], _ => ⟨x, y, z, rfl⟩
/-- A kind is looked up. -/
theorem look_kind {w : World} {T : Nat → Prop} {g : Nat} (h : KindsAt w T g) (k : Nat) :
    ∃ kc : List Value, (Instr.lookup 43 (.map (some g)) (.int .u64 k) true).run Tryd.prog w = .ok (.tuple #[.agg kc.toArray, .bool (kdM k).isSome]) w ∧ kc.length = 3 ∧ kc.all (·.oneCell') = true ∧ ∀ d, kdM k = some d → KindIs w T d kc := by
  obtain ⟨es, hm, hl⟩ := h
  have hz : (zeroValue 41).run Tryd.prog w = .ok (.agg [Value.bool false, .nilFunc, .nilFunc].toArray) w := by rfl
  have hr := run_lookup_ok (P := Tryd.prog) Tryd.underlying43 Tryd.underlying22 hm k hz
  rcases hl.look k with ⟨h1, h2⟩ | ⟨d, kc, h1, h2, h3⟩
  · rw [h1] at hr
    have hn : kdM k = none := by unfold kdM; rw [h2]; rfl
    refine ⟨[Value.bool false, .nilFunc, .nilFunc], ?_, rfl, rfl, fun d hd => by rw [hn] at hd; cases hd⟩
    rw [hn]; exact hr
  · rw [h1] at hr
    have hn : kdM k = some d := by unfold kdM; rw [h2]; rfl
    have h3' := h3
    obtain ⟨pv, hp, hkc⟩ := h3
    refine ⟨kc, by rw [hn]; exact hr, by rw [hkc]; rfl, ?_, fun d' hd => ?_⟩
    · rw [hkc]
      have := hp.cell
      have h4 : (fitsV d.fits).oneCell' = true := by cases d.fits <;> rfl
      simp [Value.oneCell'] at this ⊢
      exact ⟨by simpa [Value.oneCell'] using hp.cell, by simpa [Value.oneCell'] using h4⟩
    · rw [hn] at hd; injection hd with hd; subst hd; exact h3'

set_option maxRecDepth 100000 in
set_option maxHeartbeats 2000000 in
theorem Right_any (f : Fr) (sd sr : Value) (w : World) (T : Nat → Prop) (hf : FrD w T f sd sr) (of : f.Ok) :
    Calls Tryd.prog 6 #[aggF f sd sr] w fun e w' => e = .returned (.bool (rightB f)) ∧ Chg none_ w w' := by
  have HFD := Lib.hid hf
  have HOF := Lib.hid of
  have HCV := Lib.hid (keyM_wrap f.kind)
  have c0 := cF_0 f sd sr
  have h24 := cF_len f sd sr hf.tok
  have HRB : Hid (rightB f = match kdM (keyM f.kind) with | none => false | some d => hasB d f) := rfl
  generalize rightB f = RB at *
  clear hf of
  unfold aggF
  generalize hcs : cellsF f sd sr = cs at *
  have HCS := Lib.hid hcs
  have H24 := Lib.hid h24
  have hRW := Row.new w 27 cs
  have hcW := (Chg.refl none_ w).alloc (.cells cs.toArray 27)
  clear hcs h24
  go_enter Tryd.func6, Tryd.ntmps6
  go_wp2
  generalize w.alloc (.cells cs.toArray 27) = W at *
  have HRW := Lib.hid hRW
  have HCW := Lib.hid hcW
  have hch0 : Chg none_ W W.drew := (Chg.refl none_ W).drew
  clear hRW hcW
  refine Code.wp_mono (Q := fun e a w' => e = .normal ∧ ∃ (g m : Nat) (u5 u10 : Value) (kc : List Value), a = ⟨#[.agg cs.toArray, .pointer (some ⟨w.heap.size, 0, none⟩), .bool false, .pointer (some ⟨g, 0, none⟩), .bool (kdM (keyM f.kind)).isSome, u5, .map (some m), .pointer (some ⟨w.heap.size, 0, none⟩), .int .i64 f.kind, .int .u64 (keyM f.kind), u10, .agg kc.toArray, .bool (kdM (keyM f.kind)).isSome, undef, undef, undef, undef, undef, undef], []⟩ ∧ kc.length = 3 ∧ (∀ d, kdM (keyM f.kind) = some d → KindIs w' (fun b => b ≠ g) d kc) ∧ Row w' g 41 kc ∧ Chg none_ W w') ?hq ?_
  case hq =>
    rintro e a w' ⟨rfl, g, m, u5, u10, kc, rfl, h3, hkd, hrg, hcw⟩
    have hkr := HRW.out.chg hcw (fun h => h)
    have HWW : Hid (Chg none_ w w') := HCW.out.trans hcw
    have HKR := Lib.hid hkr
    have HRG := Lib.hid hrg
    have h3x := h3
    cases hkk : kdM (keyM f.kind) with
    | none =>
      rw [hkk] at HRB
      simp only [Option.isSome_none]
      go_wp2
      go_ret
      exact ⟨ret_bool (by rw [HRB.out]), HWW.out⟩
    | some d =>
      rw [hkk] at HRB
      simp only [Option.isSome_some]
      have HKI := Lib.hid (hkd d hkk)
      have hsm := keyM_small f.kind HOF.out.k0 HOF.out.k1 (kdM_lt hkk)
      have HHAS : Hid (Calls Tryd.prog 16 #[.agg kc.toArray, .agg cs.toArray] w' fun e w'' => e = .returned (.bool (hasB d f)) ∧ Chg none_ w' w'') := by
        have := has_any d (kdM_good hkk) _ kc f sd sr w' T HKI.out (HFD.out.chg HWW.out (fun _ _ h => h)) HOF.out hsm.1 hsm.2.1
        unfold aggF at this
        rwa [HCS.out] at this
      clear hkd hkk hkr hrg hsm
      obtain ⟨x, y, z, rfl⟩ := len3 h3
      have k0 := HRG.out.cell 0
      have k1 := HRG.out.cell 1
      have k2 := HRG.out.cell 2
      simp at k0 k1 k2
      clear h3 h3x
      go_wp2_with (first | ((with_reducible show wpList _ _ _ (⟨_, .load 27 _, _, _, _, _⟩ :: _) _ _); refine wl27 rfl rfl rfl HKR.out H24.out ?_) | (go_at_call 16; refine Calls.mono HHAS.out ?_; rintro e w5 ⟨rfl, hc5⟩))
      go_ret
      exact ⟨ret_bool (by rw [HRB.out]), HWW.out.trans hc5⟩
  refine wp_region_held_drew (S := fun w' => Chg none_ W w') (by kernel_rfl) hch0 (fun _ => ?_)
  refine wpAnyH_take (i := 1) (v := .pointer (some ⟨w.heap.size, 0, none⟩)) rfl (by kernel_rfl) (by kernel_rfl) (by kernel_rfl) (fun _ _ _ h => nomatch h.1) (Or.inl ⟨by rfl, fun w' hw' => by go_simp⟩) hch0 ?_
  refine wpAnyH_take (i := 2) (v := .int .i64 f.kind) rfl (by kernel_rfl) (by kernel_rfl) (by kernel_rfl) (fun _ _ _ h => nomatch h.1) (Or.inl ⟨by rfl, fun w' hw' => by have hh := ((HRW.out.chg hw' (fun h => h)).cell 0).trans c0; go_simp⟩) hch0 ?_
  refine wpAnyH_take (i := 3) (v := .int .u64 (keyM f.kind)) rfl (by kernel_rfl) (by kernel_rfl) (by kernel_rfl) (fun _ _ _ h => nomatch h.1) (Or.inl ⟨by rfl, fun w' hw' => by have hcv := HCV.out; go_simp⟩) hch0 ?_
  refine wpAnyH_ready (rs := [0, 8]) (by kernel_rfl) (by simp) ?_
  refine AllReadyH.cons rfl (fun K hK => ?_) (AllReadyH.cons rfl (fun K hK => ?_) AllReadyH.nil)
  · rw [if_pos (by rfl)]
    try simp only [List.getElem_toArray, List.getElem_cons_succ, List.getElem_cons_zero]
    go_simp
    refine (kinds_any _).mono ?_
    rintro e w1 ⟨rfl, hks, hc1⟩
    have hch1 : Chg none_ W w1 := (hch0).trans hc1
    refine hK.out _ _ hch1 (fun _ => ?_)
    clear hK K
    try simp only [Act.put, List.setIfInBounds_toArray, List.set_cons_zero, List.set_cons_succ, List.getElem_toArray, List.getElem_cons_succ, List.getElem_cons_zero]
    refine wpAnyH_ready (rs := [4, 8]) (by kernel_rfl) (by simp) ?_
    refine AllReadyH.cons rfl (fun K hK => ?_) (AllReadyH.cons rfl (fun K hK => ?_) AllReadyH.nil)
    · obtain ⟨kc, hlk, h3, h1c, hkd⟩ := look_kind hks (keyM f.kind)
      rw [if_pos (by rfl)]
      try simp only [List.getElem_toArray, List.getElem_cons_succ, List.getElem_cons_zero]
      refine wp_look_kind rfl rfl rfl hlk ?_
      clear hlk
      refine hK.out _ _ hch1 (fun _ => ?_)
      clear hK K
      try simp only [Act.put, List.setIfInBounds_toArray, List.set_cons_zero, List.set_cons_succ]
      refine wpAnyH_take (i := 5) (v := .tuple #[.agg kc.toArray, .bool (kdM (keyM f.kind)).isSome]) rfl (by kernel_rfl) (by kernel_rfl) (by kernel_rfl) (fun _ _ _ h => nomatch h.1) (Or.inl ⟨by rfl, fun w' hw' => by go_simp⟩) hch1 ?_
      refine wpAnyH_take (i := 6) (v := .agg kc.toArray) rfl (by kernel_rfl) (by kernel_rfl) (by kernel_rfl) (fun _ _ _ h => nomatch h.1) (Or.inl ⟨by rfl, fun w' hw' => by go_simp⟩) hch1 ?_
      refine wpAnyH_take (i := 7) (v := .bool (kdM (keyM f.kind)).isSome) rfl (by kernel_rfl) (by kernel_rfl) (by kernel_rfl) (fun _ _ _ h => nomatch h.1) (Or.inl ⟨by rfl, fun w' hw' => by go_simp⟩) hch1 ?_
      try simp only [Act.put, List.setIfInBounds_toArray, List.set_cons_zero, List.set_cons_succ, List.getElem_toArray, List.getElem_cons_succ, List.getElem_cons_zero]
      refine wpAnyH_ready (rs := [8]) (by kernel_rfl) (by simp) ?_
      refine AllReadyH.cons rfl (fun K hK => ?_) AllReadyH.nil
      rw [if_pos (by rfl)]
      try simp only [List.getElem_toArray, List.getElem_cons_succ, List.getElem_cons_zero]
      go_simp
      have hch2 : Chg none_ W _ := (hch1).alloc (.cells [Value.bool false, .nilFunc, .nilFunc].toArray 41)
      refine hK.out _ _ hch2 (fun _ => ?_)
      clear hK K
      try simp only [Act.put, List.setIfInBounds_toArray, List.set_cons_zero, List.set_cons_succ, List.getElem_toArray, List.getElem_cons_succ, List.getElem_cons_zero]
      have hrow := Row.new w1 41 [Value.bool false, .nilFunc, .nilFunc]
      have hsz1 := hch1.size
      have hkd2 : ∀ d, kdM (keyM f.kind) = some d → KindIs (w1.alloc (.cells [Value.bool false, .nilFunc, .nilFunc].toArray 41)) (fun b => b ≠ w1.heap.size) d kc := fun d hd => ((hkd d hd).mono (fun b hb _ => by omega)).chg ((Chg.refl none_ w1).alloc _) (fun _ _ h => h)
      refine wpAnyH_ready (rs := [9]) (by kernel_rfl) (by simp) ?_
      refine AllReadyH.cons rfl (fun K hK => ?_) AllReadyH.nil
      rw [if_pos (by rfl)]
      try simp only [List.getElem_toArray, List.getElem_cons_succ, List.getElem_cons_zero]
      refine wp_store_Row rfl rfl hrow rfl h3 (by rw [h3]; exact size47) h1c ?_
      intro w9 hr9 hch9
      have hc9 := hch9 none_ W hch2 (fun h => absurd h (by omega))
      refine hK.out _ _ hc9 (fun _ => ?_)
      clear hK K
      try simp only [Act.put]
      refine wpAnyH_take (i := 10) (v := .bool (kdM (keyM f.kind)).isSome) rfl (by kernel_rfl) (by kernel_rfl) (by kernel_rfl) (fun _ _ _ h => nomatch h.1) (Or.inl ⟨by rfl, fun w' hw' => by go_simp⟩) hc9 ?_
      refine wpAnyH_done (by kernel_rfl) ?_ _
      try simp only [Act.put, List.setIfInBounds_toArray, List.set_cons_zero, List.set_cons_succ, List.getElem_toArray, List.getElem_cons_succ, List.getElem_cons_zero]
      refine ⟨by first | rfl | trivial, w1.heap.size, W.drew.heap.size, _, _, kc, rfl, h3, ?_, hr9, hc9⟩
      intro d hd
      exact (hkd2 d hd).chg (hch9 (· = _) _ (Chg.refl _ _) (fun _ => rfl)) (fun b hb e => hb e)
    · rw [if_pos (by rfl)]
      try simp only [List.getElem_toArray, List.getElem_cons_succ, List.getElem_cons_zero]
      go_simp
      have hch2 : Chg none_ W _ := (hch1).alloc (.cells [Value.bool false, .nilFunc, .nilFunc].toArray 41)
      refine hK.out _ _ hch2 (fun _ => ?_)
      clear hK K
      try simp only [Act.put, List.setIfInBounds_toArray, List.set_cons_zero, List.set_cons_succ, List.getElem_toArray, List.getElem_cons_succ, List.getElem_cons_zero]
      refine wpAnyH_ready (rs := [4]) (by kernel_rfl) (by simp) ?_
      refine AllReadyH.cons rfl (fun K hK => ?_) AllReadyH.nil
      have hks2 : KindsAt (w1.alloc (.cells [Value.bool false, .nilFunc, .nilFunc].toArray 41)) (fun b => b < w1.heap.size) W.drew.heap.size := (hks.lift w1.heap.size (fun b hb _ => hb)).chg ((Chg.refl none_ w1).alloc _) (fun h => h) (fun _ _ h => h)
      obtain ⟨kc, hlk, h3, h1c, hkd⟩ := look_kind hks2 (keyM f.kind)
      rw [if_pos (by rfl)]
      try simp only [List.getElem_toArray, List.getElem_cons_succ, List.getElem_cons_zero]
      refine wp_look_kind rfl rfl rfl hlk ?_
      clear hlk
      refine hK.out _ _ hch2 (fun _ => ?_)
      clear hK K
      try simp only [Act.put, List.setIfInBounds_toArray, List.set_cons_zero, List.set_cons_succ]
      refine wpAnyH_take (i := 5) (v := .tuple #[.agg kc.toArray, .bool (kdM (keyM f.kind)).isSome]) rfl (by kernel_rfl) (by kernel_rfl) (by kernel_rfl) (fun _ _ _ h => nomatch h.1) (Or.inl ⟨by rfl, fun w' hw' => by go_simp⟩) hch2 ?_
      refine wpAnyH_take (i := 6) (v := .agg kc.toArray) rfl (by kernel_rfl) (by kernel_rfl) (by kernel_rfl) (fun _ _ _ h => nomatch h.1) (Or.inl ⟨by rfl, fun w' hw' => by go_simp⟩) hch2 ?_
      refine wpAnyH_take (i := 7) (v := .bool (kdM (keyM f.kind)).isSome) rfl (by kernel_rfl) (by kernel_rfl) (by kernel_rfl) (fun _ _ _ h => nomatch h.1) (Or.inl ⟨by rfl, fun w' hw' => by go_simp⟩) hch2 ?_
      try simp only [Act.put, List.setIfInBounds_toArray, List.set_cons_zero, List.set_cons_succ, List.getElem_toArray, List.getElem_cons_succ, List.getElem_cons_zero]
      have hrow := Row.new w1 41 [Value.bool false, .nilFunc, .nilFunc]
      have hsz1 := hch1.size
      have hkd2 : ∀ d, kdM (keyM f.kind) = some d → KindIs (w1.alloc (.cells [Value.bool false, .nilFunc, .nilFunc].toArray 41)) (fun b => b ≠ w1.heap.size) d kc := fun d hd => (hkd d hd).mono (fun b hb h => by omega)
      refine wpAnyH_ready (rs := [9]) (by kernel_rfl) (by simp) ?_
      refine AllReadyH.cons rfl (fun K hK => ?_) AllReadyH.nil
      rw [if_pos (by rfl)]
      try simp only [List.getElem_toArray, List.getElem_cons_succ, List.getElem_cons_zero]
      refine wp_store_Row rfl rfl hrow rfl h3 (by rw [h3]; exact size47) h1c ?_
      intro w9 hr9 hch9
      have hc9 := hch9 none_ W hch2 (fun h => absurd h (by omega))
      refine hK.out _ _ hc9 (fun _ => ?_)
      clear hK K
      try simp only [Act.put]
      refine wpAnyH_take (i := 10) (v := .bool (kdM (keyM f.kind)).isSome) rfl (by kernel_rfl) (by kernel_rfl) (by kernel_rfl) (fun _ _ _ h => nomatch h.1) (Or.inl ⟨by rfl, fun w' hw' => by go_simp⟩) hc9 ?_
      refine wpAnyH_done (by kernel_rfl) ?_ _
      try simp only [Act.put, List.setIfInBounds_toArray, List.set_cons_zero, List.set_cons_succ, List.getElem_toArray, List.getElem_cons_succ, List.getElem_cons_zero]
      refine ⟨by first | rfl | trivial, w1.heap.size, W.drew.heap.size, _, _, kc, rfl, h3, ?_, hr9, hc9⟩
      intro d hd
      exact (hkd2 d hd).chg (hch9 (· = _) _ (Chg.refl _ _) (fun _ => rfl)) (fun b hb e => hb e)
  · rw [if_pos (by rfl)]
    try simp only [List.getElem_toArray, List.getElem_cons_succ, List.getElem_cons_zero]
    go_simp
    have hch2 : Chg none_ W _ := (hch0).alloc (.cells [Value.bool false, .nilFunc, .nilFunc].toArray 41)
    refine hK.out _ _ hch2 (fun _ => ?_)
    clear hK K
    try simp only [Act.put, List.setIfInBounds_toArray, List.set_cons_zero, List.set_cons_succ, List.getElem_toArray, List.getElem_cons_succ, List.getElem_cons_zero]
    refine wpAnyH_ready (rs := [0]) (by kernel_rfl) (by simp) ?_
    refine AllReadyH.cons rfl (fun K hK => ?_) AllReadyH.nil
    rw [if_pos (by rfl)]
    try simp only [List.getElem_toArray, List.getElem_cons_zero]
    go_simp
    refine (kinds_any _).mono ?_
    rintro e w1 ⟨rfl, hks, hc1⟩
    have hch1 : Chg none_ W w1 := (hch2).trans hc1
    refine hK.out _ _ hch1 (fun _ => ?_)
    clear hK K
    try simp only [Act.put, List.setIfInBounds_toArray, List.set_cons_zero, List.set_cons_succ, List.getElem_toArray, List.getElem_cons_succ, List.getElem_cons_zero]
    refine wpAnyH_ready (rs := [4]) (by kernel_rfl) (by simp) ?_
    refine AllReadyH.cons rfl (fun K hK => ?_) AllReadyH.nil
    obtain ⟨kc, hlk, h3, h1c, hkd⟩ := look_kind hks (keyM f.kind)
    rw [if_pos (by rfl)]
    try simp only [List.getElem_toArray, List.getElem_cons_succ, List.getElem_cons_zero]
    refine wp_look_kind rfl rfl rfl hlk ?_
    clear hlk
    refine hK.out _ _ hch1 (fun _ => ?_)
    clear hK K
    try simp only [Act.put, List.setIfInBounds_toArray, List.set_cons_zero, List.set_cons_succ]
    refine wpAnyH_take (i := 5) (v := .tuple #[.agg kc.toArray, .bool (kdM (keyM f.kind)).isSome]) rfl (by kernel_rfl) (by kernel_rfl) (by kernel_rfl) (fun _ _ _ h => nomatch h.1) (Or.inl ⟨by rfl, fun w' hw' => by go_simp⟩) hch1 ?_
    refine wpAnyH_take (i := 6) (v := .agg kc.toArray) rfl (by kernel_rfl) (by kernel_rfl) (by kernel_rfl) (fun _ _ _ h => nomatch h.1) (Or.inl ⟨by rfl, fun w' hw' => by go_simp⟩) hch1 ?_
    refine wpAnyH_take (i := 7) (v := .bool (kdM (keyM f.kind)).isSome) rfl (by kernel_rfl) (by kernel_rfl) (by kernel_rfl) (fun _ _ _ h => nomatch h.1) (Or.inl ⟨by rfl, fun w' hw' => by go_simp⟩) hch1 ?_
    try simp only [Act.put, List.setIfInBounds_toArray, List.set_cons_zero, List.set_cons_succ, List.getElem_toArray, List.getElem_cons_succ, List.getElem_cons_zero]
    have hrow := (Row.new W.drew 41 [Value.bool false, .nilFunc, .nilFunc]).chg hc1 (fun h => h)
    have hsz1 : W.heap.size ≤ W.drew.heap.size := Nat.le_refl _
    have hkd2 : ∀ d, kdM (keyM f.kind) = some d → KindIs w1 (fun b => b ≠ W.drew.heap.size) d kc := fun d hd => (hkd d hd).mono (fun b _ h => by simp at h; show b ≠ W.heap.size; omega)
    refine wpAnyH_ready (rs := [9]) (by kernel_rfl) (by simp) ?_
    refine AllReadyH.cons rfl (fun K hK => ?_) AllReadyH.nil
    rw [if_pos (by rfl)]
    try simp only [List.getElem_toArray, List.getElem_cons_succ, List.getElem_cons_zero]
    refine wp_store_Row rfl rfl hrow rfl h3 (by rw [h3]; exact size47) h1c ?_
    intro w9 hr9 hch9
    have hc9 := hch9 none_ W hch1 (fun h => absurd h (by omega))
    refine hK.out _ _ hc9 (fun _ => ?_)
    clear hK K
    try simp only [Act.put]
    refine wpAnyH_take (i := 10) (v := .bool (kdM (keyM f.kind)).isSome) rfl (by kernel_rfl) (by kernel_rfl) (by kernel_rfl) (fun _ _ _ h => nomatch h.1) (Or.inl ⟨by rfl, fun w' hw' => by go_simp⟩) hc9 ?_
    refine wpAnyH_done (by kernel_rfl) ?_ _
    try simp only [Act.put, List.setIfInBounds_toArray, List.set_cons_zero, List.set_cons_succ, List.getElem_toArray, List.getElem_cons_succ, List.getElem_cons_zero]
    refine ⟨by first | rfl | trivial, W.drew.heap.size, _, _, _, kc, rfl, h3, ?_, hr9, hc9⟩
    intro d hd
    exact (hkd2 d hd).chg (hch9 (· = _) _ (Chg.refl _ _) (fun _ => rfl)) (fun b hb e => hb e)
end Go.Proofs.YtlcffjmbfpdlbaaDoor
