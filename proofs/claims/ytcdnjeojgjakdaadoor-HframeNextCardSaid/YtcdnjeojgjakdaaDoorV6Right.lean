/- Layer 6 (hframe): Right. -/
import Derived.Test.YtcdnjeojgjakdaaDoorV6Own
import Derived.Deep.RegionHeld3
namespace Go.Proofs.YtcdnjeojgjakdaaDoor
open Go.RowKit

section
variable {P : Program} {o : Oper} {a : Act} {w : World} {K : Act → World → Prop} {Q : Exit → Act → World → Prop}
/-- A whole struct is stored into a row, at the operation. -/
theorem wp_store_Row {ty : TypeId} {x y : Operand} (ho : o.op = .store ty x y) {g : Nat} {e : TypeId} {cs xs : List Value} (hx : a.eval x = .pointer (some ⟨g, 0, none⟩)) (h : Row w g e cs)
    (hy : a.eval y = .agg xs.toArray) (hl : xs.length = cs.length) (hi : (P.info? ty).map (·.size) = some xs.length) (h1 : xs.all (·.oneCell') = true)
    (k : ∀ w', Row w' g e xs → (∀ S w0, Chg S w0 w → (g < w0.heap.size → S g) → Chg S w0 w') → K (a.put o.dst undef) w') : o.wp P a w K Q :=
  wp_store_mid ty x y ho g 0 xs.toArray hx hy (h.there 0 _ (by simp; omega)) (by simpa using hi) (by simpa using h1)
    (k _ (by simpa using h.store xs hl) (fun S w0 hc hg => by simpa using hc.setCells xs 0 hg))
/-- 'k, known := all[t]'. -/
theorem wp_look_kind {m kx : Operand} {t : TypeId} (ho : o.op = .lookup t m kx true) {v mv kv : Value} (hm : a.eval m = mv) (hkx : a.eval kx = kv) (hr : (Instr.lookup t mv kv true).run P w = .ok v w) (h : K (a.put o.dst v) w) : o.wp P a w K Q := by
  unfold Oper.wp execOp
  simp only [ho, hm, hkx, hr, Sem.run_bind, Sem.run_pure, Result.andThen_ok]
  exact h
end

section
variable (f : Hf) (ss sd : Value) (w : World) (T : Nat → Prop)
set_option maxRecDepth 100000 in
set_option maxHeartbeats 2000000 in
theorem Right_any (hf : HfD w T f ss sd) : Calls Tryd.prog 12 #[aggH f ss sd] w fun e w' => e = .returned (.bool (rightH f)) ∧ Chg none_ w w' := by
  have HRB : Hid (rightH f = match kkM (keyM f.kind) with | none => false | some d => hasK d f) := rfl
  have HFD := Lib.hid hf
  generalize rightH f = RB at *
  clear hf
  have hbx := boxed w f ss sd
  have HC0 := Lib.hid (show (cellsH f ss sd)[0]? = some (.int .i64 f.kind) from rfl)
  have HCV := Lib.hid (keyM_wrap f.kind)
  have h4 : (cellsH f ss sd).length = 4 := rfl
  have hRW := hbx.row
  have hcW := hbx.chg
  unfold aggH
  generalize hcs : cellsH f ss sd = cs at *
  have HCS := Lib.hid hcs
  have H4 := Lib.hid h4
  clear hcs h4 hbx
  go_enter Tryd.func12, Tryd.ntmps12
  go_wp2
  generalize w.alloc (.cells cs.toArray 26) = W at *
  have HRW := Lib.hid hRW
  have HCW := Lib.hid hcW
  have hch0 : Chg none_ W W.drew := (Chg.refl none_ W).drew
  clear hRW hcW
  refine Code.wp_mono (Q := fun e a w' => e = .normal ∧ ∃ (g m : Nat) (u5 u10 : Value) (kc : List Value), a = ⟨#[.agg cs.toArray, .pointer (some ⟨w.heap.size, 0, none⟩), .bool false, .pointer (some ⟨g, 0, none⟩), .bool (kkM (keyM f.kind)).isSome, u5, .map (some m), .pointer (some ⟨w.heap.size, 0, none⟩), .int .i64 f.kind, .int .u64 (keyM f.kind), u10, .agg kc.toArray, .bool (kkM (keyM f.kind)).isSome, undef, undef, undef, undef, undef, undef, undef], []⟩ ∧ kc.length = 3 ∧ (∀ d, kkM (keyM f.kind) = some d → kc = kcells d) ∧ Row w' g 55 kc ∧ Chg none_ W w') ?hq ?_
  case hq =>
    rintro e a w' ⟨rfl, g, m, u5, u10, kc, rfl, h3, hkd, hrg, hcw⟩
    have HKR : Hid (∀ w2, Chg none_ w' w2 → Row w2 w.heap.size 26 cs) := fun w2 hc => (HRW.out.chg hcw (fun h => h)).chg hc (fun h => h)
    have HWW : Hid (Chg none_ w w') := HCW.out.trans hcw
    have HRG := Lib.hid hrg
    clear hcw hrg
    cases hkk : kkM (keyM f.kind) with
    | none =>
      simp only [Option.isSome_none]
      rw [hkk] at HRB
      go_wp2
      go_ret
      exact ⟨ret_bool (by rw [HRB.out]), HWW.out⟩
    | some d =>
      have HKC := Lib.hid (hkd d hkk)
      clear hkd
      simp only [Option.isSome_some]
      rw [hkk] at HRB
      have HHAS := Lib.hid (has_any f ss sd w' T d (HFD.out.chg HWW.out (fun _ _ h => h)))
      unfold aggH at HHAS
      rw [HCS.out] at HHAS
      have heg := has_call d
      have q0 : w'.cell? ⟨g, 0, none⟩ = some (.func (.func (hasFn d)) #[] #[]) := by
        have := HRG.out.cell 0
        rw [HKC.out] at this
        exact this
      clear hkk h3
      generalize hasFn d = n at *
      go_wp2_with ((with_reducible show wpList _ _ _ (⟨_, .load 26 _, _, _, _, _⟩ :: _) _ _); refine wpList_load_Row rfl rfl rfl (HKR.out _ (Chg.refl _ _)) Tryd.underlying26 rfl (by rw [H4.out]; exact sizeH) ?_)
      refine HHAS.out.mono ?_
      rintro e w5 ⟨rfl, hc5⟩
      go_wp2
      go_ret
      exact ⟨ret_bool (by rw [HRB.out]), HWW.out.trans hc5⟩
  refine wp_region_held_drew (S := fun w' => Chg none_ W w') (by kernel_rfl) hch0 (fun _ => ?_)
  refine wpAnyH_take (i := 1) (v := .pointer (some ⟨w.heap.size, 0, none⟩)) rfl (by kernel_rfl) (by kernel_rfl) (by kernel_rfl) (by first | exact fun _ _ _ h => h | exact fun _ _ _ h => nomatch h.1) (Or.inl ⟨by rfl, fun w' hw' => by go_simp⟩) hch0 ?_
  refine wpAnyH_take (i := 2) (v := .int .i64 f.kind) rfl (by kernel_rfl) (by kernel_rfl) (by kernel_rfl) (by first | exact fun _ _ _ h => h | exact fun _ _ _ h => nomatch h.1) (Or.inl ⟨by rfl, fun w' hw' => by have hh := ((HRW.out.chg hw' (fun h => h)).cell 0).trans HC0.out; go_simp⟩) hch0 ?_
  refine wpAnyH_take (i := 3) (v := .int .u64 (keyM f.kind)) rfl (by kernel_rfl) (by kernel_rfl) (by kernel_rfl) (by first | exact fun _ _ _ h => h | exact fun _ _ _ h => nomatch h.1) (Or.inl ⟨by rfl, fun w' hw' => by have hcv := HCV.out; go_simp⟩) hch0 ?_
  refine wpAnyH_ready (rs := [0, 8]) (by kernel_rfl) (by simp) ?_
  refine AllReadyH.cons rfl (fun K hK => ?_) (AllReadyH.cons rfl (fun K hK => ?_) AllReadyH.nil)
  · rw [if_pos (by rfl)]
    try simp only [List.getElem_toArray, List.getElem_cons_succ, List.getElem_cons_zero]
    go_simp
    refine (kinds_any _).mono ?_
    rintro e w1 ⟨m, rfl, hks, hc1⟩
    have hch1 : Chg none_ W w1 := (hch0).trans hc1
    refine hK.out _ _ hch1 (fun _ => ?_)
    clear hK K
    try simp only [Act.put, List.setIfInBounds_toArray, List.set_cons_zero, List.set_cons_succ, List.getElem_toArray, List.getElem_cons_succ, List.getElem_cons_zero]
    refine wpAnyH_ready (rs := [4, 8]) (by kernel_rfl) (by simp) ?_
    refine AllReadyH.cons rfl (fun K hK => ?_) (AllReadyH.cons rfl (fun K hK => ?_) AllReadyH.nil)
    · obtain ⟨kc, hlk, h3, h1c, hkd⟩ := look_kind hks (keyM f.kind)
      rw [if_pos (by rfl)]
      try simp only [List.getElem_toArray, List.getElem_cons_succ, List.getElem_cons_zero]
      refine wp_look_kind rfl rfl rfl hlk ?_
      clear hlk
      refine hK.out _ _ hch1 (fun _ => ?_)
      clear hK K
      try simp only [Act.put, List.setIfInBounds_toArray, List.set_cons_zero, List.set_cons_succ]
      refine wpAnyH_take (i := 5) (v := .tuple #[.agg kc.toArray, .bool (kkM (keyM f.kind)).isSome]) rfl (by kernel_rfl) (by kernel_rfl) (by kernel_rfl) (by first | exact fun _ _ _ h => h | exact fun _ _ _ h => nomatch h.1) (Or.inl ⟨by rfl, fun w' hw' => by go_simp⟩) hch1 ?_
      refine wpAnyH_take (i := 6) (v := .agg kc.toArray) rfl (by kernel_rfl) (by kernel_rfl) (by kernel_rfl) (by first | exact fun _ _ _ h => h | exact fun _ _ _ h => nomatch h.1) (Or.inl ⟨by rfl, fun w' hw' => by go_simp⟩) hch1 ?_
      refine wpAnyH_take (i := 7) (v := .bool (kkM (keyM f.kind)).isSome) rfl (by kernel_rfl) (by kernel_rfl) (by kernel_rfl) (by first | exact fun _ _ _ h => h | exact fun _ _ _ h => nomatch h.1) (Or.inl ⟨by rfl, fun w' hw' => by go_simp⟩) hch1 ?_
      try simp only [Act.put, List.setIfInBounds_toArray, List.set_cons_zero, List.set_cons_succ, List.getElem_toArray, List.getElem_cons_succ, List.getElem_cons_zero]
      refine wpAnyH_ready (rs := [8]) (by kernel_rfl) (by simp) ?_
      refine AllReadyH.cons rfl (fun K hK => ?_) AllReadyH.nil
      rw [if_pos (by rfl)]
      try simp only [List.getElem_toArray, List.getElem_cons_succ, List.getElem_cons_zero]
      go_simp
      have hch2 : Chg none_ W _ := (hch1).alloc (.cells kzero.toArray 55)
      refine hK.out _ _ hch2 (fun _ => ?_)
      clear hK K
      try simp only [Act.put, List.setIfInBounds_toArray, List.set_cons_zero, List.set_cons_succ, List.getElem_toArray, List.getElem_cons_succ, List.getElem_cons_zero]
      have hrow := Row.new w1 55 kzero
      have hsz1 := hch1.size
      refine wpAnyH_ready (rs := [9]) (by kernel_rfl) (by simp) ?_
      refine AllReadyH.cons rfl (fun K hK => ?_) AllReadyH.nil
      rw [if_pos (by rfl)]
      try simp only [List.getElem_toArray, List.getElem_cons_succ, List.getElem_cons_zero]
      refine wp_store_Row rfl rfl hrow rfl h3 (by rw [h3]; exact sizeK) h1c ?_
      intro w9 hr9 hch9
      have hc9 := hch9 none_ W hch2 (fun h => absurd h (by omega))
      refine hK.out _ _ hc9 (fun _ => ?_)
      clear hK K
      try simp only [Act.put]
      refine wpAnyH_take (i := 10) (v := .bool (kkM (keyM f.kind)).isSome) rfl (by kernel_rfl) (by kernel_rfl) (by kernel_rfl) (by first | exact fun _ _ _ h => h | exact fun _ _ _ h => nomatch h.1) (Or.inl ⟨by rfl, fun w' hw' => by go_simp⟩) hc9 ?_
      refine wpAnyH_done (by kernel_rfl) ?_ _
      try simp only [Act.put, List.setIfInBounds_toArray, List.set_cons_zero, List.set_cons_succ, List.getElem_toArray, List.getElem_cons_succ, List.getElem_cons_zero]
      refine ⟨by first | rfl | trivial, w1.heap.size, _, _, _, kc, rfl, h3, hkd, hr9, hc9⟩
    · rw [if_pos (by rfl)]
      try simp only [List.getElem_toArray, List.getElem_cons_succ, List.getElem_cons_zero]
      go_simp
      have hch2 : Chg none_ W _ := (hch1).alloc (.cells kzero.toArray 55)
      refine hK.out _ _ hch2 (fun _ => ?_)
      clear hK K
      try simp only [Act.put, List.setIfInBounds_toArray, List.set_cons_zero, List.set_cons_succ, List.getElem_toArray, List.getElem_cons_succ, List.getElem_cons_zero]
      refine wpAnyH_ready (rs := [4]) (by kernel_rfl) (by simp) ?_
      refine AllReadyH.cons rfl (fun K hK => ?_) AllReadyH.nil
      have hks2 : KindsAt (w1.alloc (.cells kzero.toArray 55)) m := hks.chg ((Chg.refl none_ w1).alloc _) (fun h => h)
      obtain ⟨kc, hlk, h3, h1c, hkd⟩ := look_kind hks2 (keyM f.kind)
      rw [if_pos (by rfl)]
      try simp only [List.getElem_toArray, List.getElem_cons_succ, List.getElem_cons_zero]
      refine wp_look_kind rfl rfl rfl hlk ?_
      clear hlk
      refine hK.out _ _ hch2 (fun _ => ?_)
      clear hK K
      try simp only [Act.put, List.setIfInBounds_toArray, List.set_cons_zero, List.set_cons_succ]
      refine wpAnyH_take (i := 5) (v := .tuple #[.agg kc.toArray, .bool (kkM (keyM f.kind)).isSome]) rfl (by kernel_rfl) (by kernel_rfl) (by kernel_rfl) (by first | exact fun _ _ _ h => h | exact fun _ _ _ h => nomatch h.1) (Or.inl ⟨by rfl, fun w' hw' => by go_simp⟩) hch2 ?_
      refine wpAnyH_take (i := 6) (v := .agg kc.toArray) rfl (by kernel_rfl) (by kernel_rfl) (by kernel_rfl) (by first | exact fun _ _ _ h => h | exact fun _ _ _ h => nomatch h.1) (Or.inl ⟨by rfl, fun w' hw' => by go_simp⟩) hch2 ?_
      refine wpAnyH_take (i := 7) (v := .bool (kkM (keyM f.kind)).isSome) rfl (by kernel_rfl) (by kernel_rfl) (by kernel_rfl) (by first | exact fun _ _ _ h => h | exact fun _ _ _ h => nomatch h.1) (Or.inl ⟨by rfl, fun w' hw' => by go_simp⟩) hch2 ?_
      try simp only [Act.put, List.setIfInBounds_toArray, List.set_cons_zero, List.set_cons_succ, List.getElem_toArray, List.getElem_cons_succ, List.getElem_cons_zero]
      have hrow := Row.new w1 55 kzero
      have hsz1 := hch1.size
      refine wpAnyH_ready (rs := [9]) (by kernel_rfl) (by simp) ?_
      refine AllReadyH.cons rfl (fun K hK => ?_) AllReadyH.nil
      rw [if_pos (by rfl)]
      try simp only [List.getElem_toArray, List.getElem_cons_succ, List.getElem_cons_zero]
      refine wp_store_Row rfl rfl hrow rfl h3 (by rw [h3]; exact sizeK) h1c ?_
      intro w9 hr9 hch9
      have hc9 := hch9 none_ W hch2 (fun h => absurd h (by omega))
      refine hK.out _ _ hc9 (fun _ => ?_)
      clear hK K
      try simp only [Act.put]
      refine wpAnyH_take (i := 10) (v := .bool (kkM (keyM f.kind)).isSome) rfl (by kernel_rfl) (by kernel_rfl) (by kernel_rfl) (by first | exact fun _ _ _ h => h | exact fun _ _ _ h => nomatch h.1) (Or.inl ⟨by rfl, fun w' hw' => by go_simp⟩) hc9 ?_
      refine wpAnyH_done (by kernel_rfl) ?_ _
      try simp only [Act.put, List.setIfInBounds_toArray, List.set_cons_zero, List.set_cons_succ, List.getElem_toArray, List.getElem_cons_succ, List.getElem_cons_zero]
      refine ⟨by first | rfl | trivial, w1.heap.size, _, _, _, kc, rfl, h3, hkd, hr9, hc9⟩
  · rw [if_pos (by rfl)]
    try simp only [List.getElem_toArray, List.getElem_cons_succ, List.getElem_cons_zero]
    go_simp
    have hch2 : Chg none_ W _ := (hch0).alloc (.cells kzero.toArray 55)
    refine hK.out _ _ hch2 (fun _ => ?_)
    clear hK K
    try simp only [Act.put, List.setIfInBounds_toArray, List.set_cons_zero, List.set_cons_succ, List.getElem_toArray, List.getElem_cons_succ, List.getElem_cons_zero]
    refine wpAnyH_ready (rs := [0]) (by kernel_rfl) (by simp) ?_
    refine AllReadyH.cons rfl (fun K hK => ?_) AllReadyH.nil
    rw [if_pos (by rfl)]
    try simp only [List.getElem_toArray, List.getElem_cons_zero]
    go_simp
    refine (kinds_any _).mono ?_
    rintro e w1 ⟨m, rfl, hks, hc1⟩
    have hch1 : Chg none_ W w1 := (hch2).trans hc1
    refine hK.out _ _ hch1 (fun _ => ?_)
    clear hK K
    try simp only [Act.put, List.setIfInBounds_toArray, List.set_cons_zero, List.set_cons_succ, List.getElem_toArray, List.getElem_cons_succ, List.getElem_cons_zero]
    refine wpAnyH_ready (rs := [4]) (by kernel_rfl) (by simp) ?_
    refine AllReadyH.cons rfl (fun K hK => ?_) AllReadyH.nil
    obtain ⟨kc, hlk, h3, h1c, hkd⟩ := look_kind hks (keyM f.kind)
    rw [if_pos (by rfl)]
    try simp only [List.getElem_toArray, List.getElem_cons_succ, List.getElem_cons_zero]
    refine wp_look_kind rfl rfl rfl hlk ?_
    clear hlk
    refine hK.out _ _ hch1 (fun _ => ?_)
    clear hK K
    try simp only [Act.put, List.setIfInBounds_toArray, List.set_cons_zero, List.set_cons_succ]
    refine wpAnyH_take (i := 5) (v := .tuple #[.agg kc.toArray, .bool (kkM (keyM f.kind)).isSome]) rfl (by kernel_rfl) (by kernel_rfl) (by kernel_rfl) (by first | exact fun _ _ _ h => h | exact fun _ _ _ h => nomatch h.1) (Or.inl ⟨by rfl, fun w' hw' => by go_simp⟩) hch1 ?_
    refine wpAnyH_take (i := 6) (v := .agg kc.toArray) rfl (by kernel_rfl) (by kernel_rfl) (by kernel_rfl) (by first | exact fun _ _ _ h => h | exact fun _ _ _ h => nomatch h.1) (Or.inl ⟨by rfl, fun w' hw' => by go_simp⟩) hch1 ?_
    refine wpAnyH_take (i := 7) (v := .bool (kkM (keyM f.kind)).isSome) rfl (by kernel_rfl) (by kernel_rfl) (by kernel_rfl) (by first | exact fun _ _ _ h => h | exact fun _ _ _ h => nomatch h.1) (Or.inl ⟨by rfl, fun w' hw' => by go_simp⟩) hch1 ?_
    try simp only [Act.put, List.setIfInBounds_toArray, List.set_cons_zero, List.set_cons_succ, List.getElem_toArray, List.getElem_cons_succ, List.getElem_cons_zero]
    have hrow := (Row.new W.drew 55 kzero).chg hc1 (fun h => h)
    have hsz1 : W.heap.size ≤ W.drew.heap.size := Nat.le_refl _
    refine wpAnyH_ready (rs := [9]) (by kernel_rfl) (by simp) ?_
    refine AllReadyH.cons rfl (fun K hK => ?_) AllReadyH.nil
    rw [if_pos (by rfl)]
    try simp only [List.getElem_toArray, List.getElem_cons_succ, List.getElem_cons_zero]
    refine wp_store_Row rfl rfl hrow rfl h3 (by rw [h3]; exact sizeK) h1c ?_
    intro w9 hr9 hch9
    have hc9 := hch9 none_ W hch1 (fun h => absurd h (by omega))
    refine hK.out _ _ hc9 (fun _ => ?_)
    clear hK K
    try simp only [Act.put]
    refine wpAnyH_take (i := 10) (v := .bool (kkM (keyM f.kind)).isSome) rfl (by kernel_rfl) (by kernel_rfl) (by kernel_rfl) (by first | exact fun _ _ _ h => h | exact fun _ _ _ h => nomatch h.1) (Or.inl ⟨by rfl, fun w' hw' => by go_simp⟩) hc9 ?_
    refine wpAnyH_done (by kernel_rfl) ?_ _
    try simp only [Act.put, List.setIfInBounds_toArray, List.set_cons_zero, List.set_cons_succ, List.getElem_toArray, List.getElem_cons_succ, List.getElem_cons_zero]
    refine ⟨by first | rfl | trivial, W.drew.heap.size, _, _, _, kc, rfl, h3, hkd, hr9, hc9⟩
end
end Go.Proofs.YtcdnjeojgjakdaaDoor
