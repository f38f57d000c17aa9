/- Layer 6 (hframe): Put. -/
import Derived.Test.YtcdnjeojgjakdaaDoorV6Right
namespace Go.Proofs.YtcdnjeojgjakdaaDoor
open Go.RowKit

section
variable (f : Hf) (ss sd : Value) (w : World) (T : Nat → Prop)
set_option maxRecDepth 100000 in
set_option maxHeartbeats 2000000 in
theorem Put_any (hf : HfD w T f ss sd) (hT : Tab w) : Calls Tryd.prog 15 #[aggH f ss sd] w (GotBytes w (putH f)) := by
  have HRB : Hid (putH f = match kkM (keyM f.kind) with | none => [] | some k => if hasK k f then encI (keyM f.kind) ++ (encI (ownK k f).length ++ ownK k f) else []) := rfl
  have HFD := Lib.hid hf
  have HTB := Lib.hid hT
  have HKL := Lib.hid (keyM_lt f.kind)
  generalize putH f = PB at *
  clear hf hT
  have hbx := boxed w f ss sd
  have HC0 := Lib.hid (show (cellsH f ss sd)[0]? = some (.int .i64 f.kind) from rfl)
  have HCV := Lib.hid (keyM_wrap f.kind)
  have h4 : (cellsH f ss sd).length = 4 := rfl
  have hRW := hbx.row
  have hcW := hbx.chg
  unfold aggH
  generalize hcs : cellsH f ss sd = cs at *
  have HCS := Lib.hid hcs
  have H4 := Lib.hid h4
  clear hcs h4 hbx
  go_enter Tryd.func15, Tryd.ntmps15
  go_wp2
  generalize w.alloc (.cells cs.toArray 26) = W at *
  have HRW := Lib.hid hRW
  have HCW := Lib.hid hcW
  have hch0 : Chg none_ W W.drew := (Chg.refl none_ W).drew
  clear hRW hcW
  refine Code.wp_mono (Q := fun e a w' => e = .normal ∧ ∃ (g m : Nat) (u5 u10 : Value) (kc : List Value), a = ⟨#[.agg cs.toArray, .pointer (some ⟨w.heap.size, 0, none⟩), .slice none 0 0, .pointer (some ⟨g, 0, none⟩), .bool (kkM (keyM f.kind)).isSome, undef, u5, .map (some m), .pointer (some ⟨w.heap.size, 0, none⟩), .int .i64 f.kind, .int .u64 (keyM f.kind), u10, .agg kc.toArray, .bool (kkM (keyM f.kind)).isSome, undef, undef, undef, undef, undef, undef, undef, undef, undef, undef, undef, undef, undef, undef, undef, undef, undef, undef, undef, undef, undef, undef, undef, undef], []⟩ ∧ kc.length = 3 ∧ (∀ d, kkM (keyM f.kind) = some d → kc = kcells d) ∧ Row w' g 55 kc ∧ Chg none_ W w') ?hq ?_
  case hq =>
    rintro e a w' ⟨rfl, g, m, u5, u10, kc, rfl, h3, hkd, hrg, hcw⟩
    have HKR : Hid (∀ w2, Chg none_ w' w2 → Row w2 w.heap.size 26 cs) := fun w2 hc => (HRW.out.chg hcw (fun h => h)).chg hc (fun h => h)
    have HWW : Hid (Chg none_ w w') := HCW.out.trans hcw
    have HRG := Lib.hid hrg
    clear hcw hrg
    cases hkk : kkM (keyM f.kind) with
    | none =>
      simp only [Option.isSome_none]
      rw [hkk] at HRB
      go_wp2
      go_ret
      refine ⟨none, 0, ?_, ?_, HWW.out⟩
      · rw [HRB.out]; rfl
      · rw [HRB.out]; exact Fresh.nil _ _
    | some d =>
      have HKC := Lib.hid (hkd d hkk)
      clear hkd
      simp only [Option.isSome_some]
      rw [hkk] at HRB
      replace HRB : Hid (PB = if hasK d f = true then encI (keyM f.kind) ++ (encI (ownK d f).length ++ ownK d f) else []) := HRB
      have HHAS := Lib.hid (has_any f ss sd w' T d (HFD.out.chg HWW.out (fun _ _ h => h)))
      have HPUT := Lib.hid (fun w2 (hc : Chg none_ w' w2) => putK_any f ss sd w2 T d ((HFD.out.chg HWW.out (fun _ _ h => h)).chg hc (fun _ _ h => h)) ((HTB.out.chg HWW.out (fun h => h)).chg hc (fun h => h)))
      have HOL := Lib.hid (fun h => own_len (k := d) (f := f) h)
      unfold aggH at HHAS HPUT
      rw [HCS.out] at HHAS HPUT
      have heg := has_call d
      have hep := put_call d
      have hq := HRG.out
      rw [HKC.out] at hq
      have q0 : w'.cell? ⟨g, 0, none⟩ = some (.func (.func (hasFn d)) #[] #[]) := hq.cell 0
      have HQ1 : Hid (g < w'.heap.size ∧ w'.cell? ⟨g, 1, none⟩ = some (.func (.func (putFn d)) #[] #[])) := ⟨hq.lt, hq.cell 1⟩
      clear hkk h3 hq
      generalize hasFn d = n at *
      generalize putFn d = np at *
      cases hh : hasK d f
      · rw [hh] at HRB HHAS
        clear hh HPUT HOL
        go_wp2_with ((with_reducible show wpList _ _ _ (⟨_, .load 26 _, _, _, _, _⟩ :: _) _ _); refine wpList_load_Row rfl rfl rfl (HKR.out _ (Chg.refl _ _)) Tryd.underlying26 rfl (by rw [H4.out]; exact sizeH) ?_)
        refine HHAS.out.mono ?_
        rintro e w5 ⟨rfl, hc5⟩
        have HC5 := Lib.hid (HWW.out.trans hc5)
        clear hc5 q0 heg hep
        go_wp2
        go_ret
        refine ⟨none, 0, ?_, ?_, HC5.out⟩
        · rw [HRB.out]; rfl
        · rw [HRB.out]; exact Fresh.nil _ _
      · rw [hh] at HRB HHAS
        have HP2 := Lib.hid (fun w2 hc => HPUT.out w2 hc hh)
        have HO2 := Lib.hid (HOL.out hh)
        clear hh HPUT HOL
        go_wp2_with ((with_reducible show wpList _ _ _ (⟨_, .load 26 _, _, _, _, _⟩ :: _) _ _); refine wpList_load_Row rfl rfl rfl (HKR.out _ (Chg.refl _ _)) Tryd.underlying26 rfl (by rw [H4.out]; exact sizeH) ?_)
        refine HHAS.out.mono ?_
        rintro e w5 ⟨rfl, hc5⟩
        have q1 := (hc5.cell 1 HQ1.out.1 (fun h => h)).trans HQ1.out.2
        have HC5 := Lib.hid hc5
        clear hc5 q0 heg
        go_wp2_with ((with_reducible show wpList _ _ _ (⟨_, .load 26 _, _, _, _, _⟩ :: _) _ _); refine wpList_load_Row rfl rfl rfl (HKR.out _ HC5.out) Tryd.underlying26 rfl (by rw [H4.out]; exact sizeH) ?_)
        refine (HP2.out _ HC5.out).mono ?_
        rintro e w6 ⟨A6, c6, rfl, s6, hc6⟩
        have hol := HO2.out
        generalize ownK d f = L at *
        have HC6 := Lib.hid (HC5.out.trans hc6)
        have k0 := ((HKR.out _ HC6.out).cell 0).trans HC0.out
        have hcv := HCV.out
        have HS6 := Lib.hid s6
        have HT6 := Lib.hid ((HTB.out.chg HWW.out (fun h => h)).chg HC6.out (fun h => h))
        clear q1 hep hc6 s6
        go_wp2_with fail
        refine (putSlc (keyM f.kind) _ HT6.out).mono ?_
        rintro e w7 ⟨A7, c7, rfl, s7, hc7⟩
        have HT7 := Lib.hid (HT6.out.chg hc7 (fun h => h))
        have HC7 := Lib.hid hc7
        have HS7 := Lib.hid s7
        have hw64 : IntKind.u64.wrap ((L.length : Nat) : Int) = (L.length : Int) := IntWalk.u64_in _ (by omega)
        clear hc7 s7 k0 hcv
        go_wp2_with fail
        refine (putSlc L.length _ HT7.out).mono ?_
        rintro e w8 ⟨A8, c8, rfl, s8, hc8⟩
        have hE1 := encI_len8 (keyM f.kind)
        have hE2 := encI_len8 L.length
        unfold encI at hE1 hE2
        have HCAT := Lib.hid (cat3G w8 A7 A8 A6 c7 c8 c6 _ _ L (HS7.out.chg hc8) s8 ((HS6.out.chg HC7.out).chg hc8) (by omega))
        have HC8 := Lib.hid ((HWW.out.trans HC6.out).trans (HC7.out.trans hc8))
        clear hc8 s8 hE1 hE2 hw64
        go_wp2_with fail
        refine HCAT.out.mono ?_
        rintro e w9 ⟨A9, c9, rfl, s9, hc9⟩
        have HS9 := Lib.hid (s9.base HC8.out.size)
        have HC9 := Lib.hid (HC8.out.trans hc9)
        clear s9 hc9
        go_wp2
        go_ret
        have hpb : PB = encI (keyM f.kind) ++ (encI L.length ++ L) := HRB.out
        refine ⟨A9, c9, ?_, ?_, HC9.out⟩
        · rw [hpb]; simp only [List.length_append]; rfl
        · rw [hpb]; exact HS9.out
  refine wp_region_held_drew (S := fun w' => Chg none_ W w') (by kernel_rfl) hch0 (fun _ => ?_)
  refine wpAnyH_take (i := 1) (v := .pointer (some ⟨w.heap.size, 0, none⟩)) rfl (by kernel_rfl) (by kernel_rfl) (by kernel_rfl) (by first | exact fun _ _ _ h => h | exact fun _ _ _ h => nomatch h.1) (Or.inl ⟨by rfl, fun w' hw' => by go_simp⟩) hch0 ?_
  refine wpAnyH_take (i := 2) (v := .int .i64 f.kind) rfl (by kernel_rfl) (by kernel_rfl) (by kernel_rfl) (by first | exact fun _ _ _ h => h | exact fun _ _ _ h => nomatch h.1) (Or.inl ⟨by rfl, fun w' hw' => by have hh := ((HRW.out.chg hw' (fun h => h)).cell 0).trans HC0.out; go_simp⟩) hch0 ?_
  refine wpAnyH_take (i := 3) (v := .int .u64 (keyM f.kind)) rfl (by kernel_rfl) (by kernel_rfl) (by kernel_rfl) (by first | exact fun _ _ _ h => h | exact fun _ _ _ h => nomatch h.1) (Or.inl ⟨by rfl, fun w' hw' => by have hcv := HCV.out; go_simp⟩) hch0 ?_
  refine wpAnyH_ready (rs := [0, 8]) (by kernel_rfl) (by simp) ?_
  refine AllReadyH.cons rfl (fun K hK => ?_) (AllReadyH.cons rfl (fun K hK => ?_) AllReadyH.nil)
  · rw [if_pos (by rfl)]
    try simp only [List.getElem_toArray, List.getElem_cons_succ, List.getElem_cons_zero]
    go_simp
    refine (kinds_any _).mono ?_
    rintro e w1 ⟨m, rfl, hks, hc1⟩
    have hch1 : Chg none_ W w1 := (hch0).trans hc1
    refine hK.out _ _ hch1 (fun _ => ?_)
    clear hK K
    refine wpAnyH_ready (rs := [4, 8]) (by kernel_rfl) (by simp) ?_
    refine AllReadyH.cons rfl (fun K hK => ?_) (AllReadyH.cons rfl (fun K hK => ?_) AllReadyH.nil)
    · obtain ⟨kc, hlk, h3, h1c, hkd⟩ := look_kind hks (keyM f.kind)
      rw [if_pos (by rfl)]
      try simp only [List.getElem_toArray, List.getElem_cons_succ, List.getElem_cons_zero]
      refine wp_look_kind rfl rfl rfl hlk ?_
      clear hlk
      refine hK.out _ _ hch1 (fun _ => ?_)
      clear hK K
      try simp only [Act.put, List.setIfInBounds_toArray, List.set_cons_zero, List.set_cons_succ]
      refine wpAnyH_take (i := 5) (v := .tuple #[.agg kc.toArray, .bool (kkM (keyM f.kind)).isSome]) rfl (by kernel_rfl) (by kernel_rfl) (by kernel_rfl) (by first | exact fun _ _ _ h => h | exact fun _ _ _ h => nomatch h.1) (Or.inl ⟨by rfl, fun w' hw' => by go_simp⟩) hch1 ?_
      refine wpAnyH_take (i := 6) (v := .agg kc.toArray) rfl (by kernel_rfl) (by kernel_rfl) (by kernel_rfl) (by first | exact fun _ _ _ h => h | exact fun _ _ _ h => nomatch h.1) (Or.inl ⟨by rfl, fun w' hw' => by go_simp⟩) hch1 ?_
      refine wpAnyH_take (i := 7) (v := .bool (kkM (keyM f.kind)).isSome) rfl (by kernel_rfl) (by kernel_rfl) (by kernel_rfl) (by first | exact fun _ _ _ h => h | exact fun _ _ _ h => nomatch h.1) (Or.inl ⟨by rfl, fun w' hw' => by go_simp⟩) hch1 ?_
      try simp only [Act.put, List.setIfInBounds_toArray, List.set_cons_zero, List.set_cons_succ, List.getElem_toArray, List.getElem_cons_succ, List.getElem_cons_zero]
      refine wpAnyH_ready (rs := [8]) (by kernel_rfl) (by simp) ?_
      refine AllReadyH.cons rfl (fun K hK => ?_) AllReadyH.nil
      rw [if_pos (by rfl)]
      try simp only [List.getElem_toArray, List.getElem_cons_succ, List.getElem_cons_zero]
      go_simp
      have hch2 : Chg none_ W _ := (hch1).alloc (.cells kzero.toArray 55)
      refine hK.out _ _ hch2 (fun _ => ?_)
      clear hK K
      try simp only [Act.put, List.setIfInBounds_toArray, List.set_cons_zero, List.set_cons_succ, List.getElem_toArray, List.getElem_cons_succ, List.getElem_cons_zero]
      have hrow := Row.new w1 55 kzero
      have hsz1 := hch1.size
      refine wpAnyH_ready (rs := [9]) (by kernel_rfl) (by simp) ?_
      refine AllReadyH.cons rfl (fun K hK => ?_) AllReadyH.nil
      rw [if_pos (by rfl)]
      try simp only [List.getElem_toArray, List.getElem_cons_succ, List.getElem_cons_zero]
      refine wp_store_Row rfl rfl hrow rfl h3 (by rw [h3]; exact sizeK) h1c ?_
      intro w9 hr9 hch9
      have hc9 := hch9 none_ W hch2 (fun h => absurd h (by omega))
      refine hK.out _ _ hc9 (fun _ => ?_)
      clear hK K
      try simp only [Act.put]
      refine wpAnyH_take (i := 10) (v := .bool (kkM (keyM f.kind)).isSome) rfl (by kernel_rfl) (by kernel_rfl) (by kernel_rfl) (by first | exact fun _ _ _ h => h | exact fun _ _ _ h => nomatch h.1) (Or.inl ⟨by rfl, fun w' hw' => by go_simp⟩) hc9 ?_
      refine wpAnyH_done (by kernel_rfl) ?_ _
      try simp only [Act.put, List.setIfInBounds_toArray, List.set_cons_zero, List.set_cons_succ, List.getElem_toArray, List.getElem_cons_succ, List.getElem_cons_zero]
      refine ⟨by first | rfl | trivial, w1.heap.size, _, _, _, kc, rfl, h3, hkd, hr9, hc9⟩
    · rw [if_pos (by rfl)]
      try simp only [List.getElem_toArray, List.getElem_cons_succ, List.getElem_cons_zero]
      go_simp
      have hch2 : Chg none_ W _ := (hch1).alloc (.cells kzero.toArray 55)
      refine hK.out _ _ hch2 (fun _ => ?_)
      clear hK K
      refine wpAnyH_ready (rs := [4]) (by kernel_rfl) (by simp) ?_
      refine AllReadyH.cons rfl (fun K hK => ?_) AllReadyH.nil
      have hks2 : KindsAt (w1.alloc (.cells kzero.toArray 55)) m := hks.chg ((Chg.refl none_ w1).alloc _) (fun h => h)
      obtain ⟨kc, hlk, h3, h1c, hkd⟩ := look_kind hks2 (keyM f.kind)
      rw [if_pos (by rfl)]
      try simp only [List.getElem_toArray, List.getElem_cons_succ, List.getElem_cons_zero]
      refine wp_look_kind rfl rfl rfl hlk ?_
      clear hlk
      refine hK.out _ _ hch2 (fun _ => ?_)
      clear hK K
      try simp only [Act.put, List.setIfInBounds_toArray, List.set_cons_zero, List.set_cons_succ]
      refine wpAnyH_take (i := 5) (v := .tuple #[.agg kc.toArray, .bool (kkM (keyM f.kind)).isSome]) rfl (by kernel_rfl) (by kernel_rfl) (by kernel_rfl) (by first | exact fun _ _ _ h => h | exact fun _ _ _ h => nomatch h.1) (Or.inl ⟨by rfl, fun w' hw' => by go_simp⟩) hch2 ?_
      refine wpAnyH_take (i := 6) (v := .agg kc.toArray) rfl (by kernel_rfl) (by kernel_rfl) (by kernel_rfl) (by first | exact fun _ _ _ h => h | exact fun _ _ _ h => nomatch h.1) (Or.inl ⟨by rfl, fun w' hw' => by go_simp⟩) hch2 ?_
      refine wpAnyH_take (i := 7) (v := .bool (kkM (keyM f.kind)).isSome) rfl (by kernel_rfl) (by kernel_rfl) (by kernel_rfl) (by first | exact fun _ _ _ h => h | exact fun _ _ _ h => nomatch h.1) (Or.inl ⟨by rfl, fun w' hw' => by go_simp⟩) hch2 ?_
      try simp only [Act.put, List.setIfInBounds_toArray, List.set_cons_zero, List.set_cons_succ, List.getElem_toArray, List.getElem_cons_succ, List.getElem_cons_zero]
      have hrow := Row.new w1 55 kzero
      have hsz1 := hch1.size
      refine wpAnyH_ready (rs := [9]) (by kernel_rfl) (by simp) ?_
      refine AllReadyH.cons rfl (fun K hK => ?_) AllReadyH.nil
      rw [if_pos (by rfl)]
      try simp only [List.getElem_toArray, List.getElem_cons_succ, List.getElem_cons_zero]
      refine wp_store_Row rfl rfl hrow rfl h3 (by rw [h3]; exact sizeK) h1c ?_
      intro w9 hr9 hch9
      have hc9 := hch9 none_ W hch2 (fun h => absurd h (by omega))
      refine hK.out _ _ hc9 (fun _ => ?_)
      clear hK K
      try simp only [Act.put]
      refine wpAnyH_take (i := 10) (v := .bool (kkM (keyM f.kind)).isSome) rfl (by kernel_rfl) (by kernel_rfl) (by kernel_rfl) (by first | exact fun _ _ _ h => h | exact fun _ _ _ h => nomatch h.1) (Or.inl ⟨by rfl, fun w' hw' => by go_simp⟩) hc9 ?_
      refine wpAnyH_done (by kernel_rfl) ?_ _
      try simp only [Act.put, List.setIfInBounds_toArray, List.set_cons_zero, List.set_cons_succ, List.getElem_toArray, List.getElem_cons_succ, List.getElem_cons_zero]
      refine ⟨by first | rfl | trivial, w1.heap.size, _, _, _, kc, rfl, h3, hkd, hr9, hc9⟩
  · rw [if_pos (by rfl)]
    try simp only [List.getElem_toArray, List.getElem_cons_succ, List.getElem_cons_zero]
    go_simp
    have hch2 : Chg none_ W _ := (hch0).alloc (.cells kzero.toArray 55)
    refine hK.out _ _ hch2 (fun _ => ?_)
    clear hK K
    refine wpAnyH_ready (rs := [0]) (by kernel_rfl) (by simp) ?_
    refine AllReadyH.cons rfl (fun K hK => ?_) AllReadyH.nil
    rw [if_pos (by rfl)]
    try simp only [List.getElem_toArray, List.getElem_cons_zero]
    go_simp
    refine (kinds_any _).mono ?_
    rintro e w1 ⟨m, rfl, hks, hc1⟩
    have hch1 : Chg none_ W w1 := (hch2).trans hc1
    refine hK.out _ _ hch1 (fun _ => ?_)
    clear hK K
    refine wpAnyH_ready (rs := [4]) (by kernel_rfl) (by simp) ?_
    refine AllReadyH.cons rfl (fun K hK => ?_) AllReadyH.nil
    obtain ⟨kc, hlk, h3, h1c, hkd⟩ := look_kind hks (keyM f.kind)
    rw [if_pos (by rfl)]
    try simp only [List.getElem_toArray, List.getElem_cons_succ, List.getElem_cons_zero]
    refine wp_look_kind rfl rfl rfl hlk ?_
    clear hlk
    refine hK.out _ _ hch1 (fun _ => ?_)
    clear hK K
    try simp only [Act.put, List.setIfInBounds_toArray, List.set_cons_zero, List.set_cons_succ]
    refine wpAnyH_take (i := 5) (v := .tuple #[.agg kc.toArray, .bool (kkM (keyM f.kind)).isSome]) rfl (by kernel_rfl) (by kernel_rfl) (by kernel_rfl) (by first | exact fun _ _ _ h => h | exact fun _ _ _ h => nomatch h.1) (Or.inl ⟨by rfl, fun w' hw' => by go_simp⟩) hch1 ?_
    refine wpAnyH_take (i := 6) (v := .agg kc.toArray) rfl (by kernel_rfl) (by kernel_rfl) (by kernel_rfl) (by first | exact fun _ _ _ h => h | exact fun _ _ _ h => nomatch h.1) (Or.inl ⟨by rfl, fun w' hw' => by go_simp⟩) hch1 ?_
    refine wpAnyH_take (i := 7) (v := .bool (kkM (keyM f.kind)).isSome) rfl (by kernel_rfl) (by kernel_rfl) (by kernel_rfl) (by first | exact fun _ _ _ h => h | exact fun _ _ _ h => nomatch h.1) (Or.inl ⟨by rfl, fun w' hw' => by go_simp⟩) hch1 ?_
    try simp only [Act.put, List.setIfInBounds_toArray, List.set_cons_zero, List.set_cons_succ, List.getElem_toArray, List.getElem_cons_succ, List.getElem_cons_zero]
    have hrow := (Row.new W.drew 55 kzero).chg hc1 (fun h => h)
    have hsz1 : W.heap.size ≤ W.drew.heap.size := Nat.le_refl _
    refine wpAnyH_ready (rs := [9]) (by kernel_rfl) (by simp) ?_
    refine AllReadyH.cons rfl (fun K hK => ?_) AllReadyH.nil
    rw [if_pos (by rfl)]
    try simp only [List.getElem_toArray, List.getElem_cons_succ, List.getElem_cons_zero]
    refine wp_store_Row rfl rfl hrow rfl h3 (by rw [h3]; exact sizeK) h1c ?_
    intro w9 hr9 hch9
    have hc9 := hch9 none_ W hch1 (fun h => absurd h (by omega))
    refine hK.out _ _ hc9 (fun _ => ?_)
    clear hK K
    try simp only [Act.put]
    refine wpAnyH_take (i := 10) (v := .bool (kkM (keyM f.kind)).isSome) rfl (by kernel_rfl) (by kernel_rfl) (by kernel_rfl) (by first | exact fun _ _ _ h => h | exact fun _ _ _ h => nomatch h.1) (Or.inl ⟨by rfl, fun w' hw' => by go_simp⟩) hc9 ?_
    refine wpAnyH_done (by kernel_rfl) ?_ _
    try simp only [Act.put, List.setIfInBounds_toArray, List.set_cons_zero, List.set_cons_succ, List.getElem_toArray, List.getElem_cons_succ, List.getElem_cons_zero]
    refine ⟨by first | rfl | trivial, W.drew.heap.size, _, _, _, kc, rfl, h3, hkd, hr9, hc9⟩
end
end Go.Proofs.YtcdnjeojgjakdaaDoor
