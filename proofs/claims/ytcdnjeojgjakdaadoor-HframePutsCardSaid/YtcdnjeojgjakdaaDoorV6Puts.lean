/- Layer 6 (hframe): the law HframePuts. -/
import Derived.Test.YtcdnjeojgjakdaaDoorV6Alive
import Derived.Test.YtcdnjeojgjakdaaDoorV6Open
import Derived.Test.YtcdnjeojgjakdaaDoorV6RPut
import Derived.Test.YtcdnjeojgjakdaaDoorV6RDoc
namespace Go.Proofs.YtcdnjeojgjakdaaDoor
open Go.RowKit

set_option maxRecDepth 100000 in
set_option maxHeartbeats 2000000 in
theorem puts_gh (f g : Hf) (ss sd ss' sd' : Value) (W : World) (xh : HfIn W f ss sd) (xg : HfIn W g ss' sd') (_oh : f.Ok) (_og : g.Ok) (hT : Tab W) (qa : greatB f = true) :
    Calls Tryd.prog 3 #[aggH f ss sd, aggH g ss' sd'] W fun e w' => e = .returned (.bool true) ∧ Chg none_ W w' := by
  have HGH := Lib.hid (fun w => Great_any f ss sd w xh.shape)
  have HGG := Lib.hid (fun w => Great_any g ss' sd' w xg.shape)
  have HAL := Lib.hid (fun w h => alive_any w h)
  have HTB := Lib.hid hT
  simp only [qa] at HGH
  clear xh xg _oh _og hT qa
  unfold aggH at *
  generalize hcs : cellsH f ss sd = cs at HGH ⊢
  generalize hcs' : cellsH g ss' sd' = cs' at HGG ⊢
  have hl9 : cs.length = 4 := by rw [← hcs]; rfl
  have hl9' : cs'.length = 4 := by rw [← hcs']; rfl
  have HC2 := Lib.hid (((Chg.refl none_ W).alloc (.cells cs.toArray 26)).alloc (.cells cs'.toArray 26))
  have HX : Hid (∀ w', Chg none_ ((W.alloc (.cells cs.toArray 26)).alloc (.cells cs'.toArray 26)) w' → Row w' W.heap.size 26 cs ∧ Row w' (W.heap.size + 1) 26 cs') := fun w' hc => ⟨(Row.new1 W _ _ cs).chg hc (fun h => h), (Row.new2 W _ _ cs').chg hc (fun h => h)⟩
  clear hcs hcs'
  go_enter Tryd.func3, Tryd.ntmps3
  go_wp2_with (first | ((with_reducible show wpList _ _ _ (⟨_, .load 26 (.tmp 2), _, _, _, _⟩ :: _) _ _); refine wpList_load_Row rfl rfl rfl (HX.out _ (by assumption)).1 Tryd.underlying26 rfl (by rw [hl9]; exact sizeH) ?_) | ((with_reducible show wpList _ _ _ (⟨_, .load 26 (.tmp 3), _, _, _, _⟩ :: _) _ _); refine wpList_load_Row rfl rfl rfl (HX.out _ (by assumption)).2 Tryd.underlying26 rfl (by rw [hl9']; exact sizeH) ?_) | (go_at_call 10; refine (HAL.out _ (HTB.out.chg HC2.out (fun h => h))).mono ?_; rintro e w3 ⟨rfl, c3⟩) | (go_at_call 11; first | (with_reducible refine (HGH.out _).mono ?_; rintro e w4 ⟨rfl, hc4⟩; have c4 := c3.trans hc4) | (with_reducible refine (HGG.out _).mono ?_; rintro e w5 ⟨rfl, hc5⟩; have c5 := c4.trans hc5)))
  go_ret
  exact ⟨rfl, HC2.out.trans c4⟩

set_option maxRecDepth 100000 in
set_option maxHeartbeats 2000000 in
theorem puts_gg (f g : Hf) (ss sd ss' sd' : Value) (W : World) (xh : HfIn W f ss sd) (xg : HfIn W g ss' sd') (_oh : f.Ok) (_og : g.Ok) (hT : Tab W) (qa : greatB f = false) (qb : greatB g = true) :
    Calls Tryd.prog 3 #[aggH f ss sd, aggH g ss' sd'] W fun e w' => e = .returned (.bool true) ∧ Chg none_ W w' := by
  have HGH := Lib.hid (fun w => Great_any f ss sd w xh.shape)
  have HGG := Lib.hid (fun w => Great_any g ss' sd' w xg.shape)
  have HAL := Lib.hid (fun w h => alive_any w h)
  have HTB := Lib.hid hT
  simp only [qa] at HGH
  simp only [qb] at HGG
  clear xh xg _oh _og hT qa qb
  unfold aggH at *
  generalize hcs : cellsH f ss sd = cs at HGH ⊢
  generalize hcs' : cellsH g ss' sd' = cs' at HGG ⊢
  have hl9 : cs.length = 4 := by rw [← hcs]; rfl
  have hl9' : cs'.length = 4 := by rw [← hcs']; rfl
  have HC2 := Lib.hid (((Chg.refl none_ W).alloc (.cells cs.toArray 26)).alloc (.cells cs'.toArray 26))
  have HX : Hid (∀ w', Chg none_ ((W.alloc (.cells cs.toArray 26)).alloc (.cells cs'.toArray 26)) w' → Row w' W.heap.size 26 cs ∧ Row w' (W.heap.size + 1) 26 cs') := fun w' hc => ⟨(Row.new1 W _ _ cs).chg hc (fun h => h), (Row.new2 W _ _ cs').chg hc (fun h => h)⟩
  clear hcs hcs'
  go_enter Tryd.func3, Tryd.ntmps3
  go_wp2_with (first | ((with_reducible show wpList _ _ _ (⟨_, .load 26 (.tmp 2), _, _, _, _⟩ :: _) _ _); refine wpList_load_Row rfl rfl rfl (HX.out _ (by assumption)).1 Tryd.underlying26 rfl (by rw [hl9]; exact sizeH) ?_) | ((with_reducible show wpList _ _ _ (⟨_, .load 26 (.tmp 3), _, _, _, _⟩ :: _) _ _); refine wpList_load_Row rfl rfl rfl (HX.out _ (by assumption)).2 Tryd.underlying26 rfl (by rw [hl9']; exact sizeH) ?_) | (go_at_call 10; refine (HAL.out _ (HTB.out.chg HC2.out (fun h => h))).mono ?_; rintro e w3 ⟨rfl, c3⟩) | (go_at_call 11; first | (with_reducible refine (HGH.out _).mono ?_; rintro e w4 ⟨rfl, hc4⟩; have c4 := c3.trans hc4) | (with_reducible refine (HGG.out _).mono ?_; rintro e w5 ⟨rfl, hc5⟩; have c5 := c4.trans hc5)))
  go_ret
  exact ⟨rfl, HC2.out.trans c5⟩

set_option maxRecDepth 100000 in
set_option maxHeartbeats 4000000 in
theorem puts_ok (f g : Hf) (ss sd ss' sd' : Value) (W : World) (xh : HfIn W f ss sd) (xg : HfIn W g ss' sd') (oh : f.Ok) (og : g.Ok) (hT : Tab W) (qa : greatB f = false) (qb : greatB g = false) :
    Calls Tryd.prog 3 #[aggH f ss sd, aggH g ss' sd'] W fun e w' => e = .returned (.bool true) ∧ Chg none_ W w' := by
  have HGH := Lib.hid (fun w => Great_any f ss sd w xh.shape)
  have HGG := Lib.hid (fun w => Great_any g ss' sd' w xg.shape)
  have HAL := Lib.hid (fun w h => alive_any w h)
  have HTB := Lib.hid hT
  simp only [qa] at HGH
  simp only [qb] at HGG
  obtain ⟨lh1, lh2⟩ := great_le qa
  obtain ⟨lg1, lg2⟩ := great_le qb
  have HDH := Lib.hid (xh.hd (by omega) (by omega))
  have HDG := Lib.hid (xg.hd (by omega) (by omega))
  have HOH := Lib.hid oh
  have HOG := Lib.hid og
  have HPL := Lib.hid (putH_len f)
  clear xh xg oh og hT qa qb lh1 lh2 lg1 lg2
  have HRH := Lib.hid (fun w' (hc : Chg none_ W w') => Right_any f ss sd w' _ (HDH.out.chg hc (fun _ _ h => h)))
  have HRR := Lib.hid (fun w' (hc : Chg none_ W w') => rright_any f ss sd w' _ (HDH.out.chg hc (fun _ _ h => h)) HOH.out)
  have HPUT := Lib.hid (fun w' (hc : Chg none_ W w') => Put_any f ss sd w' _ (HDH.out.chg hc (fun _ _ h => h)) (HTB.out.chg hc (fun h => h)))
  have HRPT := Lib.hid (fun w' (hc : Chg none_ W w') => rputH_any f ss sd w' _ (HDH.out.chg hc (fun _ _ h => h)) HOH.out)
  have HSM := Lib.hid (fun w' (hc : Chg none_ W w') => sameH_any f g ss sd ss' sd' w' _ _ (HDH.out.chg hc (fun _ _ h => h)) (HDG.out.chg hc (fun _ _ h => h)) HOH.out.data HOG.out.data)
  have HRS := Lib.hid (fun w' (hc : Chg none_ W w') => rsame_any f g ss sd ss' sd' w' _ _ (HDH.out.chg hc (fun _ _ h => h)) (HDG.out.chg hc (fun _ _ h => h)))
  unfold aggH at *
  generalize hcs : cellsH f ss sd = cs at HGH HRH HRR HPUT HRPT HSM HRS ⊢
  generalize hcs' : cellsH g ss' sd' = cs' at HGG HSM HRS ⊢
  have hl9 : cs.length = 4 := by rw [← hcs]; rfl
  have hl9' : cs'.length = 4 := by rw [← hcs']; rfl
  have HC2 := Lib.hid (((Chg.refl none_ W).alloc (.cells cs.toArray 26)).alloc (.cells cs'.toArray 26))
  have HX : Hid (∀ w', Chg none_ ((W.alloc (.cells cs.toArray 26)).alloc (.cells cs'.toArray 26)) w' → Row w' W.heap.size 26 cs ∧ Row w' (W.heap.size + 1) 26 cs') := fun w' hc => ⟨(Row.new1 W _ _ cs).chg hc (fun h => h), (Row.new2 W _ _ cs').chg hc (fun h => h)⟩
  clear hcs hcs'
  generalize rightH f = R at *
  generalize putH f = B at *
  generalize decide (f = g) = E at *
  go_enter Tryd.func3, Tryd.ntmps3
  go_wp2_with (first | ((with_reducible show wpList _ _ _ (⟨_, .load 26 (.tmp 2), _, _, _, _⟩ :: _) _ _); refine wpList_load_Row rfl rfl rfl (HX.out _ (by assumption)).1 Tryd.underlying26 rfl (by rw [hl9]; exact sizeH) ?_) | ((with_reducible show wpList _ _ _ (⟨_, .load 26 (.tmp 3), _, _, _, _⟩ :: _) _ _); refine wpList_load_Row rfl rfl rfl (HX.out _ (by assumption)).2 Tryd.underlying26 rfl (by rw [hl9']; exact sizeH) ?_) | (go_at_call 10; refine (HAL.out _ (HTB.out.chg HC2.out (fun h => h))).mono ?_; rintro e w3 ⟨rfl, c3⟩) | (go_at_call 11; first | (with_reducible refine (HGH.out _).mono ?_; rintro e w4 ⟨rfl, hc4⟩; have c4 := c3.trans hc4) | (with_reducible refine (HGG.out _).mono ?_; rintro e w5 ⟨rfl, hc5⟩; have c5 := c4.trans hc5)))
  have HC5 := Lib.hid (HC2.out.trans c5)
  have HXh : Hid (∀ w', Chg none_ w5 w' → Row w' W.heap.size 26 cs) := fun w' hc => (HX.out w' (c5.trans hc)).1
  have HXg : Hid (∀ w', Chg none_ w5 w' → Row w' (W.heap.size + 1) 26 cs') := fun w' hc => (HX.out w' (c5.trans hc)).2
  clear HX c5 c4 c3 hc5 hc4
  have hch0 : Chg none_ w5 w5.drew := (Chg.refl _ _).drew
  refine wp_region_held_drew (S := fun w' => Chg none_ w5 w') (by kernel_rfl) hch0 (fun _ => ?_)
  refine wpAnyH_take (i := 0) (v := .agg (cs).toArray) rfl (by kernel_rfl) (by kernel_rfl) (by kernel_rfl) (by first | exact fun _ _ _ h => h | exact fun _ _ _ h => nomatch h.1) (yieldsIf_load_mid (by rfl) 26 _ rfl W.heap.size 0 rfl (cs) _ (fun w' hw' => (HXh.out w' hw').range) Tryd.underlying26 rfl (by rw [hl9]; exact sizeH)) hch0 ?_
  refine wpAnyH_take (i := 2) (v := .agg (cs).toArray) rfl (by kernel_rfl) (by kernel_rfl) (by kernel_rfl) (by first | exact fun _ _ _ h => h | exact fun _ _ _ h => nomatch h.1) (yieldsIf_load_mid (by rfl) 26 _ rfl W.heap.size 0 rfl (cs) _ (fun w' hw' => (HXh.out w' hw').range) Tryd.underlying26 rfl (by rw [hl9]; exact sizeH)) hch0 ?_
  refine wpAnyH_ready (rs := [1]) (by kernel_rfl) (by simp) ?_
  refine AllReadyH.cons rfl (fun K hK => ?_) AllReadyH.nil
  rw [if_pos (by rfl)]
  try simp only [List.getElem_toArray, List.getElem_cons_succ, List.getElem_cons_zero]
  go_simp
  refine (HRH.out _ (HC5.out.trans hch0)).mono ?_
  rintro e w6 ⟨rfl, hc6⟩
  have hch1 : Chg none_ w5 w6 := hch0.trans hc6
  refine hK.out _ _ hch1 (fun _ => ?_)
  clear hK K
  try simp only [Act.put, List.setIfInBounds_toArray, List.set_cons_zero, List.set_cons_succ, List.getElem_toArray, List.getElem_cons_succ, List.getElem_cons_zero]
  refine wpAnyH_ready (rs := [3]) (by kernel_rfl) (by simp) ?_
  refine AllReadyH.cons rfl (fun K hK => ?_) AllReadyH.nil
  rw [if_pos (by rfl)]
  try simp only [List.getElem_toArray, List.getElem_cons_succ, List.getElem_cons_zero]
  go_simp
  refine (HRR.out _ (HC5.out.trans hch1)).mono ?_
  rintro e w7 ⟨rfl, hc7⟩
  have hch2 : Chg none_ w5 w7 := hch1.trans hc7
  refine hK.out _ _ hch2 (fun _ => ?_)
  clear hK K
  try simp only [Act.put, List.setIfInBounds_toArray, List.set_cons_zero, List.set_cons_succ, List.getElem_toArray, List.getElem_cons_succ, List.getElem_cons_zero]
  refine wpAnyH_take (i := 4) (v := .bool true) rfl (by kernel_rfl) (by kernel_rfl) (by kernel_rfl) (by first | exact fun _ _ _ h => h | exact fun _ _ _ h => nomatch h.1) (Or.inl ⟨by rfl, fun w' hw' => by go_simp⟩) hch2 ?_
  refine wpAnyH_take (i := 5) (v := .bool true) rfl (by kernel_rfl) (by kernel_rfl) (by kernel_rfl) (by first | exact fun _ _ _ h => h | exact fun _ _ _ h => nomatch h.1) (Or.inl ⟨by rfl, fun w' hw' => by go_simp⟩) hch2 ?_
  refine wpAnyH_take (i := 6) (v := .agg (cs).toArray) rfl (by kernel_rfl) (by kernel_rfl) (by kernel_rfl) (by first | exact fun _ _ _ h => h | exact fun _ _ _ h => nomatch h.1) (yieldsIf_load_mid (by rfl) 26 _ rfl W.heap.size 0 rfl (cs) _ (fun w' hw' => (HXh.out w' hw').range) Tryd.underlying26 rfl (by rw [hl9]; exact sizeH)) hch2 ?_
  refine wpAnyH_take (i := 8) (v := .agg (cs).toArray) rfl (by kernel_rfl) (by kernel_rfl) (by kernel_rfl) (by first | exact fun _ _ _ h => h | exact fun _ _ _ h => nomatch h.1) (yieldsIf_load_mid (by rfl) 26 _ rfl W.heap.size 0 rfl (cs) _ (fun w' hw' => (HXh.out w' hw').range) Tryd.underlying26 rfl (by rw [hl9]; exact sizeH)) hch2 ?_
  refine wpAnyH_ready (rs := [7]) (by kernel_rfl) (by simp) ?_
  refine AllReadyH.cons rfl (fun K hK => ?_) AllReadyH.nil
  rw [if_pos (by rfl)]
  try simp only [List.getElem_toArray, List.getElem_cons_succ, List.getElem_cons_zero]
  go_simp
  refine (HPUT.out _ (HC5.out.trans hch2)).mono ?_
  rintro e w8 ⟨A8, k8, rfl, f8, hc8⟩
  have hch3 : Chg none_ w5 w8 := hch2.trans hc8
  refine hK.out _ _ hch3 (fun _ => ?_)
  clear hK K
  try simp only [Act.put, List.setIfInBounds_toArray, List.set_cons_zero, List.set_cons_succ, List.getElem_toArray, List.getElem_cons_succ, List.getElem_cons_zero]
  refine wpAnyH_ready (rs := [9]) (by kernel_rfl) (by simp) ?_
  refine AllReadyH.cons rfl (fun K hK => ?_) AllReadyH.nil
  rw [if_pos (by rfl)]
  try simp only [List.getElem_toArray, List.getElem_cons_succ, List.getElem_cons_zero]
  go_simp
  refine (HRPT.out _ (HC5.out.trans hch3)).mono ?_
  rintro e w9 ⟨A9, k9, rfl, f9, hc9⟩
  have hch4 : Chg none_ w5 w9 := hch3.trans hc9
  refine hK.out _ _ hch4 (fun _ => ?_)
  clear hK K
  try simp only [Act.put, List.setIfInBounds_toArray, List.set_cons_zero, List.set_cons_succ, List.getElem_toArray, List.getElem_cons_succ, List.getElem_cons_zero]
  refine wpAnyH_ready (rs := [10]) (by kernel_rfl) (by simp) ?_
  refine AllReadyH.cons rfl (fun K hK => ?_) AllReadyH.nil
  rw [if_pos (by rfl)]
  try simp only [List.getElem_toArray, List.getElem_cons_succ, List.getElem_cons_zero]
  go_simp
  have hsm := same_any w9 _ _ A8 A9 k8 k9 B B (f8.view.chg hc9 (fun _ _ h => h)) f9.view (by have := HPL.out; omega)
  rw [decide_eq_true rfl] at hsm
  refine hsm.mono ?_
  rintro e w10 ⟨rfl, nk, rfl⟩
  have hch5 : Chg none_ w5 (w9.drewN nk) := hch4.drewN nk
  refine hK.out _ _ hch5 (fun _ => ?_)
  clear hK K
  try simp only [Act.put, List.setIfInBounds_toArray, List.set_cons_zero, List.set_cons_succ, List.getElem_toArray, List.getElem_cons_succ, List.getElem_cons_zero]
  refine wpAnyH_take (i := 11) (v := .bool true) rfl (by kernel_rfl) (by kernel_rfl) (by kernel_rfl) (by first | exact fun _ _ _ h => h | exact fun _ _ _ h => nomatch h.1) (Or.inl ⟨by rfl, fun w' hw' => by go_simp⟩) hch5 ?_
  refine wpAnyH_take (i := 12) (v := .bool true) rfl (by kernel_rfl) (by kernel_rfl) (by kernel_rfl) (by first | exact fun _ _ _ h => h | exact fun _ _ _ h => nomatch h.1) (Or.inl ⟨by rfl, fun w' hw' => by go_simp⟩) hch5 ?_
  refine wpAnyH_take (i := 13) (v := .agg (cs).toArray) rfl (by kernel_rfl) (by kernel_rfl) (by kernel_rfl) (by first | exact fun _ _ _ h => h | exact fun _ _ _ h => nomatch h.1) (yieldsIf_load_mid (by rfl) 26 _ rfl W.heap.size 0 rfl (cs) _ (fun w' hw' => (HXh.out w' hw').range) Tryd.underlying26 rfl (by rw [hl9]; exact sizeH)) hch5 ?_
  refine wpAnyH_take (i := 14) (v := .agg (cs').toArray) rfl (by kernel_rfl) (by kernel_rfl) (by kernel_rfl) (by first | exact fun _ _ _ h => h | exact fun _ _ _ h => nomatch h.1) (yieldsIf_load_mid (by rfl) 26 _ rfl (W.heap.size + 1) 0 rfl (cs') _ (fun w' hw' => (HXg.out w' hw').range) Tryd.underlying26 rfl (by rw [hl9']; exact sizeH)) hch5 ?_
  refine wpAnyH_take (i := 16) (v := .agg (cs).toArray) rfl (by kernel_rfl) (by kernel_rfl) (by kernel_rfl) (by first | exact fun _ _ _ h => h | exact fun _ _ _ h => nomatch h.1) (yieldsIf_load_mid (by rfl) 26 _ rfl W.heap.size 0 rfl (cs) _ (fun w' hw' => (HXh.out w' hw').range) Tryd.underlying26 rfl (by rw [hl9]; exact sizeH)) hch5 ?_
  refine wpAnyH_take (i := 17) (v := .agg (cs').toArray) rfl (by kernel_rfl) (by kernel_rfl) (by kernel_rfl) (by first | exact fun _ _ _ h => h | exact fun _ _ _ h => nomatch h.1) (yieldsIf_load_mid (by rfl) 26 _ rfl (W.heap.size + 1) 0 rfl (cs') _ (fun w' hw' => (HXg.out w' hw').range) Tryd.underlying26 rfl (by rw [hl9']; exact sizeH)) hch5 ?_
  refine wpAnyH_ready (rs := [15]) (by kernel_rfl) (by simp) ?_
  refine AllReadyH.cons rfl (fun K hK => ?_) AllReadyH.nil
  rw [if_pos (by rfl)]
  try simp only [List.getElem_toArray, List.getElem_cons_succ, List.getElem_cons_zero]
  go_simp
  refine (HSM.out _ (HC5.out.trans hch5)).mono ?_
  rintro e w11 ⟨rfl, hc11⟩
  have hch6 : Chg none_ w5 w11 := hch5.trans hc11
  refine hK.out _ _ hch6 (fun _ => ?_)
  clear hK K
  try simp only [Act.put, List.setIfInBounds_toArray, List.set_cons_zero, List.set_cons_succ, List.getElem_toArray, List.getElem_cons_succ, List.getElem_cons_zero]
  refine wpAnyH_ready (rs := [18]) (by kernel_rfl) (by simp) ?_
  refine AllReadyH.cons rfl (fun K hK => ?_) AllReadyH.nil
  rw [if_pos (by rfl)]
  try simp only [List.getElem_toArray, List.getElem_cons_succ, List.getElem_cons_zero]
  go_simp
  refine (HRS.out _ (HC5.out.trans hch6)).mono ?_
  rintro e w12 ⟨rfl, hc12⟩
  have hch7 : Chg none_ w5 w12 := hch6.trans hc12
  refine hK.out _ _ hch7 (fun _ => ?_)
  clear hK K
  try simp only [Act.put, List.setIfInBounds_toArray, List.set_cons_zero, List.set_cons_succ, List.getElem_toArray, List.getElem_cons_succ, List.getElem_cons_zero]
  refine wpAnyH_take (i := 19) (v := .bool true) rfl (by kernel_rfl) (by kernel_rfl) (by kernel_rfl) (by first | exact fun _ _ _ h => h | exact fun _ _ _ h => nomatch h.1) (Or.inl ⟨by rfl, fun w' hw' => by go_simp⟩) hch7 ?_
  refine wpAnyH_take (i := 20) (v := .bool true) rfl (by kernel_rfl) (by kernel_rfl) (by kernel_rfl) (by first | exact fun _ _ _ h => h | exact fun _ _ _ h => nomatch h.1) (Or.inl ⟨by rfl, fun w' hw' => by go_simp⟩) hch7 ?_
  refine wpAnyH_ready (rs := [21]) (by kernel_rfl) (by simp) ?_
  refine AllReadyH.cons rfl (fun K hK => ?_) AllReadyH.nil
  rw [if_pos (by rfl)]
  try simp only [List.getElem_toArray, List.getElem_cons_succ, List.getElem_cons_zero]
  go_simp
  refine hK.out _ _ hch7 (fun _ => ?_)
  clear hK K
  try simp only [Act.put, List.setIfInBounds_toArray, List.set_cons_zero, List.set_cons_succ, List.getElem_toArray, List.getElem_cons_succ, List.getElem_cons_zero]
  refine wpAnyH_done (by kernel_rfl) ?_ _
  go_wp2
  go_ret
  exact ⟨rfl, HC5.out.trans hch7⟩

theorem walk_HframePuts (f : Hf) (ss sd : Value) (g : Hf) (ss' sd' : Value) (W : World) (xh : HfIn W f ss sd) (oh : f.Ok) (xg : HfIn W g ss' sd') (og : g.Ok) (hT : Tab W) :
    Calls Tryd.prog 3 #[aggH f ss sd, aggH g ss' sd'] W fun e w' => e = .returned (.bool true) ∧ Chg none_ W w' := by
  cases qa : greatB f with
  | true => exact puts_gh f g ss sd ss' sd' W xh xg oh og hT qa
  | false =>
    cases qb : greatB g with
    | true => exact puts_gg f g ss sd ss' sd' W xh xg oh og hT qa qb
    | false => exact puts_ok f g ss sd ss' sd' W xh xg oh og hT qa qb
end Go.Proofs.YtcdnjeojgjakdaaDoor
