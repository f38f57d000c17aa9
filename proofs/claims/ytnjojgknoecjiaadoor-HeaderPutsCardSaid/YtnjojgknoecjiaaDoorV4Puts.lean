/- Layer 4 (header): the law HeaderPuts. -/
import Derived.Test.YtnjojgknoecjiaaDoorV4Apart
import Derived.Test.YtnjojgknoecjiaaDoorV4RPut
import Derived.Test.YtnjojgknoecjiaaDoorV4RSame
namespace Go.Proofs.YtnjojgknoecjiaaDoor
open Go.RowKit

theorem great_no {h : Hd} (lh : h.dst.length ≤ 140737488351232 ∧ h.src.length ≤ 140737488351232 ∧ h.token.length ≤ 140737488351232 ∧ h.cut.length ≤ 140737488351232) (q : greatH h = false) : h.dst.length ≤ 600 ∧ h.src.length ≤ 600 ∧ h.token.length ≤ 600 ∧ h.cut.length ≤ 600 := by
  unfold greatH at q
  simp only [decide_eq_false_iff_not] at q
  obtain ⟨l1, l2, l3, l4⟩ := lh
  have w1 : IntKind.i64.wrap ((h.dst.length : Int) + h.src.length) = (h.dst.length : Int) + h.src.length := IntWalk.i64_in _ (by omega)
  rw [w1] at q
  have w2 : IntKind.i64.wrap ((h.dst.length : Int) + h.src.length + h.token.length) = (h.dst.length : Int) + h.src.length + h.token.length := IntWalk.i64_in _ (by omega)
  rw [w2] at q
  have w3 : IntKind.i64.wrap ((h.dst.length : Int) + h.src.length + h.token.length + h.cut.length) = (h.dst.length : Int) + h.src.length + h.token.length + h.cut.length := IntWalk.i64_in _ (by omega)
  rw [w3] at q
  omega

set_option maxRecDepth 100000 in
set_option maxHeartbeats 2000000 in
theorem puts_gh (h g : Hd) (v u : Four) (W : World) (xh : HdIn W h v) (xg : HdIn W g u) (_oh : h.Ok) (_og : g.Ok) (hT : Tab W) (qa : greatH h = true) :
    Calls Tryd.prog 3 #[aggH h v, aggH g u] W fun e w' => e = .returned (.bool true) ∧ Chg none_ W w' := by
  have HGH := Lib.hid (fun w => great_any h v w xh.shape)
  have HGG := Lib.hid (fun w => great_any g u w xg.shape)
  have HAL := Lib.hid (fun w h => alive_any w h)
  have HTB := Lib.hid hT
  simp only [qa] at HGH
  clear xh xg _oh _og hT qa
  unfold aggH at *
  generalize hcs : cellsH h v = cs at *
  generalize hcs' : cellsH g u = cs' at *
  have hl9 : cs.length = 9 := by rw [← hcs]; rfl
  have hl9' : cs'.length = 9 := by rw [← hcs']; rfl
  have HC2 := Lib.hid (((Chg.refl none_ W).alloc (.cells cs.toArray 25)).alloc (.cells cs'.toArray 25))
  have HX : Hid (∀ w', Chg none_ ((W.alloc (.cells cs.toArray 25)).alloc (.cells cs'.toArray 25)) w' → Row w' W.heap.size 25 cs ∧ Row w' (W.heap.size + 1) 25 cs') := fun w' hc => ⟨(Row.new1 W _ _ cs).chg hc (fun h => h), (Row.new2 W _ _ cs').chg hc (fun h => h)⟩
  clear hcs hcs'
  go_enter Tryd.func3, Tryd.ntmps3
  go_wp2_with (first | ((with_reducible show wpList _ _ _ (⟨_, .load 25 (.tmp 2), _, _, _, _⟩ :: _) _ _); refine wlH rfl rfl rfl (HX.out _ (by assumption)).1 hl9 ?_) | ((with_reducible show wpList _ _ _ (⟨_, .load 25 (.tmp 3), _, _, _, _⟩ :: _) _ _); refine wlH rfl rfl rfl (HX.out _ (by assumption)).2 hl9' ?_) | (go_at_call 10; refine (HAL.out _ (HTB.out.chg HC2.out (fun h => h))).mono ?_; rintro e w3 ⟨rfl, c3⟩) | (go_at_call 11; first | (with_reducible refine (HGH.out _).mono ?_; rintro e w4 ⟨rfl, hc4⟩; have c4 := c3.trans hc4) | (with_reducible refine (HGG.out _).mono ?_; rintro e w5 ⟨rfl, hc5⟩; have c5 := c4.trans hc5)))
  go_ret
  exact ⟨rfl, HC2.out.trans c4⟩

set_option maxRecDepth 100000 in
set_option maxHeartbeats 2000000 in
theorem puts_gg (h g : Hd) (v u : Four) (W : World) (xh : HdIn W h v) (xg : HdIn W g u) (_oh : h.Ok) (_og : g.Ok) (hT : Tab W) (qa : greatH h = false) (qb : greatH g = true) :
    Calls Tryd.prog 3 #[aggH h v, aggH g u] W fun e w' => e = .returned (.bool true) ∧ Chg none_ W w' := by
  have HGH := Lib.hid (fun w => great_any h v w xh.shape)
  have HGG := Lib.hid (fun w => great_any g u w xg.shape)
  have HAL := Lib.hid (fun w h => alive_any w h)
  have HTB := Lib.hid hT
  simp only [qa] at HGH
  simp only [qb] at HGG
  clear xh xg _oh _og hT qa qb
  unfold aggH at *
  generalize hcs : cellsH h v = cs at *
  generalize hcs' : cellsH g u = cs' at *
  have hl9 : cs.length = 9 := by rw [← hcs]; rfl
  have hl9' : cs'.length = 9 := by rw [← hcs']; rfl
  have HC2 := Lib.hid (((Chg.refl none_ W).alloc (.cells cs.toArray 25)).alloc (.cells cs'.toArray 25))
  have HX : Hid (∀ w', Chg none_ ((W.alloc (.cells cs.toArray 25)).alloc (.cells cs'.toArray 25)) w' → Row w' W.heap.size 25 cs ∧ Row w' (W.heap.size + 1) 25 cs') := fun w' hc => ⟨(Row.new1 W _ _ cs).chg hc (fun h => h), (Row.new2 W _ _ cs').chg hc (fun h => h)⟩
  clear hcs hcs'
  go_enter Tryd.func3, Tryd.ntmps3
  go_wp2_with (first | ((with_reducible show wpList _ _ _ (⟨_, .load 25 (.tmp 2), _, _, _, _⟩ :: _) _ _); refine wlH rfl rfl rfl (HX.out _ (by assumption)).1 hl9 ?_) | ((with_reducible show wpList _ _ _ (⟨_, .load 25 (.tmp 3), _, _, _, _⟩ :: _) _ _); refine wlH rfl rfl rfl (HX.out _ (by assumption)).2 hl9' ?_) | (go_at_call 10; refine (HAL.out _ (HTB.out.chg HC2.out (fun h => h))).mono ?_; rintro e w3 ⟨rfl, c3⟩) | (go_at_call 11; first | (with_reducible refine (HGH.out _).mono ?_; rintro e w4 ⟨rfl, hc4⟩; have c4 := c3.trans hc4) | (with_reducible refine (HGG.out _).mono ?_; rintro e w5 ⟨rfl, hc5⟩; have c5 := c4.trans hc5)))
  go_ret
  exact ⟨rfl, HC2.out.trans c5⟩

set_option maxRecDepth 100000 in
set_option maxHeartbeats 2000000 in
theorem puts_ok (h g : Hd) (v u : Four) (W : World) (xh : HdIn W h v) (xg : HdIn W g u) (oh : h.Ok) (og : g.Ok) (hT : Tab W) (lh : h.dst.length ≤ 140737488351232 ∧ h.src.length ≤ 140737488351232 ∧ h.token.length ≤ 140737488351232 ∧ h.cut.length ≤ 140737488351232) (lg : g.dst.length ≤ 140737488351232 ∧ g.src.length ≤ 140737488351232 ∧ g.token.length ≤ 140737488351232 ∧ g.cut.length ≤ 140737488351232) (qa : greatH h = false) (qb : greatH g = false) :
    Calls Tryd.prog 3 #[aggH h v, aggH g u] W fun e w' => e = .returned (.bool true) ∧ Chg none_ W w' := by
  have HGH := Lib.hid (fun w => great_any h v w xh.shape)
  have HGG := Lib.hid (fun w => great_any g u w xg.shape)
  have HAL := Lib.hid (fun w h => alive_any w h)
  have HTB := Lib.hid hT
  simp only [qa] at HGH
  simp only [qb] at HGG
  obtain ⟨lh1, lh2, lh3, lh4⟩ := great_no lh qa
  obtain ⟨lg1, lg2, lg3, lg4⟩ := great_no lg qb
  have HRH := Lib.hid (fun w => right_sh h v w xh.shape)
  have HRR := Lib.hid (fun w => rright_sh h v w xh.shape (by omega))
  have HDH := Lib.hid (xh.hd (by omega) (by omega) (by omega) (by omega))
  have HDG := Lib.hid (xg.hd (by omega) (by omega) (by omega) (by omega))
  have HOH := Lib.hid oh
  have HOG := Lib.hid og
  have HPL := Lib.hid (putH_len h)
  clear xh xg oh og hT qa qb lh lg lh1 lh2 lh3 lh4 lg1 lg2 lg3 lg4
  have HPUT := Lib.hid (fun w' (hc : Chg none_ W w') => put_hd h v w' _ (HDH.out.chg hc (fun _ _ h => h)) HOH.out.v1 (HTB.out.chg hc (fun h => h)))
  have HRPT := Lib.hid (fun w' (hc : Chg none_ W w') => rput_hd h v w' _ (HDH.out.chg hc (fun _ _ h => h)) HOH.out.v1)
  have HSM := Lib.hid (fun w' (hc : Chg none_ W w') => sameH_any h g v u w' _ _ (HDH.out.chg hc (fun _ _ h => h)) (HDG.out.chg hc (fun _ _ h => h)) HOH.out HOG.out)
  have HRS := Lib.hid (fun w' (hc : Chg none_ W w') => rsameH_any h g v u w' _ _ (HDH.out.chg hc (fun _ _ h => h)) (HDG.out.chg hc (fun _ _ h => h)))
  unfold aggH at *
  generalize hcs : cellsH h v = cs at HGH HRH HRR HPUT HRPT HSM HRS ⊢
  generalize hcs' : cellsH g u = cs' at HGG HSM HRS ⊢
  have hl9 : cs.length = 9 := by rw [← hcs]; rfl
  have hl9' : cs'.length = 9 := by rw [← hcs']; rfl
  have HC2 := Lib.hid (((Chg.refl none_ W).alloc (.cells cs.toArray 25)).alloc (.cells cs'.toArray 25))
  have HX : Hid (∀ w', Chg none_ ((W.alloc (.cells cs.toArray 25)).alloc (.cells cs'.toArray 25)) w' → Row w' W.heap.size 25 cs ∧ Row w' (W.heap.size + 1) 25 cs') := fun w' hc => ⟨(Row.new1 W _ _ cs).chg hc (fun h => h), (Row.new2 W _ _ cs').chg hc (fun h => h)⟩
  clear hcs hcs'
  generalize rightH h = R at *
  generalize putH h = B at *
  generalize decide (h = g) = E at *
  go_enter Tryd.func3, Tryd.ntmps3
  go_wp2_with (first | ((with_reducible show wpList _ _ _ (⟨_, .load 25 (.tmp 2), _, _, _, _⟩ :: _) _ _); refine wlH rfl rfl rfl (HX.out _ (by assumption)).1 hl9 ?_) | ((with_reducible show wpList _ _ _ (⟨_, .load 25 (.tmp 3), _, _, _, _⟩ :: _) _ _); refine wlH rfl rfl rfl (HX.out _ (by assumption)).2 hl9' ?_) | (go_at_call 10; refine (HAL.out _ (HTB.out.chg HC2.out (fun h => h))).mono ?_; rintro e w3 ⟨rfl, c3⟩) | (go_at_call 11; first | (with_reducible refine (HGH.out _).mono ?_; rintro e w4 ⟨rfl, hc4⟩; have c4 := c3.trans hc4) | (with_reducible refine (HGG.out _).mono ?_; rintro e w5 ⟨rfl, hc5⟩; have c5 := c4.trans hc5)))
  have HC5 := Lib.hid (HC2.out.trans c5)
  have HXh : Hid (∀ w', Chg none_ w5 w' → Row w' W.heap.size 25 cs) := fun w' hc => (HX.out w' (c5.trans hc)).1
  have HXg : Hid (∀ w', Chg none_ w5 w' → Row w' (W.heap.size + 1) 25 cs') := fun w' hc => (HX.out w' (c5.trans hc)).2
  clear HX c5 c4 c3 hc5 hc4
  have hch0 : Chg none_ w5 w5.drew := (Chg.refl _ _).drew
  refine wp_region_held_drew (S := fun w' => Chg none_ w5 w') (by kernel_rfl) hch0 (fun _ => ?_)
  refine wpAnyH_take (i := 0) (v := .agg (cs).toArray) rfl (by kernel_rfl) (by kernel_rfl) (by kernel_rfl) (by first | exact fun _ _ _ h => h | exact fun _ _ _ h => nomatch h.1) (yieldsIf_load_mid (by rfl) 25 _ rfl W.heap.size 0 rfl (cs) _ (fun w' hw' => (HXh.out w' hw').range) Tryd.underlying25 rfl (by rw [hl9]; exact sizeH)) hch0 ?_
  refine wpAnyH_take (i := 2) (v := .agg (cs).toArray) rfl (by kernel_rfl) (by kernel_rfl) (by kernel_rfl) (by first | exact fun _ _ _ h => h | exact fun _ _ _ h => nomatch h.1) (yieldsIf_load_mid (by rfl) 25 _ rfl W.heap.size 0 rfl (cs) _ (fun w' hw' => (HXh.out w' hw').range) Tryd.underlying25 rfl (by rw [hl9]; exact sizeH)) hch0 ?_
  refine wpAnyH_ready (rs := [1]) (by kernel_rfl) (by simp) ?_
  refine AllReadyH.cons rfl (fun K hK => ?_) AllReadyH.nil
  rw [if_pos (by rfl)]
  try simp only [List.getElem_toArray, List.getElem_cons_succ, List.getElem_cons_zero]
  go_simp
  refine (HRH.out _).mono ?_
  rintro e w6 ⟨rfl, hc6⟩
  have hch1 : Chg none_ w5 w6 := hch0.trans hc6
  refine hK.out _ _ hch1 (fun _ => ?_)
  clear hK K
  try simp only [Act.put, List.setIfInBounds_toArray, List.set_cons_zero, List.set_cons_succ, List.getElem_toArray, List.getElem_cons_succ, List.getElem_cons_zero]
  refine wpAnyH_ready (rs := [3]) (by kernel_rfl) (by simp) ?_
  refine AllReadyH.cons rfl (fun K hK => ?_) AllReadyH.nil
  rw [if_pos (by rfl)]
  try simp only [List.getElem_toArray, List.getElem_cons_succ, List.getElem_cons_zero]
  go_simp
  refine (HRR.out _).mono ?_
  rintro e w7 ⟨rfl, hc7⟩
  have hch2 : Chg none_ w5 w7 := hch1.trans hc7
  refine hK.out _ _ hch2 (fun _ => ?_)
  clear hK K
  try simp only [Act.put, List.setIfInBounds_toArray, List.set_cons_zero, List.set_cons_succ, List.getElem_toArray, List.getElem_cons_succ, List.getElem_cons_zero]
  refine wpAnyH_take (i := 4) (v := .bool true) rfl (by kernel_rfl) (by kernel_rfl) (by kernel_rfl) (by first | exact fun _ _ _ h => h | exact fun _ _ _ h => nomatch h.1) (Or.inl ⟨by rfl, fun w' hw' => by go_simp⟩) hch2 ?_
  refine wpAnyH_take (i := 5) (v := .bool true) rfl (by kernel_rfl) (by kernel_rfl) (by kernel_rfl) (by first | exact fun _ _ _ h => h | exact fun _ _ _ h => nomatch h.1) (Or.inl ⟨by rfl, fun w' hw' => by go_simp⟩) hch2 ?_
  refine wpAnyH_take (i := 6) (v := .agg (cs).toArray) rfl (by kernel_rfl) (by kernel_rfl) (by kernel_rfl) (by first | exact fun _ _ _ h => h | exact fun _ _ _ h => nomatch h.1) (yieldsIf_load_mid (by rfl) 25 _ rfl W.heap.size 0 rfl (cs) _ (fun w' hw' => (HXh.out w' hw').range) Tryd.underlying25 rfl (by rw [hl9]; exact sizeH)) hch2 ?_
  refine wpAnyH_take (i := 8) (v := .agg (cs).toArray) rfl (by kernel_rfl) (by kernel_rfl) (by kernel_rfl) (by first | exact fun _ _ _ h => h | exact fun _ _ _ h => nomatch h.1) (yieldsIf_load_mid (by rfl) 25 _ rfl W.heap.size 0 rfl (cs) _ (fun w' hw' => (HXh.out w' hw').range) Tryd.underlying25 rfl (by rw [hl9]; exact sizeH)) hch2 ?_
  refine wpAnyH_ready (rs := [7]) (by kernel_rfl) (by simp) ?_
  refine AllReadyH.cons rfl (fun K hK => ?_) AllReadyH.nil
  rw [if_pos (by rfl)]
  try simp only [List.getElem_toArray, List.getElem_cons_succ, List.getElem_cons_zero]
  go_simp
  refine (HPUT.out _ (HC5.out.trans hch2)).mono ?_
  rintro e w8 ⟨A8, k8, rfl, f8, hc8⟩
  have hch3 : Chg none_ w5 w8 := hch2.trans hc8
  refine hK.out _ _ hch3 (fun _ => ?_)
  clear hK K
  try simp only [Act.put, List.setIfInBounds_toArray, List.set_cons_zero, List.set_cons_succ, List.getElem_toArray, List.getElem_cons_succ, List.getElem_cons_zero]
  refine wpAnyH_ready (rs := [9]) (by kernel_rfl) (by simp) ?_
  refine AllReadyH.cons rfl (fun K hK => ?_) AllReadyH.nil
  rw [if_pos (by rfl)]
  try simp only [List.getElem_toArray, List.getElem_cons_succ, List.getElem_cons_zero]
  go_simp
  refine (HRPT.out _ (HC5.out.trans hch3)).mono ?_
  rintro e w9 ⟨A9, k9, rfl, f9, hc9⟩
  have hch4 : Chg none_ w5 w9 := hch3.trans hc9
  refine hK.out _ _ hch4 (fun _ => ?_)
  clear hK K
  try simp only [Act.put, List.setIfInBounds_toArray, List.set_cons_zero, List.set_cons_succ, List.getElem_toArray, List.getElem_cons_succ, List.getElem_cons_zero]
  refine wpAnyH_ready (rs := [10]) (by kernel_rfl) (by simp) ?_
  refine AllReadyH.cons rfl (fun K hK => ?_) AllReadyH.nil
  rw [if_pos (by rfl)]
  try simp only [List.getElem_toArray, List.getElem_cons_succ, List.getElem_cons_zero]
  go_simp
  have hsm := same_any w9 _ _ A8 A9 k8 k9 B B (f8.view.chg hc9 (fun _ _ h => h)) f9.view (by have := HPL.out; omega)
  rw [decide_eq_true rfl] at hsm
  refine hsm.mono ?_
  rintro e w10 ⟨rfl, nk, rfl⟩
  have hch5 : Chg none_ w5 (w9.drewN nk) := hch4.drewN nk
  refine hK.out _ _ hch5 (fun _ => ?_)
  clear hK K
  try simp only [Act.put, List.setIfInBounds_toArray, List.set_cons_zero, List.set_cons_succ, List.getElem_toArray, List.getElem_cons_succ, List.getElem_cons_zero]
  refine wpAnyH_take (i := 11) (v := .bool true) rfl (by kernel_rfl) (by kernel_rfl) (by kernel_rfl) (by first | exact fun _ _ _ h => h | exact fun _ _ _ h => nomatch h.1) (Or.inl ⟨by rfl, fun w' hw' => by go_simp⟩) hch5 ?_
  refine wpAnyH_take (i := 12) (v := .bool true) rfl (by kernel_rfl) (by kernel_rfl) (by kernel_rfl) (by first | exact fun _ _ _ h => h | exact fun _ _ _ h => nomatch h.1) (Or.inl ⟨by rfl, fun w' hw' => by go_simp⟩) hch5 ?_
  refine wpAnyH_take (i := 13) (v := .agg (cs).toArray) rfl (by kernel_rfl) (by kernel_rfl) (by kernel_rfl) (by first | exact fun _ _ _ h => h | exact fun _ _ _ h => nomatch h.1) (yieldsIf_load_mid (by rfl) 25 _ rfl W.heap.size 0 rfl (cs) _ (fun w' hw' => (HXh.out w' hw').range) Tryd.underlying25 rfl (by rw [hl9]; exact sizeH)) hch5 ?_
  refine wpAnyH_take (i := 14) (v := .agg (cs').toArray) rfl (by kernel_rfl) (by kernel_rfl) (by kernel_rfl) (by first | exact fun _ _ _ h => h | exact fun _ _ _ h => nomatch h.1) (yieldsIf_load_mid (by rfl) 25 _ rfl (W.heap.size + 1) 0 rfl (cs') _ (fun w' hw' => (HXg.out w' hw').range) Tryd.underlying25 rfl (by rw [hl9']; exact sizeH)) hch5 ?_
  refine wpAnyH_take (i := 16) (v := .agg (cs).toArray) rfl (by kernel_rfl) (by kernel_rfl) (by kernel_rfl) (by first | exact fun _ _ _ h => h | exact fun _ _ _ h => nomatch h.1) (yieldsIf_load_mid (by rfl) 25 _ rfl W.heap.size 0 rfl (cs) _ (fun w' hw' => (HXh.out w' hw').range) Tryd.underlying25 rfl (by rw [hl9]; exact sizeH)) hch5 ?_
  refine wpAnyH_take (i := 17) (v := .agg (cs').toArray) rfl (by kernel_rfl) (by kernel_rfl) (by kernel_rfl) (by first | exact fun _ _ _ h => h | exact fun _ _ _ h => nomatch h.1) (yieldsIf_load_mid (by rfl) 25 _ rfl (W.heap.size + 1) 0 rfl (cs') _ (fun w' hw' => (HXg.out w' hw').range) Tryd.underlying25 rfl (by rw [hl9']; exact sizeH)) hch5 ?_
  refine wpAnyH_ready (rs := [15]) (by kernel_rfl) (by simp) ?_
  refine AllReadyH.cons rfl (fun K hK => ?_) AllReadyH.nil
  rw [if_pos (by rfl)]
  try simp only [List.getElem_toArray, List.getElem_cons_succ, List.getElem_cons_zero]
  go_simp
  refine (HSM.out _ (HC5.out.trans hch5)).mono ?_
  rintro e w11 ⟨rfl, hc11⟩
  have hch6 : Chg none_ w5 w11 := hch5.trans hc11
  refine hK.out _ _ hch6 (fun _ => ?_)
  clear hK K
  try simp only [Act.put, List.setIfInBounds_toArray, List.set_cons_zero, List.set_cons_succ, List.getElem_toArray, List.getElem_cons_succ, List.getElem_cons_zero]
  refine wpAnyH_ready (rs := [18]) (by kernel_rfl) (by simp) ?_
  refine AllReadyH.cons rfl (fun K hK => ?_) AllReadyH.nil
  rw [if_pos (by rfl)]
  try simp only [List.getElem_toArray, List.getElem_cons_succ, List.getElem_cons_zero]
  go_simp
  refine (HRS.out _ (HC5.out.trans hch6)).mono ?_
  rintro e w12 ⟨rfl, hc12⟩
  have hch7 : Chg none_ w5 w12 := hch6.trans hc12
  refine hK.out _ _ hch7 (fun _ => ?_)
  clear hK K
  try simp only [Act.put, List.setIfInBounds_toArray, List.set_cons_zero, List.set_cons_succ, List.getElem_toArray, List.getElem_cons_succ, List.getElem_cons_zero]
  refine wpAnyH_take (i := 19) (v := .bool true) rfl (by kernel_rfl) (by kernel_rfl) (by kernel_rfl) (by first | exact fun _ _ _ h => h | exact fun _ _ _ h => nomatch h.1) (Or.inl ⟨by rfl, fun w' hw' => by go_simp⟩) hch7 ?_
  refine wpAnyH_take (i := 20) (v := .bool true) rfl (by kernel_rfl) (by kernel_rfl) (by kernel_rfl) (by first | exact fun _ _ _ h => h | exact fun _ _ _ h => nomatch h.1) (Or.inl ⟨by rfl, fun w' hw' => by go_simp⟩) hch7 ?_
  refine wpAnyH_ready (rs := [21]) (by kernel_rfl) (by simp) ?_
  refine AllReadyH.cons rfl (fun K hK => ?_) AllReadyH.nil
  rw [if_pos (by rfl)]
  try simp only [List.getElem_toArray, List.getElem_cons_succ, List.getElem_cons_zero]
  go_simp
  refine hK.out _ _ hch7 (fun _ => ?_)
  clear hK K
  try simp only [Act.put, List.setIfInBounds_toArray, List.set_cons_zero, List.set_cons_succ, List.getElem_toArray, List.getElem_cons_succ, List.getElem_cons_zero]
  refine wpAnyH_done (by kernel_rfl) ?_ _
  go_wp2
  go_ret
  exact ⟨rfl, HC5.out.trans hch7⟩

theorem walk_HeaderPuts (h : Hd) (v : Four) (g : Hd) (u : Four) (W : World) (xh : HdIn W h v) (oh : h.Ok) (lh : h.dst.length ≤ 140737488351232 ∧ h.src.length ≤ 140737488351232 ∧ h.token.length ≤ 140737488351232 ∧ h.cut.length ≤ 140737488351232) (xg : HdIn W g u) (og : g.Ok) (lg : g.dst.length ≤ 140737488351232 ∧ g.src.length ≤ 140737488351232 ∧ g.token.length ≤ 140737488351232 ∧ g.cut.length ≤ 140737488351232) (hT : Tab W) :
    Calls Tryd.prog 3 #[aggH h v, aggH g u] W fun e w' => e = .returned (.bool true) ∧ Chg none_ W w' := by
  cases qa : greatH h with
  | true => exact puts_gh h g v u W xh xg oh og hT qa
  | false =>
    cases qb : greatH g with
    | true => exact puts_gg h g v u W xh xg oh og hT qa qb
    | false => exact puts_ok h g v u W xh xg oh og hT lh lg qa qb
end Go.Proofs.YtnjojgknoecjiaaDoor
