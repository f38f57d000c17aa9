/- Layer 4 (header): the law HeaderApart. -/
import Derived.Test.YtfecmloaopbogaaDoorV4Alive
import Derived.Test.YtfecmloaopbogaaDoorV4Math
import Derived.Test.YtfecmloaopbogaaDoorV4Open
import Derived.Deep.RegionHeld3
namespace Go.Proofs.YtfecmloaopbogaaDoor
open Go.RowKit

/-- A short header's Rest is left out. -/
def cutRest (h : Hd) : Hd := if h.long then h else { h with rest := 0 }
theorem bytesH_len {h : Hd} (F : RightF h) : (bytesH h).length ≤ 1000 := by
  have h1 := wideB_len h.token.length
  have h2 := wideB_len (h.cut.length + h.rest.toNat)
  have := F.c4
  have := F.d
  have := F.s
  have := F.t
  unfold bytesH aheadH enI
  split
  · split
    · simp only [List.length_append, List.length_cons, List.length_nil, arr_len]; omega
    · simp only [List.length_append, List.length_cons, List.length_nil, arr_len]; omega
  · simp only [List.length_append, List.length_cons, List.length_nil]; omega
theorem putH_len (h : Hd) : (putH h).length ≤ 1000 := by
  unfold putH
  cases hr : rightH h with
  | false => simp
  | true => exact bytesH_len (rightF hr)
theorem right_rest {h : Hd} (F : RightF h) (hr : rightH h = true) : rightH { h with rest := 0 } = true := by
  unfold rightH rightN at hr ⊢
  simp only [Bool.and_eq_true, decide_eq_true_eq] at hr ⊢
  exact ⟨⟨F.c1, F.c4, F.d, F.s, by decide, by decide⟩, hr.2⟩
theorem RightF.hd {w : World} {h : Hd} {v : Four} (F : RightF h) (x : HdIn w h v) : HdD w (fun _ => True) h v :=
  x.hd (by have := F.d; omega) (by have := F.s; omega) (by have := F.t; omega) (by have := F.c4; omega)

set_option maxRecDepth 100000 in
set_option maxHeartbeats 2000000 in
theorem apart_gh (h g : Hd) (v u : Four) (W : World) (xh : HdIn W h v) (xg : HdIn W g u) (_oh : h.Ok) (_og : g.Ok) (hT : Tab W) (qa : greatH h = true) :
    Calls Tryd.prog 8 #[aggH h v, aggH g u] W fun e w' => e = .returned (.bool true) ∧ Chg none_ W w' := by
  have HGH := Lib.hid (fun w => great_any h v w xh.shape)
  have HGG := Lib.hid (fun w => great_any g u w xg.shape)
  have HRH := Lib.hid (fun w => right_sh h v w xh.shape)
  have HRG := Lib.hid (fun w => right_sh g u w xg.shape)
  have HAL := Lib.hid (fun w h => alive_any w h)
  have HTB := Lib.hid hT
  simp only [qa] at HGH
  clear xh xg _oh _og hT qa
  unfold aggH at *
  generalize hcs : cellsH h v = cs at *
  generalize hcs' : cellsH g u = cs' at *
  have hl9 : cs.length = 9 := by rw [← hcs]; rfl
  have hl9' : cs'.length = 9 := by rw [← hcs']; rfl
  have HC2 := Lib.hid (((Chg.refl none_ W).alloc (.cells cs.toArray 25)).alloc (.cells cs'.toArray 25))
  have HX : Hid (∀ w', Chg none_ ((W.alloc (.cells cs.toArray 25)).alloc (.cells cs'.toArray 25)) w' → Row w' W.heap.size 25 cs ∧ Row w' (W.heap.size + 1) 25 cs') := fun w' hc => ⟨(Row.new1 W _ _ cs).chg hc (fun h => h), (Row.new2 W _ _ cs').chg hc (fun h => h)⟩
  clear hcs hcs'
  go_enter Tryd.func8, Tryd.ntmps8
  go_wp2_with (first | ((with_reducible show wpList _ _ _ (⟨_, .load 25 (.tmp 2), _, _, _, _⟩ :: _) _ _); refine wlH rfl rfl rfl (HX.out _ (by assumption)).1 hl9 ?_) | ((with_reducible show wpList _ _ _ (⟨_, .load 25 (.tmp 3), _, _, _, _⟩ :: _) _ _); refine wlH rfl rfl rfl (HX.out _ (by assumption)).2 hl9' ?_) | (go_at_call 10; refine (HAL.out _ (HTB.out.chg HC2.out (fun h => h))).mono ?_; rintro e w3 ⟨rfl, c3⟩) | (go_at_call 11; first | (with_reducible refine (HGH.out _).mono ?_; rintro e w4 ⟨rfl, hc4⟩; have c4 := c3.trans hc4) | (with_reducible refine (HGG.out _).mono ?_; rintro e w5 ⟨rfl, hc5⟩; have c5 := c4.trans hc5)) | (go_at_call 12; first | (with_reducible refine (HRH.out _).mono ?_; rintro e w6 ⟨rfl, hc6⟩; have c6 := c5.trans hc6) | (with_reducible refine (HRG.out _).mono ?_; rintro e w7 ⟨rfl, hc7⟩; have c7 := c6.trans hc7)))
  go_ret
  exact ⟨rfl, HC2.out.trans c4⟩

set_option maxRecDepth 100000 in
set_option maxHeartbeats 2000000 in
theorem apart_gg (h g : Hd) (v u : Four) (W : World) (xh : HdIn W h v) (xg : HdIn W g u) (_oh : h.Ok) (_og : g.Ok) (hT : Tab W) (qa : greatH h = false) (qb : greatH g = true) :
    Calls Tryd.prog 8 #[aggH h v, aggH g u] W fun e w' => e = .returned (.bool true) ∧ Chg none_ W w' := by
  have HGH := Lib.hid (fun w => great_any h v w xh.shape)
  have HGG := Lib.hid (fun w => great_any g u w xg.shape)
  have HRH := Lib.hid (fun w => right_sh h v w xh.shape)
  have HRG := Lib.hid (fun w => right_sh g u w xg.shape)
  have HAL := Lib.hid (fun w h => alive_any w h)
  have HTB := Lib.hid hT
  simp only [qa] at HGH
  simp only [qb] at HGG
  clear xh xg _oh _og hT qa qb
  unfold aggH at *
  generalize hcs : cellsH h v = cs at *
  generalize hcs' : cellsH g u = cs' at *
  have hl9 : cs.length = 9 := by rw [← hcs]; rfl
  have hl9' : cs'.length = 9 := by rw [← hcs']; rfl
  have HC2 := Lib.hid (((Chg.refl none_ W).alloc (.cells cs.toArray 25)).alloc (.cells cs'.toArray 25))
  have HX : Hid (∀ w', Chg none_ ((W.alloc (.cells cs.toArray 25)).alloc (.cells cs'.toArray 25)) w' → Row w' W.heap.size 25 cs ∧ Row w' (W.heap.size + 1) 25 cs') := fun w' hc => ⟨(Row.new1 W _ _ cs).chg hc (fun h => h), (Row.new2 W _ _ cs').chg hc (fun h => h)⟩
  clear hcs hcs'
  go_enter Tryd.func8, Tryd.ntmps8
  go_wp2_with (first | ((with_reducible show wpList _ _ _ (⟨_, .load 25 (.tmp 2), _, _, _, _⟩ :: _) _ _); refine wlH rfl rfl rfl (HX.out _ (by assumption)).1 hl9 ?_) | ((with_reducible show wpList _ _ _ (⟨_, .load 25 (.tmp 3), _, _, _, _⟩ :: _) _ _); refine wlH rfl rfl rfl (HX.out _ (by assumption)).2 hl9' ?_) | (go_at_call 10; refine (HAL.out _ (HTB.out.chg HC2.out (fun h => h))).mono ?_; rintro e w3 ⟨rfl, c3⟩) | (go_at_call 11; first | (with_reducible refine (HGH.out _).mono ?_; rintro e w4 ⟨rfl, hc4⟩; have c4 := c3.trans hc4) | (with_reducible refine (HGG.out _).mono ?_; rintro e w5 ⟨rfl, hc5⟩; have c5 := c4.trans hc5)) | (go_at_call 12; first | (with_reducible refine (HRH.out _).mono ?_; rintro e w6 ⟨rfl, hc6⟩; have c6 := c5.trans hc6) | (with_reducible refine (HRG.out _).mono ?_; rintro e w7 ⟨rfl, hc7⟩; have c7 := c6.trans hc7)))
  go_ret
  exact ⟨rfl, HC2.out.trans c5⟩

set_option maxRecDepth 100000 in
set_option maxHeartbeats 2000000 in
theorem apart_rh (h g : Hd) (v u : Four) (W : World) (xh : HdIn W h v) (xg : HdIn W g u) (_oh : h.Ok) (_og : g.Ok) (hT : Tab W) (qa : greatH h = false) (qb : greatH g = false) (qc : rightH h = false) :
    Calls Tryd.prog 8 #[aggH h v, aggH g u] W fun e w' => e = .returned (.bool true) ∧ Chg none_ W w' := by
  have HGH := Lib.hid (fun w => great_any h v w xh.shape)
  have HGG := Lib.hid (fun w => great_any g u w xg.shape)
  have HRH := Lib.hid (fun w => right_sh h v w xh.shape)
  have HRG := Lib.hid (fun w => right_sh g u w xg.shape)
  have HAL := Lib.hid (fun w h => alive_any w h)
  have HTB := Lib.hid hT
  simp only [qa] at HGH
  simp only [qb] at HGG
  simp only [qc] at HRH
  clear xh xg _oh _og hT qa qb qc
  unfold aggH at *
  generalize hcs : cellsH h v = cs at *
  generalize hcs' : cellsH g u = cs' at *
  have hl9 : cs.length = 9 := by rw [← hcs]; rfl
  have hl9' : cs'.length = 9 := by rw [← hcs']; rfl
  have HC2 := Lib.hid (((Chg.refl none_ W).alloc (.cells cs.toArray 25)).alloc (.cells cs'.toArray 25))
  have HX : Hid (∀ w', Chg none_ ((W.alloc (.cells cs.toArray 25)).alloc (.cells cs'.toArray 25)) w' → Row w' W.heap.size 25 cs ∧ Row w' (W.heap.size + 1) 25 cs') := fun w' hc => ⟨(Row.new1 W _ _ cs).chg hc (fun h => h), (Row.new2 W _ _ cs').chg hc (fun h => h)⟩
  clear hcs hcs'
  go_enter Tryd.func8, Tryd.ntmps8
  go_wp2_with (first | ((with_reducible show wpList _ _ _ (⟨_, .load 25 (.tmp 2), _, _, _, _⟩ :: _) _ _); refine wlH rfl rfl rfl (HX.out _ (by assumption)).1 hl9 ?_) | ((with_reducible show wpList _ _ _ (⟨_, .load 25 (.tmp 3), _, _, _, _⟩ :: _) _ _); refine wlH rfl rfl rfl (HX.out _ (by assumption)).2 hl9' ?_) | (go_at_call 10; refine (HAL.out _ (HTB.out.chg HC2.out (fun h => h))).mono ?_; rintro e w3 ⟨rfl, c3⟩) | (go_at_call 11; first | (with_reducible refine (HGH.out _).mono ?_; rintro e w4 ⟨rfl, hc4⟩; have c4 := c3.trans hc4) | (with_reducible refine (HGG.out _).mono ?_; rintro e w5 ⟨rfl, hc5⟩; have c5 := c4.trans hc5)) | (go_at_call 12; first | (with_reducible refine (HRH.out _).mono ?_; rintro e w6 ⟨rfl, hc6⟩; have c6 := c5.trans hc6) | (with_reducible refine (HRG.out _).mono ?_; rintro e w7 ⟨rfl, hc7⟩; have c7 := c6.trans hc7)))
  go_ret
  exact ⟨rfl, HC2.out.trans c6⟩

set_option maxRecDepth 100000 in
set_option maxHeartbeats 2000000 in
theorem apart_rg (h g : Hd) (v u : Four) (W : World) (xh : HdIn W h v) (xg : HdIn W g u) (_oh : h.Ok) (_og : g.Ok) (hT : Tab W) (qa : greatH h = false) (qb : greatH g = false) (qc : rightH h = true) (qd : rightH g = false) :
    Calls Tryd.prog 8 #[aggH h v, aggH g u] W fun e w' => e = .returned (.bool true) ∧ Chg none_ W w' := by
  have HGH := Lib.hid (fun w => great_any h v w xh.shape)
  have HGG := Lib.hid (fun w => great_any g u w xg.shape)
  have HRH := Lib.hid (fun w => right_sh h v w xh.shape)
  have HRG := Lib.hid (fun w => right_sh g u w xg.shape)
  have HAL := Lib.hid (fun w h => alive_any w h)
  have HTB := Lib.hid hT
  simp only [qa] at HGH
  simp only [qb] at HGG
  simp only [qc] at HRH
  simp only [qd] at HRG
  clear xh xg _oh _og hT qa qb qc qd
  unfold aggH at *
  generalize hcs : cellsH h v = cs at *
  generalize hcs' : cellsH g u = cs' at *
  have hl9 : cs.length = 9 := by rw [← hcs]; rfl
  have hl9' : cs'.length = 9 := by rw [← hcs']; rfl
  have HC2 := Lib.hid (((Chg.refl none_ W).alloc (.cells cs.toArray 25)).alloc (.cells cs'.toArray 25))
  have HX : Hid (∀ w', Chg none_ ((W.alloc (.cells cs.toArray 25)).alloc (.cells cs'.toArray 25)) w' → Row w' W.heap.size 25 cs ∧ Row w' (W.heap.size + 1) 25 cs') := fun w' hc => ⟨(Row.new1 W _ _ cs).chg hc (fun h => h), (Row.new2 W _ _ cs').chg hc (fun h => h)⟩
  clear hcs hcs'
  go_enter Tryd.func8, Tryd.ntmps8
  go_wp2_with (first | ((with_reducible show wpList _ _ _ (⟨_, .load 25 (.tmp 2), _, _, _, _⟩ :: _) _ _); refine wlH rfl rfl rfl (HX.out _ (by assumption)).1 hl9 ?_) | ((with_reducible show wpList _ _ _ (⟨_, .load 25 (.tmp 3), _, _, _, _⟩ :: _) _ _); refine wlH rfl rfl rfl (HX.out _ (by assumption)).2 hl9' ?_) | (go_at_call 10; refine (HAL.out _ (HTB.out.chg HC2.out (fun h => h))).mono ?_; rintro e w3 ⟨rfl, c3⟩) | (go_at_call 11; first | (with_reducible refine (HGH.out _).mono ?_; rintro e w4 ⟨rfl, hc4⟩; have c4 := c3.trans hc4) | (with_reducible refine (HGG.out _).mono ?_; rintro e w5 ⟨rfl, hc5⟩; have c5 := c4.trans hc5)) | (go_at_call 12; first | (with_reducible refine (HRH.out _).mono ?_; rintro e w6 ⟨rfl, hc6⟩; have c6 := c5.trans hc6) | (with_reducible refine (HRG.out _).mono ?_; rintro e w7 ⟨rfl, hc7⟩; have c7 := c6.trans hc7)))
  go_ret
  exact ⟨rfl, HC2.out.trans c7⟩

set_option maxRecDepth 100000 in
set_option maxHeartbeats 2000000 in
theorem apart_ll (h g : Hd) (v u : Four) (W : World) (xh : HdIn W h v) (xg : HdIn W g u) (oh : h.Ok) (og : g.Ok) (hT : Tab W) (qa : greatH h = false) (qb : greatH g = false) (qc : rightH h = true) (qd : rightH g = true) (la : h.long = true) (lb : g.long = true) :
    Calls Tryd.prog 8 #[aggH h v, aggH g u] W fun e w' => e = .returned (.bool true) ∧ Chg none_ W w' := by
  have HGH := Lib.hid (fun w => great_any h v w xh.shape)
  have HGG := Lib.hid (fun w => great_any g u w xg.shape)
  have HRH := Lib.hid (fun w => right_sh h v w xh.shape)
  have HRG := Lib.hid (fun w => right_sh g u w xg.shape)
  have HAL := Lib.hid (fun w h => alive_any w h)
  have HTB := Lib.hid hT
  simp only [qa] at HGH
  simp only [qb] at HGG
  simp only [qc] at HRH
  simp only [qd] at HRG
  have FH := rightF qc
  have FG := rightF qd
  have HDH := Lib.hid (FH.hd xh)
  have HDG := Lib.hid (FG.hd xg)
  have eh : cutRest h = h := by unfold cutRest; rw [la]; rfl
  have eg : cutRest g = g := by unfold cutRest; rw [lb]; rfl
  have HRh : rightH (cutRest h) = true ∧ (cutRest h).Ok ∧ ((cutRest h).long = false → (cutRest h).rest = 0) := by
    rw [eh]
    exact ⟨qc, oh, fun q => absurd (q.symm.trans la) (by decide)⟩
  have HRg : rightH (cutRest g) = true ∧ (cutRest g).Ok ∧ ((cutRest g).long = false → (cutRest g).rest = 0) := by
    rw [eg]
    exact ⟨qd, og, fun q => absurd (q.symm.trans lb) (by decide)⟩
  have HOH := Lib.hid HRh.2.1
  have HOG := Lib.hid HRg.2.1
  have HEQ : Hid (decide (putH (cutRest h) = putH (cutRest g)) = decide (cutRest h = cutRest g)) := by
    show _ = _
    rw [Bool.eq_iff_iff]
    simp only [decide_eq_true_eq]
    unfold putH
    rw [HRh.1, HRg.1]
    simp only [if_true]
    exact ⟨apart_h HRh.1 HRg.1 HRh.2.1 HRg.2.1 HRh.2.2 HRg.2.2, fun e => by rw [e]⟩
  have HV1 : Hid ((cutRest h).version < 4294967296) := HRh.2.1.v1
  have HV2 : Hid ((cutRest g).version < 4294967296) := HRg.2.1.v1
  have h0 := cH_0 h v
  have h8 := cH_8 h v
  have g0 := cH_0 g u
  have g8 := cH_8 g u
  rw [la] at h0
  rw [lb] at g0
  have HCH : Hid (cellsH (cutRest h) v = cellsH h v) := by show _ = _; rw [eh]
  have HCG : Hid (cellsH (cutRest g) u = cellsH g u) := by show _ = _; rw [eg]
  have HDH2 : Hid (HdD W (fun _ => True) (cutRest h) v) := by show HdD _ _ _ _; rw [eh]; exact ⟨HDH.out.d, HDH.out.s, HDH.out.t, HDH.out.c⟩
  have HDG2 : Hid (HdD W (fun _ => True) (cutRest g) u) := by show HdD _ _ _ _; rw [eg]; exact ⟨HDG.out.d, HDG.out.s, HDG.out.t, HDG.out.c⟩
  clear xh xg oh og hT qa qb qc qd FH FG eh eg HRh HRg la lb HDH HDG
  unfold aggH at *
  generalize hcs : cellsH h v = cs at HGH HRH h0 h8 HCH ⊢
  generalize hcs' : cellsH g u = cs' at HGG HRG g0 g8 HCG ⊢
  have hl9 : cs.length = 9 := by rw [← hcs]; rfl
  have hl9' : cs'.length = 9 := by rw [← hcs']; rfl
  have HC2 := Lib.hid (((Chg.refl none_ W).alloc (.cells cs.toArray 25)).alloc (.cells cs'.toArray 25))
  have HX : Hid (∀ w', Chg none_ ((W.alloc (.cells cs.toArray 25)).alloc (.cells cs'.toArray 25)) w' → Row w' W.heap.size 25 cs ∧ Row w' (W.heap.size + 1) 25 cs') := fun w' hc => ⟨(Row.new1 W _ _ cs).chg hc (fun h => h), (Row.new2 W _ _ cs').chg hc (fun h => h)⟩
  clear hcs hcs'
  generalize cutRest h = hh at *
  generalize cutRest g = gg at *
  go_enter Tryd.func8, Tryd.ntmps8
  go_wp2_with (first | ((with_reducible show wpList _ _ _ (⟨_, .load 25 (.tmp 2), _, _, _, _⟩ :: _) _ _); refine wlH rfl rfl rfl (HX.out _ (by assumption)).1 hl9 ?_) | ((with_reducible show wpList _ _ _ (⟨_, .load 25 (.tmp 3), _, _, _, _⟩ :: _) _ _); refine wlH rfl rfl rfl (HX.out _ (by assumption)).2 hl9' ?_) | (go_at_call 10; refine (HAL.out _ (HTB.out.chg HC2.out (fun h => h))).mono ?_; rintro e w3 ⟨rfl, c3⟩) | (go_at_call 11; first | (with_reducible refine (HGH.out _).mono ?_; rintro e w4 ⟨rfl, hc4⟩; have c4 := c3.trans hc4) | (with_reducible refine (HGG.out _).mono ?_; rintro e w5 ⟨rfl, hc5⟩; have c5 := c4.trans hc5)) | (go_at_call 12; first | (with_reducible refine (HRH.out _).mono ?_; rintro e w6 ⟨rfl, hc6⟩; have c6 := c5.trans hc6) | (with_reducible refine (HRG.out _).mono ?_; rintro e w7 ⟨rfl, hc7⟩; have c7 := c6.trans hc7; have kh0 := ((HX.out _ c7).1.cell 0).trans h0; have kh8 := ((HX.out _ c7).1.cell 8).trans h8; have fh8 := (HX.out _ c7).1.frozen 8; have kg0 := ((HX.out _ c7).2.cell 0).trans g0; have kg8 := ((HX.out _ c7).2.cell 8).trans g8; have fg8 := (HX.out _ c7).2.frozen 8)))
  have HC7 := Lib.hid (HC2.out.trans c7)
  have r7h := (HX.out _ c7).1
  have r7g := (HX.out _ c7).2
  clear kh0 kh8 fh8 kg0 kg8 fg8 h0 h8 g0 g8 HX
  have R8h := Lib.hid r7h
  have R8g := Lib.hid r7g
  have HC8 := Lib.hid HC7.out
  rw [← HCH.out] at R8h
  rw [← HCG.out] at R8g
  clear r7h r7g HC7
  generalize w7 = W8 at *
  have hch0 : Chg none_ W8 W8.drew := (Chg.refl _ _).drew
  have HXh : Hid (∀ w', Chg none_ W8 w' → Row w' W.heap.size 25 (cellsH hh v)) := fun w' hc => R8h.out.chg hc (fun h => h)
  have HXg : Hid (∀ w', Chg none_ W8 w' → Row w' (W.heap.size + 1) 25 (cellsH gg u)) := fun w' hc => R8g.out.chg hc (fun h => h)
  refine wp_region_held_drew (S := fun w' => Chg none_ W8 w') (by kernel_rfl) hch0 (fun _ => ?_)
  refine wpAnyH_take (i := 0) (v := .agg (cellsH hh v).toArray) rfl (by kernel_rfl) (by kernel_rfl) (by kernel_rfl) (by first | exact fun _ _ _ h => h | exact fun _ _ _ h => nomatch h.1) (yieldsIf_load_mid (by rfl) 25 _ rfl W.heap.size 0 rfl (cellsH hh v) _ (fun w' hw' => (HXh.out w' hw').range) Tryd.underlying25 rfl (by exact sizeH)) hch0 ?_
  refine wpAnyH_take (i := 2) (v := .agg (cellsH gg u).toArray) rfl (by kernel_rfl) (by kernel_rfl) (by kernel_rfl) (by first | exact fun _ _ _ h => h | exact fun _ _ _ h => nomatch h.1) (yieldsIf_load_mid (by rfl) 25 _ rfl (W.heap.size + 1) 0 rfl (cellsH gg u) _ (fun w' hw' => (HXg.out w' hw').range) Tryd.underlying25 rfl (by exact sizeH)) hch0 ?_
  refine wpAnyH_take (i := 5) (v := .agg (cellsH hh v).toArray) rfl (by kernel_rfl) (by kernel_rfl) (by kernel_rfl) (by first | exact fun _ _ _ h => h | exact fun _ _ _ h => nomatch h.1) (yieldsIf_load_mid (by rfl) 25 _ rfl W.heap.size 0 rfl (cellsH hh v) _ (fun w' hw' => (HXh.out w' hw').range) Tryd.underlying25 rfl (by exact sizeH)) hch0 ?_
  refine wpAnyH_take (i := 6) (v := .agg (cellsH gg u).toArray) rfl (by kernel_rfl) (by kernel_rfl) (by kernel_rfl) (by first | exact fun _ _ _ h => h | exact fun _ _ _ h => nomatch h.1) (yieldsIf_load_mid (by rfl) 25 _ rfl (W.heap.size + 1) 0 rfl (cellsH gg u) _ (fun w' hw' => (HXg.out w' hw').range) Tryd.underlying25 rfl (by exact sizeH)) hch0 ?_
  refine wpAnyH_ready (rs := [1]) (by kernel_rfl) (by simp) ?_
  refine AllReadyH.cons rfl (fun K hK => ?_) AllReadyH.nil
  rw [if_pos (by rfl)]
  try simp only [List.getElem_toArray, List.getElem_cons_succ, List.getElem_cons_zero]
  go_simp
  refine (put_hd hh v W8.drew _ (HDH2.out.chg (HC8.out.trans hch0) (fun _ _ h => h)) HV1.out (HTB.out.chg (HC8.out.trans hch0) (fun h => h))).mono ?_
  rintro e w9 ⟨A9, k9, rfl, f9, hc9⟩
  have hch1 : Chg none_ W8 w9 := hch0.trans hc9
  refine hK.out _ _ hch1 (fun _ => ?_)
  clear hK K
  try simp only [Act.put, List.setIfInBounds_toArray, List.set_cons_zero, List.set_cons_succ, List.getElem_toArray, List.getElem_cons_succ, List.getElem_cons_zero]
  refine wpAnyH_ready (rs := [3]) (by kernel_rfl) (by simp) ?_
  refine AllReadyH.cons rfl (fun K hK => ?_) AllReadyH.nil
  rw [if_pos (by rfl)]
  try simp only [List.getElem_toArray, List.getElem_cons_succ, List.getElem_cons_zero]
  go_simp
  refine (put_hd gg u w9 _ (HDG2.out.chg (HC8.out.trans hch1) (fun _ _ h => h)) HV2.out (HTB.out.chg (HC8.out.trans hch1) (fun h => h))).mono ?_
  rintro e w10 ⟨A10, k10, rfl, f10, hc10⟩
  have hch2 : Chg none_ W8 w10 := hch1.trans hc10
  refine hK.out _ _ hch2 (fun _ => ?_)
  clear hK K
  try simp only [Act.put, List.setIfInBounds_toArray, List.set_cons_zero, List.set_cons_succ, List.getElem_toArray, List.getElem_cons_succ, List.getElem_cons_zero]
  refine wpAnyH_ready (rs := [4]) (by kernel_rfl) (by simp) ?_
  refine AllReadyH.cons rfl (fun K hK => ?_) AllReadyH.nil
  rw [if_pos (by rfl)]
  try simp only [List.getElem_toArray, List.getElem_cons_succ, List.getElem_cons_zero]
  go_simp
  refine (same_any w10 _ _ A9 A10 k9 k10 (putH hh) (putH gg) (f9.view.chg hc10 (fun _ _ h => h)) f10.view (by have := putH_len hh; omega)).mono ?_
  rintro e w11 ⟨rfl, nk, rfl⟩
  have hch3 : Chg none_ W8 (w10.drewN nk) := hch2.drewN nk
  refine hK.out _ _ hch3 (fun _ => ?_)
  clear hK K
  try simp only [Act.put, List.setIfInBounds_toArray, List.set_cons_zero, List.set_cons_succ, List.getElem_toArray, List.getElem_cons_succ, List.getElem_cons_zero]
  refine wpAnyH_ready (rs := [7]) (by kernel_rfl) (by simp) ?_
  refine AllReadyH.cons rfl (fun K hK => ?_) AllReadyH.nil
  rw [if_pos (by rfl)]
  try simp only [List.getElem_toArray, List.getElem_cons_succ, List.getElem_cons_zero]
  go_simp
  refine (sameH_any hh gg v u (w10.drewN nk) _ _ (HDH2.out.chg (HC8.out.trans hch3) (fun _ _ h => h)) (HDG2.out.chg (HC8.out.trans hch3) (fun _ _ h => h)) HOH.out HOG.out).mono ?_
  rintro e w12 ⟨rfl, hc12⟩
  rw [← HEQ.out]
  have hch4 : Chg none_ W8 w12 := hch3.trans hc12
  refine hK.out _ _ hch4 (fun _ => ?_)
  clear hK K
  try simp only [Act.put, List.setIfInBounds_toArray, List.set_cons_zero, List.set_cons_succ, List.getElem_toArray, List.getElem_cons_succ, List.getElem_cons_zero]
  refine wpAnyH_take (i := 8) (v := .bool true) rfl (by kernel_rfl) (by kernel_rfl) (by kernel_rfl) (by first | exact fun _ _ _ h => h | exact fun _ _ _ h => nomatch h.1) (Or.inl ⟨by rfl, fun w' hw' => by go_simp⟩) hch4 ?_
  refine wpAnyH_ready (rs := [9]) (by kernel_rfl) (by simp) ?_
  refine AllReadyH.cons rfl (fun K hK => ?_) AllReadyH.nil
  rw [if_pos (by rfl)]
  try simp only [List.getElem_toArray, List.getElem_cons_succ, List.getElem_cons_zero]
  go_simp
  refine hK.out _ _ hch4 (fun _ => ?_)
  clear hK K
  try simp only [Act.put, List.setIfInBounds_toArray, List.set_cons_zero, List.set_cons_succ, List.getElem_toArray, List.getElem_cons_succ, List.getElem_cons_zero]
  refine wpAnyH_done (by kernel_rfl) ?_ _
  go_wp2
  go_ret
  exact ⟨rfl, HC8.out.trans hch4⟩

set_option maxRecDepth 100000 in
set_option maxHeartbeats 2000000 in
theorem apart_ls (h g : Hd) (v u : Four) (W : World) (xh : HdIn W h v) (xg : HdIn W g u) (oh : h.Ok) (og : g.Ok) (hT : Tab W) (qa : greatH h = false) (qb : greatH g = false) (qc : rightH h = true) (qd : rightH g = true) (la : h.long = true) (lb : g.long = false) :
    Calls Tryd.prog 8 #[aggH h v, aggH g u] W fun e w' => e = .returned (.bool true) ∧ Chg none_ W w' := by
  have HGH := Lib.hid (fun w => great_any h v w xh.shape)
  have HGG := Lib.hid (fun w => great_any g u w xg.shape)
  have HRH := Lib.hid (fun w => right_sh h v w xh.shape)
  have HRG := Lib.hid (fun w => right_sh g u w xg.shape)
  have HAL := Lib.hid (fun w h => alive_any w h)
  have HTB := Lib.hid hT
  simp only [qa] at HGH
  simp only [qb] at HGG
  simp only [qc] at HRH
  simp only [qd] at HRG
  have FH := rightF qc
  have FG := rightF qd
  have HDH := Lib.hid (FH.hd xh)
  have HDG := Lib.hid (FG.hd xg)
  have eh : cutRest h = h := by unfold cutRest; rw [la]; rfl
  have eg : cutRest g = { g with rest := 0 } := by unfold cutRest; rw [lb]; rfl
  have HRh : rightH (cutRest h) = true ∧ (cutRest h).Ok ∧ ((cutRest h).long = false → (cutRest h).rest = 0) := by
    rw [eh]
    exact ⟨qc, oh, fun q => absurd (q.symm.trans la) (by decide)⟩
  have HRg : rightH (cutRest g) = true ∧ (cutRest g).Ok ∧ ((cutRest g).long = false → (cutRest g).rest = 0) := by
    rw [eg]
    exact ⟨right_rest FG qd, ⟨og.k0, og.k1, og.v1, (by show (-9223372036854775808 : Int) ≤ 0; decide), (by show (0 : Int) < 9223372036854775808; decide), og.dst, og.src, og.token, og.cut⟩, fun _ => rfl⟩
  have HOH := Lib.hid HRh.2.1
  have HOG := Lib.hid HRg.2.1
  have HEQ : Hid (decide (putH (cutRest h) = putH (cutRest g)) = decide (cutRest h = cutRest g)) := by
    show _ = _
    rw [Bool.eq_iff_iff]
    simp only [decide_eq_true_eq]
    unfold putH
    rw [HRh.1, HRg.1]
    simp only [if_true]
    exact ⟨apart_h HRh.1 HRg.1 HRh.2.1 HRg.2.1 HRh.2.2 HRg.2.2, fun e => by rw [e]⟩
  have HV1 : Hid ((cutRest h).version < 4294967296) := HRh.2.1.v1
  have HV2 : Hid ((cutRest g).version < 4294967296) := HRg.2.1.v1
  have h0 := cH_0 h v
  have h8 := cH_8 h v
  have g0 := cH_0 g u
  have g8 := cH_8 g u
  rw [la] at h0
  rw [lb] at g0
  have HCH : Hid (cellsH (cutRest h) v = cellsH h v) := by show _ = _; rw [eh]
  have HCG : Hid (cellsH (cutRest g) u = (cellsH g u).set 8 (.int .i64 0)) := by show _ = _; rw [eg]; rfl
  have HDH2 : Hid (HdD W (fun _ => True) (cutRest h) v) := by show HdD _ _ _ _; rw [eh]; exact ⟨HDH.out.d, HDH.out.s, HDH.out.t, HDH.out.c⟩
  have HDG2 : Hid (HdD W (fun _ => True) (cutRest g) u) := by show HdD _ _ _ _; rw [eg]; exact ⟨HDG.out.d, HDG.out.s, HDG.out.t, HDG.out.c⟩
  clear xh xg oh og hT qa qb qc qd FH FG eh eg HRh HRg la lb HDH HDG
  unfold aggH at *
  generalize hcs : cellsH h v = cs at HGH HRH h0 h8 HCH ⊢
  generalize hcs' : cellsH g u = cs' at HGG HRG g0 g8 HCG ⊢
  have hl9 : cs.length = 9 := by rw [← hcs]; rfl
  have hl9' : cs'.length = 9 := by rw [← hcs']; rfl
  have HC2 := Lib.hid (((Chg.refl none_ W).alloc (.cells cs.toArray 25)).alloc (.cells cs'.toArray 25))
  have HX : Hid (∀ w', Chg none_ ((W.alloc (.cells cs.toArray 25)).alloc (.cells cs'.toArray 25)) w' → Row w' W.heap.size 25 cs ∧ Row w' (W.heap.size + 1) 25 cs') := fun w' hc => ⟨(Row.new1 W _ _ cs).chg hc (fun h => h), (Row.new2 W _ _ cs').chg hc (fun h => h)⟩
  clear hcs hcs'
  generalize cutRest h = hh at *
  generalize cutRest g = gg at *
  go_enter Tryd.func8, Tryd.ntmps8
  go_wp2_with (first | ((with_reducible show wpList _ _ _ (⟨_, .load 25 (.tmp 2), _, _, _, _⟩ :: _) _ _); refine wlH rfl rfl rfl (HX.out _ (by assumption)).1 hl9 ?_) | ((with_reducible show wpList _ _ _ (⟨_, .load 25 (.tmp 3), _, _, _, _⟩ :: _) _ _); refine wlH rfl rfl rfl (HX.out _ (by assumption)).2 hl9' ?_) | (go_at_call 10; refine (HAL.out _ (HTB.out.chg HC2.out (fun h => h))).mono ?_; rintro e w3 ⟨rfl, c3⟩) | (go_at_call 11; first | (with_reducible refine (HGH.out _).mono ?_; rintro e w4 ⟨rfl, hc4⟩; have c4 := c3.trans hc4) | (with_reducible refine (HGG.out _).mono ?_; rintro e w5 ⟨rfl, hc5⟩; have c5 := c4.trans hc5)) | (go_at_call 12; first | (with_reducible refine (HRH.out _).mono ?_; rintro e w6 ⟨rfl, hc6⟩; have c6 := c5.trans hc6) | (with_reducible refine (HRG.out _).mono ?_; rintro e w7 ⟨rfl, hc7⟩; have c7 := c6.trans hc7; have kh0 := ((HX.out _ c7).1.cell 0).trans h0; have kh8 := ((HX.out _ c7).1.cell 8).trans h8; have fh8 := (HX.out _ c7).1.frozen 8; have kg0 := ((HX.out _ c7).2.cell 0).trans g0; have kg8 := ((HX.out _ c7).2.cell 8).trans g8; have fg8 := (HX.out _ c7).2.frozen 8)))
  have HC7 := Lib.hid (HC2.out.trans c7)
  have r7h := (HX.out _ c7).1
  have r7g := (HX.out _ c7).2
  clear kh0 kh8 fh8 kg0 kg8 fg8 h0 h8 g0 g8 HX
  have R8h := Lib.hid (r7h.far (p := ⟨W.heap.size + 1, 8, none⟩) (Nat.succ_ne_self _).symm (.int .i64 0))
  have R8g := Lib.hid (r7g.set 8 (.int .i64 0))
  have HC8 := Lib.hid (HC7.out.setCell (p := ⟨W.heap.size + 1, 8, none⟩) (fun h => absurd h (by simp)) (.int .i64 0))
  rw [← HCH.out] at R8h
  rw [← HCG.out] at R8g
  clear r7h r7g HC7
  generalize (w7.setCell ⟨W.heap.size + 1, 8, none⟩ (.int .i64 0)) = W8 at *
  have hch0 : Chg none_ W8 W8.drew := (Chg.refl _ _).drew
  have HXh : Hid (∀ w', Chg none_ W8 w' → Row w' W.heap.size 25 (cellsH hh v)) := fun w' hc => R8h.out.chg hc (fun h => h)
  have HXg : Hid (∀ w', Chg none_ W8 w' → Row w' (W.heap.size + 1) 25 (cellsH gg u)) := fun w' hc => R8g.out.chg hc (fun h => h)
  refine wp_region_held_drew (S := fun w' => Chg none_ W8 w') (by kernel_rfl) hch0 (fun _ => ?_)
  refine wpAnyH_take (i := 0) (v := .agg (cellsH hh v).toArray) rfl (by kernel_rfl) (by kernel_rfl) (by kernel_rfl) (by first | exact fun _ _ _ h => h | exact fun _ _ _ h => nomatch h.1) (yieldsIf_load_mid (by rfl) 25 _ rfl W.heap.size 0 rfl (cellsH hh v) _ (fun w' hw' => (HXh.out w' hw').range) Tryd.underlying25 rfl (by exact sizeH)) hch0 ?_
  refine wpAnyH_take (i := 2) (v := .agg (cellsH gg u).toArray) rfl (by kernel_rfl) (by kernel_rfl) (by kernel_rfl) (by first | exact fun _ _ _ h => h | exact fun _ _ _ h => nomatch h.1) (yieldsIf_load_mid (by rfl) 25 _ rfl (W.heap.size + 1) 0 rfl (cellsH gg u) _ (fun w' hw' => (HXg.out w' hw').range) Tryd.underlying25 rfl (by exact sizeH)) hch0 ?_
  refine wpAnyH_take (i := 5) (v := .agg (cellsH hh v).toArray) rfl (by kernel_rfl) (by kernel_rfl) (by kernel_rfl) (by first | exact fun _ _ _ h => h | exact fun _ _ _ h => nomatch h.1) (yieldsIf_load_mid (by rfl) 25 _ rfl W.heap.size 0 rfl (cellsH hh v) _ (fun w' hw' => (HXh.out w' hw').range) Tryd.underlying25 rfl (by exact sizeH)) hch0 ?_
  refine wpAnyH_take (i := 6) (v := .agg (cellsH gg u).toArray) rfl (by kernel_rfl) (by kernel_rfl) (by kernel_rfl) (by first | exact fun _ _ _ h => h | exact fun _ _ _ h => nomatch h.1) (yieldsIf_load_mid (by rfl) 25 _ rfl (W.heap.size + 1) 0 rfl (cellsH gg u) _ (fun w' hw' => (HXg.out w' hw').range) Tryd.underlying25 rfl (by exact sizeH)) hch0 ?_
  refine wpAnyH_ready (rs := [1]) (by kernel_rfl) (by simp) ?_
  refine AllReadyH.cons rfl (fun K hK => ?_) AllReadyH.nil
  rw [if_pos (by rfl)]
  try simp only [List.getElem_toArray, List.getElem_cons_succ, List.getElem_cons_zero]
  go_simp
  refine (put_hd hh v W8.drew _ (HDH2.out.chg (HC8.out.trans hch0) (fun _ _ h => h)) HV1.out (HTB.out.chg (HC8.out.trans hch0) (fun h => h))).mono ?_
  rintro e w9 ⟨A9, k9, rfl, f9, hc9⟩
  have hch1 : Chg none_ W8 w9 := hch0.trans hc9
  refine hK.out _ _ hch1 (fun _ => ?_)
  clear hK K
  try simp only [Act.put, List.setIfInBounds_toArray, List.set_cons_zero, List.set_cons_succ, List.getElem_toArray, List.getElem_cons_succ, List.getElem_cons_zero]
  refine wpAnyH_ready (rs := [3]) (by kernel_rfl) (by simp) ?_
  refine AllReadyH.cons rfl (fun K hK => ?_) AllReadyH.nil
  rw [if_pos (by rfl)]
  try simp only [List.getElem_toArray, List.getElem_cons_succ, List.getElem_cons_zero]
  go_simp
  refine (put_hd gg u w9 _ (HDG2.out.chg (HC8.out.trans hch1) (fun _ _ h => h)) HV2.out (HTB.out.chg (HC8.out.trans hch1) (fun h => h))).mono ?_
  rintro e w10 ⟨A10, k10, rfl, f10, hc10⟩
  have hch2 : Chg none_ W8 w10 := hch1.trans hc10
  refine hK.out _ _ hch2 (fun _ => ?_)
  clear hK K
  try simp only [Act.put, List.setIfInBounds_toArray, List.set_cons_zero, List.set_cons_succ, List.getElem_toArray, List.getElem_cons_succ, List.getElem_cons_zero]
  refine wpAnyH_ready (rs := [4]) (by kernel_rfl) (by simp) ?_
  refine AllReadyH.cons rfl (fun K hK => ?_) AllReadyH.nil
  rw [if_pos (by rfl)]
  try simp only [List.getElem_toArray, List.getElem_cons_succ, List.getElem_cons_zero]
  go_simp
  refine (same_any w10 _ _ A9 A10 k9 k10 (putH hh) (putH gg) (f9.view.chg hc10 (fun _ _ h => h)) f10.view (by have := putH_len hh; omega)).mono ?_
  rintro e w11 ⟨rfl, nk, rfl⟩
  have hch3 : Chg none_ W8 (w10.drewN nk) := hch2.drewN nk
  refine hK.out _ _ hch3 (fun _ => ?_)
  clear hK K
  try simp only [Act.put, List.setIfInBounds_toArray, List.set_cons_zero, List.set_cons_succ, List.getElem_toArray, List.getElem_cons_succ, List.getElem_cons_zero]
  refine wpAnyH_ready (rs := [7]) (by kernel_rfl) (by simp) ?_
  refine AllReadyH.cons rfl (fun K hK => ?_) AllReadyH.nil
  rw [if_pos (by rfl)]
  try simp only [List.getElem_toArray, List.getElem_cons_succ, List.getElem_cons_zero]
  go_simp
  refine (sameH_any hh gg v u (w10.drewN nk) _ _ (HDH2.out.chg (HC8.out.trans hch3) (fun _ _ h => h)) (HDG2.out.chg (HC8.out.trans hch3) (fun _ _ h => h)) HOH.out HOG.out).mono ?_
  rintro e w12 ⟨rfl, hc12⟩
  rw [← HEQ.out]
  have hch4 : Chg none_ W8 w12 := hch3.trans hc12
  refine hK.out _ _ hch4 (fun _ => ?_)
  clear hK K
  try simp only [Act.put, List.setIfInBounds_toArray, List.set_cons_zero, List.set_cons_succ, List.getElem_toArray, List.getElem_cons_succ, List.getElem_cons_zero]
  refine wpAnyH_take (i := 8) (v := .bool true) rfl (by kernel_rfl) (by kernel_rfl) (by kernel_rfl) (by first | exact fun _ _ _ h => h | exact fun _ _ _ h => nomatch h.1) (Or.inl ⟨by rfl, fun w' hw' => by go_simp⟩) hch4 ?_
  refine wpAnyH_ready (rs := [9]) (by kernel_rfl) (by simp) ?_
  refine AllReadyH.cons rfl (fun K hK => ?_) AllReadyH.nil
  rw [if_pos (by rfl)]
  try simp only [List.getElem_toArray, List.getElem_cons_succ, List.getElem_cons_zero]
  go_simp
  refine hK.out _ _ hch4 (fun _ => ?_)
  clear hK K
  try simp only [Act.put, List.setIfInBounds_toArray, List.set_cons_zero, List.set_cons_succ, List.getElem_toArray, List.getElem_cons_succ, List.getElem_cons_zero]
  refine wpAnyH_done (by kernel_rfl) ?_ _
  go_wp2
  go_ret
  exact ⟨rfl, HC8.out.trans hch4⟩

set_option maxRecDepth 100000 in
set_option maxHeartbeats 2000000 in
theorem apart_sl (h g : Hd) (v u : Four) (W : World) (xh : HdIn W h v) (xg : HdIn W g u) (oh : h.Ok) (og : g.Ok) (hT : Tab W) (qa : greatH h = false) (qb : greatH g = false) (qc : rightH h = true) (qd : rightH g = true) (la : h.long = false) (lb : g.long = true) :
    Calls Tryd.prog 8 #[aggH h v, aggH g u] W fun e w' => e = .returned (.bool true) ∧ Chg none_ W w' := by
  have HGH := Lib.hid (fun w => great_any h v w xh.shape)
  have HGG := Lib.hid (fun w => great_any g u w xg.shape)
  have HRH := Lib.hid (fun w => right_sh h v w xh.shape)
  have HRG := Lib.hid (fun w => right_sh g u w xg.shape)
  have HAL := Lib.hid (fun w h => alive_any w h)
  have HTB := Lib.hid hT
  simp only [qa] at HGH
  simp only [qb] at HGG
  simp only [qc] at HRH
  simp only [qd] at HRG
  have FH := rightF qc
  have FG := rightF qd
  have HDH := Lib.hid (FH.hd xh)
  have HDG := Lib.hid (FG.hd xg)
  have eh : cutRest h = { h with rest := 0 } := by unfold cutRest; rw [la]; rfl
  have eg : cutRest g = g := by unfold cutRest; rw [lb]; rfl
  have HRh : rightH (cutRest h) = true ∧ (cutRest h).Ok ∧ ((cutRest h).long = false → (cutRest h).rest = 0) := by
    rw [eh]
    exact ⟨right_rest FH qc, ⟨oh.k0, oh.k1, oh.v1, (by show (-9223372036854775808 : Int) ≤ 0; decide), (by show (0 : Int) < 9223372036854775808; decide), oh.dst, oh.src, oh.token, oh.cut⟩, fun _ => rfl⟩
  have HRg : rightH (cutRest g) = true ∧ (cutRest g).Ok ∧ ((cutRest g).long = false → (cutRest g).rest = 0) := by
    rw [eg]
    exact ⟨qd, og, fun q => absurd (q.symm.trans lb) (by decide)⟩
  have HOH := Lib.hid HRh.2.1
  have HOG := Lib.hid HRg.2.1
  have HEQ : Hid (decide (putH (cutRest h) = putH (cutRest g)) = decide (cutRest h = cutRest g)) := by
    show _ = _
    rw [Bool.eq_iff_iff]
    simp only [decide_eq_true_eq]
    unfold putH
    rw [HRh.1, HRg.1]
    simp only [if_true]
    exact ⟨apart_h HRh.1 HRg.1 HRh.2.1 HRg.2.1 HRh.2.2 HRg.2.2, fun e => by rw [e]⟩
  have HV1 : Hid ((cutRest h).version < 4294967296) := HRh.2.1.v1
  have HV2 : Hid ((cutRest g).version < 4294967296) := HRg.2.1.v1
  have h0 := cH_0 h v
  have h8 := cH_8 h v
  have g0 := cH_0 g u
  have g8 := cH_8 g u
  rw [la] at h0
  rw [lb] at g0
  have HCH : Hid (cellsH (cutRest h) v = (cellsH h v).set 8 (.int .i64 0)) := by show _ = _; rw [eh]; rfl
  have HCG : Hid (cellsH (cutRest g) u = cellsH g u) := by show _ = _; rw [eg]
  have HDH2 : Hid (HdD W (fun _ => True) (cutRest h) v) := by show HdD _ _ _ _; rw [eh]; exact ⟨HDH.out.d, HDH.out.s, HDH.out.t, HDH.out.c⟩
  have HDG2 : Hid (HdD W (fun _ => True) (cutRest g) u) := by show HdD _ _ _ _; rw [eg]; exact ⟨HDG.out.d, HDG.out.s, HDG.out.t, HDG.out.c⟩
  clear xh xg oh og hT qa qb qc qd FH FG eh eg HRh HRg la lb HDH HDG
  unfold aggH at *
  generalize hcs : cellsH h v = cs at HGH HRH h0 h8 HCH ⊢
  generalize hcs' : cellsH g u = cs' at HGG HRG g0 g8 HCG ⊢
  have hl9 : cs.length = 9 := by rw [← hcs]; rfl
  have hl9' : cs'.length = 9 := by rw [← hcs']; rfl
  have HC2 := Lib.hid (((Chg.refl none_ W).alloc (.cells cs.toArray 25)).alloc (.cells cs'.toArray 25))
  have HX : Hid (∀ w', Chg none_ ((W.alloc (.cells cs.toArray 25)).alloc (.cells cs'.toArray 25)) w' → Row w' W.heap.size 25 cs ∧ Row w' (W.heap.size + 1) 25 cs') := fun w' hc => ⟨(Row.new1 W _ _ cs).chg hc (fun h => h), (Row.new2 W _ _ cs').chg hc (fun h => h)⟩
  clear hcs hcs'
  generalize cutRest h = hh at *
  generalize cutRest g = gg at *
  go_enter Tryd.func8, Tryd.ntmps8
  go_wp2_with (first | ((with_reducible show wpList _ _ _ (⟨_, .load 25 (.tmp 2), _, _, _, _⟩ :: _) _ _); refine wlH rfl rfl rfl (HX.out _ (by assumption)).1 hl9 ?_) | ((with_reducible show wpList _ _ _ (⟨_, .load 25 (.tmp 3), _, _, _, _⟩ :: _) _ _); refine wlH rfl rfl rfl (HX.out _ (by assumption)).2 hl9' ?_) | (go_at_call 10; refine (HAL.out _ (HTB.out.chg HC2.out (fun h => h))).mono ?_; rintro e w3 ⟨rfl, c3⟩) | (go_at_call 11; first | (with_reducible refine (HGH.out _).mono ?_; rintro e w4 ⟨rfl, hc4⟩; have c4 := c3.trans hc4) | (with_reducible refine (HGG.out _).mono ?_; rintro e w5 ⟨rfl, hc5⟩; have c5 := c4.trans hc5)) | (go_at_call 12; first | (with_reducible refine (HRH.out _).mono ?_; rintro e w6 ⟨rfl, hc6⟩; have c6 := c5.trans hc6) | (with_reducible refine (HRG.out _).mono ?_; rintro e w7 ⟨rfl, hc7⟩; have c7 := c6.trans hc7; have kh0 := ((HX.out _ c7).1.cell 0).trans h0; have kh8 := ((HX.out _ c7).1.cell 8).trans h8; have fh8 := (HX.out _ c7).1.frozen 8; have kg0 := ((HX.out _ c7).2.cell 0).trans g0; have kg8 := ((HX.out _ c7).2.cell 8).trans g8; have fg8 := (HX.out _ c7).2.frozen 8)))
  have HC7 := Lib.hid (HC2.out.trans c7)
  have r7h := (HX.out _ c7).1
  have r7g := (HX.out _ c7).2
  clear kh0 kh8 fh8 kg0 kg8 fg8 h0 h8 g0 g8 HX
  have R8h := Lib.hid (r7h.set 8 (.int .i64 0))
  have R8g := Lib.hid (r7g.far (p := ⟨W.heap.size, 8, none⟩) (Nat.succ_ne_self _) (.int .i64 0))
  have HC8 := Lib.hid (HC7.out.setCell (p := ⟨W.heap.size, 8, none⟩) (fun h => absurd h (Nat.lt_irrefl _)) (.int .i64 0))
  rw [← HCH.out] at R8h
  rw [← HCG.out] at R8g
  clear r7h r7g HC7
  generalize (w7.setCell ⟨W.heap.size, 8, none⟩ (.int .i64 0)) = W8 at *
  have hch0 : Chg none_ W8 W8.drew := (Chg.refl _ _).drew
  have HXh : Hid (∀ w', Chg none_ W8 w' → Row w' W.heap.size 25 (cellsH hh v)) := fun w' hc => R8h.out.chg hc (fun h => h)
  have HXg : Hid (∀ w', Chg none_ W8 w' → Row w' (W.heap.size + 1) 25 (cellsH gg u)) := fun w' hc => R8g.out.chg hc (fun h => h)
  refine wp_region_held_drew (S := fun w' => Chg none_ W8 w') (by kernel_rfl) hch0 (fun _ => ?_)
  refine wpAnyH_take (i := 0) (v := .agg (cellsH hh v).toArray) rfl (by kernel_rfl) (by kernel_rfl) (by kernel_rfl) (by first | exact fun _ _ _ h => h | exact fun _ _ _ h => nomatch h.1) (yieldsIf_load_mid (by rfl) 25 _ rfl W.heap.size 0 rfl (cellsH hh v) _ (fun w' hw' => (HXh.out w' hw').range) Tryd.underlying25 rfl (by exact sizeH)) hch0 ?_
  refine wpAnyH_take (i := 2) (v := .agg (cellsH gg u).toArray) rfl (by kernel_rfl) (by kernel_rfl) (by kernel_rfl) (by first | exact fun _ _ _ h => h | exact fun _ _ _ h => nomatch h.1) (yieldsIf_load_mid (by rfl) 25 _ rfl (W.heap.size + 1) 0 rfl (cellsH gg u) _ (fun w' hw' => (HXg.out w' hw').range) Tryd.underlying25 rfl (by exact sizeH)) hch0 ?_
  refine wpAnyH_take (i := 5) (v := .agg (cellsH hh v).toArray) rfl (by kernel_rfl) (by kernel_rfl) (by kernel_rfl) (by first | exact fun _ _ _ h => h | exact fun _ _ _ h => nomatch h.1) (yieldsIf_load_mid (by rfl) 25 _ rfl W.heap.size 0 rfl (cellsH hh v) _ (fun w' hw' => (HXh.out w' hw').range) Tryd.underlying25 rfl (by exact sizeH)) hch0 ?_
  refine wpAnyH_take (i := 6) (v := .agg (cellsH gg u).toArray) rfl (by kernel_rfl) (by kernel_rfl) (by kernel_rfl) (by first | exact fun _ _ _ h => h | exact fun _ _ _ h => nomatch h.1) (yieldsIf_load_mid (by rfl) 25 _ rfl (W.heap.size + 1) 0 rfl (cellsH gg u) _ (fun w' hw' => (HXg.out w' hw').range) Tryd.underlying25 rfl (by exact sizeH)) hch0 ?_
  refine wpAnyH_ready (rs := [1]) (by kernel_rfl) (by simp) ?_
  refine AllReadyH.cons rfl (fun K hK => ?_) AllReadyH.nil
  rw [if_pos (by rfl)]
  try simp only [List.getElem_toArray, List.getElem_cons_succ, List.getElem_cons_zero]
  go_simp
  refine (put_hd hh v W8.drew _ (HDH2.out.chg (HC8.out.trans hch0) (fun _ _ h => h)) HV1.out (HTB.out.chg (HC8.out.trans hch0) (fun h => h))).mono ?_
  rintro e w9 ⟨A9, k9, rfl, f9, hc9⟩
  have hch1 : Chg none_ W8 w9 := hch0.trans hc9
  refine hK.out _ _ hch1 (fun _ => ?_)
  clear hK K
  try simp only [Act.put, List.setIfInBounds_toArray, List.set_cons_zero, List.set_cons_succ, List.getElem_toArray, List.getElem_cons_succ, List.getElem_cons_zero]
  refine wpAnyH_ready (rs := [3]) (by kernel_rfl) (by simp) ?_
  refine AllReadyH.cons rfl (fun K hK => ?_) AllReadyH.nil
  rw [if_pos (by rfl)]
  try simp only [List.getElem_toArray, List.getElem_cons_succ, List.getElem_cons_zero]
  go_simp
  refine (put_hd gg u w9 _ (HDG2.out.chg (HC8.out.trans hch1) (fun _ _ h => h)) HV2.out (HTB.out.chg (HC8.out.trans hch1) (fun h => h))).mono ?_
  rintro e w10 ⟨A10, k10, rfl, f10, hc10⟩
  have hch2 : Chg none_ W8 w10 := hch1.trans hc10
  refine hK.out _ _ hch2 (fun _ => ?_)
  clear hK K
  try simp only [Act.put, List.setIfInBounds_toArray, List.set_cons_zero, List.set_cons_succ, List.getElem_toArray, List.getElem_cons_succ, List.getElem_cons_zero]
  refine wpAnyH_ready (rs := [4]) (by kernel_rfl) (by simp) ?_
  refine AllReadyH.cons rfl (fun K hK => ?_) AllReadyH.nil
  rw [if_pos (by rfl)]
  try simp only [List.getElem_toArray, List.getElem_cons_succ, List.getElem_cons_zero]
  go_simp
  refine (same_any w10 _ _ A9 A10 k9 k10 (putH hh) (putH gg) (f9.view.chg hc10 (fun _ _ h => h)) f10.view (by have := putH_len hh; omega)).mono ?_
  rintro e w11 ⟨rfl, nk, rfl⟩
  have hch3 : Chg none_ W8 (w10.drewN nk) := hch2.drewN nk
  refine hK.out _ _ hch3 (fun _ => ?_)
  clear hK K
  try simp only [Act.put, List.setIfInBounds_toArray, List.set_cons_zero, List.set_cons_succ, List.getElem_toArray, List.getElem_cons_succ, List.getElem_cons_zero]
  refine wpAnyH_ready (rs := [7]) (by kernel_rfl) (by simp) ?_
  refine AllReadyH.cons rfl (fun K hK => ?_) AllReadyH.nil
  rw [if_pos (by rfl)]
  try simp only [List.getElem_toArray, List.getElem_cons_succ, List.getElem_cons_zero]
  go_simp
  refine (sameH_any hh gg v u (w10.drewN nk) _ _ (HDH2.out.chg (HC8.out.trans hch3) (fun _ _ h => h)) (HDG2.out.chg (HC8.out.trans hch3) (fun _ _ h => h)) HOH.out HOG.out).mono ?_
  rintro e w12 ⟨rfl, hc12⟩
  rw [← HEQ.out]
  have hch4 : Chg none_ W8 w12 := hch3.trans hc12
  refine hK.out _ _ hch4 (fun _ => ?_)
  clear hK K
  try simp only [Act.put, List.setIfInBounds_toArray, List.set_cons_zero, List.set_cons_succ, List.getElem_toArray, List.getElem_cons_succ, List.getElem_cons_zero]
  refine wpAnyH_take (i := 8) (v := .bool true) rfl (by kernel_rfl) (by kernel_rfl) (by kernel_rfl) (by first | exact fun _ _ _ h => h | exact fun _ _ _ h => nomatch h.1) (Or.inl ⟨by rfl, fun w' hw' => by go_simp⟩) hch4 ?_
  refine wpAnyH_ready (rs := [9]) (by kernel_rfl) (by simp) ?_
  refine AllReadyH.cons rfl (fun K hK => ?_) AllReadyH.nil
  rw [if_pos (by rfl)]
  try simp only [List.getElem_toArray, List.getElem_cons_succ, List.getElem_cons_zero]
  go_simp
  refine hK.out _ _ hch4 (fun _ => ?_)
  clear hK K
  try simp only [Act.put, List.setIfInBounds_toArray, List.set_cons_zero, List.set_cons_succ, List.getElem_toArray, List.getElem_cons_succ, List.getElem_cons_zero]
  refine wpAnyH_done (by kernel_rfl) ?_ _
  go_wp2
  go_ret
  exact ⟨rfl, HC8.out.trans hch4⟩

set_option maxRecDepth 100000 in
set_option maxHeartbeats 2000000 in
theorem apart_ss (h g : Hd) (v u : Four) (W : World) (xh : HdIn W h v) (xg : HdIn W g u) (oh : h.Ok) (og : g.Ok) (hT : Tab W) (qa : greatH h = false) (qb : greatH g = false) (qc : rightH h = true) (qd : rightH g = true) (la : h.long = false) (lb : g.long = false) :
    Calls Tryd.prog 8 #[aggH h v, aggH g u] W fun e w' => e = .returned (.bool true) ∧ Chg none_ W w' := by
  have HGH := Lib.hid (fun w => great_any h v w xh.shape)
  have HGG := Lib.hid (fun w => great_any g u w xg.shape)
  have HRH := Lib.hid (fun w => right_sh h v w xh.shape)
  have HRG := Lib.hid (fun w => right_sh g u w xg.shape)
  have HAL := Lib.hid (fun w h => alive_any w h)
  have HTB := Lib.hid hT
  simp only [qa] at HGH
  simp only [qb] at HGG
  simp only [qc] at HRH
  simp only [qd] at HRG
  have FH := rightF qc
  have FG := rightF qd
  have HDH := Lib.hid (FH.hd xh)
  have HDG := Lib.hid (FG.hd xg)
  have eh : cutRest h = { h with rest := 0 } := by unfold cutRest; rw [la]; rfl
  have eg : cutRest g = { g with rest := 0 } := by unfold cutRest; rw [lb]; rfl
  have HRh : rightH (cutRest h) = true ∧ (cutRest h).Ok ∧ ((cutRest h).long = false → (cutRest h).rest = 0) := by
    rw [eh]
    exact ⟨right_rest FH qc, ⟨oh.k0, oh.k1, oh.v1, (by show (-9223372036854775808 : Int) ≤ 0; decide), (by show (0 : Int) < 9223372036854775808; decide), oh.dst, oh.src, oh.token, oh.cut⟩, fun _ => rfl⟩
  have HRg : rightH (cutRest g) = true ∧ (cutRest g).Ok ∧ ((cutRest g).long = false → (cutRest g).rest = 0) := by
    rw [eg]
    exact ⟨right_rest FG qd, ⟨og.k0, og.k1, og.v1, (by show (-9223372036854775808 : Int) ≤ 0; decide), (by show (0 : Int) < 9223372036854775808; decide), og.dst, og.src, og.token, og.cut⟩, fun _ => rfl⟩
  have HOH := Lib.hid HRh.2.1
  have HOG := Lib.hid HRg.2.1
  have HEQ : Hid (decide (putH (cutRest h) = putH (cutRest g)) = decide (cutRest h = cutRest g)) := by
    show _ = _
    rw [Bool.eq_iff_iff]
    simp only [decide_eq_true_eq]
    unfold putH
    rw [HRh.1, HRg.1]
    simp only [if_true]
    exact ⟨apart_h HRh.1 HRg.1 HRh.2.1 HRg.2.1 HRh.2.2 HRg.2.2, fun e => by rw [e]⟩
  have HV1 : Hid ((cutRest h).version < 4294967296) := HRh.2.1.v1
  have HV2 : Hid ((cutRest g).version < 4294967296) := HRg.2.1.v1
  have h0 := cH_0 h v
  have h8 := cH_8 h v
  have g0 := cH_0 g u
  have g8 := cH_8 g u
  rw [la] at h0
  rw [lb] at g0
  have HCH : Hid (cellsH (cutRest h) v = (cellsH h v).set 8 (.int .i64 0)) := by show _ = _; rw [eh]; rfl
  have HCG : Hid (cellsH (cutRest g) u = (cellsH g u).set 8 (.int .i64 0)) := by show _ = _; rw [eg]; rfl
  have HDH2 : Hid (HdD W (fun _ => True) (cutRest h) v) := by show HdD _ _ _ _; rw [eh]; exact ⟨HDH.out.d, HDH.out.s, HDH.out.t, HDH.out.c⟩
  have HDG2 : Hid (HdD W (fun _ => True) (cutRest g) u) := by show HdD _ _ _ _; rw [eg]; exact ⟨HDG.out.d, HDG.out.s, HDG.out.t, HDG.out.c⟩
  clear xh xg oh og hT qa qb qc qd FH FG eh eg HRh HRg la lb HDH HDG
  unfold aggH at *
  generalize hcs : cellsH h v = cs at HGH HRH h0 h8 HCH ⊢
  generalize hcs' : cellsH g u = cs' at HGG HRG g0 g8 HCG ⊢
  have hl9 : cs.length = 9 := by rw [← hcs]; rfl
  have hl9' : cs'.length = 9 := by rw [← hcs']; rfl
  have HC2 := Lib.hid (((Chg.refl none_ W).alloc (.cells cs.toArray 25)).alloc (.cells cs'.toArray 25))
  have HX : Hid (∀ w', Chg none_ ((W.alloc (.cells cs.toArray 25)).alloc (.cells cs'.toArray 25)) w' → Row w' W.heap.size 25 cs ∧ Row w' (W.heap.size + 1) 25 cs') := fun w' hc => ⟨(Row.new1 W _ _ cs).chg hc (fun h => h), (Row.new2 W _ _ cs').chg hc (fun h => h)⟩
  clear hcs hcs'
  generalize cutRest h = hh at *
  generalize cutRest g = gg at *
  go_enter Tryd.func8, Tryd.ntmps8
  go_wp2_with (first | ((with_reducible show wpList _ _ _ (⟨_, .load 25 (.tmp 2), _, _, _, _⟩ :: _) _ _); refine wlH rfl rfl rfl (HX.out _ (by assumption)).1 hl9 ?_) | ((with_reducible show wpList _ _ _ (⟨_, .load 25 (.tmp 3), _, _, _, _⟩ :: _) _ _); refine wlH rfl rfl rfl (HX.out _ (by assumption)).2 hl9' ?_) | (go_at_call 10; refine (HAL.out _ (HTB.out.chg HC2.out (fun h => h))).mono ?_; rintro e w3 ⟨rfl, c3⟩) | (go_at_call 11; first | (with_reducible refine (HGH.out _).mono ?_; rintro e w4 ⟨rfl, hc4⟩; have c4 := c3.trans hc4) | (with_reducible refine (HGG.out _).mono ?_; rintro e w5 ⟨rfl, hc5⟩; have c5 := c4.trans hc5)) | (go_at_call 12; first | (with_reducible refine (HRH.out _).mono ?_; rintro e w6 ⟨rfl, hc6⟩; have c6 := c5.trans hc6) | (with_reducible refine (HRG.out _).mono ?_; rintro e w7 ⟨rfl, hc7⟩; have c7 := c6.trans hc7; have kh0 := ((HX.out _ c7).1.cell 0).trans h0; have kh8 := ((HX.out _ c7).1.cell 8).trans h8; have fh8 := (HX.out _ c7).1.frozen 8; have kg0 := ((HX.out _ c7).2.cell 0).trans g0; have kg8 := ((HX.out _ c7).2.cell 8).trans g8; have fg8 := (HX.out _ c7).2.frozen 8)))
  have HC7 := Lib.hid (HC2.out.trans c7)
  have r7h := (HX.out _ c7).1
  have r7g := (HX.out _ c7).2
  clear kh0 kh8 fh8 kg0 kg8 fg8 h0 h8 g0 g8 HX
  have R8h := Lib.hid ((r7h.set 8 (.int .i64 0)).far (p := ⟨W.heap.size + 1, 8, none⟩) (Nat.succ_ne_self _).symm (.int .i64 0))
  have R8g := Lib.hid ((r7g.far (p := ⟨W.heap.size, 8, none⟩) (Nat.succ_ne_self _) (.int .i64 0)).set 8 (.int .i64 0))
  have HC8 := Lib.hid ((HC7.out.setCell (p := ⟨W.heap.size, 8, none⟩) (fun h => absurd h (Nat.lt_irrefl _)) (.int .i64 0)).setCell (p := ⟨W.heap.size + 1, 8, none⟩) (fun h => absurd h (by simp)) (.int .i64 0))
  rw [← HCH.out] at R8h
  rw [← HCG.out] at R8g
  clear r7h r7g HC7
  generalize ((w7.setCell ⟨W.heap.size, 8, none⟩ (.int .i64 0)).setCell ⟨W.heap.size + 1, 8, none⟩ (.int .i64 0)) = W8 at *
  have hch0 : Chg none_ W8 W8.drew := (Chg.refl _ _).drew
  have HXh : Hid (∀ w', Chg none_ W8 w' → Row w' W.heap.size 25 (cellsH hh v)) := fun w' hc => R8h.out.chg hc (fun h => h)
  have HXg : Hid (∀ w', Chg none_ W8 w' → Row w' (W.heap.size + 1) 25 (cellsH gg u)) := fun w' hc => R8g.out.chg hc (fun h => h)
  refine wp_region_held_drew (S := fun w' => Chg none_ W8 w') (by kernel_rfl) hch0 (fun _ => ?_)
  refine wpAnyH_take (i := 0) (v := .agg (cellsH hh v).toArray) rfl (by kernel_rfl) (by kernel_rfl) (by kernel_rfl) (by first | exact fun _ _ _ h => h | exact fun _ _ _ h => nomatch h.1) (yieldsIf_load_mid (by rfl) 25 _ rfl W.heap.size 0 rfl (cellsH hh v) _ (fun w' hw' => (HXh.out w' hw').range) Tryd.underlying25 rfl (by exact sizeH)) hch0 ?_
  refine wpAnyH_take (i := 2) (v := .agg (cellsH gg u).toArray) rfl (by kernel_rfl) (by kernel_rfl) (by kernel_rfl) (by first | exact fun _ _ _ h => h | exact fun _ _ _ h => nomatch h.1) (yieldsIf_load_mid (by rfl) 25 _ rfl (W.heap.size + 1) 0 rfl (cellsH gg u) _ (fun w' hw' => (HXg.out w' hw').range) Tryd.underlying25 rfl (by exact sizeH)) hch0 ?_
  refine wpAnyH_take (i := 5) (v := .agg (cellsH hh v).toArray) rfl (by kernel_rfl) (by kernel_rfl) (by kernel_rfl) (by first | exact fun _ _ _ h => h | exact fun _ _ _ h => nomatch h.1) (yieldsIf_load_mid (by rfl) 25 _ rfl W.heap.size 0 rfl (cellsH hh v) _ (fun w' hw' => (HXh.out w' hw').range) Tryd.underlying25 rfl (by exact sizeH)) hch0 ?_
  refine wpAnyH_take (i := 6) (v := .agg (cellsH gg u).toArray) rfl (by kernel_rfl) (by kernel_rfl) (by kernel_rfl) (by first | exact fun _ _ _ h => h | exact fun _ _ _ h => nomatch h.1) (yieldsIf_load_mid (by rfl) 25 _ rfl (W.heap.size + 1) 0 rfl (cellsH gg u) _ (fun w' hw' => (HXg.out w' hw').range) Tryd.underlying25 rfl (by exact sizeH)) hch0 ?_
  refine wpAnyH_ready (rs := [1]) (by kernel_rfl) (by simp) ?_
  refine AllReadyH.cons rfl (fun K hK => ?_) AllReadyH.nil
  rw [if_pos (by rfl)]
  try simp only [List.getElem_toArray, List.getElem_cons_succ, List.getElem_cons_zero]
  go_simp
  refine (put_hd hh v W8.drew _ (HDH2.out.chg (HC8.out.trans hch0) (fun _ _ h => h)) HV1.out (HTB.out.chg (HC8.out.trans hch0) (fun h => h))).mono ?_
  rintro e w9 ⟨A9, k9, rfl, f9, hc9⟩
  have hch1 : Chg none_ W8 w9 := hch0.trans hc9
  refine hK.out _ _ hch1 (fun _ => ?_)
  clear hK K
  try simp only [Act.put, List.setIfInBounds_toArray, List.set_cons_zero, List.set_cons_succ, List.getElem_toArray, List.getElem_cons_succ, List.getElem_cons_zero]
  refine wpAnyH_ready (rs := [3]) (by kernel_rfl) (by simp) ?_
  refine AllReadyH.cons rfl (fun K hK => ?_) AllReadyH.nil
  rw [if_pos (by rfl)]
  try simp only [List.getElem_toArray, List.getElem_cons_succ, List.getElem_cons_zero]
  go_simp
  refine (put_hd gg u w9 _ (HDG2.out.chg (HC8.out.trans hch1) (fun _ _ h => h)) HV2.out (HTB.out.chg (HC8.out.trans hch1) (fun h => h))).mono ?_
  rintro e w10 ⟨A10, k10, rfl, f10, hc10⟩
  have hch2 : Chg none_ W8 w10 := hch1.trans hc10
  refine hK.out _ _ hch2 (fun _ => ?_)
  clear hK K
  try simp only [Act.put, List.setIfInBounds_toArray, List.set_cons_zero, List.set_cons_succ, List.getElem_toArray, List.getElem_cons_succ, List.getElem_cons_zero]
  refine wpAnyH_ready (rs := [4]) (by kernel_rfl) (by simp) ?_
  refine AllReadyH.cons rfl (fun K hK => ?_) AllReadyH.nil
  rw [if_pos (by rfl)]
  try simp only [List.getElem_toArray, List.getElem_cons_succ, List.getElem_cons_zero]
  go_simp
  refine (same_any w10 _ _ A9 A10 k9 k10 (putH hh) (putH gg) (f9.view.chg hc10 (fun _ _ h => h)) f10.view (by have := putH_len hh; omega)).mono ?_
  rintro e w11 ⟨rfl, nk, rfl⟩
  have hch3 : Chg none_ W8 (w10.drewN nk) := hch2.drewN nk
  refine hK.out _ _ hch3 (fun _ => ?_)
  clear hK K
  try simp only [Act.put, List.setIfInBounds_toArray, List.set_cons_zero, List.set_cons_succ, List.getElem_toArray, List.getElem_cons_succ, List.getElem_cons_zero]
  refine wpAnyH_ready (rs := [7]) (by kernel_rfl) (by simp) ?_
  refine AllReadyH.cons rfl (fun K hK => ?_) AllReadyH.nil
  rw [if_pos (by rfl)]
  try simp only [List.getElem_toArray, List.getElem_cons_succ, List.getElem_cons_zero]
  go_simp
  refine (sameH_any hh gg v u (w10.drewN nk) _ _ (HDH2.out.chg (HC8.out.trans hch3) (fun _ _ h => h)) (HDG2.out.chg (HC8.out.trans hch3) (fun _ _ h => h)) HOH.out HOG.out).mono ?_
  rintro e w12 ⟨rfl, hc12⟩
  rw [← HEQ.out]
  have hch4 : Chg none_ W8 w12 := hch3.trans hc12
  refine hK.out _ _ hch4 (fun _ => ?_)
  clear hK K
  try simp only [Act.put, List.setIfInBounds_toArray, List.set_cons_zero, List.set_cons_succ, List.getElem_toArray, List.getElem_cons_succ, List.getElem_cons_zero]
  refine wpAnyH_take (i := 8) (v := .bool true) rfl (by kernel_rfl) (by kernel_rfl) (by kernel_rfl) (by first | exact fun _ _ _ h => h | exact fun _ _ _ h => nomatch h.1) (Or.inl ⟨by rfl, fun w' hw' => by go_simp⟩) hch4 ?_
  refine wpAnyH_ready (rs := [9]) (by kernel_rfl) (by simp) ?_
  refine AllReadyH.cons rfl (fun K hK => ?_) AllReadyH.nil
  rw [if_pos (by rfl)]
  try simp only [List.getElem_toArray, List.getElem_cons_succ, List.getElem_cons_zero]
  go_simp
  refine hK.out _ _ hch4 (fun _ => ?_)
  clear hK K
  try simp only [Act.put, List.setIfInBounds_toArray, List.set_cons_zero, List.set_cons_succ, List.getElem_toArray, List.getElem_cons_succ, List.getElem_cons_zero]
  refine wpAnyH_done (by kernel_rfl) ?_ _
  go_wp2
  go_ret
  exact ⟨rfl, HC8.out.trans hch4⟩

theorem walk_HeaderApart (h : Hd) (v : Four) (g : Hd) (u : Four) (W : World) (xh : HdIn W h v) (oh : h.Ok) (xg : HdIn W g u) (og : g.Ok) (hT : Tab W) :
    Calls Tryd.prog 8 #[aggH h v, aggH g u] W fun e w' => e = .returned (.bool true) ∧ Chg none_ W w' := by
  cases qa : greatH h with
  | true => exact apart_gh h g v u W xh xg oh og hT qa
  | false =>
    cases qb : greatH g with
    | true => exact apart_gg h g v u W xh xg oh og hT qa qb
    | false =>
      cases qc : rightH h with
      | false => exact apart_rh h g v u W xh xg oh og hT qa qb qc
      | true =>
        cases qd : rightH g with
        | false => exact apart_rg h g v u W xh xg oh og hT qa qb qc qd
        | true =>
          cases la : h.long with
          | true => cases lb : g.long with
            | true => exact apart_ll h g v u W xh xg oh og hT qa qb qc qd la lb
            | false => exact apart_ls h g v u W xh xg oh og hT qa qb qc qd la lb
          | false => cases lb : g.long with
            | true => exact apart_sl h g v u W xh xg oh og hT qa qb qc qd la lb
            | false => exact apart_ss h g v u W xh xg oh og hT qa qb qc qd la lb
end Go.Proofs.YtfecmloaopbogaaDoor
