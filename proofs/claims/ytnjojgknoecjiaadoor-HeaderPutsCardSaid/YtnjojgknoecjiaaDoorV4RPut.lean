/- Layer 4 (header): Put, by the document's answer. -/
import Derived.Test.YtnjojgknoecjiaaDoorV4Put
import Derived.Test.YtnjojgknoecjiaaDoorV1RWide
namespace Go.Proofs.YtnjojgknoecjiaaDoor
open Go.RowKit

theorem rput_got (n : Nat) (w : World) : Calls Tryd.prog 30 #[.int .u64 n] w (GotBytes w (enI n)) :=
  (rput_any n w).mono fun e w' ⟨v, h1, h2⟩ => by
    have hown := own_of_new h2 (Nat.le_trans (wideB_len n) (by unfold maxLen; omega))
    obtain ⟨A, c, h3, h4⟩ := h2.view
    subst h3
    exact ⟨A, c, h1, ⟨h4, hown⟩, h2.1⟩
theorem enl8 (n : Nat) : (enI n).length ≤ 8 := wideB_len n

theorem rput_none (h : Hd) (v : Four) (w : World) (hd : Shape h v) (hn : h.src.length ≤ 140737488355328 ∧ h.token.length ≤ 140737488355328) (hr : rightH h = false) :
    Calls Tryd.prog 16 #[aggH h v] w (GotBytes w []) := by
  have HR := Lib.hid (fun w' => rright_sh h v w' hd hn)
  simp only [hr] at HR
  have h9 := cH_len h v
  unfold aggH at *
  generalize cellsH h v = cs at *
  have H9 := Lib.hid h9
  have HRW := Lib.hid (Row.new w 25 cs)
  have HCW := Lib.hid ((Chg.refl none_ w).alloc (.cells cs.toArray 25))
  clear h9 hd hr hn
  go_enter Tryd.func16, Tryd.ntmps16
  go_wp2_with (first | ((with_reducible show wpList _ _ _ (⟨_, .load 25 _, _, _, _, _⟩ :: _) _ _); refine wlH rfl rfl rfl HRW.out H9.out ?_) | (go_at_call 13; refine (HR.out _).mono ?_; rintro e w1 ⟨rfl, hc1⟩))
  go_ret
  exact ⟨none, 0, rfl, Fresh.nil _ _, HCW.out.trans hc1⟩

set_option maxRecDepth 100000 in
set_option maxHeartbeats 2000000 in
theorem rput_short_false (h : Hd) (v : Four) (w : World) (T : Nat → Prop) (hd : HdD w T h v) (hr : rightH h = true) (hl : h.long = false) (hp : h.phase = false) :
    Calls Tryd.prog 16 #[aggH h v] w (GotBytes w (bytesH h)) := by
  have hF := rightF hr
  have HR := Lib.hid (fun w' => rright_sh h v w' hd.shape (by have := hF.s; have := hF.t; omega))
  simp only [hr] at HR
  obtain ⟨i0, hi, hz0, hz1, hz2⟩ := info_parts info5
  have h0 := cH_0 h v
  have h1 := cH_1 h v
  have h2 := cH_2 h v
  have h3 := cH_3 h v
  have h4 := cH_4 h v
  have h5 := cH_5 h v
  have h6 := cH_6 h v
  have h7 := cH_7 h v
  have h8 := cH_8 h v
  have h9 := cH_len h v
  have hc1' := hF.c1
  have hc4' := hF.c4
  have hdl := hF.d
  have hsl := hF.s
  have htl := hF.t
  obtain ⟨D, d', e4, _, vd⟩ := hd.d
  obtain ⟨S, s', e5, _, vs⟩ := hd.s
  obtain ⟨Tk, t', e6, _, vt⟩ := hd.t
  obtain ⟨C, c', e7, _, vc⟩ := hd.c
  rw [e4] at h4; rw [e5] at h5; rw [e6] at h6; rw [e7] at h7
  have HVD := Lib.hid vd
  have HVS := Lib.hid vs
  have HVT := Lib.hid vt
  have HVC := Lib.hid vc
  have HB : Hid (bytesH h = [64 + (h.cut.length - 1) + 0] ++ (h.dst ++ h.cut)) := by show _ = _; unfold bytesH firstM; rw [hl, hp]; rfl
  rw [hl] at h0
  rw [hp] at h1
  unfold aggH at *
  generalize hcs : cellsH h v = cs at HR h0 h1 h2 h3 h4 h5 h6 h7 h8 h9 ⊢
  have H9 := Lib.hid h9
  have HRW := Lib.hid (Row.new w 25 cs)
  have HCW := Lib.hid ((Chg.refl none_ w).alloc (.cells cs.toArray 25))
  clear hcs h9 hd hF hr hl hp e4 e5 e6 e7 vd vs vt vc
  generalize bytesH h = B at *
  obtain ⟨F, hFe⟩ : ∃ F, 64 + (h.cut.length - 1) + 0 = F := ⟨_, rfl⟩
  have hFi : (64 : Int) + (h.cut.length : Int) - 1 = (F : Int) := by omega
  have hF256 : F < 256 := by omega
  have hFw : IntKind.u8.wrap (F : Int) = (F : Int) := IntWalk.u8_in _ (by omega)
  rw [hFe] at HB
  clear hFe
  go_enter Tryd.func16, Tryd.ntmps16
  go_wp2_with (first | ((with_reducible show wpList _ _ _ (⟨_, .load 25 _, _, _, _, _⟩ :: _) _ _); refine wlH rfl rfl rfl HRW.out H9.out ?_) | (go_at_call 13; refine (HR.out _).mono ?_; rintro e w1 ⟨rfl, hc1⟩; have HX := Lib.hid (fun w' (hc : Chg none_ w1 w') => (HRW.out.chg hc1 (fun h => h)).chg hc (fun h => h)); have k0 := ((HX.out w1 (Chg.refl _ _)).cell 0).trans h0; have k1 := ((HX.out w1 (Chg.refl _ _)).cell 1).trans h1; have k7 := ((HX.out w1 (Chg.refl _ _)).cell 7).trans h7; have k3 := ((HX.out w1 (Chg.refl _ _)).cell 3).trans h3; have k2 := ((HX.out w1 (Chg.refl _ _)).cell 2).trans h2))
  have HC1 := Lib.hid (HCW.out.trans hc1)
  clear k0 k1 k7 k3 k2 hc1
  have hch0 : Chg none_ w1 w1.drew := (Chg.refl _ _).drew
  refine wp_region_held_drew (S := fun w' => Chg none_ w1 w') (by kernel_rfl) hch0 (fun _ => ?_)
  refine wpAnyH_take (i := 0) (v := .int .i64 (F : Nat)) rfl (by kernel_rfl) (by kernel_rfl) (by kernel_rfl) (by first | exact fun _ _ _ h => h | exact fun _ _ _ h => nomatch h.1) (Or.inl ⟨by rfl, fun w' hw' => by go_simp⟩) hch0 ?_
  refine wpAnyH_take (i := 1) (v := .int .u8 (F : Nat)) rfl (by kernel_rfl) (by kernel_rfl) (by kernel_rfl) (by first | exact fun _ _ _ h => h | exact fun _ _ _ h => nomatch h.1) (Or.inl ⟨by rfl, fun w' hw' => by go_simp⟩) hch0 ?_
  refine wpAnyH_take (i := 3) (v := .pointer (some ⟨w.heap.size, 4, none⟩)) rfl (by kernel_rfl) (by kernel_rfl) (by kernel_rfl) (by first | exact fun _ _ _ h => h | exact fun _ _ _ h => nomatch h.1) (Or.inl ⟨by rfl, fun w' hw' => by go_simp⟩) hch0 ?_
  refine wpAnyH_take (i := 4) (v := .slice D h.dst.length d') rfl (by kernel_rfl) (by kernel_rfl) (by kernel_rfl) (by first | exact fun _ _ _ h => h | exact fun _ _ _ h => nomatch h.1) (Or.inl ⟨by rfl, fun w' hw' => by have hh := ((HX.out w' hw').cell 4).trans h4; go_simp⟩) hch0 ?_
  refine wpAnyH_take (i := 6) (v := .pointer (some ⟨w.heap.size, 7, none⟩)) rfl (by kernel_rfl) (by kernel_rfl) (by kernel_rfl) (by first | exact fun _ _ _ h => h | exact fun _ _ _ h => nomatch h.1) (Or.inl ⟨by rfl, fun w' hw' => by go_simp⟩) hch0 ?_
  refine wpAnyH_take (i := 7) (v := .slice C h.cut.length c') rfl (by kernel_rfl) (by kernel_rfl) (by kernel_rfl) (by first | exact fun _ _ _ h => h | exact fun _ _ _ h => nomatch h.1) (Or.inl ⟨by rfl, fun w' hw' => by have hh := ((HX.out w' hw').cell 7).trans h7; go_simp⟩) hch0 ?_
  refine wpAnyH_ready (rs := [2]) (by kernel_rfl) (by simp) ?_
  refine AllReadyH.cons rfl (fun K hK => ?_) AllReadyH.nil
  rw [if_pos (by rfl)]
  try simp only [List.getElem_toArray, List.getElem_cons_succ, List.getElem_cons_zero]
  go_simp
  have hchA : Chg none_ w1 (w1.drew.alloc (.cells (u8s [F]).toArray 5)) := hch0.alloc _
  have ownA := own_of_row (base := w1.heap.size) (n := 1) (Row.new w1.drew 5 (u8s [F])) (Nat.le_refl _) rfl (by decide)
  refine hK.out _ _ hchA (fun _ => ?_)
  clear hK K
  try simp only [Act.put, List.setIfInBounds_toArray, List.set_cons_zero, List.set_cons_succ, List.getElem_toArray, List.getElem_cons_succ, List.getElem_cons_zero]
  refine wpAnyH_ready (rs := [5]) (by kernel_rfl) (by simp) ?_
  refine AllReadyH.cons rfl (fun K hK => ?_) AllReadyH.nil
  rw [if_pos (by rfl)]
  try simp only [List.getElem_toArray, List.getElem_cons_succ, List.getElem_cons_zero]
  refine wp_append_view _ _ 23 rfl 5 i0 _ 1 Tryd.underlying23 hi hz0 hz1 hz2 rfl w1.heap.size _ (1) (u8s ([F])) rfl ownA _ D h.dst.length d' (u8s h.dst) rfl (HVD.out.chg (HC1.out.trans hchA) (fun _ _ h => h)) (u8s_one _) (by  unfold maxLen; omega) (by  omega) hchA.size ?_
  intro v5 w5 hown5 hgrow5 hob5
  have hchB : Chg none_ w1 w5 := hchA.append (Nat.le_refl _) ownA hgrow5
  rw [u8s_append] at hown5
  obtain ⟨A5, q5, rfl, _, _, _⟩ := View.own (T := fun _ => True) hown5 (fun _ _ => trivial)
  refine hK.out _ _ hchB (fun _ => ?_)
  clear hK K
  try simp only [Act.put, List.setIfInBounds_toArray, List.set_cons_zero, List.set_cons_succ]
  refine wpAnyH_ready (rs := [8]) (by kernel_rfl) (by simp) ?_
  refine AllReadyH.cons rfl (fun K hK => ?_) AllReadyH.nil
  rw [if_pos (by rfl)]
  try simp only [List.getElem_toArray, List.getElem_cons_succ, List.getElem_cons_zero]
  refine wp_append_view _ _ 23 rfl 5 i0 _ 1 Tryd.underlying23 hi hz0 hz1 hz2 rfl w1.heap.size _ (1 + h.dst.length) (u8s ([F] ++ h.dst)) rfl hown5 _ C h.cut.length c' (u8s h.cut) rfl (HVC.out.chg (HC1.out.trans hchB) (fun _ _ h => h)) (u8s_one _) (by  unfold maxLen; omega) (by  omega) hchB.size ?_
  intro v8 w8 hown8 hgrow8 hob8
  have hchC : Chg none_ w1 w8 := hchB.append (Nat.le_refl _) hown5 hgrow8
  rw [u8s_append] at hown8
  obtain ⟨A8, q8, rfl, _, _, v8⟩ := View.own (T := fun b => w1.heap.size ≤ b) hown8 (fun _ h => h)
  refine hK.out _ _ hchC (fun _ => ?_)
  clear hK K
  try simp only [Act.put, List.setIfInBounds_toArray, List.set_cons_zero, List.set_cons_succ]
  refine wpAnyH_ready (rs := [9]) (by kernel_rfl) (by simp) ?_
  refine AllReadyH.cons rfl (fun K hK => ?_) AllReadyH.nil
  rw [if_pos (by rfl)]
  try simp only [List.getElem_toArray, List.getElem_cons_succ, List.getElem_cons_zero]
  go_simp
  refine hK.out _ _ hchC (fun _ => ?_)
  clear hK K
  try simp only [Act.put, List.setIfInBounds_toArray, List.set_cons_zero, List.set_cons_succ, List.getElem_toArray, List.getElem_cons_succ, List.getElem_cons_zero]
  refine wpAnyH_done (by kernel_rfl) ?_ _
  go_wp2_with fail
  go_ret
  have hlB : B.length = 1 + h.dst.length + h.cut.length := by rw [HB.out]; simp; omega
  rw [List.append_assoc, ← HB.out] at hown8 v8
  rw [← hlB] at hown8 v8
  exact ⟨A8, q8, by rw [hlB]; rfl, Fresh.base ⟨v8, hown8⟩ HC1.out.size, HC1.out.trans hchC⟩

set_option maxRecDepth 100000 in
set_option maxHeartbeats 2000000 in
theorem rput_short_true (h : Hd) (v : Four) (w : World) (T : Nat → Prop) (hd : HdD w T h v) (hr : rightH h = true) (hl : h.long = false) (hp : h.phase = true) :
    Calls Tryd.prog 16 #[aggH h v] w (GotBytes w (bytesH h)) := by
  have hF := rightF hr
  have HR := Lib.hid (fun w' => rright_sh h v w' hd.shape (by have := hF.s; have := hF.t; omega))
  simp only [hr] at HR
  obtain ⟨i0, hi, hz0, hz1, hz2⟩ := info_parts info5
  have h0 := cH_0 h v
  have h1 := cH_1 h v
  have h2 := cH_2 h v
  have h3 := cH_3 h v
  have h4 := cH_4 h v
  have h5 := cH_5 h v
  have h6 := cH_6 h v
  have h7 := cH_7 h v
  have h8 := cH_8 h v
  have h9 := cH_len h v
  have hc1' := hF.c1
  have hc4' := hF.c4
  have hdl := hF.d
  have hsl := hF.s
  have htl := hF.t
  obtain ⟨D, d', e4, _, vd⟩ := hd.d
  obtain ⟨S, s', e5, _, vs⟩ := hd.s
  obtain ⟨Tk, t', e6, _, vt⟩ := hd.t
  obtain ⟨C, c', e7, _, vc⟩ := hd.c
  rw [e4] at h4; rw [e5] at h5; rw [e6] at h6; rw [e7] at h7
  have HVD := Lib.hid vd
  have HVS := Lib.hid vs
  have HVT := Lib.hid vt
  have HVC := Lib.hid vc
  have HB : Hid (bytesH h = [64 + (h.cut.length - 1) + 4] ++ (h.dst ++ h.cut)) := by show _ = _; unfold bytesH firstM; rw [hl, hp]; rfl
  rw [hl] at h0
  rw [hp] at h1
  unfold aggH at *
  generalize hcs : cellsH h v = cs at HR h0 h1 h2 h3 h4 h5 h6 h7 h8 h9 ⊢
  have H9 := Lib.hid h9
  have HRW := Lib.hid (Row.new w 25 cs)
  have HCW := Lib.hid ((Chg.refl none_ w).alloc (.cells cs.toArray 25))
  clear hcs h9 hd hF hr hl hp e4 e5 e6 e7 vd vs vt vc
  generalize bytesH h = B at *
  obtain ⟨F, hFe⟩ : ∃ F, 64 + (h.cut.length - 1) + 4 = F := ⟨_, rfl⟩
  have hFi : (64 : Int) + (h.cut.length : Int) - 1 + 4 = (F : Int) := by omega
  have hF256 : F < 256 := by omega
  have hFw : IntKind.u8.wrap (F : Int) = (F : Int) := IntWalk.u8_in _ (by omega)
  rw [hFe] at HB
  clear hFe
  go_enter Tryd.func16, Tryd.ntmps16
  go_wp2_with (first | ((with_reducible show wpList _ _ _ (⟨_, .load 25 _, _, _, _, _⟩ :: _) _ _); refine wlH rfl rfl rfl HRW.out H9.out ?_) | (go_at_call 13; refine (HR.out _).mono ?_; rintro e w1 ⟨rfl, hc1⟩; have HX := Lib.hid (fun w' (hc : Chg none_ w1 w') => (HRW.out.chg hc1 (fun h => h)).chg hc (fun h => h)); have k0 := ((HX.out w1 (Chg.refl _ _)).cell 0).trans h0; have k1 := ((HX.out w1 (Chg.refl _ _)).cell 1).trans h1; have k7 := ((HX.out w1 (Chg.refl _ _)).cell 7).trans h7; have k3 := ((HX.out w1 (Chg.refl _ _)).cell 3).trans h3; have k2 := ((HX.out w1 (Chg.refl _ _)).cell 2).trans h2))
  have HC1 := Lib.hid (HCW.out.trans hc1)
  clear k0 k1 k7 k3 k2 hc1
  have hch0 : Chg none_ w1 w1.drew := (Chg.refl _ _).drew
  refine wp_region_held_drew (S := fun w' => Chg none_ w1 w') (by kernel_rfl) hch0 (fun _ => ?_)
  refine wpAnyH_take (i := 0) (v := .int .i64 (F : Nat)) rfl (by kernel_rfl) (by kernel_rfl) (by kernel_rfl) (by first | exact fun _ _ _ h => h | exact fun _ _ _ h => nomatch h.1) (Or.inl ⟨by rfl, fun w' hw' => by go_simp⟩) hch0 ?_
  refine wpAnyH_take (i := 1) (v := .int .u8 (F : Nat)) rfl (by kernel_rfl) (by kernel_rfl) (by kernel_rfl) (by first | exact fun _ _ _ h => h | exact fun _ _ _ h => nomatch h.1) (Or.inl ⟨by rfl, fun w' hw' => by go_simp⟩) hch0 ?_
  refine wpAnyH_take (i := 3) (v := .pointer (some ⟨w.heap.size, 4, none⟩)) rfl (by kernel_rfl) (by kernel_rfl) (by kernel_rfl) (by first | exact fun _ _ _ h => h | exact fun _ _ _ h => nomatch h.1) (Or.inl ⟨by rfl, fun w' hw' => by go_simp⟩) hch0 ?_
  refine wpAnyH_take (i := 4) (v := .slice D h.dst.length d') rfl (by kernel_rfl) (by kernel_rfl) (by kernel_rfl) (by first | exact fun _ _ _ h => h | exact fun _ _ _ h => nomatch h.1) (Or.inl ⟨by rfl, fun w' hw' => by have hh := ((HX.out w' hw').cell 4).trans h4; go_simp⟩) hch0 ?_
  refine wpAnyH_take (i := 6) (v := .pointer (some ⟨w.heap.size, 7, none⟩)) rfl (by kernel_rfl) (by kernel_rfl) (by kernel_rfl) (by first | exact fun _ _ _ h => h | exact fun _ _ _ h => nomatch h.1) (Or.inl ⟨by rfl, fun w' hw' => by go_simp⟩) hch0 ?_
  refine wpAnyH_take (i := 7) (v := .slice C h.cut.length c') rfl (by kernel_rfl) (by kernel_rfl) (by kernel_rfl) (by first | exact fun _ _ _ h => h | exact fun _ _ _ h => nomatch h.1) (Or.inl ⟨by rfl, fun w' hw' => by have hh := ((HX.out w' hw').cell 7).trans h7; go_simp⟩) hch0 ?_
  refine wpAnyH_ready (rs := [2]) (by kernel_rfl) (by simp) ?_
  refine AllReadyH.cons rfl (fun K hK => ?_) AllReadyH.nil
  rw [if_pos (by rfl)]
  try simp only [List.getElem_toArray, List.getElem_cons_succ, List.getElem_cons_zero]
  go_simp
  have hchA : Chg none_ w1 (w1.drew.alloc (.cells (u8s [F]).toArray 5)) := hch0.alloc _
  have ownA := own_of_row (base := w1.heap.size) (n := 1) (Row.new w1.drew 5 (u8s [F])) (Nat.le_refl _) rfl (by decide)
  refine hK.out _ _ hchA (fun _ => ?_)
  clear hK K
  try simp only [Act.put, List.setIfInBounds_toArray, List.set_cons_zero, List.set_cons_succ, List.getElem_toArray, List.getElem_cons_succ, List.getElem_cons_zero]
  refine wpAnyH_ready (rs := [5]) (by kernel_rfl) (by simp) ?_
  refine AllReadyH.cons rfl (fun K hK => ?_) AllReadyH.nil
  rw [if_pos (by rfl)]
  try simp only [List.getElem_toArray, List.getElem_cons_succ, List.getElem_cons_zero]
  refine wp_append_view _ _ 23 rfl 5 i0 _ 1 Tryd.underlying23 hi hz0 hz1 hz2 rfl w1.heap.size _ (1) (u8s ([F])) rfl ownA _ D h.dst.length d' (u8s h.dst) rfl (HVD.out.chg (HC1.out.trans hchA) (fun _ _ h => h)) (u8s_one _) (by  unfold maxLen; omega) (by  omega) hchA.size ?_
  intro v5 w5 hown5 hgrow5 hob5
  have hchB : Chg none_ w1 w5 := hchA.append (Nat.le_refl _) ownA hgrow5
  rw [u8s_append] at hown5
  obtain ⟨A5, q5, rfl, _, _, _⟩ := View.own (T := fun _ => True) hown5 (fun _ _ => trivial)
  refine hK.out _ _ hchB (fun _ => ?_)
  clear hK K
  try simp only [Act.put, List.setIfInBounds_toArray, List.set_cons_zero, List.set_cons_succ]
  refine wpAnyH_ready (rs := [8]) (by kernel_rfl) (by simp) ?_
  refine AllReadyH.cons rfl (fun K hK => ?_) AllReadyH.nil
  rw [if_pos (by rfl)]
  try simp only [List.getElem_toArray, List.getElem_cons_succ, List.getElem_cons_zero]
  refine wp_append_view _ _ 23 rfl 5 i0 _ 1 Tryd.underlying23 hi hz0 hz1 hz2 rfl w1.heap.size _ (1 + h.dst.length) (u8s ([F] ++ h.dst)) rfl hown5 _ C h.cut.length c' (u8s h.cut) rfl (HVC.out.chg (HC1.out.trans hchB) (fun _ _ h => h)) (u8s_one _) (by  unfold maxLen; omega) (by  omega) hchB.size ?_
  intro v8 w8 hown8 hgrow8 hob8
  have hchC : Chg none_ w1 w8 := hchB.append (Nat.le_refl _) hown5 hgrow8
  rw [u8s_append] at hown8
  obtain ⟨A8, q8, rfl, _, _, v8⟩ := View.own (T := fun b => w1.heap.size ≤ b) hown8 (fun _ h => h)
  refine hK.out _ _ hchC (fun _ => ?_)
  clear hK K
  try simp only [Act.put, List.setIfInBounds_toArray, List.set_cons_zero, List.set_cons_succ]
  refine wpAnyH_ready (rs := [9]) (by kernel_rfl) (by simp) ?_
  refine AllReadyH.cons rfl (fun K hK => ?_) AllReadyH.nil
  rw [if_pos (by rfl)]
  try simp only [List.getElem_toArray, List.getElem_cons_succ, List.getElem_cons_zero]
  go_simp
  refine hK.out _ _ hchC (fun _ => ?_)
  clear hK K
  try simp only [Act.put, List.setIfInBounds_toArray, List.set_cons_zero, List.set_cons_succ, List.getElem_toArray, List.getElem_cons_succ, List.getElem_cons_zero]
  refine wpAnyH_done (by kernel_rfl) ?_ _
  go_wp2_with fail
  go_ret
  have hlB : B.length = 1 + h.dst.length + h.cut.length := by rw [HB.out]; simp; omega
  rw [List.append_assoc, ← HB.out] at hown8 v8
  rw [← hlB] at hown8 v8
  exact ⟨A8, q8, by rw [hlB]; rfl, Fresh.base ⟨v8, hown8⟩ HC1.out.size, HC1.out.trans hchC⟩

set_option maxRecDepth 100000 in
set_option maxHeartbeats 2000000 in
theorem rput_long0 (h : Hd) (v : Four) (w : World) (T : Nat → Prop) (hd : HdD w T h v) (hr : rightH h = true) (hl : h.long = true) (hk : h.kind = 0) (hv32 : h.version < 4294967296) :
    Calls Tryd.prog 16 #[aggH h v] w (GotBytes w (bytesH h)) := by
  have hF := rightF hr
  have HR := Lib.hid (fun w' => rright_sh h v w' hd.shape (by have := hF.s; have := hF.t; omega))
  simp only [hr] at HR
  obtain ⟨i0, hi, hz0, hz1, hz2⟩ := info_parts info5
  have h0 := cH_0 h v
  have h1 := cH_1 h v
  have h2 := cH_2 h v
  have h3 := cH_3 h v
  have h4 := cH_4 h v
  have h5 := cH_5 h v
  have h6 := cH_6 h v
  have h7 := cH_7 h v
  have h8 := cH_8 h v
  have h9 := cH_len h v
  have hc1' := hF.c1
  have hc4' := hF.c4
  have hdl := hF.d
  have hsl := hF.s
  have htl := hF.t
  obtain ⟨D, d', e4, _, vd⟩ := hd.d
  obtain ⟨S, s', e5, _, vs⟩ := hd.s
  obtain ⟨Tk, t', e6, _, vt⟩ := hd.t
  obtain ⟨C, c', e7, _, vc⟩ := hd.c
  rw [e4] at h4; rw [e5] at h5; rw [e6] at h6; rw [e7] at h7
  have HVD := Lib.hid vd
  have HVS := Lib.hid vs
  have HVT := Lib.hid vt
  have HVC := Lib.hid vc
  have HB : Hid (bytesH h = aheadH h ++ (enI h.token.length ++ (h.token ++ (enI (h.cut.length + h.rest.toNat) ++ h.cut)))) := by show _ = _; unfold bytesH; rw [hl, hk]; rfl
  have HA : Hid (aheadH h = firstM h :: (arr h.version 4 4 ++ ((h.dst.length :: h.dst) ++ (h.src.length :: h.src)))) := rfl
  have hph := hF.kp hl
  have HF : Hid (firstM h = 192 + 16 * 0 + (h.cut.length - 1)) := by
    show _ = _
    unfold firstM
    rw [hl, hk, hph]
    simp
    omega
  obtain ⟨ρ, hρ⟩ : ∃ ρ : Nat, h.rest = (ρ : Int) := ⟨h.rest.toNat, by have := hF.r0; omega⟩
  have hρ1 : ρ ≤ 1200 := by have := hF.r1; omega
  rw [hρ] at h8
  rw [hρ, Int.toNat_natCast] at HB
  rw [hl] at h0
  rw [hk] at h2
  unfold aggH at *
  generalize hcs : cellsH h v = cs at HR h0 h1 h2 h3 h4 h5 h6 h7 h8 h9 ⊢
  have H9 := Lib.hid h9
  have HRW := Lib.hid (Row.new w 25 cs)
  have HCW := Lib.hid ((Chg.refl none_ w).alloc (.cells cs.toArray 25))
  clear hcs h9 hd hF hr hl hk hph hρ e4 e5 e6 e7 vd vs vt vc
  generalize bytesH h = B at *
  generalize aheadH h = AH at *
  generalize firstM h = F at *
  go_enter Tryd.func16, Tryd.ntmps16
  go_wp2_with (first | ((with_reducible show wpList _ _ _ (⟨_, .load 25 _, _, _, _, _⟩ :: _) _ _); refine wlH rfl rfl rfl HRW.out H9.out ?_) | (go_at_call 13; refine (HR.out _).mono ?_; rintro e w1 ⟨rfl, hc1⟩; have HX := Lib.hid (fun w' (hc : Chg none_ w1 w') => (HRW.out.chg hc1 (fun h => h)).chg hc (fun h => h)); have k0 := ((HX.out w1 (Chg.refl _ _)).cell 0).trans h0; have k1 := ((HX.out w1 (Chg.refl _ _)).cell 1).trans h1; have k7 := ((HX.out w1 (Chg.refl _ _)).cell 7).trans h7; have k3 := ((HX.out w1 (Chg.refl _ _)).cell 3).trans h3; have k2 := ((HX.out w1 (Chg.refl _ _)).cell 2).trans h2))
  have HC1 := Lib.hid (HCW.out.trans hc1)
  clear k0 k1 k7 k3 k2 hc1
  have HE5 : Hid (([.int .u8 (192 + (h.cut.length : Int) - 1), .int .u8 ((h.version : Int) / 16777216), .int .u8 ((h.version : Int) / 65536 % 256), .int .u8 ((h.version : Int) / 256 % 256), .int .u8 ((h.version : Int) % 256)] : List Value) = u8s (F :: arr h.version 4 4)) := by
    show _ = _
    rw [HF.out]
    simp [u8s, arr, List.range_succ]
    omega
  have own2 := own_of_row (base := w1.heap.size) (n := 5) (Row.new w1 5 [.int .u8 (192 + (h.cut.length : Int) - 1), .int .u8 ((h.version : Int) / 16777216), .int .u8 ((h.version : Int) / 65536 % 256), .int .u8 ((h.version : Int) / 256 % 256), .int .u8 ((h.version : Int) % 256)]) (Nat.le_refl _) rfl (by decide)
  have c12 : Chg none_ w1 (w1.alloc (.cells [.int .u8 (192 + (h.cut.length : Int) - 1), .int .u8 ((h.version : Int) / 16777216), .int .u8 ((h.version : Int) / 65536 % 256), .int .u8 ((h.version : Int) / 256 % 256), .int .u8 ((h.version : Int) % 256)].toArray 5)) := (Chg.refl _ _).alloc _
  generalize w1.alloc (.cells [.int .u8 (192 + (h.cut.length : Int) - 1), .int .u8 ((h.version : Int) / 16777216), .int .u8 ((h.version : Int) / 65536 % 256), .int .u8 ((h.version : Int) / 256 % 256), .int .u8 ((h.version : Int) % 256)].toArray 5) = w2 at *
  rw [HE5.out] at own2
  obtain ⟨A2, q2, hA2⟩ : ∃ A2 q2, (Value.slice (some ⟨w1.heap.size, 0, none⟩) 5 5) = .slice A2 5 q2 := ⟨_, _, rfl⟩
  rw [hA2] at own2
  have hwd : IntKind.u8.wrap (h.dst.length : Int) = (h.dst.length : Int) := IntWalk.u8_in _ (by omega)
  have hws : IntKind.u8.wrap (h.src.length : Int) = (h.src.length : Int) := IntWalk.u8_in _ (by omega)
  have hwt : IntKind.u64.wrap (h.token.length : Int) = (h.token.length : Int) := IntWalk.u64_in _ (by omega)
  have c2d : Chg none_ w1 w2.drew := c12.drew
  refine wp_region_held_drew (S := fun w' => Chg none_ w1 w') (by kernel_rfl) c2d (fun _ => ?_)
  refine wpAnyH_take (i := 0) (v := .slice (some ⟨w1.heap.size, 0, none⟩) 5 5) rfl (by kernel_rfl) (by kernel_rfl) (by kernel_rfl) (by first | exact fun _ _ _ h => h | exact fun _ _ _ h => nomatch h.1) (Or.inl ⟨by rfl, fun w' hw' => by go_simp⟩) c2d ?_
  refine wpAnyH_take (i := 1) (v := .pointer (some ⟨w.heap.size, 4, none⟩)) rfl (by kernel_rfl) (by kernel_rfl) (by kernel_rfl) (by first | exact fun _ _ _ h => h | exact fun _ _ _ h => nomatch h.1) (Or.inl ⟨by rfl, fun w' hw' => by go_simp⟩) c2d ?_
  refine wpAnyH_take (i := 2) (v := .slice D h.dst.length d') rfl (by kernel_rfl) (by kernel_rfl) (by kernel_rfl) (by first | exact fun _ _ _ h => h | exact fun _ _ _ h => nomatch h.1) (Or.inl ⟨by rfl, fun w' hw' => by have hh := ((HX.out w' hw').cell 4).trans h4; go_simp⟩) c2d ?_
  refine wpAnyH_take (i := 3) (v := .int .i64 (h.dst.length : Nat)) rfl (by kernel_rfl) (by kernel_rfl) (by kernel_rfl) (by first | exact fun _ _ _ h => h | exact fun _ _ _ h => nomatch h.1) (Or.inl ⟨by rfl, fun w' hw' => by go_simp⟩) c2d ?_
  refine wpAnyH_take (i := 4) (v := .int .u8 (h.dst.length : Nat)) rfl (by kernel_rfl) (by kernel_rfl) (by kernel_rfl) (by first | exact fun _ _ _ h => h | exact fun _ _ _ h => nomatch h.1) (Or.inl ⟨by rfl, fun w' hw' => by go_simp⟩) c2d ?_
  refine wpAnyH_take (i := 7) (v := .pointer (some ⟨w.heap.size, 4, none⟩)) rfl (by kernel_rfl) (by kernel_rfl) (by kernel_rfl) (by first | exact fun _ _ _ h => h | exact fun _ _ _ h => nomatch h.1) (Or.inl ⟨by rfl, fun w' hw' => by go_simp⟩) c2d ?_
  refine wpAnyH_take (i := 8) (v := .slice D h.dst.length d') rfl (by kernel_rfl) (by kernel_rfl) (by kernel_rfl) (by first | exact fun _ _ _ h => h | exact fun _ _ _ h => nomatch h.1) (Or.inl ⟨by rfl, fun w' hw' => by have hh := ((HX.out w' hw').cell 4).trans h4; go_simp⟩) c2d ?_
  refine wpAnyH_ready (rs := [5]) (by kernel_rfl) (by simp) ?_
  refine AllReadyH.cons rfl (fun K hK => ?_) AllReadyH.nil
  rw [if_pos (by rfl)]
  try simp only [List.getElem_toArray, List.getElem_cons_succ, List.getElem_cons_zero]
  go_simp
  have c2A : Chg none_ w1 (w2.drew.alloc (.cells (u8s [h.dst.length]).toArray 5)) := c2d.alloc _
  have own2A := own_chg own2 (((Chg.refl none_ w2).drew).alloc (.cells (u8s [h.dst.length]).toArray 5)) (fun _ _ h => h)
  have vs2 := Sl.new w2.drew (fun _ => True) [h.dst.length] (by simp) trivial
  obtain ⟨_, _, qe2, _, vv2⟩ := vs2
  injection qe2 with qe2 _ _
  subst qe2
  refine hK.out _ _ c2A (fun _ => ?_)
  clear hK K
  try simp only [Act.put, List.setIfInBounds_toArray, List.set_cons_zero, List.set_cons_succ, List.getElem_toArray, List.getElem_cons_succ, List.getElem_cons_zero]
  try rw [hA2]
  refine wpAnyH_ready (rs := [6]) (by kernel_rfl) (by simp) ?_
  refine AllReadyH.cons rfl (fun K hK => ?_) AllReadyH.nil
  rw [if_pos (by rfl)]
  try simp only [List.getElem_toArray, List.getElem_cons_succ, List.getElem_cons_zero]
  refine wp_append_view _ _ 23 rfl 5 i0 _ 1 Tryd.underlying23 hi hz0 hz1 hz2 rfl w1.heap.size (.slice A2 5 q2) (5) (u8s (F :: arr h.version 4 4)) rfl own2A _ _ 1 1 (u8s [h.dst.length]) rfl vv2 (u8s_one _) (by unfold maxLen; omega) (by omega) c2A.size ?_
  intro v3m w3m hown3m hgrow3m hob3m
  have c3m : Chg none_ w1 w3m := c2A.append (Nat.le_refl _) own2A hgrow3m
  rw [u8s_append] at hown3m
  obtain ⟨A3m, q3m, rfl, _, _, _⟩ := View.own (T := fun _ => True) hown3m (fun _ _ => trivial)
  refine hK.out _ _ c3m (fun _ => ?_)
  clear hK K
  try simp only [Act.put, List.setIfInBounds_toArray, List.set_cons_zero, List.set_cons_succ]
  refine wpAnyH_ready (rs := [9]) (by kernel_rfl) (by simp) ?_
  refine AllReadyH.cons rfl (fun K hK => ?_) AllReadyH.nil
  rw [if_pos (by rfl)]
  try simp only [List.getElem_toArray, List.getElem_cons_succ, List.getElem_cons_zero]
  refine wp_append_view _ _ 23 rfl 5 i0 _ 1 Tryd.underlying23 hi hz0 hz1 hz2 rfl w1.heap.size (.slice A3m (5 + 1) q3m) (5 + 1) (u8s (F :: arr h.version 4 4 ++ [h.dst.length])) rfl hown3m _ D h.dst.length d' (u8s h.dst) rfl (HVD.out.chg (HC1.out.trans c3m) (fun _ _ h => h)) (u8s_one _) (by unfold maxLen; omega) (by omega) c3m.size ?_
  intro v3 w3 own3 hgrow3 hob3
  have c13 : Chg none_ w1 w3 := c3m.append (Nat.le_refl _) hown3m hgrow3
  rw [u8s_append] at own3
  obtain ⟨A3, q3, rfl, _, _, _⟩ := View.own (T := fun _ => True) own3 (fun _ _ => trivial)
  refine hK.out _ _ c13 (fun _ => ?_)
  clear hK K
  try simp only [Act.put, List.setIfInBounds_toArray, List.set_cons_zero, List.set_cons_succ]
  refine wpAnyH_ready (rs := [10]) (by kernel_rfl) (by simp) ?_
  refine AllReadyH.cons rfl (fun K hK => ?_) AllReadyH.nil
  rw [if_pos (by rfl)]
  try simp only [List.getElem_toArray, List.getElem_cons_succ, List.getElem_cons_zero]
  go_simp
  refine hK.out _ _ c13 (fun _ => ?_)
  clear hK K
  try simp only [Act.put, List.setIfInBounds_toArray, List.set_cons_zero, List.set_cons_succ, List.getElem_toArray, List.getElem_cons_succ, List.getElem_cons_zero]
  refine wpAnyH_done (by kernel_rfl) ?_ _
  clear c2d c2A own2A vv2 c3m hown3m hgrow3m hob3m hgrow3 hob3
  go_wp2_with fail
  have c3d : Chg none_ w1 w3.drew := c13.drew
  refine wp_region_held_drew (S := fun w' => Chg none_ w1 w') (by kernel_rfl) c3d (fun _ => ?_)
  refine wpAnyH_take (i := 0) (v := .slice A3 (5 + 1 + h.dst.length) q3) rfl (by kernel_rfl) (by kernel_rfl) (by kernel_rfl) (by first | exact fun _ _ _ h => h | exact fun _ _ _ h => nomatch h.1) (Or.inl ⟨by rfl, fun w' hw' => by go_simp⟩) c3d ?_
  refine wpAnyH_take (i := 1) (v := .pointer (some ⟨w.heap.size, 5, none⟩)) rfl (by kernel_rfl) (by kernel_rfl) (by kernel_rfl) (by first | exact fun _ _ _ h => h | exact fun _ _ _ h => nomatch h.1) (Or.inl ⟨by rfl, fun w' hw' => by go_simp⟩) c3d ?_
  refine wpAnyH_take (i := 2) (v := .slice S h.src.length s') rfl (by kernel_rfl) (by kernel_rfl) (by kernel_rfl) (by first | exact fun _ _ _ h => h | exact fun _ _ _ h => nomatch h.1) (Or.inl ⟨by rfl, fun w' hw' => by have hh := ((HX.out w' hw').cell 5).trans h5; go_simp⟩) c3d ?_
  refine wpAnyH_take (i := 3) (v := .int .i64 (h.src.length : Nat)) rfl (by kernel_rfl) (by kernel_rfl) (by kernel_rfl) (by first | exact fun _ _ _ h => h | exact fun _ _ _ h => nomatch h.1) (Or.inl ⟨by rfl, fun w' hw' => by go_simp⟩) c3d ?_
  refine wpAnyH_take (i := 4) (v := .int .u8 (h.src.length : Nat)) rfl (by kernel_rfl) (by kernel_rfl) (by kernel_rfl) (by first | exact fun _ _ _ h => h | exact fun _ _ _ h => nomatch h.1) (Or.inl ⟨by rfl, fun w' hw' => by go_simp⟩) c3d ?_
  refine wpAnyH_take (i := 7) (v := .pointer (some ⟨w.heap.size, 5, none⟩)) rfl (by kernel_rfl) (by kernel_rfl) (by kernel_rfl) (by first | exact fun _ _ _ h => h | exact fun _ _ _ h => nomatch h.1) (Or.inl ⟨by rfl, fun w' hw' => by go_simp⟩) c3d ?_
  refine wpAnyH_take (i := 8) (v := .slice S h.src.length s') rfl (by kernel_rfl) (by kernel_rfl) (by kernel_rfl) (by first | exact fun _ _ _ h => h | exact fun _ _ _ h => nomatch h.1) (Or.inl ⟨by rfl, fun w' hw' => by have hh := ((HX.out w' hw').cell 5).trans h5; go_simp⟩) c3d ?_
  refine wpAnyH_ready (rs := [5]) (by kernel_rfl) (by simp) ?_
  refine AllReadyH.cons rfl (fun K hK => ?_) AllReadyH.nil
  rw [if_pos (by rfl)]
  try simp only [List.getElem_toArray, List.getElem_cons_succ, List.getElem_cons_zero]
  go_simp
  have c3A : Chg none_ w1 (w3.drew.alloc (.cells (u8s [h.src.length]).toArray 5)) := c3d.alloc _
  have own3A := own_chg own3 (((Chg.refl none_ w3).drew).alloc (.cells (u8s [h.src.length]).toArray 5)) (fun _ _ h => h)
  have vs3 := Sl.new w3.drew (fun _ => True) [h.src.length] (by simp) trivial
  obtain ⟨_, _, qe3, _, vv3⟩ := vs3
  injection qe3 with qe3 _ _
  subst qe3
  refine hK.out _ _ c3A (fun _ => ?_)
  clear hK K
  try simp only [Act.put, List.setIfInBounds_toArray, List.set_cons_zero, List.set_cons_succ, List.getElem_toArray, List.getElem_cons_succ, List.getElem_cons_zero]
  refine wpAnyH_ready (rs := [6]) (by kernel_rfl) (by simp) ?_
  refine AllReadyH.cons rfl (fun K hK => ?_) AllReadyH.nil
  rw [if_pos (by rfl)]
  try simp only [List.getElem_toArray, List.getElem_cons_succ, List.getElem_cons_zero]
  refine wp_append_view _ _ 23 rfl 5 i0 _ 1 Tryd.underlying23 hi hz0 hz1 hz2 rfl w1.heap.size (.slice A3 (5 + 1 + h.dst.length) q3) (5 + 1 + h.dst.length) (u8s (F :: arr h.version 4 4 ++ [h.dst.length] ++ h.dst)) rfl own3A _ _ 1 1 (u8s [h.src.length]) rfl vv3 (u8s_one _) (by unfold maxLen; omega) (by omega) c3A.size ?_
  intro v4m w4m hown4m hgrow4m hob4m
  have c4m : Chg none_ w1 w4m := c3A.append (Nat.le_refl _) own3A hgrow4m
  rw [u8s_append] at hown4m
  obtain ⟨A4m, q4m, rfl, _, _, _⟩ := View.own (T := fun _ => True) hown4m (fun _ _ => trivial)
  refine hK.out _ _ c4m (fun _ => ?_)
  clear hK K
  try simp only [Act.put, List.setIfInBounds_toArray, List.set_cons_zero, List.set_cons_succ]
  refine wpAnyH_ready (rs := [9]) (by kernel_rfl) (by simp) ?_
  refine AllReadyH.cons rfl (fun K hK => ?_) AllReadyH.nil
  rw [if_pos (by rfl)]
  try simp only [List.getElem_toArray, List.getElem_cons_succ, List.getElem_cons_zero]
  refine wp_append_view _ _ 23 rfl 5 i0 _ 1 Tryd.underlying23 hi hz0 hz1 hz2 rfl w1.heap.size (.slice A4m (5 + 1 + h.dst.length + 1) q4m) (5 + 1 + h.dst.length + 1) (u8s (F :: arr h.version 4 4 ++ [h.dst.length] ++ h.dst ++ [h.src.length])) rfl hown4m _ S h.src.length s' (u8s h.src) rfl (HVS.out.chg (HC1.out.trans c4m) (fun _ _ h => h)) (u8s_one _) (by unfold maxLen; omega) (by omega) c4m.size ?_
  intro v4 w4 own4 hgrow4 hob4
  have c14 : Chg none_ w1 w4 := c4m.append (Nat.le_refl _) hown4m hgrow4
  rw [u8s_append] at own4
  obtain ⟨A4, q4, rfl, _, _, _⟩ := View.own (T := fun _ => True) own4 (fun _ _ => trivial)
  refine hK.out _ _ c14 (fun _ => ?_)
  clear hK K
  try simp only [Act.put, List.setIfInBounds_toArray, List.set_cons_zero, List.set_cons_succ]
  refine wpAnyH_ready (rs := [10]) (by kernel_rfl) (by simp) ?_
  refine AllReadyH.cons rfl (fun K hK => ?_) AllReadyH.nil
  rw [if_pos (by rfl)]
  try simp only [List.getElem_toArray, List.getElem_cons_succ, List.getElem_cons_zero]
  go_simp
  refine hK.out _ _ c14 (fun _ => ?_)
  clear hK K
  try simp only [Act.put, List.setIfInBounds_toArray, List.set_cons_zero, List.set_cons_succ, List.getElem_toArray, List.getElem_cons_succ, List.getElem_cons_zero]
  refine wpAnyH_done (by kernel_rfl) ?_ _
  clear c3d c3A own3A vv3 c4m hown4m hgrow4m hob4m hgrow4 hob4
  have k2 := ((HX.out w4 c14).cell 2).trans h2
  go_wp2_with fail
  have hle0 := enl8 h.token.length
  have c4d : Chg none_ w1 w4.drew := c14.drew
  refine wp_region_held_drew (S := fun w' => Chg none_ w1 w') (by kernel_rfl) c4d (fun _ => ?_)
  refine wpAnyH_take (i := 0) (v := .slice A4 (5 + 1 + h.dst.length + 1 + h.src.length) q4) rfl (by kernel_rfl) (by kernel_rfl) (by kernel_rfl) (by first | exact fun _ _ _ h => h | exact fun _ _ _ h => nomatch h.1) (Or.inl ⟨by rfl, fun w' hw' => by go_simp⟩) c4d ?_
  refine wpAnyH_take (i := 1) (v := .pointer (some ⟨w.heap.size, 6, none⟩)) rfl (by kernel_rfl) (by kernel_rfl) (by kernel_rfl) (by first | exact fun _ _ _ h => h | exact fun _ _ _ h => nomatch h.1) (Or.inl ⟨by rfl, fun w' hw' => by go_simp⟩) c4d ?_
  refine wpAnyH_take (i := 2) (v := .slice Tk h.token.length t') rfl (by kernel_rfl) (by kernel_rfl) (by kernel_rfl) (by first | exact fun _ _ _ h => h | exact fun _ _ _ h => nomatch h.1) (Or.inl ⟨by rfl, fun w' hw' => by have hh := ((HX.out w' hw').cell 6).trans h6; go_simp⟩) c4d ?_
  refine wpAnyH_take (i := 3) (v := .int .i64 (h.token.length : Nat)) rfl (by kernel_rfl) (by kernel_rfl) (by kernel_rfl) (by first | exact fun _ _ _ h => h | exact fun _ _ _ h => nomatch h.1) (Or.inl ⟨by rfl, fun w' hw' => by go_simp⟩) c4d ?_
  refine wpAnyH_take (i := 4) (v := .int .u64 (h.token.length : Nat)) rfl (by kernel_rfl) (by kernel_rfl) (by kernel_rfl) (by first | exact fun _ _ _ h => h | exact fun _ _ _ h => nomatch h.1) (Or.inl ⟨by rfl, fun w' hw' => by go_simp⟩) c4d ?_
  refine wpAnyH_take (i := 7) (v := .pointer (some ⟨w.heap.size, 6, none⟩)) rfl (by kernel_rfl) (by kernel_rfl) (by kernel_rfl) (by first | exact fun _ _ _ h => h | exact fun _ _ _ h => nomatch h.1) (Or.inl ⟨by rfl, fun w' hw' => by go_simp⟩) c4d ?_
  refine wpAnyH_take (i := 8) (v := .slice Tk h.token.length t') rfl (by kernel_rfl) (by kernel_rfl) (by kernel_rfl) (by first | exact fun _ _ _ h => h | exact fun _ _ _ h => nomatch h.1) (Or.inl ⟨by rfl, fun w' hw' => by have hh := ((HX.out w' hw').cell 6).trans h6; go_simp⟩) c4d ?_
  refine wpAnyH_ready (rs := [5]) (by kernel_rfl) (by simp) ?_
  refine AllReadyH.cons rfl (fun K hK => ?_) AllReadyH.nil
  rw [if_pos (by rfl)]
  try simp only [List.getElem_toArray, List.getElem_cons_succ, List.getElem_cons_zero]
  go_simp
  refine (rput_got h.token.length w4.drew).mono ?_
  rintro e w5p ⟨A5p, q5p, rfl, f5p, hc5p⟩
  have c15p : Chg none_ w1 w5p := c4d.trans hc5p
  have own5p := own_chg own4 (((Chg.refl none_ w4).drew).trans hc5p) (fun _ _ h => h)
  refine hK.out _ _ c15p (fun _ => ?_)
  clear hK K
  try simp only [Act.put, List.setIfInBounds_toArray, List.set_cons_zero, List.set_cons_succ, List.getElem_toArray, List.getElem_cons_succ, List.getElem_cons_zero]
  refine wpAnyH_ready (rs := [6]) (by kernel_rfl) (by simp) ?_
  refine AllReadyH.cons rfl (fun K hK => ?_) AllReadyH.nil
  rw [if_pos (by rfl)]
  try simp only [List.getElem_toArray, List.getElem_cons_succ, List.getElem_cons_zero]
  refine wp_append_view _ _ 23 rfl 5 i0 _ 1 Tryd.underlying23 hi hz0 hz1 hz2 rfl w1.heap.size (.slice A4 (5 + 1 + h.dst.length + 1 + h.src.length) q4) (5 + 1 + h.dst.length + 1 + h.src.length) (u8s (F :: arr h.version 4 4 ++ [h.dst.length] ++ h.dst ++ [h.src.length] ++ h.src)) rfl own5p _ A5p (enI h.token.length).length q5p (u8s (enI h.token.length)) rfl f5p.view (u8s_one _) (by unfold maxLen; omega) (by omega) c15p.size ?_
  intro v5m w5m hown5m hgrow5m hob5m
  have c5m : Chg none_ w1 w5m := c15p.append (Nat.le_refl _) own5p hgrow5m
  rw [u8s_append] at hown5m
  obtain ⟨A5m, q5m, rfl, _, _, _⟩ := View.own (T := fun _ => True) hown5m (fun _ _ => trivial)
  refine hK.out _ _ c5m (fun _ => ?_)
  clear hK K
  try simp only [Act.put, List.setIfInBounds_toArray, List.set_cons_zero, List.set_cons_succ]
  refine wpAnyH_ready (rs := [9]) (by kernel_rfl) (by simp) ?_
  refine AllReadyH.cons rfl (fun K hK => ?_) AllReadyH.nil
  rw [if_pos (by rfl)]
  try simp only [List.getElem_toArray, List.getElem_cons_succ, List.getElem_cons_zero]
  refine wp_append_view _ _ 23 rfl 5 i0 _ 1 Tryd.underlying23 hi hz0 hz1 hz2 rfl w1.heap.size (.slice A5m (5 + 1 + h.dst.length + 1 + h.src.length + (enI h.token.length).length) q5m) (5 + 1 + h.dst.length + 1 + h.src.length + (enI h.token.length).length) (u8s (F :: arr h.version 4 4 ++ [h.dst.length] ++ h.dst ++ [h.src.length] ++ h.src ++ enI h.token.length)) rfl hown5m _ Tk h.token.length t' (u8s h.token) rfl (HVT.out.chg (HC1.out.trans c5m) (fun _ _ h => h)) (u8s_one _) (by unfold maxLen; omega) (by omega) c5m.size ?_
  intro v5 w5 own5 hgrow5 hob5
  have c15 : Chg none_ w1 w5 := c5m.append (Nat.le_refl _) hown5m hgrow5
  rw [u8s_append] at own5
  obtain ⟨A5, q5, rfl, _, _, _⟩ := View.own (T := fun _ => True) own5 (fun _ _ => trivial)
  refine hK.out _ _ c15 (fun _ => ?_)
  clear hK K
  try simp only [Act.put, List.setIfInBounds_toArray, List.set_cons_zero, List.set_cons_succ]
  refine wpAnyH_ready (rs := [10]) (by kernel_rfl) (by simp) ?_
  refine AllReadyH.cons rfl (fun K hK => ?_) AllReadyH.nil
  rw [if_pos (by rfl)]
  try simp only [List.getElem_toArray, List.getElem_cons_succ, List.getElem_cons_zero]
  go_simp
  refine hK.out _ _ c15 (fun _ => ?_)
  clear hK K
  try simp only [Act.put, List.setIfInBounds_toArray, List.set_cons_zero, List.set_cons_succ, List.getElem_toArray, List.getElem_cons_succ, List.getElem_cons_zero]
  refine wpAnyH_done (by kernel_rfl) ?_ _
  clear c4d c15p own5p f5p hc5p c5m hown5m hgrow5m hob5m hgrow5 hob5
  have k7 := ((HX.out w5 c15).cell 7).trans h7
  have k8 := ((HX.out w5 c15).cell 8).trans h8
  have hwr : IntKind.u64.wrap ((h.cut.length : Int) + (ρ : Int)) = (h.cut.length : Int) + (ρ : Int) := IntWalk.u64_in _ (by omega)
  go_wp2_with fail
  have hle := enl8 (h.cut.length + ρ)
  have HRP : Hid (Calls Tryd.prog 30 #[.int .u64 ((h.cut.length : Int) + (ρ : Int))] w5 (GotBytes w5 (enI (h.cut.length + ρ)))) := rput_got (h.cut.length + ρ) w5
  refine HRP.out.mono ?_
  rintro e w6 ⟨A6, q6, rfl, f6, hc6⟩
  have c16 := c15.trans hc6
  have own6 := own_chg own5 hc6 (fun _ _ h => h)
  have HVC6 := Lib.hid (fun w' (hc : Chg none_ w1 w') => HVC.out.chg (HC1.out.trans hc) (fun _ _ h => h))
  have hs6 := c16.size
  generalize enI (h.cut.length + ρ) = E at *
  go_wp2_with (at_builtin; first | (refine wpList_append_view rfl _ _ 23 rfl 5 i0 _ 1 Tryd.underlying23 hi hz0 hz1 hz2 rfl w1.heap.size (.slice A5 (5 + 1 + h.dst.length + 1 + h.src.length + (enI h.token.length).length + h.token.length) q5) (5 + 1 + h.dst.length + 1 + h.src.length + (enI h.token.length).length + h.token.length) (u8s (F :: arr h.version 4 4 ++ [h.dst.length] ++ h.dst ++ [h.src.length] ++ h.src ++ enI h.token.length ++ h.token)) rfl own6 _ A6 E.length q6 (u8s E) rfl f6.view (u8s_one _) (by unfold maxLen; omega) (by omega) hs6 ?_; intro v7 w7 own7 hgrow7 hob7; have c17 := c16.append (Nat.le_refl _) own6 hgrow7; rw [u8s_append] at own7; obtain ⟨A7, q7, rfl, _, _, _⟩ := View.own (T := fun _ => True) own7 (fun _ _ => trivial); have k77 := ((HX.out w7 c17).cell 7).trans h7; have hs7 := c17.size) | (refine wpList_append_view rfl _ _ 23 rfl 5 i0 _ 1 Tryd.underlying23 hi hz0 hz1 hz2 rfl w1.heap.size (.slice A7 (5 + 1 + h.dst.length + 1 + h.src.length + (enI h.token.length).length + h.token.length + E.length) q7) (5 + 1 + h.dst.length + 1 + h.src.length + (enI h.token.length).length + h.token.length + E.length) (u8s (F :: arr h.version 4 4 ++ [h.dst.length] ++ h.dst ++ [h.src.length] ++ h.src ++ enI h.token.length ++ h.token ++ E)) rfl own7 _ C h.cut.length c' (u8s h.cut) rfl (HVC6.out _ c17) (u8s_one _) (by unfold maxLen; omega) (by omega) hs7 ?_; intro v8 w8 own8 hgrow8 hob8; have c18 := c17.append (Nat.le_refl _) own7 hgrow8; rw [u8s_append] at own8; obtain ⟨A8, q8, rfl, _, _, v8⟩ := View.own (T := fun b => w1.heap.size ≤ b) own8 (fun _ h => h)))
  go_ret
  have hBL : F :: arr h.version 4 4 ++ [h.dst.length] ++ h.dst ++ [h.src.length] ++ h.src ++ enI h.token.length ++ h.token ++ E ++ h.cut = B := by rw [HB.out, HA.out]; simp
  have hlB : 5 + 1 + h.dst.length + 1 + h.src.length + (enI h.token.length).length + h.token.length + E.length + h.cut.length = B.length := by rw [← hBL]; simp [arr_len]; omega
  rw [hBL, hlB] at own8 v8
  exact ⟨A8, q8, by rw [← hlB]; rfl, Fresh.base ⟨v8, own8⟩ HC1.out.size, HC1.out.trans c18⟩

set_option maxRecDepth 100000 in
set_option maxHeartbeats 2000000 in
theorem rput_long2 (h : Hd) (v : Four) (w : World) (T : Nat → Prop) (hd : HdD w T h v) (hr : rightH h = true) (hl : h.long = true) (hk : h.kind = 2) (hv32 : h.version < 4294967296) :
    Calls Tryd.prog 16 #[aggH h v] w (GotBytes w (bytesH h)) := by
  have hF := rightF hr
  have HR := Lib.hid (fun w' => rright_sh h v w' hd.shape (by have := hF.s; have := hF.t; omega))
  simp only [hr] at HR
  obtain ⟨i0, hi, hz0, hz1, hz2⟩ := info_parts info5
  have h0 := cH_0 h v
  have h1 := cH_1 h v
  have h2 := cH_2 h v
  have h3 := cH_3 h v
  have h4 := cH_4 h v
  have h5 := cH_5 h v
  have h6 := cH_6 h v
  have h7 := cH_7 h v
  have h8 := cH_8 h v
  have h9 := cH_len h v
  have hc1' := hF.c1
  have hc4' := hF.c4
  have hdl := hF.d
  have hsl := hF.s
  have htl := hF.t
  obtain ⟨D, d', e4, _, vd⟩ := hd.d
  obtain ⟨S, s', e5, _, vs⟩ := hd.s
  obtain ⟨Tk, t', e6, _, vt⟩ := hd.t
  obtain ⟨C, c', e7, _, vc⟩ := hd.c
  rw [e4] at h4; rw [e5] at h5; rw [e6] at h6; rw [e7] at h7
  have HVD := Lib.hid vd
  have HVS := Lib.hid vs
  have HVT := Lib.hid vt
  have HVC := Lib.hid vc
  have HB : Hid (bytesH h = aheadH h ++ (enI (h.cut.length + h.rest.toNat) ++ h.cut)) := by show _ = _; unfold bytesH; rw [hl, hk]; rfl
  have HA : Hid (aheadH h = firstM h :: (arr h.version 4 4 ++ ((h.dst.length :: h.dst) ++ (h.src.length :: h.src)))) := rfl
  have hph := hF.kp hl
  have HF : Hid (firstM h = 192 + 16 * 2 + (h.cut.length - 1)) := by
    show _ = _
    unfold firstM
    rw [hl, hk, hph]
    simp
    omega
  obtain ⟨ρ, hρ⟩ : ∃ ρ : Nat, h.rest = (ρ : Int) := ⟨h.rest.toNat, by have := hF.r0; omega⟩
  have hρ1 : ρ ≤ 1200 := by have := hF.r1; omega
  rw [hρ] at h8
  rw [hρ, Int.toNat_natCast] at HB
  rw [hl] at h0
  rw [hk] at h2
  unfold aggH at *
  generalize hcs : cellsH h v = cs at HR h0 h1 h2 h3 h4 h5 h6 h7 h8 h9 ⊢
  have H9 := Lib.hid h9
  have HRW := Lib.hid (Row.new w 25 cs)
  have HCW := Lib.hid ((Chg.refl none_ w).alloc (.cells cs.toArray 25))
  clear hcs h9 hd hF hr hl hk hph hρ e4 e5 e6 e7 vd vs vt vc
  generalize bytesH h = B at *
  generalize aheadH h = AH at *
  generalize firstM h = F at *
  go_enter Tryd.func16, Tryd.ntmps16
  go_wp2_with (first | ((with_reducible show wpList _ _ _ (⟨_, .load 25 _, _, _, _, _⟩ :: _) _ _); refine wlH rfl rfl rfl HRW.out H9.out ?_) | (go_at_call 13; refine (HR.out _).mono ?_; rintro e w1 ⟨rfl, hc1⟩; have HX := Lib.hid (fun w' (hc : Chg none_ w1 w') => (HRW.out.chg hc1 (fun h => h)).chg hc (fun h => h)); have k0 := ((HX.out w1 (Chg.refl _ _)).cell 0).trans h0; have k1 := ((HX.out w1 (Chg.refl _ _)).cell 1).trans h1; have k7 := ((HX.out w1 (Chg.refl _ _)).cell 7).trans h7; have k3 := ((HX.out w1 (Chg.refl _ _)).cell 3).trans h3; have k2 := ((HX.out w1 (Chg.refl _ _)).cell 2).trans h2))
  have HC1 := Lib.hid (HCW.out.trans hc1)
  clear k0 k1 k7 k3 k2 hc1
  have HE5 : Hid (([.int .u8 (224 + (h.cut.length : Int) - 1), .int .u8 ((h.version : Int) / 16777216), .int .u8 ((h.version : Int) / 65536 % 256), .int .u8 ((h.version : Int) / 256 % 256), .int .u8 ((h.version : Int) % 256)] : List Value) = u8s (F :: arr h.version 4 4)) := by
    show _ = _
    rw [HF.out]
    simp [u8s, arr, List.range_succ]
    omega
  have own2 := own_of_row (base := w1.heap.size) (n := 5) (Row.new w1 5 [.int .u8 (224 + (h.cut.length : Int) - 1), .int .u8 ((h.version : Int) / 16777216), .int .u8 ((h.version : Int) / 65536 % 256), .int .u8 ((h.version : Int) / 256 % 256), .int .u8 ((h.version : Int) % 256)]) (Nat.le_refl _) rfl (by decide)
  have c12 : Chg none_ w1 (w1.alloc (.cells [.int .u8 (224 + (h.cut.length : Int) - 1), .int .u8 ((h.version : Int) / 16777216), .int .u8 ((h.version : Int) / 65536 % 256), .int .u8 ((h.version : Int) / 256 % 256), .int .u8 ((h.version : Int) % 256)].toArray 5)) := (Chg.refl _ _).alloc _
  generalize w1.alloc (.cells [.int .u8 (224 + (h.cut.length : Int) - 1), .int .u8 ((h.version : Int) / 16777216), .int .u8 ((h.version : Int) / 65536 % 256), .int .u8 ((h.version : Int) / 256 % 256), .int .u8 ((h.version : Int) % 256)].toArray 5) = w2 at *
  rw [HE5.out] at own2
  obtain ⟨A2, q2, hA2⟩ : ∃ A2 q2, (Value.slice (some ⟨w1.heap.size, 0, none⟩) 5 5) = .slice A2 5 q2 := ⟨_, _, rfl⟩
  rw [hA2] at own2
  have hwd : IntKind.u8.wrap (h.dst.length : Int) = (h.dst.length : Int) := IntWalk.u8_in _ (by omega)
  have hws : IntKind.u8.wrap (h.src.length : Int) = (h.src.length : Int) := IntWalk.u8_in _ (by omega)
  have hwt : IntKind.u64.wrap (h.token.length : Int) = (h.token.length : Int) := IntWalk.u64_in _ (by omega)
  have c2d : Chg none_ w1 w2.drew := c12.drew
  refine wp_region_held_drew (S := fun w' => Chg none_ w1 w') (by kernel_rfl) c2d (fun _ => ?_)
  refine wpAnyH_take (i := 0) (v := .slice (some ⟨w1.heap.size, 0, none⟩) 5 5) rfl (by kernel_rfl) (by kernel_rfl) (by kernel_rfl) (by first | exact fun _ _ _ h => h | exact fun _ _ _ h => nomatch h.1) (Or.inl ⟨by rfl, fun w' hw' => by go_simp⟩) c2d ?_
  refine wpAnyH_take (i := 1) (v := .pointer (some ⟨w.heap.size, 4, none⟩)) rfl (by kernel_rfl) (by kernel_rfl) (by kernel_rfl) (by first | exact fun _ _ _ h => h | exact fun _ _ _ h => nomatch h.1) (Or.inl ⟨by rfl, fun w' hw' => by go_simp⟩) c2d ?_
  refine wpAnyH_take (i := 2) (v := .slice D h.dst.length d') rfl (by kernel_rfl) (by kernel_rfl) (by kernel_rfl) (by first | exact fun _ _ _ h => h | exact fun _ _ _ h => nomatch h.1) (Or.inl ⟨by rfl, fun w' hw' => by have hh := ((HX.out w' hw').cell 4).trans h4; go_simp⟩) c2d ?_
  refine wpAnyH_take (i := 3) (v := .int .i64 (h.dst.length : Nat)) rfl (by kernel_rfl) (by kernel_rfl) (by kernel_rfl) (by first | exact fun _ _ _ h => h | exact fun _ _ _ h => nomatch h.1) (Or.inl ⟨by rfl, fun w' hw' => by go_simp⟩) c2d ?_
  refine wpAnyH_take (i := 4) (v := .int .u8 (h.dst.length : Nat)) rfl (by kernel_rfl) (by kernel_rfl) (by kernel_rfl) (by first | exact fun _ _ _ h => h | exact fun _ _ _ h => nomatch h.1) (Or.inl ⟨by rfl, fun w' hw' => by go_simp⟩) c2d ?_
  refine wpAnyH_take (i := 7) (v := .pointer (some ⟨w.heap.size, 4, none⟩)) rfl (by kernel_rfl) (by kernel_rfl) (by kernel_rfl) (by first | exact fun _ _ _ h => h | exact fun _ _ _ h => nomatch h.1) (Or.inl ⟨by rfl, fun w' hw' => by go_simp⟩) c2d ?_
  refine wpAnyH_take (i := 8) (v := .slice D h.dst.length d') rfl (by kernel_rfl) (by kernel_rfl) (by kernel_rfl) (by first | exact fun _ _ _ h => h | exact fun _ _ _ h => nomatch h.1) (Or.inl ⟨by rfl, fun w' hw' => by have hh := ((HX.out w' hw').cell 4).trans h4; go_simp⟩) c2d ?_
  refine wpAnyH_ready (rs := [5]) (by kernel_rfl) (by simp) ?_
  refine AllReadyH.cons rfl (fun K hK => ?_) AllReadyH.nil
  rw [if_pos (by rfl)]
  try simp only [List.getElem_toArray, List.getElem_cons_succ, List.getElem_cons_zero]
  go_simp
  have c2A : Chg none_ w1 (w2.drew.alloc (.cells (u8s [h.dst.length]).toArray 5)) := c2d.alloc _
  have own2A := own_chg own2 (((Chg.refl none_ w2).drew).alloc (.cells (u8s [h.dst.length]).toArray 5)) (fun _ _ h => h)
  have vs2 := Sl.new w2.drew (fun _ => True) [h.dst.length] (by simp) trivial
  obtain ⟨_, _, qe2, _, vv2⟩ := vs2
  injection qe2 with qe2 _ _
  subst qe2
  refine hK.out _ _ c2A (fun _ => ?_)
  clear hK K
  try simp only [Act.put, List.setIfInBounds_toArray, List.set_cons_zero, List.set_cons_succ, List.getElem_toArray, List.getElem_cons_succ, List.getElem_cons_zero]
  try rw [hA2]
  refine wpAnyH_ready (rs := [6]) (by kernel_rfl) (by simp) ?_
  refine AllReadyH.cons rfl (fun K hK => ?_) AllReadyH.nil
  rw [if_pos (by rfl)]
  try simp only [List.getElem_toArray, List.getElem_cons_succ, List.getElem_cons_zero]
  refine wp_append_view _ _ 23 rfl 5 i0 _ 1 Tryd.underlying23 hi hz0 hz1 hz2 rfl w1.heap.size (.slice A2 5 q2) (5) (u8s (F :: arr h.version 4 4)) rfl own2A _ _ 1 1 (u8s [h.dst.length]) rfl vv2 (u8s_one _) (by unfold maxLen; omega) (by omega) c2A.size ?_
  intro v3m w3m hown3m hgrow3m hob3m
  have c3m : Chg none_ w1 w3m := c2A.append (Nat.le_refl _) own2A hgrow3m
  rw [u8s_append] at hown3m
  obtain ⟨A3m, q3m, rfl, _, _, _⟩ := View.own (T := fun _ => True) hown3m (fun _ _ => trivial)
  refine hK.out _ _ c3m (fun _ => ?_)
  clear hK K
  try simp only [Act.put, List.setIfInBounds_toArray, List.set_cons_zero, List.set_cons_succ]
  refine wpAnyH_ready (rs := [9]) (by kernel_rfl) (by simp) ?_
  refine AllReadyH.cons rfl (fun K hK => ?_) AllReadyH.nil
  rw [if_pos (by rfl)]
  try simp only [List.getElem_toArray, List.getElem_cons_succ, List.getElem_cons_zero]
  refine wp_append_view _ _ 23 rfl 5 i0 _ 1 Tryd.underlying23 hi hz0 hz1 hz2 rfl w1.heap.size (.slice A3m (5 + 1) q3m) (5 + 1) (u8s (F :: arr h.version 4 4 ++ [h.dst.length])) rfl hown3m _ D h.dst.length d' (u8s h.dst) rfl (HVD.out.chg (HC1.out.trans c3m) (fun _ _ h => h)) (u8s_one _) (by unfold maxLen; omega) (by omega) c3m.size ?_
  intro v3 w3 own3 hgrow3 hob3
  have c13 : Chg none_ w1 w3 := c3m.append (Nat.le_refl _) hown3m hgrow3
  rw [u8s_append] at own3
  obtain ⟨A3, q3, rfl, _, _, _⟩ := View.own (T := fun _ => True) own3 (fun _ _ => trivial)
  refine hK.out _ _ c13 (fun _ => ?_)
  clear hK K
  try simp only [Act.put, List.setIfInBounds_toArray, List.set_cons_zero, List.set_cons_succ]
  refine wpAnyH_ready (rs := [10]) (by kernel_rfl) (by simp) ?_
  refine AllReadyH.cons rfl (fun K hK => ?_) AllReadyH.nil
  rw [if_pos (by rfl)]
  try simp only [List.getElem_toArray, List.getElem_cons_succ, List.getElem_cons_zero]
  go_simp
  refine hK.out _ _ c13 (fun _ => ?_)
  clear hK K
  try simp only [Act.put, List.setIfInBounds_toArray, List.set_cons_zero, List.set_cons_succ, List.getElem_toArray, List.getElem_cons_succ, List.getElem_cons_zero]
  refine wpAnyH_done (by kernel_rfl) ?_ _
  clear c2d c2A own2A vv2 c3m hown3m hgrow3m hob3m hgrow3 hob3
  go_wp2_with fail
  have c3d : Chg none_ w1 w3.drew := c13.drew
  refine wp_region_held_drew (S := fun w' => Chg none_ w1 w') (by kernel_rfl) c3d (fun _ => ?_)
  refine wpAnyH_take (i := 0) (v := .slice A3 (5 + 1 + h.dst.length) q3) rfl (by kernel_rfl) (by kernel_rfl) (by kernel_rfl) (by first | exact fun _ _ _ h => h | exact fun _ _ _ h => nomatch h.1) (Or.inl ⟨by rfl, fun w' hw' => by go_simp⟩) c3d ?_
  refine wpAnyH_take (i := 1) (v := .pointer (some ⟨w.heap.size, 5, none⟩)) rfl (by kernel_rfl) (by kernel_rfl) (by kernel_rfl) (by first | exact fun _ _ _ h => h | exact fun _ _ _ h => nomatch h.1) (Or.inl ⟨by rfl, fun w' hw' => by go_simp⟩) c3d ?_
  refine wpAnyH_take (i := 2) (v := .slice S h.src.length s') rfl (by kernel_rfl) (by kernel_rfl) (by kernel_rfl) (by first | exact fun _ _ _ h => h | exact fun _ _ _ h => nomatch h.1) (Or.inl ⟨by rfl, fun w' hw' => by have hh := ((HX.out w' hw').cell 5).trans h5; go_simp⟩) c3d ?_
  refine wpAnyH_take (i := 3) (v := .int .i64 (h.src.length : Nat)) rfl (by kernel_rfl) (by kernel_rfl) (by kernel_rfl) (by first | exact fun _ _ _ h => h | exact fun _ _ _ h => nomatch h.1) (Or.inl ⟨by rfl, fun w' hw' => by go_simp⟩) c3d ?_
  refine wpAnyH_take (i := 4) (v := .int .u8 (h.src.length : Nat)) rfl (by kernel_rfl) (by kernel_rfl) (by kernel_rfl) (by first | exact fun _ _ _ h => h | exact fun _ _ _ h => nomatch h.1) (Or.inl ⟨by rfl, fun w' hw' => by go_simp⟩) c3d ?_
  refine wpAnyH_take (i := 7) (v := .pointer (some ⟨w.heap.size, 5, none⟩)) rfl (by kernel_rfl) (by kernel_rfl) (by kernel_rfl) (by first | exact fun _ _ _ h => h | exact fun _ _ _ h => nomatch h.1) (Or.inl ⟨by rfl, fun w' hw' => by go_simp⟩) c3d ?_
  refine wpAnyH_take (i := 8) (v := .slice S h.src.length s') rfl (by kernel_rfl) (by kernel_rfl) (by kernel_rfl) (by first | exact fun _ _ _ h => h | exact fun _ _ _ h => nomatch h.1) (Or.inl ⟨by rfl, fun w' hw' => by have hh := ((HX.out w' hw').cell 5).trans h5; go_simp⟩) c3d ?_
  refine wpAnyH_ready (rs := [5]) (by kernel_rfl) (by simp) ?_
  refine AllReadyH.cons rfl (fun K hK => ?_) AllReadyH.nil
  rw [if_pos (by rfl)]
  try simp only [List.getElem_toArray, List.getElem_cons_succ, List.getElem_cons_zero]
  go_simp
  have c3A : Chg none_ w1 (w3.drew.alloc (.cells (u8s [h.src.length]).toArray 5)) := c3d.alloc _
  have own3A := own_chg own3 (((Chg.refl none_ w3).drew).alloc (.cells (u8s [h.src.length]).toArray 5)) (fun _ _ h => h)
  have vs3 := Sl.new w3.drew (fun _ => True) [h.src.length] (by simp) trivial
  obtain ⟨_, _, qe3, _, vv3⟩ := vs3
  injection qe3 with qe3 _ _
  subst qe3
  refine hK.out _ _ c3A (fun _ => ?_)
  clear hK K
  try simp only [Act.put, List.setIfInBounds_toArray, List.set_cons_zero, List.set_cons_succ, List.getElem_toArray, List.getElem_cons_succ, List.getElem_cons_zero]
  refine wpAnyH_ready (rs := [6]) (by kernel_rfl) (by simp) ?_
  refine AllReadyH.cons rfl (fun K hK => ?_) AllReadyH.nil
  rw [if_pos (by rfl)]
  try simp only [List.getElem_toArray, List.getElem_cons_succ, List.getElem_cons_zero]
  refine wp_append_view _ _ 23 rfl 5 i0 _ 1 Tryd.underlying23 hi hz0 hz1 hz2 rfl w1.heap.size (.slice A3 (5 + 1 + h.dst.length) q3) (5 + 1 + h.dst.length) (u8s (F :: arr h.version 4 4 ++ [h.dst.length] ++ h.dst)) rfl own3A _ _ 1 1 (u8s [h.src.length]) rfl vv3 (u8s_one _) (by unfold maxLen; omega) (by omega) c3A.size ?_
  intro v4m w4m hown4m hgrow4m hob4m
  have c4m : Chg none_ w1 w4m := c3A.append (Nat.le_refl _) own3A hgrow4m
  rw [u8s_append] at hown4m
  obtain ⟨A4m, q4m, rfl, _, _, _⟩ := View.own (T := fun _ => True) hown4m (fun _ _ => trivial)
  refine hK.out _ _ c4m (fun _ => ?_)
  clear hK K
  try simp only [Act.put, List.setIfInBounds_toArray, List.set_cons_zero, List.set_cons_succ]
  refine wpAnyH_ready (rs := [9]) (by kernel_rfl) (by simp) ?_
  refine AllReadyH.cons rfl (fun K hK => ?_) AllReadyH.nil
  rw [if_pos (by rfl)]
  try simp only [List.getElem_toArray, List.getElem_cons_succ, List.getElem_cons_zero]
  refine wp_append_view _ _ 23 rfl 5 i0 _ 1 Tryd.underlying23 hi hz0 hz1 hz2 rfl w1.heap.size (.slice A4m (5 + 1 + h.dst.length + 1) q4m) (5 + 1 + h.dst.length + 1) (u8s (F :: arr h.version 4 4 ++ [h.dst.length] ++ h.dst ++ [h.src.length])) rfl hown4m _ S h.src.length s' (u8s h.src) rfl (HVS.out.chg (HC1.out.trans c4m) (fun _ _ h => h)) (u8s_one _) (by unfold maxLen; omega) (by omega) c4m.size ?_
  intro v4 w4 own4 hgrow4 hob4
  have c14 : Chg none_ w1 w4 := c4m.append (Nat.le_refl _) hown4m hgrow4
  rw [u8s_append] at own4
  obtain ⟨A4, q4, rfl, _, _, _⟩ := View.own (T := fun _ => True) own4 (fun _ _ => trivial)
  refine hK.out _ _ c14 (fun _ => ?_)
  clear hK K
  try simp only [Act.put, List.setIfInBounds_toArray, List.set_cons_zero, List.set_cons_succ]
  refine wpAnyH_ready (rs := [10]) (by kernel_rfl) (by simp) ?_
  refine AllReadyH.cons rfl (fun K hK => ?_) AllReadyH.nil
  rw [if_pos (by rfl)]
  try simp only [List.getElem_toArray, List.getElem_cons_succ, List.getElem_cons_zero]
  go_simp
  refine hK.out _ _ c14 (fun _ => ?_)
  clear hK K
  try simp only [Act.put, List.setIfInBounds_toArray, List.set_cons_zero, List.set_cons_succ, List.getElem_toArray, List.getElem_cons_succ, List.getElem_cons_zero]
  refine wpAnyH_done (by kernel_rfl) ?_ _
  clear c3d c3A own3A vv3 c4m hown4m hgrow4m hob4m hgrow4 hob4
  have k2 := ((HX.out w4 c14).cell 2).trans h2
  have k7 := ((HX.out w4 c14).cell 7).trans h7
  have k8 := ((HX.out w4 c14).cell 8).trans h8
  have hwr : IntKind.u64.wrap ((h.cut.length : Int) + (ρ : Int)) = (h.cut.length : Int) + (ρ : Int) := IntWalk.u64_in _ (by omega)
  go_wp2_with fail
  have hle := enl8 (h.cut.length + ρ)
  have HRP : Hid (Calls Tryd.prog 30 #[.int .u64 ((h.cut.length : Int) + (ρ : Int))] w4 (GotBytes w4 (enI (h.cut.length + ρ)))) := rput_got (h.cut.length + ρ) w4
  refine HRP.out.mono ?_
  rintro e w6 ⟨A6, q6, rfl, f6, hc6⟩
  have c16 := c14.trans hc6
  have own6 := own_chg own4 hc6 (fun _ _ h => h)
  have HVC6 := Lib.hid (fun w' (hc : Chg none_ w1 w') => HVC.out.chg (HC1.out.trans hc) (fun _ _ h => h))
  have hs6 := c16.size
  generalize enI (h.cut.length + ρ) = E at *
  go_wp2_with (at_builtin; first | (refine wpList_append_view rfl _ _ 23 rfl 5 i0 _ 1 Tryd.underlying23 hi hz0 hz1 hz2 rfl w1.heap.size (.slice A4 (5 + 1 + h.dst.length + 1 + h.src.length) q4) (5 + 1 + h.dst.length + 1 + h.src.length) (u8s (F :: arr h.version 4 4 ++ [h.dst.length] ++ h.dst ++ [h.src.length] ++ h.src)) rfl own6 _ A6 E.length q6 (u8s E) rfl f6.view (u8s_one _) (by unfold maxLen; omega) (by omega) hs6 ?_; intro v7 w7 own7 hgrow7 hob7; have c17 := c16.append (Nat.le_refl _) own6 hgrow7; rw [u8s_append] at own7; obtain ⟨A7, q7, rfl, _, _, _⟩ := View.own (T := fun _ => True) own7 (fun _ _ => trivial); have k77 := ((HX.out w7 c17).cell 7).trans h7; have hs7 := c17.size) | (refine wpList_append_view rfl _ _ 23 rfl 5 i0 _ 1 Tryd.underlying23 hi hz0 hz1 hz2 rfl w1.heap.size (.slice A7 (5 + 1 + h.dst.length + 1 + h.src.length + E.length) q7) (5 + 1 + h.dst.length + 1 + h.src.length + E.length) (u8s (F :: arr h.version 4 4 ++ [h.dst.length] ++ h.dst ++ [h.src.length] ++ h.src ++ E)) rfl own7 _ C h.cut.length c' (u8s h.cut) rfl (HVC6.out _ c17) (u8s_one _) (by unfold maxLen; omega) (by omega) hs7 ?_; intro v8 w8 own8 hgrow8 hob8; have c18 := c17.append (Nat.le_refl _) own7 hgrow8; rw [u8s_append] at own8; obtain ⟨A8, q8, rfl, _, _, v8⟩ := View.own (T := fun b => w1.heap.size ≤ b) own8 (fun _ h => h)))
  go_ret
  have hBL : F :: arr h.version 4 4 ++ [h.dst.length] ++ h.dst ++ [h.src.length] ++ h.src ++ E ++ h.cut = B := by rw [HB.out, HA.out]; simp
  have hlB : 5 + 1 + h.dst.length + 1 + h.src.length + E.length + h.cut.length = B.length := by rw [← hBL]; simp [arr_len]; omega
  rw [hBL, hlB] at own8 v8
  exact ⟨A8, q8, by rw [← hlB]; rfl, Fresh.base ⟨v8, own8⟩ HC1.out.size, HC1.out.trans c18⟩

theorem rput_hd (h : Hd) (v : Four) (w : World) (T : Nat → Prop) (hd : HdD w T h v) (hv32 : h.version < 4294967296) :
    Calls Tryd.prog 16 #[aggH h v] w (GotBytes w (putH h)) := by
  unfold putH
  cases hr : rightH h with
  | false =>
    have ls : h.src.length ≤ 1000000 := by obtain ⟨_, _, _, q, _⟩ := hd.s; exact q
    have lt : h.token.length ≤ 1000000 := by obtain ⟨_, _, _, q, _⟩ := hd.t; exact q
    exact rput_none h v w hd.shape (by omega) hr
  | true =>
    cases hl : h.long with
    | false => cases hp : h.phase with
      | false => exact rput_short_false h v w T hd hr hl hp
      | true => exact rput_short_true h v w T hd hr hl hp
    | true =>
      rcases (rightF hr).k with hk | hk
      · exact rput_long0 h v w T hd hr hl hk hv32
      · exact rput_long2 h v w T hd hr hl hk hv32
end Go.Proofs.YtnjojgknoecjiaaDoor
