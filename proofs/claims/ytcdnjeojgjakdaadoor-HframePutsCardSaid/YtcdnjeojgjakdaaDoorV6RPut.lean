/- Layer 6 (hframe), the document's words: a right frame's bytes. -/
import Derived.Test.YtcdnjeojgjakdaaDoorV6RRight
import Derived.Test.YtcdnjeojgjakdaaDoorV6Back
import Derived.Test.YtcdnjeojgjakdaaDoorV1RWide
namespace Go.Proofs.YtcdnjeojgjakdaaDoor
open Go.RowKit

theorem rput_enc (n : Nat) (w : World) : Calls Tryd.prog 29 #[.int .u64 n] w (GotBytes w (encI n)) :=
  (rput_any n w).mono fun e w' ⟨v, h1, h2⟩ => by
    have hown := own_of_new h2 (Nat.le_trans (wideB_len n) (by unfold maxLen; omega))
    obtain ⟨A, c, h3, h4⟩ := h2.view
    subst h3
    exact ⟨A, c, h1, ⟨h4, hown⟩, h2.1⟩

set_option maxRecDepth 100000 in
set_option maxHeartbeats 1000000 in
theorem rput_no (f : Hf) (ss sd : Value) (w : World) (T : Nat → Prop) (hf : HfD w T f ss sd) (o : f.Ok) (hr : rightH f = false) :
    Calls Tryd.prog 16 #[aggH f ss sd] w (GotBytes w (putH f)) := by
  have HP := Lib.hid (putH_no hr)
  have hbx := boxed w f ss sd
  have HRT := Lib.hid (rright_any f ss sd _ T (hf.chg hbx.chg (fun _ _ h => h)) o)
  have HROW := Lib.hid hbx.row
  have HC := Lib.hid hbx.chg
  rw [hr] at HRT
  rw [HP.out]
  clear hf o hr hbx HP
  unfold aggH at *
  go_enter Tryd.func16, Tryd.ntmps16
  go_wp2_with (first | ((with_reducible show wpList _ _ _ (⟨_, .load 26 (.tmp 1), _, _, _, _⟩ :: _) _ _); refine wpList_load_Row rfl rfl rfl HROW.out Tryd.underlying26 rfl sizeH ?_) | (go_at_call 13; refine HRT.out.mono ?_; rintro e w1 ⟨rfl, d1⟩))
  go_ret
  exact ⟨none, 0, rfl, Fresh.nil _ _, HC.out.trans d1⟩

set_option maxRecDepth 100000 in
set_option maxHeartbeats 2000000 in
theorem rput_data (f : Hf) (ss sd : Value) (w : World) (T : Nat → Prop) (hf : HfD w T f ss sd) (o : f.Ok) (kd : Nat) (hkd : f.kind = kd) (hk01 : kd = 0 ∨ kd = 1) (hr : rightH f = true) :
    Calls Tryd.prog 16 #[aggH f ss sd] w (GotBytes w (putH f)) := by
  have hPB : putH f = [kd] ++ (encI (ownK .data f).length ++ ownK .data f) := by
    have hk2 : kkM (keyM f.kind) = some .data := by rw [hkd]; rcases hk01 with rfl | rfl <;> decide +kernel
    have hh : hasK .data f = true := by unfold rightH at hr; rw [hk2] at hr; exact hr
    rw [putH_yes hk2 hh, show keyM f.kind = kd by rw [hkd]; unfold keyM; omega, encI_small kd (by omega)]
  have HPB := Lib.hid hPB
  have hbx := boxed w f ss sd
  have HRT := Lib.hid (rright_any f ss sd _ T (hf.chg hbx.chg (fun _ _ h => h)) o)
  rw [hr] at HRT
  have HROW := Lib.hid hbx.row
  have HC := Lib.hid hbx.chg
  obtain ⟨i0, hi, hz0, hz1, hz2⟩ := info_parts info5
  have hdl : f.data.length ≤ 1000 ∧ f.sets.length = 0 := by
    have hk2 : kkM (keyM f.kind) = some .data := by rw [hkd]; rcases hk01 with rfl | rfl <;> decide +kernel
    have hh : hasK .data f = true := by unfold rightH at hr; rw [hk2] at hr; exact hr
    have := of_decide_eq_true hh
    exact ⟨this.1, this.2.2⟩
  obtain ⟨⟨A, c, rfl, _, _⟩, ⟨B, d, rfl, hb, hvd⟩⟩ := hf
  have HX := Lib.hid (fun w' (hc : Chg none_ (w.alloc (.cells (cellsH f (.slice A f.sets.length c) (.slice B f.data.length d)).toArray 26)) w') => hbx.row.chg hc (fun h => h))
  have HD := Lib.hid (fun w' (hc : Chg none_ w w') => hvd.chg hc (fun _ _ h => h))
  obtain ⟨hd1, hs0⟩ := hdl
  have ho : ownK .data f = f.data := rfl
  rw [ho] at HPB
  generalize hPBe : putH f = PB at *
  generalize hL : f.data = L at *
  rw [hs0] at HX HROW HC HRT
  rw [hs0]
  have a0 : (cellsH f (.slice A 0 c) (.slice B L.length d))[0]? = some (.int .i64 (kd : Nat)) := by rw [← hkd]; rfl
  have a2 : (cellsH f (.slice A 0 c) (.slice B L.length d))[2]? = some (.slice A 0 c) := rfl
  have a3 : (cellsH f (.slice A 0 c) (.slice B L.length d))[3]? = some (.slice B L.length d) := rfl
  have n3 : ((kd : Int) == 3) = false := by rw [beq_eq_false_iff_ne]; omega
  have n7 : ((kd : Int) == 7) = false := by rw [beq_eq_false_iff_ne]; omega
  have n13 : ((kd : Int) == 13) = false := by rw [beq_eq_false_iff_ne]; omega
  have hkw : IntKind.u8.wrap (kd : Int) = (kd : Int) := IntWalk.u8_in _ (by omega)
  have hLw : IntKind.u64.wrap (L.length : Int) = (L.length : Int) := IntWalk.u64_in _ (by omega)
  have HE := Lib.hid (encI_len8 L.length)
  unfold aggH at *
  have h4 : (cellsH f (.slice A 0 c) (.slice B L.length d)).length = 4 := rfl
  have hen := HE.out
  clear hPB hbx hk01 hkd hr ho hL hPBe o hvd hs0 hb
  go_enter Tryd.func16, Tryd.ntmps16
  go_wp2_with (first | ((with_reducible show wpList _ _ _ (⟨_, .load 26 (.tmp 1), _, _, _, _⟩ :: _) _ _); refine wpList_load_Row rfl rfl rfl HROW.out Tryd.underlying26 rfl sizeH ?_) | (go_at_call 13; refine HRT.out.mono ?_; rintro e w1 ⟨rfl, d1⟩; have k3 := ((HX.out _ (d1.alloc (.cells #[] 5))).cell 3).trans a3) | (at_builtin; refine wpList_append_view rfl _ _ 24 rfl 5 i0 _ 1 Tryd.underlying24 hi hz0 hz1 hz2 rfl w1.heap.size (.slice (some ⟨w1.heap.size, 0, none⟩) 0 0) 0 (u8s []) rfl (own_none w1 5) _ B _ d (u8s L) rfl (HD.out _ ((HC.out.trans d1).alloc _)) (u8s_one _) (by unfold maxLen; omega) (by omega) (by simp) ?_; intro v3 w3 hown3 hgrow3 _; have e3 : Chg none_ w1 w3 := ((Chg.refl none_ w1).alloc _).append (Nat.le_refl _) (own_none w1 5) hgrow3; have k0 := ((HX.out _ (d1.trans e3)).cell 0).trans a0; have k2 := ((HX.out _ (d1.trans e3)).cell 2).trans a2; rw [u8s_append, Nat.zero_add, List.nil_append] at hown3; clear hgrow3))
  refine wp_loop_rounds 1 ?_
  rw [rounds_succ]
  go_wp2
  have HC3 := Lib.hid ((HC.out.trans d1).trans e3)
  have HK0 := Lib.hid (fun w' (hc : Chg none_ w3 w') => ((HX.out _ ((d1.trans e3).trans hc)).cell 0).trans a0)
  obtain ⟨A3, q3, rfl, _, _, hv3⟩ := View.own (T := fun _ => True) hown3 (fun _ _ => trivial)
  have HV3 := Lib.hid hv3
  clear hv3 hown3 e3 d1
  clear k0 k2 k3 a2 a3 n3 n7 n13 HX HRT HROW HD HE

  have hch0 : Chg none_ w3 w3.drew := (Chg.refl _ _).drew
  refine wp_region_held_drew (S := fun w' => Chg none_ w3 w') (by kernel_rfl) hch0 (fun _ => ?_)
  refine wpAnyH_take (i := 0) (v := .pointer (some ⟨w.heap.size, 0, none⟩)) rfl (by kernel_rfl) (by kernel_rfl) (by kernel_rfl) (by first | exact fun _ _ _ h => h | exact fun _ _ _ h => nomatch h.1) (Or.inl ⟨by rfl, fun w' hw' => by go_simp⟩) hch0 ?_
  refine wpAnyH_take (i := 1) (v := .int .i64 (kd : Nat)) rfl (by kernel_rfl) (by kernel_rfl) (by kernel_rfl) (by first | exact fun _ _ _ h => h | exact fun _ _ _ h => nomatch h.1) (Or.inl ⟨by rfl, fun w' hw' => by have hh := HK0.out w' hw'; go_simp⟩) hch0 ?_
  refine wpAnyH_take (i := 2) (v := .int .u8 (kd : Nat)) rfl (by kernel_rfl) (by kernel_rfl) (by kernel_rfl) (by first | exact fun _ _ _ h => h | exact fun _ _ _ h => nomatch h.1) (Or.inl ⟨by rfl, fun w' hw' => by go_simp⟩) hch0 ?_
  refine wpAnyH_take (i := 4) (v := .slice A3 L.length q3) rfl (by kernel_rfl) (by kernel_rfl) (by kernel_rfl) (by first | exact fun _ _ _ h => h | exact fun _ _ _ h => nomatch h.1) (Or.inl ⟨by rfl, fun w' hw' => by go_simp⟩) hch0 ?_
  refine wpAnyH_take (i := 5) (v := .int .i64 (L.length : Nat)) rfl (by kernel_rfl) (by kernel_rfl) (by kernel_rfl) (by first | exact fun _ _ _ h => h | exact fun _ _ _ h => nomatch h.1) (Or.inl ⟨by rfl, fun w' hw' => by go_simp⟩) hch0 ?_
  refine wpAnyH_take (i := 6) (v := .int .u64 (L.length : Nat)) rfl (by kernel_rfl) (by kernel_rfl) (by kernel_rfl) (by first | exact fun _ _ _ h => h | exact fun _ _ _ h => nomatch h.1) (Or.inl ⟨by rfl, fun w' hw' => by go_simp⟩) hch0 ?_
  refine wpAnyH_take (i := 9) (v := .slice A3 L.length q3) rfl (by kernel_rfl) (by kernel_rfl) (by kernel_rfl) (by first | exact fun _ _ _ h => h | exact fun _ _ _ h => nomatch h.1) (Or.inl ⟨by rfl, fun w' hw' => by go_simp⟩) hch0 ?_
  refine wpAnyH_ready (rs := [3, 7]) (by kernel_rfl) (by simp) ?_
  refine AllReadyH.cons rfl (fun K hK => ?_) (AllReadyH.cons rfl (fun K hK => ?_) AllReadyH.nil)
  · rw [if_pos (by rfl)]
    try simp only [List.getElem_toArray, List.getElem_cons_succ, List.getElem_cons_zero]
    go_simp
    obtain ⟨u1, hu1⟩ : ∃ u, u = (World.alloc w3 (.cells [Value.int .u8 (kd : Nat)].toArray 5)).drew := ⟨_, rfl⟩
    rw [← hu1]
    have stu1 : Chg none_ w3 u1 := by rw [hu1]; exact ((Chg.refl none_ _).alloc _).drew
    have own1 : World.ownsRow u1 w3.heap.size 5 1 (.slice (some ⟨w3.heap.size, 0, none⟩) 1 1) 1 (u8s [kd]) := by rw [hu1]; exact own_of_row (Row.new w3 5 (u8s [kd])) (Nat.le_refl _) rfl (by decide)
    clear hu1
    have hcu1 : Chg none_ w3 u1 := stu1
    refine hK.out _ _ hcu1 (fun _ => ?_)
    clear hK K
    try simp only [Act.put, List.setIfInBounds_toArray, List.set_cons_zero, List.set_cons_succ]
    refine wpAnyH_ready (rs := [7]) (by kernel_rfl) (by simp) ?_
    refine AllReadyH.cons rfl (fun K hK => ?_) AllReadyH.nil
    rw [if_pos (by rfl)]
    try simp only [List.getElem_toArray, List.getElem_cons_succ, List.getElem_cons_zero]
    go_simp
    refine (rput_enc L.length u1).mono ?_
    rintro e u2 ⟨A7, k7, rfl, s7', d7⟩
    have hcu2 := hcu1.trans d7
    have own1 := own_chg own1 d7 (fun _ _ h => h)
    have s7 := s7'.view
    refine hK.out _ _ hcu2 (fun _ => ?_)
    clear hK K
    try simp only [Act.put, List.setIfInBounds_toArray, List.set_cons_zero, List.set_cons_succ]
    refine wpAnyH_ready (rs := [8]) (by kernel_rfl) (by simp) ?_
    refine AllReadyH.cons rfl (fun K hK => ?_) AllReadyH.nil
    rw [if_pos (by rfl)]
    try simp only [List.getElem_toArray, List.getElem_cons_succ, List.getElem_cons_zero]
    refine wp_append_view _ _ 24 rfl 5 i0 _ 1 Tryd.underlying24 hi hz0 hz1 hz2 rfl w3.heap.size _ 1 (u8s [kd]) rfl (own_base own1 (Nat.le_refl _)) _ A7 _ k7 (u8s (encI L.length)) rfl s7 (u8s_one _) (by unfold maxLen; omega) (by omega) hcu2.size ?_
    intro v8 w8 hown8 hgrow8 _
    have hcw8 : Chg none_ w3 w8 := hcu2.append (Nat.le_refl _) (own_base own1 (Nat.le_refl _)) hgrow8
    rw [u8s_append] at hown8
    refine hK.out _ _ hcw8 (fun _ => ?_)
    clear hK K
    try simp only [Act.put, List.setIfInBounds_toArray, List.set_cons_zero, List.set_cons_succ]
    refine wpAnyH_ready (rs := [10]) (by kernel_rfl) (by simp) ?_
    refine AllReadyH.cons rfl (fun K hK => ?_) AllReadyH.nil
    rw [if_pos (by rfl)]
    try simp only [List.getElem_toArray, List.getElem_cons_succ, List.getElem_cons_zero]
    refine wp_append_view _ _ 24 rfl 5 i0 _ 1 Tryd.underlying24 hi hz0 hz1 hz2 rfl w3.heap.size _ (1 + (encI L.length).length) (u8s ([kd] ++ encI L.length)) rfl hown8 _ A3 L.length q3 (u8s L) rfl (HV3.out.chg hcw8 (fun _ _ h => h)) (u8s_one _) (by unfold maxLen; omega) (by omega) hcw8.size ?_
    intro v9 w9 hown9 hgrow9 _
    have hcw9 : Chg none_ w3 w9 := hcw8.append (Nat.le_refl _) hown8 hgrow9
    rw [u8s_append] at hown9
    obtain ⟨A9, q9, rfl, _, _, hv9⟩ := View.own (T := fun b => w3.heap.size ≤ b) hown9 (fun _ h => h)
    refine hK.out _ _ hcw9 (fun _ => ?_)
    clear hK K
    try simp only [Act.put, List.setIfInBounds_toArray, List.set_cons_zero, List.set_cons_succ]
    refine wpAnyH_ready (rs := [11]) (by kernel_rfl) (by simp) ?_
    refine AllReadyH.cons rfl (fun K hK => ?_) AllReadyH.nil
    rw [if_pos (by rfl)]
    try simp only [List.getElem_toArray, List.getElem_cons_succ, List.getElem_cons_zero]
    go_simp
    refine hK.out _ _ hcw9 (fun _ => ?_)
    clear hK K
    try simp only [Act.put, List.setIfInBounds_toArray, List.set_cons_zero, List.set_cons_succ]
    refine wpAnyH_done (by kernel_rfl) ?_ _
    try simp only [Act.put, List.setIfInBounds_toArray, List.set_cons_zero, List.set_cons_succ, List.getElem_toArray, List.getElem_cons_succ, List.getElem_cons_zero]
    go_wp2_with fail
    go_ret
    have hlB : PB.length = 1 + (encI L.length).length + L.length := by rw [HPB.out]; simp; omega
    rw [List.append_assoc, ← HPB.out, ← hlB] at hown9 hv9
    exact ⟨A9, q9, by rw [hlB]; rfl, Fresh.base ⟨hv9, hown9⟩ HC3.out.size, HC3.out.trans hcw9⟩
  · rw [if_pos (by rfl)]
    try simp only [List.getElem_toArray, List.getElem_cons_succ, List.getElem_cons_zero]
    go_simp
    refine (rput_enc L.length _).mono ?_
    rintro e u1 ⟨A7, k7, rfl, s7', d7⟩
    have hcu1 : Chg none_ w3 u1 := hch0.trans d7
    refine hK.out _ _ hcu1 (fun _ => ?_)
    clear hK K
    try simp only [Act.put, List.setIfInBounds_toArray, List.set_cons_zero, List.set_cons_succ]
    refine wpAnyH_ready (rs := [3]) (by kernel_rfl) (by simp) ?_
    refine AllReadyH.cons rfl (fun K hK => ?_) AllReadyH.nil
    rw [if_pos (by rfl)]
    try simp only [List.getElem_toArray, List.getElem_cons_succ, List.getElem_cons_zero]
    go_simp
    obtain ⟨u2, hu2⟩ : ∃ u, u = (World.alloc u1 (.cells [Value.int .u8 (kd : Nat)].toArray 5)) := ⟨_, rfl⟩
    rw [← hu2]
    have stu2 : Chg none_ u1 u2 := by rw [hu2]; exact (Chg.refl none_ _).alloc _
    have own1 : World.ownsRow u2 u1.heap.size 5 1 (.slice (some ⟨u1.heap.size, 0, none⟩) 1 1) 1 (u8s [kd]) := by rw [hu2]; exact own_of_row (Row.new u1 5 (u8s [kd])) (Nat.le_refl _) rfl (by decide)
    clear hu2
    have hcu2 := hcu1.trans stu2
    have s7 := s7'.view.chg stu2 (fun _ _ h => h)
    have hb1 := hcu1.size
    refine hK.out _ _ hcu2 (fun _ => ?_)
    clear hK K
    try simp only [Act.put, List.setIfInBounds_toArray, List.set_cons_zero, List.set_cons_succ]
    refine wpAnyH_ready (rs := [8]) (by kernel_rfl) (by simp) ?_
    refine AllReadyH.cons rfl (fun K hK => ?_) AllReadyH.nil
    rw [if_pos (by rfl)]
    try simp only [List.getElem_toArray, List.getElem_cons_succ, List.getElem_cons_zero]
    refine wp_append_view _ _ 24 rfl 5 i0 _ 1 Tryd.underlying24 hi hz0 hz1 hz2 rfl w3.heap.size _ 1 (u8s [kd]) rfl (own_base own1 (hb1)) _ A7 _ k7 (u8s (encI L.length)) rfl s7 (u8s_one _) (by unfold maxLen; omega) (by omega) hcu2.size ?_
    intro v8 w8 hown8 hgrow8 _
    have hcw8 : Chg none_ w3 w8 := hcu2.append (Nat.le_refl _) (own_base own1 (hb1)) hgrow8
    rw [u8s_append] at hown8
    refine hK.out _ _ hcw8 (fun _ => ?_)
    clear hK K
    try simp only [Act.put, List.setIfInBounds_toArray, List.set_cons_zero, List.set_cons_succ]
    refine wpAnyH_ready (rs := [10]) (by kernel_rfl) (by simp) ?_
    refine AllReadyH.cons rfl (fun K hK => ?_) AllReadyH.nil
    rw [if_pos (by rfl)]
    try simp only [List.getElem_toArray, List.getElem_cons_succ, List.getElem_cons_zero]
    refine wp_append_view _ _ 24 rfl 5 i0 _ 1 Tryd.underlying24 hi hz0 hz1 hz2 rfl w3.heap.size _ (1 + (encI L.length).length) (u8s ([kd] ++ encI L.length)) rfl hown8 _ A3 L.length q3 (u8s L) rfl (HV3.out.chg hcw8 (fun _ _ h => h)) (u8s_one _) (by unfold maxLen; omega) (by omega) hcw8.size ?_
    intro v9 w9 hown9 hgrow9 _
    have hcw9 : Chg none_ w3 w9 := hcw8.append (Nat.le_refl _) hown8 hgrow9
    rw [u8s_append] at hown9
    obtain ⟨A9, q9, rfl, _, _, hv9⟩ := View.own (T := fun b => w3.heap.size ≤ b) hown9 (fun _ h => h)
    refine hK.out _ _ hcw9 (fun _ => ?_)
    clear hK K
    try simp only [Act.put, List.setIfInBounds_toArray, List.set_cons_zero, List.set_cons_succ]
    refine wpAnyH_ready (rs := [11]) (by kernel_rfl) (by simp) ?_
    refine AllReadyH.cons rfl (fun K hK => ?_) AllReadyH.nil
    rw [if_pos (by rfl)]
    try simp only [List.getElem_toArray, List.getElem_cons_succ, List.getElem_cons_zero]
    go_simp
    refine hK.out _ _ hcw9 (fun _ => ?_)
    clear hK K
    try simp only [Act.put, List.setIfInBounds_toArray, List.set_cons_zero, List.set_cons_succ]
    refine wpAnyH_done (by kernel_rfl) ?_ _
    try simp only [Act.put, List.setIfInBounds_toArray, List.set_cons_zero, List.set_cons_succ, List.getElem_toArray, List.getElem_cons_succ, List.getElem_cons_zero]
    go_wp2_with fail
    go_ret
    have hlB : PB.length = 1 + (encI L.length).length + L.length := by rw [HPB.out]; simp; omega
    rw [List.append_assoc, ← HPB.out, ← hlB] at hown9 hv9
    exact ⟨A9, q9, by rw [hlB]; rfl, Fresh.base ⟨hv9, hown9⟩ HC3.out.size, HC3.out.trans hcw9⟩
set_option maxRecDepth 100000 in
set_option maxHeartbeats 4000000 in
theorem rput_id (f : Hf) (ss sd : Value) (w : World) (T : Nat → Prop) (hf : HfD w T f ss sd) (o : f.Ok) (kd : Nat) (hkd : f.kind = kd) (hk01 : kd = 3 ∨ kd = 7 ∨ kd = 13) (hr : rightH f = true) :
    Calls Tryd.prog 16 #[aggH f ss sd] w (GotBytes w (putH f)) := by
  have hPB : putH f = [kd] ++ (encI (ownK .id f).length ++ ownK .id f) := by
    have hk2 : kkM (keyM f.kind) = some .id := by rw [hkd]; rcases hk01 with rfl | rfl | rfl <;> decide +kernel
    have hh : hasK .id f = true := by unfold rightH at hr; rw [hk2] at hr; exact hr
    rw [putH_yes hk2 hh, show keyM f.kind = kd by rw [hkd]; unfold keyM; omega, encI_small kd (by omega)]
  have HPB := Lib.hid hPB
  have hbx := boxed w f ss sd
  have HRT := Lib.hid (rright_any f ss sd _ T (hf.chg hbx.chg (fun _ _ h => h)) o)
  rw [hr] at HRT
  have HROW := Lib.hid hbx.row
  have HC := Lib.hid hbx.chg
  obtain ⟨i0, hi, hz0, hz1, hz2⟩ := info_parts info5
  have hdl : f.sets.length = 0 ∧ f.data.length = 0 := by
    have hk2 : kkM (keyM f.kind) = some .id := by rw [hkd]; rcases hk01 with rfl | rfl | rfl <;> decide +kernel
    have hh : hasK .id f = true := by unfold rightH at hr; rw [hk2] at hr; exact hr
    exact (of_decide_eq_true hh).2
  obtain ⟨⟨A, c, rfl, _, _⟩, ⟨B, d, rfl, _, _⟩⟩ := hf
  have HX := Lib.hid (fun w' (hc : Chg none_ (w.alloc (.cells (cellsH f (.slice A f.sets.length c) (.slice B f.data.length d)).toArray 26)) w') => hbx.row.chg hc (fun h => h))
  obtain ⟨hs0, hd0⟩ := hdl
  have ho : ownK .id f = encI f.id := rfl
  rw [ho] at HPB
  generalize hPBe : putH f = PB at *
  rw [hs0, hd0] at HX HROW HC HRT
  rw [hs0, hd0]
  have a0 : (cellsH f (.slice A 0 c) (.slice B 0 d))[0]? = some (.int .i64 (kd : Nat)) := by rw [← hkd]; rfl
  have a1 : (cellsH f (.slice A 0 c) (.slice B 0 d))[1]? = some (.int .u64 (f.id : Nat)) := rfl
  have a2 : (cellsH f (.slice A 0 c) (.slice B 0 d))[2]? = some (.slice A 0 c) := rfl
  have a3 : (cellsH f (.slice A 0 c) (.slice B 0 d))[3]? = some (.slice B 0 d) := rfl
  have hkw : IntKind.u8.wrap (kd : Int) = (kd : Int) := IntWalk.u8_in _ (by omega)
  have h8 := encI_len8 f.id
  have hLw : IntKind.u64.wrap ((encI f.id).length : Int) = ((encI f.id).length : Int) := IntWalk.u64_in _ (by omega)
  have hen := encI_len8 (encI f.id).length
  unfold aggH at *
  have h4 : (cellsH f (.slice A 0 c) (.slice B 0 d)).length = 4 := rfl
  generalize f.id = id at *
  clear hPB hbx hkd hr ho hPBe o hs0 hd0
  have hq : (((kd : Int) == 3) = true) ∨ (((kd : Int) == 3) = false ∧ ((kd : Int) == 7) = true) ∨ (((kd : Int) == 3) = false ∧ ((kd : Int) == 7) = false ∧ ((kd : Int) == 13) = true) := by rcases hk01 with rfl | rfl | rfl <;> decide
  clear hk01
  rcases hq with q3 | ⟨q3, q7⟩ | ⟨q3, q7, q13⟩
  all_goals
    go_enter Tryd.func16, Tryd.ntmps16
    go_wp2_with (first | ((with_reducible show wpList _ _ _ (⟨_, .load 26 (.tmp 1), _, _, _, _⟩ :: _) _ _); refine wpList_load_Row rfl rfl rfl HROW.out Tryd.underlying26 rfl sizeH ?_) | (go_at_call 13; refine HRT.out.mono ?_; rintro e w1 ⟨rfl, d1⟩; have k3 := ((HX.out _ (d1.alloc (.cells #[] 5))).cell 3).trans a3) | (at_builtin; refine wpList_append_view rfl _ _ 24 rfl 5 i0 _ 1 Tryd.underlying24 hi hz0 hz1 hz2 rfl w1.heap.size (.slice (some ⟨w1.heap.size, 0, none⟩) 0 0) 0 (u8s []) rfl (own_none w1 5) (fun _ => True) B _ d (u8s []) rfl (View.none_ _ _ _) (u8s_one _) (by unfold maxLen; omega) (by omega) (by simp) ?_; intro v2 w2 hown2 hgrow2 _; have e2 : Chg none_ w1 w2 := ((Chg.refl none_ w1).alloc _).append (Nat.le_refl _) (own_none w1 5) hgrow2; have k0 := ((HX.out _ (d1.trans e2)).cell 0).trans a0; have k1 := ((HX.out _ (d1.trans e2)).cell 1).trans a1; have k2 := ((HX.out _ (d1.trans e2)).cell 2).trans a2; rw [u8s_append, Nat.zero_add, List.nil_append] at hown2; clear hgrow2) | (go_at_call 29; refine (rput_enc id _).mono ?_; rintro e w3 ⟨A3, q3, rfl, s3, d3⟩; have k2 := ((HX.out _ ((d1.trans e2).trans d3)).cell 2).trans a2))
    refine wp_loop_rounds 1 ?_
    rw [rounds_succ]
    go_wp2
    have HC3 := Lib.hid (((HC.out.trans d1).trans e2).trans d3)
    have HK0 := Lib.hid (fun w' (hc : Chg none_ w3 w') => ((HX.out _ (((d1.trans e2).trans d3).trans hc)).cell 0).trans a0)
    have HV3 := Lib.hid s3.view
    clear s3 d3 e2 d1 k0 k1 k2 k3 a1 a2 a3 HX HRT HROW hown2
    generalize encI id = L at *
    have hch0 : Chg none_ w3 w3.drew := (Chg.refl _ _).drew
    refine wp_region_held_drew (S := fun w' => Chg none_ w3 w') (by kernel_rfl) hch0 (fun _ => ?_)
    refine wpAnyH_take (i := 0) (v := .pointer (some ⟨w.heap.size, 0, none⟩)) rfl (by kernel_rfl) (by kernel_rfl) (by kernel_rfl) (by first | exact fun _ _ _ h => h | exact fun _ _ _ h => nomatch h.1) (Or.inl ⟨by rfl, fun w' hw' => by go_simp⟩) hch0 ?_
    refine wpAnyH_take (i := 1) (v := .int .i64 (kd : Nat)) rfl (by kernel_rfl) (by kernel_rfl) (by kernel_rfl) (by first | exact fun _ _ _ h => h | exact fun _ _ _ h => nomatch h.1) (Or.inl ⟨by rfl, fun w' hw' => by have hh := HK0.out w' hw'; go_simp⟩) hch0 ?_
    refine wpAnyH_take (i := 2) (v := .int .u8 (kd : Nat)) rfl (by kernel_rfl) (by kernel_rfl) (by kernel_rfl) (by first | exact fun _ _ _ h => h | exact fun _ _ _ h => nomatch h.1) (Or.inl ⟨by rfl, fun w' hw' => by go_simp⟩) hch0 ?_
    refine wpAnyH_take (i := 4) (v := .slice A3 L.length q3) rfl (by kernel_rfl) (by kernel_rfl) (by kernel_rfl) (by first | exact fun _ _ _ h => h | exact fun _ _ _ h => nomatch h.1) (Or.inl ⟨by rfl, fun w' hw' => by go_simp⟩) hch0 ?_
    refine wpAnyH_take (i := 5) (v := .int .i64 (L.length : Nat)) rfl (by kernel_rfl) (by kernel_rfl) (by kernel_rfl) (by first | exact fun _ _ _ h => h | exact fun _ _ _ h => nomatch h.1) (Or.inl ⟨by rfl, fun w' hw' => by go_simp⟩) hch0 ?_
    refine wpAnyH_take (i := 6) (v := .int .u64 (L.length : Nat)) rfl (by kernel_rfl) (by kernel_rfl) (by kernel_rfl) (by first | exact fun _ _ _ h => h | exact fun _ _ _ h => nomatch h.1) (Or.inl ⟨by rfl, fun w' hw' => by go_simp⟩) hch0 ?_
    refine wpAnyH_take (i := 9) (v := .slice A3 L.length q3) rfl (by kernel_rfl) (by kernel_rfl) (by kernel_rfl) (by first | exact fun _ _ _ h => h | exact fun _ _ _ h => nomatch h.1) (Or.inl ⟨by rfl, fun w' hw' => by go_simp⟩) hch0 ?_
    refine wpAnyH_ready (rs := [3, 7]) (by kernel_rfl) (by simp) ?_
    refine AllReadyH.cons rfl (fun K hK => ?_) (AllReadyH.cons rfl (fun K hK => ?_) AllReadyH.nil)
    · rw [if_pos (by rfl)]
      try simp only [List.getElem_toArray, List.getElem_cons_succ, List.getElem_cons_zero]
      go_simp
      obtain ⟨u1, hu1⟩ : ∃ u, u = (World.alloc w3 (.cells [Value.int .u8 (kd : Nat)].toArray 5)).drew := ⟨_, rfl⟩
      rw [← hu1]
      have stu1 : Chg none_ w3 u1 := by rw [hu1]; exact ((Chg.refl none_ _).alloc _).drew
      have own1 : World.ownsRow u1 w3.heap.size 5 1 (.slice (some ⟨w3.heap.size, 0, none⟩) 1 1) 1 (u8s [kd]) := by rw [hu1]; exact own_of_row (Row.new w3 5 (u8s [kd])) (Nat.le_refl _) rfl (by decide)
      clear hu1
      have hcu1 : Chg none_ w3 u1 := stu1
      refine hK.out _ _ hcu1 (fun _ => ?_)
      clear hK K
      try simp only [Act.put, List.setIfInBounds_toArray, List.set_cons_zero, List.set_cons_succ]
      refine wpAnyH_ready (rs := [7]) (by kernel_rfl) (by simp) ?_
      refine AllReadyH.cons rfl (fun K hK => ?_) AllReadyH.nil
      rw [if_pos (by rfl)]
      try simp only [List.getElem_toArray, List.getElem_cons_succ, List.getElem_cons_zero]
      go_simp
      refine (rput_enc L.length u1).mono ?_
      rintro e u2 ⟨A7, k7, rfl, s7', d7⟩
      have hcu2 := hcu1.trans d7
      have own1 := own_chg own1 d7 (fun _ _ h => h)
      have s7 := s7'.view
      refine hK.out _ _ hcu2 (fun _ => ?_)
      clear hK K
      try simp only [Act.put, List.setIfInBounds_toArray, List.set_cons_zero, List.set_cons_succ]
      refine wpAnyH_ready (rs := [8]) (by kernel_rfl) (by simp) ?_
      refine AllReadyH.cons rfl (fun K hK => ?_) AllReadyH.nil
      rw [if_pos (by rfl)]
      try simp only [List.getElem_toArray, List.getElem_cons_succ, List.getElem_cons_zero]
      refine wp_append_view _ _ 24 rfl 5 i0 _ 1 Tryd.underlying24 hi hz0 hz1 hz2 rfl w3.heap.size _ 1 (u8s [kd]) rfl (own_base own1 (Nat.le_refl _)) _ A7 _ k7 (u8s (encI L.length)) rfl s7 (u8s_one _) (by unfold maxLen; omega) (by omega) hcu2.size ?_
      intro v8 w8 hown8 hgrow8 _
      have hcw8 : Chg none_ w3 w8 := hcu2.append (Nat.le_refl _) (own_base own1 (Nat.le_refl _)) hgrow8
      rw [u8s_append] at hown8
      refine hK.out _ _ hcw8 (fun _ => ?_)
      clear hK K
      try simp only [Act.put, List.setIfInBounds_toArray, List.set_cons_zero, List.set_cons_succ]
      refine wpAnyH_ready (rs := [10]) (by kernel_rfl) (by simp) ?_
      refine AllReadyH.cons rfl (fun K hK => ?_) AllReadyH.nil
      rw [if_pos (by rfl)]
      try simp only [List.getElem_toArray, List.getElem_cons_succ, List.getElem_cons_zero]
      refine wp_append_view _ _ 24 rfl 5 i0 _ 1 Tryd.underlying24 hi hz0 hz1 hz2 rfl w3.heap.size _ (1 + (encI L.length).length) (u8s ([kd] ++ encI L.length)) rfl hown8 _ A3 L.length q3 (u8s L) rfl (HV3.out.chg hcw8 (fun _ _ h => h)) (u8s_one _) (by unfold maxLen; omega) (by omega) hcw8.size ?_
      intro v9 w9 hown9 hgrow9 _
      have hcw9 : Chg none_ w3 w9 := hcw8.append (Nat.le_refl _) hown8 hgrow9
      rw [u8s_append] at hown9
      obtain ⟨A9, q9, rfl, _, _, hv9⟩ := View.own (T := fun b => w3.heap.size ≤ b) hown9 (fun _ h => h)
      refine hK.out _ _ hcw9 (fun _ => ?_)
      clear hK K
      try simp only [Act.put, List.setIfInBounds_toArray, List.set_cons_zero, List.set_cons_succ]
      refine wpAnyH_ready (rs := [11]) (by kernel_rfl) (by simp) ?_
      refine AllReadyH.cons rfl (fun K hK => ?_) AllReadyH.nil
      rw [if_pos (by rfl)]
      try simp only [List.getElem_toArray, List.getElem_cons_succ, List.getElem_cons_zero]
      go_simp
      refine hK.out _ _ hcw9 (fun _ => ?_)
      clear hK K
      try simp only [Act.put, List.setIfInBounds_toArray, List.set_cons_zero, List.set_cons_succ]
      refine wpAnyH_done (by kernel_rfl) ?_ _
      try simp only [Act.put, List.setIfInBounds_toArray, List.set_cons_zero, List.set_cons_succ, List.getElem_toArray, List.getElem_cons_succ, List.getElem_cons_zero]
      go_wp2_with fail
      go_ret
      have hlB : PB.length = 1 + (encI L.length).length + L.length := by rw [HPB.out]; simp; omega
      rw [List.append_assoc, ← HPB.out, ← hlB] at hown9 hv9
      exact ⟨A9, q9, by rw [hlB]; rfl, Fresh.base ⟨hv9, hown9⟩ HC3.out.size, HC3.out.trans hcw9⟩
    · rw [if_pos (by rfl)]
      try simp only [List.getElem_toArray, List.getElem_cons_succ, List.getElem_cons_zero]
      go_simp
      refine (rput_enc L.length _).mono ?_
      rintro e u1 ⟨A7, k7, rfl, s7', d7⟩
      have hcu1 : Chg none_ w3 u1 := hch0.trans d7
      refine hK.out _ _ hcu1 (fun _ => ?_)
      clear hK K
      try simp only [Act.put, List.setIfInBounds_toArray, List.set_cons_zero, List.set_cons_succ]
      refine wpAnyH_ready (rs := [3]) (by kernel_rfl) (by simp) ?_
      refine AllReadyH.cons rfl (fun K hK => ?_) AllReadyH.nil
      rw [if_pos (by rfl)]
      try simp only [List.getElem_toArray, List.getElem_cons_succ, List.getElem_cons_zero]
      go_simp
      obtain ⟨u2, hu2⟩ : ∃ u, u = (World.alloc u1 (.cells [Value.int .u8 (kd : Nat)].toArray 5)) := ⟨_, rfl⟩
      rw [← hu2]
      have stu2 : Chg none_ u1 u2 := by rw [hu2]; exact (Chg.refl none_ _).alloc _
      have own1 : World.ownsRow u2 u1.heap.size 5 1 (.slice (some ⟨u1.heap.size, 0, none⟩) 1 1) 1 (u8s [kd]) := by rw [hu2]; exact own_of_row (Row.new u1 5 (u8s [kd])) (Nat.le_refl _) rfl (by decide)
      clear hu2
      have hcu2 := hcu1.trans stu2
      have s7 := s7'.view.chg stu2 (fun _ _ h => h)
      have hb1 := hcu1.size
      refine hK.out _ _ hcu2 (fun _ => ?_)
      clear hK K
      try simp only [Act.put, List.setIfInBounds_toArray, List.set_cons_zero, List.set_cons_succ]
      refine wpAnyH_ready (rs := [8]) (by kernel_rfl) (by simp) ?_
      refine AllReadyH.cons rfl (fun K hK => ?_) AllReadyH.nil
      rw [if_pos (by rfl)]
      try simp only [List.getElem_toArray, List.getElem_cons_succ, List.getElem_cons_zero]
      refine wp_append_view _ _ 24 rfl 5 i0 _ 1 Tryd.underlying24 hi hz0 hz1 hz2 rfl w3.heap.size _ 1 (u8s [kd]) rfl (own_base own1 (hb1)) _ A7 _ k7 (u8s (encI L.length)) rfl s7 (u8s_one _) (by unfold maxLen; omega) (by omega) hcu2.size ?_
      intro v8 w8 hown8 hgrow8 _
      have hcw8 : Chg none_ w3 w8 := hcu2.append (Nat.le_refl _) (own_base own1 (hb1)) hgrow8
      rw [u8s_append] at hown8
      refine hK.out _ _ hcw8 (fun _ => ?_)
      clear hK K
      try simp only [Act.put, List.setIfInBounds_toArray, List.set_cons_zero, List.set_cons_succ]
      refine wpAnyH_ready (rs := [10]) (by kernel_rfl) (by simp) ?_
      refine AllReadyH.cons rfl (fun K hK => ?_) AllReadyH.nil
      rw [if_pos (by rfl)]
      try simp only [List.getElem_toArray, List.getElem_cons_succ, List.getElem_cons_zero]
      refine wp_append_view _ _ 24 rfl 5 i0 _ 1 Tryd.underlying24 hi hz0 hz1 hz2 rfl w3.heap.size _ (1 + (encI L.length).length) (u8s ([kd] ++ encI L.length)) rfl hown8 _ A3 L.length q3 (u8s L) rfl (HV3.out.chg hcw8 (fun _ _ h => h)) (u8s_one _) (by unfold maxLen; omega) (by omega) hcw8.size ?_
      intro v9 w9 hown9 hgrow9 _
      have hcw9 : Chg none_ w3 w9 := hcw8.append (Nat.le_refl _) hown8 hgrow9
      rw [u8s_append] at hown9
      obtain ⟨A9, q9, rfl, _, _, hv9⟩ := View.own (T := fun b => w3.heap.size ≤ b) hown9 (fun _ h => h)
      refine hK.out _ _ hcw9 (fun _ => ?_)
      clear hK K
      try simp only [Act.put, List.setIfInBounds_toArray, List.set_cons_zero, List.set_cons_succ]
      refine wpAnyH_ready (rs := [11]) (by kernel_rfl) (by simp) ?_
      refine AllReadyH.cons rfl (fun K hK => ?_) AllReadyH.nil
      rw [if_pos (by rfl)]
      try simp only [List.getElem_toArray, List.getElem_cons_succ, List.getElem_cons_zero]
      go_simp
      refine hK.out _ _ hcw9 (fun _ => ?_)
      clear hK K
      try simp only [Act.put, List.setIfInBounds_toArray, List.set_cons_zero, List.set_cons_succ]
      refine wpAnyH_done (by kernel_rfl) ?_ _
      try simp only [Act.put, List.setIfInBounds_toArray, List.set_cons_zero, List.set_cons_succ, List.getElem_toArray, List.getElem_cons_succ, List.getElem_cons_zero]
      go_wp2_with fail
      go_ret
      have hlB : PB.length = 1 + (encI L.length).length + L.length := by rw [HPB.out]; simp; omega
      rw [List.append_assoc, ← HPB.out, ← hlB] at hown9 hv9
      exact ⟨A9, q9, by rw [hlB]; rfl, Fresh.base ⟨hv9, hown9⟩ HC3.out.size, HC3.out.trans hcw9⟩
set_option maxRecDepth 100000 in
set_option maxHeartbeats 4000000 in
theorem rput_sets (f : Hf) (ss sd : Value) (w : World) (T : Nat → Prop) (hf : HfD w T f ss sd) (o : f.Ok) (kd : Nat) (hkd : f.kind = kd) (hk01 : kd = 4) (hr : rightH f = true) :
    Calls Tryd.prog 16 #[aggH f ss sd] w (GotBytes w (putH f)) := by
  have hPB : putH f = [kd] ++ (encI (ownK .sets f).length ++ ownK .sets f) := by
    have hk2 : kkM (keyM f.kind) = some .sets := by rw [hkd]; subst hk01; decide +kernel
    have hh : hasK .sets f = true := by unfold rightH at hr; rw [hk2] at hr; exact hr
    rw [putH_yes hk2 hh, show keyM f.kind = kd by rw [hkd]; unfold keyM; omega, encI_small kd (by omega)]
  have HPB := Lib.hid hPB
  have hbx := boxed w f ss sd
  have HRT := Lib.hid (rright_any f ss sd _ T (hf.chg hbx.chg (fun _ _ h => h)) o)
  rw [hr] at HRT
  have HROW := Lib.hid hbx.row
  have HC := Lib.hid hbx.chg
  obtain ⟨i0, hi, hz0, hz1, hz2⟩ := info_parts info5
  have hdl : f.data.length = 0 ∧ f.sets.length ≤ 16 := by
    have hk2 : kkM (keyM f.kind) = some .sets := by rw [hkd]; subst hk01; decide +kernel
    have hh : hasK .sets f = true := by unfold rightH at hr; rw [hk2] at hr; exact hr
    have hh2 : (setsB f.sets && decide (f.id = 0 ∧ f.data.length = 0)) = true := hh
    rw [Bool.and_eq_true] at hh2
    exact ⟨(of_decide_eq_true hh2.2).2, (sets_le hh2.1).1⟩
  obtain ⟨⟨A, c, rfl, _, hvs⟩, ⟨B, d, rfl, _, _⟩⟩ := hf
  have HX := Lib.hid (fun w' (hc : Chg none_ (w.alloc (.cells (cellsH f (.slice A f.sets.length c) (.slice B f.data.length d)).toArray 26)) w') => hbx.row.chg hc (fun h => h))
  obtain ⟨hd0, h16⟩ := hdl
  have ho : ownK .sets f = setsE f.sets := rfl
  rw [ho] at HPB
  generalize hPBe : putH f = PB at *
  rw [hd0] at HX HROW HC HRT
  rw [hd0]
  generalize hl : f.sets = l at *
  have a0 : (cellsH f (.slice A l.length c) (.slice B 0 d))[0]? = some (.int .i64 (kd : Nat)) := by rw [← hkd]; rfl
  have a1 : (cellsH f (.slice A l.length c) (.slice B 0 d))[1]? = some (.int .u64 (f.id : Nat)) := rfl
  have a2 : (cellsH f (.slice A l.length c) (.slice B 0 d))[2]? = some (.slice A l.length c) := rfl
  have a3 : (cellsH f (.slice A l.length c) (.slice B 0 d))[3]? = some (.slice B 0 d) := rfl
  have hkw : IntKind.u8.wrap (kd : Int) = (kd : Int) := IntWalk.u8_in _ (by omega)
  have h8 := setsE_len l
  have hLw : IntKind.u64.wrap ((setsE l).length : Int) = ((setsE l).length : Int) := IntWalk.u64_in _ (by omega)
  have hen := encI_len8 (setsE l).length
  have HPR := Lib.hid (fun (q : 0 < l.length) => hvs.pairs q)
  unfold aggH at *
  have h4 : (cellsH f (.slice A l.length c) (.slice B 0 d)).length = 4 := rfl
  generalize f.id = id at *
  clear hPB hbx hkd hr ho hPBe o hd0 hvs hl
  have n3 : ((kd : Int) == 3) = false := by rw [beq_eq_false_iff_ne]; omega
  have n7 : ((kd : Int) == 7) = false := by rw [beq_eq_false_iff_ne]; omega
  have n13 : ((kd : Int) == 13) = false := by rw [beq_eq_false_iff_ne]; omega
  clear hk01
  go_enter Tryd.func16, Tryd.ntmps16
  go_wp2_with (first | ((with_reducible show wpList _ _ _ (⟨_, .load 26 (.tmp 1), _, _, _, _⟩ :: _) _ _); refine wpList_load_Row rfl rfl rfl HROW.out Tryd.underlying26 rfl sizeH ?_) | (go_at_call 13; refine HRT.out.mono ?_; rintro e w1 ⟨rfl, d1⟩; have k3 := ((HX.out _ (d1.alloc (.cells #[] 5))).cell 3).trans a3) | (at_builtin; refine wpList_append_view rfl _ _ 24 rfl 5 i0 _ 1 Tryd.underlying24 hi hz0 hz1 hz2 rfl w1.heap.size (.slice (some ⟨w1.heap.size, 0, none⟩) 0 0) 0 (u8s []) rfl (own_none w1 5) (fun _ => True) B _ d (u8s []) rfl (View.none_ _ _ _) (u8s_one _) (by unfold maxLen; omega) (by omega) (by simp) ?_; intro v2 w2 hown2 hgrow2 _; have e2 : Chg none_ w1 w2 := ((Chg.refl none_ w1).alloc _).append (Nat.le_refl _) (own_none w1 5) hgrow2; have k0 := ((HX.out _ (d1.trans e2)).cell 0).trans a0; have k1 := ((HX.out _ (d1.trans e2)).cell 1).trans a1; have k2 := ((HX.out _ (d1.trans e2)).cell 2).trans a2; rw [u8s_append, Nat.zero_add, List.nil_append] at hown2; clear hgrow2))
  have HD1 := Lib.hid d1
  have HE2 := Lib.hid e2
  go_loopw [3, 4] (fun bv iv wr => ∃ i : Nat, i ≤ l.length ∧ iv = .int .i64 i ∧ wr.ownsRow w1.heap.size 5 1 bv (setsE (l.take i)).length (u8s (setsE (l.take i))) ∧ Chg none_ w1 wr) (fun _ iv _ => l.length - (intOf iv).toNat)
  case atStart => exact ⟨0, Nat.zero_le _, rfl, hown2, HE2.out⟩
  case round =>
    clear hown2 k0 k1 k2 k3
    obtain ⟨i, hi', rfl, hown, hch⟩ := hrel
    have HOWN := Lib.hid hown
    have k2 := ((HX.out _ (HD1.out.trans hch)).cell 2).trans a2
    by_cases hlt : i < l.length
    · obtain ⟨b, o, rfl, hbb, _, hcl⟩ := HPR.out (by omega)
      have hcw := HC.out.trans (HD1.out.trans hch)
      have c1 := (hcw.cell (o + i * 2) hbb (fun h => h)).trans (hcl i hlt).1
      have HCC := Lib.hid (fun w' (hc : Chg none_ w1 w') => (⟨((HC.out.trans (HD1.out.trans hc)).cell (o + i * 2 + 1) hbb (fun h => h)).trans (hcl i hlt).2, ((HX.out _ (HD1.out.trans hc)).cell 2).trans a2⟩ : _ ∧ _))
      have hi0 : (0 : Int) ≤ (i : Int) := by omega
      have hi1 : (i : Int) < (l.length : Int) := by omega
      have hsn := fun x1 x2 h => setsE_snoc l i x1 x2 hlt h
      have hti := setsE_len (l.take i)
      have htl : (l.take i).length ≤ 16 := by rw [List.length_take]; omega
      generalize hx : l.getD i (0, 0) = x at *
      obtain ⟨x1, x2⟩ := x
      have HSN := Lib.hid (hsn x1 x2 rfl)
      have y1 := encI_len8 x1
      have y2 := encI_len8 x2
      simp only at c1 HCC
      clear hsn hx hown hcl hcw
      go_wp2_with (first | (go_at_call 29; have _ := f4; refine (rput_enc x2 _).mono ?_; rintro e w5 ⟨A5, q5, rfl, s5, d5⟩) | (go_at_call 29; refine (rput_enc x1 _).mono ?_; rintro e w3 ⟨A3, q3, rfl, s3, d3⟩) | (at_builtin; refine wpList_append_view rfl _ _ 24 rfl 5 i0 _ 1 Tryd.underlying24 hi hz0 hz1 hz2 rfl w1.heap.size v4 ((setsE (l.take i)).length + (encI x1).length) (u8s (setsE (l.take i) ++ encI x1)) rfl (own_chg hown4 d5 (fun _ _ h => h)) _ A5 _ q5 (u8s (encI x2)) rfl s5.view (u8s_one _) (by unfold maxLen; omega) (by omega) (f4.trans d5).size ?_; intro v6 w6 hown6 hgrow6 _; have f6 := (f4.trans d5).append (Nat.le_refl _) (own_chg hown4 d5 (fun _ _ h => h)) hgrow6; rw [u8s_append] at hown6; clear hgrow6) | (at_builtin; refine wpList_append_view rfl _ _ 24 rfl 5 i0 _ 1 Tryd.underlying24 hi hz0 hz1 hz2 rfl w1.heap.size u3 ((setsE (l.take i)).length) (u8s (setsE (l.take i))) rfl (own_chg HOWN.out d3 (fun _ _ h => h)) _ A3 _ q3 (u8s (encI x1)) rfl s3.view (u8s_one _) (by unfold maxLen; omega) (by omega) (hch.trans d3).size ?_; intro v4 w4 hown4 hgrow4 _; have f4 := (hch.trans d3).append (Nat.le_refl _) (own_chg HOWN.out d3 (fun _ _ h => h)) hgrow4; rw [u8s_append] at hown4; clear hgrow4; obtain ⟨c2, k4⟩ := HCC.out w4 f4))
      go_roundw
      case rel =>
        refine ⟨i + 1, by omega, by go_num, ?_, f6⟩
        rw [HSN.out, ← List.append_assoc, List.length_append, List.length_append]
        exact hown6
      case measure => simp [intOf]; omega
    · have hil : i = l.length := by omega
      have hi1 : ¬ (i : Int) < (l.length : Int) := by omega
      rw [hil, List.take_length] at hown
      have HCH := Lib.hid hch
      clear HOWN hil hch
      obtain ⟨A3, q3, rfl, _, _, hv3⟩ := View.own (T := fun _ => True) hown (fun _ _ => trivial)
      have HV3' := Lib.hid hv3
      clear hown hv3
      go_wp2
      obtain ⟨w3, hw3⟩ : ∃ w3, w3 = wr := ⟨_, rfl⟩
      subst hw3
      have HC3 := Lib.hid (HC.out.trans (HD1.out.trans HCH.out))
      have HK0 := Lib.hid (fun w' (hc : Chg none_ w3 w') => ((HX.out _ ((HD1.out.trans HCH.out).trans hc)).cell 0).trans a0)
      have HV3 := HV3'
      clear HV3' HCH HX HRT HROW HD1 HE2 HPR a1 a2 a3 k2 n3 n7 n13
      generalize setsE l = L at *
      have hch0 : Chg none_ w3 w3.drew := (Chg.refl _ _).drew
      refine wp_region_held_drew (S := fun w' => Chg none_ w3 w') (by kernel_rfl) hch0 (fun _ => ?_)
      refine wpAnyH_take (i := 0) (v := .pointer (some ⟨w.heap.size, 0, none⟩)) rfl (by kernel_rfl) (by kernel_rfl) (by kernel_rfl) (by first | exact fun _ _ _ h => h | exact fun _ _ _ h => nomatch h.1) (Or.inl ⟨by rfl, fun w' hw' => by go_simp⟩) hch0 ?_
      refine wpAnyH_take (i := 1) (v := .int .i64 (kd : Nat)) rfl (by kernel_rfl) (by kernel_rfl) (by kernel_rfl) (by first | exact fun _ _ _ h => h | exact fun _ _ _ h => nomatch h.1) (Or.inl ⟨by rfl, fun w' hw' => by have hh := HK0.out w' hw'; go_simp⟩) hch0 ?_
      refine wpAnyH_take (i := 2) (v := .int .u8 (kd : Nat)) rfl (by kernel_rfl) (by kernel_rfl) (by kernel_rfl) (by first | exact fun _ _ _ h => h | exact fun _ _ _ h => nomatch h.1) (Or.inl ⟨by rfl, fun w' hw' => by go_simp⟩) hch0 ?_
      refine wpAnyH_take (i := 4) (v := .slice A3 L.length q3) rfl (by kernel_rfl) (by kernel_rfl) (by kernel_rfl) (by first | exact fun _ _ _ h => h | exact fun _ _ _ h => nomatch h.1) (Or.inl ⟨by rfl, fun w' hw' => by go_simp⟩) hch0 ?_
      refine wpAnyH_take (i := 5) (v := .int .i64 (L.length : Nat)) rfl (by kernel_rfl) (by kernel_rfl) (by kernel_rfl) (by first | exact fun _ _ _ h => h | exact fun _ _ _ h => nomatch h.1) (Or.inl ⟨by rfl, fun w' hw' => by go_simp⟩) hch0 ?_
      refine wpAnyH_take (i := 6) (v := .int .u64 (L.length : Nat)) rfl (by kernel_rfl) (by kernel_rfl) (by kernel_rfl) (by first | exact fun _ _ _ h => h | exact fun _ _ _ h => nomatch h.1) (Or.inl ⟨by rfl, fun w' hw' => by go_simp⟩) hch0 ?_
      refine wpAnyH_take (i := 9) (v := .slice A3 L.length q3) rfl (by kernel_rfl) (by kernel_rfl) (by kernel_rfl) (by first | exact fun _ _ _ h => h | exact fun _ _ _ h => nomatch h.1) (Or.inl ⟨by rfl, fun w' hw' => by go_simp⟩) hch0 ?_
      refine wpAnyH_ready (rs := [3, 7]) (by kernel_rfl) (by simp) ?_
      refine AllReadyH.cons rfl (fun K hK => ?_) (AllReadyH.cons rfl (fun K hK => ?_) AllReadyH.nil)
      · rw [if_pos (by rfl)]
        try simp only [List.getElem_toArray, List.getElem_cons_succ, List.getElem_cons_zero]
        go_simp
        obtain ⟨u1, hu1⟩ : ∃ u, u = (World.alloc w3 (.cells [Value.int .u8 (kd : Nat)].toArray 5)).drew := ⟨_, rfl⟩
        rw [← hu1]
        have stu1 : Chg none_ w3 u1 := by rw [hu1]; exact ((Chg.refl none_ _).alloc _).drew
        have own1 : World.ownsRow u1 w3.heap.size 5 1 (.slice (some ⟨w3.heap.size, 0, none⟩) 1 1) 1 (u8s [kd]) := by rw [hu1]; exact own_of_row (Row.new w3 5 (u8s [kd])) (Nat.le_refl _) rfl (by decide)
        clear hu1
        have hcu1 : Chg none_ w3 u1 := stu1
        refine hK.out _ _ hcu1 (fun _ => ?_)
        clear hK K
        try simp only [Act.put, List.setIfInBounds_toArray, List.set_cons_zero, List.set_cons_succ]
        refine wpAnyH_ready (rs := [7]) (by kernel_rfl) (by simp) ?_
        refine AllReadyH.cons rfl (fun K hK => ?_) AllReadyH.nil
        rw [if_pos (by rfl)]
        try simp only [List.getElem_toArray, List.getElem_cons_succ, List.getElem_cons_zero]
        go_simp
        refine (rput_enc L.length u1).mono ?_
        rintro e u2 ⟨A7, k7, rfl, s7', d7⟩
        have hcu2 := hcu1.trans d7
        have own1 := own_chg own1 d7 (fun _ _ h => h)
        have s7 := s7'.view
        refine hK.out _ _ hcu2 (fun _ => ?_)
        clear hK K
        try simp only [Act.put, List.setIfInBounds_toArray, List.set_cons_zero, List.set_cons_succ]
        refine wpAnyH_ready (rs := [8]) (by kernel_rfl) (by simp) ?_
        refine AllReadyH.cons rfl (fun K hK => ?_) AllReadyH.nil
        rw [if_pos (by rfl)]
        try simp only [List.getElem_toArray, List.getElem_cons_succ, List.getElem_cons_zero]
        refine wp_append_view _ _ 24 rfl 5 i0 _ 1 Tryd.underlying24 hi hz0 hz1 hz2 rfl w3.heap.size _ 1 (u8s [kd]) rfl (own_base own1 (Nat.le_refl _)) _ A7 _ k7 (u8s (encI L.length)) rfl s7 (u8s_one _) (by unfold maxLen; omega) (by omega) hcu2.size ?_
        intro v8 w8 hown8 hgrow8 _
        have hcw8 : Chg none_ w3 w8 := hcu2.append (Nat.le_refl _) (own_base own1 (Nat.le_refl _)) hgrow8
        rw [u8s_append] at hown8
        refine hK.out _ _ hcw8 (fun _ => ?_)
        clear hK K
        try simp only [Act.put, List.setIfInBounds_toArray, List.set_cons_zero, List.set_cons_succ]
        refine wpAnyH_ready (rs := [10]) (by kernel_rfl) (by simp) ?_
        refine AllReadyH.cons rfl (fun K hK => ?_) AllReadyH.nil
        rw [if_pos (by rfl)]
        try simp only [List.getElem_toArray, List.getElem_cons_succ, List.getElem_cons_zero]
        refine wp_append_view _ _ 24 rfl 5 i0 _ 1 Tryd.underlying24 hi hz0 hz1 hz2 rfl w3.heap.size _ (1 + (encI L.length).length) (u8s ([kd] ++ encI L.length)) rfl hown8 _ A3 L.length q3 (u8s L) rfl (HV3.out.chg hcw8 (fun _ _ h => h)) (u8s_one _) (by unfold maxLen; omega) (by omega) hcw8.size ?_
        intro v9 w9 hown9 hgrow9 _
        have hcw9 : Chg none_ w3 w9 := hcw8.append (Nat.le_refl _) hown8 hgrow9
        rw [u8s_append] at hown9
        obtain ⟨A9, q9, rfl, _, _, hv9⟩ := View.own (T := fun b => w3.heap.size ≤ b) hown9 (fun _ h => h)
        refine hK.out _ _ hcw9 (fun _ => ?_)
        clear hK K
        try simp only [Act.put, List.setIfInBounds_toArray, List.set_cons_zero, List.set_cons_succ]
        refine wpAnyH_ready (rs := [11]) (by kernel_rfl) (by simp) ?_
        refine AllReadyH.cons rfl (fun K hK => ?_) AllReadyH.nil
        rw [if_pos (by rfl)]
        try simp only [List.getElem_toArray, List.getElem_cons_succ, List.getElem_cons_zero]
        go_simp
        refine hK.out _ _ hcw9 (fun _ => ?_)
        clear hK K
        try simp only [Act.put, List.setIfInBounds_toArray, List.set_cons_zero, List.set_cons_succ]
        refine wpAnyH_done (by kernel_rfl) ?_ _
        try simp only [Act.put, List.setIfInBounds_toArray, List.set_cons_zero, List.set_cons_succ, List.getElem_toArray, List.getElem_cons_succ, List.getElem_cons_zero]
        go_wp2_with fail
        go_ret
        have hlB : PB.length = 1 + (encI L.length).length + L.length := by rw [HPB.out]; simp; omega
        rw [List.append_assoc, ← HPB.out, ← hlB] at hown9 hv9
        exact ⟨A9, q9, by rw [hlB]; rfl, Fresh.base ⟨hv9, hown9⟩ HC3.out.size, HC3.out.trans hcw9⟩
      · rw [if_pos (by rfl)]
        try simp only [List.getElem_toArray, List.getElem_cons_succ, List.getElem_cons_zero]
        go_simp
        refine (rput_enc L.length _).mono ?_
        rintro e u1 ⟨A7, k7, rfl, s7', d7⟩
        have hcu1 : Chg none_ w3 u1 := hch0.trans d7
        refine hK.out _ _ hcu1 (fun _ => ?_)
        clear hK K
        try simp only [Act.put, List.setIfInBounds_toArray, List.set_cons_zero, List.set_cons_succ]
        refine wpAnyH_ready (rs := [3]) (by kernel_rfl) (by simp) ?_
        refine AllReadyH.cons rfl (fun K hK => ?_) AllReadyH.nil
        rw [if_pos (by rfl)]
        try simp only [List.getElem_toArray, List.getElem_cons_succ, List.getElem_cons_zero]
        go_simp
        obtain ⟨u2, hu2⟩ : ∃ u, u = (World.alloc u1 (.cells [Value.int .u8 (kd : Nat)].toArray 5)) := ⟨_, rfl⟩
        rw [← hu2]
        have stu2 : Chg none_ u1 u2 := by rw [hu2]; exact (Chg.refl none_ _).alloc _
        have own1 : World.ownsRow u2 u1.heap.size 5 1 (.slice (some ⟨u1.heap.size, 0, none⟩) 1 1) 1 (u8s [kd]) := by rw [hu2]; exact own_of_row (Row.new u1 5 (u8s [kd])) (Nat.le_refl _) rfl (by decide)
        clear hu2
        have hcu2 := hcu1.trans stu2
        have s7 := s7'.view.chg stu2 (fun _ _ h => h)
        have hb1 := hcu1.size
        refine hK.out _ _ hcu2 (fun _ => ?_)
        clear hK K
        try simp only [Act.put, List.setIfInBounds_toArray, List.set_cons_zero, List.set_cons_succ]
        refine wpAnyH_ready (rs := [8]) (by kernel_rfl) (by simp) ?_
        refine AllReadyH.cons rfl (fun K hK => ?_) AllReadyH.nil
        rw [if_pos (by rfl)]
        try simp only [List.getElem_toArray, List.getElem_cons_succ, List.getElem_cons_zero]
        refine wp_append_view _ _ 24 rfl 5 i0 _ 1 Tryd.underlying24 hi hz0 hz1 hz2 rfl w3.heap.size _ 1 (u8s [kd]) rfl (own_base own1 (hb1)) _ A7 _ k7 (u8s (encI L.length)) rfl s7 (u8s_one _) (by unfold maxLen; omega) (by omega) hcu2.size ?_
        intro v8 w8 hown8 hgrow8 _
        have hcw8 : Chg none_ w3 w8 := hcu2.append (Nat.le_refl _) (own_base own1 (hb1)) hgrow8
        rw [u8s_append] at hown8
        refine hK.out _ _ hcw8 (fun _ => ?_)
        clear hK K
        try simp only [Act.put, List.setIfInBounds_toArray, List.set_cons_zero, List.set_cons_succ]
        refine wpAnyH_ready (rs := [10]) (by kernel_rfl) (by simp) ?_
        refine AllReadyH.cons rfl (fun K hK => ?_) AllReadyH.nil
        rw [if_pos (by rfl)]
        try simp only [List.getElem_toArray, List.getElem_cons_succ, List.getElem_cons_zero]
        refine wp_append_view _ _ 24 rfl 5 i0 _ 1 Tryd.underlying24 hi hz0 hz1 hz2 rfl w3.heap.size _ (1 + (encI L.length).length) (u8s ([kd] ++ encI L.length)) rfl hown8 _ A3 L.length q3 (u8s L) rfl (HV3.out.chg hcw8 (fun _ _ h => h)) (u8s_one _) (by unfold maxLen; omega) (by omega) hcw8.size ?_
        intro v9 w9 hown9 hgrow9 _
        have hcw9 : Chg none_ w3 w9 := hcw8.append (Nat.le_refl _) hown8 hgrow9
        rw [u8s_append] at hown9
        obtain ⟨A9, q9, rfl, _, _, hv9⟩ := View.own (T := fun b => w3.heap.size ≤ b) hown9 (fun _ h => h)
        refine hK.out _ _ hcw9 (fun _ => ?_)
        clear hK K
        try simp only [Act.put, List.setIfInBounds_toArray, List.set_cons_zero, List.set_cons_succ]
        refine wpAnyH_ready (rs := [11]) (by kernel_rfl) (by simp) ?_
        refine AllReadyH.cons rfl (fun K hK => ?_) AllReadyH.nil
        rw [if_pos (by rfl)]
        try simp only [List.getElem_toArray, List.getElem_cons_succ, List.getElem_cons_zero]
        go_simp
        refine hK.out _ _ hcw9 (fun _ => ?_)
        clear hK K
        try simp only [Act.put, List.setIfInBounds_toArray, List.set_cons_zero, List.set_cons_succ]
        refine wpAnyH_done (by kernel_rfl) ?_ _
        try simp only [Act.put, List.setIfInBounds_toArray, List.set_cons_zero, List.set_cons_succ, List.getElem_toArray, List.getElem_cons_succ, List.getElem_cons_zero]
        go_wp2_with fail
        go_ret
        have hlB : PB.length = 1 + (encI L.length).length + L.length := by rw [HPB.out]; simp; omega
        rw [List.append_assoc, ← HPB.out, ← hlB] at hown9 hv9
        exact ⟨A9, q9, by rw [hlB]; rfl, Fresh.base ⟨hv9, hown9⟩ HC3.out.size, HC3.out.trans hcw9⟩
theorem rputH_any (f : Hf) (ss sd : Value) (w : World) (T : Nat → Prop) (hf : HfD w T f ss sd) (o : f.Ok) :
    Calls Tryd.prog 16 #[aggH f ss sd] w (GotBytes w (putH f)) := by
  cases hr : rightH f with
  | false => exact rput_no f ss sd w T hf o hr
  | true =>
    have hk : f.kind = 0 ∨ f.kind = 1 ∨ f.kind = 3 ∨ f.kind = 4 ∨ f.kind = 7 ∨ f.kind = 13 := by
      by_cases h : f.kind = 0 ∨ f.kind = 1 ∨ f.kind = 3 ∨ f.kind = 4 ∨ f.kind = 7 ∨ f.kind = 13
      · exact h
      · rw [right_none o h] at hr; cases hr
    rcases hk with h | h | h | h | h | h
    · exact rput_data f ss sd w T hf o 0 h (by omega) hr
    · exact rput_data f ss sd w T hf o 1 h (by omega) hr
    · exact rput_id f ss sd w T hf o 3 h (by omega) hr
    · exact rput_sets f ss sd w T hf o 4 h rfl hr
    · exact rput_id f ss sd w T hf o 7 h (by omega) hr
    · exact rput_id f ss sd w T hf o 13 h (by omega) hr
end Go.Proofs.YtcdnjeojgjakdaaDoor
