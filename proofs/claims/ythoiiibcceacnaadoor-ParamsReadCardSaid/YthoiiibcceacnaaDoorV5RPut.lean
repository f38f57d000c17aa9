/- Layer 5 (params): the document's bytes. -/
import Derived.Test.YthoiiibcceacnaaDoorV5Put
import Derived.Test.YthoiiibcceacnaaDoorFresh
import Derived.Test.YthoiiibcceacnaaDoorV1RWide
namespace Go.Proofs.YthoiiibcceacnaaDoor
open Go.RowKit

/-- A parameter's bytes; none of 0. -/
def oneM (id n : Nat) : List Nat := if n = 0 then [] else [id, (encI n).length] ++ encI n
theorem oneM_len (id n : Nat) : (oneM id n).length ≤ 10 := by
  unfold oneM
  split
  · simp
  · have := encI_len8 n; simp only [List.length_append, List.length_cons, List.length_nil]; omega

set_option maxRecDepth 100000 in
theorem one_any (id n : Nat) (hid : id < 256) (w : World) : Calls Tryd.prog 22 #[.int .u64 id, .int .u64 n] w (GotBytes w (oneM id n)) := by
  by_cases h0 : n = 0
  · have e : oneM id n = [] := by unfold oneM; rw [if_pos h0]
    rw [e]
    have hn : ((n : Int) == 0) = true := by simp [h0]
    clear h0 e
    go_enter Tryd.func22, Tryd.ntmps22
    go_wp2
    go_ret
    exact ⟨none, 0, rfl, Fresh.nil _ _, Chg.refl _ _⟩
  · have HE : Hid (oneM id n = [id, (encI n).length] ++ encI n) := by show _ = _; unfold oneM; rw [if_neg h0]
    have hn : ((n : Int) == 0) = false := by simp [h0]
    have HP := Lib.hid (rput_any n w)
    have hE := encI_len8 n
    unfold encI at hE HE
    generalize wideB n (szN n) = E at *
    obtain ⟨i0, hi, hz0, hz1, hz2⟩ := info_parts info5
    have hw1 : IntKind.u8.wrap (id : Int) = (id : Int) := IntWalk.u8_in _ (by omega)
    have hw2 : IntKind.u8.wrap (E.length : Int) = (E.length : Int) := IntWalk.u8_in _ (by omega)
    clear h0
    go_enter Tryd.func22, Tryd.ntmps22
    go_wp2_with fail
    refine HP.out.mono ?_
    rintro e w1 ⟨v, rfl, hv⟩
    have HC1 := Lib.hid hv.1
    obtain ⟨A, c, rfl, hv2⟩ := hv.view
    have HV := Lib.hid hv2
    clear hv hv2
    go_wp2_with (at_builtin; refine wpList_append_view rfl _ _ 29 rfl 5 i0 _ 1 Tryd.underlying29 hi hz0 hz1 hz2 rfl w.heap.size (.slice (some ⟨w1.heap.size, 0, none⟩) 2 2) 2 (u8s [id, E.length]) rfl (own_of_row (Row.new w1 5 (u8s [id, E.length])) HC1.out.size rfl (by simp [maxLen])) _ A _ c (u8s E) rfl (HV.out.chg ((Chg.refl none_ w1).alloc _) (fun _ _ h => h)) (u8s_one _) (by unfold maxLen; omega) (by omega) (by have := HC1.out.size; simp; omega) ?_; intro v2 w2 hown hgrow hob)
    have hc := ((HC1.out.alloc (.cells (u8s [id, E.length]).toArray 5))).append (Nat.le_refl _) (own_of_row (Row.new w1 5 (u8s [id, E.length])) HC1.out.size rfl (by simp [maxLen])) hgrow
    rw [u8s_append] at hown
    have HO := Lib.hid hown
    have HC2 := Lib.hid hc
    clear hown hc hgrow hob
    go_wp2
    obtain ⟨A2, k2, rfl, _, _, hv2⟩ := View.own (T := fun b => w.heap.size ≤ b) HO.out (fun _ h => h)
    go_ret
    have hl : (oneM id n).length = 2 + E.length := by rw [HE.out]; simp; omega
    have ho := HO.out
    rw [← HE.out, ← hl] at ho hv2
    exact ⟨A2, k2, by rw [hl]; rfl, ⟨hv2, ho⟩, HC2.out⟩

/-- The document's bytes. -/
def tokM (p : Pm) : List Nat := if p.has then [2, 16] ++ p.tok else []
def bytesD (p : Pm) : List Nat := ((oneM 1 p.idle ++ tokM p) ++ oneM 4 p.data) ++ oneM 5 p.stream ++ oneM 8 p.streams

set_option maxRecDepth 100000 in
set_option maxHeartbeats 2000000 in
theorem rput_none (p : Pm) (hm : mayB p = false) (w : World) (ht : p.tok.length = 16) : Calls Tryd.prog 14 #[aggP p] w (GotBytes w ([])) := by
  unfold aggP
  have hA := (Chg.refl none_ w).alloc (.cells (cellsP p).toArray 25)
  have hR := Row.new w 25 (cellsP p)
  have HM := Lib.hid (rmay_any p ht (w.alloc (.cells (cellsP p).toArray 25)))
  unfold aggP at HM
  rw [hm] at HM
  have HL := Lib.hid (cP_len p ht)
  have HA := Lib.hid hA
  have HR := Lib.hid hR
  clear hA hR hm
  clear ht
  go_enter Tryd.func14, Tryd.ntmps14
  go_wp2_with (first | ((with_reducible show wpList _ _ _ (⟨_, .load 25 _, _, _, _, _⟩ :: _) _ _); refine wlP rfl rfl rfl HR.out HL.out ?_) | (go_at_call 11; refine HM.out.mono ?_; rintro e w1 ⟨rfl, hc1⟩))
  go_ret
  exact ⟨none, 0, rfl, Fresh.nil _ _, HA.out.trans hc1⟩

set_option maxRecDepth 100000 in
set_option maxHeartbeats 2000000 in
theorem rput_yes_true (p : Pm) (hm : mayB p = true) (hh : p.has = true) (w : World) (ht : p.tok.length = 16) : Calls Tryd.prog 14 #[aggP p] w (GotBytes w (bytesD p)) := by
  unfold aggP
  have hA := (Chg.refl none_ w).alloc (.cells (cellsP p).toArray 25)
  have hR := Row.new w 25 (cellsP p)
  have HM := Lib.hid (rmay_any p ht (w.alloc (.cells (cellsP p).toArray 25)))
  unfold aggP at HM
  rw [hm] at HM
  have HL := Lib.hid (cP_len p ht)
  have HA := Lib.hid hA
  have HR := Lib.hid hR
  clear hA hR hm
  have h0 := cP_0 p
  have h1 := cP_1 p
  have h2 := cP_2 p
  have h3 := cP_3 p
  have h4 := cP_4 p
  rw [hh] at h4
  have HD : Hid (bytesD p = (((oneM 1 p.idle ++ ([2, 16] ++ p.tok)) ++ oneM 4 p.data) ++ oneM 5 p.stream) ++ oneM 8 p.streams) := by show _ = _; unfold bytesD tokM; rw [hh]; rfl
  have HRX := Lib.hid (fun w' (hc : Chg none_ (w.alloc (.cells (cellsP p).toArray 25)) w') => HR.out.chg hc (fun h => h))
  have HTR := Lib.hid (fun w' (hc : Chg none_ (w.alloc (.cells (cellsP p).toArray 25)) w') => tokP_range (HR.out.chg hc (fun h => h)))
  have HT := Lib.hid ht
  have hl1 := oneM_len 1 p.idle
  have hl4 := oneM_len 4 p.data
  have hl5 := oneM_len 5 p.stream
  have hl8 := oneM_len 8 p.streams
  have H1 := Lib.hid (fun w => one_any 1 p.idle (by decide) w)
  have H4 := Lib.hid (fun w => one_any 4 p.data (by decide) w)
  have H5 := Lib.hid (fun w => one_any 5 p.stream (by decide) w)
  have H8 := Lib.hid (fun w => one_any 8 p.streams (by decide) w)
  clear hh
  generalize cellsP p = cs at *
  generalize oneM 1 p.idle = L1 at *
  generalize oneM 4 p.data = L4 at *
  generalize oneM 5 p.stream = L5 at *
  generalize oneM 8 p.streams = L8 at *
  obtain ⟨i0, hi, hz0, hz1, hz2⟩ := info_parts info5
  go_enter Tryd.func14, Tryd.ntmps14
  go_wp2_with (first | ((with_reducible show wpList _ _ _ (⟨_, .load 25 _, _, _, _, _⟩ :: _) _ _); refine wlP rfl rfl rfl HR.out HL.out ?_) | (go_at_call 11; refine HM.out.mono ?_; rintro e w1 ⟨rfl, hc1⟩; have d0 := ((HRX.out _ hc1).cell 0).trans h0))
  refine (H1.out _).mono ?_
  rintro e w2 ⟨A1, k1, rfl, f1, hc2⟩
  have HC2 := Lib.hid (hc1.trans hc2)
  have F1 := Lib.hid (f1.base hc1.size)
  have d4 := ((HRX.out _ HC2.out).cell 4).trans h4
  clear hc1 hc2 f1 d0 HR HM HL
  generalize w.alloc (.cells cs.toArray 25) = W1 at *
  go_wp2_with fail
  clear d4
  have HTL : Hid (p.tok.length = 16) := HT.out
  have hch0 : Chg none_ w2 w2.drew := (Chg.refl _ _).drew
  have hq0 : Chg none_ W1 w2.drew := HC2.out.trans hch0
  refine wp_region_held_drew (S := fun w' => Chg none_ W1 w') (by kernel_rfl) hq0 (fun _ => ?_)
  refine wpAnyH_take (i := 0) (v := .slice A1 L1.length k1) rfl (by kernel_rfl) (by kernel_rfl) (by kernel_rfl) (by first | exact fun _ _ _ h => h | exact fun _ _ _ h => nomatch h.1) (Or.inl ⟨by rfl, fun w' hw' => by go_simp⟩) hq0 ?_
  refine wpAnyH_take (i := 3) (v := .pointer (some ⟨w.heap.size, 5, none⟩)) rfl (by kernel_rfl) (by kernel_rfl) (by kernel_rfl) (by first | exact fun _ _ _ h => h | exact fun _ _ _ h => nomatch h.1) (Or.inl ⟨by rfl, fun w' hw' => by go_simp⟩) hq0 ?_
  refine wpAnyH_take (i := 4) (v := .slice (some ⟨w.heap.size, 5, none⟩) 16 16) rfl (by kernel_rfl) (by kernel_rfl) (by kernel_rfl) (by first | exact fun _ _ _ h => h | exact fun _ _ _ h => nomatch h.1) (Or.inl ⟨by rfl, fun w' hw' => by go_simp⟩) hq0 ?_
  refine wpAnyH_ready (rs := [1]) (by kernel_rfl) (by simp) ?_
  refine AllReadyH.cons rfl (fun K hK => ?_) AllReadyH.nil
  rw [if_pos (by rfl)]
  try simp only [List.getElem_toArray, List.getElem_cons_succ, List.getElem_cons_zero]
  go_simp
  have hqA : Chg none_ W1 (w2.drew.alloc (.cells (u8s [2, 16]).toArray 5)) := hq0.alloc _
  have hvA := View.row (T := fun _ => True) (Row.new w2.drew 5 (u8s [2, 16])) (n := 2) (Nat.le_refl _) trivial
  have ownA := own_chg F1.out.own (S := none_) (hch0.alloc (.cells (u8s [2, 16]).toArray 5)) (fun _ _ h => h)
  refine hK.out _ _ hqA (fun _ => ?_)
  clear hK K
  try simp only [Act.put, List.setIfInBounds_toArray, List.set_cons_zero, List.set_cons_succ, List.getElem_toArray, List.getElem_cons_succ, List.getElem_cons_zero]
  refine wpAnyH_ready (rs := [2]) (by kernel_rfl) (by simp) ?_
  refine AllReadyH.cons rfl (fun K hK => ?_) AllReadyH.nil
  rw [if_pos (by rfl)]
  try simp only [List.getElem_toArray, List.getElem_cons_succ, List.getElem_cons_zero]
  refine wp_append_view _ _ 29 rfl 5 i0 _ 1 Tryd.underlying29 hi hz0 hz1 hz2 rfl W1.heap.size _ (L1.length) (u8s L1) rfl ownA _ (some ⟨w2.drew.heap.size, 0, none⟩) 2 2 (u8s [2, 16]) rfl hvA (u8s_one _) (by unfold maxLen; omega) (by omega) hqA.size ?_
  intro v3 w3 hown3 hgrow3 hob3
  have hqB : Chg none_ W1 w3 := hqA.append (Nat.le_refl _) ownA hgrow3
  rw [u8s_append] at hown3
  obtain ⟨A3, q3, rfl, _, _, _⟩ := View.own (T := fun _ => True) hown3 (fun _ _ => trivial)
  refine hK.out _ _ hqB (fun _ => ?_)
  clear hK K
  try simp only [Act.put, List.setIfInBounds_toArray, List.set_cons_zero, List.set_cons_succ, List.getElem_toArray, List.getElem_cons_succ, List.getElem_cons_zero]
  refine wpAnyH_ready (rs := [5]) (by kernel_rfl) (by simp) ?_
  refine AllReadyH.cons rfl (fun K hK => ?_) AllReadyH.nil
  rw [if_pos (by rfl)]
  try simp only [List.getElem_toArray, List.getElem_cons_succ, List.getElem_cons_zero]
  have hvT : View w3 (fun _ => True) (some ⟨w.heap.size, 5, none⟩) 16 (u8s p.tok) := ⟨by simp [HTL.out], fun _ => ⟨w.heap.size, 5, rfl, (HRX.out _ hqB).lt, trivial, fun j hj => by
    have h2 : j < (u8s p.tok).length := by simp [HTL.out]; omega
    rw [List.getElem?_eq_getElem h2]
    exact HTR.out _ hqB j _ (List.getElem?_eq_getElem h2)⟩⟩
  refine wp_append_view _ _ 29 rfl 5 i0 _ 1 Tryd.underlying29 hi hz0 hz1 hz2 rfl W1.heap.size _ (L1.length + 2) (u8s (L1 ++ [2, 16])) rfl hown3 _ (some ⟨w.heap.size, 5, none⟩) 16 16 (u8s p.tok) rfl hvT (u8s_one _) (by unfold maxLen; omega) (by omega) hqB.size ?_
  intro v4 w4 hown4 hgrow4 hob4
  have hqC : Chg none_ W1 w4 := hqB.append (Nat.le_refl _) hown3 hgrow4
  rw [u8s_append] at hown4
  obtain ⟨A4, q4, rfl, _, _, _⟩ := View.own (T := fun _ => True) hown4 (fun _ _ => trivial)
  refine hK.out _ _ hqC (fun _ => ?_)
  clear hK K
  try simp only [Act.put, List.setIfInBounds_toArray, List.set_cons_zero, List.set_cons_succ, List.getElem_toArray, List.getElem_cons_succ, List.getElem_cons_zero]
  refine wpAnyH_ready (rs := [6]) (by kernel_rfl) (by simp) ?_
  refine AllReadyH.cons rfl (fun K hK => ?_) AllReadyH.nil
  rw [if_pos (by rfl)]
  try simp only [List.getElem_toArray, List.getElem_cons_succ, List.getElem_cons_zero]
  go_simp
  refine hK.out _ _ hqC (fun _ => ?_)
  clear hK K
  try simp only [Act.put, List.setIfInBounds_toArray, List.set_cons_zero, List.set_cons_succ, List.getElem_toArray, List.getElem_cons_succ, List.getElem_cons_zero]
  refine wpAnyH_done (by kernel_rfl) ?_ _
  have HQC := Lib.hid hqC
  have HOC := Lib.hid hown4
  clear hqA hqB hqC hown3 hown4 hgrow3 hgrow4 hob3 hob4 hvA hvT ownA hq0 hch0
  have d1 := ((HRX.out _ HQC.out).cell 1).trans h1
  go_wp2_with fail
  refine (H4.out _).mono ?_
  rintro e w10 ⟨A10, k10, rfl, f10, hc10⟩
  have F10 := Lib.hid f10
  have OW10 := Lib.hid (own_chg HOC.out hc10 (fun _ _ h => h))
  have HC10 := Lib.hid (Chg.trans HQC.out hc10)
  clear f10 hc10
  go_wp2_with (at_builtin; refine wpList_append_view rfl _ _ 29 rfl 5 i0 _ 1 Tryd.underlying29 hi hz0 hz1 hz2 rfl W1.heap.size (.slice A4 (L1.length + 2 + 16) q4) (L1.length + 2 + 16) (u8s (L1 ++ [2, 16] ++ p.tok)) rfl OW10.out _ A10 _ k10 (u8s L4) rfl F10.out.view (u8s_one _) (by unfold maxLen; omega) (by omega) HC10.out.size ?_; intro v11 w11 hown11 hgrow11 hob11; have hc11 := HC10.out.append (Nat.le_refl _) OW10.out hgrow11; have d2 := ((HRX.out _ hc11).cell 2).trans h2)
  rw [u8s_append] at hown11
  have HO11 := Lib.hid hown11
  have HC11 := Lib.hid hc11
  clear hown11 hgrow11 hob11 hc11 d1
  obtain ⟨A11, q11, rfl, _, _, _⟩ := View.own (T := fun _ => True) HO11.out (fun _ _ => trivial)
  refine (H5.out _).mono ?_
  rintro e w12 ⟨A12, k12, rfl, f12, hc12⟩
  have F12 := Lib.hid f12
  have OW12 := Lib.hid (own_chg HO11.out hc12 (fun _ _ h => h))
  have HC12 := Lib.hid (Chg.trans HC11.out hc12)
  clear f12 hc12
  go_wp2_with (at_builtin; refine wpList_append_view rfl _ _ 29 rfl 5 i0 _ 1 Tryd.underlying29 hi hz0 hz1 hz2 rfl W1.heap.size (.slice A11 (L1.length + 2 + 16 + L4.length) q11) (L1.length + 2 + 16 + L4.length) (u8s (L1 ++ [2, 16] ++ p.tok ++ L4)) rfl OW12.out _ A12 _ k12 (u8s L5) rfl F12.out.view (u8s_one _) (by unfold maxLen; omega) (by omega) HC12.out.size ?_; intro v13 w13 hown13 hgrow13 hob13; have hc13 := HC12.out.append (Nat.le_refl _) OW12.out hgrow13; have d3 := ((HRX.out _ hc13).cell 3).trans h3)
  rw [u8s_append] at hown13
  have HO13 := Lib.hid hown13
  have HC13 := Lib.hid hc13
  clear hown13 hgrow13 hob13 hc13 d2
  obtain ⟨A13, q13, rfl, _, _, _⟩ := View.own (T := fun _ => True) HO13.out (fun _ _ => trivial)
  refine (H8.out _).mono ?_
  rintro e w14 ⟨A14, k14, rfl, f14, hc14⟩
  have F14 := Lib.hid f14
  have OW14 := Lib.hid (own_chg HO13.out hc14 (fun _ _ h => h))
  have HC14 := Lib.hid (Chg.trans HC13.out hc14)
  clear f14 hc14
  go_wp2_with (at_builtin; refine wpList_append_view rfl _ _ 29 rfl 5 i0 _ 1 Tryd.underlying29 hi hz0 hz1 hz2 rfl W1.heap.size (.slice A13 (L1.length + 2 + 16 + L4.length + L5.length) q13) (L1.length + 2 + 16 + L4.length + L5.length) (u8s (L1 ++ [2, 16] ++ p.tok ++ L4 ++ L5)) rfl OW14.out _ A14 _ k14 (u8s L8) rfl F14.out.view (u8s_one _) (by unfold maxLen; omega) (by omega) HC14.out.size ?_; intro v15 w15 hown15 hgrow15 hob15; have hc15 := HC14.out.append (Nat.le_refl _) OW14.out hgrow15)
  rw [u8s_append] at hown15
  have HO15 := Lib.hid hown15
  have HC15 := Lib.hid hc15
  clear hown15 hgrow15 hob15 hc15 d3
  go_wp2
  obtain ⟨A15, q15, rfl, _, _, hv15⟩ := View.own (T := fun b => W1.heap.size ≤ b) HO15.out (fun _ h => h)
  go_ret
  have hD : bytesD p = L1 ++ [2, 16] ++ p.tok ++ L4 ++ L5 ++ L8 := by rw [HD.out]; simp only [List.append_assoc, List.append_nil]
  have hl : (bytesD p).length = L1.length + 2 + 16 + L4.length + L5.length + L8.length := by rw [hD]; simp only [List.length_append, List.length_cons, List.length_nil]; have := HT.out; omega
  have ho := HO15.out
  rw [← hD, ← hl] at ho hv15
  exact ⟨A15, q15, by rw [hl]; rfl, Fresh.base ⟨hv15, ho⟩ HA.out.size, HA.out.trans HC15.out⟩

set_option maxRecDepth 100000 in
set_option maxHeartbeats 2000000 in
theorem rput_yes_false (p : Pm) (hm : mayB p = true) (hh : p.has = false) (w : World) (ht : p.tok.length = 16) : Calls Tryd.prog 14 #[aggP p] w (GotBytes w (bytesD p)) := by
  unfold aggP
  have hA := (Chg.refl none_ w).alloc (.cells (cellsP p).toArray 25)
  have hR := Row.new w 25 (cellsP p)
  have HM := Lib.hid (rmay_any p ht (w.alloc (.cells (cellsP p).toArray 25)))
  unfold aggP at HM
  rw [hm] at HM
  have HL := Lib.hid (cP_len p ht)
  have HA := Lib.hid hA
  have HR := Lib.hid hR
  clear hA hR hm
  have h0 := cP_0 p
  have h1 := cP_1 p
  have h2 := cP_2 p
  have h3 := cP_3 p
  have h4 := cP_4 p
  rw [hh] at h4
  have HD : Hid (bytesD p = (((oneM 1 p.idle ++ []) ++ oneM 4 p.data) ++ oneM 5 p.stream) ++ oneM 8 p.streams) := by show _ = _; unfold bytesD tokM; rw [hh]; rfl
  have HRX := Lib.hid (fun w' (hc : Chg none_ (w.alloc (.cells (cellsP p).toArray 25)) w') => HR.out.chg hc (fun h => h))
  have HTR := Lib.hid (fun w' (hc : Chg none_ (w.alloc (.cells (cellsP p).toArray 25)) w') => tokP_range (HR.out.chg hc (fun h => h)))
  have HT := Lib.hid ht
  have hl1 := oneM_len 1 p.idle
  have hl4 := oneM_len 4 p.data
  have hl5 := oneM_len 5 p.stream
  have hl8 := oneM_len 8 p.streams
  have H1 := Lib.hid (fun w => one_any 1 p.idle (by decide) w)
  have H4 := Lib.hid (fun w => one_any 4 p.data (by decide) w)
  have H5 := Lib.hid (fun w => one_any 5 p.stream (by decide) w)
  have H8 := Lib.hid (fun w => one_any 8 p.streams (by decide) w)
  clear hh
  generalize cellsP p = cs at *
  generalize oneM 1 p.idle = L1 at *
  generalize oneM 4 p.data = L4 at *
  generalize oneM 5 p.stream = L5 at *
  generalize oneM 8 p.streams = L8 at *
  obtain ⟨i0, hi, hz0, hz1, hz2⟩ := info_parts info5
  go_enter Tryd.func14, Tryd.ntmps14
  go_wp2_with (first | ((with_reducible show wpList _ _ _ (⟨_, .load 25 _, _, _, _, _⟩ :: _) _ _); refine wlP rfl rfl rfl HR.out HL.out ?_) | (go_at_call 11; refine HM.out.mono ?_; rintro e w1 ⟨rfl, hc1⟩; have d0 := ((HRX.out _ hc1).cell 0).trans h0))
  refine (H1.out _).mono ?_
  rintro e w2 ⟨A1, k1, rfl, f1, hc2⟩
  have HC2 := Lib.hid (hc1.trans hc2)
  have F1 := Lib.hid (f1.base hc1.size)
  have d4 := ((HRX.out _ HC2.out).cell 4).trans h4
  clear hc1 hc2 f1 d0 HR HM HL
  generalize w.alloc (.cells cs.toArray 25) = W1 at *
  have d1 := ((HRX.out _ HC2.out).cell 1).trans h1
  go_wp2_with fail
  refine (H4.out _).mono ?_
  rintro e w10 ⟨A10, k10, rfl, f10, hc10⟩
  have F10 := Lib.hid f10
  have OW10 := Lib.hid (own_chg F1.out.own hc10 (fun _ _ h => h))
  have HC10 := Lib.hid (Chg.trans HC2.out hc10)
  clear f10 hc10 d4
  go_wp2_with (at_builtin; refine wpList_append_view rfl _ _ 29 rfl 5 i0 _ 1 Tryd.underlying29 hi hz0 hz1 hz2 rfl W1.heap.size (.slice A1 (L1.length) k1) (L1.length) (u8s (L1)) rfl OW10.out _ A10 _ k10 (u8s L4) rfl F10.out.view (u8s_one _) (by unfold maxLen; omega) (by omega) HC10.out.size ?_; intro v11 w11 hown11 hgrow11 hob11; have hc11 := HC10.out.append (Nat.le_refl _) OW10.out hgrow11; have d2 := ((HRX.out _ hc11).cell 2).trans h2)
  rw [u8s_append] at hown11
  have HO11 := Lib.hid hown11
  have HC11 := Lib.hid hc11
  clear hown11 hgrow11 hob11 hc11 d1
  obtain ⟨A11, q11, rfl, _, _, _⟩ := View.own (T := fun _ => True) HO11.out (fun _ _ => trivial)
  refine (H5.out _).mono ?_
  rintro e w12 ⟨A12, k12, rfl, f12, hc12⟩
  have F12 := Lib.hid f12
  have OW12 := Lib.hid (own_chg HO11.out hc12 (fun _ _ h => h))
  have HC12 := Lib.hid (Chg.trans HC11.out hc12)
  clear f12 hc12
  go_wp2_with (at_builtin; refine wpList_append_view rfl _ _ 29 rfl 5 i0 _ 1 Tryd.underlying29 hi hz0 hz1 hz2 rfl W1.heap.size (.slice A11 (L1.length + L4.length) q11) (L1.length + L4.length) (u8s (L1 ++ L4)) rfl OW12.out _ A12 _ k12 (u8s L5) rfl F12.out.view (u8s_one _) (by unfold maxLen; omega) (by omega) HC12.out.size ?_; intro v13 w13 hown13 hgrow13 hob13; have hc13 := HC12.out.append (Nat.le_refl _) OW12.out hgrow13; have d3 := ((HRX.out _ hc13).cell 3).trans h3)
  rw [u8s_append] at hown13
  have HO13 := Lib.hid hown13
  have HC13 := Lib.hid hc13
  clear hown13 hgrow13 hob13 hc13 d2
  obtain ⟨A13, q13, rfl, _, _, _⟩ := View.own (T := fun _ => True) HO13.out (fun _ _ => trivial)
  refine (H8.out _).mono ?_
  rintro e w14 ⟨A14, k14, rfl, f14, hc14⟩
  have F14 := Lib.hid f14
  have OW14 := Lib.hid (own_chg HO13.out hc14 (fun _ _ h => h))
  have HC14 := Lib.hid (Chg.trans HC13.out hc14)
  clear f14 hc14
  go_wp2_with (at_builtin; refine wpList_append_view rfl _ _ 29 rfl 5 i0 _ 1 Tryd.underlying29 hi hz0 hz1 hz2 rfl W1.heap.size (.slice A13 (L1.length + L4.length + L5.length) q13) (L1.length + L4.length + L5.length) (u8s (L1 ++ L4 ++ L5)) rfl OW14.out _ A14 _ k14 (u8s L8) rfl F14.out.view (u8s_one _) (by unfold maxLen; omega) (by omega) HC14.out.size ?_; intro v15 w15 hown15 hgrow15 hob15; have hc15 := HC14.out.append (Nat.le_refl _) OW14.out hgrow15)
  rw [u8s_append] at hown15
  have HO15 := Lib.hid hown15
  have HC15 := Lib.hid hc15
  clear hown15 hgrow15 hob15 hc15 d3
  go_wp2
  obtain ⟨A15, q15, rfl, _, _, hv15⟩ := View.own (T := fun b => W1.heap.size ≤ b) HO15.out (fun _ h => h)
  go_ret
  have hD : bytesD p = L1 ++ L4 ++ L5 ++ L8 := by rw [HD.out]; simp only [List.append_assoc, List.append_nil]
  have hl : (bytesD p).length = L1.length + L4.length + L5.length + L8.length := by rw [hD]; simp only [List.length_append, List.length_cons, List.length_nil]
  have ho := HO15.out
  rw [← hD, ← hl] at ho hv15
  exact ⟨A15, q15, by rw [hl]; rfl, Fresh.base ⟨hv15, ho⟩ HA.out.size, HA.out.trans HC15.out⟩

/-- The document's Put, of whatever parameters. -/
def putD (p : Pm) : List Nat := if mayB p then bytesD p else []
theorem rputP_any (p : Pm) (w : World) (ht : p.tok.length = 16) : Calls Tryd.prog 14 #[aggP p] w (GotBytes w (putD p)) := by
  unfold putD
  cases hm : mayB p
  · exact rput_none p hm w ht
  · cases hh : p.has
    · exact rput_yes_false p hm hh w ht
    · exact rput_yes_true p hm hh w ht
end Go.Proofs.YthoiiibcceacnaaDoor
