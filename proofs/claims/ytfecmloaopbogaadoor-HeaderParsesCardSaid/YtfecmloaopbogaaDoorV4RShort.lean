/- Layer 4 (header): Parse, by the document's answer: a short header. -/
import Derived.Test.YtfecmloaopbogaaDoorV4RAll
import Derived.Test.YtfecmloaopbogaaDoorAloc
namespace Go.Proofs.YtfecmloaopbogaaDoor
open Go.RowKit

/-- What a header and the reader behind it come to. -/
def outP (b : List Nat) (r : Hd × St) : Hd × Int × Int := if r.2.2 ≠ 0 ∨ rightH r.1 = false then ({}, 0, (failSt 3 r.2).2) else (r.1, (b.length : Int) - (r.2.1.length : Int), 0)
theorem outP_bad (b : List Nat) (r : Hd × St) (h : r.2.2 ≠ 0) : outP b r = ({}, 0, r.2.2) := by
  unfold outP failSt
  rw [if_pos (.inl h), if_pos (.inl h)]
theorem outP_none (b : List Nat) (r : Hd × St) (h0 : r.2.2 = 0) (h : rightH r.1 = false) : outP b r = ({}, 0, 3) := by
  unfold outP failSt
  rw [if_pos (.inr h), if_neg (by rw [h0]; decide)]
theorem outP_ok (b : List Nat) (r : Hd × St) (h0 : r.2.2 = 0) (h : rightH r.1 = true) : outP b r = (r.1, (b.length : Int) - (r.2.1.length : Int), 0) := by
  unfold outP
  rw [if_neg (by rw [h0, h]; simp)]

set_option maxRecDepth 100000 in
set_option maxHeartbeats 4000000 in
theorem rparse_short (w : World) (A : Option Addr) (c : Nat) (b : List Nat) (hv : View w (fun _ => True) A b.length (u8s b)) (hm : b.length ≤ 1000000) (hcap : b.length ≤ c) (hb : ∀ x ∈ b, x < 256) (f : Nat) (s : St) (ef : rdByte (b, 0) = (f, s)) (hne : 0 < b.length) (h64 : f / 64 % 2 = 1) (hl : f < 128) (hq : f / 8 % 8 = 0) (R : Hd × St) (hR : R = shortM (partsM f) (f % 4 + 1) s) :
    Calls Tryd.prog 20 #[.slice A b.length c] w (ParsePost w (outP b R).1 (outP b R).2.1 (outP b R).2.2) := by
  have EF := Lib.hid ef
  have hn0 : ((b.length : Nat) : Int) ≠ 0 := by omega
  have HVV := Lib.hid hv
  have HBB := Lib.hid hb
  have HCAP := Lib.hid hcap
  have HM := Lib.hid hm
  obtain ⟨k, hk⟩ : ∃ k, f % 4 + 1 = k := ⟨_, rfl⟩
  have HKE := Lib.hid hk
  clear hv hb ef hcap hne
  go_enter Tryd.func20, Tryd.ntmps20
  go_wp2_with fail
  obtain ⟨x1, rr1, rz1, cc1⟩ := rmade w A c b HVV.out HM.out HCAP.out HBB.out _ rfl
  have HT1 := Lib.hid x1
  have HR1 := Lib.hid rr1
  have HZ1 := Lib.hid rz1
  have HC1 := Lib.hid cc1
  clear x1 rr1 rz1 cc1 hm
  refine (byte_rtwo HT1.out).mono ?_
  have hf256 := (rdByte_mem (b, 0) HT1.out.rd.mem).1
  rw [EF.out] at hf256 ⊢
  try simp only at hf256
  rintro e w2 ⟨rfl, x2, hc2⟩
  try simp only at x2
  have H2 : Hid (RAll w w2 b s {} nil4) := Lib.hid ⟨x2, HR1.out.chg hc2 (fun e => by omega), HZ1.out.chg hc2 (fun e => by omega), chg_up HC1.out hc2 (by omega) (by omega)⟩
  clear x2 hc2 HT1 HR1 HZ1 HC1
  have hki : (f : Int) % 4 + 1 = (k : Int) := by omega
  have hk0 : (0 : Int) < (k : Int) := by omega
  have hk5 : (k : Int) < 5 := by omega
  clear hk
  have hi1 : ((f : Int) / 64 % 2) = 1 := by omega
  have hli : ¬ ((128 : Int) ≤ (f : Int)) := by omega
  have hdd : decide ((128 : Int) ≤ (f : Int)) = false := decide_eq_false hli
  have hi8 : ((f : Int) / 8 % 8) = 0 := by omega
  obtain ⟨ph, hph⟩ : ∃ ph, decide (f / 4 % 2 = 1) = ph := ⟨_, rfl⟩
  have hphi : ((f : Int) / 4 % 2 == 1) = ph := by rw [← hph, Bool.eq_iff_iff]; simp; omega
  have HPM : Hid (partsM f = { phase := ph }) := Lib.hid (by unfold partsM; rw [if_neg (by omega), hph])
  have HRR : Hid (R = shortM { phase := ph } k s) := Lib.hid (by rw [hR, HPM.out, HKE.out])
  clear hph h64 hl hq hR
  have ck0 := H2.out.hdcell 0
  rw [cH_0] at ck0
  have cf0 := H2.out.hdfree 0
  have ck1 := H2.out.hdcell 1
  rw [cH_1] at ck1
  have cf1 := H2.out.hdfree 1
  have H4 := Lib.hid ((H2.out.put 0 _ (H2.out.two.set0 false)).put 1 _ ((H2.out.two.set0 false).set1 ph))
  go_wp2_with fail
  refine (H4.out.bytes 8).mono ?_
  rintro e w5 ⟨A5, c5, rfl, hb5, h5⟩
  have H5 := Lib.hid h5
  have HB5 := Lib.hid hb5
  clear h5 hb5 H2 ck0 cf0 ck1 cf1
  have ck4 := H5.out.hdcell 4
  rw [cH_4] at ck4
  have cf4 := H5.out.hdfree 4
  have H6 := Lib.hid (H5.out.put 4 _ (H5.out.two.set4 HB5.out))
  obtain ⟨D, hD⟩ : ∃ D, (rdBytes 8 s).1 = D := ⟨_, rfl⟩
  obtain ⟨s5, hs5⟩ : ∃ s5, (rdBytes 8 s).2 = s5 := ⟨_, rfl⟩
  rw [hD, hs5] at H6
  rw [hD]
  go_wp2_with fail
  refine (H6.out.bytes k).mono ?_
  rintro e w7 ⟨A7, c7, rfl, hb7, h7⟩
  have H7 := Lib.hid h7
  have HB7 := Lib.hid hb7
  clear h7 hb7 H4 H5 HB5 ck4 cf4
  have ck7 := H7.out.hdcell 7
  rw [cH_7] at ck7
  have cf7 := H7.out.hdfree 7
  have H8 := Lib.hid (H7.out.put 7 _ (H7.out.two.set7 HB7.out))
  obtain ⟨C, hC⟩ : ∃ C, (rdBytes k s5).1 = C := ⟨_, rfl⟩
  obtain ⟨s7, hs7⟩ : ∃ s7, (rdBytes k s5).2 = s7 := ⟨_, rfl⟩
  rw [hC, hs7] at H8
  rw [hC]
  have HRES0 : Hid (R = ({ phase := ph, dst := D, cut := C, rest := ((s7.1.length : Nat) : Int) }, s7)) := Lib.hid (by rw [HRR.out, shortM, ← hD, ← hC, ← hs7, ← hs5])
  clear hD hs5 hC hs7
  go_wp2_with fail
  refine H8.out.left.mono ?_
  rintro e w9b ⟨rfl, h9⟩
  have H9 := Lib.hid h9
  clear h9 H6 H7 H8 HB7 ck7 cf7
  have ck8 := H9.out.hdcell 8
  rw [cH_8] at ck8
  have cf8 := H9.out.hdfree 8
  have HZf := Lib.hid (H9.out.put 8 _ (H9.out.two.set8 (s7.1.length : Nat)))
  obtain ⟨HH, hHH⟩ : ∃ HH : Hd, HH = { phase := ph, dst := D, cut := C, rest := ((s7.1.length : Nat) : Int) } := ⟨_, rfl⟩
  have HZg : Hid (RAll w (w9b.setCell ⟨w.heap.size + 1, 8, none⟩ (.int .i64 (s7.1.length : Nat))) b s7 HH ⟨.slice A5 D.length c5, .slice none 0 0, .slice none 0 0, .slice A7 C.length c7⟩) := Lib.hid (by rw [hHH]; exact HZf.out)
  have HRES : Hid (outP b R = outP b (HH, s7)) := Lib.hid (by rw [HRES0.out, hHH])
  clear hHH HZf
  obtain ⟨E, hE⟩ : ∃ E, s7.2 = E := ⟨_, rfl⟩
  have hbd := H9.out.bad
  rw [hE] at hbd
  have HEE := Lib.hid hE
  have HLS := Lib.hid HZg.out.two.sl
  by_cases hb0 : E = 0
  · subst hb0
    have hat := H9.out.at_ hE
    have HRIGHT := Lib.hid (fun w' (hc : Chg none_ (w9b.setCell ⟨w.heap.size + 1, 8, none⟩ (.int .i64 (s7.1.length : Nat))) w') => rright_sh HH ⟨.slice A5 D.length c5, .slice none 0 0, .slice none 0 0, .slice A7 C.length c7⟩ w' HLS.out.shape (by have h1 := HLS.out.s; have h2 := HLS.out.t; obtain ⟨_, _, _, h1, _⟩ := h1; obtain ⟨_, _, _, h2, _⟩ := h2; omega))
    clear hE
    by_cases hr : rightH HH = true
    · have HQ : Hid (outP b R = (HH, (b.length : Int) - (s7.1.length : Int), 0)) := Lib.hid (by rw [HRES.out, outP_ok b _ (by exact HEE.out) hr])
      rw [hr] at HRIGHT
      clear hr
      go_wp2_with (first | ((with_reducible show wpList _ _ _ (⟨some 166, .load 25 _, _, _, _, _⟩ :: _) _ _); refine wlH rfl rfl rfl HZg.out.two.row rfl ?_) | (go_at_call 13; refine (HRIGHT.out _ (Chg.refl none_ _)).mono ?_; rintro e w20 ⟨rfl, hc20⟩; have HX20 := Lib.hid (HZg.out.keep hc20); clear hc20))
      have CX : Hid (∀ w', Chg (· = w.heap.size) w20 w' → w'.cell? ⟨w.heap.size + 1 + 1 + 1, 1, none⟩ = some (.int .i64 ((b.length : Int) - (s7.1.length : Int)))) := Lib.hid (fun w' hc => (hc.cell 1 HX20.out.two.rd.lt (by omega)).trans (HX20.out.at_ HEE.out))
      refine wp_region_held_drew (S := fun w' => Chg (· = w.heap.size) w20 w') (by kernel_rfl) ((Chg.refl _ _).drew) (fun hch0 => ?_)
      refine wpAnyH_take (i := 0) (v := .agg (cellsH HH ⟨.slice A5 D.length c5, .slice none 0 0, .slice none 0 0, .slice A7 C.length c7⟩).toArray) rfl (by kernel_rfl) (by kernel_rfl) (by kernel_rfl) (by first | exact fun _ _ _ h => h | exact fun _ _ _ h => nomatch h.1) (yieldsIf_load_mid (by rfl) 25 _ rfl (w.heap.size + 1) 0 rfl (cellsH HH ⟨.slice A5 D.length c5, .slice none 0 0, .slice none 0 0, .slice A7 C.length c7⟩) _ (fun w' hw' => (HX20.out.two.row.chg hw' (by omega)).range) Tryd.underlying25 rfl (by exact sizeH)) hch0 ?_
      refine wpAnyH_take (i := 1) (v := .pointer (some ⟨w.heap.size + 1 + 1 + 1, 0, none⟩)) rfl (by kernel_rfl) (by kernel_rfl) (by kernel_rfl) (by first | exact fun _ _ _ h => h | exact fun _ _ _ h => nomatch h.1) (Or.inl ⟨by rfl, fun w_ hw_ => by go_simp⟩) hch0 ?_
      refine wpAnyH_take (i := 2) (v := .pointer (some ⟨w.heap.size + 1 + 1 + 1, 0, none⟩)) rfl (by kernel_rfl) (by kernel_rfl) (by kernel_rfl) (by first | exact fun _ _ _ h => h | exact fun _ _ _ h => nomatch h.1) (Or.inl ⟨by rfl, fun w_ hw_ => by go_simp⟩) hch0 ?_
      try simp only [Act.put, List.setIfInBounds_toArray, List.set_cons_zero, List.set_cons_succ, List.getElem_toArray, List.getElem_cons_succ, List.getElem_cons_zero]
      refine wpAnyH_take (i := 3) (v := .pointer (some ⟨w.heap.size + 1 + 1 + 1, 1, none⟩)) rfl (by kernel_rfl) (by kernel_rfl) (by kernel_rfl) (by first | exact fun _ _ _ h => h | exact fun _ _ _ h => nomatch h.1) (Or.inl ⟨by rfl, fun w_ hw_ => by go_simp⟩) hch0 ?_
      refine wpAnyH_take (i := 4) (v := .int .i64 ((b.length : Int) - (s7.1.length : Int))) rfl (by kernel_rfl) (by kernel_rfl) (by kernel_rfl) (by first | exact fun _ _ _ h => h | exact fun _ _ _ h => nomatch h.1) (Or.inl ⟨by rfl, fun w_ hw_ => by have hh := CX.out w_ hw_; go_simp⟩) hch0 ?_
      try simp only [Act.put, List.setIfInBounds_toArray, List.set_cons_zero, List.set_cons_succ, List.getElem_toArray, List.getElem_cons_succ, List.getElem_cons_zero]
      refine wpAnyH_ready (rs := [5]) (by kernel_rfl) (by simp) ?_
      refine AllReadyH.cons rfl (fun K hK => ?_) AllReadyH.nil
      rw [if_pos (by rfl)]
      try simp only [Act.put, List.setIfInBounds_toArray, List.set_cons_zero, List.set_cons_succ, List.getElem_toArray, List.getElem_cons_succ, List.getElem_cons_zero]
      refine wp_store_row (ty := 25) (xs := cellsH HH ⟨.slice A5 D.length c5, .slice none 0 0, .slice none 0 0, .slice A7 C.length c7⟩) rfl rfl (HX20.out.res.drew) rfl rfl (by exact sizeH) rfl ?_
      intro w9 hr9 hc9 hs9
      have hch9 := hc9 _ w20 hch0 (fun _ => rfl)
      refine hK.out _ _ hch9 (fun _ => ?_)
      clear hK K
      try simp only [Act.put, List.setIfInBounds_toArray, List.set_cons_zero, List.set_cons_succ, List.getElem_toArray, List.getElem_cons_succ, List.getElem_cons_zero]
      refine wpAnyH_take (i := 6) (v := .int .i64 ((b.length : Int) - (s7.1.length : Int))) rfl (by kernel_rfl) (by kernel_rfl) (by kernel_rfl) (by first | exact fun _ _ _ h => h | exact fun _ _ _ h => nomatch h.1) (Or.inl ⟨by rfl, fun w_ hw_ => by go_simp⟩) hch9 ?_
      refine wpAnyH_take (i := 7) (v := .int .i64 (0)) rfl (by kernel_rfl) (by kernel_rfl) (by kernel_rfl) (by first | exact fun _ _ _ h => h | exact fun _ _ _ h => nomatch h.1) (Or.inl ⟨by rfl, fun w_ hw_ => by go_simp⟩) hch9 ?_
      try simp only [Act.put, List.setIfInBounds_toArray, List.set_cons_zero, List.set_cons_succ, List.getElem_toArray, List.getElem_cons_succ, List.getElem_cons_zero]
      refine wpAnyH_done (by kernel_rfl) ?_ _
      go_wp2
      refine ret_row3 rfl rfl hr9 Tryd.underlying25 rfl sizeH rfl ?_
      exact ⟨⟨.slice A5 D.length c5, .slice none 0 0, .slice none 0 0, .slice A7 C.length c7⟩, by rw [HQ.out]; rfl, by rw [HQ.out]; exact (HX20.out.two.sl.chg hch9 (fun b hb e => by have h1 := hb.2; omega)).mono (fun b _ h => by have h1 := h.2; omega), HX20.out.chg.andThen hch9 (fun b hb e => by have e : b = w.heap.size := e; omega)⟩
    · have hr : rightH HH = false := by simpa using hr
      have HQ : Hid (outP b R = ({}, 0, 3)) := Lib.hid (by rw [HRES.out, outP_none b _ (by exact HEE.out) hr])
      rw [hr] at HRIGHT
      clear hr
      go_wp2_with (first | ((with_reducible show wpList _ _ _ (⟨some 166, .load 25 _, _, _, _, _⟩ :: _) _ _); refine wlH rfl rfl rfl HZg.out.two.row rfl ?_) | (go_at_call 13; refine (HRIGHT.out _ (Chg.refl none_ _)).mono ?_; rintro e w20 ⟨rfl, hc20⟩; have HX20 := Lib.hid (HZg.out.keep hc20); clear hc20) | ((with_reducible show wpList _ _ _ (⟨_, .load 25 (.tmp 6), _, _, _, _⟩ :: _) _ _); refine wlH rfl rfl rfl HX20.out.zero rfl ?_) | ((with_reducible show wpList _ _ _ (⟨_, .store 25 _ _, _, _, _, _⟩ :: _) _ _); refine wpList_store_Row (xs := cellsH {} nil4) rfl rfl rfl HX20.out.res rfl rfl (by exact sizeH) rfl ?_; intro w99 hr99 hch99 _; have HR99 := Lib.hid hr99; have HC99 := Lib.hid (hch99 none_ w HX20.out.chg (fun h => absurd h (Nat.lt_irrefl _))); clear hr99 hch99))
      refine ret_row3 rfl rfl HR99.out Tryd.underlying25 rfl sizeH rfl ?_
      exact ⟨nil4, by rw [HQ.out]; rfl, by rw [HQ.out]; exact nil4_d _ _, HC99.out⟩
  · have hne : (E != 0) = true := by simp [hb0]
    have HQ : Hid (outP b R = ({}, 0, E)) := Lib.hid (by rw [HRES.out, outP_bad b _ (by show s7.2 ≠ 0; rw [HEE.out]; exact hb0)]; exact congrArg (fun e => (({} : Hd), (0 : Int), e)) HEE.out)
    have CX : Hid (∀ w', Chg (· = w.heap.size) (w9b.setCell ⟨w.heap.size + 1, 8, none⟩ (.int .i64 (s7.1.length : Nat))) w' → w'.cell? ⟨w.heap.size + 1 + 1 + 1, 2, none⟩ = some (.int .i64 E)) := Lib.hid (fun w' hc => by rw [hc.cell 2 HZg.out.two.rd.lt (by omega), HZg.out.bad, HEE.out])
    clear hE hb0
    go_wp2
    refine wp_region_held_drew (S := fun w' => Chg (· = w.heap.size) (w9b.setCell ⟨w.heap.size + 1, 8, none⟩ (.int .i64 (s7.1.length : Nat))) w') (by kernel_rfl) ((Chg.refl _ _).drew) (fun hch0 => ?_)
    refine wpAnyH_take (i := 0) (v := .agg (cellsH {} nil4).toArray) rfl (by kernel_rfl) (by kernel_rfl) (by kernel_rfl) (by first | exact fun _ _ _ h => h | exact fun _ _ _ h => nomatch h.1) (yieldsIf_load_mid (by rfl) 25 _ rfl (w.heap.size + 1 + 1) 0 rfl (cellsH {} nil4) _ (fun w' hw' => (HZg.out.zero.chg hw' (by omega)).range) Tryd.underlying25 rfl (by exact sizeH)) hch0 ?_
    refine wpAnyH_take (i := 1) (v := .pointer (some ⟨w.heap.size + 1 + 1 + 1, 0, none⟩)) rfl (by kernel_rfl) (by kernel_rfl) (by kernel_rfl) (by first | exact fun _ _ _ h => h | exact fun _ _ _ h => nomatch h.1) (Or.inl ⟨by rfl, fun w_ hw_ => by go_simp⟩) hch0 ?_
    refine wpAnyH_take (i := 2) (v := .pointer (some ⟨w.heap.size + 1 + 1 + 1, 0, none⟩)) rfl (by kernel_rfl) (by kernel_rfl) (by kernel_rfl) (by first | exact fun _ _ _ h => h | exact fun _ _ _ h => nomatch h.1) (Or.inl ⟨by rfl, fun w_ hw_ => by go_simp⟩) hch0 ?_
    try simp only [Act.put, List.setIfInBounds_toArray, List.set_cons_zero, List.set_cons_succ, List.getElem_toArray, List.getElem_cons_succ, List.getElem_cons_zero]
    refine wpAnyH_take (i := 3) (v := .pointer (some ⟨w.heap.size + 1 + 1 + 1, 2, none⟩)) rfl (by kernel_rfl) (by kernel_rfl) (by kernel_rfl) (by first | exact fun _ _ _ h => h | exact fun _ _ _ h => nomatch h.1) (Or.inl ⟨by rfl, fun w_ hw_ => by go_simp⟩) hch0 ?_
    refine wpAnyH_take (i := 4) (v := .int .i64 (E)) rfl (by kernel_rfl) (by kernel_rfl) (by kernel_rfl) (by first | exact fun _ _ _ h => h | exact fun _ _ _ h => nomatch h.1) (Or.inl ⟨by rfl, fun w_ hw_ => by have hh := CX.out w_ hw_; go_simp⟩) hch0 ?_
    try simp only [Act.put, List.setIfInBounds_toArray, List.set_cons_zero, List.set_cons_succ, List.getElem_toArray, List.getElem_cons_succ, List.getElem_cons_zero]
    refine wpAnyH_ready (rs := [5]) (by kernel_rfl) (by simp) ?_
    refine AllReadyH.cons rfl (fun K hK => ?_) AllReadyH.nil
    rw [if_pos (by rfl)]
    try simp only [Act.put, List.setIfInBounds_toArray, List.set_cons_zero, List.set_cons_succ, List.getElem_toArray, List.getElem_cons_succ, List.getElem_cons_zero]
    refine wp_store_row (ty := 25) (xs := cellsH {} nil4) rfl rfl (HZg.out.res.drew) rfl rfl (by exact sizeH) rfl ?_
    intro w9 hr9 hc9 hs9
    have hch9 := hc9 _ (w9b.setCell ⟨w.heap.size + 1, 8, none⟩ (.int .i64 (s7.1.length : Nat))) hch0 (fun _ => rfl)
    refine hK.out _ _ hch9 (fun _ => ?_)
    clear hK K
    try simp only [Act.put, List.setIfInBounds_toArray, List.set_cons_zero, List.set_cons_succ, List.getElem_toArray, List.getElem_cons_succ, List.getElem_cons_zero]
    refine wpAnyH_take (i := 6) (v := .int .i64 (0)) rfl (by kernel_rfl) (by kernel_rfl) (by kernel_rfl) (by first | exact fun _ _ _ h => h | exact fun _ _ _ h => nomatch h.1) (Or.inl ⟨by rfl, fun w_ hw_ => by go_simp⟩) hch9 ?_
    refine wpAnyH_take (i := 7) (v := .int .i64 (E)) rfl (by kernel_rfl) (by kernel_rfl) (by kernel_rfl) (by first | exact fun _ _ _ h => h | exact fun _ _ _ h => nomatch h.1) (Or.inl ⟨by rfl, fun w_ hw_ => by go_simp⟩) hch9 ?_
    try simp only [Act.put, List.setIfInBounds_toArray, List.set_cons_zero, List.set_cons_succ, List.getElem_toArray, List.getElem_cons_succ, List.getElem_cons_zero]
    refine wpAnyH_done (by kernel_rfl) ?_ _
    go_wp2
    refine ret_row3 rfl rfl hr9 Tryd.underlying25 rfl sizeH rfl ?_
    exact ⟨nil4, by rw [HQ.out]; rfl, by rw [HQ.out]; exact nil4_d _ _, HZg.out.chg.andThen hch9 (fun b hb e => by have e : b = w.heap.size := e; omega)⟩
end Go.Proofs.YtfecmloaopbogaaDoor
