/- Layer 4 (header): Parse, by the document's answer: a long header. -/
import Derived.Test.YtfecmloaopbogaaDoorV4RShort
namespace Go.Proofs.YtfecmloaopbogaaDoor
open Go.RowKit

theorem longR_bad (b : List Nat) (h3 h4 : Hd) (M k : Nat) (sM : St) (h : sM.2 ≠ 0) : outP b (if M < k then (h3, failSt 3 sM) else if sM.1.length < M then (h3, failSt 2 sM) else (h4, (rdBytes k sM).2)) = ({}, 0, sM.2) := by
  have hf : ∀ e, failSt e sM = sM := fun e => by unfold failSt; rw [if_pos (.inl h)]
  have hr : (rdBytes k sM).2.2 = sM.2 := by unfold rdBytes; rw [if_pos h]
  rw [hf, hf]
  split
  · exact outP_bad b _ h
  · split
    · exact outP_bad b _ h
    · rw [outP_bad b _ (by show (rdBytes k sM).2.2 ≠ 0; rw [hr]; exact h)]
      exact congrArg (fun e => (({} : Hd), (0 : Int), e)) hr
theorem rdBytes_keep (k : Nat) (s : St) (h : s.2 ≠ 0) : (rdBytes k s).2.2 = s.2 := by unfold rdBytes; rw [if_pos h]
theorem take_snoc (V : List Nat) (j : Nat) (h : j < V.length) : V.take (j + 1) = V.take j ++ [V.getD j 0] := by
  rw [List.take_succ_eq_append_getElem h, List.getD_eq_getElem?_getD, List.getElem?_eq_getElem h]; rfl
theorem foldB_take_lt (V : List Nat) (hV : ∀ x ∈ V, x < 256) (hl : V.length ≤ 4) (j : Nat) (hj : j < V.length) : foldB 0 (V.take j) < 16777216 := by
  have := foldB_lt (V.take j) (fun x hx => hV x (List.mem_of_mem_take hx)) 0 1 (by decide)
  rw [List.length_take, Nat.min_eq_left (by omega), Nat.one_mul] at this
  exact Nat.lt_of_lt_of_le this (by have h3 : j ≤ 3 := by omega
                                    exact Nat.le_trans (Nat.pow_le_pow_right (by decide) h3) (by decide))

set_option maxRecDepth 100000 in
set_option maxHeartbeats 12000000 in
theorem rparse_long0 (w : World) (A : Option Addr) (c : Nat) (b : List Nat) (hv : View w (fun _ => True) A b.length (u8s b)) (hm : b.length ≤ 1000000) (hcap : b.length ≤ c) (hb : ∀ x ∈ b, x < 256) (f : Nat) (s : St) (ef : rdByte (b, 0) = (f, s)) (hne : 0 < b.length) (h64 : f / 64 % 2 = 1) (hl : 128 ≤ f) (hq : f / 4 % 4 = 0) (hq2 : f / 16 % 4 = 0) (R : Hd × St) (hR : R = longM (partsM f) (f % 4 + 1) s) :
    Calls Tryd.prog 20 #[.slice A b.length c] w (ParsePost w (outP b R).1 (outP b R).2.1 (outP b R).2.2) := by
  have EF := Lib.hid ef
  have hn0 : ((b.length : Nat) : Int) ≠ 0 := by omega
  have HVV := Lib.hid hv
  have HBB := Lib.hid hb
  have HCAP := Lib.hid hcap
  have HM := Lib.hid hm
  obtain ⟨k, hk⟩ : ∃ k, f % 4 + 1 = k := ⟨_, rfl⟩
  have HKE := Lib.hid hk
  clear hv hb ef hcap hne
  go_enter Tryd.func20, Tryd.ntmps20
  go_wp2_with fail
  obtain ⟨x1, rr1, rz1, cc1⟩ := rmade w A c b HVV.out HM.out HCAP.out HBB.out _ rfl
  have HT1 := Lib.hid x1
  have HR1 := Lib.hid rr1
  have HZ1 := Lib.hid rz1
  have HC1 := Lib.hid cc1
  clear x1 rr1 rz1 cc1 hm
  refine (byte_rtwo HT1.out).mono ?_
  have hf256 := (rdByte_mem (b, 0) HT1.out.rd.mem).1
  rw [EF.out] at hf256 ⊢
  try simp only at hf256
  rintro e w2 ⟨rfl, x2, hc2⟩
  try simp only at x2
  have H2 : Hid (RAll w w2 b s {} nil4) := Lib.hid ⟨x2, HR1.out.chg hc2 (fun e => by omega), HZ1.out.chg hc2 (fun e => by omega), chg_up HC1.out hc2 (by omega) (by omega)⟩
  clear x2 hc2 HT1 HR1 HZ1 HC1
  have hki : (f : Int) % 4 + 1 = (k : Int) := by omega
  have hk0 : (0 : Int) < (k : Int) := by omega
  have hk5 : (k : Int) < 5 := by omega
  clear hk
  have hi1 : ((f : Int) / 64 % 2) = 1 := by omega
  have hli : ((128 : Int) ≤ (f : Int)) := by omega
  have hdd : decide ((128 : Int) ≤ (f : Int)) = true := decide_eq_true hli
  have hi4 : ((f : Int) / 4 % 4) = 0 := by omega
  have hi16 : ((f : Int) / 16 % 4) = 0 := by omega
  have HPM : Hid (partsM f = { long := true, kind := 0 }) := Lib.hid (by unfold partsM; rw [if_pos (by omega), hq2]; rfl)
  obtain ⟨V, hV⟩ : ∃ x, (rdBytes 4 s).1 = x := ⟨_, rfl⟩
  obtain ⟨s4, hs4⟩ : ∃ x, (rdBytes 4 s).2 = x := ⟨_, rfl⟩
  obtain ⟨n1, hn1⟩ : ∃ x, (rdByte s4).1 = x := ⟨_, rfl⟩
  obtain ⟨s5, hs5⟩ : ∃ x, (rdByte s4).2 = x := ⟨_, rfl⟩
  obtain ⟨D, hD⟩ : ∃ x, (rdBytes n1 s5).1 = x := ⟨_, rfl⟩
  obtain ⟨s6, hs6⟩ : ∃ x, (rdBytes n1 s5).2 = x := ⟨_, rfl⟩
  obtain ⟨n2, hn2⟩ : ∃ x, (rdByte s6).1 = x := ⟨_, rfl⟩
  obtain ⟨s7, hs7⟩ : ∃ x, (rdByte s6).2 = x := ⟨_, rfl⟩
  obtain ⟨SR, hSR⟩ : ∃ x, (rdBytes n2 s7).1 = x := ⟨_, rfl⟩
  obtain ⟨s8, hs8⟩ : ∃ x, (rdBytes n2 s7).2 = x := ⟨_, rfl⟩
  obtain ⟨tl, htl⟩ : ∃ x, (rdInt s8).1 = x := ⟨_, rfl⟩
  obtain ⟨s9, hs9⟩ : ∃ x, (rdInt s8).2 = x := ⟨_, rfl⟩
  obtain ⟨TK, hTK⟩ : ∃ x, (rdBytes tl s9).1 = x := ⟨_, rfl⟩
  obtain ⟨s10, hs10⟩ : ∃ x, (rdBytes tl s9).2 = x := ⟨_, rfl⟩
  obtain ⟨M, hM⟩ : ∃ x, (rdInt s10).1 = x := ⟨_, rfl⟩
  obtain ⟨sM, hsM⟩ : ∃ x, (rdInt s10).2 = x := ⟨_, rfl⟩
  have HRR : Hid (R = if M < k then (({ long := true, kind := 0, version := foldB 0 V, dst := D, src := SR, token := TK } : Hd), failSt 3 sM) else if sM.1.length < M then ({ long := true, kind := 0, version := foldB 0 V, dst := D, src := SR, token := TK }, failSt 2 sM) else ({ long := true, kind := 0, version := foldB 0 V, dst := D, src := SR, token := TK, cut := (rdBytes k sM).1, rest := ((M - k : Nat) : Int) }, (rdBytes k sM).2)) := Lib.hid (by
    rw [hR, HPM.out, HKE.out]
    subst hsM
    subst hM
    subst hs10
    subst hTK
    subst hs9
    subst htl
    subst hs8
    subst hSR
    subst hs7
    subst hn2
    subst hs6
    subst hD
    subst hs5
    subst hn1
    subst hs4
    subst hV
    rfl)
  have EV := Lib.hid hV
  have Es4 := Lib.hid hs4
  have En1 := Lib.hid hn1
  have Es5 := Lib.hid hs5
  have ED := Lib.hid hD
  have Es6 := Lib.hid hs6
  have En2 := Lib.hid hn2
  have Es7 := Lib.hid hs7
  have ESR := Lib.hid hSR
  have Es8 := Lib.hid hs8
  have Etl := Lib.hid htl
  have Es9 := Lib.hid hs9
  have ETK := Lib.hid hTK
  have Es10 := Lib.hid hs10
  have EM := Lib.hid hM
  have EsM := Lib.hid hsM
  clear hR h64 hl hq hq2 hV hs4 hn1 hs5 hD hs6 hn2 hs7 hSR hs8 htl hs9 hTK hs10 hM hsM
  have ck0 := H2.out.hdcell 0
  rw [cH_0] at ck0
  have cf0 := H2.out.hdfree 0
  have ck2 := H2.out.hdcell 2
  rw [cH_2] at ck2
  have cf2 := H2.out.hdfree 2
  have H4 := Lib.hid ((H2.out.put 0 _ (H2.out.two.set0 true)).put 2 _ ((H2.out.two.set0 true).set2 0))
  have hVm := rdBytes_mem 4 s H2.out.two.rd.mem
  have hVl := rdBytes_len 4 s
  rw [EV.out] at hVm hVl
  have HVB := Lib.hid hVm.1
  have HVLn := Lib.hid hVl
  clear hVm hVl
  go_wp2_with fail
  refine (H4.out.bytes 4).mono ?_
  rw [EV.out, Es4.out]
  rintro e w5 ⟨A4, c4, rfl, hb4, h5⟩
  have H5 := Lib.hid h5
  have HB4 := Lib.hid hb4
  clear h5 hb4 H2 H4 ck0 cf0 ck2 cf2
  have hvl4 := HVLn.out
  have hvli : (V.length : Int) < 1000 := by omega
  go_wp2_with fail
  go_loopw [11] (fun i wr => ∃ j : Nat, j ≤ V.length ∧ i = .int .i64 j ∧ RAll w wr b s4 { long := true, kind := 0, version := foldB 0 (V.take j) } nil4 ∧ Chg (· = w.heap.size + 1) w5 wr) (fun i _ => V.length - (intOf i).toNat)
  case atStart => exact ⟨0, Nat.zero_le _, rfl, H5.out, Chg.refl _ _⟩
  case round =>
    obtain ⟨j, hj, rfl, hall, hch⟩ := hrel
    have HJ := Lib.hid hall
    have HCJ := Lib.hid hch
    by_cases hlt : j < V.length
    · obtain ⟨A4', c4', e4', _, hv4⟩ := HB4.out
      injection e4' with e1 _ e3
      subst e1
      subst e3
      obtain ⟨bt, ot, hA, hbt, _, ct⟩ := (hv4.chg hch (fun bb h e => by have h1 := h.2; omega)).at_ hlt
      subst hA
      have g0 : (0 : Int) ≤ (j : Int) := by omega
      have g2 : (j : Int) < (V.length : Int) := by omega
      have hfl := foldB_take_lt V HVB.out HVLn.out j hlt
      have hxb : V.getD j 0 < 256 := by rw [List.getD_eq_getElem?_getD, List.getElem?_eq_getElem hlt]; exact HVB.out _ (List.getElem_mem hlt)
      have HSN : Hid (foldB 0 (V.take (j + 1)) = foldB 0 (V.take j) * 256 + V.getD j 0) := Lib.hid (by rw [take_snoc V j hlt, foldB_snoc])
      have ck3 := HJ.out.hdcell 3
      rw [cH_3] at ck3
      have cf3 := HJ.out.hdfree 3
      try simp only at ck3
      have HP := Lib.hid ((HJ.out.keep ((Chg.refl none_ wr).drew)).put 3 _ ((HJ.out.two.chg ((Chg.refl none_ wr).drew)).set3 (foldB 0 (V.take (j + 1)))))
      rw [HSN.out] at HP
      generalize foldB 0 (V.take j) = x at ck3 hfl HP HSN
      generalize V.getD j 0 = y at ct hxb HP HSN
      have HXY : Hid (((x * 256 + y : Nat) : Int) = (x : Int) * 256 + (y : Int)) := Lib.hid (by omega)
      clear hall hch hv4
      go_wp2
      go_region
      go_wp2
      go_roundw
      case rel => exact ⟨j + 1, by omega, by go_num, by rw [HSN.out]; have q := HP.out; rw [HXY.out] at q; exact q, HCJ.out.drew.setCell (p := ⟨w.heap.size + 1, 3, none⟩) (fun _ => rfl) _⟩
      case measure => simp [intOf] <;> omega
    · have hjl : j = V.length := by omega
      subst hjl
      rw [List.take_length] at HJ
      clear hall hch hj hlt
      obtain ⟨wL, hwL⟩ : ∃ x, x = wr := ⟨_, rfl⟩
      subst hwL
      go_wp2_with fail
      refine HJ.out.byte.mono ?_
      have hq_ := (rdByte_mem _ HJ.out.two.rd.mem).1
      rw [En1.out] at hq_
      rw [En1.out, Es5.out]
      rintro e w6 ⟨rfl, h_⟩
      have H6 := Lib.hid h_
      have hb_n1 : n1 < 256 := hq_
      clear h_ hq_
      go_wp2_with fail
      refine (H6.out.bytes n1).mono ?_
      rw [ED.out, Es6.out]
      rintro e w7 ⟨A5, c5, rfl, hb_, h_⟩
      have H7q := Lib.hid h_
      have H7 := Lib.hid (H7q.out.put 4 _ (H7q.out.two.set4 hb_))
      clear h_ hb_
      have ck4_D := H7q.out.hdcell 4
      rw [cH_4] at ck4_D
      have cf4_D := H7q.out.hdfree 4
      go_wp2_with fail
      clear H7q ck4_D cf4_D
      refine H7.out.byte.mono ?_
      have hq_ := (rdByte_mem _ H7.out.two.rd.mem).1
      rw [En2.out] at hq_
      rw [En2.out, Es7.out]
      rintro e w8 ⟨rfl, h_⟩
      have H8 := Lib.hid h_
      have hb_n2 : n2 < 256 := hq_
      clear h_ hq_
      go_wp2_with fail
      refine (H8.out.bytes n2).mono ?_
      rw [ESR.out, Es8.out]
      rintro e w9 ⟨A6, c6, rfl, hb_, h_⟩
      have H9q := Lib.hid h_
      have H9 := Lib.hid (H9q.out.put 5 _ (H9q.out.two.set5 hb_))
      clear h_ hb_
      have ck5_SR := H9q.out.hdcell 5
      rw [cH_5] at ck5_SR
      have cf5_SR := H9q.out.hdfree 5
      have ck2_SR := H9q.out.hdcell 2
      rw [cH_2] at ck2_SR
      have cf2_SR := H9q.out.hdfree 2
      go_wp2_with fail
      clear H9q ck5_SR cf5_SR ck2_SR cf2_SR
      refine H9.out.int.mono ?_
      have hq_ := rdInt_lt _ H9.out.two.rd.mem
      rw [Etl.out] at hq_
      rw [Etl.out, Es9.out]
      rintro e w10 ⟨rfl, h_⟩
      have H10 := Lib.hid h_
      have hb_tl : tl < 4611686018427387904 := hq_
      clear h_ hq_
      go_wp2_with fail
      refine (H10.out.bytes tl).mono ?_
      rw [ETK.out, Es10.out]
      rintro e w11 ⟨A7, c7, rfl, hb_, h_⟩
      have H11q := Lib.hid h_
      have H11 := Lib.hid (H11q.out.put 6 _ (H11q.out.two.set6 hb_))
      clear h_ hb_
      have ck6_TK := H11q.out.hdcell 6
      rw [cH_6] at ck6_TK
      have cf6_TK := H11q.out.hdfree 6
      go_wp2_with fail
      clear H11q ck6_TK cf6_TK
      refine H11.out.int.mono ?_
      have hq_ := rdInt_lt _ H11.out.two.rd.mem
      rw [EM.out] at hq_
      rw [EM.out, EsM.out]
      rintro e wM ⟨rfl, h_⟩
      have HM := Lib.hid h_
      have hb_M : M < 4611686018427387904 := hq_
      clear h_ hq_
      have hbdM := HM.out.bad
      have hlenM := HM.out.two.rd.len
      obtain ⟨C, hC⟩ : ∃ x, (rdBytes k sM).1 = x := ⟨_, rfl⟩
      obtain ⟨sC, hsC⟩ : ∃ x, (rdBytes k sM).2 = x := ⟨_, rfl⟩
      have EC := Lib.hid hC
      have EsC := Lib.hid hsC
      clear hC hsC
      by_cases hz : sM.2 = 0
      · have HZE := Lib.hid hz
        rw [hz] at hbdM
        clear hz
        by_cases hMk : M < k
        · have hMki : (M : Int) < (k : Int) := by omega
          have HQ : Hid (outP b R = ({}, 0, 3)) := Lib.hid (by
            rw [HRR.out, if_pos hMk]
            have e3 : failSt 3 sM = ([], 3) := by unfold failSt; rw [if_neg (by rw [HZE.out]; decide)]
            rw [e3]
            exact outP_bad b _ (by show (3 : Int) ≠ 0; decide))
          clear hMk
          go_wp2_with (first | ((with_reducible show wpList _ _ _ (⟨_, .load 25 (.tmp 6), _, _, _, _⟩ :: _) _ _); refine wlH rfl rfl rfl HM.out.zero rfl ?_) | ((with_reducible show wpList _ _ _ (⟨_, .store 25 _ _, _, _, _, _⟩ :: _) _ _); refine wpList_store_Row (xs := cellsH {} nil4) rfl rfl rfl HM.out.res rfl rfl (by exact sizeH) rfl ?_; intro w99 hr99 hch99 _; have HR99 := Lib.hid hr99; have HC99 := Lib.hid (hch99 none_ w HM.out.chg (fun h => absurd h (Nat.lt_irrefl _))); clear hr99 hch99))
          refine ret_row3 rfl rfl HR99.out Tryd.underlying25 rfl sizeH rfl ?_
          exact ⟨nil4, by rw [HQ.out]; rfl, by rw [HQ.out]; exact nil4_d _ _, HC99.out⟩
        · have hMki : ¬ (M : Int) < (k : Int) := by omega
          by_cases hlm : sM.1.length < M
          · have hlmi : (sM.1.length : Int) < (M : Int) := by omega
            have HQ : Hid (outP b R = ({}, 0, 2)) := Lib.hid (by
              rw [HRR.out, if_neg hMk, if_pos hlm]
              have e3 : failSt 2 sM = ([], 2) := by unfold failSt; rw [if_neg (by rw [HZE.out]; decide)]
              rw [e3]
              exact outP_bad b _ (by show (2 : Int) ≠ 0; decide))
            clear hMk hlm
            go_wp2_with (first | (go_at_call 43; refine HM.out.left.mono ?_; rintro e w30 ⟨rfl, h30⟩; have H30 := Lib.hid h30; clear h30) | ((with_reducible show wpList _ _ _ (⟨_, .load 25 (.tmp 6), _, _, _, _⟩ :: _) _ _); refine wlH rfl rfl rfl H30.out.zero rfl ?_) | ((with_reducible show wpList _ _ _ (⟨_, .store 25 _ _, _, _, _, _⟩ :: _) _ _); refine wpList_store_Row (xs := cellsH {} nil4) rfl rfl rfl H30.out.res rfl rfl (by exact sizeH) rfl ?_; intro w99 hr99 hch99 _; have HR99 := Lib.hid hr99; have HC99 := Lib.hid (hch99 none_ w H30.out.chg (fun h => absurd h (Nat.lt_irrefl _))); clear hr99 hch99))
            refine ret_row3 rfl rfl HR99.out Tryd.underlying25 rfl sizeH rfl ?_
            exact ⟨nil4, by rw [HQ.out]; rfl, by rw [HQ.out]; exact nil4_d _ _, HC99.out⟩
          · have hlmi : ¬ (sM.1.length : Int) < (M : Int) := by omega
            have HRES0 : Hid (R = ({ long := true, kind := 0, version := foldB 0 V, dst := D, src := SR, token := TK, cut := C, rest := ((M - k : Nat) : Int) }, sC)) := Lib.hid (by rw [HRR.out, if_neg hMk, if_neg hlm, EC.out, EsC.out])
            have HMK2 : Hid (((M - k : Nat) : Int) = (M : Int) - (k : Int)) := Lib.hid (by omega)
            clear hMk hlm
            go_wp2_with (go_at_call 43; refine HM.out.left.mono ?_; rintro e w30 ⟨rfl, h30⟩; have H30 := Lib.hid h30; clear h30)
            refine (H30.out.bytes k).mono ?_
            rw [EC.out, EsC.out]
            rintro e w40 ⟨A8, c8, rfl, hb_, h_⟩
            have H40q := Lib.hid h_
            have H40 := Lib.hid (H40q.out.put 7 _ (H40q.out.two.set7 hb_))
            have ck7 := H40q.out.hdcell 7
            rw [cH_7] at ck7
            have cf7 := H40q.out.hdfree 7
            have ck8 := H40q.out.hdcell 8
            rw [cH_8] at ck8
            have cf8 := H40q.out.hdfree 8
            clear h_ hb_
            have HZf := Lib.hid (H40.out.put 8 _ (H40.out.two.set8 ((M : Int) - (k : Int))))
            obtain ⟨HH, hHH⟩ : ∃ HH : Hd, HH = { long := true, kind := 0, version := foldB 0 V, dst := D, src := SR, token := TK, cut := C, rest := (M : Int) - (k : Int) } := ⟨_, rfl⟩
            have HZg : Hid (RAll w ((w40.setCell ⟨w.heap.size + 1, 7, none⟩ (.slice A8 C.length c8)).setCell ⟨w.heap.size + 1, 8, none⟩ (.int .i64 ((M : Int) - (k : Int)))) b sC HH ⟨.slice A5 D.length c5, .slice A6 SR.length c6, .slice A7 TK.length c7, .slice A8 C.length c8⟩) := Lib.hid (by rw [hHH]; exact HZf.out)
            have HRES : Hid (outP b R = outP b (HH, sC)) := Lib.hid (by rw [HRES0.out, hHH, HMK2.out])
            clear hHH HZf
            obtain ⟨E, hE⟩ : ∃ E, sC.2 = E := ⟨_, rfl⟩
            have hbd := H40q.out.bad
            rw [hE] at hbd
            have HEE := Lib.hid hE
            have HLS := Lib.hid HZg.out.two.sl
            by_cases hb0 : E = 0
            · subst hb0
              have hat := H40q.out.at_ hE
              have HRIGHT := Lib.hid (fun w' (hc : Chg none_ ((w40.setCell ⟨w.heap.size + 1, 7, none⟩ (.slice A8 C.length c8)).setCell ⟨w.heap.size + 1, 8, none⟩ (.int .i64 ((M : Int) - (k : Int)))) w') => rright_sh HH ⟨.slice A5 D.length c5, .slice A6 SR.length c6, .slice A7 TK.length c7, .slice A8 C.length c8⟩ w' HLS.out.shape (by have h1 := HLS.out.s; have h2 := HLS.out.t; obtain ⟨_, _, _, h1, _⟩ := h1; obtain ⟨_, _, _, h2, _⟩ := h2; omega))
              clear hE
              by_cases hr : rightH HH = true
              · have HQ : Hid (outP b R = (HH, (b.length : Int) - (sC.1.length : Int), 0)) := Lib.hid (by rw [HRES.out, outP_ok b _ (by exact HEE.out) hr])
                rw [hr] at HRIGHT
                clear hr
                go_wp2_with (first | ((with_reducible show wpList _ _ _ (⟨some 166, .load 25 _, _, _, _, _⟩ :: _) _ _); refine wlH rfl rfl rfl HZg.out.two.row rfl ?_) | (go_at_call 13; refine (HRIGHT.out _ (Chg.refl none_ _)).mono ?_; rintro e w20 ⟨rfl, hc20⟩; have HX20 := Lib.hid (HZg.out.keep hc20); clear hc20))
                have CX : Hid (∀ w', Chg (· = w.heap.size) w20 w' → w'.cell? ⟨w.heap.size + 1 + 1 + 1, 1, none⟩ = some (.int .i64 ((b.length : Int) - (sC.1.length : Int)))) := Lib.hid (fun w' hc => (hc.cell 1 HX20.out.two.rd.lt (by omega)).trans (HX20.out.at_ HEE.out))
                refine wp_region_held_drew (S := fun w' => Chg (· = w.heap.size) w20 w') (by kernel_rfl) ((Chg.refl _ _).drew) (fun hch0 => ?_)
                refine wpAnyH_take (i := 0) (v := .agg (cellsH HH ⟨.slice A5 D.length c5, .slice A6 SR.length c6, .slice A7 TK.length c7, .slice A8 C.length c8⟩).toArray) rfl (by kernel_rfl) (by kernel_rfl) (by kernel_rfl) (by first | exact fun _ _ _ h => h | exact fun _ _ _ h => nomatch h.1) (yieldsIf_load_mid (by rfl) 25 _ rfl (w.heap.size + 1) 0 rfl (cellsH HH ⟨.slice A5 D.length c5, .slice A6 SR.length c6, .slice A7 TK.length c7, .slice A8 C.length c8⟩) _ (fun w' hw' => (HX20.out.two.row.chg hw' (by omega)).range) Tryd.underlying25 rfl (by exact sizeH)) hch0 ?_
                refine wpAnyH_take (i := 1) (v := .pointer (some ⟨w.heap.size + 1 + 1 + 1, 0, none⟩)) rfl (by kernel_rfl) (by kernel_rfl) (by kernel_rfl) (by first | exact fun _ _ _ h => h | exact fun _ _ _ h => nomatch h.1) (Or.inl ⟨by rfl, fun w_ hw_ => by go_simp⟩) hch0 ?_
                refine wpAnyH_take (i := 2) (v := .pointer (some ⟨w.heap.size + 1 + 1 + 1, 0, none⟩)) rfl (by kernel_rfl) (by kernel_rfl) (by kernel_rfl) (by first | exact fun _ _ _ h => h | exact fun _ _ _ h => nomatch h.1) (Or.inl ⟨by rfl, fun w_ hw_ => by go_simp⟩) hch0 ?_
                try simp only [Act.put, List.setIfInBounds_toArray, List.set_cons_zero, List.set_cons_succ, List.getElem_toArray, List.getElem_cons_succ, List.getElem_cons_zero]
                refine wpAnyH_take (i := 3) (v := .pointer (some ⟨w.heap.size + 1 + 1 + 1, 1, none⟩)) rfl (by kernel_rfl) (by kernel_rfl) (by kernel_rfl) (by first | exact fun _ _ _ h => h | exact fun _ _ _ h => nomatch h.1) (Or.inl ⟨by rfl, fun w_ hw_ => by go_simp⟩) hch0 ?_
                refine wpAnyH_take (i := 4) (v := .int .i64 ((b.length : Int) - (sC.1.length : Int))) rfl (by kernel_rfl) (by kernel_rfl) (by kernel_rfl) (by first | exact fun _ _ _ h => h | exact fun _ _ _ h => nomatch h.1) (Or.inl ⟨by rfl, fun w_ hw_ => by have hh := CX.out w_ hw_; go_simp⟩) hch0 ?_
                try simp only [Act.put, List.setIfInBounds_toArray, List.set_cons_zero, List.set_cons_succ, List.getElem_toArray, List.getElem_cons_succ, List.getElem_cons_zero]
                refine wpAnyH_ready (rs := [5]) (by kernel_rfl) (by simp) ?_
                refine AllReadyH.cons rfl (fun K hK => ?_) AllReadyH.nil
                rw [if_pos (by rfl)]
                try simp only [Act.put, List.setIfInBounds_toArray, List.set_cons_zero, List.set_cons_succ, List.getElem_toArray, List.getElem_cons_succ, List.getElem_cons_zero]
                refine wp_store_row (ty := 25) (xs := cellsH HH ⟨.slice A5 D.length c5, .slice A6 SR.length c6, .slice A7 TK.length c7, .slice A8 C.length c8⟩) rfl rfl (HX20.out.res.drew) rfl rfl (by exact sizeH) rfl ?_
                intro w9 hr9 hc9 hs9
                have hch9 := hc9 _ w20 hch0 (fun _ => rfl)
                refine hK.out _ _ hch9 (fun _ => ?_)
                clear hK K
                try simp only [Act.put, List.setIfInBounds_toArray, List.set_cons_zero, List.set_cons_succ, List.getElem_toArray, List.getElem_cons_succ, List.getElem_cons_zero]
                refine wpAnyH_take (i := 6) (v := .int .i64 ((b.length : Int) - (sC.1.length : Int))) rfl (by kernel_rfl) (by kernel_rfl) (by kernel_rfl) (by first | exact fun _ _ _ h => h | exact fun _ _ _ h => nomatch h.1) (Or.inl ⟨by rfl, fun w_ hw_ => by go_simp⟩) hch9 ?_
                refine wpAnyH_take (i := 7) (v := .int .i64 (0)) rfl (by kernel_rfl) (by kernel_rfl) (by kernel_rfl) (by first | exact fun _ _ _ h => h | exact fun _ _ _ h => nomatch h.1) (Or.inl ⟨by rfl, fun w_ hw_ => by go_simp⟩) hch9 ?_
                try simp only [Act.put, List.setIfInBounds_toArray, List.set_cons_zero, List.set_cons_succ, List.getElem_toArray, List.getElem_cons_succ, List.getElem_cons_zero]
                refine wpAnyH_done (by kernel_rfl) ?_ _
                go_wp2
                refine ret_row3 rfl rfl hr9 Tryd.underlying25 rfl sizeH rfl ?_
                exact ⟨⟨.slice A5 D.length c5, .slice A6 SR.length c6, .slice A7 TK.length c7, .slice A8 C.length c8⟩, by rw [HQ.out]; rfl, by rw [HQ.out]; exact (HX20.out.two.sl.chg hch9 (fun b hb e => by have h1 := hb.2; omega)).mono (fun b _ h => by have h1 := h.2; omega), HX20.out.chg.andThen hch9 (fun b hb e => by have e : b = w.heap.size := e; omega)⟩
              · have hr : rightH HH = false := by simpa using hr
                have HQ : Hid (outP b R = ({}, 0, 3)) := Lib.hid (by rw [HRES.out, outP_none b _ (by exact HEE.out) hr])
                rw [hr] at HRIGHT
                clear hr
                go_wp2_with (first | ((with_reducible show wpList _ _ _ (⟨some 166, .load 25 _, _, _, _, _⟩ :: _) _ _); refine wlH rfl rfl rfl HZg.out.two.row rfl ?_) | (go_at_call 13; refine (HRIGHT.out _ (Chg.refl none_ _)).mono ?_; rintro e w20 ⟨rfl, hc20⟩; have HX20 := Lib.hid (HZg.out.keep hc20); clear hc20) | ((with_reducible show wpList _ _ _ (⟨_, .load 25 (.tmp 6), _, _, _, _⟩ :: _) _ _); refine wlH rfl rfl rfl HX20.out.zero rfl ?_) | ((with_reducible show wpList _ _ _ (⟨_, .store 25 _ _, _, _, _, _⟩ :: _) _ _); refine wpList_store_Row (xs := cellsH {} nil4) rfl rfl rfl HX20.out.res rfl rfl (by exact sizeH) rfl ?_; intro w99 hr99 hch99 _; have HR99 := Lib.hid hr99; have HC99 := Lib.hid (hch99 none_ w HX20.out.chg (fun h => absurd h (Nat.lt_irrefl _))); clear hr99 hch99))
                refine ret_row3 rfl rfl HR99.out Tryd.underlying25 rfl sizeH rfl ?_
                exact ⟨nil4, by rw [HQ.out]; rfl, by rw [HQ.out]; exact nil4_d _ _, HC99.out⟩
            · have hne : (E != 0) = true := by simp [hb0]
              have HQ : Hid (outP b R = ({}, 0, E)) := Lib.hid (by rw [HRES.out, outP_bad b _ (by show sC.2 ≠ 0; rw [HEE.out]; exact hb0)]; exact congrArg (fun e => (({} : Hd), (0 : Int), e)) HEE.out)
              have CX : Hid (∀ w', Chg (· = w.heap.size) ((w40.setCell ⟨w.heap.size + 1, 7, none⟩ (.slice A8 C.length c8)).setCell ⟨w.heap.size + 1, 8, none⟩ (.int .i64 ((M : Int) - (k : Int)))) w' → w'.cell? ⟨w.heap.size + 1 + 1 + 1, 2, none⟩ = some (.int .i64 E)) := Lib.hid (fun w' hc => by rw [hc.cell 2 HZg.out.two.rd.lt (by omega), HZg.out.bad, HEE.out])
              clear hE hb0
              go_wp2
              refine wp_region_held_drew (S := fun w' => Chg (· = w.heap.size) ((w40.setCell ⟨w.heap.size + 1, 7, none⟩ (.slice A8 C.length c8)).setCell ⟨w.heap.size + 1, 8, none⟩ (.int .i64 ((M : Int) - (k : Int)))) w') (by kernel_rfl) ((Chg.refl _ _).drew) (fun hch0 => ?_)
              refine wpAnyH_take (i := 0) (v := .agg (cellsH {} nil4).toArray) rfl (by kernel_rfl) (by kernel_rfl) (by kernel_rfl) (by first | exact fun _ _ _ h => h | exact fun _ _ _ h => nomatch h.1) (yieldsIf_load_mid (by rfl) 25 _ rfl (w.heap.size + 1 + 1) 0 rfl (cellsH {} nil4) _ (fun w' hw' => (HZg.out.zero.chg hw' (by omega)).range) Tryd.underlying25 rfl (by exact sizeH)) hch0 ?_
              refine wpAnyH_take (i := 1) (v := .pointer (some ⟨w.heap.size + 1 + 1 + 1, 0, none⟩)) rfl (by kernel_rfl) (by kernel_rfl) (by kernel_rfl) (by first | exact fun _ _ _ h => h | exact fun _ _ _ h => nomatch h.1) (Or.inl ⟨by rfl, fun w_ hw_ => by go_simp⟩) hch0 ?_
              refine wpAnyH_take (i := 2) (v := .pointer (some ⟨w.heap.size + 1 + 1 + 1, 0, none⟩)) rfl (by kernel_rfl) (by kernel_rfl) (by kernel_rfl) (by first | exact fun _ _ _ h => h | exact fun _ _ _ h => nomatch h.1) (Or.inl ⟨by rfl, fun w_ hw_ => by go_simp⟩) hch0 ?_
              try simp only [Act.put, List.setIfInBounds_toArray, List.set_cons_zero, List.set_cons_succ, List.getElem_toArray, List.getElem_cons_succ, List.getElem_cons_zero]
              refine wpAnyH_take (i := 3) (v := .pointer (some ⟨w.heap.size + 1 + 1 + 1, 2, none⟩)) rfl (by kernel_rfl) (by kernel_rfl) (by kernel_rfl) (by first | exact fun _ _ _ h => h | exact fun _ _ _ h => nomatch h.1) (Or.inl ⟨by rfl, fun w_ hw_ => by go_simp⟩) hch0 ?_
              refine wpAnyH_take (i := 4) (v := .int .i64 (E)) rfl (by kernel_rfl) (by kernel_rfl) (by kernel_rfl) (by first | exact fun _ _ _ h => h | exact fun _ _ _ h => nomatch h.1) (Or.inl ⟨by rfl, fun w_ hw_ => by have hh := CX.out w_ hw_; go_simp⟩) hch0 ?_
              try simp only [Act.put, List.setIfInBounds_toArray, List.set_cons_zero, List.set_cons_succ, List.getElem_toArray, List.getElem_cons_succ, List.getElem_cons_zero]
              refine wpAnyH_ready (rs := [5]) (by kernel_rfl) (by simp) ?_
              refine AllReadyH.cons rfl (fun K hK => ?_) AllReadyH.nil
              rw [if_pos (by rfl)]
              try simp only [Act.put, List.setIfInBounds_toArray, List.set_cons_zero, List.set_cons_succ, List.getElem_toArray, List.getElem_cons_succ, List.getElem_cons_zero]
              refine wp_store_row (ty := 25) (xs := cellsH {} nil4) rfl rfl (HZg.out.res.drew) rfl rfl (by exact sizeH) rfl ?_
              intro w9 hr9 hc9 hs9
              have hch9 := hc9 _ ((w40.setCell ⟨w.heap.size + 1, 7, none⟩ (.slice A8 C.length c8)).setCell ⟨w.heap.size + 1, 8, none⟩ (.int .i64 ((M : Int) - (k : Int)))) hch0 (fun _ => rfl)
              refine hK.out _ _ hch9 (fun _ => ?_)
              clear hK K
              try simp only [Act.put, List.setIfInBounds_toArray, List.set_cons_zero, List.set_cons_succ, List.getElem_toArray, List.getElem_cons_succ, List.getElem_cons_zero]
              refine wpAnyH_take (i := 6) (v := .int .i64 (0)) rfl (by kernel_rfl) (by kernel_rfl) (by kernel_rfl) (by first | exact fun _ _ _ h => h | exact fun _ _ _ h => nomatch h.1) (Or.inl ⟨by rfl, fun w_ hw_ => by go_simp⟩) hch9 ?_
              refine wpAnyH_take (i := 7) (v := .int .i64 (E)) rfl (by kernel_rfl) (by kernel_rfl) (by kernel_rfl) (by first | exact fun _ _ _ h => h | exact fun _ _ _ h => nomatch h.1) (Or.inl ⟨by rfl, fun w_ hw_ => by go_simp⟩) hch9 ?_
              try simp only [Act.put, List.setIfInBounds_toArray, List.set_cons_zero, List.set_cons_succ, List.getElem_toArray, List.getElem_cons_succ, List.getElem_cons_zero]
              refine wpAnyH_done (by kernel_rfl) ?_ _
              go_wp2
              refine ret_row3 rfl rfl hr9 Tryd.underlying25 rfl sizeH rfl ?_
              exact ⟨nil4, by rw [HQ.out]; rfl, by rw [HQ.out]; exact nil4_d _ _, HZg.out.chg.andThen hch9 (fun b hb e => by have e : b = w.heap.size := e; omega)⟩
      · have hzn : (sM.2 == 0) = false := by simp [hz]
        have HBADM := Lib.hid hz
        have HSC2 : Hid (sC.2 = sM.2) := Lib.hid (by rw [← EsC.out]; exact rdBytes_keep k sM hz)
        obtain ⟨EM, hEM⟩ : ∃ EM, sM.2 = EM := ⟨_, rfl⟩
        rw [hEM] at hbdM hzn
        clear hz hEM
        go_wp2_with fail
        refine (HM.out.bytes k).mono ?_
        rw [EC.out, EsC.out]
        rintro e w40 ⟨A8, c8, rfl, hb_, h_⟩
        have H40q := Lib.hid h_
        have H40 := Lib.hid (H40q.out.put 7 _ (H40q.out.two.set7 hb_))
        have ck7 := H40q.out.hdcell 7
        rw [cH_7] at ck7
        have cf7 := H40q.out.hdfree 7
        have ck8 := H40q.out.hdcell 8
        rw [cH_8] at ck8
        have cf8 := H40q.out.hdfree 8
        clear h_ hb_
        have HZf := Lib.hid (H40.out.put 8 _ (H40.out.two.set8 ((M : Int) - (k : Int))))
        obtain ⟨HH, hHH⟩ : ∃ HH : Hd, HH = { long := true, kind := 0, version := foldB 0 V, dst := D, src := SR, token := TK, cut := C, rest := (M : Int) - (k : Int) } := ⟨_, rfl⟩
        have HZg : Hid (RAll w ((w40.setCell ⟨w.heap.size + 1, 7, none⟩ (.slice A8 C.length c8)).setCell ⟨w.heap.size + 1, 8, none⟩ (.int .i64 ((M : Int) - (k : Int)))) b sC HH ⟨.slice A5 D.length c5, .slice A6 SR.length c6, .slice A7 TK.length c7, .slice A8 C.length c8⟩) := Lib.hid (by rw [hHH]; exact HZf.out)
        have HRES : Hid (outP b R = outP b (HH, sC)) := Lib.hid (by
          rw [HRR.out, longR_bad b _ _ M k sM HBADM.out, outP_bad b _ (by show sC.2 ≠ 0; rw [HSC2.out]; exact HBADM.out)]
          exact congrArg (fun e => (({} : Hd), (0 : Int), e)) HSC2.out.symm)
        clear hHH HZf
        obtain ⟨E, hE⟩ : ∃ E, sC.2 = E := ⟨_, rfl⟩
        have hbd := H40q.out.bad
        rw [hE] at hbd
        have HEE := Lib.hid hE
        have HLS := Lib.hid HZg.out.two.sl
        by_cases hb0 : E = 0
        · subst hb0
          have hat := H40q.out.at_ hE
          have HRIGHT := Lib.hid (fun w' (hc : Chg none_ ((w40.setCell ⟨w.heap.size + 1, 7, none⟩ (.slice A8 C.length c8)).setCell ⟨w.heap.size + 1, 8, none⟩ (.int .i64 ((M : Int) - (k : Int)))) w') => rright_sh HH ⟨.slice A5 D.length c5, .slice A6 SR.length c6, .slice A7 TK.length c7, .slice A8 C.length c8⟩ w' HLS.out.shape (by have h1 := HLS.out.s; have h2 := HLS.out.t; obtain ⟨_, _, _, h1, _⟩ := h1; obtain ⟨_, _, _, h2, _⟩ := h2; omega))
          clear hE
          by_cases hr : rightH HH = true
          · have HQ : Hid (outP b R = (HH, (b.length : Int) - (sC.1.length : Int), 0)) := Lib.hid (by rw [HRES.out, outP_ok b _ (by exact HEE.out) hr])
            rw [hr] at HRIGHT
            clear hr
            go_wp2_with (first | ((with_reducible show wpList _ _ _ (⟨some 166, .load 25 _, _, _, _, _⟩ :: _) _ _); refine wlH rfl rfl rfl HZg.out.two.row rfl ?_) | (go_at_call 13; refine (HRIGHT.out _ (Chg.refl none_ _)).mono ?_; rintro e w20 ⟨rfl, hc20⟩; have HX20 := Lib.hid (HZg.out.keep hc20); clear hc20))
            have CX : Hid (∀ w', Chg (· = w.heap.size) w20 w' → w'.cell? ⟨w.heap.size + 1 + 1 + 1, 1, none⟩ = some (.int .i64 ((b.length : Int) - (sC.1.length : Int)))) := Lib.hid (fun w' hc => (hc.cell 1 HX20.out.two.rd.lt (by omega)).trans (HX20.out.at_ HEE.out))
            refine wp_region_held_drew (S := fun w' => Chg (· = w.heap.size) w20 w') (by kernel_rfl) ((Chg.refl _ _).drew) (fun hch0 => ?_)
            refine wpAnyH_take (i := 0) (v := .agg (cellsH HH ⟨.slice A5 D.length c5, .slice A6 SR.length c6, .slice A7 TK.length c7, .slice A8 C.length c8⟩).toArray) rfl (by kernel_rfl) (by kernel_rfl) (by kernel_rfl) (by first | exact fun _ _ _ h => h | exact fun _ _ _ h => nomatch h.1) (yieldsIf_load_mid (by rfl) 25 _ rfl (w.heap.size + 1) 0 rfl (cellsH HH ⟨.slice A5 D.length c5, .slice A6 SR.length c6, .slice A7 TK.length c7, .slice A8 C.length c8⟩) _ (fun w' hw' => (HX20.out.two.row.chg hw' (by omega)).range) Tryd.underlying25 rfl (by exact sizeH)) hch0 ?_
            refine wpAnyH_take (i := 1) (v := .pointer (some ⟨w.heap.size + 1 + 1 + 1, 0, none⟩)) rfl (by kernel_rfl) (by kernel_rfl) (by kernel_rfl) (by first | exact fun _ _ _ h => h | exact fun _ _ _ h => nomatch h.1) (Or.inl ⟨by rfl, fun w_ hw_ => by go_simp⟩) hch0 ?_
            refine wpAnyH_take (i := 2) (v := .pointer (some ⟨w.heap.size + 1 + 1 + 1, 0, none⟩)) rfl (by kernel_rfl) (by kernel_rfl) (by kernel_rfl) (by first | exact fun _ _ _ h => h | exact fun _ _ _ h => nomatch h.1) (Or.inl ⟨by rfl, fun w_ hw_ => by go_simp⟩) hch0 ?_
            try simp only [Act.put, List.setIfInBounds_toArray, List.set_cons_zero, List.set_cons_succ, List.getElem_toArray, List.getElem_cons_succ, List.getElem_cons_zero]
            refine wpAnyH_take (i := 3) (v := .pointer (some ⟨w.heap.size + 1 + 1 + 1, 1, none⟩)) rfl (by kernel_rfl) (by kernel_rfl) (by kernel_rfl) (by first | exact fun _ _ _ h => h | exact fun _ _ _ h => nomatch h.1) (Or.inl ⟨by rfl, fun w_ hw_ => by go_simp⟩) hch0 ?_
            refine wpAnyH_take (i := 4) (v := .int .i64 ((b.length : Int) - (sC.1.length : Int))) rfl (by kernel_rfl) (by kernel_rfl) (by kernel_rfl) (by first | exact fun _ _ _ h => h | exact fun _ _ _ h => nomatch h.1) (Or.inl ⟨by rfl, fun w_ hw_ => by have hh := CX.out w_ hw_; go_simp⟩) hch0 ?_
            try simp only [Act.put, List.setIfInBounds_toArray, List.set_cons_zero, List.set_cons_succ, List.getElem_toArray, List.getElem_cons_succ, List.getElem_cons_zero]
            refine wpAnyH_ready (rs := [5]) (by kernel_rfl) (by simp) ?_
            refine AllReadyH.cons rfl (fun K hK => ?_) AllReadyH.nil
            rw [if_pos (by rfl)]
            try simp only [Act.put, List.setIfInBounds_toArray, List.set_cons_zero, List.set_cons_succ, List.getElem_toArray, List.getElem_cons_succ, List.getElem_cons_zero]
            refine wp_store_row (ty := 25) (xs := cellsH HH ⟨.slice A5 D.length c5, .slice A6 SR.length c6, .slice A7 TK.length c7, .slice A8 C.length c8⟩) rfl rfl (HX20.out.res.drew) rfl rfl (by exact sizeH) rfl ?_
            intro w9 hr9 hc9 hs9
            have hch9 := hc9 _ w20 hch0 (fun _ => rfl)
            refine hK.out _ _ hch9 (fun _ => ?_)
            clear hK K
            try simp only [Act.put, List.setIfInBounds_toArray, List.set_cons_zero, List.set_cons_succ, List.getElem_toArray, List.getElem_cons_succ, List.getElem_cons_zero]
            refine wpAnyH_take (i := 6) (v := .int .i64 ((b.length : Int) - (sC.1.length : Int))) rfl (by kernel_rfl) (by kernel_rfl) (by kernel_rfl) (by first | exact fun _ _ _ h => h | exact fun _ _ _ h => nomatch h.1) (Or.inl ⟨by rfl, fun w_ hw_ => by go_simp⟩) hch9 ?_
            refine wpAnyH_take (i := 7) (v := .int .i64 (0)) rfl (by kernel_rfl) (by kernel_rfl) (by kernel_rfl) (by first | exact fun _ _ _ h => h | exact fun _ _ _ h => nomatch h.1) (Or.inl ⟨by rfl, fun w_ hw_ => by go_simp⟩) hch9 ?_
            try simp only [Act.put, List.setIfInBounds_toArray, List.set_cons_zero, List.set_cons_succ, List.getElem_toArray, List.getElem_cons_succ, List.getElem_cons_zero]
            refine wpAnyH_done (by kernel_rfl) ?_ _
            go_wp2
            refine ret_row3 rfl rfl hr9 Tryd.underlying25 rfl sizeH rfl ?_
            exact ⟨⟨.slice A5 D.length c5, .slice A6 SR.length c6, .slice A7 TK.length c7, .slice A8 C.length c8⟩, by rw [HQ.out]; rfl, by rw [HQ.out]; exact (HX20.out.two.sl.chg hch9 (fun b hb e => by have h1 := hb.2; omega)).mono (fun b _ h => by have h1 := h.2; omega), HX20.out.chg.andThen hch9 (fun b hb e => by have e : b = w.heap.size := e; omega)⟩
          · have hr : rightH HH = false := by simpa using hr
            have HQ : Hid (outP b R = ({}, 0, 3)) := Lib.hid (by rw [HRES.out, outP_none b _ (by exact HEE.out) hr])
            rw [hr] at HRIGHT
            clear hr
            go_wp2_with (first | ((with_reducible show wpList _ _ _ (⟨some 166, .load 25 _, _, _, _, _⟩ :: _) _ _); refine wlH rfl rfl rfl HZg.out.two.row rfl ?_) | (go_at_call 13; refine (HRIGHT.out _ (Chg.refl none_ _)).mono ?_; rintro e w20 ⟨rfl, hc20⟩; have HX20 := Lib.hid (HZg.out.keep hc20); clear hc20) | ((with_reducible show wpList _ _ _ (⟨_, .load 25 (.tmp 6), _, _, _, _⟩ :: _) _ _); refine wlH rfl rfl rfl HX20.out.zero rfl ?_) | ((with_reducible show wpList _ _ _ (⟨_, .store 25 _ _, _, _, _, _⟩ :: _) _ _); refine wpList_store_Row (xs := cellsH {} nil4) rfl rfl rfl HX20.out.res rfl rfl (by exact sizeH) rfl ?_; intro w99 hr99 hch99 _; have HR99 := Lib.hid hr99; have HC99 := Lib.hid (hch99 none_ w HX20.out.chg (fun h => absurd h (Nat.lt_irrefl _))); clear hr99 hch99))
            refine ret_row3 rfl rfl HR99.out Tryd.underlying25 rfl sizeH rfl ?_
            exact ⟨nil4, by rw [HQ.out]; rfl, by rw [HQ.out]; exact nil4_d _ _, HC99.out⟩
        · have hne : (E != 0) = true := by simp [hb0]
          have HQ : Hid (outP b R = ({}, 0, E)) := Lib.hid (by rw [HRES.out, outP_bad b _ (by show sC.2 ≠ 0; rw [HEE.out]; exact hb0)]; exact congrArg (fun e => (({} : Hd), (0 : Int), e)) HEE.out)
          have CX : Hid (∀ w', Chg (· = w.heap.size) ((w40.setCell ⟨w.heap.size + 1, 7, none⟩ (.slice A8 C.length c8)).setCell ⟨w.heap.size + 1, 8, none⟩ (.int .i64 ((M : Int) - (k : Int)))) w' → w'.cell? ⟨w.heap.size + 1 + 1 + 1, 2, none⟩ = some (.int .i64 E)) := Lib.hid (fun w' hc => by rw [hc.cell 2 HZg.out.two.rd.lt (by omega), HZg.out.bad, HEE.out])
          clear hE hb0
          go_wp2
          refine wp_region_held_drew (S := fun w' => Chg (· = w.heap.size) ((w40.setCell ⟨w.heap.size + 1, 7, none⟩ (.slice A8 C.length c8)).setCell ⟨w.heap.size + 1, 8, none⟩ (.int .i64 ((M : Int) - (k : Int)))) w') (by kernel_rfl) ((Chg.refl _ _).drew) (fun hch0 => ?_)
          refine wpAnyH_take (i := 0) (v := .agg (cellsH {} nil4).toArray) rfl (by kernel_rfl) (by kernel_rfl) (by kernel_rfl) (by first | exact fun _ _ _ h => h | exact fun _ _ _ h => nomatch h.1) (yieldsIf_load_mid (by rfl) 25 _ rfl (w.heap.size + 1 + 1) 0 rfl (cellsH {} nil4) _ (fun w' hw' => (HZg.out.zero.chg hw' (by omega)).range) Tryd.underlying25 rfl (by exact sizeH)) hch0 ?_
          refine wpAnyH_take (i := 1) (v := .pointer (some ⟨w.heap.size + 1 + 1 + 1, 0, none⟩)) rfl (by kernel_rfl) (by kernel_rfl) (by kernel_rfl) (by first | exact fun _ _ _ h => h | exact fun _ _ _ h => nomatch h.1) (Or.inl ⟨by rfl, fun w_ hw_ => by go_simp⟩) hch0 ?_
          refine wpAnyH_take (i := 2) (v := .pointer (some ⟨w.heap.size + 1 + 1 + 1, 0, none⟩)) rfl (by kernel_rfl) (by kernel_rfl) (by kernel_rfl) (by first | exact fun _ _ _ h => h | exact fun _ _ _ h => nomatch h.1) (Or.inl ⟨by rfl, fun w_ hw_ => by go_simp⟩) hch0 ?_
          try simp only [Act.put, List.setIfInBounds_toArray, List.set_cons_zero, List.set_cons_succ, List.getElem_toArray, List.getElem_cons_succ, List.getElem_cons_zero]
          refine wpAnyH_take (i := 3) (v := .pointer (some ⟨w.heap.size + 1 + 1 + 1, 2, none⟩)) rfl (by kernel_rfl) (by kernel_rfl) (by kernel_rfl) (by first | exact fun _ _ _ h => h | exact fun _ _ _ h => nomatch h.1) (Or.inl ⟨by rfl, fun w_ hw_ => by go_simp⟩) hch0 ?_
          refine wpAnyH_take (i := 4) (v := .int .i64 (E)) rfl (by kernel_rfl) (by kernel_rfl) (by kernel_rfl) (by first | exact fun _ _ _ h => h | exact fun _ _ _ h => nomatch h.1) (Or.inl ⟨by rfl, fun w_ hw_ => by have hh := CX.out w_ hw_; go_simp⟩) hch0 ?_
          try simp only [Act.put, List.setIfInBounds_toArray, List.set_cons_zero, List.set_cons_succ, List.getElem_toArray, List.getElem_cons_succ, List.getElem_cons_zero]
          refine wpAnyH_ready (rs := [5]) (by kernel_rfl) (by simp) ?_
          refine AllReadyH.cons rfl (fun K hK => ?_) AllReadyH.nil
          rw [if_pos (by rfl)]
          try simp only [Act.put, List.setIfInBounds_toArray, List.set_cons_zero, List.set_cons_succ, List.getElem_toArray, List.getElem_cons_succ, List.getElem_cons_zero]
          refine wp_store_row (ty := 25) (xs := cellsH {} nil4) rfl rfl (HZg.out.res.drew) rfl rfl (by exact sizeH) rfl ?_
          intro w9 hr9 hc9 hs9
          have hch9 := hc9 _ ((w40.setCell ⟨w.heap.size + 1, 7, none⟩ (.slice A8 C.length c8)).setCell ⟨w.heap.size + 1, 8, none⟩ (.int .i64 ((M : Int) - (k : Int)))) hch0 (fun _ => rfl)
          refine hK.out _ _ hch9 (fun _ => ?_)
          clear hK K
          try simp only [Act.put, List.setIfInBounds_toArray, List.set_cons_zero, List.set_cons_succ, List.getElem_toArray, List.getElem_cons_succ, List.getElem_cons_zero]
          refine wpAnyH_take (i := 6) (v := .int .i64 (0)) rfl (by kernel_rfl) (by kernel_rfl) (by kernel_rfl) (by first | exact fun _ _ _ h => h | exact fun _ _ _ h => nomatch h.1) (Or.inl ⟨by rfl, fun w_ hw_ => by go_simp⟩) hch9 ?_
          refine wpAnyH_take (i := 7) (v := .int .i64 (E)) rfl (by kernel_rfl) (by kernel_rfl) (by kernel_rfl) (by first | exact fun _ _ _ h => h | exact fun _ _ _ h => nomatch h.1) (Or.inl ⟨by rfl, fun w_ hw_ => by go_simp⟩) hch9 ?_
          try simp only [Act.put, List.setIfInBounds_toArray, List.set_cons_zero, List.set_cons_succ, List.getElem_toArray, List.getElem_cons_succ, List.getElem_cons_zero]
          refine wpAnyH_done (by kernel_rfl) ?_ _
          go_wp2
          refine ret_row3 rfl rfl hr9 Tryd.underlying25 rfl sizeH rfl ?_
          exact ⟨nil4, by rw [HQ.out]; rfl, by rw [HQ.out]; exact nil4_d _ _, HZg.out.chg.andThen hch9 (fun b hb e => by have e : b = w.heap.size := e; omega)⟩

set_option maxRecDepth 100000 in
set_option maxHeartbeats 12000000 in
theorem rparse_long2 (w : World) (A : Option Addr) (c : Nat) (b : List Nat) (hv : View w (fun _ => True) A b.length (u8s b)) (hm : b.length ≤ 1000000) (hcap : b.length ≤ c) (hb : ∀ x ∈ b, x < 256) (f : Nat) (s : St) (ef : rdByte (b, 0) = (f, s)) (hne : 0 < b.length) (h64 : f / 64 % 2 = 1) (hl : 128 ≤ f) (hq : f / 4 % 4 = 0) (hq2 : f / 16 % 4 = 2) (R : Hd × St) (hR : R = longM (partsM f) (f % 4 + 1) s) :
    Calls Tryd.prog 20 #[.slice A b.length c] w (ParsePost w (outP b R).1 (outP b R).2.1 (outP b R).2.2) := by
  have EF := Lib.hid ef
  have hn0 : ((b.length : Nat) : Int) ≠ 0 := by omega
  have HVV := Lib.hid hv
  have HBB := Lib.hid hb
  have HCAP := Lib.hid hcap
  have HM := Lib.hid hm
  obtain ⟨k, hk⟩ : ∃ k, f % 4 + 1 = k := ⟨_, rfl⟩
  have HKE := Lib.hid hk
  clear hv hb ef hcap hne
  go_enter Tryd.func20, Tryd.ntmps20
  go_wp2_with fail
  obtain ⟨x1, rr1, rz1, cc1⟩ := rmade w A c b HVV.out HM.out HCAP.out HBB.out _ rfl
  have HT1 := Lib.hid x1
  have HR1 := Lib.hid rr1
  have HZ1 := Lib.hid rz1
  have HC1 := Lib.hid cc1
  clear x1 rr1 rz1 cc1 hm
  refine (byte_rtwo HT1.out).mono ?_
  have hf256 := (rdByte_mem (b, 0) HT1.out.rd.mem).1
  rw [EF.out] at hf256 ⊢
  try simp only at hf256
  rintro e w2 ⟨rfl, x2, hc2⟩
  try simp only at x2
  have H2 : Hid (RAll w w2 b s {} nil4) := Lib.hid ⟨x2, HR1.out.chg hc2 (fun e => by omega), HZ1.out.chg hc2 (fun e => by omega), chg_up HC1.out hc2 (by omega) (by omega)⟩
  clear x2 hc2 HT1 HR1 HZ1 HC1
  have hki : (f : Int) % 4 + 1 = (k : Int) := by omega
  have hk0 : (0 : Int) < (k : Int) := by omega
  have hk5 : (k : Int) < 5 := by omega
  clear hk
  have hi1 : ((f : Int) / 64 % 2) = 1 := by omega
  have hli : ((128 : Int) ≤ (f : Int)) := by omega
  have hdd : decide ((128 : Int) ≤ (f : Int)) = true := decide_eq_true hli
  have hi4 : ((f : Int) / 4 % 4) = 0 := by omega
  have hi16 : ((f : Int) / 16 % 4) = 2 := by omega
  have HPM : Hid (partsM f = { long := true, kind := 2 }) := Lib.hid (by unfold partsM; rw [if_pos (by omega), hq2]; rfl)
  obtain ⟨V, hV⟩ : ∃ x, (rdBytes 4 s).1 = x := ⟨_, rfl⟩
  obtain ⟨s4, hs4⟩ : ∃ x, (rdBytes 4 s).2 = x := ⟨_, rfl⟩
  obtain ⟨n1, hn1⟩ : ∃ x, (rdByte s4).1 = x := ⟨_, rfl⟩
  obtain ⟨s5, hs5⟩ : ∃ x, (rdByte s4).2 = x := ⟨_, rfl⟩
  obtain ⟨D, hD⟩ : ∃ x, (rdBytes n1 s5).1 = x := ⟨_, rfl⟩
  obtain ⟨s6, hs6⟩ : ∃ x, (rdBytes n1 s5).2 = x := ⟨_, rfl⟩
  obtain ⟨n2, hn2⟩ : ∃ x, (rdByte s6).1 = x := ⟨_, rfl⟩
  obtain ⟨s7, hs7⟩ : ∃ x, (rdByte s6).2 = x := ⟨_, rfl⟩
  obtain ⟨SR, hSR⟩ : ∃ x, (rdBytes n2 s7).1 = x := ⟨_, rfl⟩
  obtain ⟨s8, hs8⟩ : ∃ x, (rdBytes n2 s7).2 = x := ⟨_, rfl⟩
  obtain ⟨M, hM⟩ : ∃ x, (rdInt s8).1 = x := ⟨_, rfl⟩
  obtain ⟨sM, hsM⟩ : ∃ x, (rdInt s8).2 = x := ⟨_, rfl⟩
  have HRR : Hid (R = if M < k then (({ long := true, kind := 2, version := foldB 0 V, dst := D, src := SR, token := [] } : Hd), failSt 3 sM) else if sM.1.length < M then ({ long := true, kind := 2, version := foldB 0 V, dst := D, src := SR, token := [] }, failSt 2 sM) else ({ long := true, kind := 2, version := foldB 0 V, dst := D, src := SR, token := [], cut := (rdBytes k sM).1, rest := ((M - k : Nat) : Int) }, (rdBytes k sM).2)) := Lib.hid (by
    rw [hR, HPM.out, HKE.out]
    subst hsM
    subst hM
    subst hs8
    subst hSR
    subst hs7
    subst hn2
    subst hs6
    subst hD
    subst hs5
    subst hn1
    subst hs4
    subst hV
    rfl)
  have EV := Lib.hid hV
  have Es4 := Lib.hid hs4
  have En1 := Lib.hid hn1
  have Es5 := Lib.hid hs5
  have ED := Lib.hid hD
  have Es6 := Lib.hid hs6
  have En2 := Lib.hid hn2
  have Es7 := Lib.hid hs7
  have ESR := Lib.hid hSR
  have Es8 := Lib.hid hs8
  have EM := Lib.hid hM
  have EsM := Lib.hid hsM
  clear hR h64 hl hq hq2 hV hs4 hn1 hs5 hD hs6 hn2 hs7 hSR hs8 hM hsM
  have ck0 := H2.out.hdcell 0
  rw [cH_0] at ck0
  have cf0 := H2.out.hdfree 0
  have ck2 := H2.out.hdcell 2
  rw [cH_2] at ck2
  have cf2 := H2.out.hdfree 2
  have H4 := Lib.hid ((H2.out.put 0 _ (H2.out.two.set0 true)).put 2 _ ((H2.out.two.set0 true).set2 2))
  have hVm := rdBytes_mem 4 s H2.out.two.rd.mem
  have hVl := rdBytes_len 4 s
  rw [EV.out] at hVm hVl
  have HVB := Lib.hid hVm.1
  have HVLn := Lib.hid hVl
  clear hVm hVl
  go_wp2_with fail
  refine (H4.out.bytes 4).mono ?_
  rw [EV.out, Es4.out]
  rintro e w5 ⟨A4, c4, rfl, hb4, h5⟩
  have H5 := Lib.hid h5
  have HB4 := Lib.hid hb4
  clear h5 hb4 H2 H4 ck0 cf0 ck2 cf2
  have hvl4 := HVLn.out
  have hvli : (V.length : Int) < 1000 := by omega
  go_wp2_with fail
  go_loopw [11] (fun i wr => ∃ j : Nat, j ≤ V.length ∧ i = .int .i64 j ∧ RAll w wr b s4 { long := true, kind := 2, version := foldB 0 (V.take j) } nil4 ∧ Chg (· = w.heap.size + 1) w5 wr) (fun i _ => V.length - (intOf i).toNat)
  case atStart => exact ⟨0, Nat.zero_le _, rfl, H5.out, Chg.refl _ _⟩
  case round =>
    obtain ⟨j, hj, rfl, hall, hch⟩ := hrel
    have HJ := Lib.hid hall
    have HCJ := Lib.hid hch
    by_cases hlt : j < V.length
    · obtain ⟨A4', c4', e4', _, hv4⟩ := HB4.out
      injection e4' with e1 _ e3
      subst e1
      subst e3
      obtain ⟨bt, ot, hA, hbt, _, ct⟩ := (hv4.chg hch (fun bb h e => by have h1 := h.2; omega)).at_ hlt
      subst hA
      have g0 : (0 : Int) ≤ (j : Int) := by omega
      have g2 : (j : Int) < (V.length : Int) := by omega
      have hfl := foldB_take_lt V HVB.out HVLn.out j hlt
      have hxb : V.getD j 0 < 256 := by rw [List.getD_eq_getElem?_getD, List.getElem?_eq_getElem hlt]; exact HVB.out _ (List.getElem_mem hlt)
      have HSN : Hid (foldB 0 (V.take (j + 1)) = foldB 0 (V.take j) * 256 + V.getD j 0) := Lib.hid (by rw [take_snoc V j hlt, foldB_snoc])
      have ck3 := HJ.out.hdcell 3
      rw [cH_3] at ck3
      have cf3 := HJ.out.hdfree 3
      try simp only at ck3
      have HP := Lib.hid ((HJ.out.keep ((Chg.refl none_ wr).drew)).put 3 _ ((HJ.out.two.chg ((Chg.refl none_ wr).drew)).set3 (foldB 0 (V.take (j + 1)))))
      rw [HSN.out] at HP
      generalize foldB 0 (V.take j) = x at ck3 hfl HP HSN
      generalize V.getD j 0 = y at ct hxb HP HSN
      have HXY : Hid (((x * 256 + y : Nat) : Int) = (x : Int) * 256 + (y : Int)) := Lib.hid (by omega)
      clear hall hch hv4
      go_wp2
      go_region
      go_wp2
      go_roundw
      case rel => exact ⟨j + 1, by omega, by go_num, by rw [HSN.out]; have q := HP.out; rw [HXY.out] at q; exact q, HCJ.out.drew.setCell (p := ⟨w.heap.size + 1, 3, none⟩) (fun _ => rfl) _⟩
      case measure => simp [intOf] <;> omega
    · have hjl : j = V.length := by omega
      subst hjl
      rw [List.take_length] at HJ
      clear hall hch hj hlt
      obtain ⟨wL, hwL⟩ : ∃ x, x = wr := ⟨_, rfl⟩
      subst hwL
      go_wp2_with fail
      refine HJ.out.byte.mono ?_
      have hq_ := (rdByte_mem _ HJ.out.two.rd.mem).1
      rw [En1.out] at hq_
      rw [En1.out, Es5.out]
      rintro e w6 ⟨rfl, h_⟩
      have H6 := Lib.hid h_
      have hb_n1 : n1 < 256 := hq_
      clear h_ hq_
      go_wp2_with fail
      refine (H6.out.bytes n1).mono ?_
      rw [ED.out, Es6.out]
      rintro e w7 ⟨A5, c5, rfl, hb_, h_⟩
      have H7q := Lib.hid h_
      have H7 := Lib.hid (H7q.out.put 4 _ (H7q.out.two.set4 hb_))
      clear h_ hb_
      have ck4_D := H7q.out.hdcell 4
      rw [cH_4] at ck4_D
      have cf4_D := H7q.out.hdfree 4
      go_wp2_with fail
      clear H7q ck4_D cf4_D
      refine H7.out.byte.mono ?_
      have hq_ := (rdByte_mem _ H7.out.two.rd.mem).1
      rw [En2.out] at hq_
      rw [En2.out, Es7.out]
      rintro e w8 ⟨rfl, h_⟩
      have H8 := Lib.hid h_
      have hb_n2 : n2 < 256 := hq_
      clear h_ hq_
      go_wp2_with fail
      refine (H8.out.bytes n2).mono ?_
      rw [ESR.out, Es8.out]
      rintro e w9 ⟨A6, c6, rfl, hb_, h_⟩
      have H9q := Lib.hid h_
      have H9 := Lib.hid (H9q.out.put 5 _ (H9q.out.two.set5 hb_))
      clear h_ hb_
      have ck5_SR := H9q.out.hdcell 5
      rw [cH_5] at ck5_SR
      have cf5_SR := H9q.out.hdfree 5
      have ck2_SR := H9q.out.hdcell 2
      rw [cH_2] at ck2_SR
      have cf2_SR := H9q.out.hdfree 2
      go_wp2_with fail
      clear H9q ck5_SR cf5_SR ck2_SR cf2_SR
      refine H9.out.int.mono ?_
      have hq_ := rdInt_lt _ H9.out.two.rd.mem
      rw [EM.out] at hq_
      rw [EM.out, EsM.out]
      rintro e wM ⟨rfl, h_⟩
      have HM := Lib.hid h_
      have hb_M : M < 4611686018427387904 := hq_
      clear h_ hq_
      have hbdM := HM.out.bad
      have hlenM := HM.out.two.rd.len
      obtain ⟨C, hC⟩ : ∃ x, (rdBytes k sM).1 = x := ⟨_, rfl⟩
      obtain ⟨sC, hsC⟩ : ∃ x, (rdBytes k sM).2 = x := ⟨_, rfl⟩
      have EC := Lib.hid hC
      have EsC := Lib.hid hsC
      clear hC hsC
      by_cases hz : sM.2 = 0
      · have HZE := Lib.hid hz
        rw [hz] at hbdM
        clear hz
        by_cases hMk : M < k
        · have hMki : (M : Int) < (k : Int) := by omega
          have HQ : Hid (outP b R = ({}, 0, 3)) := Lib.hid (by
            rw [HRR.out, if_pos hMk]
            have e3 : failSt 3 sM = ([], 3) := by unfold failSt; rw [if_neg (by rw [HZE.out]; decide)]
            rw [e3]
            exact outP_bad b _ (by show (3 : Int) ≠ 0; decide))
          clear hMk
          go_wp2_with (first | ((with_reducible show wpList _ _ _ (⟨_, .load 25 (.tmp 6), _, _, _, _⟩ :: _) _ _); refine wlH rfl rfl rfl HM.out.zero rfl ?_) | ((with_reducible show wpList _ _ _ (⟨_, .store 25 _ _, _, _, _, _⟩ :: _) _ _); refine wpList_store_Row (xs := cellsH {} nil4) rfl rfl rfl HM.out.res rfl rfl (by exact sizeH) rfl ?_; intro w99 hr99 hch99 _; have HR99 := Lib.hid hr99; have HC99 := Lib.hid (hch99 none_ w HM.out.chg (fun h => absurd h (Nat.lt_irrefl _))); clear hr99 hch99))
          refine ret_row3 rfl rfl HR99.out Tryd.underlying25 rfl sizeH rfl ?_
          exact ⟨nil4, by rw [HQ.out]; rfl, by rw [HQ.out]; exact nil4_d _ _, HC99.out⟩
        · have hMki : ¬ (M : Int) < (k : Int) := by omega
          by_cases hlm : sM.1.length < M
          · have hlmi : (sM.1.length : Int) < (M : Int) := by omega
            have HQ : Hid (outP b R = ({}, 0, 2)) := Lib.hid (by
              rw [HRR.out, if_neg hMk, if_pos hlm]
              have e3 : failSt 2 sM = ([], 2) := by unfold failSt; rw [if_neg (by rw [HZE.out]; decide)]
              rw [e3]
              exact outP_bad b _ (by show (2 : Int) ≠ 0; decide))
            clear hMk hlm
            go_wp2_with (first | (go_at_call 43; refine HM.out.left.mono ?_; rintro e w30 ⟨rfl, h30⟩; have H30 := Lib.hid h30; clear h30) | ((with_reducible show wpList _ _ _ (⟨_, .load 25 (.tmp 6), _, _, _, _⟩ :: _) _ _); refine wlH rfl rfl rfl H30.out.zero rfl ?_) | ((with_reducible show wpList _ _ _ (⟨_, .store 25 _ _, _, _, _, _⟩ :: _) _ _); refine wpList_store_Row (xs := cellsH {} nil4) rfl rfl rfl H30.out.res rfl rfl (by exact sizeH) rfl ?_; intro w99 hr99 hch99 _; have HR99 := Lib.hid hr99; have HC99 := Lib.hid (hch99 none_ w H30.out.chg (fun h => absurd h (Nat.lt_irrefl _))); clear hr99 hch99))
            refine ret_row3 rfl rfl HR99.out Tryd.underlying25 rfl sizeH rfl ?_
            exact ⟨nil4, by rw [HQ.out]; rfl, by rw [HQ.out]; exact nil4_d _ _, HC99.out⟩
          · have hlmi : ¬ (sM.1.length : Int) < (M : Int) := by omega
            have HRES0 : Hid (R = ({ long := true, kind := 2, version := foldB 0 V, dst := D, src := SR, token := [], cut := C, rest := ((M - k : Nat) : Int) }, sC)) := Lib.hid (by rw [HRR.out, if_neg hMk, if_neg hlm, EC.out, EsC.out])
            have HMK2 : Hid (((M - k : Nat) : Int) = (M : Int) - (k : Int)) := Lib.hid (by omega)
            clear hMk hlm
            go_wp2_with (go_at_call 43; refine HM.out.left.mono ?_; rintro e w30 ⟨rfl, h30⟩; have H30 := Lib.hid h30; clear h30)
            refine (H30.out.bytes k).mono ?_
            rw [EC.out, EsC.out]
            rintro e w40 ⟨A8, c8, rfl, hb_, h_⟩
            have H40q := Lib.hid h_
            have H40 := Lib.hid (H40q.out.put 7 _ (H40q.out.two.set7 hb_))
            have ck7 := H40q.out.hdcell 7
            rw [cH_7] at ck7
            have cf7 := H40q.out.hdfree 7
            have ck8 := H40q.out.hdcell 8
            rw [cH_8] at ck8
            have cf8 := H40q.out.hdfree 8
            clear h_ hb_
            have HZf := Lib.hid (H40.out.put 8 _ (H40.out.two.set8 ((M : Int) - (k : Int))))
            obtain ⟨HH, hHH⟩ : ∃ HH : Hd, HH = { long := true, kind := 2, version := foldB 0 V, dst := D, src := SR, token := [], cut := C, rest := (M : Int) - (k : Int) } := ⟨_, rfl⟩
            have HZg : Hid (RAll w ((w40.setCell ⟨w.heap.size + 1, 7, none⟩ (.slice A8 C.length c8)).setCell ⟨w.heap.size + 1, 8, none⟩ (.int .i64 ((M : Int) - (k : Int)))) b sC HH ⟨.slice A5 D.length c5, .slice A6 SR.length c6, .slice none 0 0, .slice A8 C.length c8⟩) := Lib.hid (by rw [hHH]; exact HZf.out)
            have HRES : Hid (outP b R = outP b (HH, sC)) := Lib.hid (by rw [HRES0.out, hHH, HMK2.out])
            clear hHH HZf
            obtain ⟨E, hE⟩ : ∃ E, sC.2 = E := ⟨_, rfl⟩
            have hbd := H40q.out.bad
            rw [hE] at hbd
            have HEE := Lib.hid hE
            have HLS := Lib.hid HZg.out.two.sl
            by_cases hb0 : E = 0
            · subst hb0
              have hat := H40q.out.at_ hE
              have HRIGHT := Lib.hid (fun w' (hc : Chg none_ ((w40.setCell ⟨w.heap.size + 1, 7, none⟩ (.slice A8 C.length c8)).setCell ⟨w.heap.size + 1, 8, none⟩ (.int .i64 ((M : Int) - (k : Int)))) w') => rright_sh HH ⟨.slice A5 D.length c5, .slice A6 SR.length c6, .slice none 0 0, .slice A8 C.length c8⟩ w' HLS.out.shape (by have h1 := HLS.out.s; have h2 := HLS.out.t; obtain ⟨_, _, _, h1, _⟩ := h1; obtain ⟨_, _, _, h2, _⟩ := h2; omega))
              clear hE
              by_cases hr : rightH HH = true
              · have HQ : Hid (outP b R = (HH, (b.length : Int) - (sC.1.length : Int), 0)) := Lib.hid (by rw [HRES.out, outP_ok b _ (by exact HEE.out) hr])
                rw [hr] at HRIGHT
                clear hr
                go_wp2_with (first | ((with_reducible show wpList _ _ _ (⟨some 166, .load 25 _, _, _, _, _⟩ :: _) _ _); refine wlH rfl rfl rfl HZg.out.two.row rfl ?_) | (go_at_call 13; refine (HRIGHT.out _ (Chg.refl none_ _)).mono ?_; rintro e w20 ⟨rfl, hc20⟩; have HX20 := Lib.hid (HZg.out.keep hc20); clear hc20))
                have CX : Hid (∀ w', Chg (· = w.heap.size) w20 w' → w'.cell? ⟨w.heap.size + 1 + 1 + 1, 1, none⟩ = some (.int .i64 ((b.length : Int) - (sC.1.length : Int)))) := Lib.hid (fun w' hc => (hc.cell 1 HX20.out.two.rd.lt (by omega)).trans (HX20.out.at_ HEE.out))
                refine wp_region_held_drew (S := fun w' => Chg (· = w.heap.size) w20 w') (by kernel_rfl) ((Chg.refl _ _).drew) (fun hch0 => ?_)
                refine wpAnyH_take (i := 0) (v := .agg (cellsH HH ⟨.slice A5 D.length c5, .slice A6 SR.length c6, .slice none 0 0, .slice A8 C.length c8⟩).toArray) rfl (by kernel_rfl) (by kernel_rfl) (by kernel_rfl) (by first | exact fun _ _ _ h => h | exact fun _ _ _ h => nomatch h.1) (yieldsIf_load_mid (by rfl) 25 _ rfl (w.heap.size + 1) 0 rfl (cellsH HH ⟨.slice A5 D.length c5, .slice A6 SR.length c6, .slice none 0 0, .slice A8 C.length c8⟩) _ (fun w' hw' => (HX20.out.two.row.chg hw' (by omega)).range) Tryd.underlying25 rfl (by exact sizeH)) hch0 ?_
                refine wpAnyH_take (i := 1) (v := .pointer (some ⟨w.heap.size + 1 + 1 + 1, 0, none⟩)) rfl (by kernel_rfl) (by kernel_rfl) (by kernel_rfl) (by first | exact fun _ _ _ h => h | exact fun _ _ _ h => nomatch h.1) (Or.inl ⟨by rfl, fun w_ hw_ => by go_simp⟩) hch0 ?_
                refine wpAnyH_take (i := 2) (v := .pointer (some ⟨w.heap.size + 1 + 1 + 1, 0, none⟩)) rfl (by kernel_rfl) (by kernel_rfl) (by kernel_rfl) (by first | exact fun _ _ _ h => h | exact fun _ _ _ h => nomatch h.1) (Or.inl ⟨by rfl, fun w_ hw_ => by go_simp⟩) hch0 ?_
                try simp only [Act.put, List.setIfInBounds_toArray, List.set_cons_zero, List.set_cons_succ, List.getElem_toArray, List.getElem_cons_succ, List.getElem_cons_zero]
                refine wpAnyH_take (i := 3) (v := .pointer (some ⟨w.heap.size + 1 + 1 + 1, 1, none⟩)) rfl (by kernel_rfl) (by kernel_rfl) (by kernel_rfl) (by first | exact fun _ _ _ h => h | exact fun _ _ _ h => nomatch h.1) (Or.inl ⟨by rfl, fun w_ hw_ => by go_simp⟩) hch0 ?_
                refine wpAnyH_take (i := 4) (v := .int .i64 ((b.length : Int) - (sC.1.length : Int))) rfl (by kernel_rfl) (by kernel_rfl) (by kernel_rfl) (by first | exact fun _ _ _ h => h | exact fun _ _ _ h => nomatch h.1) (Or.inl ⟨by rfl, fun w_ hw_ => by have hh := CX.out w_ hw_; go_simp⟩) hch0 ?_
                try simp only [Act.put, List.setIfInBounds_toArray, List.set_cons_zero, List.set_cons_succ, List.getElem_toArray, List.getElem_cons_succ, List.getElem_cons_zero]
                refine wpAnyH_ready (rs := [5]) (by kernel_rfl) (by simp) ?_
                refine AllReadyH.cons rfl (fun K hK => ?_) AllReadyH.nil
                rw [if_pos (by rfl)]
                try simp only [Act.put, List.setIfInBounds_toArray, List.set_cons_zero, List.set_cons_succ, List.getElem_toArray, List.getElem_cons_succ, List.getElem_cons_zero]
                refine wp_store_row (ty := 25) (xs := cellsH HH ⟨.slice A5 D.length c5, .slice A6 SR.length c6, .slice none 0 0, .slice A8 C.length c8⟩) rfl rfl (HX20.out.res.drew) rfl rfl (by exact sizeH) rfl ?_
                intro w9 hr9 hc9 hs9
                have hch9 := hc9 _ w20 hch0 (fun _ => rfl)
                refine hK.out _ _ hch9 (fun _ => ?_)
                clear hK K
                try simp only [Act.put, List.setIfInBounds_toArray, List.set_cons_zero, List.set_cons_succ, List.getElem_toArray, List.getElem_cons_succ, List.getElem_cons_zero]
                refine wpAnyH_take (i := 6) (v := .int .i64 ((b.length : Int) - (sC.1.length : Int))) rfl (by kernel_rfl) (by kernel_rfl) (by kernel_rfl) (by first | exact fun _ _ _ h => h | exact fun _ _ _ h => nomatch h.1) (Or.inl ⟨by rfl, fun w_ hw_ => by go_simp⟩) hch9 ?_
                refine wpAnyH_take (i := 7) (v := .int .i64 (0)) rfl (by kernel_rfl) (by kernel_rfl) (by kernel_rfl) (by first | exact fun _ _ _ h => h | exact fun _ _ _ h => nomatch h.1) (Or.inl ⟨by rfl, fun w_ hw_ => by go_simp⟩) hch9 ?_
                try simp only [Act.put, List.setIfInBounds_toArray, List.set_cons_zero, List.set_cons_succ, List.getElem_toArray, List.getElem_cons_succ, List.getElem_cons_zero]
                refine wpAnyH_done (by kernel_rfl) ?_ _
                go_wp2
                refine ret_row3 rfl rfl hr9 Tryd.underlying25 rfl sizeH rfl ?_
                exact ⟨⟨.slice A5 D.length c5, .slice A6 SR.length c6, .slice none 0 0, .slice A8 C.length c8⟩, by rw [HQ.out]; rfl, by rw [HQ.out]; exact (HX20.out.two.sl.chg hch9 (fun b hb e => by have h1 := hb.2; omega)).mono (fun b _ h => by have h1 := h.2; omega), HX20.out.chg.andThen hch9 (fun b hb e => by have e : b = w.heap.size := e; omega)⟩
              · have hr : rightH HH = false := by simpa using hr
                have HQ : Hid (outP b R = ({}, 0, 3)) := Lib.hid (by rw [HRES.out, outP_none b _ (by exact HEE.out) hr])
                rw [hr] at HRIGHT
                clear hr
                go_wp2_with (first | ((with_reducible show wpList _ _ _ (⟨some 166, .load 25 _, _, _, _, _⟩ :: _) _ _); refine wlH rfl rfl rfl HZg.out.two.row rfl ?_) | (go_at_call 13; refine (HRIGHT.out _ (Chg.refl none_ _)).mono ?_; rintro e w20 ⟨rfl, hc20⟩; have HX20 := Lib.hid (HZg.out.keep hc20); clear hc20) | ((with_reducible show wpList _ _ _ (⟨_, .load 25 (.tmp 6), _, _, _, _⟩ :: _) _ _); refine wlH rfl rfl rfl HX20.out.zero rfl ?_) | ((with_reducible show wpList _ _ _ (⟨_, .store 25 _ _, _, _, _, _⟩ :: _) _ _); refine wpList_store_Row (xs := cellsH {} nil4) rfl rfl rfl HX20.out.res rfl rfl (by exact sizeH) rfl ?_; intro w99 hr99 hch99 _; have HR99 := Lib.hid hr99; have HC99 := Lib.hid (hch99 none_ w HX20.out.chg (fun h => absurd h (Nat.lt_irrefl _))); clear hr99 hch99))
                refine ret_row3 rfl rfl HR99.out Tryd.underlying25 rfl sizeH rfl ?_
                exact ⟨nil4, by rw [HQ.out]; rfl, by rw [HQ.out]; exact nil4_d _ _, HC99.out⟩
            · have hne : (E != 0) = true := by simp [hb0]
              have HQ : Hid (outP b R = ({}, 0, E)) := Lib.hid (by rw [HRES.out, outP_bad b _ (by show sC.2 ≠ 0; rw [HEE.out]; exact hb0)]; exact congrArg (fun e => (({} : Hd), (0 : Int), e)) HEE.out)
              have CX : Hid (∀ w', Chg (· = w.heap.size) ((w40.setCell ⟨w.heap.size + 1, 7, none⟩ (.slice A8 C.length c8)).setCell ⟨w.heap.size + 1, 8, none⟩ (.int .i64 ((M : Int) - (k : Int)))) w' → w'.cell? ⟨w.heap.size + 1 + 1 + 1, 2, none⟩ = some (.int .i64 E)) := Lib.hid (fun w' hc => by rw [hc.cell 2 HZg.out.two.rd.lt (by omega), HZg.out.bad, HEE.out])
              clear hE hb0
              go_wp2
              refine wp_region_held_drew (S := fun w' => Chg (· = w.heap.size) ((w40.setCell ⟨w.heap.size + 1, 7, none⟩ (.slice A8 C.length c8)).setCell ⟨w.heap.size + 1, 8, none⟩ (.int .i64 ((M : Int) - (k : Int)))) w') (by kernel_rfl) ((Chg.refl _ _).drew) (fun hch0 => ?_)
              refine wpAnyH_take (i := 0) (v := .agg (cellsH {} nil4).toArray) rfl (by kernel_rfl) (by kernel_rfl) (by kernel_rfl) (by first | exact fun _ _ _ h => h | exact fun _ _ _ h => nomatch h.1) (yieldsIf_load_mid (by rfl) 25 _ rfl (w.heap.size + 1 + 1) 0 rfl (cellsH {} nil4) _ (fun w' hw' => (HZg.out.zero.chg hw' (by omega)).range) Tryd.underlying25 rfl (by exact sizeH)) hch0 ?_
              refine wpAnyH_take (i := 1) (v := .pointer (some ⟨w.heap.size + 1 + 1 + 1, 0, none⟩)) rfl (by kernel_rfl) (by kernel_rfl) (by kernel_rfl) (by first | exact fun _ _ _ h => h | exact fun _ _ _ h => nomatch h.1) (Or.inl ⟨by rfl, fun w_ hw_ => by go_simp⟩) hch0 ?_
              refine wpAnyH_take (i := 2) (v := .pointer (some ⟨w.heap.size + 1 + 1 + 1, 0, none⟩)) rfl (by kernel_rfl) (by kernel_rfl) (by kernel_rfl) (by first | exact fun _ _ _ h => h | exact fun _ _ _ h => nomatch h.1) (Or.inl ⟨by rfl, fun w_ hw_ => by go_simp⟩) hch0 ?_
              try simp only [Act.put, List.setIfInBounds_toArray, List.set_cons_zero, List.set_cons_succ, List.getElem_toArray, List.getElem_cons_succ, List.getElem_cons_zero]
              refine wpAnyH_take (i := 3) (v := .pointer (some ⟨w.heap.size + 1 + 1 + 1, 2, none⟩)) rfl (by kernel_rfl) (by kernel_rfl) (by kernel_rfl) (by first | exact fun _ _ _ h => h | exact fun _ _ _ h => nomatch h.1) (Or.inl ⟨by rfl, fun w_ hw_ => by go_simp⟩) hch0 ?_
              refine wpAnyH_take (i := 4) (v := .int .i64 (E)) rfl (by kernel_rfl) (by kernel_rfl) (by kernel_rfl) (by first | exact fun _ _ _ h => h | exact fun _ _ _ h => nomatch h.1) (Or.inl ⟨by rfl, fun w_ hw_ => by have hh := CX.out w_ hw_; go_simp⟩) hch0 ?_
              try simp only [Act.put, List.setIfInBounds_toArray, List.set_cons_zero, List.set_cons_succ, List.getElem_toArray, List.getElem_cons_succ, List.getElem_cons_zero]
              refine wpAnyH_ready (rs := [5]) (by kernel_rfl) (by simp) ?_
              refine AllReadyH.cons rfl (fun K hK => ?_) AllReadyH.nil
              rw [if_pos (by rfl)]
              try simp only [Act.put, List.setIfInBounds_toArray, List.set_cons_zero, List.set_cons_succ, List.getElem_toArray, List.getElem_cons_succ, List.getElem_cons_zero]
              refine wp_store_row (ty := 25) (xs := cellsH {} nil4) rfl rfl (HZg.out.res.drew) rfl rfl (by exact sizeH) rfl ?_
              intro w9 hr9 hc9 hs9
              have hch9 := hc9 _ ((w40.setCell ⟨w.heap.size + 1, 7, none⟩ (.slice A8 C.length c8)).setCell ⟨w.heap.size + 1, 8, none⟩ (.int .i64 ((M : Int) - (k : Int)))) hch0 (fun _ => rfl)
              refine hK.out _ _ hch9 (fun _ => ?_)
              clear hK K
              try simp only [Act.put, List.setIfInBounds_toArray, List.set_cons_zero, List.set_cons_succ, List.getElem_toArray, List.getElem_cons_succ, List.getElem_cons_zero]
              refine wpAnyH_take (i := 6) (v := .int .i64 (0)) rfl (by kernel_rfl) (by kernel_rfl) (by kernel_rfl) (by first | exact fun _ _ _ h => h | exact fun _ _ _ h => nomatch h.1) (Or.inl ⟨by rfl, fun w_ hw_ => by go_simp⟩) hch9 ?_
              refine wpAnyH_take (i := 7) (v := .int .i64 (E)) rfl (by kernel_rfl) (by kernel_rfl) (by kernel_rfl) (by first | exact fun _ _ _ h => h | exact fun _ _ _ h => nomatch h.1) (Or.inl ⟨by rfl, fun w_ hw_ => by go_simp⟩) hch9 ?_
              try simp only [Act.put, List.setIfInBounds_toArray, List.set_cons_zero, List.set_cons_succ, List.getElem_toArray, List.getElem_cons_succ, List.getElem_cons_zero]
              refine wpAnyH_done (by kernel_rfl) ?_ _
              go_wp2
              refine ret_row3 rfl rfl hr9 Tryd.underlying25 rfl sizeH rfl ?_
              exact ⟨nil4, by rw [HQ.out]; rfl, by rw [HQ.out]; exact nil4_d _ _, HZg.out.chg.andThen hch9 (fun b hb e => by have e : b = w.heap.size := e; omega)⟩
      · have hzn : (sM.2 == 0) = false := by simp [hz]
        have HBADM := Lib.hid hz
        have HSC2 : Hid (sC.2 = sM.2) := Lib.hid (by rw [← EsC.out]; exact rdBytes_keep k sM hz)
        obtain ⟨EM, hEM⟩ : ∃ EM, sM.2 = EM := ⟨_, rfl⟩
        rw [hEM] at hbdM hzn
        clear hz hEM
        go_wp2_with fail
        refine (HM.out.bytes k).mono ?_
        rw [EC.out, EsC.out]
        rintro e w40 ⟨A8, c8, rfl, hb_, h_⟩
        have H40q := Lib.hid h_
        have H40 := Lib.hid (H40q.out.put 7 _ (H40q.out.two.set7 hb_))
        have ck7 := H40q.out.hdcell 7
        rw [cH_7] at ck7
        have cf7 := H40q.out.hdfree 7
        have ck8 := H40q.out.hdcell 8
        rw [cH_8] at ck8
        have cf8 := H40q.out.hdfree 8
        clear h_ hb_
        have HZf := Lib.hid (H40.out.put 8 _ (H40.out.two.set8 ((M : Int) - (k : Int))))
        obtain ⟨HH, hHH⟩ : ∃ HH : Hd, HH = { long := true, kind := 2, version := foldB 0 V, dst := D, src := SR, token := [], cut := C, rest := (M : Int) - (k : Int) } := ⟨_, rfl⟩
        have HZg : Hid (RAll w ((w40.setCell ⟨w.heap.size + 1, 7, none⟩ (.slice A8 C.length c8)).setCell ⟨w.heap.size + 1, 8, none⟩ (.int .i64 ((M : Int) - (k : Int)))) b sC HH ⟨.slice A5 D.length c5, .slice A6 SR.length c6, .slice none 0 0, .slice A8 C.length c8⟩) := Lib.hid (by rw [hHH]; exact HZf.out)
        have HRES : Hid (outP b R = outP b (HH, sC)) := Lib.hid (by
          rw [HRR.out, longR_bad b _ _ M k sM HBADM.out, outP_bad b _ (by show sC.2 ≠ 0; rw [HSC2.out]; exact HBADM.out)]
          exact congrArg (fun e => (({} : Hd), (0 : Int), e)) HSC2.out.symm)
        clear hHH HZf
        obtain ⟨E, hE⟩ : ∃ E, sC.2 = E := ⟨_, rfl⟩
        have hbd := H40q.out.bad
        rw [hE] at hbd
        have HEE := Lib.hid hE
        have HLS := Lib.hid HZg.out.two.sl
        by_cases hb0 : E = 0
        · subst hb0
          have hat := H40q.out.at_ hE
          have HRIGHT := Lib.hid (fun w' (hc : Chg none_ ((w40.setCell ⟨w.heap.size + 1, 7, none⟩ (.slice A8 C.length c8)).setCell ⟨w.heap.size + 1, 8, none⟩ (.int .i64 ((M : Int) - (k : Int)))) w') => rright_sh HH ⟨.slice A5 D.length c5, .slice A6 SR.length c6, .slice none 0 0, .slice A8 C.length c8⟩ w' HLS.out.shape (by have h1 := HLS.out.s; have h2 := HLS.out.t; obtain ⟨_, _, _, h1, _⟩ := h1; obtain ⟨_, _, _, h2, _⟩ := h2; omega))
          clear hE
          by_cases hr : rightH HH = true
          · have HQ : Hid (outP b R = (HH, (b.length : Int) - (sC.1.length : Int), 0)) := Lib.hid (by rw [HRES.out, outP_ok b _ (by exact HEE.out) hr])
            rw [hr] at HRIGHT
            clear hr
            go_wp2_with (first | ((with_reducible show wpList _ _ _ (⟨some 166, .load 25 _, _, _, _, _⟩ :: _) _ _); refine wlH rfl rfl rfl HZg.out.two.row rfl ?_) | (go_at_call 13; refine (HRIGHT.out _ (Chg.refl none_ _)).mono ?_; rintro e w20 ⟨rfl, hc20⟩; have HX20 := Lib.hid (HZg.out.keep hc20); clear hc20))
            have CX : Hid (∀ w', Chg (· = w.heap.size) w20 w' → w'.cell? ⟨w.heap.size + 1 + 1 + 1, 1, none⟩ = some (.int .i64 ((b.length : Int) - (sC.1.length : Int)))) := Lib.hid (fun w' hc => (hc.cell 1 HX20.out.two.rd.lt (by omega)).trans (HX20.out.at_ HEE.out))
            refine wp_region_held_drew (S := fun w' => Chg (· = w.heap.size) w20 w') (by kernel_rfl) ((Chg.refl _ _).drew) (fun hch0 => ?_)
            refine wpAnyH_take (i := 0) (v := .agg (cellsH HH ⟨.slice A5 D.length c5, .slice A6 SR.length c6, .slice none 0 0, .slice A8 C.length c8⟩).toArray) rfl (by kernel_rfl) (by kernel_rfl) (by kernel_rfl) (by first | exact fun _ _ _ h => h | exact fun _ _ _ h => nomatch h.1) (yieldsIf_load_mid (by rfl) 25 _ rfl (w.heap.size + 1) 0 rfl (cellsH HH ⟨.slice A5 D.length c5, .slice A6 SR.length c6, .slice none 0 0, .slice A8 C.length c8⟩) _ (fun w' hw' => (HX20.out.two.row.chg hw' (by omega)).range) Tryd.underlying25 rfl (by exact sizeH)) hch0 ?_
            refine wpAnyH_take (i := 1) (v := .pointer (some ⟨w.heap.size + 1 + 1 + 1, 0, none⟩)) rfl (by kernel_rfl) (by kernel_rfl) (by kernel_rfl) (by first | exact fun _ _ _ h => h | exact fun _ _ _ h => nomatch h.1) (Or.inl ⟨by rfl, fun w_ hw_ => by go_simp⟩) hch0 ?_
            refine wpAnyH_take (i := 2) (v := .pointer (some ⟨w.heap.size + 1 + 1 + 1, 0, none⟩)) rfl (by kernel_rfl) (by kernel_rfl) (by kernel_rfl) (by first | exact fun _ _ _ h => h | exact fun _ _ _ h => nomatch h.1) (Or.inl ⟨by rfl, fun w_ hw_ => by go_simp⟩) hch0 ?_
            try simp only [Act.put, List.setIfInBounds_toArray, List.set_cons_zero, List.set_cons_succ, List.getElem_toArray, List.getElem_cons_succ, List.getElem_cons_zero]
            refine wpAnyH_take (i := 3) (v := .pointer (some ⟨w.heap.size + 1 + 1 + 1, 1, none⟩)) rfl (by kernel_rfl) (by kernel_rfl) (by kernel_rfl) (by first | exact fun _ _ _ h => h | exact fun _ _ _ h => nomatch h.1) (Or.inl ⟨by rfl, fun w_ hw_ => by go_simp⟩) hch0 ?_
            refine wpAnyH_take (i := 4) (v := .int .i64 ((b.length : Int) - (sC.1.length : Int))) rfl (by kernel_rfl) (by kernel_rfl) (by kernel_rfl) (by first | exact fun _ _ _ h => h | exact fun _ _ _ h => nomatch h.1) (Or.inl ⟨by rfl, fun w_ hw_ => by have hh := CX.out w_ hw_; go_simp⟩) hch0 ?_
            try simp only [Act.put, List.setIfInBounds_toArray, List.set_cons_zero, List.set_cons_succ, List.getElem_toArray, List.getElem_cons_succ, List.getElem_cons_zero]
            refine wpAnyH_ready (rs := [5]) (by kernel_rfl) (by simp) ?_
            refine AllReadyH.cons rfl (fun K hK => ?_) AllReadyH.nil
            rw [if_pos (by rfl)]
            try simp only [Act.put, List.setIfInBounds_toArray, List.set_cons_zero, List.set_cons_succ, List.getElem_toArray, List.getElem_cons_succ, List.getElem_cons_zero]
            refine wp_store_row (ty := 25) (xs := cellsH HH ⟨.slice A5 D.length c5, .slice A6 SR.length c6, .slice none 0 0, .slice A8 C.length c8⟩) rfl rfl (HX20.out.res.drew) rfl rfl (by exact sizeH) rfl ?_
            intro w9 hr9 hc9 hs9
            have hch9 := hc9 _ w20 hch0 (fun _ => rfl)
            refine hK.out _ _ hch9 (fun _ => ?_)
            clear hK K
            try simp only [Act.put, List.setIfInBounds_toArray, List.set_cons_zero, List.set_cons_succ, List.getElem_toArray, List.getElem_cons_succ, List.getElem_cons_zero]
            refine wpAnyH_take (i := 6) (v := .int .i64 ((b.length : Int) - (sC.1.length : Int))) rfl (by kernel_rfl) (by kernel_rfl) (by kernel_rfl) (by first | exact fun _ _ _ h => h | exact fun _ _ _ h => nomatch h.1) (Or.inl ⟨by rfl, fun w_ hw_ => by go_simp⟩) hch9 ?_
            refine wpAnyH_take (i := 7) (v := .int .i64 (0)) rfl (by kernel_rfl) (by kernel_rfl) (by kernel_rfl) (by first | exact fun _ _ _ h => h | exact fun _ _ _ h => nomatch h.1) (Or.inl ⟨by rfl, fun w_ hw_ => by go_simp⟩) hch9 ?_
            try simp only [Act.put, List.setIfInBounds_toArray, List.set_cons_zero, List.set_cons_succ, List.getElem_toArray, List.getElem_cons_succ, List.getElem_cons_zero]
            refine wpAnyH_done (by kernel_rfl) ?_ _
            go_wp2
            refine ret_row3 rfl rfl hr9 Tryd.underlying25 rfl sizeH rfl ?_
            exact ⟨⟨.slice A5 D.length c5, .slice A6 SR.length c6, .slice none 0 0, .slice A8 C.length c8⟩, by rw [HQ.out]; rfl, by rw [HQ.out]; exact (HX20.out.two.sl.chg hch9 (fun b hb e => by have h1 := hb.2; omega)).mono (fun b _ h => by have h1 := h.2; omega), HX20.out.chg.andThen hch9 (fun b hb e => by have e : b = w.heap.size := e; omega)⟩
          · have hr : rightH HH = false := by simpa using hr
            have HQ : Hid (outP b R = ({}, 0, 3)) := Lib.hid (by rw [HRES.out, outP_none b _ (by exact HEE.out) hr])
            rw [hr] at HRIGHT
            clear hr
            go_wp2_with (first | ((with_reducible show wpList _ _ _ (⟨some 166, .load 25 _, _, _, _, _⟩ :: _) _ _); refine wlH rfl rfl rfl HZg.out.two.row rfl ?_) | (go_at_call 13; refine (HRIGHT.out _ (Chg.refl none_ _)).mono ?_; rintro e w20 ⟨rfl, hc20⟩; have HX20 := Lib.hid (HZg.out.keep hc20); clear hc20) | ((with_reducible show wpList _ _ _ (⟨_, .load 25 (.tmp 6), _, _, _, _⟩ :: _) _ _); refine wlH rfl rfl rfl HX20.out.zero rfl ?_) | ((with_reducible show wpList _ _ _ (⟨_, .store 25 _ _, _, _, _, _⟩ :: _) _ _); refine wpList_store_Row (xs := cellsH {} nil4) rfl rfl rfl HX20.out.res rfl rfl (by exact sizeH) rfl ?_; intro w99 hr99 hch99 _; have HR99 := Lib.hid hr99; have HC99 := Lib.hid (hch99 none_ w HX20.out.chg (fun h => absurd h (Nat.lt_irrefl _))); clear hr99 hch99))
            refine ret_row3 rfl rfl HR99.out Tryd.underlying25 rfl sizeH rfl ?_
            exact ⟨nil4, by rw [HQ.out]; rfl, by rw [HQ.out]; exact nil4_d _ _, HC99.out⟩
        · have hne : (E != 0) = true := by simp [hb0]
          have HQ : Hid (outP b R = ({}, 0, E)) := Lib.hid (by rw [HRES.out, outP_bad b _ (by show sC.2 ≠ 0; rw [HEE.out]; exact hb0)]; exact congrArg (fun e => (({} : Hd), (0 : Int), e)) HEE.out)
          have CX : Hid (∀ w', Chg (· = w.heap.size) ((w40.setCell ⟨w.heap.size + 1, 7, none⟩ (.slice A8 C.length c8)).setCell ⟨w.heap.size + 1, 8, none⟩ (.int .i64 ((M : Int) - (k : Int)))) w' → w'.cell? ⟨w.heap.size + 1 + 1 + 1, 2, none⟩ = some (.int .i64 E)) := Lib.hid (fun w' hc => by rw [hc.cell 2 HZg.out.two.rd.lt (by omega), HZg.out.bad, HEE.out])
          clear hE hb0
          go_wp2
          refine wp_region_held_drew (S := fun w' => Chg (· = w.heap.size) ((w40.setCell ⟨w.heap.size + 1, 7, none⟩ (.slice A8 C.length c8)).setCell ⟨w.heap.size + 1, 8, none⟩ (.int .i64 ((M : Int) - (k : Int)))) w') (by kernel_rfl) ((Chg.refl _ _).drew) (fun hch0 => ?_)
          refine wpAnyH_take (i := 0) (v := .agg (cellsH {} nil4).toArray) rfl (by kernel_rfl) (by kernel_rfl) (by kernel_rfl) (by first | exact fun _ _ _ h => h | exact fun _ _ _ h => nomatch h.1) (yieldsIf_load_mid (by rfl) 25 _ rfl (w.heap.size + 1 + 1) 0 rfl (cellsH {} nil4) _ (fun w' hw' => (HZg.out.zero.chg hw' (by omega)).range) Tryd.underlying25 rfl (by exact sizeH)) hch0 ?_
          refine wpAnyH_take (i := 1) (v := .pointer (some ⟨w.heap.size + 1 + 1 + 1, 0, none⟩)) rfl (by kernel_rfl) (by kernel_rfl) (by kernel_rfl) (by first | exact fun _ _ _ h => h | exact fun _ _ _ h => nomatch h.1) (Or.inl ⟨by rfl, fun w_ hw_ => by go_simp⟩) hch0 ?_
          refine wpAnyH_take (i := 2) (v := .pointer (some ⟨w.heap.size + 1 + 1 + 1, 0, none⟩)) rfl (by kernel_rfl) (by kernel_rfl) (by kernel_rfl) (by first | exact fun _ _ _ h => h | exact fun _ _ _ h => nomatch h.1) (Or.inl ⟨by rfl, fun w_ hw_ => by go_simp⟩) hch0 ?_
          try simp only [Act.put, List.setIfInBounds_toArray, List.set_cons_zero, List.set_cons_succ, List.getElem_toArray, List.getElem_cons_succ, List.getElem_cons_zero]
          refine wpAnyH_take (i := 3) (v := .pointer (some ⟨w.heap.size + 1 + 1 + 1, 2, none⟩)) rfl (by kernel_rfl) (by kernel_rfl) (by kernel_rfl) (by first | exact fun _ _ _ h => h | exact fun _ _ _ h => nomatch h.1) (Or.inl ⟨by rfl, fun w_ hw_ => by go_simp⟩) hch0 ?_
          refine wpAnyH_take (i := 4) (v := .int .i64 (E)) rfl (by kernel_rfl) (by kernel_rfl) (by kernel_rfl) (by first | exact fun _ _ _ h => h | exact fun _ _ _ h => nomatch h.1) (Or.inl ⟨by rfl, fun w_ hw_ => by have hh := CX.out w_ hw_; go_simp⟩) hch0 ?_
          try simp only [Act.put, List.setIfInBounds_toArray, List.set_cons_zero, List.set_cons_succ, List.getElem_toArray, List.getElem_cons_succ, List.getElem_cons_zero]
          refine wpAnyH_ready (rs := [5]) (by kernel_rfl) (by simp) ?_
          refine AllReadyH.cons rfl (fun K hK => ?_) AllReadyH.nil
          rw [if_pos (by rfl)]
          try simp only [Act.put, List.setIfInBounds_toArray, List.set_cons_zero, List.set_cons_succ, List.getElem_toArray, List.getElem_cons_succ, List.getElem_cons_zero]
          refine wp_store_row (ty := 25) (xs := cellsH {} nil4) rfl rfl (HZg.out.res.drew) rfl rfl (by exact sizeH) rfl ?_
          intro w9 hr9 hc9 hs9
          have hch9 := hc9 _ ((w40.setCell ⟨w.heap.size + 1, 7, none⟩ (.slice A8 C.length c8)).setCell ⟨w.heap.size + 1, 8, none⟩ (.int .i64 ((M : Int) - (k : Int)))) hch0 (fun _ => rfl)
          refine hK.out _ _ hch9 (fun _ => ?_)
          clear hK K
          try simp only [Act.put, List.setIfInBounds_toArray, List.set_cons_zero, List.set_cons_succ, List.getElem_toArray, List.getElem_cons_succ, List.getElem_cons_zero]
          refine wpAnyH_take (i := 6) (v := .int .i64 (0)) rfl (by kernel_rfl) (by kernel_rfl) (by kernel_rfl) (by first | exact fun _ _ _ h => h | exact fun _ _ _ h => nomatch h.1) (Or.inl ⟨by rfl, fun w_ hw_ => by go_simp⟩) hch9 ?_
          refine wpAnyH_take (i := 7) (v := .int .i64 (E)) rfl (by kernel_rfl) (by kernel_rfl) (by kernel_rfl) (by first | exact fun _ _ _ h => h | exact fun _ _ _ h => nomatch h.1) (Or.inl ⟨by rfl, fun w_ hw_ => by go_simp⟩) hch9 ?_
          try simp only [Act.put, List.setIfInBounds_toArray, List.set_cons_zero, List.set_cons_succ, List.getElem_toArray, List.getElem_cons_succ, List.getElem_cons_zero]
          refine wpAnyH_done (by kernel_rfl) ?_ _
          go_wp2
          refine ret_row3 rfl rfl hr9 Tryd.underlying25 rfl sizeH rfl ?_
          exact ⟨nil4, by rw [HQ.out]; rfl, by rw [HQ.out]; exact nil4_d _ _, HZg.out.chg.andThen hch9 (fun b hb e => by have e : b = w.heap.size := e; omega)⟩
end Go.Proofs.YtfecmloaopbogaaDoor
