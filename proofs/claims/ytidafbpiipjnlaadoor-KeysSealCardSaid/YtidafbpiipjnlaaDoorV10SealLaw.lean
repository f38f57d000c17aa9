/- Layer 10 (keys): the walk of the law KeysSeal. -/
import Derived.Test.YtidafbpiipjnlaaDoorV10Alive
import Derived.Test.YtidafbpiipjnlaaDoorV10RSeal
namespace Go.Proofs.YtidafbpiipjnlaaDoor
open Go.RowKit

set_option maxRecDepth 100000 in
set_option maxHeartbeats 4000000 in
theorem walk_KeysSeal (h : List Nat) (n : Int) (A : Option Addr) (len cap : Nat) (zs : List Int) (A' : Option Addr) (len' cap' : Nat) (zs' : List Int) (W : World) (hhl : h.length = 32) (hhb : ∀ x ∈ h, x < 256) (_ : (Lit.int .i64 n).wf = true) (x0 : IsRow .u8 W A len cap zs) (x1 : IsRow .u8 W A' len' cap' zs') (hK : KTab W) :
    Calls Tryd.prog 4 #[.agg (u8s h).toArray, .int .i64 n, .slice A len cap, .slice A' len' cap'] W fun e w' => e = .returned (.bool true) ∧ Chg none_ W w' := by
  obtain ⟨more, rfl, hmc, hmm, hmb, hmv⟩ := x0.u8
  obtain ⟨text, rfl, htc, htm, htb, htv⟩ := x1.u8
  clear x0 x1
  have HHL := Lib.hid hhl
  have HAL : Hid (∀ w, Chg none_ W w → Calls Tryd.prog 8 #[] w fun e w' => e = .returned (.bool true) ∧ Chg none_ w w') := Lib.hid (fun w hc => alive_any w (hK.chg hc))
  have hmx : more.length ≤ 9223372036854775807 := by unfold maxLen at hmm; omega
  have htx : text.length ≤ 9223372036854775807 := by unfold maxLen at htm; omega
  by_cases hlm : 100 < more.length
  · have hd1 : decide ((100 : Int) < (more.length : Int)) = true := by simp; omega
    clear hhl hhb hmc hmm hmb hmv htc htm htb htv hK
    go_enter Tryd.func4, Tryd.ntmps4
    go_wp2_with (first | ((with_reducible show wpList _ _ _ (⟨some 4, .box 23 _, _, _, _, _⟩ :: _) _ _); refine wpList_box_Row rfl rfl (u8s h) rfl ?_; intro w1 hr1 hc1 hs1; have HRH1 := Lib.hid hr1; have HC1 := Lib.hid hc1; clear hr1 hc1 hs1) | (go_at_call 8; with_reducible refine (HAL.out _ HC1.out).mono ?_; rintro e w2 ⟨rfl, hc2⟩; have HC2 := Lib.hid (HC1.out.trans hc2); have HRH2 := Lib.hid (HRH1.out.chg hc2 (fun h => h)); clear hc2))
    go_ret
    exact ⟨rfl, HC2.out⟩
  have hd1 : decide ((100 : Int) < (more.length : Int)) = false := by simp; omega
  by_cases hlt : 200 < text.length
  · have hd2 : decide ((200 : Int) < (text.length : Int)) = true := by simp; omega
    clear hhl hhb hmc hmm hmb hmv htc htm htb htv hK
    go_enter Tryd.func4, Tryd.ntmps4
    go_wp2_with (first | ((with_reducible show wpList _ _ _ (⟨some 4, .box 23 _, _, _, _, _⟩ :: _) _ _); refine wpList_box_Row rfl rfl (u8s h) rfl ?_; intro w1 hr1 hc1 hs1; have HRH1 := Lib.hid hr1; have HC1 := Lib.hid hc1; clear hr1 hc1 hs1) | (go_at_call 8; with_reducible refine (HAL.out _ HC1.out).mono ?_; rintro e w2 ⟨rfl, hc2⟩; have HC2 := Lib.hid (HC1.out.trans hc2); have HRH2 := Lib.hid (HRH1.out.chg hc2 (fun h => h)); clear hc2))
    go_ret
    exact ⟨rfl, HC2.out⟩
  have hd2 : decide ((200 : Int) < (text.length : Int)) = false := by simp; omega
  obtain ⟨M, hM⟩ : ∃ M, M = makeN h false := ⟨_, rfl⟩
  have hMO : M.Ok := by rw [hM]; exact makeN_ok h false
  have HMO := Lib.hid hMO
  have HMK : Hid (∀ w, Chg none_ W w → Calls Tryd.prog 9 #[.agg (u8s h).toArray, .bool false] w fun e w' => e = .returned (.agg (cellsS M).toArray) ∧ Chg none_ w w') := Lib.hid (fun w hc => by rw [hM]; exact Make_any h false w hhl hhb (hK.chg hc))
  obtain ⟨L, hL⟩ : ∃ L, L = (openK M n more text).1.length := ⟨_, rfl⟩
  have hLl : L ≤ 300 := by
    rw [hL]
    unfold openK openG
    split
    · exact Nat.zero_le _
    · split
      · rw [streamN_len, List.length_take]; omega
      · exact Nat.zero_le _
  obtain ⟨N, hN⟩ : ∃ N, N = (sealK M n more text).length := ⟨_, rfl⟩
  have hNl : N ≤ 300 := by rw [hN, sealK_len]; omega
  have HO1 : Hid (∀ w, Chg none_ W w → Calls Tryd.prog 16 #[.agg (cellsS M).toArray, .int .i64 n, .slice A more.length cap, .slice A' text.length cap'] w fun e w' => ∃ A4 c4, e = .returned (.tuple #[.slice A4 L c4, .int .i64 (openK M n more text).2]) ∧ View w' (fun b => b < w'.heap.size) A4 L (u8s (openK M n more text).1) ∧ Chg none_ w w') := Lib.hid (fun w hc => by
    refine (kOpen_any M n more text _ _ A A' cap cap' w hMO (hmv.chg hc (fun _ _ h => h)) hmc htc (by omega) hmb (htv.chg hc (fun _ _ h => h)) (by omega) htb).mono ?_
    rintro e w' ⟨v, rfl, ho, hc2⟩
    obtain ⟨A4, c4, rfl, _, hv⟩ := ho.viewLt9
    rw [← hL] at hv ⊢
    exact ⟨A4, c4, rfl, hv, hc2⟩)
  have HO2 : Hid (∀ w, Chg none_ W w → Calls Tryd.prog 17 #[.agg (cellsS M).toArray, .int .i64 n, .slice A more.length cap, .slice A' text.length cap'] w fun e w' => ∃ A4 c4, e = .returned (.tuple #[.slice A4 L c4, .int .i64 (openK M n more text).2]) ∧ View w' (fun b => b < w'.heap.size) A4 L (u8s (openK M n more text).1) ∧ Chg none_ w w') := Lib.hid (fun w hc => by
    refine (rkOpen_any M n more text _ _ A A' cap cap' w hMO (hmv.chg hc (fun _ _ h => h)) htc (by omega) hmb (htv.chg hc (fun _ _ h => h)) (by omega) htb).mono ?_
    rintro e w' ⟨v, rfl, ho, hc2⟩
    obtain ⟨A4, c4, rfl, _, hv⟩ := ho.viewLt9
    rw [← hL] at hv ⊢
    exact ⟨A4, c4, rfl, hv, hc2⟩)
  have HS1 : Hid (∀ w, Chg none_ W w → Calls Tryd.prog 19 #[.agg (cellsS M).toArray, .int .i64 n, .slice A more.length cap, .slice A' text.length cap'] w fun e w' => ∃ A4 c4, e = .returned (.slice A4 N c4) ∧ View w' (fun b => b < w'.heap.size) A4 N (u8s (sealK M n more text)) ∧ Chg none_ w w') := Lib.hid (fun w hc => by
    refine (kSeal_any M n more text _ _ A A' cap cap' w hMO (hmv.chg hc (fun _ _ h => h)) hmc (by omega) hmb (htv.chg hc (fun _ _ h => h)) (by omega) htb).mono ?_
    rintro e w' ⟨v, rfl, ho, hc2⟩
    obtain ⟨A4, c4, rfl, _, hv⟩ := ho.viewLt9
    rw [← hN] at hv ⊢
    exact ⟨A4, c4, rfl, hv, hc2⟩)
  have HS2 : Hid (∀ w, Chg none_ W w → Calls Tryd.prog 20 #[.agg (cellsS M).toArray, .int .i64 n, .slice A more.length cap, .slice A' text.length cap'] w fun e w' => ∃ A4 c4, e = .returned (.slice A4 N c4) ∧ View w' (fun b => b < w'.heap.size) A4 N (u8s (sealK M n more text)) ∧ Chg none_ w w') := Lib.hid (fun w hc => by
    refine (rkSeal_any M n more text _ _ A A' cap cap' w hMO (hmv.chg hc (fun _ _ h => h)) (by omega) hmb (htv.chg hc (fun _ _ h => h)) (by omega) htb).mono ?_
    rintro e w' ⟨v, rfl, ho, hc2⟩
    obtain ⟨A4, c4, rfl, _, hv⟩ := ho.viewLt9
    rw [← hN] at hv ⊢
    exact ⟨A4, c4, rfl, hv, hc2⟩)
  have sam : ∀ (S : List Nat) (N : Nat), N = S.length → N ≤ 300 → ∀ (w : World) A1 A2 c1 c2 (T1 T2 : Nat → Prop), View w T1 A1 N (u8s S) → View w T2 A2 N (u8s S) → Calls Tryd.prog 18 #[.slice A1 N c1, .slice A2 N c2] w fun e w' => e = .returned (.bool true) ∧ ∃ k, w' = w.drewN k := fun S N h1 h2 w A1 A2 c1 c2 T1 T2 hv1 hv2 => by
    subst h1
    have := same_any w T1 T2 A1 A2 c1 c2 S S hv1 hv2 (by omega)
    rwa [decide_eq_true rfl] at this
  have HM1 := Lib.hid (fun w A1 A2 c1 c2 {T1 T2 : Nat → Prop} => sam (sealK M n more text) N hN hNl w A1 A2 c1 c2 T1 T2)
  have HM2 := Lib.hid (fun w A1 A2 c1 c2 {T1 T2 : Nat → Prop} => sam (openK M n more text).1 L hL hLl w A1 A2 c1 c2 T1 T2)
  generalize sealK M n more text = SG at HS1 HS2 HM1
  obtain ⟨z, hz⟩ : ∃ z, z = (openK M n more text).2 := ⟨_, rfl⟩
  obtain ⟨OP, hop⟩ : ∃ z, z = (openK M n more text).1 := ⟨_, rfl⟩
  rw [← hz, ← hop] at HO1 HO2
  rw [← hop] at HM2
  clear hhl hhb hmc hmm hmb hmv htc htm htb htv sam hL hN hz hop hK hM hMO
  go_enter Tryd.func4, Tryd.ntmps4
  go_wp2_with (first | ((with_reducible show wpList _ _ _ (⟨some 4, .box 23 _, _, _, _, _⟩ :: _) _ _); refine wpList_box_Row rfl rfl (u8s h) rfl ?_; intro w1 hr1 hc1 hs1; have HRH1 := Lib.hid hr1; have HC1 := Lib.hid hc1; clear hr1 hc1 hs1) | (go_at_call 8; with_reducible refine (HAL.out _ HC1.out).mono ?_; rintro e w2 ⟨rfl, hc2⟩; have HC2 := Lib.hid (HC1.out.trans hc2); have HRH2 := Lib.hid (HRH1.out.chg hc2 (fun h => h)); clear hc2) | ((with_reducible show wpList _ _ _ (⟨some 24, .load 23 _, _, _, _, _⟩ :: _) _ _); refine wpList_load_Row rfl rfl rfl (HRH2.out) Tryd.underlying23 rfl (by rw [u8s_length, HHL.out]; exact size25) ?_) | (go_at_call 9; with_reducible refine (HMK.out _ HC2.out).mono ?_; rintro e w3 ⟨rfl, hc3⟩; have HC3 := Lib.hid (HC2.out.trans hc3); clear hc3) | ((with_reducible show wpList _ _ _ (⟨some 9, .alloc 29, _, _, _, _⟩ :: _) _ _); refine wpList_alloc_Row rfl rfl (zeroS) zeroSc ?_; intro w4 hr4 hc4 hs4; have HR4 := Lib.hid hr4; have HC4 := Lib.hid (HC3.out.trans hc4); clear hr4 hc4 hs4) | ((with_reducible show wpList _ _ _ (⟨_, .store 29 (.tmp 9) _, _, _, _, _⟩ :: _) _ _); refine wpList_store_Row (xs := cellsS M) rfl rfl rfl (HR4.out) (rfl) (by rw [cellsS_len HMO.out]; rfl) (by rw [cellsS_len HMO.out]; exact sizeSc) (cellsS_one M) ?_; intro w5 hr5 hc5 hs5; have HRM5 := Lib.hid hr5; have HC5 := Lib.hid (hc5 none_ W HC4.out (fun h => by have := HC3.out.size; omega)); clear hr5 hc5 hs5) | ((with_reducible show wpList _ _ _ (⟨some 27, .load 29 _, _, _, _, _⟩ :: _) _ _); refine wpList_load_Row rfl rfl rfl (HRM5.out) Tryd.underlying29 rfl (by rw [cellsS_len HMO.out]; exact sizeSc) ?_) | (go_at_call 16; with_reducible refine (HO1.out _ HC5.out).mono ?_; rintro e w6 ⟨A6, c6, rfl, hv6, hc6⟩; have HC6 := Lib.hid (HC5.out.trans hc6); have HV6 := Lib.hid hv6; have HRM6 := Lib.hid (HRM5.out.chg hc6 (fun h => h)); clear hv6 hc6) | ((with_reducible show wpList _ _ _ (⟨some 35, .load 29 _, _, _, _, _⟩ :: _) _ _); refine wpList_load_Row rfl rfl rfl (HRM6.out) Tryd.underlying29 rfl (by rw [cellsS_len HMO.out]; exact sizeSc) ?_) | (go_at_call 17; with_reducible refine (HO2.out _ HC6.out).mono ?_; rintro e w7 ⟨A7, c7, rfl, hv7, hc7⟩; have HC7 := Lib.hid (HC6.out.trans hc7); have HV7 := Lib.hid hv7; have HV6b := Lib.hid (HV6.out.chg hc7 (fun _ _ h => h)); have HRM7 := Lib.hid (HRM6.out.chg hc7 (fun h => h)); clear hv7 hc7))
  try simp only [Act.put, List.setIfInBounds_toArray, List.set_cons_zero, List.set_cons_succ]
  refine wp_region_held_drew (S := fun w' => Chg none_ w7 w') (by kernel_rfl) ((Chg.refl none_ w7).drew) (fun hch0 => ?_)
  generalize w7.drew = wd at hch0 ⊢
  refine wpAnyH_take (i := 0) (v := .agg (cellsS M).toArray) rfl (by kernel_rfl) (by kernel_rfl) (by kernel_rfl) (by first | exact fun _ _ _ h => h | exact fun _ _ _ h => nomatch h.1) (yieldsIf_load_mid (by rfl) 29 _ rfl w3.heap.size 0 rfl (cellsS M) _ (fun w' hw' => (HRM7.out.chg hw' (fun h => h)).range) Tryd.underlying29 rfl (by rw [cellsS_len HMO.out]; exact sizeSc)) hch0 ?_
  refine wpAnyH_take (i := 1) (v := .int .i64 n) rfl (by kernel_rfl) (by kernel_rfl) (by kernel_rfl) (by first | exact fun _ _ _ h => h | exact fun _ _ _ h => nomatch h.1) (Or.inl ⟨by rfl, fun w_ hw_ => by go_simp⟩) hch0 ?_
  refine wpAnyH_take (i := 2) (v := .slice A more.length cap) rfl (by kernel_rfl) (by kernel_rfl) (by kernel_rfl) (by first | exact fun _ _ _ h => h | exact fun _ _ _ h => nomatch h.1) (Or.inl ⟨by rfl, fun w_ hw_ => by go_simp⟩) hch0 ?_
  refine wpAnyH_take (i := 3) (v := .slice A' text.length cap') rfl (by kernel_rfl) (by kernel_rfl) (by kernel_rfl) (by first | exact fun _ _ _ h => h | exact fun _ _ _ h => nomatch h.1) (Or.inl ⟨by rfl, fun w_ hw_ => by go_simp⟩) hch0 ?_
  try simp only [Act.put, List.setIfInBounds_toArray, List.set_cons_zero, List.set_cons_succ, List.getElem_toArray, List.getElem_cons_succ, List.getElem_cons_zero]
  refine wpAnyH_take (i := 5) (v := .agg (cellsS M).toArray) rfl (by kernel_rfl) (by kernel_rfl) (by kernel_rfl) (by first | exact fun _ _ _ h => h | exact fun _ _ _ h => nomatch h.1) (yieldsIf_load_mid (by rfl) 29 _ rfl w3.heap.size 0 rfl (cellsS M) _ (fun w' hw' => (HRM7.out.chg hw' (fun h => h)).range) Tryd.underlying29 rfl (by rw [cellsS_len HMO.out]; exact sizeSc)) hch0 ?_
  refine wpAnyH_take (i := 6) (v := .int .i64 n) rfl (by kernel_rfl) (by kernel_rfl) (by kernel_rfl) (by first | exact fun _ _ _ h => h | exact fun _ _ _ h => nomatch h.1) (Or.inl ⟨by rfl, fun w_ hw_ => by go_simp⟩) hch0 ?_
  refine wpAnyH_take (i := 7) (v := .slice A more.length cap) rfl (by kernel_rfl) (by kernel_rfl) (by kernel_rfl) (by first | exact fun _ _ _ h => h | exact fun _ _ _ h => nomatch h.1) (Or.inl ⟨by rfl, fun w_ hw_ => by go_simp⟩) hch0 ?_
  refine wpAnyH_take (i := 8) (v := .slice A' text.length cap') rfl (by kernel_rfl) (by kernel_rfl) (by kernel_rfl) (by first | exact fun _ _ _ h => h | exact fun _ _ _ h => nomatch h.1) (Or.inl ⟨by rfl, fun w_ hw_ => by go_simp⟩) hch0 ?_
  try simp only [Act.put, List.setIfInBounds_toArray, List.set_cons_zero, List.set_cons_succ, List.getElem_toArray, List.getElem_cons_succ, List.getElem_cons_zero]
  refine wpAnyH_ready (rs := [4]) (by kernel_rfl) (by simp) ?_
  refine AllReadyH.cons rfl (fun K hK => ?_) AllReadyH.nil
  rw [if_pos (by rfl)]
  try simp only [Act.put, List.setIfInBounds_toArray, List.set_cons_zero, List.set_cons_succ, List.getElem_toArray, List.getElem_cons_succ, List.getElem_cons_zero]
  go_simp
  refine (HS1.out _ (HC7.out.trans hch0)).mono ?_
  rintro e x1 ⟨A8, c8, rfl, hv8, hcx1⟩
  have hch1 : Chg none_ w7 x1 := hch0.trans hcx1
  refine hK.out _ _ (hch1) (fun _ => ?_)
  clear hK K
  try simp only [Act.put, List.setIfInBounds_toArray, List.set_cons_zero, List.set_cons_succ, List.getElem_toArray, List.getElem_cons_succ, List.getElem_cons_zero]
  refine wpAnyH_ready (rs := [9]) (by kernel_rfl) (by simp) ?_
  refine AllReadyH.cons rfl (fun K hK => ?_) AllReadyH.nil
  rw [if_pos (by rfl)]
  try simp only [Act.put, List.setIfInBounds_toArray, List.set_cons_zero, List.set_cons_succ, List.getElem_toArray, List.getElem_cons_succ, List.getElem_cons_zero]
  go_simp
  refine (HS2.out _ (HC7.out.trans hch1)).mono ?_
  rintro e x2 ⟨A9, c9, rfl, hv9, hcx2⟩
  have hch2 : Chg none_ w7 x2 := hch1.trans hcx2
  refine hK.out _ _ (hch2) (fun _ => ?_)
  clear hK K
  try simp only [Act.put, List.setIfInBounds_toArray, List.set_cons_zero, List.set_cons_succ, List.getElem_toArray, List.getElem_cons_succ, List.getElem_cons_zero]
  refine wpAnyH_ready (rs := [10]) (by kernel_rfl) (by simp) ?_
  refine AllReadyH.cons rfl (fun K hK => ?_) AllReadyH.nil
  rw [if_pos (by rfl)]
  try simp only [Act.put, List.setIfInBounds_toArray, List.set_cons_zero, List.set_cons_succ, List.getElem_toArray, List.getElem_cons_succ, List.getElem_cons_zero]
  go_simp
  refine (HM1.out _ _ _ _ _ (hv8.chg hcx2 (fun _ _ h => h)) hv9).mono ?_
  rintro e x3_ ⟨rfl, nk, rfl⟩
  have hch3 : Chg none_ w7 (x2.drewN nk) := hch2.drewN nk
  generalize x2.drewN nk = x3 at hch3 ⊢
  refine hK.out _ _ (hch3) (fun _ => ?_)
  clear hK K
  try simp only [Act.put, List.setIfInBounds_toArray, List.set_cons_zero, List.set_cons_succ, List.getElem_toArray, List.getElem_cons_succ, List.getElem_cons_zero]
  refine wpAnyH_take (i := 11) (v := .bool true) rfl (by kernel_rfl) (by kernel_rfl) (by kernel_rfl) (by first | exact fun _ _ _ h => h | exact fun _ _ _ h => nomatch h.1) (Or.inl ⟨by rfl, fun w_ hw_ => by go_simp⟩) hch3 ?_
  try simp only [Act.put, List.setIfInBounds_toArray, List.set_cons_zero, List.set_cons_succ, List.getElem_toArray, List.getElem_cons_succ, List.getElem_cons_zero]
  refine wpAnyH_take (i := 12) (v := .int .i64 z) rfl (by kernel_rfl) (by kernel_rfl) (by kernel_rfl) (by first | exact fun _ _ _ h => h | exact fun _ _ _ h => nomatch h.1) (Or.inl ⟨by rfl, fun w_ hw_ => by go_simp⟩) hch3 ?_
  refine wpAnyH_take (i := 13) (v := .int .i64 z) rfl (by kernel_rfl) (by kernel_rfl) (by kernel_rfl) (by first | exact fun _ _ _ h => h | exact fun _ _ _ h => nomatch h.1) (Or.inl ⟨by rfl, fun w_ hw_ => by go_simp⟩) hch3 ?_
  try simp only [Act.put, List.setIfInBounds_toArray, List.set_cons_zero, List.set_cons_succ, List.getElem_toArray, List.getElem_cons_succ, List.getElem_cons_zero]
  refine wpAnyH_take (i := 14) (v := .bool true) rfl (by kernel_rfl) (by kernel_rfl) (by kernel_rfl) (by first | exact fun _ _ _ h => h | exact fun _ _ _ h => nomatch h.1) (Or.inl ⟨by rfl, fun w_ hw_ => by go_simp⟩) hch3 ?_
  try simp only [Act.put, List.setIfInBounds_toArray, List.set_cons_zero, List.set_cons_succ, List.getElem_toArray, List.getElem_cons_succ, List.getElem_cons_zero]
  refine wpAnyH_take (i := 15) (v := .bool true) rfl (by kernel_rfl) (by kernel_rfl) (by kernel_rfl) (by first | exact fun _ _ _ h => h | exact fun _ _ _ h => nomatch h.1) (Or.inl ⟨by rfl, fun w_ hw_ => by go_simp⟩) hch3 ?_
  try simp only [Act.put, List.setIfInBounds_toArray, List.set_cons_zero, List.set_cons_succ, List.getElem_toArray, List.getElem_cons_succ, List.getElem_cons_zero]
  refine wpAnyH_take (i := 16) (v := .bool true) rfl (by kernel_rfl) (by kernel_rfl) (by kernel_rfl) (by first | exact fun _ _ _ h => h | exact fun _ _ _ h => nomatch h.1) (Or.inl ⟨by rfl, fun w_ hw_ => by go_simp⟩) hch3 ?_
  try simp only [Act.put, List.setIfInBounds_toArray, List.set_cons_zero, List.set_cons_succ, List.getElem_toArray, List.getElem_cons_succ, List.getElem_cons_zero]
  refine wpAnyH_take (i := 17) (v := .slice A6 L c6) rfl (by kernel_rfl) (by kernel_rfl) (by kernel_rfl) (by first | exact fun _ _ _ h => h | exact fun _ _ _ h => nomatch h.1) (Or.inl ⟨by rfl, fun w_ hw_ => by go_simp⟩) hch3 ?_
  refine wpAnyH_take (i := 18) (v := .slice A7 L c7) rfl (by kernel_rfl) (by kernel_rfl) (by kernel_rfl) (by first | exact fun _ _ _ h => h | exact fun _ _ _ h => nomatch h.1) (Or.inl ⟨by rfl, fun w_ hw_ => by go_simp⟩) hch3 ?_
  try simp only [Act.put, List.setIfInBounds_toArray, List.set_cons_zero, List.set_cons_succ, List.getElem_toArray, List.getElem_cons_succ, List.getElem_cons_zero]
  refine wpAnyH_ready (rs := [19]) (by kernel_rfl) (by simp) ?_
  refine AllReadyH.cons rfl (fun K hK => ?_) AllReadyH.nil
  rw [if_pos (by rfl)]
  try simp only [Act.put, List.setIfInBounds_toArray, List.set_cons_zero, List.set_cons_succ, List.getElem_toArray, List.getElem_cons_succ, List.getElem_cons_zero]
  go_simp
  refine (HM2.out _ _ _ _ _ (HV6b.out.chg hch3 (fun _ _ h => h)) (HV7.out.chg hch3 (fun _ _ h => h))).mono ?_
  rintro e x4_ ⟨rfl, nk2, rfl⟩
  have hch4 : Chg none_ w7 (x3.drewN nk2) := hch3.drewN nk2
  generalize x3.drewN nk2 = x4 at hch4 ⊢
  refine hK.out _ _ (hch4) (fun _ => ?_)
  clear hK K
  try simp only [Act.put, List.setIfInBounds_toArray, List.set_cons_zero, List.set_cons_succ, List.getElem_toArray, List.getElem_cons_succ, List.getElem_cons_zero]
  refine wpAnyH_take (i := 20) (v := .bool true) rfl (by kernel_rfl) (by kernel_rfl) (by kernel_rfl) (by first | exact fun _ _ _ h => h | exact fun _ _ _ h => nomatch h.1) (Or.inl ⟨by rfl, fun w_ hw_ => by go_simp⟩) hch4 ?_
  refine wpAnyH_take (i := 21) (v := .bool true) rfl (by kernel_rfl) (by kernel_rfl) (by kernel_rfl) (by first | exact fun _ _ _ h => h | exact fun _ _ _ h => nomatch h.1) (Or.inl ⟨by rfl, fun w_ hw_ => by go_simp⟩) hch4 ?_
  try simp only [Act.put, List.setIfInBounds_toArray, List.set_cons_zero, List.set_cons_succ, List.getElem_toArray, List.getElem_cons_succ, List.getElem_cons_zero]
  refine wpAnyH_done (by kernel_rfl) ?_ _
  go_wp2
  go_ret
  exact ⟨rfl, HC7.out.trans hch4⟩
end Go.Proofs.YtidafbpiipjnlaaDoor
