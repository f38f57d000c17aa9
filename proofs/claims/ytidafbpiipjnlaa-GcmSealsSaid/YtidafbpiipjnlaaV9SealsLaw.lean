/- Layer 9 (gcm): the walk of the law GcmSeals. -/
import Derived.Test.YtidafbpiipjnlaaV9Alive
import Derived.Test.YtidafbpiipjnlaaV9Open
import Derived.Test.YtidafbpiipjnlaaV9ROpen
namespace Go.Proofs.Ytidafbpiipjnlaa
open Go.RowKit

set_option maxRecDepth 100000 in
set_option maxHeartbeats 2000000 in
theorem walk_GcmSeals (key nonce : List Nat) (A : Option Addr) (len cap : Nat) (zs : List Int) (A' : Option Addr) (len' cap' : Nat) (zs' : List Int) (W : World) (hk : key.length = 16) (hkb : ∀ x ∈ key, x < 256) (hn : nonce.length = 12) (hnb : ∀ x ∈ nonce, x < 256) (x0 : IsRow .u8 W A len cap zs) (x1 : IsRow .u8 W A' len' cap' zs') :
    Calls Try.prog 3 #[.agg (u8s key).toArray, .agg (u8s nonce).toArray, .slice A len cap, .slice A' len' cap'] W fun e w' => e = .returned (.bool true) ∧ Chg none_ W w' := by
  obtain ⟨more, rfl, hmc, hmm, hmb, hmv⟩ := x0.u8
  obtain ⟨text, rfl, htc, htm, htb, htv⟩ := x1.u8
  clear x0 x1
  have HKL := Lib.hid hk
  have HNL := Lib.hid hn
  have hmx : more.length ≤ 9223372036854775807 := by unfold maxLen at hmm; omega
  have htx : text.length ≤ 9223372036854775807 := by unfold maxLen at htm; omega
  by_cases hlm : 200 < more.length
  · have hd1 : decide ((200 : Int) < (more.length : Int)) = true := by simp; omega
    clear hk hkb hn hnb hmc hmm hmb hmv htc htm htb htv
    go_enter Try.func3, Try.ntmps3
    go_wp2_with (first | ((with_reducible show wpList _ _ _ (⟨some 4, .box 22 _, _, _, _, _⟩ :: _) _ _); refine wpList_box_Row rfl rfl (u8s key) rfl ?_; intro w1 hr1 hc1 hs1; have HR1 := Lib.hid hr1; have HC1 := Lib.hid hc1; clear hr1 hc1 hs1) | ((with_reducible show wpList _ _ _ (⟨some 5, .box 23 _, _, _, _, _⟩ :: _) _ _); refine wpList_box_Row rfl rfl (u8s nonce) rfl ?_; intro w2 hr2 hc2 hs2; have HR2 := Lib.hid hr2; have HC2 := Lib.hid (HC1.out.trans hc2); have HR1b := Lib.hid (HR1.out.chg hc2 (fun h => h)); clear hr2 hc2 hs2) | (go_at_call 4; refine (alive_any _).mono ?_; rintro e w3 ⟨rfl, hc3⟩; have HC3 := Lib.hid (HC2.out.trans hc3); have HRA := Lib.hid (HR1b.out.chg hc3 (fun h => h)); have HRB := Lib.hid (HR2.out.chg hc3 (fun h => h)); clear hc3))
    go_ret
    exact ⟨rfl, HC3.out⟩
  have hd1 : decide ((200 : Int) < (more.length : Int)) = false := by simp; omega
  by_cases hlt : 200 < text.length
  · have hd2 : decide ((200 : Int) < (text.length : Int)) = true := by simp; omega
    clear hk hkb hn hnb hmc hmm hmb hmv htc htm htb htv
    go_enter Try.func3, Try.ntmps3
    go_wp2_with (first | ((with_reducible show wpList _ _ _ (⟨some 4, .box 22 _, _, _, _, _⟩ :: _) _ _); refine wpList_box_Row rfl rfl (u8s key) rfl ?_; intro w1 hr1 hc1 hs1; have HR1 := Lib.hid hr1; have HC1 := Lib.hid hc1; clear hr1 hc1 hs1) | ((with_reducible show wpList _ _ _ (⟨some 5, .box 23 _, _, _, _, _⟩ :: _) _ _); refine wpList_box_Row rfl rfl (u8s nonce) rfl ?_; intro w2 hr2 hc2 hs2; have HR2 := Lib.hid hr2; have HC2 := Lib.hid (HC1.out.trans hc2); have HR1b := Lib.hid (HR1.out.chg hc2 (fun h => h)); clear hr2 hc2 hs2) | (go_at_call 4; refine (alive_any _).mono ?_; rintro e w3 ⟨rfl, hc3⟩; have HC3 := Lib.hid (HC2.out.trans hc3); have HRA := Lib.hid (HR1b.out.chg hc3 (fun h => h)); have HRB := Lib.hid (HR2.out.chg hc3 (fun h => h)); clear hc3))
    go_ret
    exact ⟨rfl, HC3.out⟩
  have hd2 : decide ((200 : Int) < (text.length : Int)) = false := by simp; omega
  obtain ⟨L, hL⟩ : ∃ L, L = (openG key nonce more text).1.length := ⟨_, rfl⟩
  have hLl : L ≤ 300 := by
    rw [hL]
    unfold openG
    split
    · exact Nat.zero_le _
    · split
      · rw [streamN_len, List.length_take]; omega
      · exact Nat.zero_le _
  obtain ⟨M, hM⟩ : ∃ M, M = (sealG key nonce more text).length := ⟨_, rfl⟩
  have hMl : M ≤ 300 := by rw [hM, sealG_len]; omega
  have HO1 : Hid (∀ w, Chg none_ W w → Calls Try.prog 5 #[.agg (u8s key).toArray, .agg (u8s nonce).toArray, .slice A more.length cap, .slice A' text.length cap'] w fun e w' => ∃ A4 c4, e = .returned (.tuple #[.slice A4 L c4, .int .i64 (openG key nonce more text).2]) ∧ View w' (fun b => b < w'.heap.size) A4 L (u8s (openG key nonce more text).1) ∧ Chg none_ w w') := Lib.hid (fun w hc => by
    refine (Open_any key nonce more text _ _ A A' cap cap' w hk hkb hn hnb (hmv.chg hc (fun _ _ h => h)) hmc (by omega) hmb (htv.chg hc (fun _ _ h => h)) htc (by omega) htb).mono ?_
    rintro e w' ⟨v, rfl, ho, hc2⟩
    obtain ⟨A4, c4, rfl, _, hv⟩ := ho.viewLt
    rw [← hL] at hv ⊢
    exact ⟨A4, c4, rfl, hv, hc2⟩)
  have HO2 : Hid (∀ w, Chg none_ W w → Calls Try.prog 6 #[.agg (u8s key).toArray, .agg (u8s nonce).toArray, .slice A more.length cap, .slice A' text.length cap'] w fun e w' => ∃ A4 c4, e = .returned (.tuple #[.slice A4 L c4, .int .i64 (openG key nonce more text).2]) ∧ View w' (fun b => b < w'.heap.size) A4 L (u8s (openG key nonce more text).1) ∧ Chg none_ w w') := Lib.hid (fun w hc => by
    refine (ropen_any key nonce more text _ _ A A' cap cap' w hk hkb hn hnb (hmv.chg hc (fun _ _ h => h)) (by omega) hmb (htv.chg hc (fun _ _ h => h)) htc (by omega) htb).mono ?_
    rintro e w' ⟨v, rfl, ho, hc2⟩
    obtain ⟨A4, c4, rfl, _, hv⟩ := ho.viewLt
    rw [← hL] at hv ⊢
    exact ⟨A4, c4, rfl, hv, hc2⟩)
  have HS1 : Hid (∀ w, Chg none_ W w → Calls Try.prog 8 #[.agg (u8s key).toArray, .agg (u8s nonce).toArray, .slice A more.length cap, .slice A' text.length cap'] w fun e w' => ∃ A4 c4, e = .returned (.slice A4 M c4) ∧ View w' (fun b => b < w'.heap.size) A4 M (u8s (sealG key nonce more text)) ∧ Chg none_ w w') := Lib.hid (fun w hc => by
    refine (Seal_any key nonce more text _ _ A A' cap cap' w hk hkb hn hnb (hmv.chg hc (fun _ _ h => h)) hmc (by omega) hmb (htv.chg hc (fun _ _ h => h)) (by omega) htb).mono ?_
    rintro e w' ⟨v, rfl, ho, hc2⟩
    obtain ⟨A4, c4, rfl, _, hv⟩ := ho.viewLt
    rw [← hM] at hv ⊢
    exact ⟨A4, c4, rfl, hv, hc2⟩)
  have HS2 : Hid (∀ w, Chg none_ W w → Calls Try.prog 9 #[.agg (u8s key).toArray, .agg (u8s nonce).toArray, .slice A more.length cap, .slice A' text.length cap'] w fun e w' => ∃ A4 c4, e = .returned (.slice A4 M c4) ∧ View w' (fun b => b < w'.heap.size) A4 M (u8s (sealG key nonce more text)) ∧ Chg none_ w w') := Lib.hid (fun w hc => by
    refine (rseal_any key nonce more text _ _ A A' cap cap' w hk hkb hn hnb (hmv.chg hc (fun _ _ h => h)) (by omega) hmb (htv.chg hc (fun _ _ h => h)) (by omega) htb).mono ?_
    rintro e w' ⟨v, rfl, ho, hc2⟩
    obtain ⟨A4, c4, rfl, _, hv⟩ := ho.viewLt
    rw [← hM] at hv ⊢
    exact ⟨A4, c4, rfl, hv, hc2⟩)
  have sam : ∀ (S : List Nat) (N : Nat), N = S.length → N ≤ 300 → ∀ (w : World) A1 A2 c1 c2 (T1 T2 : Nat → Prop), View w T1 A1 N (u8s S) → View w T2 A2 N (u8s S) → Calls Try.prog 7 #[.slice A1 N c1, .slice A2 N c2] w fun e w' => e = .returned (.bool true) ∧ ∃ k, w' = w.drewN k := fun S N h1 h2 w A1 A2 c1 c2 T1 T2 hv1 hv2 => by
    subst h1
    have := same_any w T1 T2 A1 A2 c1 c2 S S hv1 hv2 (by omega)
    rwa [decide_eq_true rfl] at this
  have HM1 := Lib.hid (fun w A1 A2 c1 c2 {T1 T2 : Nat → Prop} => sam (sealG key nonce more text) M hM hMl w A1 A2 c1 c2 T1 T2)
  have HM2 := Lib.hid (fun w A1 A2 c1 c2 {T1 T2 : Nat → Prop} => sam (openG key nonce more text).1 L hL hLl w A1 A2 c1 c2 T1 T2)
  generalize sealG key nonce more text = SG at HS1 HS2 HM1
  obtain ⟨z, hz⟩ : ∃ z, z = (openG key nonce more text).2 := ⟨_, rfl⟩
  obtain ⟨OP, hop⟩ : ∃ z, z = (openG key nonce more text).1 := ⟨_, rfl⟩
  rw [← hz, ← hop] at HO1 HO2
  rw [← hop] at HM2
  clear hk hkb hn hnb hmc hmm hmb hmv htc htm htb htv sam hL hM hz hop
  go_enter Try.func3, Try.ntmps3
  go_wp2_with (first | ((with_reducible show wpList _ _ _ (⟨some 4, .box 22 _, _, _, _, _⟩ :: _) _ _); refine wpList_box_Row rfl rfl (u8s key) rfl ?_; intro w1 hr1 hc1 hs1; have HR1 := Lib.hid hr1; have HC1 := Lib.hid hc1; clear hr1 hc1 hs1) | ((with_reducible show wpList _ _ _ (⟨some 5, .box 23 _, _, _, _, _⟩ :: _) _ _); refine wpList_box_Row rfl rfl (u8s nonce) rfl ?_; intro w2 hr2 hc2 hs2; have HR2 := Lib.hid hr2; have HC2 := Lib.hid (HC1.out.trans hc2); have HR1b := Lib.hid (HR1.out.chg hc2 (fun h => h)); clear hr2 hc2 hs2) | (go_at_call 4; refine (alive_any _).mono ?_; rintro e w3 ⟨rfl, hc3⟩; have HC3 := Lib.hid (HC2.out.trans hc3); have HRA := Lib.hid (HR1b.out.chg hc3 (fun h => h)); have HRB := Lib.hid (HR2.out.chg hc3 (fun h => h)); clear hc3) | ((with_reducible show wpList _ _ _ (⟨some 24, .load 22 _, _, _, _, _⟩ :: _) _ _); refine wpList_load_Row rfl rfl rfl (HRA.out) Try.underlying22 rfl (by rw [u8s_length, HKL.out]; exact size22) ?_) | ((with_reducible show wpList _ _ _ (⟨some 25, .load 23 _, _, _, _, _⟩ :: _) _ _); refine wpList_load_Row rfl rfl rfl (HRB.out) Try.underlying23 rfl (by rw [u8s_length, HNL.out]; exact sizeN12) ?_) | (go_at_call 5; with_reducible refine (HO1.out _ HC3.out).mono ?_; rintro e w4 ⟨A4, c4, rfl, hv4, hc4⟩; have HC4 := Lib.hid (HC3.out.trans hc4); have HV4 := Lib.hid hv4; have HRA4 := Lib.hid (HRA.out.chg hc4 (fun h => h)); have HRB4 := Lib.hid (HRB.out.chg hc4 (fun h => h)); clear hv4 hc4) | ((with_reducible show wpList _ _ _ (⟨some 32, .load 22 _, _, _, _, _⟩ :: _) _ _); refine wpList_load_Row rfl rfl rfl (HRA4.out) Try.underlying22 rfl (by rw [u8s_length, HKL.out]; exact size22) ?_) | ((with_reducible show wpList _ _ _ (⟨some 33, .load 23 _, _, _, _, _⟩ :: _) _ _); refine wpList_load_Row rfl rfl rfl (HRB4.out) Try.underlying23 rfl (by rw [u8s_length, HNL.out]; exact sizeN12) ?_) | (go_at_call 6; with_reducible refine (HO2.out _ HC4.out).mono ?_; rintro e w5 ⟨A5, c5, rfl, hv5, hc5⟩; have HC5 := Lib.hid (HC4.out.trans hc5); have HV5 := Lib.hid hv5; have HV4b := Lib.hid (HV4.out.chg hc5 (fun _ _ h => h)); have HRA5 := Lib.hid (HRA4.out.chg hc5 (fun h => h)); have HRB5 := Lib.hid (HRB4.out.chg hc5 (fun h => h)); clear hv5 hc5))
  try simp only [Act.put, List.setIfInBounds_toArray, List.set_cons_zero, List.set_cons_succ]
  refine wp_region_held_drew (S := fun w' => Chg none_ w5 w') (by kernel_rfl) ((Chg.refl none_ w5).drew) (fun hch0 => ?_)
  generalize w5.drew = wd at hch0 ⊢
  refine wpAnyH_take (i := 0) (v := .agg (u8s key).toArray) rfl (by kernel_rfl) (by kernel_rfl) (by kernel_rfl) (by first | exact fun _ _ _ h => h | exact fun _ _ _ h => nomatch h.1) (yieldsIf_load_mid (by rfl) 22 _ rfl W.heap.size 0 rfl (u8s key) _ (fun w' hw' => (HRA5.out.chg hw' (fun h => h)).range) Try.underlying22 rfl (by rw [u8s_length, HKL.out]; exact size22)) hch0 ?_
  refine wpAnyH_take (i := 1) (v := .agg (u8s nonce).toArray) rfl (by kernel_rfl) (by kernel_rfl) (by kernel_rfl) (by first | exact fun _ _ _ h => h | exact fun _ _ _ h => nomatch h.1) (yieldsIf_load_mid (by rfl) 23 _ rfl w1.heap.size 0 rfl (u8s nonce) _ (fun w' hw' => (HRB5.out.chg hw' (fun h => h)).range) Try.underlying23 rfl (by rw [u8s_length, HNL.out]; exact sizeN12)) hch0 ?_
  refine wpAnyH_take (i := 2) (v := .slice A more.length cap) rfl (by kernel_rfl) (by kernel_rfl) (by kernel_rfl) (by first | exact fun _ _ _ h => h | exact fun _ _ _ h => nomatch h.1) (Or.inl ⟨by rfl, fun w_ hw_ => by go_simp⟩) hch0 ?_
  refine wpAnyH_take (i := 3) (v := .slice A' text.length cap') rfl (by kernel_rfl) (by kernel_rfl) (by kernel_rfl) (by first | exact fun _ _ _ h => h | exact fun _ _ _ h => nomatch h.1) (Or.inl ⟨by rfl, fun w_ hw_ => by go_simp⟩) hch0 ?_
  try simp only [Act.put, List.setIfInBounds_toArray, List.set_cons_zero, List.set_cons_succ, List.getElem_toArray, List.getElem_cons_succ, List.getElem_cons_zero]
  refine wpAnyH_take (i := 5) (v := .agg (u8s key).toArray) rfl (by kernel_rfl) (by kernel_rfl) (by kernel_rfl) (by first | exact fun _ _ _ h => h | exact fun _ _ _ h => nomatch h.1) (yieldsIf_load_mid (by rfl) 22 _ rfl W.heap.size 0 rfl (u8s key) _ (fun w' hw' => (HRA5.out.chg hw' (fun h => h)).range) Try.underlying22 rfl (by rw [u8s_length, HKL.out]; exact size22)) hch0 ?_
  refine wpAnyH_take (i := 6) (v := .agg (u8s nonce).toArray) rfl (by kernel_rfl) (by kernel_rfl) (by kernel_rfl) (by first | exact fun _ _ _ h => h | exact fun _ _ _ h => nomatch h.1) (yieldsIf_load_mid (by rfl) 23 _ rfl w1.heap.size 0 rfl (u8s nonce) _ (fun w' hw' => (HRB5.out.chg hw' (fun h => h)).range) Try.underlying23 rfl (by rw [u8s_length, HNL.out]; exact sizeN12)) hch0 ?_
  refine wpAnyH_take (i := 7) (v := .slice A more.length cap) rfl (by kernel_rfl) (by kernel_rfl) (by kernel_rfl) (by first | exact fun _ _ _ h => h | exact fun _ _ _ h => nomatch h.1) (Or.inl ⟨by rfl, fun w_ hw_ => by go_simp⟩) hch0 ?_
  refine wpAnyH_take (i := 8) (v := .slice A' text.length cap') rfl (by kernel_rfl) (by kernel_rfl) (by kernel_rfl) (by first | exact fun _ _ _ h => h | exact fun _ _ _ h => nomatch h.1) (Or.inl ⟨by rfl, fun w_ hw_ => by go_simp⟩) hch0 ?_
  try simp only [Act.put, List.setIfInBounds_toArray, List.set_cons_zero, List.set_cons_succ, List.getElem_toArray, List.getElem_cons_succ, List.getElem_cons_zero]
  refine wpAnyH_ready (rs := [4]) (by kernel_rfl) (by simp) ?_
  refine AllReadyH.cons rfl (fun K hK => ?_) AllReadyH.nil
  rw [if_pos (by rfl)]
  try simp only [List.getElem_toArray, List.getElem_cons_succ, List.getElem_cons_zero]
  go_simp
  refine (HS1.out _ (HC5.out.trans hch0)).mono ?_
  rintro e x1 ⟨A6, c6, rfl, hv6, hcx1⟩
  have hch1 : Chg none_ w5 x1 := hch0.trans hcx1
  refine hK.out _ _ (hch1) (fun _ => ?_)
  clear hK K
  try simp only [Act.put, List.setIfInBounds_toArray, List.set_cons_zero, List.set_cons_succ, List.getElem_toArray, List.getElem_cons_succ, List.getElem_cons_zero]
  refine wpAnyH_ready (rs := [9]) (by kernel_rfl) (by simp) ?_
  refine AllReadyH.cons rfl (fun K hK => ?_) AllReadyH.nil
  rw [if_pos (by rfl)]
  try simp only [List.getElem_toArray, List.getElem_cons_succ, List.getElem_cons_zero]
  go_simp
  refine (HS2.out _ (HC5.out.trans hch1)).mono ?_
  rintro e x2 ⟨A7, c7, rfl, hv7, hcx2⟩
  have hch2 : Chg none_ w5 x2 := hch1.trans hcx2
  refine hK.out _ _ (hch2) (fun _ => ?_)
  clear hK K
  try simp only [Act.put, List.setIfInBounds_toArray, List.set_cons_zero, List.set_cons_succ, List.getElem_toArray, List.getElem_cons_succ, List.getElem_cons_zero]
  refine wpAnyH_ready (rs := [10]) (by kernel_rfl) (by simp) ?_
  refine AllReadyH.cons rfl (fun K hK => ?_) AllReadyH.nil
  rw [if_pos (by rfl)]
  try simp only [List.getElem_toArray, List.getElem_cons_succ, List.getElem_cons_zero]
  go_simp
  refine (HM1.out _ _ _ _ _ (hv6.chg hcx2 (fun _ _ h => h)) hv7).mono ?_
  rintro e x3_ ⟨rfl, nk, rfl⟩
  have hch3 : Chg none_ w5 (x2.drewN nk) := hch2.drewN nk
  generalize x2.drewN nk = x3 at hch3 ⊢
  refine hK.out _ _ (hch3) (fun _ => ?_)
  clear hK K
  try simp only [Act.put, List.setIfInBounds_toArray, List.set_cons_zero, List.set_cons_succ, List.getElem_toArray, List.getElem_cons_succ, List.getElem_cons_zero]
  refine wpAnyH_take (i := 11) (v := .bool true) rfl (by kernel_rfl) (by kernel_rfl) (by kernel_rfl) (by first | exact fun _ _ _ h => h | exact fun _ _ _ h => nomatch h.1) (Or.inl ⟨by rfl, fun w_ hw_ => by go_simp⟩) hch3 ?_
  try simp only [Act.put, List.setIfInBounds_toArray, List.set_cons_zero, List.set_cons_succ, List.getElem_toArray, List.getElem_cons_succ, List.getElem_cons_zero]
  refine wpAnyH_take (i := 12) (v := .int .i64 z) rfl (by kernel_rfl) (by kernel_rfl) (by kernel_rfl) (by first | exact fun _ _ _ h => h | exact fun _ _ _ h => nomatch h.1) (Or.inl ⟨by rfl, fun w_ hw_ => by go_simp⟩) hch3 ?_
  refine wpAnyH_take (i := 13) (v := .int .i64 z) rfl (by kernel_rfl) (by kernel_rfl) (by kernel_rfl) (by first | exact fun _ _ _ h => h | exact fun _ _ _ h => nomatch h.1) (Or.inl ⟨by rfl, fun w_ hw_ => by go_simp⟩) hch3 ?_
  try simp only [Act.put, List.setIfInBounds_toArray, List.set_cons_zero, List.set_cons_succ, List.getElem_toArray, List.getElem_cons_succ, List.getElem_cons_zero]
  refine wpAnyH_take (i := 14) (v := .bool true) rfl (by kernel_rfl) (by kernel_rfl) (by kernel_rfl) (by first | exact fun _ _ _ h => h | exact fun _ _ _ h => nomatch h.1) (Or.inl ⟨by rfl, fun w_ hw_ => by go_simp⟩) hch3 ?_
  try simp only [Act.put, List.setIfInBounds_toArray, List.set_cons_zero, List.set_cons_succ, List.getElem_toArray, List.getElem_cons_succ, List.getElem_cons_zero]
  refine wpAnyH_take (i := 15) (v := .bool true) rfl (by kernel_rfl) (by kernel_rfl) (by kernel_rfl) (by first | exact fun _ _ _ h => h | exact fun _ _ _ h => nomatch h.1) (Or.inl ⟨by rfl, fun w_ hw_ => by go_simp⟩) hch3 ?_
  try simp only [Act.put, List.setIfInBounds_toArray, List.set_cons_zero, List.set_cons_succ, List.getElem_toArray, List.getElem_cons_succ, List.getElem_cons_zero]
  refine wpAnyH_take (i := 16) (v := .bool true) rfl (by kernel_rfl) (by kernel_rfl) (by kernel_rfl) (by first | exact fun _ _ _ h => h | exact fun _ _ _ h => nomatch h.1) (Or.inl ⟨by rfl, fun w_ hw_ => by go_simp⟩) hch3 ?_
  try simp only [Act.put, List.setIfInBounds_toArray, List.set_cons_zero, List.set_cons_succ, List.getElem_toArray, List.getElem_cons_succ, List.getElem_cons_zero]
  refine wpAnyH_take (i := 17) (v := .slice A4 L c4) rfl (by kernel_rfl) (by kernel_rfl) (by kernel_rfl) (by first | exact fun _ _ _ h => h | exact fun _ _ _ h => nomatch h.1) (Or.inl ⟨by rfl, fun w_ hw_ => by go_simp⟩) hch3 ?_
  refine wpAnyH_take (i := 18) (v := .slice A5 L c5) rfl (by kernel_rfl) (by kernel_rfl) (by kernel_rfl) (by first | exact fun _ _ _ h => h | exact fun _ _ _ h => nomatch h.1) (Or.inl ⟨by rfl, fun w_ hw_ => by go_simp⟩) hch3 ?_
  try simp only [Act.put, List.setIfInBounds_toArray, List.set_cons_zero, List.set_cons_succ, List.getElem_toArray, List.getElem_cons_succ, List.getElem_cons_zero]
  refine wpAnyH_ready (rs := [19]) (by kernel_rfl) (by simp) ?_
  refine AllReadyH.cons rfl (fun K hK => ?_) AllReadyH.nil
  rw [if_pos (by rfl)]
  try simp only [List.getElem_toArray, List.getElem_cons_succ, List.getElem_cons_zero]
  go_simp
  refine (HM2.out _ _ _ _ _ (HV4b.out.chg hch3 (fun _ _ h => h)) (HV5.out.chg hch3 (fun _ _ h => h))).mono ?_
  rintro e x4_ ⟨rfl, nk2, rfl⟩
  have hch4 : Chg none_ w5 (x3.drewN nk2) := hch3.drewN nk2
  generalize x3.drewN nk2 = x4 at hch4 ⊢
  refine hK.out _ _ (hch4) (fun _ => ?_)
  clear hK K
  try simp only [Act.put, List.setIfInBounds_toArray, List.set_cons_zero, List.set_cons_succ, List.getElem_toArray, List.getElem_cons_succ, List.getElem_cons_zero]
  refine wpAnyH_take (i := 20) (v := .bool true) rfl (by kernel_rfl) (by kernel_rfl) (by kernel_rfl) (by first | exact fun _ _ _ h => h | exact fun _ _ _ h => nomatch h.1) (Or.inl ⟨by rfl, fun w_ hw_ => by go_simp⟩) hch4 ?_
  refine wpAnyH_take (i := 21) (v := .bool true) rfl (by kernel_rfl) (by kernel_rfl) (by kernel_rfl) (by first | exact fun _ _ _ h => h | exact fun _ _ _ h => nomatch h.1) (Or.inl ⟨by rfl, fun w_ hw_ => by go_simp⟩) hch4 ?_
  try simp only [Act.put, List.setIfInBounds_toArray, List.set_cons_zero, List.set_cons_succ, List.getElem_toArray, List.getElem_cons_succ, List.getElem_cons_zero]
  refine wpAnyH_done (by kernel_rfl) ?_ _
  go_wp2
  go_ret
  exact ⟨rfl, HC5.out.trans hch4⟩
end Go.Proofs.Ytidafbpiipjnlaa
