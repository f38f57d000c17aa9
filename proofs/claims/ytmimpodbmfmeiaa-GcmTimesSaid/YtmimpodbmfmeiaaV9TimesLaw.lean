/- Layer 9 (gcm): the walk of the law GcmTimes. -/
import Derived.Test.YtmimpodbmfmeiaaV9Alive
import Derived.Test.YtmimpodbmfmeiaaV9Open
import Derived.Test.YtmimpodbmfmeiaaV9RSum
namespace Go.Proofs.Ytmimpodbmfmeiaa
open Go.RowKit

set_option maxRecDepth 100000 in
set_option maxHeartbeats 2000000 in
theorem walk_GcmTimes (a b : List Nat) (A : Option Addr) (len cap : Nat) (zs : List Int) (A' : Option Addr) (len' cap' : Nat) (zs' : List Int) (W : World) (ha : a.length = 16) (hab : ∀ x ∈ a, x < 256) (hb : b.length = 16) (hbb : ∀ x ∈ b, x < 256) (x0 : IsRow .u8 W A len cap zs) (x1 : IsRow .u8 W A' len' cap' zs') :
    Calls Try.prog 3 #[.agg (u8s a).toArray, .agg (u8s b).toArray, .slice A len cap, .slice A' len' cap'] W fun e w' => e = .returned (.bool true) ∧ Chg none_ W w' := by
  obtain ⟨more, rfl, hmc, hmm, hmb, hmv⟩ := x0.u8
  obtain ⟨text, rfl, htc, htm, htb, htv⟩ := x1.u8
  clear x0 x1
  have HAL := Lib.hid ha
  have HBL := Lib.hid hb
  have hmx : more.length ≤ 9223372036854775807 := by unfold maxLen at hmm; omega
  have htx : text.length ≤ 9223372036854775807 := by unfold maxLen at htm; omega
  by_cases hlm : 200 < more.length
  · have hd1 : decide ((200 : Int) < (more.length : Int)) = true := by simp; omega
    clear ha hab hb hbb hmc hmm hmb hmv htc htm htb htv
    go_enter Try.func3, Try.ntmps3
    go_wp2_with (first | ((with_reducible show wpList _ _ _ (⟨some 4, .box 22 _, _, _, _, _⟩ :: _) _ _); refine wpList_box_Row rfl rfl (u8s a) rfl ?_; intro w1 hr1 hc1 hs1; have HR1 := Lib.hid hr1; have HC1 := Lib.hid hc1; clear hr1 hc1 hs1) | ((with_reducible show wpList _ _ _ (⟨some 5, .box 22 _, _, _, _, _⟩ :: _) _ _); refine wpList_box_Row rfl rfl (u8s b) rfl ?_; intro w2 hr2 hc2 hs2; have HR2 := Lib.hid hr2; have HC2 := Lib.hid (HC1.out.trans hc2); have HR1b := Lib.hid (HR1.out.chg hc2 (fun h => h)); clear hr2 hc2 hs2) | (go_at_call 9; refine (alive_any _).mono ?_; rintro e w3 ⟨rfl, hc3⟩; have HC3 := Lib.hid (HC2.out.trans hc3); have HRA := Lib.hid (HR1b.out.chg hc3 (fun h => h)); have HRB := Lib.hid (HR2.out.chg hc3 (fun h => h)); clear hc3))
    go_ret
    exact ⟨rfl, HC3.out⟩
  have hd1 : decide ((200 : Int) < (more.length : Int)) = false := by simp; omega
  by_cases hlt : 200 < text.length
  · have hd2 : decide ((200 : Int) < (text.length : Int)) = true := by simp; omega
    clear ha hab hb hbb hmc hmm hmb hmv htc htm htb htv
    go_enter Try.func3, Try.ntmps3
    go_wp2_with (first | ((with_reducible show wpList _ _ _ (⟨some 4, .box 22 _, _, _, _, _⟩ :: _) _ _); refine wpList_box_Row rfl rfl (u8s a) rfl ?_; intro w1 hr1 hc1 hs1; have HR1 := Lib.hid hr1; have HC1 := Lib.hid hc1; clear hr1 hc1 hs1) | ((with_reducible show wpList _ _ _ (⟨some 5, .box 22 _, _, _, _, _⟩ :: _) _ _); refine wpList_box_Row rfl rfl (u8s b) rfl ?_; intro w2 hr2 hc2 hs2; have HR2 := Lib.hid hr2; have HC2 := Lib.hid (HC1.out.trans hc2); have HR1b := Lib.hid (HR1.out.chg hc2 (fun h => h)); clear hr2 hc2 hs2) | (go_at_call 9; refine (alive_any _).mono ?_; rintro e w3 ⟨rfl, hc3⟩; have HC3 := Lib.hid (HC2.out.trans hc3); have HRA := Lib.hid (HR1b.out.chg hc3 (fun h => h)); have HRB := Lib.hid (HR2.out.chg hc3 (fun h => h)); clear hc3))
    go_ret
    exact ⟨rfl, HC3.out⟩
  have hd2 : decide ((200 : Int) < (text.length : Int)) = false := by simp; omega
  have HT1 := Lib.hid (fun w => Times_any a b w ha hab hb hbb)
  have HT2 : Hid (∀ w, Calls Try.prog 11 #[.agg (u8s a).toArray, .agg (u8s b).toArray] w fun e w' => e = .returned (.agg (u8s (tmsB a b)).toArray) ∧ Chg none_ w w') := Lib.hid (fun w => by
    have := rtimes_any9 a b w ha hab hb hbb
    rw [gM_comm (polB_lt b) (polB_lt a)] at this
    exact this)
  have HS1 := Lib.hid (fun w (hc : Chg none_ W w) => Sum_any a more text _ _ A A' cap cap' w ha hab (hmv.chg hc (fun _ _ h => h)) hmc (by omega) hmb (htv.chg hc (fun _ _ h => h)) htc (by omega) htb)
  have HS2 := Lib.hid (fun w (hc : Chg none_ W w) => rsum_any9 a more text _ _ A A' cap cap' w ha hab (hmv.chg hc (fun _ _ h => h)) (by omega) hmb (htv.chg hc (fun _ _ h => h)) (by omega) htb)
  have HQ1 : Hid (∀ w, (Op.equalIn 10000 22 (.agg (u8s (tmsB a b)).toArray) (.agg (u8s (tmsB a b)).toArray)).run Try.prog w = .ok true w) := Lib.hid (fun w => by have := blk_eql (tmsB a b) (tmsB a b) (tmsB_len _ _) (tmsB_len _ _) w; rwa [decide_eq_true rfl] at this)
  have HQ2 : Hid (∀ w, (Op.equalIn 10000 22 (.agg (u8s (sumG a more text)).toArray) (.agg (u8s (sumG a more text)).toArray)).run Try.prog w = .ok true w) := Lib.hid (fun w => by have := blk_eql (sumG a more text) (sumG a more text) (sumG_len _ _ _) (sumG_len _ _ _) w; rwa [decide_eq_true rfl] at this)
  generalize tmsB a b = P at HT1 HT2 HQ1
  generalize sumG a more text = S at HS1 HS2 HQ2
  clear ha hab hb hbb hmc hmm hmb hmv htc htm htb htv
  go_enter Try.func3, Try.ntmps3
  go_wp2_with (first | ((with_reducible show wpList _ _ _ (⟨some 4, .box 22 _, _, _, _, _⟩ :: _) _ _); refine wpList_box_Row rfl rfl (u8s a) rfl ?_; intro w1 hr1 hc1 hs1; have HR1 := Lib.hid hr1; have HC1 := Lib.hid hc1; clear hr1 hc1 hs1) | ((with_reducible show wpList _ _ _ (⟨some 5, .box 22 _, _, _, _, _⟩ :: _) _ _); refine wpList_box_Row rfl rfl (u8s b) rfl ?_; intro w2 hr2 hc2 hs2; have HR2 := Lib.hid hr2; have HC2 := Lib.hid (HC1.out.trans hc2); have HR1b := Lib.hid (HR1.out.chg hc2 (fun h => h)); clear hr2 hc2 hs2) | (go_at_call 9; refine (alive_any _).mono ?_; rintro e w3 ⟨rfl, hc3⟩; have HC3 := Lib.hid (HC2.out.trans hc3); have HRA := Lib.hid (HR1b.out.chg hc3 (fun h => h)); have HRB := Lib.hid (HR2.out.chg hc3 (fun h => h)); clear hc3))
  refine wp_region_held_drew (S := fun w' => Chg none_ w3 w') (by kernel_rfl) ((Chg.refl none_ w3).drew) (fun hch0 => ?_)
  generalize w3.drew = wd at hch0 ⊢
  refine wpAnyH_take (i := 0) (v := .agg (u8s a).toArray) rfl (by kernel_rfl) (by kernel_rfl) (by kernel_rfl) (by first | exact fun _ _ _ h => h | exact fun _ _ _ h => nomatch h.1) (yieldsIf_load_mid (by rfl) 22 _ rfl W.heap.size 0 rfl (u8s a) _ (fun w' hw' => (HRA.out.chg hw' (fun h => h)).range) Try.underlying22 rfl (by rw [u8s_length, HAL.out]; exact size22)) hch0 ?_
  refine wpAnyH_take (i := 1) (v := .agg (u8s b).toArray) rfl (by kernel_rfl) (by kernel_rfl) (by kernel_rfl) (by first | exact fun _ _ _ h => h | exact fun _ _ _ h => nomatch h.1) (yieldsIf_load_mid (by rfl) 22 _ rfl w1.heap.size 0 rfl (u8s b) _ (fun w' hw' => (HRB.out.chg hw' (fun h => h)).range) Try.underlying22 rfl (by rw [u8s_length, HBL.out]; exact size22)) hch0 ?_
  refine wpAnyH_take (i := 3) (v := .agg (u8s a).toArray) rfl (by kernel_rfl) (by kernel_rfl) (by kernel_rfl) (by first | exact fun _ _ _ h => h | exact fun _ _ _ h => nomatch h.1) (yieldsIf_load_mid (by rfl) 22 _ rfl W.heap.size 0 rfl (u8s a) _ (fun w' hw' => (HRA.out.chg hw' (fun h => h)).range) Try.underlying22 rfl (by rw [u8s_length, HAL.out]; exact size22)) hch0 ?_
  refine wpAnyH_take (i := 4) (v := .agg (u8s b).toArray) rfl (by kernel_rfl) (by kernel_rfl) (by kernel_rfl) (by first | exact fun _ _ _ h => h | exact fun _ _ _ h => nomatch h.1) (yieldsIf_load_mid (by rfl) 22 _ rfl w1.heap.size 0 rfl (u8s b) _ (fun w' hw' => (HRB.out.chg hw' (fun h => h)).range) Try.underlying22 rfl (by rw [u8s_length, HBL.out]; exact size22)) hch0 ?_
  try simp only [Act.put, List.setIfInBounds_toArray, List.set_cons_zero, List.set_cons_succ, List.getElem_toArray, List.getElem_cons_succ, List.getElem_cons_zero]
  refine wpAnyH_ready (rs := [2]) (by kernel_rfl) (by simp) ?_
  refine AllReadyH.cons rfl (fun K hK => ?_) AllReadyH.nil
  rw [if_pos (by rfl)]
  try simp only [List.getElem_toArray, List.getElem_cons_succ, List.getElem_cons_zero]
  go_simp
  refine (HT1.out _).mono ?_
  rintro e x1 ⟨rfl, hcx1⟩
  have hch1 : Chg none_ w3 x1 := hch0.trans hcx1
  refine hK.out _ _ (hch1) (fun _ => ?_)
  clear hK K
  try simp only [Act.put, List.setIfInBounds_toArray, List.set_cons_zero, List.set_cons_succ, List.getElem_toArray, List.getElem_cons_succ, List.getElem_cons_zero]
  refine wpAnyH_ready (rs := [5]) (by kernel_rfl) (by simp) ?_
  refine AllReadyH.cons rfl (fun K hK => ?_) AllReadyH.nil
  rw [if_pos (by rfl)]
  try simp only [List.getElem_toArray, List.getElem_cons_succ, List.getElem_cons_zero]
  go_simp
  refine (HT2.out _).mono ?_
  rintro e x2 ⟨rfl, hcx2⟩
  have hch2 : Chg none_ w3 x2 := hch1.trans hcx2
  refine hK.out _ _ (hch2) (fun _ => ?_)
  clear hK K
  try simp only [Act.put, List.setIfInBounds_toArray, List.set_cons_zero, List.set_cons_succ, List.getElem_toArray, List.getElem_cons_succ, List.getElem_cons_zero]
  refine wpAnyH_take (i := 6) (v := .bool true) rfl (by kernel_rfl) (by kernel_rfl) (by kernel_rfl) (by first | exact fun _ _ _ h => h | exact fun _ _ _ h => nomatch h.1) (yieldsIf_eql (by rfl) 22 _ _ _ rfl (u8s P).toArray (u8s P).toArray rfl rfl true (fun w => run_eqGuard_agg w .eql 22 _ _ _ _ Try.eqGuardType22) (fun w _ => HQ1.out w)) hch2 ?_
  refine wpAnyH_take (i := 7) (v := .bool true) rfl (by kernel_rfl) (by kernel_rfl) (by kernel_rfl) (by first | exact fun _ _ _ h => h | exact fun _ _ _ h => nomatch h.1) (Or.inl ⟨by rfl, fun w_ hw_ => by go_simp⟩) hch2 ?_
  try simp only [Act.put, List.setIfInBounds_toArray, List.set_cons_zero, List.set_cons_succ, List.getElem_toArray, List.getElem_cons_succ, List.getElem_cons_zero]
  refine wpAnyH_take (i := 8) (v := .agg (u8s a).toArray) rfl (by kernel_rfl) (by kernel_rfl) (by kernel_rfl) (by first | exact fun _ _ _ h => h | exact fun _ _ _ h => nomatch h.1) (yieldsIf_load_mid (by rfl) 22 _ rfl W.heap.size 0 rfl (u8s a) _ (fun w' hw' => (HRA.out.chg hw' (fun h => h)).range) Try.underlying22 rfl (by rw [u8s_length, HAL.out]; exact size22)) hch2 ?_
  refine wpAnyH_take (i := 9) (v := .slice A more.length cap) rfl (by kernel_rfl) (by kernel_rfl) (by kernel_rfl) (by first | exact fun _ _ _ h => h | exact fun _ _ _ h => nomatch h.1) (Or.inl ⟨by rfl, fun w_ hw_ => by go_simp⟩) hch2 ?_
  refine wpAnyH_take (i := 10) (v := .slice A' text.length cap') rfl (by kernel_rfl) (by kernel_rfl) (by kernel_rfl) (by first | exact fun _ _ _ h => h | exact fun _ _ _ h => nomatch h.1) (Or.inl ⟨by rfl, fun w_ hw_ => by go_simp⟩) hch2 ?_
  try simp only [Act.put, List.setIfInBounds_toArray, List.set_cons_zero, List.set_cons_succ, List.getElem_toArray, List.getElem_cons_succ, List.getElem_cons_zero]
  refine wpAnyH_take (i := 12) (v := .agg (u8s a).toArray) rfl (by kernel_rfl) (by kernel_rfl) (by kernel_rfl) (by first | exact fun _ _ _ h => h | exact fun _ _ _ h => nomatch h.1) (yieldsIf_load_mid (by rfl) 22 _ rfl W.heap.size 0 rfl (u8s a) _ (fun w' hw' => (HRA.out.chg hw' (fun h => h)).range) Try.underlying22 rfl (by rw [u8s_length, HAL.out]; exact size22)) hch2 ?_
  refine wpAnyH_take (i := 13) (v := .slice A more.length cap) rfl (by kernel_rfl) (by kernel_rfl) (by kernel_rfl) (by first | exact fun _ _ _ h => h | exact fun _ _ _ h => nomatch h.1) (Or.inl ⟨by rfl, fun w_ hw_ => by go_simp⟩) hch2 ?_
  refine wpAnyH_take (i := 14) (v := .slice A' text.length cap') rfl (by kernel_rfl) (by kernel_rfl) (by kernel_rfl) (by first | exact fun _ _ _ h => h | exact fun _ _ _ h => nomatch h.1) (Or.inl ⟨by rfl, fun w_ hw_ => by go_simp⟩) hch2 ?_
  try simp only [Act.put, List.setIfInBounds_toArray, List.set_cons_zero, List.set_cons_succ, List.getElem_toArray, List.getElem_cons_succ, List.getElem_cons_zero]
  refine wpAnyH_ready (rs := [11]) (by kernel_rfl) (by simp) ?_
  refine AllReadyH.cons rfl (fun K hK => ?_) AllReadyH.nil
  rw [if_pos (by rfl)]
  try simp only [List.getElem_toArray, List.getElem_cons_succ, List.getElem_cons_zero]
  go_simp
  refine (HS1.out _ (HC3.out.trans hch2)).mono ?_
  rintro e x3 ⟨rfl, hcx3⟩
  have hch3 : Chg none_ w3 x3 := hch2.trans hcx3
  refine hK.out _ _ (hch3) (fun _ => ?_)
  clear hK K
  try simp only [Act.put, List.setIfInBounds_toArray, List.set_cons_zero, List.set_cons_succ, List.getElem_toArray, List.getElem_cons_succ, List.getElem_cons_zero]
  refine wpAnyH_ready (rs := [15]) (by kernel_rfl) (by simp) ?_
  refine AllReadyH.cons rfl (fun K hK => ?_) AllReadyH.nil
  rw [if_pos (by rfl)]
  try simp only [List.getElem_toArray, List.getElem_cons_succ, List.getElem_cons_zero]
  go_simp
  refine (HS2.out _ (HC3.out.trans hch3)).mono ?_
  rintro e x4 ⟨rfl, hcx4⟩
  have hch4 : Chg none_ w3 x4 := hch3.trans hcx4
  refine hK.out _ _ (hch4) (fun _ => ?_)
  clear hK K
  try simp only [Act.put, List.setIfInBounds_toArray, List.set_cons_zero, List.set_cons_succ, List.getElem_toArray, List.getElem_cons_succ, List.getElem_cons_zero]
  refine wpAnyH_take (i := 16) (v := .bool true) rfl (by kernel_rfl) (by kernel_rfl) (by kernel_rfl) (by first | exact fun _ _ _ h => h | exact fun _ _ _ h => nomatch h.1) (yieldsIf_eql (by rfl) 22 _ _ _ rfl (u8s S).toArray (u8s S).toArray rfl rfl true (fun w => run_eqGuard_agg w .eql 22 _ _ _ _ Try.eqGuardType22) (fun w _ => HQ2.out w)) hch4 ?_
  refine wpAnyH_take (i := 17) (v := .bool true) rfl (by kernel_rfl) (by kernel_rfl) (by kernel_rfl) (by first | exact fun _ _ _ h => h | exact fun _ _ _ h => nomatch h.1) (Or.inl ⟨by rfl, fun w_ hw_ => by go_simp⟩) hch4 ?_
  refine wpAnyH_take (i := 18) (v := .bool true) rfl (by kernel_rfl) (by kernel_rfl) (by kernel_rfl) (by first | exact fun _ _ _ h => h | exact fun _ _ _ h => nomatch h.1) (Or.inl ⟨by rfl, fun w_ hw_ => by go_simp⟩) hch4 ?_
  try simp only [Act.put, List.setIfInBounds_toArray, List.set_cons_zero, List.set_cons_succ, List.getElem_toArray, List.getElem_cons_succ, List.getElem_cons_zero]
  refine wpAnyH_done (by kernel_rfl) ?_ _
  go_wp2
  go_ret
  exact ⟨rfl, HC3.out.trans hch4⟩
end Go.Proofs.Ytmimpodbmfmeiaa
