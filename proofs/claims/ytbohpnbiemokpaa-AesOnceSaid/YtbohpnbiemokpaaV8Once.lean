/- Layer 8 (aes): the walk of the law AesOnce. -/
import Derived.Test.YtbohpnbiemokpaaV8Open
import Derived.Test.YtbohpnbiemokpaaV8Inj
namespace Go.Proofs.Ytbohpnbiemokpaa
open Go.RowKit

set_option maxRecDepth 100000 in
set_option maxHeartbeats 1000000 in
theorem walk_AesOnce (key a b : List Nat) (W : World) (hk : key.length = 16) (hkb : ∀ x ∈ key, x < 256) (ha : a.length = 16) (hab : ∀ x ∈ a, x < 256) (hb : b.length = 16) (hbb : ∀ x ∈ b, x < 256) :
    Calls Try.prog 9 #[.agg (u8s key).toArray, .agg (u8s a).toArray, .agg (u8s b).toArray] W fun e w' => e = .returned (.bool true) ∧ Chg none_ W w' := by
  have HEA := Lib.hid (fun w => Encipher_any key a w hk hkb ha hab)
  have HEB := Lib.hid (fun w => Encipher_any key b w hk hkb hb hbb)
  have hie : decide (cipherN key a = cipherN key b) = decide (a = b) := by
    have := cipherN_inj hkb ha hb hab hbb
    by_cases h : a = b
    · rw [decide_eq_true h, decide_eq_true (this.2 h)]
    · rw [decide_eq_false h, decide_eq_false (fun x => h (this.1 x))]
  have HCAL := cipherN_len key a
  have HCBL := cipherN_len key b
  have HKL := Lib.hid hk
  have HAL := Lib.hid ha
  have HBL := Lib.hid hb
  have HQ9 := Lib.hid (fun w => blk_eql a b ha hb w)
  generalize cipherN key a = CA at HEA hie HCAL
  generalize cipherN key b = CB at HEB hie HCBL
  have HQ6 := Lib.hid (fun w => blk_eql CA CB HCAL HCBL w)
  rw [hie] at HQ6
  have HIE := Lib.hid hie
  clear hk hkb ha hab hb hbb hie HCAL HCBL
  go_enter Try.func9, Try.ntmps9
  go_wp2_with (first | ((with_reducible show wpList _ _ _ (⟨some 3, .box 26 _, _, _, _, _⟩ :: _) _ _); refine wpList_box_Row rfl rfl (u8s key) rfl ?_; intro w1 hr1 hc1 hs1; have HR1 := Lib.hid hr1; have HC1 := Lib.hid hc1; clear hr1 hc1 hs1) | ((with_reducible show wpList _ _ _ (⟨some 4, .box 26 _, _, _, _, _⟩ :: _) _ _); refine wpList_box_Row rfl rfl (u8s a) rfl ?_; intro w2 hr2 hc2 hs2; have HR2 := Lib.hid hr2; have HC2 := Lib.hid (HC1.out.trans hc2); have HR1a := Lib.hid (HR1.out.chg hc2 (fun h => h)); clear hr2 hc2 hs2) | ((with_reducible show wpList _ _ _ (⟨some 5, .box 26 _, _, _, _, _⟩ :: _) _ _); refine wpList_box_Row rfl rfl (u8s b) rfl ?_; intro w3 hr3 hc3 hs3; have HR3 := Lib.hid hr3; have HC3 := Lib.hid (HC2.out.trans hc3); have HR1b := Lib.hid (HR1a.out.chg hc3 (fun h => h)); have HR2b := Lib.hid (HR2.out.chg hc3 (fun h => h)); clear hr3 hc3 hs3) | (go_at_call 10; refine (alive_any _).mono ?_; rintro e w4 ⟨rfl, hc4⟩; have HC4 := Lib.hid (HC3.out.trans hc4); have HRK := Lib.hid (HR1b.out.chg hc4 (fun h => h)); have HRA := Lib.hid (HR2b.out.chg hc4 (fun h => h)); have HRB := Lib.hid (HR3.out.chg hc4 (fun h => h)); clear hc4))
  refine wp_region_held_drew (S := fun w' => Chg none_ w4 w') (by kernel_rfl) ((Chg.refl none_ w4).drew) (fun hch0 => ?_)
  generalize w4.drew = wd at hch0 ⊢
  refine wpAnyH_take (i := 0) (v := .agg (u8s key).toArray) rfl (by kernel_rfl) (by kernel_rfl) (by kernel_rfl) (by first | exact fun _ _ _ h => h | exact fun _ _ _ h => nomatch h.1) (yieldsIf_load_mid (by rfl) 26 _ rfl W.heap.size 0 rfl (u8s key) _ (fun w' hw' => (HRK.out.chg hw' (fun h => h)).range) Try.underlying26 rfl (by rw [u8s_length, HKL.out]; exact size26)) hch0 ?_
  refine wpAnyH_take (i := 1) (v := .agg (u8s a).toArray) rfl (by kernel_rfl) (by kernel_rfl) (by kernel_rfl) (by first | exact fun _ _ _ h => h | exact fun _ _ _ h => nomatch h.1) (yieldsIf_load_mid (by rfl) 26 _ rfl w1.heap.size 0 rfl (u8s a) _ (fun w' hw' => (HRA.out.chg hw' (fun h => h)).range) Try.underlying26 rfl (by rw [u8s_length, HAL.out]; exact size26)) hch0 ?_
  refine wpAnyH_take (i := 3) (v := .agg (u8s key).toArray) rfl (by kernel_rfl) (by kernel_rfl) (by kernel_rfl) (by first | exact fun _ _ _ h => h | exact fun _ _ _ h => nomatch h.1) (yieldsIf_load_mid (by rfl) 26 _ rfl W.heap.size 0 rfl (u8s key) _ (fun w' hw' => (HRK.out.chg hw' (fun h => h)).range) Try.underlying26 rfl (by rw [u8s_length, HKL.out]; exact size26)) hch0 ?_
  refine wpAnyH_take (i := 4) (v := .agg (u8s b).toArray) rfl (by kernel_rfl) (by kernel_rfl) (by kernel_rfl) (by first | exact fun _ _ _ h => h | exact fun _ _ _ h => nomatch h.1) (yieldsIf_load_mid (by rfl) 26 _ rfl w2.heap.size 0 rfl (u8s b) _ (fun w' hw' => (HRB.out.chg hw' (fun h => h)).range) Try.underlying26 rfl (by rw [u8s_length, HBL.out]; exact size26)) hch0 ?_
  try simp only [Act.put, List.setIfInBounds_toArray, List.set_cons_zero, List.set_cons_succ, List.getElem_toArray, List.getElem_cons_succ, List.getElem_cons_zero]
  refine wpAnyH_take (i := 7) (v := .agg (u8s a).toArray) rfl (by kernel_rfl) (by kernel_rfl) (by kernel_rfl) (by first | exact fun _ _ _ h => h | exact fun _ _ _ h => nomatch h.1) (yieldsIf_load_mid (by rfl) 26 _ rfl w1.heap.size 0 rfl (u8s a) _ (fun w' hw' => (HRA.out.chg hw' (fun h => h)).range) Try.underlying26 rfl (by rw [u8s_length, HAL.out]; exact size26)) hch0 ?_
  refine wpAnyH_take (i := 8) (v := .agg (u8s b).toArray) rfl (by kernel_rfl) (by kernel_rfl) (by kernel_rfl) (by first | exact fun _ _ _ h => h | exact fun _ _ _ h => nomatch h.1) (yieldsIf_load_mid (by rfl) 26 _ rfl w2.heap.size 0 rfl (u8s b) _ (fun w' hw' => (HRB.out.chg hw' (fun h => h)).range) Try.underlying26 rfl (by rw [u8s_length, HBL.out]; exact size26)) hch0 ?_
  try simp only [Act.put, List.setIfInBounds_toArray, List.set_cons_zero, List.set_cons_succ, List.getElem_toArray, List.getElem_cons_succ, List.getElem_cons_zero]
  refine wpAnyH_take (i := 9) (v := .bool (decide (a = b))) rfl (by kernel_rfl) (by kernel_rfl) (by kernel_rfl) (by first | exact fun _ _ _ h => h | exact fun _ _ _ h => nomatch h.1) (yieldsIf_eql (by rfl) 26 _ _ _ rfl (u8s a).toArray (u8s b).toArray rfl rfl (decide (a = b)) (fun w => run_eqGuard_agg w .eql 26 _ _ _ _ Try.eqGuardType26) (fun w _ => (HQ9.out w))) hch0 ?_
  try simp only [Act.put, List.setIfInBounds_toArray, List.set_cons_zero, List.set_cons_succ, List.getElem_toArray, List.getElem_cons_succ, List.getElem_cons_zero]
  refine wpAnyH_ready (rs := [2]) (by kernel_rfl) (by simp) ?_
  refine AllReadyH.cons rfl (fun K hK => ?_) AllReadyH.nil
  rw [if_pos (by rfl)]
  try simp only [Act.put, List.setIfInBounds_toArray, List.set_cons_zero, List.set_cons_succ, List.getElem_toArray, List.getElem_cons_succ, List.getElem_cons_zero]
  go_simp
  refine (HEA.out _).mono ?_
  rintro e x1 ⟨rfl, hcx1⟩
  have hch1 : Chg none_ w4 x1 := hch0.trans hcx1
  refine hK.out _ _ (hch1) (fun _ => ?_)
  clear hK K
  try simp only [Act.put, List.setIfInBounds_toArray, List.set_cons_zero, List.set_cons_succ, List.getElem_toArray, List.getElem_cons_succ, List.getElem_cons_zero]
  refine wpAnyH_ready (rs := [5]) (by kernel_rfl) (by simp) ?_
  refine AllReadyH.cons rfl (fun K hK => ?_) AllReadyH.nil
  rw [if_pos (by rfl)]
  try simp only [Act.put, List.setIfInBounds_toArray, List.set_cons_zero, List.set_cons_succ, List.getElem_toArray, List.getElem_cons_succ, List.getElem_cons_zero]
  go_simp
  refine (HEB.out _).mono ?_
  rintro e x2 ⟨rfl, hcx2⟩
  have hch2 : Chg none_ w4 x2 := hch1.trans hcx2
  refine hK.out _ _ (hch2) (fun _ => ?_)
  clear hK K
  try simp only [Act.put, List.setIfInBounds_toArray, List.set_cons_zero, List.set_cons_succ, List.getElem_toArray, List.getElem_cons_succ, List.getElem_cons_zero]
  refine wpAnyH_take (i := 6) (v := .bool (decide (a = b))) rfl (by kernel_rfl) (by kernel_rfl) (by kernel_rfl) (by first | exact fun _ _ _ h => h | exact fun _ _ _ h => nomatch h.1) (yieldsIf_eql (by rfl) 26 _ _ _ rfl (u8s CA).toArray (u8s CB).toArray rfl rfl (decide (a = b)) (fun w => run_eqGuard_agg w .eql 26 _ _ _ _ Try.eqGuardType26) (fun w _ => (HQ6.out w))) hch2 ?_
  try simp only [Act.put, List.setIfInBounds_toArray, List.set_cons_zero, List.set_cons_succ, List.getElem_toArray, List.getElem_cons_succ, List.getElem_cons_zero]
  refine wpAnyH_take (i := 10) (v := .bool true) rfl (by kernel_rfl) (by kernel_rfl) (by kernel_rfl) (by first | exact fun _ _ _ h => h | exact fun _ _ _ h => nomatch h.1) (Or.inl ⟨by rfl, fun w_ hw_ => by go_simp⟩) hch2 ?_
  try simp only [Act.put, List.setIfInBounds_toArray, List.set_cons_zero, List.set_cons_succ, List.getElem_toArray, List.getElem_cons_succ, List.getElem_cons_zero]
  refine wpAnyH_take (i := 11) (v := .bool true) rfl (by kernel_rfl) (by kernel_rfl) (by kernel_rfl) (by first | exact fun _ _ _ h => h | exact fun _ _ _ h => nomatch h.1) (Or.inl ⟨by rfl, fun w_ hw_ => by go_simp⟩) hch2 ?_
  try simp only [Act.put, List.setIfInBounds_toArray, List.set_cons_zero, List.set_cons_succ, List.getElem_toArray, List.getElem_cons_succ, List.getElem_cons_zero]
  refine wpAnyH_done (by kernel_rfl) ?_ _
  go_wp2
  go_ret
  exact ⟨rfl, HC4.out.trans hch2⟩
end Go.Proofs.Ytbohpnbiemokpaa
