/- Layer 9 (gcm): a product, exported. -/
import Derived.Test.YtidafbpiipjnlaaV9Top
namespace Go.Proofs.Ytidafbpiipjnlaa
open Go.RowKit

set_option maxRecDepth 100000 in
set_option maxHeartbeats 1000000 in
theorem Times_any (a b : List Nat) (w : World) (ha : a.length = 16) (hab : ∀ x ∈ a, x < 256) (hb : b.length = 16) (hbb : ∀ x ∈ b, x < 256) : Calls Try.prog 10 #[.agg (u8s a).toArray, .agg (u8s b).toArray] w fun e w' => e = .returned (.agg (u8s (tmsB a b)).toArray) ∧ Chg none_ w w' := by
  have HA := Lib.hid ha
  have HB := Lib.hid hb
  have HPA := Lib.hid (fun w => polynomialOf_any a w ha hab)
  have HPB := Lib.hid (fun w => polynomialOf_any b w hb hbb)
  clear ha hab hb hbb
  go_enter Try.func10, Try.ntmps10
  go_wp2_with (first | ((with_reducible show wpList _ _ _ (⟨some 2, .box 22 _, _, _, _, _⟩ :: _) _ _); refine wpList_box_Row rfl rfl (u8s a) rfl ?_; intro w1 hr1 hc1 hs1; have HR1 := Lib.hid hr1; have HC1 := Lib.hid hc1; clear hr1 hc1 hs1) | ((with_reducible show wpList _ _ _ (⟨some 3, .box 22 _, _, _, _, _⟩ :: _) _ _); refine wpList_box_Row rfl rfl (u8s b) rfl ?_; intro w2 hr2 hc2 hs2; have HR2 := Lib.hid hr2; have HC2 := Lib.hid (HC1.out.trans hc2); have HR1b := Lib.hid (HR1.out.chg hc2 (fun h => h)); clear hr2 hc2 hs2) | ((with_reducible show wpList _ _ _ (⟨some 4, .alloc 22, _, _, _, _⟩ :: _) _ _); refine wpList_alloc_Row rfl rfl (u8s (List.replicate 16 0)) zero22 ?_; intro w3 hr3 hc3 hs3; have HR3 := Lib.hid hr3; have HC3 := Lib.hid (HC2.out.trans hc3); have HR1c := Lib.hid (HR1b.out.chg hc3 (fun h => h)); have HR2b := Lib.hid (HR2.out.chg hc3 (fun h => h)); clear hr3 hc3 hs3))
  have HG1 := Lib.hid (show w.heap.size < w1.heap.size from HR1.out.lt)
  have HG2 := Lib.hid (show w1.heap.size < w2.heap.size from HR2.out.lt)
  have HRA : Hid (∀ w', Chg (· = w2.heap.size) w3 w' → Row w' w.heap.size 22 (u8s a)) := Lib.hid (fun w' h => HR1c.out.chg h (fun e => by have := HG1.out; have := HG2.out; omega))
  have HRB : Hid (∀ w', Chg (· = w2.heap.size) w3 w' → Row w' w1.heap.size 22 (u8s b)) := Lib.hid (fun w' h => HR2b.out.chg h (fun e => by have := HG2.out; omega))
  have HRR := HR3
  refine wp_region_held_drew (S := fun w' => Chg (· = w2.heap.size) w3 w') (by kernel_rfl) ((Chg.refl (· = w2.heap.size) w3).drew) (fun hch0 => ?_)
  refine wpAnyH_take (i := 0) (v := .agg (u8s a).toArray) rfl (by kernel_rfl) (by kernel_rfl) (by kernel_rfl) (by first | exact fun _ _ _ h => h | exact fun _ _ _ h => nomatch h.1) (yieldsIf_load_mid (by rfl) 22 _ rfl w.heap.size 0 rfl (u8s a) _ (fun w' hw' => (HRA.out w' hw').range) Try.underlying22 rfl (by rw [u8s_length, HA.out]; exact size22)) hch0 ?_
  refine wpAnyH_take (i := 3) (v := .agg (u8s b).toArray) rfl (by kernel_rfl) (by kernel_rfl) (by kernel_rfl) (by first | exact fun _ _ _ h => h | exact fun _ _ _ h => nomatch h.1) (yieldsIf_load_mid (by rfl) 22 _ rfl w1.heap.size 0 rfl (u8s b) _ (fun w' hw' => (HRB.out w' hw').range) Try.underlying22 rfl (by rw [u8s_length, HB.out]; exact size22)) hch0 ?_
  refine wpAnyH_ready (rs := [1]) (by kernel_rfl) (by simp) ?_
  refine AllReadyH.cons rfl (fun K hK => ?_) AllReadyH.nil
  rw [if_pos (by rfl)]
  try simp only [Act.put, List.setIfInBounds_toArray, List.set_cons_zero, List.set_cons_succ, List.getElem_toArray, List.getElem_cons_succ, List.getElem_cons_zero]
  go_simp
  refine (HPA.out _).mono ?_
  rintro e x1 ⟨rfl, hc1⟩
  have hch1 : Chg (· = w2.heap.size) w3 x1 := hch0.trans (hc1.mono (fun _ _ h => h.elim))
  refine hK.out _ _ (hch1) (fun _ => ?_)
  clear hK K
  try simp only [Act.put, List.setIfInBounds_toArray, List.set_cons_zero, List.set_cons_succ, List.getElem_toArray, List.getElem_cons_succ, List.getElem_cons_zero]
  refine wpAnyH_ready (rs := [2]) (by kernel_rfl) (by simp) ?_
  refine AllReadyH.cons rfl (fun K hK => ?_) AllReadyH.nil
  rw [if_pos (by rfl)]
  try simp only [List.getElem_toArray, List.getElem_cons_succ, List.getElem_cons_zero]
  go_simp
  refine (shiftsOf_any (polB a) _).mono ?_
  rintro e x2 ⟨g, rfl, hge, hrg, hc2⟩
  have hch2 : Chg (· = w2.heap.size) w3 x2 := hch1.trans (hc2.mono (fun _ _ h => h.elim))
  refine hK.out _ _ (hch2) (fun _ => ?_)
  clear hK K
  try simp only [Act.put, List.setIfInBounds_toArray, List.set_cons_zero, List.set_cons_succ, List.getElem_toArray, List.getElem_cons_succ, List.getElem_cons_zero]
  refine wpAnyH_ready (rs := [4]) (by kernel_rfl) (by simp) ?_
  refine AllReadyH.cons rfl (fun K hK => ?_) AllReadyH.nil
  rw [if_pos (by rfl)]
  try simp only [List.getElem_toArray, List.getElem_cons_succ, List.getElem_cons_zero]
  go_simp
  refine (HPB.out _).mono ?_
  rintro e x4 ⟨rfl, hc4⟩
  have hch4 : Chg (· = w2.heap.size) w3 x4 := hch2.trans (hc4.mono (fun _ _ h => h.elim))
  have hrg4 := hrg.chg hc4 (fun h => h)
  refine hK.out _ _ (hch4) (fun _ => ?_)
  clear hK K
  try simp only [Act.put, List.setIfInBounds_toArray, List.set_cons_zero, List.set_cons_succ, List.getElem_toArray, List.getElem_cons_succ, List.getElem_cons_zero]
  refine wpAnyH_ready (rs := [5]) (by kernel_rfl) (by simp) ?_
  refine AllReadyH.cons rfl (fun K hK => ?_) AllReadyH.nil
  rw [if_pos (by rfl)]
  try simp only [List.getElem_toArray, List.getElem_cons_succ, List.getElem_cons_zero]
  go_simp
  refine (times_any (polB a) (polB b) g _ hrg4).mono ?_
  rintro e x5 ⟨rfl, hc5⟩
  have hch5 : Chg (· = w2.heap.size) w3 x5 := hch4.trans (hc5.mono (fun _ _ h => h.elim))
  refine hK.out _ _ (hch5) (fun _ => ?_)
  clear hK K
  try simp only [Act.put, List.setIfInBounds_toArray, List.set_cons_zero, List.set_cons_succ, List.getElem_toArray, List.getElem_cons_succ, List.getElem_cons_zero]
  refine wpAnyH_ready (rs := [6]) (by kernel_rfl) (by simp) ?_
  refine AllReadyH.cons rfl (fun K hK => ?_) AllReadyH.nil
  rw [if_pos (by rfl)]
  try simp only [List.getElem_toArray, List.getElem_cons_succ, List.getElem_cons_zero]
  go_simp
  refine (bytes9_any (gM (polB a) (polB b)) _).mono ?_
  rintro e x6 ⟨rfl, hc6⟩
  have hch6 : Chg (· = w2.heap.size) w3 x6 := hch5.trans (hc6.mono (fun _ _ h => h.elim))
  have hr6 := (((((HRR.out.drew.chg hc1 (fun h => h)).chg hc2 (fun h => h)).chg hc4 (fun h => h)).chg hc5 (fun h => h)).chg hc6 (fun h => h))
  refine hK.out _ _ (hch6) (fun _ => ?_)
  clear hK K
  try simp only [Act.put, List.setIfInBounds_toArray, List.set_cons_zero, List.set_cons_succ, List.getElem_toArray, List.getElem_cons_succ, List.getElem_cons_zero]
  refine wpAnyH_ready (rs := [7]) (by kernel_rfl) (by simp) ?_
  refine AllReadyH.cons rfl (fun K hK => ?_) AllReadyH.nil
  rw [if_pos (by rfl)]
  try simp only [List.getElem_toArray, List.getElem_cons_succ, List.getElem_cons_zero]
  refine wp_store_row (ty := 22) (xs := u8s (tmsB a b)) rfl rfl (hr6) rfl (by rw [u8s_length, u8s_length, tmsB_len, List.length_replicate]) (by rw [u8s_length, tmsB_len]; exact size22) (u8s_oneA _) ?_
  intro w9 hr_w9 hc_w9 hs_w9
  refine hK.out _ _ (hc_w9 _ w3 hch6 (fun _ => rfl)) (fun _ => ?_)
  clear hK K
  try simp only [Act.put]
  refine wpAnyH_done (by kernel_rfl) ?_ _
  go_wp2
  refine ret_row rfl rfl hr_w9 Try.underlying22 rfl (by rw [u8s_length, tmsB_len]; exact size22) rfl ?_
  exact ⟨rfl, HC3.out.andThen (hc_w9 (· = w2.heap.size) w3 hch6 (fun _ => rfl)) (fun b h e => by have := HG1.out; have := HG2.out; omega)⟩
end Go.Proofs.Ytidafbpiipjnlaa
