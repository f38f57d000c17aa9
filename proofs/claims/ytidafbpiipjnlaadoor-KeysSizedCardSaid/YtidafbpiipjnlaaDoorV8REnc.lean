/- Layer 8 (aes): a block enciphered by a key, the document's. -/
import Derived.Test.YtidafbpiipjnlaaDoorV8RBlock
namespace Go.Proofs.YtidafbpiipjnlaaDoor
open Go.RowKit

set_option maxRecDepth 100000 in
set_option maxHeartbeats 1000000 in
theorem rencipher_any (key b : List Nat) (w : World) (hk : key.length = 16) (hkb : ∀ x ∈ key, x < 256) (hb : b.length = 16) (hbb : ∀ x ∈ b, x < 256) : Calls Tryd.prog 53 #[.agg (u8s key).toArray, .agg (u8s b).toArray] w fun e w' => e = .returned (.agg (u8s (cipherN key b)).toArray) ∧ Chg none_ w w' := by
  have HK := Lib.hid hk
  have HB := Lib.hid hb
  have HKEYS := Lib.hid (fun w => rkeys_any key w hk hkb)
  have HBLK : Hid (∀ w, Calls Tryd.prog 69 #[.agg (u8s (keysN key 176)).toArray, .agg (u8s sboxL).toArray, .agg (u8s b).toArray] w fun e w' => e = .returned (.agg (u8s (cipherN key b)).toArray) ∧ Chg none_ w w') := Lib.hid (fun w => rblock_any (keysN key 176) b w (keysN_len _ _) (keysN_lt hkb _) hb hbb)
  have HEL := Lib.hid (cipherN_len key b)
  obtain ⟨E, hE⟩ : ∃ E, E = cipherN key b := ⟨_, rfl⟩
  rw [← hE] at HBLK HEL
  have HE := Lib.hid hE
  generalize keysN key 176 = KN at HKEYS HBLK
  clear hk hkb hb hbb hE
  go_enter Tryd.func53, Tryd.ntmps53
  go_wp2_with (first | ((with_reducible show wpList _ _ _ (⟨some 2, .box 26 _, _, _, _, _⟩ :: _) _ _); refine wpList_box_Row rfl rfl (u8s key) rfl ?_; intro w1 hr1 hc1 hs1; have HRK := Lib.hid hr1; have HGA := Lib.hid (show w.heap.size < w1.heap.size from hr1.lt); have HC1 := Lib.hid hc1; clear hr1 hc1 hs1) | ((with_reducible show wpList _ _ _ (⟨some 3, .box 26 _, _, _, _, _⟩ :: _) _ _); refine wpList_box_Row rfl rfl (u8s b) rfl ?_; intro w2 hr2 hc2 hs2; have HRB := Lib.hid hr2; have HGB := Lib.hid (show w1.heap.size < w2.heap.size from hr2.lt); have HC2 := Lib.hid (HC1.out.trans hc2); have HRK := Lib.hid (HRK.out.chg hc2 (fun h => h)); clear hr2 hc2 hs2) | ((with_reducible show wpList _ _ _ (⟨some 4, .alloc 26, _, _, _, _⟩ :: _) _ _); refine wpList_alloc_Row rfl rfl (u8s (List.replicate 16 0)) zero26 ?_; intro w3 hr3 hc3 hs3; have HRR := Lib.hid hr3; have HC3 := Lib.hid (HC2.out.trans hc3); have HRK := Lib.hid (HRK.out.chg hc3 (fun h => h)); have HRB := Lib.hid (HRB.out.chg hc3 (fun h => h)); clear hr3 hc3 hs3) | (go_at_call 67; refine (rtable_any _).mono ?_; rintro e w4 ⟨rfl, hc4⟩; have HGC := Lib.hid (show w2.heap.size < w4.heap.size from Nat.lt_of_lt_of_le HRR.out.lt hc4.size); have HC4 := Lib.hid (HC3.out.trans hc4); have HRK := Lib.hid (HRK.out.chg hc4 (fun h => h)); have HRB := Lib.hid (HRB.out.chg hc4 (fun h => h)); have HRR := Lib.hid (HRR.out.chg hc4 (fun h => h)); clear hc4) | ((with_reducible show wpList _ _ _ (⟨some 5, .alloc 105, _, _, _, _⟩ :: _) _ _); refine wpList_alloc_Row rfl rfl (u8s (List.replicate 256 0)) zero31 ?_; intro w5 hr5 hc5 hs5; have HR5 := Lib.hid hr5; have HC5 := Lib.hid hc5; clear hr5 hc5 hs5) | ((with_reducible show wpList _ _ _ (⟨_, .store 105 (.tmp 5) _, _, _, _, _⟩ :: _) _ _); refine wpList_store_Row (xs := u8s sboxL) rfl rfl rfl (HR5.out) (rfl) (by rw [u8s_length, u8s_length, sboxL_len, List.length_replicate]) (by rw [u8s_length, sboxL_len]; exact size31) (u8s_oneA _) ?_; intro w6 hr6 hc6 hs6; have HRT := Lib.hid hr6; have hc6_ := hc6 none_ w4 HC5.out (fun h => absurd h (Nat.lt_irrefl _)); have HC6 := Lib.hid (HC4.out.trans hc6_); have HRK := Lib.hid (HRK.out.chg hc6_ (fun h => h)); have HRB := Lib.hid (HRB.out.chg hc6_ (fun h => h)); have HRR := Lib.hid (HRR.out.chg hc6_ (fun h => h)); clear hc6_; clear hr6 hc6 hs6))
  have HG := Lib.hid (show w.heap.size < w1.heap.size ∧ w1.heap.size < w2.heap.size ∧ w2.heap.size < w4.heap.size from ⟨HGA.out, HGB.out, HGC.out⟩)
  have HRKx : Hid (∀ w', Chg (· = w2.heap.size) w6 w' → Row w' w.heap.size 26 (u8s key)) := Lib.hid (fun w' hc => HRK.out.chg hc (by have := HG.out; omega))
  have HRBx : Hid (∀ w', Chg (· = w2.heap.size) w6 w' → Row w' w1.heap.size 26 (u8s b)) := Lib.hid (fun w' hc => HRB.out.chg hc (by have := HG.out; omega))
  have HRTx : Hid (∀ w', Chg (· = w2.heap.size) w6 w' → Row w' w4.heap.size 105 (u8s sboxL)) := Lib.hid (fun w' hc => HRT.out.chg hc (by have := HG.out; omega))
  simp only [Act.put, List.setIfInBounds_toArray, List.set_cons_zero, List.set_cons_succ]
  refine wp_region_held_drew (S := fun w' => Chg (· = w2.heap.size) w6 w') (by kernel_rfl) ((Chg.refl _ _).drew) (fun hch0 => ?_)
  refine wpAnyH_take (i := 0) (v := .agg (u8s key).toArray) rfl (by kernel_rfl) (by kernel_rfl) (by kernel_rfl) (by first | exact fun _ _ _ h => h | exact fun _ _ _ h => nomatch h.1) (yieldsIf_load_mid (by rfl) 26 _ rfl w.heap.size 0 rfl (u8s key) _ (fun w' hw' => (HRKx.out w' hw').range) Tryd.underlying26 rfl (by rw [u8s_length, HK.out]; exact size26)) hch0 ?_
  refine wpAnyH_take (i := 1) (v := .agg (u8s sboxL).toArray) rfl (by kernel_rfl) (by kernel_rfl) (by kernel_rfl) (by first | exact fun _ _ _ h => h | exact fun _ _ _ h => nomatch h.1) (yieldsIf_load_mid (by rfl) 105 _ rfl w4.heap.size 0 rfl (u8s sboxL) _ (fun w' hw' => (HRTx.out w' hw').range) Tryd.underlying105 rfl (by rw [u8s_length, sboxL_len]; exact size31)) hch0 ?_
  refine wpAnyH_take (i := 3) (v := .agg (u8s sboxL).toArray) rfl (by kernel_rfl) (by kernel_rfl) (by kernel_rfl) (by first | exact fun _ _ _ h => h | exact fun _ _ _ h => nomatch h.1) (yieldsIf_load_mid (by rfl) 105 _ rfl w4.heap.size 0 rfl (u8s sboxL) _ (fun w' hw' => (HRTx.out w' hw').range) Tryd.underlying105 rfl (by rw [u8s_length, sboxL_len]; exact size31)) hch0 ?_
  refine wpAnyH_take (i := 4) (v := .agg (u8s b).toArray) rfl (by kernel_rfl) (by kernel_rfl) (by kernel_rfl) (by first | exact fun _ _ _ h => h | exact fun _ _ _ h => nomatch h.1) (yieldsIf_load_mid (by rfl) 26 _ rfl w1.heap.size 0 rfl (u8s b) _ (fun w' hw' => (HRBx.out w' hw').range) Tryd.underlying26 rfl (by rw [u8s_length, HB.out]; exact size26)) hch0 ?_
  try simp only [Act.put, List.setIfInBounds_toArray, List.set_cons_zero, List.set_cons_succ, List.getElem_toArray, List.getElem_cons_succ, List.getElem_cons_zero]
  refine wpAnyH_ready (rs := [2]) (by kernel_rfl) (by simp) ?_
  refine AllReadyH.cons rfl (fun K hK => ?_) AllReadyH.nil
  rw [if_pos (by rfl)]
  try simp only [List.getElem_toArray, List.getElem_cons_succ, List.getElem_cons_zero]
  go_simp
  refine (HKEYS.out _).mono ?_
  rintro e x1 ⟨rfl, hcx1⟩
  have hch1 : Chg (· = w2.heap.size) w6 x1 := hch0.trans (hcx1.mono (fun _ _ h => h.elim))
  refine hK.out _ _ (hch1) (fun _ => ?_)
  clear hK K
  try simp only [Act.put, List.setIfInBounds_toArray, List.set_cons_zero, List.set_cons_succ, List.getElem_toArray, List.getElem_cons_succ, List.getElem_cons_zero]
  refine wpAnyH_ready (rs := [5]) (by kernel_rfl) (by simp) ?_
  refine AllReadyH.cons rfl (fun K hK => ?_) AllReadyH.nil
  rw [if_pos (by rfl)]
  try simp only [List.getElem_toArray, List.getElem_cons_succ, List.getElem_cons_zero]
  go_simp
  refine (HBLK.out _).mono ?_
  rintro e x2 ⟨rfl, hcx2⟩
  have hch2 : Chg (· = w2.heap.size) w6 x2 := hch1.trans (hcx2.mono (fun _ _ h => h.elim))
  have hrr := (HRR.out.drew.chg hcx1 (fun h => h)).chg hcx2 (fun h => h)
  refine hK.out _ _ (hch2) (fun _ => ?_)
  clear hK K
  try simp only [Act.put, List.setIfInBounds_toArray, List.set_cons_zero, List.set_cons_succ, List.getElem_toArray, List.getElem_cons_succ, List.getElem_cons_zero]
  refine wpAnyH_ready (rs := [6]) (by kernel_rfl) (by simp) ?_
  refine AllReadyH.cons rfl (fun K hK => ?_) AllReadyH.nil
  rw [if_pos (by rfl)]
  try simp only [List.getElem_toArray, List.getElem_cons_succ, List.getElem_cons_zero]
  refine wp_store_row (ty := 26) (xs := u8s E) rfl rfl (hrr) rfl (by rw [u8s_length, u8s_length, HEL.out, List.length_replicate]) (by rw [u8s_length, HEL.out]; exact size26) (u8s_oneA _) ?_
  intro x3 hr_x3 hc_x3 hs_x3
  refine hK.out _ _ (hc_x3 _ w6 hch2 (fun _ => rfl)) (fun _ => ?_)
  clear hK K
  try simp only [Act.put]
  refine wpAnyH_done (by kernel_rfl) ?_ _
  go_wp2
  refine ret_row rfl rfl hr_x3 Tryd.underlying26 rfl (by rw [u8s_length, HEL.out]; exact size26) rfl ?_
  exact ⟨by rw [HE.out], HC6.out.andThen (hc_x3 (· = w2.heap.size) w6 hch2 (fun _ => rfl)) (fun b h e => by have := HG.out; omega)⟩
end Go.Proofs.YtidafbpiipjnlaaDoor
