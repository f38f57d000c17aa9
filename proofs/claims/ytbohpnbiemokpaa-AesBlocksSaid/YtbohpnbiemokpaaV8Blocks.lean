/- Layer 8 (aes): the walk of the law AesBlocks. -/
import Derived.Test.YtbohpnbiemokpaaV8Open
import Derived.Test.YtbohpnbiemokpaaV8REnc
namespace Go.Proofs.Ytbohpnbiemokpaa
open Go.RowKit

theorem part_row (l : List Nat) (off : Nat) (w : World) : (part 27 (u8s l).toArray off).run Try.prog w = .ok (.agg (u8s ((l.drop off).take 4)).toArray) w := by
  obtain ⟨i, hi⟩ := info_of_underlying Try.underlying27
  have hc : Try.prog.cellsOf 27 = 4 := cellsRow4
  simp [part, isAgg, run_underlying Try.underlying27, run_sizeOf w hi, hc, u8s, List.map_take, List.map_drop]
theorem eqItems_row (d : Nat) (l : List Nat) (w : World) : ∀ is : List Nat, (∀ i ∈ is, i * 4 + 4 ≤ l.length) →
    (Op.eqItems (d + 2) 27 4 (u8s l).toArray (u8s l).toArray is).run Try.prog w = .ok true w
  | [], _ => by simp [Op.eqItems]
  | i :: is, h => by
    have ih := eqItems_row d l w is (fun j hj => h j (by simp [hj]))
    have hl : ((l.drop (i * 4)).take 4).length = 4 := by
      have := h i (by simp)
      rw [List.length_take, List.length_drop]; omega
    have hq := arr_eql 27 4 d Try.underlying27 _ _ hl hl w
    rw [decide_eq_true rfl] at hq
    simp only [Op.eqItems, Sem.run_bind, part_row, Result.andThen_ok, hq]
    simpa using ih
theorem keys_refl (l : List Nat) (hl : l.length = 176) (w : World) : (Op.equalIn 10000 28 (.agg (u8s l).toArray) (.agg (u8s l).toArray)).run Try.prog w = .ok true w := by
  obtain ⟨i0, hi⟩ := info_of_underlying Try.underlying27
  rw [show (10000 : Nat) = 9999 + 1 from rfl, run_equalIn_array w 9999 _ _ Try.underlying28 hi, cellsRow4, show (9999 : Nat) = 9997 + 2 from rfl]
  exact eqItems_row 9997 l w _ (fun i h => by have := List.mem_range.1 h; omega)

set_option maxRecDepth 100000 in
set_option maxHeartbeats 1000000 in
theorem walk_AesBlocks (key b : List Nat) (W : World) (hk : key.length = 16) (hkb : ∀ x ∈ key, x < 256) (hb : b.length = 16) (hbb : ∀ x ∈ b, x < 256) :
    Calls Try.prog 4 #[.agg (u8s key).toArray, .agg (u8s b).toArray] W fun e w' => e = .returned (.bool true) ∧ Chg none_ W w' := by
  have HA := Lib.hid (fun w => Keys_any key w hk hkb)
  have HT := Lib.hid (fun w => rtable_any w)
  have HB := Lib.hid (fun w => rkeys_any key w hk hkb)
  have HC := Lib.hid (fun w => Encipher_any key b w hk hkb hb hbb)
  have HD := Lib.hid (fun w => rencipher_any key b w hk hkb hb hbb)
  have HKL := Lib.hid hk
  have HBL := Lib.hid hb
  have HQ1 := Lib.hid (fun w => keys_refl (keysN key 176) (keysN_len _ _) w)
  have HQ2 : Hid (∀ w, (Op.equalIn 10000 26 (.agg (u8s (cipherN key b)).toArray) (.agg (u8s (cipherN key b)).toArray)).run Try.prog w = .ok true w) := Lib.hid (fun w => by have := blk_eql (cipherN key b) (cipherN key b) (cipherN_len _ _) (cipherN_len _ _) w; rwa [decide_eq_true rfl] at this)
  generalize keysN key 176 = KN at HA HB HQ1
  generalize cipherN key b = CN at HC HD HQ2
  clear hk hkb hb hbb
  go_enter Try.func4, Try.ntmps4
  go_wp2_with (first | ((with_reducible show wpList _ _ _ (⟨some 2, .box 26 _, _, _, _, _⟩ :: _) _ _); refine wpList_box_Row rfl rfl (u8s key) rfl ?_; intro w1 hr1 hc1 hs1; have HR1 := Lib.hid hr1; have HC1 := Lib.hid hc1; clear hr1 hc1 hs1) | ((with_reducible show wpList _ _ _ (⟨some 3, .box 26 _, _, _, _, _⟩ :: _) _ _); refine wpList_box_Row rfl rfl (u8s b) rfl ?_; intro w2 hr2 hc2 hs2; have HR2 := Lib.hid hr2; have HC2 := Lib.hid (HC1.out.trans hc2); have HR1b := Lib.hid (HR1.out.chg hc2 (fun h => h)); clear hr2 hc2 hs2) | (go_at_call 10; refine (alive_any _).mono ?_; rintro e w3 ⟨rfl, hc3⟩; have HC3 := Lib.hid (HC2.out.trans hc3); have HRK := Lib.hid (HR1b.out.chg hc3 (fun h => h)); have HRB := Lib.hid (HR2.out.chg hc3 (fun h => h)); clear hc3))
  refine wp_region_held_drew (S := fun w' => Chg none_ w3 w') (by kernel_rfl) ((Chg.refl none_ w3).drew) (fun hch0 => ?_)
  generalize w3.drew = wd at hch0 ⊢
  refine wpAnyH_take (i := 0) (v := .agg (u8s key).toArray) rfl (by kernel_rfl) (by kernel_rfl) (by kernel_rfl) (by first | exact fun _ _ _ h => h | exact fun _ _ _ h => nomatch h.1) (yieldsIf_load_mid (by rfl) 26 _ rfl W.heap.size 0 rfl (u8s key) _ (fun w' hw' => (HRK.out.chg hw' (fun h => h)).range) Try.underlying26 rfl (by rw [u8s_length, HKL.out]; exact size26)) hch0 ?_
  refine wpAnyH_take (i := 2) (v := .agg (u8s key).toArray) rfl (by kernel_rfl) (by kernel_rfl) (by kernel_rfl) (by first | exact fun _ _ _ h => h | exact fun _ _ _ h => nomatch h.1) (yieldsIf_load_mid (by rfl) 26 _ rfl W.heap.size 0 rfl (u8s key) _ (fun w' hw' => (HRK.out.chg hw' (fun h => h)).range) Try.underlying26 rfl (by rw [u8s_length, HKL.out]; exact size26)) hch0 ?_
  try simp only [Act.put, List.setIfInBounds_toArray, List.set_cons_zero, List.set_cons_succ, List.getElem_toArray, List.getElem_cons_succ, List.getElem_cons_zero]
  refine wpAnyH_ready (rs := [1]) (by kernel_rfl) (by simp) ?_
  refine AllReadyH.cons rfl (fun K hK => ?_) AllReadyH.nil
  rw [if_pos (by rfl)]
  try simp only [Act.put, List.setIfInBounds_toArray, List.set_cons_zero, List.set_cons_succ, List.getElem_toArray, List.getElem_cons_succ, List.getElem_cons_zero]
  go_simp
  refine (HA.out _).mono ?_
  rintro e x1 ⟨rfl, hcx1⟩
  have hch1 : Chg none_ w3 x1 := hch0.trans hcx1
  refine hK.out _ _ (hch1) (fun _ => ?_)
  clear hK K
  try simp only [Act.put, List.setIfInBounds_toArray, List.set_cons_zero, List.set_cons_succ, List.getElem_toArray, List.getElem_cons_succ, List.getElem_cons_zero]
  refine wpAnyH_ready (rs := [3]) (by kernel_rfl) (by simp) ?_
  refine AllReadyH.cons rfl (fun K hK => ?_) AllReadyH.nil
  rw [if_pos (by rfl)]
  try simp only [Act.put, List.setIfInBounds_toArray, List.set_cons_zero, List.set_cons_succ, List.getElem_toArray, List.getElem_cons_succ, List.getElem_cons_zero]
  go_simp
  refine (HT.out _).mono ?_
  rintro e x2 ⟨rfl, hcx2⟩
  have hch2 : Chg none_ w3 x2 := hch1.trans hcx2
  refine hK.out _ _ (hch2) (fun _ => ?_)
  clear hK K
  try simp only [Act.put, List.setIfInBounds_toArray, List.set_cons_zero, List.set_cons_succ, List.getElem_toArray, List.getElem_cons_succ, List.getElem_cons_zero]
  refine wpAnyH_ready (rs := [4]) (by kernel_rfl) (by simp) ?_
  refine AllReadyH.cons rfl (fun K hK => ?_) AllReadyH.nil
  rw [if_pos (by rfl)]
  try simp only [Act.put, List.setIfInBounds_toArray, List.set_cons_zero, List.set_cons_succ, List.getElem_toArray, List.getElem_cons_succ, List.getElem_cons_zero]
  go_simp
  refine (HB.out _).mono ?_
  rintro e x3 ⟨rfl, hcx3⟩
  have hch3 : Chg none_ w3 x3 := hch2.trans hcx3
  refine hK.out _ _ (hch3) (fun _ => ?_)
  clear hK K
  try simp only [Act.put, List.setIfInBounds_toArray, List.set_cons_zero, List.set_cons_succ, List.getElem_toArray, List.getElem_cons_succ, List.getElem_cons_zero]
  refine wpAnyH_take (i := 5) (v := .bool true) rfl (by kernel_rfl) (by kernel_rfl) (by kernel_rfl) (by first | exact fun _ _ _ h => h | exact fun _ _ _ h => nomatch h.1) (yieldsIf_eql (by rfl) 28 _ _ _ rfl (u8s KN).toArray (u8s KN).toArray rfl rfl true (fun w => run_eqGuard_agg w .eql 28 _ _ _ _ Try.eqGuardType28) (fun w _ => HQ1.out w)) hch3 ?_
  refine wpAnyH_take (i := 6) (v := .bool true) rfl (by kernel_rfl) (by kernel_rfl) (by kernel_rfl) (by first | exact fun _ _ _ h => h | exact fun _ _ _ h => nomatch h.1) (Or.inl ⟨by rfl, fun w_ hw_ => by go_simp⟩) hch3 ?_
  try simp only [Act.put, List.setIfInBounds_toArray, List.set_cons_zero, List.set_cons_succ, List.getElem_toArray, List.getElem_cons_succ, List.getElem_cons_zero]
  refine wpAnyH_take (i := 7) (v := .agg (u8s key).toArray) rfl (by kernel_rfl) (by kernel_rfl) (by kernel_rfl) (by first | exact fun _ _ _ h => h | exact fun _ _ _ h => nomatch h.1) (yieldsIf_load_mid (by rfl) 26 _ rfl W.heap.size 0 rfl (u8s key) _ (fun w' hw' => (HRK.out.chg hw' (fun h => h)).range) Try.underlying26 rfl (by rw [u8s_length, HKL.out]; exact size26)) hch3 ?_
  refine wpAnyH_take (i := 8) (v := .agg (u8s b).toArray) rfl (by kernel_rfl) (by kernel_rfl) (by kernel_rfl) (by first | exact fun _ _ _ h => h | exact fun _ _ _ h => nomatch h.1) (yieldsIf_load_mid (by rfl) 26 _ rfl w1.heap.size 0 rfl (u8s b) _ (fun w' hw' => (HRB.out.chg hw' (fun h => h)).range) Try.underlying26 rfl (by rw [u8s_length, HBL.out]; exact size26)) hch3 ?_
  refine wpAnyH_take (i := 10) (v := .agg (u8s key).toArray) rfl (by kernel_rfl) (by kernel_rfl) (by kernel_rfl) (by first | exact fun _ _ _ h => h | exact fun _ _ _ h => nomatch h.1) (yieldsIf_load_mid (by rfl) 26 _ rfl W.heap.size 0 rfl (u8s key) _ (fun w' hw' => (HRK.out.chg hw' (fun h => h)).range) Try.underlying26 rfl (by rw [u8s_length, HKL.out]; exact size26)) hch3 ?_
  refine wpAnyH_take (i := 11) (v := .agg (u8s b).toArray) rfl (by kernel_rfl) (by kernel_rfl) (by kernel_rfl) (by first | exact fun _ _ _ h => h | exact fun _ _ _ h => nomatch h.1) (yieldsIf_load_mid (by rfl) 26 _ rfl w1.heap.size 0 rfl (u8s b) _ (fun w' hw' => (HRB.out.chg hw' (fun h => h)).range) Try.underlying26 rfl (by rw [u8s_length, HBL.out]; exact size26)) hch3 ?_
  try simp only [Act.put, List.setIfInBounds_toArray, List.set_cons_zero, List.set_cons_succ, List.getElem_toArray, List.getElem_cons_succ, List.getElem_cons_zero]
  refine wpAnyH_ready (rs := [9]) (by kernel_rfl) (by simp) ?_
  refine AllReadyH.cons rfl (fun K hK => ?_) AllReadyH.nil
  rw [if_pos (by rfl)]
  try simp only [Act.put, List.setIfInBounds_toArray, List.set_cons_zero, List.set_cons_succ, List.getElem_toArray, List.getElem_cons_succ, List.getElem_cons_zero]
  go_simp
  refine (HC.out _).mono ?_
  rintro e x4 ⟨rfl, hcx4⟩
  have hch4 : Chg none_ w3 x4 := hch3.trans hcx4
  refine hK.out _ _ (hch4) (fun _ => ?_)
  clear hK K
  try simp only [Act.put, List.setIfInBounds_toArray, List.set_cons_zero, List.set_cons_succ, List.getElem_toArray, List.getElem_cons_succ, List.getElem_cons_zero]
  refine wpAnyH_ready (rs := [12]) (by kernel_rfl) (by simp) ?_
  refine AllReadyH.cons rfl (fun K hK => ?_) AllReadyH.nil
  rw [if_pos (by rfl)]
  try simp only [Act.put, List.setIfInBounds_toArray, List.set_cons_zero, List.set_cons_succ, List.getElem_toArray, List.getElem_cons_succ, List.getElem_cons_zero]
  go_simp
  refine (HD.out _).mono ?_
  rintro e x5 ⟨rfl, hcx5⟩
  have hch5 : Chg none_ w3 x5 := hch4.trans hcx5
  refine hK.out _ _ (hch5) (fun _ => ?_)
  clear hK K
  try simp only [Act.put, List.setIfInBounds_toArray, List.set_cons_zero, List.set_cons_succ, List.getElem_toArray, List.getElem_cons_succ, List.getElem_cons_zero]
  refine wpAnyH_take (i := 13) (v := .bool true) rfl (by kernel_rfl) (by kernel_rfl) (by kernel_rfl) (by first | exact fun _ _ _ h => h | exact fun _ _ _ h => nomatch h.1) (yieldsIf_eql (by rfl) 26 _ _ _ rfl (u8s CN).toArray (u8s CN).toArray rfl rfl true (fun w => run_eqGuard_agg w .eql 26 _ _ _ _ Try.eqGuardType26) (fun w _ => HQ2.out w)) hch5 ?_
  refine wpAnyH_take (i := 14) (v := .bool true) rfl (by kernel_rfl) (by kernel_rfl) (by kernel_rfl) (by first | exact fun _ _ _ h => h | exact fun _ _ _ h => nomatch h.1) (Or.inl ⟨by rfl, fun w_ hw_ => by go_simp⟩) hch5 ?_
  refine wpAnyH_take (i := 15) (v := .bool true) rfl (by kernel_rfl) (by kernel_rfl) (by kernel_rfl) (by first | exact fun _ _ _ h => h | exact fun _ _ _ h => nomatch h.1) (Or.inl ⟨by rfl, fun w_ hw_ => by go_simp⟩) hch5 ?_
  try simp only [Act.put, List.setIfInBounds_toArray, List.set_cons_zero, List.set_cons_succ, List.getElem_toArray, List.getElem_cons_succ, List.getElem_cons_zero]
  refine wpAnyH_done (by kernel_rfl) ?_ _
  go_wp2
  go_ret
  exact ⟨rfl, HC3.out.trans hch5⟩
end Go.Proofs.Ytbohpnbiemokpaa
