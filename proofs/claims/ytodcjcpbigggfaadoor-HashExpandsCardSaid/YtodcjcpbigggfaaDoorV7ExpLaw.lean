/- Layer 7 (hash): the walk of the law HashExpands. -/
import Derived.Test.YtodcjcpbigggfaaDoorV7Open
import Derived.Test.YtodcjcpbigggfaaDoorV7RLabel
import Derived.Test.YtodcjcpbigggfaaDoorSame
namespace Go.Proofs.YtodcjcpbigggfaaDoor
open Go.RowKit

theorem maxl4 (n : Nat) (h : n ≤ maxLen) : n ≤ 9223372036854775807 := by unfold maxLen at h; omega
theorem expandN_le (s info : List Nat) (n : Int) : (expandN s info n).length ≤ 1000000 := by
  unfold expandN
  split
  · simp
  · rw [List.length_take]; omega
theorem labelN_le (s l : List Nat) (n : Int) : (labelN s l n).length ≤ 1000000 := by
  unfold labelN
  split
  · simp
  · exact expandN_le _ _ _
set_option maxRecDepth 100000 in
set_option maxHeartbeats 1000000 in
theorem walk_HashExpands (s : List Nat) (A : Option Addr) (len cap : Nat) (zs : List Int) (L : ByteArray) (n : Int) (W : World) (hsl : s.length = 32) (hsb : ∀ x ∈ s, x < 256) (x1 : IsRow .u8 W A len cap zs) (x2 : L.size ≤ maxLen) (x3 : (Lit.int .i64 n).wf = true) (hT : HTab W) :
    Calls Tryd.prog 4 #[.agg (u8s s).toArray, .slice A len cap, .string L, .int .i64 n] W fun e w' => e = .returned (.bool true) ∧ Chg none_ W w' := by
  obtain ⟨info, rfl, hic, him, hib, hvi⟩ := x1.u8
  have him2 := maxl4 _ (Nat.le_trans hic him)
  have hlm2 := maxl4 _ x2
  have HSL := Lib.hid hsl
  have HAL := Lib.hid (fun w' (hc : Chg none_ W w') => alive_any w' (hT.chg hc (fun h => h) (fun h => h)))
  by_cases hi : 200 < info.length
  · have hd1 : decide ((200 : Int) < (info.length : Int)) = true := by simp; omega
    clear hvi hib hsb hsl hT x1 x2 x3
    go_enter Tryd.func4, Tryd.ntmps4
    go_wp2_with (first | ((with_reducible show wpList _ _ _ (⟨_, .box 25 _, _, _, _, _⟩ :: _) _ _); refine wpList_box_Row rfl rfl (u8s s) rfl ?_; intro w0 hr0 hc0 hs0; have HR0 := Lib.hid hr0; have HR00 := Lib.hid hr0; have HC0 := Lib.hid hc0; clear hr0 hc0 hs0) | (go_at_call 8; refine (HAL.out _ HC0.out).mono ?_; rintro e wb ⟨rfl, hcb⟩; have HCB := Lib.hid (HC0.out.trans hcb); have HRS := Lib.hid (HR0.out.chg hcb (fun h => h)); clear hcb))
    go_ret
    exact ⟨rfl, HCB.out⟩
  have hd1 : decide ((200 : Int) < (info.length : Int)) = false := by simp; omega
  by_cases hnm : 100 < L.size
  · have hd2 : decide ((100 : Int) < (L.size : Int)) = true := by simp; omega
    clear hvi hib hsb hsl hT x1 x2 x3
    go_enter Tryd.func4, Tryd.ntmps4
    go_wp2_with (first | ((with_reducible show wpList _ _ _ (⟨_, .box 25 _, _, _, _, _⟩ :: _) _ _); refine wpList_box_Row rfl rfl (u8s s) rfl ?_; intro w0 hr0 hc0 hs0; have HR0 := Lib.hid hr0; have HR00 := Lib.hid hr0; have HC0 := Lib.hid hc0; clear hr0 hc0 hs0) | (go_at_call 8; refine (HAL.out _ HC0.out).mono ?_; rintro e wb ⟨rfl, hcb⟩; have HCB := Lib.hid (HC0.out.trans hcb); have HRS := Lib.hid (HR0.out.chg hcb (fun h => h)); clear hcb))
    go_ret
    exact ⟨rfl, HCB.out⟩
  have hd2 : decide ((100 : Int) < (L.size : Int)) = false := by simp; omega
  have HEX : Hid (∀ w', Chg none_ W w' → Calls Tryd.prog 15 #[.agg (u8s s).toArray, .slice A info.length cap, .int .i64 n] w' (SeenBytes w' (expandN s info n))) := Lib.hid (fun w' hc => (expand_any s info n _ A cap w' hsl hsb (hvi.chg hc (fun _ _ h => h)) (by omega) hic hib (hT.chg hc (fun h => h) (fun h => h))).mono fun e w'' ⟨A1, c1, h1, h2, h3⟩ => ⟨A1, c1, h1, h2.view.mono (fun _ _ _ => trivial), h3⟩)
  have HRX : Hid (∀ w', Chg none_ W w' → Calls Tryd.prog 16 #[.agg (u8s s).toArray, .slice A info.length cap, .int .i64 n] w' (SeenBytes w' (expandN s info n))) := Lib.hid (fun w' hc => rexpand_any s info n _ A cap w' hsl hsb (hvi.chg hc (fun _ _ h => h)) (by omega) hib (hT.chg hc (fun h => h) (fun h => h)))
  have HLB : Hid (∀ w', Chg none_ W w' → Calls Tryd.prog 17 #[.agg (u8s s).toArray, .string L, .int .i64 n] w' (SeenBytes w' (labelN s (bsN L) n))) := Lib.hid (fun w' hc => (label_any s L n w' hlm2 hsl hsb (hT.chg hc (fun h => h) (fun h => h))).mono fun e w'' ⟨A1, c1, h1, h2, h3⟩ => ⟨A1, c1, h1, h2.view.mono (fun _ _ _ => trivial), h3⟩)
  have HRL : Hid (∀ w', Chg none_ W w' → Calls Tryd.prog 18 #[.agg (u8s s).toArray, .string L, .int .i64 n] w' (SeenBytes w' (labelN s (bsN L) n))) := Lib.hid (fun w' hc => rlabel_any s L n w' hlm2 hsl hsb (hT.chg hc (fun h => h) (fun h => h)))
  have E1L := Lib.hid (expandN_le s info n)
  have E2L := Lib.hid (labelN_le s (bsN L) n)
  generalize expandN s info n = E1 at HEX HRX E1L
  generalize labelN s (bsN L) n = E2 at HLB HRL E2L
  clear hvi hib hsb hsl hT x1 x2 x3
  go_enter Tryd.func4, Tryd.ntmps4
  go_wp2_with (first | ((with_reducible show wpList _ _ _ (⟨_, .box 25 _, _, _, _, _⟩ :: _) _ _); refine wpList_box_Row rfl rfl (u8s s) rfl ?_; intro w0 hr0 hc0 hs0; have HR0 := Lib.hid hr0; have HR00 := Lib.hid hr0; have HC0 := Lib.hid hc0; clear hr0 hc0 hs0) | (go_at_call 8; refine (HAL.out _ HC0.out).mono ?_; rintro e wb ⟨rfl, hcb⟩; have HCB := Lib.hid (HC0.out.trans hcb); have HRS := Lib.hid (HR0.out.chg hcb (fun h => h)); clear hcb))
  refine wp_region_held_drew (S := fun w' => Chg none_ wb w') (by kernel_rfl) ((Chg.refl none_ wb).drew) (fun hch0 => ?_)
  generalize wb.drew = wd at hch0 ⊢
  refine wpAnyH_take (i := 0) (v := .agg (u8s s).toArray) rfl (by kernel_rfl) (by kernel_rfl) (by kernel_rfl) (by first | exact fun _ _ _ h => h | exact fun _ _ _ h => nomatch h.1) (yieldsIf_load_mid (by rfl) 25 _ rfl W.heap.size 0 rfl (u8s s) _ (fun w' hw' => (HRS.out.chg hw' (fun h => h)).range) Tryd.underlying25 rfl (by rw [u8s_length, HSL.out]; exact size25)) hch0 ?_
  refine wpAnyH_take (i := 1) (v := .slice A info.length cap) rfl (by kernel_rfl) (by kernel_rfl) (by kernel_rfl) (by first | exact fun _ _ _ h => h | exact fun _ _ _ h => nomatch h.1) (Or.inl ⟨by rfl, fun w_ hw_ => by go_simp⟩) hch0 ?_
  refine wpAnyH_take (i := 2) (v := .int .i64 n) rfl (by kernel_rfl) (by kernel_rfl) (by kernel_rfl) (by first | exact fun _ _ _ h => h | exact fun _ _ _ h => nomatch h.1) (Or.inl ⟨by rfl, fun w_ hw_ => by go_simp⟩) hch0 ?_
  refine wpAnyH_take (i := 4) (v := .agg (u8s s).toArray) rfl (by kernel_rfl) (by kernel_rfl) (by kernel_rfl) (by first | exact fun _ _ _ h => h | exact fun _ _ _ h => nomatch h.1) (yieldsIf_load_mid (by rfl) 25 _ rfl W.heap.size 0 rfl (u8s s) _ (fun w' hw' => (HRS.out.chg hw' (fun h => h)).range) Tryd.underlying25 rfl (by rw [u8s_length, HSL.out]; exact size25)) hch0 ?_
  refine wpAnyH_take (i := 5) (v := .slice A info.length cap) rfl (by kernel_rfl) (by kernel_rfl) (by kernel_rfl) (by first | exact fun _ _ _ h => h | exact fun _ _ _ h => nomatch h.1) (Or.inl ⟨by rfl, fun w_ hw_ => by go_simp⟩) hch0 ?_
  refine wpAnyH_take (i := 6) (v := .int .i64 n) rfl (by kernel_rfl) (by kernel_rfl) (by kernel_rfl) (by first | exact fun _ _ _ h => h | exact fun _ _ _ h => nomatch h.1) (Or.inl ⟨by rfl, fun w_ hw_ => by go_simp⟩) hch0 ?_
  try simp only [Act.put, List.setIfInBounds_toArray, List.set_cons_zero, List.set_cons_succ, List.getElem_toArray, List.getElem_cons_succ, List.getElem_cons_zero]
  refine wpAnyH_ready (rs := [3]) (by kernel_rfl) (by simp) ?_
  refine AllReadyH.cons rfl (fun K hK => ?_) AllReadyH.nil
  rw [if_pos (by rfl)]
  try simp only [Act.put, List.setIfInBounds_toArray, List.set_cons_zero, List.set_cons_succ, List.getElem_toArray, List.getElem_cons_succ, List.getElem_cons_zero]
  go_simp
  refine (HEX.out _ (HCB.out.trans hch0)).mono ?_
  rintro e y1 ⟨A1, c1, rfl, hv1, hcy1⟩
  have hch1 : Chg none_ wb y1 := hch0.trans hcy1
  refine hK.out _ _ hch1 (fun _ => ?_)
  clear hK K
  try simp only [Act.put, List.setIfInBounds_toArray, List.set_cons_zero, List.set_cons_succ, List.getElem_toArray, List.getElem_cons_succ, List.getElem_cons_zero]
  refine wpAnyH_ready (rs := [7]) (by kernel_rfl) (by simp) ?_
  refine AllReadyH.cons rfl (fun K hK => ?_) AllReadyH.nil
  rw [if_pos (by rfl)]
  try simp only [Act.put, List.setIfInBounds_toArray, List.set_cons_zero, List.set_cons_succ, List.getElem_toArray, List.getElem_cons_succ, List.getElem_cons_zero]
  go_simp
  refine (HRX.out _ (HCB.out.trans hch1)).mono ?_
  rintro e y2 ⟨A2, c2, rfl, hv2, hcy2⟩
  have hch2 : Chg none_ wb y2 := hch1.trans hcy2
  refine hK.out _ _ hch2 (fun _ => ?_)
  clear hK K
  try simp only [Act.put, List.setIfInBounds_toArray, List.set_cons_zero, List.set_cons_succ, List.getElem_toArray, List.getElem_cons_succ, List.getElem_cons_zero]
  refine wpAnyH_ready (rs := [8]) (by kernel_rfl) (by simp) ?_
  refine AllReadyH.cons rfl (fun K hK => ?_) AllReadyH.nil
  rw [if_pos (by rfl)]
  try simp only [Act.put, List.setIfInBounds_toArray, List.set_cons_zero, List.set_cons_succ, List.getElem_toArray, List.getElem_cons_succ, List.getElem_cons_zero]
  go_simp
  have hsm3 := same_any y2 _ _ A1 A2 c1 c2 E1 E1 (hv1.chg hcy2 (fun _ _ h => h)) hv2 E1L.out
  rw [decide_eq_true rfl] at hsm3
  refine hsm3.mono ?_
  rintro e y3 ⟨rfl, nk3, rfl⟩
  have hch3 : Chg none_ wb (y2.drewN nk3) := hch2.drewN nk3
  refine hK.out _ _ hch3 (fun _ => ?_)
  clear hK K
  try simp only [Act.put, List.setIfInBounds_toArray, List.set_cons_zero, List.set_cons_succ, List.getElem_toArray, List.getElem_cons_succ, List.getElem_cons_zero]
  generalize y2.drewN nk3 = y3 at hch3 ⊢
  refine wpAnyH_take (i := 9) (v := .bool true) rfl (by kernel_rfl) (by kernel_rfl) (by kernel_rfl) (by first | exact fun _ _ _ h => h | exact fun _ _ _ h => nomatch h.1) (Or.inl ⟨by rfl, fun w_ hw_ => by go_simp⟩) hch3 ?_
  refine wpAnyH_take (i := 10) (v := .agg (u8s s).toArray) rfl (by kernel_rfl) (by kernel_rfl) (by kernel_rfl) (by first | exact fun _ _ _ h => h | exact fun _ _ _ h => nomatch h.1) (yieldsIf_load_mid (by rfl) 25 _ rfl W.heap.size 0 rfl (u8s s) _ (fun w' hw' => (HRS.out.chg hw' (fun h => h)).range) Tryd.underlying25 rfl (by rw [u8s_length, HSL.out]; exact size25)) hch3 ?_
  refine wpAnyH_take (i := 11) (v := .string L) rfl (by kernel_rfl) (by kernel_rfl) (by kernel_rfl) (by first | exact fun _ _ _ h => h | exact fun _ _ _ h => nomatch h.1) (Or.inl ⟨by rfl, fun w_ hw_ => by go_simp⟩) hch3 ?_
  refine wpAnyH_take (i := 12) (v := .int .i64 n) rfl (by kernel_rfl) (by kernel_rfl) (by kernel_rfl) (by first | exact fun _ _ _ h => h | exact fun _ _ _ h => nomatch h.1) (Or.inl ⟨by rfl, fun w_ hw_ => by go_simp⟩) hch3 ?_
  refine wpAnyH_take (i := 14) (v := .agg (u8s s).toArray) rfl (by kernel_rfl) (by kernel_rfl) (by kernel_rfl) (by first | exact fun _ _ _ h => h | exact fun _ _ _ h => nomatch h.1) (yieldsIf_load_mid (by rfl) 25 _ rfl W.heap.size 0 rfl (u8s s) _ (fun w' hw' => (HRS.out.chg hw' (fun h => h)).range) Tryd.underlying25 rfl (by rw [u8s_length, HSL.out]; exact size25)) hch3 ?_
  refine wpAnyH_take (i := 15) (v := .string L) rfl (by kernel_rfl) (by kernel_rfl) (by kernel_rfl) (by first | exact fun _ _ _ h => h | exact fun _ _ _ h => nomatch h.1) (Or.inl ⟨by rfl, fun w_ hw_ => by go_simp⟩) hch3 ?_
  refine wpAnyH_take (i := 16) (v := .int .i64 n) rfl (by kernel_rfl) (by kernel_rfl) (by kernel_rfl) (by first | exact fun _ _ _ h => h | exact fun _ _ _ h => nomatch h.1) (Or.inl ⟨by rfl, fun w_ hw_ => by go_simp⟩) hch3 ?_
  try simp only [Act.put, List.setIfInBounds_toArray, List.set_cons_zero, List.set_cons_succ, List.getElem_toArray, List.getElem_cons_succ, List.getElem_cons_zero]
  refine wpAnyH_ready (rs := [13]) (by kernel_rfl) (by simp) ?_
  refine AllReadyH.cons rfl (fun K hK => ?_) AllReadyH.nil
  rw [if_pos (by rfl)]
  try simp only [Act.put, List.setIfInBounds_toArray, List.set_cons_zero, List.set_cons_succ, List.getElem_toArray, List.getElem_cons_succ, List.getElem_cons_zero]
  go_simp
  refine (HLB.out _ (HCB.out.trans hch3)).mono ?_
  rintro e y4 ⟨A4, c4, rfl, hv4, hcy4⟩
  have hch4 : Chg none_ wb y4 := hch3.trans hcy4
  refine hK.out _ _ hch4 (fun _ => ?_)
  clear hK K
  try simp only [Act.put, List.setIfInBounds_toArray, List.set_cons_zero, List.set_cons_succ, List.getElem_toArray, List.getElem_cons_succ, List.getElem_cons_zero]
  refine wpAnyH_ready (rs := [17]) (by kernel_rfl) (by simp) ?_
  refine AllReadyH.cons rfl (fun K hK => ?_) AllReadyH.nil
  rw [if_pos (by rfl)]
  try simp only [Act.put, List.setIfInBounds_toArray, List.set_cons_zero, List.set_cons_succ, List.getElem_toArray, List.getElem_cons_succ, List.getElem_cons_zero]
  go_simp
  refine (HRL.out _ (HCB.out.trans hch4)).mono ?_
  rintro e y5 ⟨A5, c5, rfl, hv5, hcy5⟩
  have hch5 : Chg none_ wb y5 := hch4.trans hcy5
  refine hK.out _ _ hch5 (fun _ => ?_)
  clear hK K
  try simp only [Act.put, List.setIfInBounds_toArray, List.set_cons_zero, List.set_cons_succ, List.getElem_toArray, List.getElem_cons_succ, List.getElem_cons_zero]
  refine wpAnyH_ready (rs := [18]) (by kernel_rfl) (by simp) ?_
  refine AllReadyH.cons rfl (fun K hK => ?_) AllReadyH.nil
  rw [if_pos (by rfl)]
  try simp only [Act.put, List.setIfInBounds_toArray, List.set_cons_zero, List.set_cons_succ, List.getElem_toArray, List.getElem_cons_succ, List.getElem_cons_zero]
  go_simp
  have hsm6 := same_any y5 _ _ A4 A5 c4 c5 E2 E2 (hv4.chg hcy5 (fun _ _ h => h)) hv5 E2L.out
  rw [decide_eq_true rfl] at hsm6
  refine hsm6.mono ?_
  rintro e y6 ⟨rfl, nk6, rfl⟩
  have hch6 : Chg none_ wb (y5.drewN nk6) := hch5.drewN nk6
  refine hK.out _ _ hch6 (fun _ => ?_)
  clear hK K
  try simp only [Act.put, List.setIfInBounds_toArray, List.set_cons_zero, List.set_cons_succ, List.getElem_toArray, List.getElem_cons_succ, List.getElem_cons_zero]
  refine wpAnyH_take (i := 19) (v := .bool true) rfl (by kernel_rfl) (by kernel_rfl) (by kernel_rfl) (by first | exact fun _ _ _ h => h | exact fun _ _ _ h => nomatch h.1) (Or.inl ⟨by rfl, fun w_ hw_ => by go_simp⟩) hch6 ?_
  refine wpAnyH_take (i := 20) (v := .bool true) rfl (by kernel_rfl) (by kernel_rfl) (by kernel_rfl) (by first | exact fun _ _ _ h => h | exact fun _ _ _ h => nomatch h.1) (Or.inl ⟨by rfl, fun w_ hw_ => by go_simp⟩) hch6 ?_
  try simp only [Act.put, List.setIfInBounds_toArray, List.set_cons_zero, List.set_cons_succ, List.getElem_toArray, List.getElem_cons_succ, List.getElem_cons_zero]
  refine wpAnyH_done (by kernel_rfl) ?_ _
  go_wp2
  go_ret
  exact ⟨rfl, HCB.out.trans hch6⟩
end Go.Proofs.YtodcjcpbigggfaaDoor
