/- Layer 5 (params): the law ParamsPut. -/
import Derived.Test.YtgdkfeifijkknaaDoorV5Twice
import Derived.Deep.RegionHeld3
namespace Go.Proofs.YtgdkfeifijkknaaDoor
open Go.RowKit

set_option maxRecDepth 100000 in
set_option maxHeartbeats 2000000 in
theorem puts_any (p : Pm) (a b : Nat) (W : World) (o : p.Ok) (hT : Tab W) : Calls Tryd.prog 3 #[aggP p, .int .u64 a, .int .u64 b] W fun e w' => e = .returned (.bool true) ∧ Chg none_ W w' := by
  have HLp := Lib.hid (cP_len p o.tok)
  have HC0 := Lib.hid ((Chg.refl none_ W).alloc (.cells (cellsP p).toArray 25))
  have HXp := Lib.hid (fun w' (hc : Chg none_ (W.alloc (.cells (cellsP p).toArray 25)) w') => (Row.new W 25 (cellsP p)).chg hc (fun h => h))
  have HAL := Lib.hid (alive_any _ (hT.chg HC0.out (fun h => h)))
  have HTX := Lib.hid (fun w' (hc : Chg none_ (W.alloc (.cells (cellsP p).toArray 25)) w') => (hT.chg HC0.out (fun h => h)).chg hc (fun h => h))
  have HMp := Lib.hid (fun w => may_any p o.tok w)
  have HMr := Lib.hid (fun w => rmay_any p o.tok w)
  have HPp := Lib.hid (fun w hT => putP_any p w o.tok hT)
  have HPr := Lib.hid (fun w => rputP_any p w o.tok)
  rw [← put_same p o.tok] at HPr
  have HLL := Lib.hid (putP_len p o.tok)
  have HI := Lib.hid (fun w => idle_any a b w)
  have HJ := Lib.hid (fun w => ridle_any a b w)
  clear o hT
  unfold aggP at *
  generalize mayB p = m at *
  generalize putP p = L at *
  generalize idleM a b = z at *
  generalize cellsP p = cp at *
  go_enter Tryd.func3, Tryd.ntmps3
  go_wp2_with (go_at_call 9; refine HAL.out.mono ?_; rintro e w3 ⟨rfl, hc1⟩)
  have HC3 := Lib.hid hc1
  clear hc1
  have hch0 : Chg none_ w3 w3.drew := (Chg.refl _ _).drew
  have HYp : Hid (∀ w', Chg none_ w3 w' → Row w' W.heap.size 25 cp) := fun w' hc => HXp.out w' (HC3.out.trans hc)
  refine wp_region_held_drew (S := fun w' => Chg none_ w3 w') (by kernel_rfl) hch0 (fun _ => ?_)
  refine wpAnyH_take (i := 0) (v := .agg cp.toArray) rfl (by kernel_rfl) (by kernel_rfl) (by kernel_rfl) (by first | exact fun _ _ _ h => h | exact fun _ _ _ h => nomatch h.1) (yieldsIf_load_mid (by rfl) 25 _ rfl W.heap.size 0 rfl cp _ (fun w' hw' => (HYp.out w' hw').range) Tryd.underlying25 rfl (by rw [HLp.out]; exact sizeP)) hch0 ?_
  refine wpAnyH_take (i := 2) (v := .agg cp.toArray) rfl (by kernel_rfl) (by kernel_rfl) (by kernel_rfl) (by first | exact fun _ _ _ h => h | exact fun _ _ _ h => nomatch h.1) (yieldsIf_load_mid (by rfl) 25 _ rfl W.heap.size 0 rfl cp _ (fun w' hw' => (HYp.out w' hw').range) Tryd.underlying25 rfl (by rw [HLp.out]; exact sizeP)) hch0 ?_
  refine wpAnyH_ready (rs := [1]) (by kernel_rfl) (by simp) ?_
  refine AllReadyH.cons rfl (fun K hK => ?_) AllReadyH.nil
  rw [if_pos (by rfl)]
  try simp only [List.getElem_toArray, List.getElem_cons_succ, List.getElem_cons_zero]
  go_simp
  refine (HMp.out _).mono ?_
  rintro e w4 ⟨rfl, hc4⟩
  have hch1 : Chg none_ w3 w4 := hch0.trans hc4
  refine hK.out _ _ hch1 (fun _ => ?_)
  clear hK K
  try simp only [Act.put, List.setIfInBounds_toArray, List.set_cons_zero, List.set_cons_succ, List.getElem_toArray, List.getElem_cons_succ, List.getElem_cons_zero]
  refine wpAnyH_ready (rs := [3]) (by kernel_rfl) (by simp) ?_
  refine AllReadyH.cons rfl (fun K hK => ?_) AllReadyH.nil
  rw [if_pos (by rfl)]
  try simp only [List.getElem_toArray, List.getElem_cons_succ, List.getElem_cons_zero]
  go_simp
  refine (HMr.out _).mono ?_
  rintro e w5 ⟨rfl, hc5⟩
  have hch2 : Chg none_ w3 w5 := hch1.trans hc5
  refine hK.out _ _ hch2 (fun _ => ?_)
  clear hK K
  try simp only [Act.put, List.setIfInBounds_toArray, List.set_cons_zero, List.set_cons_succ, List.getElem_toArray, List.getElem_cons_succ, List.getElem_cons_zero]
  refine wpAnyH_take (i := 4) (v := .bool true) rfl (by kernel_rfl) (by kernel_rfl) (by kernel_rfl) (by first | exact fun _ _ _ h => h | exact fun _ _ _ h => nomatch h.1) (Or.inl ⟨by rfl, fun w' hw' => by go_simp⟩) hch2 ?_
  refine wpAnyH_take (i := 5) (v := .bool true) rfl (by kernel_rfl) (by kernel_rfl) (by kernel_rfl) (by first | exact fun _ _ _ h => h | exact fun _ _ _ h => nomatch h.1) (Or.inl ⟨by rfl, fun w' hw' => by go_simp⟩) hch2 ?_
  refine wpAnyH_take (i := 6) (v := .agg cp.toArray) rfl (by kernel_rfl) (by kernel_rfl) (by kernel_rfl) (by first | exact fun _ _ _ h => h | exact fun _ _ _ h => nomatch h.1) (yieldsIf_load_mid (by rfl) 25 _ rfl W.heap.size 0 rfl cp _ (fun w' hw' => (HYp.out w' hw').range) Tryd.underlying25 rfl (by rw [HLp.out]; exact sizeP)) hch2 ?_
  refine wpAnyH_take (i := 8) (v := .agg cp.toArray) rfl (by kernel_rfl) (by kernel_rfl) (by kernel_rfl) (by first | exact fun _ _ _ h => h | exact fun _ _ _ h => nomatch h.1) (yieldsIf_load_mid (by rfl) 25 _ rfl W.heap.size 0 rfl cp _ (fun w' hw' => (HYp.out w' hw').range) Tryd.underlying25 rfl (by rw [HLp.out]; exact sizeP)) hch2 ?_
  refine wpAnyH_ready (rs := [7]) (by kernel_rfl) (by simp) ?_
  refine AllReadyH.cons rfl (fun K hK => ?_) AllReadyH.nil
  rw [if_pos (by rfl)]
  try simp only [List.getElem_toArray, List.getElem_cons_succ, List.getElem_cons_zero]
  go_simp
  refine (HPp.out _ (HTX.out _ (HC3.out.trans hch2))).mono ?_
  rintro e w9 ⟨A9, k9, rfl, v9, hc9⟩
  have hch3 : Chg none_ w3 w9 := hch2.trans hc9
  refine hK.out _ _ hch3 (fun _ => ?_)
  clear hK K
  try simp only [Act.put, List.setIfInBounds_toArray, List.set_cons_zero, List.set_cons_succ, List.getElem_toArray, List.getElem_cons_succ, List.getElem_cons_zero]
  refine wpAnyH_ready (rs := [9]) (by kernel_rfl) (by simp) ?_
  refine AllReadyH.cons rfl (fun K hK => ?_) AllReadyH.nil
  rw [if_pos (by rfl)]
  try simp only [List.getElem_toArray, List.getElem_cons_succ, List.getElem_cons_zero]
  go_simp
  refine (HPr.out _).mono ?_
  rintro e w10 ⟨A10, k10, rfl, f10, hc10⟩
  have hch4 : Chg none_ w3 w10 := hch3.trans hc10
  refine hK.out _ _ hch4 (fun _ => ?_)
  clear hK K
  try simp only [Act.put, List.setIfInBounds_toArray, List.set_cons_zero, List.set_cons_succ, List.getElem_toArray, List.getElem_cons_succ, List.getElem_cons_zero]
  refine wpAnyH_ready (rs := [10]) (by kernel_rfl) (by simp) ?_
  refine AllReadyH.cons rfl (fun K hK => ?_) AllReadyH.nil
  rw [if_pos (by rfl)]
  try simp only [List.getElem_toArray, List.getElem_cons_succ, List.getElem_cons_zero]
  go_simp
  refine (same_any w10 _ _ A9 A10 k9 k10 L L (v9.chg hc10 (fun _ _ h => h)) f10.view (by have := HLL.out; omega)).mono ?_
  rintro e w11 ⟨rfl, nk, rfl⟩
  rw [decide_eq_true rfl]
  have hch5 : Chg none_ w3 (w10.drewN nk) := hch4.drewN nk
  refine hK.out _ _ hch5 (fun _ => ?_)
  clear hK K
  try simp only [Act.put, List.setIfInBounds_toArray, List.set_cons_zero, List.set_cons_succ, List.getElem_toArray, List.getElem_cons_succ, List.getElem_cons_zero]
  refine wpAnyH_take (i := 11) (v := .bool true) rfl (by kernel_rfl) (by kernel_rfl) (by kernel_rfl) (by first | exact fun _ _ _ h => h | exact fun _ _ _ h => nomatch h.1) (Or.inl ⟨by rfl, fun w' hw' => by go_simp⟩) hch5 ?_
  refine wpAnyH_take (i := 12) (v := .bool true) rfl (by kernel_rfl) (by kernel_rfl) (by kernel_rfl) (by first | exact fun _ _ _ h => h | exact fun _ _ _ h => nomatch h.1) (Or.inl ⟨by rfl, fun w' hw' => by go_simp⟩) hch5 ?_
  refine wpAnyH_take (i := 13) (v := .int .u64 a) rfl (by kernel_rfl) (by kernel_rfl) (by kernel_rfl) (by first | exact fun _ _ _ h => h | exact fun _ _ _ h => nomatch h.1) (Or.inl ⟨by rfl, fun w' hw' => by go_simp⟩) hch5 ?_
  refine wpAnyH_take (i := 14) (v := .int .u64 b) rfl (by kernel_rfl) (by kernel_rfl) (by kernel_rfl) (by first | exact fun _ _ _ h => h | exact fun _ _ _ h => nomatch h.1) (Or.inl ⟨by rfl, fun w' hw' => by go_simp⟩) hch5 ?_
  refine wpAnyH_take (i := 16) (v := .int .u64 a) rfl (by kernel_rfl) (by kernel_rfl) (by kernel_rfl) (by first | exact fun _ _ _ h => h | exact fun _ _ _ h => nomatch h.1) (Or.inl ⟨by rfl, fun w' hw' => by go_simp⟩) hch5 ?_
  refine wpAnyH_take (i := 17) (v := .int .u64 b) rfl (by kernel_rfl) (by kernel_rfl) (by kernel_rfl) (by first | exact fun _ _ _ h => h | exact fun _ _ _ h => nomatch h.1) (Or.inl ⟨by rfl, fun w' hw' => by go_simp⟩) hch5 ?_
  refine wpAnyH_ready (rs := [15]) (by kernel_rfl) (by simp) ?_
  refine AllReadyH.cons rfl (fun K hK => ?_) AllReadyH.nil
  rw [if_pos (by rfl)]
  try simp only [List.getElem_toArray, List.getElem_cons_succ, List.getElem_cons_zero]
  go_simp
  refine (HI.out _).mono ?_
  rintro e w12 ⟨rfl, rfl⟩
  refine hK.out _ _ hch5 (fun _ => ?_)
  clear hK K
  try simp only [Act.put, List.setIfInBounds_toArray, List.set_cons_zero, List.set_cons_succ, List.getElem_toArray, List.getElem_cons_succ, List.getElem_cons_zero]
  refine wpAnyH_ready (rs := [18]) (by kernel_rfl) (by simp) ?_
  refine AllReadyH.cons rfl (fun K hK => ?_) AllReadyH.nil
  rw [if_pos (by rfl)]
  try simp only [List.getElem_toArray, List.getElem_cons_succ, List.getElem_cons_zero]
  go_simp
  refine (HJ.out _).mono ?_
  rintro e w13 ⟨rfl, rfl⟩
  refine hK.out _ _ hch5 (fun _ => ?_)
  clear hK K
  try simp only [Act.put, List.setIfInBounds_toArray, List.set_cons_zero, List.set_cons_succ, List.getElem_toArray, List.getElem_cons_succ, List.getElem_cons_zero]
  refine wpAnyH_take (i := 19) (v := .bool true) rfl (by kernel_rfl) (by kernel_rfl) (by kernel_rfl) (by first | exact fun _ _ _ h => h | exact fun _ _ _ h => nomatch h.1) (Or.inl ⟨by rfl, fun w' hw' => by go_simp⟩) hch5 ?_
  refine wpAnyH_take (i := 20) (v := .bool true) rfl (by kernel_rfl) (by kernel_rfl) (by kernel_rfl) (by first | exact fun _ _ _ h => h | exact fun _ _ _ h => nomatch h.1) (Or.inl ⟨by rfl, fun w' hw' => by go_simp⟩) hch5 ?_
  refine wpAnyH_ready (rs := [21]) (by kernel_rfl) (by simp) ?_
  refine AllReadyH.cons rfl (fun K hK => ?_) AllReadyH.nil
  rw [if_pos (by rfl)]
  try simp only [List.getElem_toArray, List.getElem_cons_succ, List.getElem_cons_zero]
  go_simp
  refine hK.out _ _ hch5 (fun _ => ?_)
  clear hK K
  try simp only [Act.put, List.setIfInBounds_toArray, List.set_cons_zero, List.set_cons_succ, List.getElem_toArray, List.getElem_cons_succ, List.getElem_cons_zero]
  refine wpAnyH_done (by kernel_rfl) ?_ _
  go_wp2
  go_ret
  exact ⟨rfl, (HC0.out.trans HC3.out).trans hch5⟩
theorem puts_walk (p : Pm) (a b : Int) (W : World) (o : p.Ok) (wa : (Lit.int .u64 a).wf = true) (wb : (Lit.int .u64 b).wf = true) (hT : Tab W) : Calls Tryd.prog 3 #[aggP p, .int .u64 a, .int .u64 b] W fun e w' => e = .returned (.bool true) ∧ Chg none_ W w' := by
  obtain ⟨n, rfl⟩ := nat_of_wf wa rfl
  obtain ⟨m, rfl⟩ := nat_of_wf wb rfl
  exact puts_any p n m W o hT
end Go.Proofs.YtgdkfeifijkknaaDoor
