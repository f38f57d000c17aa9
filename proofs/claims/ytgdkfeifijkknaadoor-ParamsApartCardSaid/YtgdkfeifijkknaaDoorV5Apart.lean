/- Layer 5 (params): the law ParamsApart. -/
import Derived.Test.YtgdkfeifijkknaaDoorV5Twice
import Derived.Deep.RegionHeld3
import Derived.Test.YtgdkfeifijkknaaDoorEqTake
import Derived.Laws.StructEq
namespace Go.Proofs.YtgdkfeifijkknaaDoor
open Go.RowKit

theorem apart_put (p q : Pm) (o : p.Ok) (o' : q.Ok) (hm : mayB p = true) (hm' : mayB q = true) : decide (putP p = putP q) = decide (p = q) := by
  rw [Bool.eq_iff_iff]
  simp only [decide_eq_true_eq]
  unfold putP
  rw [hm, hm']
  exact apart_p p q hm o.tok hm' o'.tok

set_option maxRecDepth 100000 in
set_option maxHeartbeats 2000000 in
theorem apart_np (p q : Pm) (W : World) (o : p.Ok) (o' : q.Ok) (hT : Tab W) (hm : mayB p = false) : Calls Tryd.prog 7 #[aggP p, aggP q] W fun e w' => e = .returned (.bool true) ∧ Chg none_ W w' := by
  have HLp := Lib.hid (cP_len p o.tok)
  have HLq := Lib.hid (cP_len q o'.tok)
  have HC0 := Lib.hid (((Chg.refl none_ W).alloc (.cells (cellsP p).toArray 25)).alloc (.cells (cellsP q).toArray 25))
  have HXp := Lib.hid (fun w' (hc : Chg none_ ((W.alloc (.cells (cellsP p).toArray 25)).alloc (.cells (cellsP q).toArray 25)) w') => (Row.new1 W (.cells (cellsP q).toArray 25) 25 (cellsP p)).chg hc (fun h => h))
  have HXq := Lib.hid (fun w' (hc : Chg none_ ((W.alloc (.cells (cellsP p).toArray 25)).alloc (.cells (cellsP q).toArray 25)) w') => (Row.new2 W (.cells (cellsP p).toArray 25) 25 (cellsP q)).chg hc (fun h => h))
  have HAL := Lib.hid (alive_any _ (hT.chg HC0.out (fun h => h)))
  have HTX := Lib.hid (fun w' (hc : Chg none_ ((W.alloc (.cells (cellsP p).toArray 25)).alloc (.cells (cellsP q).toArray 25)) w') => (hT.chg HC0.out (fun h => h)).chg hc (fun h => h))
  have HMp := Lib.hid (fun w => may_any p o.tok w)
  have HMq := Lib.hid (fun w => may_any q o'.tok w)
  simp only [hm] at HMp
  clear o o' hT hm
  unfold aggP at *
  generalize cellsP p = cp at *
  generalize cellsP q = cq at *
  go_enter Tryd.func7, Tryd.ntmps7
  go_wp2_with (first | ((with_reducible show wpList _ _ _ (⟨_, .load 25 (.tmp 2), _, _, _, _⟩ :: _) _ _); refine wlP rfl rfl rfl (HXp.out _ (by assumption)) HLp.out ?_) | ((with_reducible show wpList _ _ _ (⟨_, .load 25 (.tmp 3), _, _, _, _⟩ :: _) _ _); refine wlP rfl rfl rfl (HXq.out _ (by assumption)) HLq.out ?_) | (go_at_call 9; refine HAL.out.mono ?_; rintro e w1 ⟨rfl, hc1⟩) | (go_at_call 10; first | (with_reducible refine (HMp.out _).mono ?_; rintro e w2 ⟨rfl, hm2⟩; have hc2 := hc1.trans hm2) | (with_reducible refine (HMq.out _).mono ?_; rintro e w3 ⟨rfl, hm3⟩; have hc3 := hc2.trans hm3)))
  go_ret
  exact ⟨rfl, HC0.out.trans hc2⟩

set_option maxRecDepth 100000 in
set_option maxHeartbeats 2000000 in
theorem apart_nq (p q : Pm) (W : World) (o : p.Ok) (o' : q.Ok) (hT : Tab W) (hm : mayB p = true) (hm' : mayB q = false) : Calls Tryd.prog 7 #[aggP p, aggP q] W fun e w' => e = .returned (.bool true) ∧ Chg none_ W w' := by
  have HLp := Lib.hid (cP_len p o.tok)
  have HLq := Lib.hid (cP_len q o'.tok)
  have HC0 := Lib.hid (((Chg.refl none_ W).alloc (.cells (cellsP p).toArray 25)).alloc (.cells (cellsP q).toArray 25))
  have HXp := Lib.hid (fun w' (hc : Chg none_ ((W.alloc (.cells (cellsP p).toArray 25)).alloc (.cells (cellsP q).toArray 25)) w') => (Row.new1 W (.cells (cellsP q).toArray 25) 25 (cellsP p)).chg hc (fun h => h))
  have HXq := Lib.hid (fun w' (hc : Chg none_ ((W.alloc (.cells (cellsP p).toArray 25)).alloc (.cells (cellsP q).toArray 25)) w') => (Row.new2 W (.cells (cellsP p).toArray 25) 25 (cellsP q)).chg hc (fun h => h))
  have HAL := Lib.hid (alive_any _ (hT.chg HC0.out (fun h => h)))
  have HTX := Lib.hid (fun w' (hc : Chg none_ ((W.alloc (.cells (cellsP p).toArray 25)).alloc (.cells (cellsP q).toArray 25)) w') => (hT.chg HC0.out (fun h => h)).chg hc (fun h => h))
  have HMp := Lib.hid (fun w => may_any p o.tok w)
  have HMq := Lib.hid (fun w => may_any q o'.tok w)
  simp only [hm] at HMp
  simp only [hm'] at HMq
  clear o o' hT hm hm'
  unfold aggP at *
  generalize cellsP p = cp at *
  generalize cellsP q = cq at *
  go_enter Tryd.func7, Tryd.ntmps7
  go_wp2_with (first | ((with_reducible show wpList _ _ _ (⟨_, .load 25 (.tmp 2), _, _, _, _⟩ :: _) _ _); refine wlP rfl rfl rfl (HXp.out _ (by assumption)) HLp.out ?_) | ((with_reducible show wpList _ _ _ (⟨_, .load 25 (.tmp 3), _, _, _, _⟩ :: _) _ _); refine wlP rfl rfl rfl (HXq.out _ (by assumption)) HLq.out ?_) | (go_at_call 9; refine HAL.out.mono ?_; rintro e w1 ⟨rfl, hc1⟩) | (go_at_call 10; first | (with_reducible refine (HMp.out _).mono ?_; rintro e w2 ⟨rfl, hm2⟩; have hc2 := hc1.trans hm2) | (with_reducible refine (HMq.out _).mono ?_; rintro e w3 ⟨rfl, hm3⟩; have hc3 := hc2.trans hm3)))
  go_ret
  exact ⟨rfl, HC0.out.trans hc3⟩

set_option maxRecDepth 100000 in
set_option maxHeartbeats 2000000 in
theorem apart_yes (p q : Pm) (W : World) (o : p.Ok) (o' : q.Ok) (hT : Tab W) (hm : mayB p = true) (hm' : mayB q = true) : Calls Tryd.prog 7 #[aggP p, aggP q] W fun e w' => e = .returned (.bool true) ∧ Chg none_ W w' := by
  have HLp := Lib.hid (cP_len p o.tok)
  have HLq := Lib.hid (cP_len q o'.tok)
  have HC0 := Lib.hid (((Chg.refl none_ W).alloc (.cells (cellsP p).toArray 25)).alloc (.cells (cellsP q).toArray 25))
  have HXp := Lib.hid (fun w' (hc : Chg none_ ((W.alloc (.cells (cellsP p).toArray 25)).alloc (.cells (cellsP q).toArray 25)) w') => (Row.new1 W (.cells (cellsP q).toArray 25) 25 (cellsP p)).chg hc (fun h => h))
  have HXq := Lib.hid (fun w' (hc : Chg none_ ((W.alloc (.cells (cellsP p).toArray 25)).alloc (.cells (cellsP q).toArray 25)) w') => (Row.new2 W (.cells (cellsP p).toArray 25) 25 (cellsP q)).chg hc (fun h => h))
  have HAL := Lib.hid (alive_any _ (hT.chg HC0.out (fun h => h)))
  have HTX := Lib.hid (fun w' (hc : Chg none_ ((W.alloc (.cells (cellsP p).toArray 25)).alloc (.cells (cellsP q).toArray 25)) w') => (hT.chg HC0.out (fun h => h)).chg hc (fun h => h))
  have HMp := Lib.hid (fun w => may_any p o.tok w)
  have HMq := Lib.hid (fun w => may_any q o'.tok w)
  simp only [hm] at HMp
  simp only [hm'] at HMq
  have HPp := Lib.hid (fun w hT => putP_any p w o.tok hT)
  have HPq := Lib.hid (fun w hT => putP_any q w o'.tok hT)
  have HEQ := Lib.hid (apart_put p q o o' hm hm')
  have HPE := Lib.hid (pm_eql p q o o')
  have HLL := Lib.hid (putP_len p o.tok)
  clear o o' hT hm hm'
  unfold aggP at HPE
  generalize decide (p = q) = b at *
  generalize putP p = Lp at *
  generalize putP q = Lq at *
  unfold aggP at *
  generalize cellsP p = cp at *
  generalize cellsP q = cq at *
  go_enter Tryd.func7, Tryd.ntmps7
  go_wp2_with (first | ((with_reducible show wpList _ _ _ (⟨_, .load 25 (.tmp 2), _, _, _, _⟩ :: _) _ _); refine wlP rfl rfl rfl (HXp.out _ (by assumption)) HLp.out ?_) | ((with_reducible show wpList _ _ _ (⟨_, .load 25 (.tmp 3), _, _, _, _⟩ :: _) _ _); refine wlP rfl rfl rfl (HXq.out _ (by assumption)) HLq.out ?_) | (go_at_call 9; refine HAL.out.mono ?_; rintro e w1 ⟨rfl, hc1⟩) | (go_at_call 10; first | (with_reducible refine (HMp.out _).mono ?_; rintro e w2 ⟨rfl, hm2⟩; have hc2 := hc1.trans hm2) | (with_reducible refine (HMq.out _).mono ?_; rintro e w3 ⟨rfl, hm3⟩; have hc3 := hc2.trans hm3)))
  have HC3 := Lib.hid hc3
  clear hm2 hm3 hc1 hc2 hc3
  have hch0 : Chg none_ w3 w3.drew := (Chg.refl _ _).drew
  have HYp : Hid (∀ w', Chg none_ w3 w' → Row w' W.heap.size 25 cp) := fun w' hc => HXp.out w' (HC3.out.trans hc)
  have HYq : Hid (∀ w', Chg none_ w3 w' → Row w' (W.heap.size + 1) 25 cq) := fun w' hc => HXq.out w' (HC3.out.trans hc)
  refine wp_region_held_drew (S := fun w' => Chg none_ w3 w') (by kernel_rfl) hch0 (fun _ => ?_)
  refine wpAnyH_take (i := 0) (v := .agg cp.toArray) rfl (by kernel_rfl) (by kernel_rfl) (by kernel_rfl) (by first | exact fun _ _ _ h => h | exact fun _ _ _ h => nomatch h.1) (yieldsIf_load_mid (by rfl) 25 _ rfl W.heap.size 0 rfl cp _ (fun w' hw' => (HYp.out w' hw').range) Tryd.underlying25 rfl (by rw [HLp.out]; exact sizeP)) hch0 ?_
  refine wpAnyH_take (i := 2) (v := .agg cq.toArray) rfl (by kernel_rfl) (by kernel_rfl) (by kernel_rfl) (by first | exact fun _ _ _ h => h | exact fun _ _ _ h => nomatch h.1) (yieldsIf_load_mid (by rfl) 25 _ rfl (W.heap.size + 1) 0 rfl cq _ (fun w' hw' => (HYq.out w' hw').range) Tryd.underlying25 rfl (by rw [HLq.out]; exact sizeP)) hch0 ?_
  refine wpAnyH_take (i := 5) (v := .agg cp.toArray) rfl (by kernel_rfl) (by kernel_rfl) (by kernel_rfl) (by first | exact fun _ _ _ h => h | exact fun _ _ _ h => nomatch h.1) (yieldsIf_load_mid (by rfl) 25 _ rfl W.heap.size 0 rfl cp _ (fun w' hw' => (HYp.out w' hw').range) Tryd.underlying25 rfl (by rw [HLp.out]; exact sizeP)) hch0 ?_
  refine wpAnyH_take (i := 6) (v := .agg cq.toArray) rfl (by kernel_rfl) (by kernel_rfl) (by kernel_rfl) (by first | exact fun _ _ _ h => h | exact fun _ _ _ h => nomatch h.1) (yieldsIf_load_mid (by rfl) 25 _ rfl (W.heap.size + 1) 0 rfl cq _ (fun w' hw' => (HYq.out w' hw').range) Tryd.underlying25 rfl (by rw [HLq.out]; exact sizeP)) hch0 ?_
  refine wpAnyH_take (i := 7) (v := .bool b) rfl (by kernel_rfl) (by kernel_rfl) (by kernel_rfl) (by first | exact fun _ _ _ h => h | exact fun _ _ _ h => nomatch h.1) (yieldsIf_eql (by rfl) 25 _ (.tmp 20) (.tmp 21) rfl cp.toArray cq.toArray rfl rfl b (fun w => run_eqGuard_agg w .eql 25 _ _ _ _ Tryd.eqGuardType25) (fun w _ => HPE.out w)) hch0 ?_
  refine wpAnyH_ready (rs := [1]) (by kernel_rfl) (by simp) ?_
  refine AllReadyH.cons rfl (fun K hK => ?_) AllReadyH.nil
  rw [if_pos (by rfl)]
  try simp only [List.getElem_toArray, List.getElem_cons_succ, List.getElem_cons_zero]
  go_simp
  refine (HPp.out _ (HTX.out _ (HC3.out.trans hch0))).mono ?_
  rintro e w9 ⟨A9, k9, rfl, v9, hc9⟩
  have hch1 : Chg none_ w3 w9 := hch0.trans hc9
  refine hK.out _ _ hch1 (fun _ => ?_)
  clear hK K
  try simp only [Act.put, List.setIfInBounds_toArray, List.set_cons_zero, List.set_cons_succ, List.getElem_toArray, List.getElem_cons_succ, List.getElem_cons_zero]
  refine wpAnyH_ready (rs := [3]) (by kernel_rfl) (by simp) ?_
  refine AllReadyH.cons rfl (fun K hK => ?_) AllReadyH.nil
  rw [if_pos (by rfl)]
  try simp only [List.getElem_toArray, List.getElem_cons_succ, List.getElem_cons_zero]
  go_simp
  refine (HPq.out _ (HTX.out _ (HC3.out.trans hch1))).mono ?_
  rintro e w10 ⟨A10, k10, rfl, v10, hc10⟩
  have hch2 : Chg none_ w3 w10 := hch1.trans hc10
  refine hK.out _ _ hch2 (fun _ => ?_)
  clear hK K
  try simp only [Act.put, List.setIfInBounds_toArray, List.set_cons_zero, List.set_cons_succ, List.getElem_toArray, List.getElem_cons_succ, List.getElem_cons_zero]
  refine wpAnyH_ready (rs := [4]) (by kernel_rfl) (by simp) ?_
  refine AllReadyH.cons rfl (fun K hK => ?_) AllReadyH.nil
  rw [if_pos (by rfl)]
  try simp only [List.getElem_toArray, List.getElem_cons_succ, List.getElem_cons_zero]
  go_simp
  refine (same_any w10 _ _ A9 A10 k9 k10 Lp Lq (v9.chg hc10 (fun _ _ h => h)) v10 (by have := HLL.out; omega)).mono ?_
  rintro e w11 ⟨rfl, nk, rfl⟩
  rw [HEQ.out]
  have hch3 : Chg none_ w3 (w10.drewN nk) := hch2.drewN nk
  refine hK.out _ _ hch3 (fun _ => ?_)
  clear hK K
  try simp only [Act.put, List.setIfInBounds_toArray, List.set_cons_zero, List.set_cons_succ, List.getElem_toArray, List.getElem_cons_succ, List.getElem_cons_zero]
  refine wpAnyH_take (i := 8) (v := .bool true) rfl (by kernel_rfl) (by kernel_rfl) (by kernel_rfl) (by first | exact fun _ _ _ h => h | exact fun _ _ _ h => nomatch h.1) (Or.inl ⟨by rfl, fun w' hw' => by go_simp⟩) hch3 ?_
  refine wpAnyH_ready (rs := [9]) (by kernel_rfl) (by simp) ?_
  refine AllReadyH.cons rfl (fun K hK => ?_) AllReadyH.nil
  rw [if_pos (by rfl)]
  try simp only [List.getElem_toArray, List.getElem_cons_succ, List.getElem_cons_zero]
  go_simp
  refine hK.out _ _ hch3 (fun _ => ?_)
  clear hK K
  try simp only [Act.put, List.setIfInBounds_toArray, List.set_cons_zero, List.set_cons_succ, List.getElem_toArray, List.getElem_cons_succ, List.getElem_cons_zero]
  refine wpAnyH_done (by kernel_rfl) ?_ _
  go_wp2
  go_ret
  exact ⟨rfl, (HC0.out.trans HC3.out).trans hch3⟩

theorem apart_any (p q : Pm) (W : World) (o : p.Ok) (o' : q.Ok) (hT : Tab W) : Calls Tryd.prog 7 #[aggP p, aggP q] W fun e w' => e = .returned (.bool true) ∧ Chg none_ W w' := by
  cases hm : mayB p
  · exact apart_np p q W o o' hT hm
  · cases hm' : mayB q
    · exact apart_nq p q W o o' hT hm hm'
    · exact apart_yes p q W o o' hT hm hm'
end Go.Proofs.YtgdkfeifijkknaaDoor
