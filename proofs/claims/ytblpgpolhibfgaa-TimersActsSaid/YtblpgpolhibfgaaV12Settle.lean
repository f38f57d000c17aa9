/- Layer 12 (timers): a timer settles from a free place on. -/
import Derived.Test.YtblpgpolhibfgaaV12Down
import Derived.Deep.RegionHeld3
namespace Go.Proofs.Ytblpgpolhibfgaa
open Go.RowKit

set_option maxRecDepth 100000 in
set_option maxHeartbeats 2000000 in
theorem settle_any (q g n : Nat) (t : Tm) (ht : TOk t) (p : Nat) (F B : List Tm) (M : Int × Int → Option Nat) (w : World) (h : HS w q g n t F p M B) :
    Calls Try.prog 28 #[.pointer (some ⟨q, 0, none⟩), .int .i64 (p : Int), .agg (tcell t).toArray] w fun e w' => ∃ F' M', e = .returned (.tuple #[]) ∧ QM w' q F' n (some g) ∧ MapIn w' g M' ∧ Pl F' n M' ∧ Hp F' n ∧ (F'.take n).Perm B ∧ Chg (Two q g) w w' := by
  have HH := Lib.hid h
  have HT := Lib.hid ht
  have HB := Lib.hid (show ¬ Two q g w.heap.size from fun e => by
    have h1 := HH.out.qm.lt
    have h2 := HH.out.mi.lt
    rcases e with e | e <;> omega)
  clear h ht
  go_enter Try.func28, Try.ntmps28
  go_wp2_with ((with_reducible show wpList _ _ _ (⟨some 5, .box _ _, _, _, _, _⟩ :: _) _ _); refine wpList_box_Row rfl rfl (tcell t) rfl ?_; intro w1 hr1 hc1 hs1; have HR1 := Lib.hid hr1; have HC1 := Lib.hid hc1; have HK1 := Lib.hid (HH.out.chg hc1 (fun h => h) (fun h => h)); clear hr1 hc1 hs1)
  refine wp_region_held_drew (S := fun w' => Chg (Two q g) w1 w') (by kernel_rfl) ((Chg.refl _ _).drew) (fun hch0 => ?_)
  refine wpAnyH_take (i := 0) (v := .pointer (some ⟨q, 0, none⟩)) rfl (by kernel_rfl) (by kernel_rfl) (by kernel_rfl) (by first | exact fun _ _ _ h => h | exact fun _ _ _ h => nomatch h.1) (Or.inl ⟨by rfl, fun w_ hw_ => by go_simp⟩) hch0 ?_
  refine wpAnyH_take (i := 1) (v := .pointer (some ⟨q, 0, none⟩)) rfl (by kernel_rfl) (by kernel_rfl) (by kernel_rfl) (by first | exact fun _ _ _ h => h | exact fun _ _ _ h => nomatch h.1) (Or.inl ⟨by rfl, fun w_ hw_ => by go_simp⟩) hch0 ?_
  refine wpAnyH_take (i := 2) (v := .pointer (some ⟨q, 0, none⟩)) rfl (by kernel_rfl) (by kernel_rfl) (by kernel_rfl) (by first | exact fun _ _ _ h => h | exact fun _ _ _ h => nomatch h.1) (Or.inl ⟨by rfl, fun w_ hw_ => by go_simp⟩) hch0 ?_
  refine wpAnyH_take (i := 3) (v := .int .i64 (p : Int)) rfl (by kernel_rfl) (by kernel_rfl) (by kernel_rfl) (by first | exact fun _ _ _ h => h | exact fun _ _ _ h => nomatch h.1) (Or.inl ⟨by rfl, fun w_ hw_ => by go_simp⟩) hch0 ?_
  refine wpAnyH_take (i := 4) (v := .agg (tcell t).toArray) rfl (by kernel_rfl) (by kernel_rfl) (by kernel_rfl) (by first | exact fun _ _ _ h => h | exact fun _ _ _ h => nomatch h.1) (yieldsIf_load_mid (by rfl) 27 _ rfl w.heap.size 0 rfl (tcell t) _ (fun w' hw' => (HR1.out.chg hw' HB.out).range) Try.underlying27 rfl sizeTm) hch0 ?_
  try simp only [Act.put, List.setIfInBounds_toArray, List.set_cons_zero, List.set_cons_succ, List.getElem_toArray, List.getElem_cons_succ, List.getElem_cons_zero]
  refine wpAnyH_take (i := 6) (v := .agg (tcell t).toArray) rfl (by kernel_rfl) (by kernel_rfl) (by kernel_rfl) (by first | exact fun _ _ _ h => h | exact fun _ _ _ h => nomatch h.1) (yieldsIf_load_mid (by rfl) 27 _ rfl w.heap.size 0 rfl (tcell t) _ (fun w' hw' => (HR1.out.chg hw' HB.out).range) Try.underlying27 rfl sizeTm) hch0 ?_
  refine wpAnyH_take (i := 8) (v := .agg (tcell t).toArray) rfl (by kernel_rfl) (by kernel_rfl) (by kernel_rfl) (by first | exact fun _ _ _ h => h | exact fun _ _ _ h => nomatch h.1) (yieldsIf_load_mid (by rfl) 27 _ rfl w.heap.size 0 rfl (tcell t) _ (fun w' hw' => (HR1.out.chg hw' HB.out).range) Try.underlying27 rfl sizeTm) hch0 ?_
  try simp only [Act.put, List.setIfInBounds_toArray, List.set_cons_zero, List.set_cons_succ, List.getElem_toArray, List.getElem_cons_succ, List.getElem_cons_zero]
  refine wpAnyH_ready (rs := [5]) (by kernel_rfl) (by simp) ?_
  refine AllReadyH.cons rfl (fun K hK => ?_) AllReadyH.nil
  rw [if_pos (by rfl)]
  try simp only [List.getElem_toArray, List.getElem_cons_succ, List.getElem_cons_zero]
  go_simp
  refine (up_any q g n t p F B M _ HK1.out.drew).mono ?_
  rintro e w2 ⟨p2, F2, M2, rfl, hk2, hu2, hc2⟩
  have HK2 := Lib.hid hk2
  have HU2 := Lib.hid hu2
  have HC2 := Lib.hid hc2.undrew
  clear hk2 hu2 hc2
  refine hK.out _ _ (HC2.out) (fun _ => ?_)
  clear hK K
  try simp only [Act.put, List.setIfInBounds_toArray, List.set_cons_zero, List.set_cons_succ, List.getElem_toArray, List.getElem_cons_succ, List.getElem_cons_zero]
  refine wpAnyH_ready (rs := [7]) (by kernel_rfl) (by simp) ?_
  refine AllReadyH.cons rfl (fun K hK => ?_) AllReadyH.nil
  rw [if_pos (by rfl)]
  try simp only [List.getElem_toArray, List.getElem_cons_succ, List.getElem_cons_zero]
  go_simp
  refine (down_any q g n t p2 F2 B M2 _ HK2.out HU2.out).mono ?_
  rintro e w3 ⟨p3, F3, M3, rfl, hk3, hp3, hc3⟩
  have HK3 := Lib.hid hk3
  have HP3 := Lib.hid hp3
  have HC3 := Lib.hid (HC2.out.trans hc3)
  clear hk3 hp3 hc3
  refine hK.out _ _ (HC3.out) (fun _ => ?_)
  clear hK K
  try simp only [Act.put, List.setIfInBounds_toArray, List.set_cons_zero, List.set_cons_succ, List.getElem_toArray, List.getElem_cons_succ, List.getElem_cons_zero]
  refine wpAnyH_ready (rs := [9]) (by kernel_rfl) (by simp) ?_
  refine AllReadyH.cons rfl (fun K hK => ?_) AllReadyH.nil
  rw [if_pos (by rfl)]
  try simp only [List.getElem_toArray, List.getElem_cons_succ, List.getElem_cons_zero]
  go_simp
  refine (put_any q g p3 n F3 M3 t _ HK3.out.qm HK3.out.mi HK3.out.ne (by have := HK3.out.le; have := HK3.out.lt; omega) HT.out).mono ?_
  rintro e w4 ⟨rfl, hq4, hm4, hc4⟩
  have HQ4 := Lib.hid hq4
  have HM4 := Lib.hid hm4
  have HC4 := Lib.hid (HC3.out.trans hc4)
  clear hq4 hm4 hc4
  refine hK.out _ _ (HC4.out) (fun _ => ?_)
  clear hK K
  try simp only [Act.put, List.setIfInBounds_toArray, List.set_cons_zero, List.set_cons_succ, List.getElem_toArray, List.getElem_cons_succ, List.getElem_cons_zero]
  refine wpAnyH_done (by kernel_rfl) ?_ _
  go_wp2
  refine bodyPost_end (results_none rfl _ _ _) rfl ?_
  refine ⟨_, _, rfl, HQ4.out, HM4.out, HK3.out.pl.done HK3.out.lt (by have := HK3.out.qm.len; have := HK3.out.le; omega), HP3.out, HK3.out.perm, (Two.chg HC1.out).trans HC4.out⟩
end Go.Proofs.Ytblpgpolhibfgaa
