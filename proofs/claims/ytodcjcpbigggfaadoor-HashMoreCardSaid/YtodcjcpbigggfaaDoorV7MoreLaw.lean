/- Layer 7 (hash): the walk of the law HashMore. -/
import Derived.Test.YtodcjcpbigggfaaDoorV7Open
import Derived.Test.YtodcjcpbigggfaaDoorSame
namespace Go.Proofs.YtodcjcpbigggfaaDoor
open Go.RowKit

theorem maxl3 (n : Nat) (h : n ≤ maxLen) : n ≤ 9223372036854775807 := by unfold maxLen at h; omega
set_option maxRecDepth 100000 in
set_option maxHeartbeats 1000000 in
theorem walk_HashMore (s : List Nat) (A : Option Addr) (len cap : Nat) (zs : List Int) (n0 m0 : Int) (W : World) (hsl : s.length = 32) (hsb : ∀ x ∈ s, x < 256) (x1 : IsRow .u8 W A len cap zs) (x2 : (Lit.int .u8 n0).wf = true) (x3 : (Lit.int .u8 m0).wf = true) (hT : HTab W) :
    Calls Tryd.prog 5 #[.agg (u8s s).toArray, .slice A len cap, .int .u8 n0, .int .u8 m0] W fun e w' => e = .returned (.bool true) ∧ Chg none_ W w' := by
  obtain ⟨info, rfl, hic, him, hib, hvi⟩ := x1.u8
  obtain ⟨n, rfl, hn⟩ := nat_u8h x2
  obtain ⟨m, rfl, hm⟩ := nat_u8h x3
  have him2 := maxl3 _ (Nat.le_trans hic him)
  have HSL := Lib.hid hsl
  have HAL := Lib.hid (fun w' (hc : Chg none_ W w') => alive_any w' (hT.chg hc (fun h => h) (fun h => h)))
  by_cases hi : 200 < info.length
  · have hd1 : decide ((200 : Int) < (info.length : Int)) = true := by simp; omega
    clear hvi hib hsb hsl hT x1 x2 x3
    go_enter Tryd.func5, Tryd.ntmps5
    go_wp2_with (first | ((with_reducible show wpList _ _ _ (⟨_, .box 25 _, _, _, _, _⟩ :: _) _ _); refine wpList_box_Row rfl rfl (u8s s) rfl ?_; intro w0 hr0 hc0 hs0; have HR0 := Lib.hid hr0; have HR00 := Lib.hid hr0; have HC0 := Lib.hid hc0; clear hr0 hc0 hs0) | (go_at_call 8; refine (HAL.out _ HC0.out).mono ?_; rintro e wb ⟨rfl, hcb⟩; have HCB := Lib.hid (HC0.out.trans hcb); have HRS := Lib.hid (HR0.out.chg hcb (fun h => h)); clear hcb))
    go_ret
    exact ⟨rfl, HCB.out⟩
  have hd1 : decide ((200 : Int) < (info.length : Int)) = false := by simp; omega
  by_cases hnm : m < n
  · have hd2 : decide ((m : Int) < (n : Int)) = true := by simp; omega
    clear hvi hib hsb hsl hT x1 x2 x3
    go_enter Tryd.func5, Tryd.ntmps5
    go_wp2_with (first | ((with_reducible show wpList _ _ _ (⟨_, .box 25 _, _, _, _, _⟩ :: _) _ _); refine wpList_box_Row rfl rfl (u8s s) rfl ?_; intro w0 hr0 hc0 hs0; have HR0 := Lib.hid hr0; have HR00 := Lib.hid hr0; have HC0 := Lib.hid hc0; clear hr0 hc0 hs0) | (go_at_call 8; refine (HAL.out _ HC0.out).mono ?_; rintro e wb ⟨rfl, hcb⟩; have HCB := Lib.hid (HC0.out.trans hcb); have HRS := Lib.hid (HR0.out.chg hcb (fun h => h)); clear hcb))
    go_ret
    exact ⟨rfl, HCB.out⟩
  have hd2 : decide ((m : Int) < (n : Int)) = false := by simp; omega
  have HEN0 := Lib.hid (fun (q : Nat) (hq : q ≤ 255) w' (hc : Chg none_ W w') => expand_any s info (q : Int) _ A cap w' hsl hsb (hvi.chg hc (fun _ _ h => h)) (by omega) hic hib (hT.chg hc (fun h => h) (fun h => h)))
  have HEQ0 := Lib.hid (fun (q : Nat) (hq : q ≤ 255) => expandN_len s info q hq)
  have HE12 := Lib.hid (expandN_take s info n m (by omega) (by omega))
  have HEN : Hid (∀ w', Chg none_ W w' → Calls Tryd.prog 15 #[.agg (u8s s).toArray, .slice A info.length cap, .int .i64 n] w' fun e w'' => ∃ A1 c1, e = .returned (.slice A1 n c1) ∧ n ≤ c1 ∧ View w'' (fun b => w'.heap.size ≤ b) A1 n (u8s (expandN s info (n : Int))) ∧ Chg none_ w' w'') := Lib.hid (fun w' hc => (HEN0.out n (by omega) w' hc).mono fun e w'' ⟨A1, c1, h1, h2, h3⟩ => by
    have hl := HEQ0.out n (by omega)
    have hle := h2.le
    have hv := h2.view
    rw [hl] at h1 hle hv
    exact ⟨A1, c1, h1, hle, hv, h3⟩)
  have HEM : Hid (∀ w', Chg none_ W w' → Calls Tryd.prog 15 #[.agg (u8s s).toArray, .slice A info.length cap, .int .i64 m] w' fun e w'' => ∃ A1 c1, e = .returned (.slice A1 m c1) ∧ m ≤ c1 ∧ View w'' (fun b => w'.heap.size ≤ b) A1 m (u8s (expandN s info (m : Int))) ∧ Chg none_ w' w'') := Lib.hid (fun w' hc => (HEN0.out m (by omega) w' hc).mono fun e w'' ⟨A1, c1, h1, h2, h3⟩ => by
    have hl := HEQ0.out m (by omega)
    have hle := h2.le
    have hv := h2.view
    rw [hl] at h1 hle hv
    exact ⟨A1, c1, h1, hle, hv, h3⟩)
  have HE1L := Lib.hid (HEQ0.out n (by omega))
  generalize expandN s info (n : Int) = E1 at HEN HE12 HE1L
  generalize expandN s info (m : Int) = E2 at HEM HE12
  have QN : Hid (IntKind.i64.wrap (n : Int) = (n : Int)) := Lib.hid (IntWalk.i64_in _ (by omega))
  have QM : Hid (IntKind.i64.wrap (m : Int) = (m : Int)) := Lib.hid (IntWalk.i64_in _ (by omega))
  clear hvi hib hsb hsl hT x1 x2 x3 HEN0 HEQ0
  go_enter Tryd.func5, Tryd.ntmps5
  go_wp2_with (first | ((with_reducible show wpList _ _ _ (⟨_, .box 25 _, _, _, _, _⟩ :: _) _ _); refine wpList_box_Row rfl rfl (u8s s) rfl ?_; intro w0 hr0 hc0 hs0; have HR0 := Lib.hid hr0; have HR00 := Lib.hid hr0; have HC0 := Lib.hid hc0; clear hr0 hc0 hs0) | (go_at_call 8; refine (HAL.out _ HC0.out).mono ?_; rintro e wb ⟨rfl, hcb⟩; have HCB := Lib.hid (HC0.out.trans hcb); have HRS := Lib.hid (HR0.out.chg hcb (fun h => h)); clear hcb))
  refine wp_region_held_drew (S := fun w' => Chg none_ wb w') (by kernel_rfl) ((Chg.refl none_ wb).drew) (fun hch0 => ?_)
  generalize wb.drew = wd at hch0 ⊢
  refine wpAnyH_take (i := 0) (v := .agg (u8s s).toArray) rfl (by kernel_rfl) (by kernel_rfl) (by kernel_rfl) (by first | exact fun _ _ _ h => h | exact fun _ _ _ h => nomatch h.1) (yieldsIf_load_mid (by rfl) 25 _ rfl W.heap.size 0 rfl (u8s s) _ (fun w' hw' => (HRS.out.chg hw' (fun h => h)).range) Tryd.underlying25 rfl (by rw [u8s_length, HSL.out]; exact size25)) hch0 ?_
  refine wpAnyH_take (i := 1) (v := .slice A info.length cap) rfl (by kernel_rfl) (by kernel_rfl) (by kernel_rfl) (by first | exact fun _ _ _ h => h | exact fun _ _ _ h => nomatch h.1) (Or.inl ⟨by rfl, fun w_ hw_ => by go_simp⟩) hch0 ?_
  refine wpAnyH_take (i := 2) (v := .int .u8 (n : Nat)) rfl (by kernel_rfl) (by kernel_rfl) (by kernel_rfl) (by first | exact fun _ _ _ h => h | exact fun _ _ _ h => nomatch h.1) (Or.inl ⟨by rfl, fun w_ hw_ => by go_simp⟩) hch0 ?_
  refine wpAnyH_take (i := 3) (v := .int .i64 (n : Nat)) rfl (by kernel_rfl) (by kernel_rfl) (by kernel_rfl) (by first | exact fun _ _ _ h => h | exact fun _ _ _ h => nomatch h.1) (Or.inl ⟨by rfl, fun w_ hw_ => by go_simp; first | exact QN.out | rfl⟩) hch0 ?_
  try simp only [Act.put, List.setIfInBounds_toArray, List.set_cons_zero, List.set_cons_succ, List.getElem_toArray, List.getElem_cons_succ, List.getElem_cons_zero]
  refine wpAnyH_take (i := 5) (v := .agg (u8s s).toArray) rfl (by kernel_rfl) (by kernel_rfl) (by kernel_rfl) (by first | exact fun _ _ _ h => h | exact fun _ _ _ h => nomatch h.1) (yieldsIf_load_mid (by rfl) 25 _ rfl W.heap.size 0 rfl (u8s s) _ (fun w' hw' => (HRS.out.chg hw' (fun h => h)).range) Tryd.underlying25 rfl (by rw [u8s_length, HSL.out]; exact size25)) hch0 ?_
  refine wpAnyH_take (i := 6) (v := .slice A info.length cap) rfl (by kernel_rfl) (by kernel_rfl) (by kernel_rfl) (by first | exact fun _ _ _ h => h | exact fun _ _ _ h => nomatch h.1) (Or.inl ⟨by rfl, fun w_ hw_ => by go_simp⟩) hch0 ?_
  refine wpAnyH_take (i := 7) (v := .int .u8 (m : Nat)) rfl (by kernel_rfl) (by kernel_rfl) (by kernel_rfl) (by first | exact fun _ _ _ h => h | exact fun _ _ _ h => nomatch h.1) (Or.inl ⟨by rfl, fun w_ hw_ => by go_simp⟩) hch0 ?_
  refine wpAnyH_take (i := 8) (v := .int .i64 (m : Nat)) rfl (by kernel_rfl) (by kernel_rfl) (by kernel_rfl) (by first | exact fun _ _ _ h => h | exact fun _ _ _ h => nomatch h.1) (Or.inl ⟨by rfl, fun w_ hw_ => by go_simp; first | exact QM.out | rfl⟩) hch0 ?_
  try simp only [Act.put, List.setIfInBounds_toArray, List.set_cons_zero, List.set_cons_succ, List.getElem_toArray, List.getElem_cons_succ, List.getElem_cons_zero]
  refine wpAnyH_ready (rs := [4]) (by kernel_rfl) (by simp) ?_
  refine AllReadyH.cons rfl (fun K hK => ?_) AllReadyH.nil
  rw [if_pos (by rfl)]
  try simp only [Act.put, List.setIfInBounds_toArray, List.set_cons_zero, List.set_cons_succ, List.getElem_toArray, List.getElem_cons_succ, List.getElem_cons_zero]
  go_simp
  refine (HEN.out _ (HCB.out.trans hch0)).mono ?_
  rintro e y1 ⟨A1, c1, rfl, hcap1, hv1, hcy1⟩
  have hch1 : Chg none_ wb y1 := hch0.trans hcy1
  refine hK.out _ _ hch1 (fun _ => ?_)
  clear hK K
  try simp only [Act.put, List.setIfInBounds_toArray, List.set_cons_zero, List.set_cons_succ, List.getElem_toArray, List.getElem_cons_succ, List.getElem_cons_zero]
  refine wpAnyH_ready (rs := [9]) (by kernel_rfl) (by simp) ?_
  refine AllReadyH.cons rfl (fun K hK => ?_) AllReadyH.nil
  rw [if_pos (by rfl)]
  try simp only [Act.put, List.setIfInBounds_toArray, List.set_cons_zero, List.set_cons_succ, List.getElem_toArray, List.getElem_cons_succ, List.getElem_cons_zero]
  go_simp
  refine (HEM.out _ (HCB.out.trans hch1)).mono ?_
  rintro e y2 ⟨A2, c2, rfl, hcap2, hv2, hcy2⟩
  have hch2 : Chg none_ wb y2 := hch1.trans hcy2
  refine hK.out _ _ hch2 (fun _ => ?_)
  clear hK K
  try simp only [Act.put, List.setIfInBounds_toArray, List.set_cons_zero, List.set_cons_succ, List.getElem_toArray, List.getElem_cons_succ, List.getElem_cons_zero]
  refine wpAnyH_take (i := 10) (v := .slice A1 n c1) rfl (by kernel_rfl) (by kernel_rfl) (by kernel_rfl) (by first | exact fun _ _ _ h => h | exact fun _ _ _ h => nomatch h.1) (Or.inl ⟨by rfl, fun w_ hw_ => by go_simp⟩) hch2 ?_
  refine wpAnyH_take (i := 11) (v := .slice A2 m c2) rfl (by kernel_rfl) (by kernel_rfl) (by kernel_rfl) (by first | exact fun _ _ _ h => h | exact fun _ _ _ h => nomatch h.1) (Or.inl ⟨by rfl, fun w_ hw_ => by go_simp⟩) hch2 ?_
  try simp only [Act.put, List.setIfInBounds_toArray, List.set_cons_zero, List.set_cons_succ, List.getElem_toArray, List.getElem_cons_succ, List.getElem_cons_zero]
  refine wpAnyH_done (by kernel_rfl) ?_ _
  have HV1 : Hid (View y2 (fun _ => True) A1 n (u8s E1)) := Lib.hid (hv1.chg hcy2 (fun _ _ h => h)).mono (fun _ _ _ => trivial)
  have HV2 : Hid (View y2 (fun _ => True) A2 m (u8s E2)) := Lib.hid hv2.mono (fun _ _ _ => trivial)
  have hrun := run_slice_highK (P := Tryd.prog) y2 22 5 .u8 A2 m c2 n Tryd.underlying22 size5 (by omega)
  have HSM := Lib.hid (by
    have h2 := (HV2.out.take (k := n) (by omega)).high c2
    have e2 : (u8s E2).take n = u8s (E2.take n) := by simp [u8s]
    rw [e2, ← HE12.out] at h2
    have hh := same_any y2 _ _ A1 (highA A2 c2) c1 c2 E1 E1 (by rw [HE1L.out]; exact HV1.out) (by rw [HE1L.out]; exact h2) (by rw [HE1L.out]; omega)
    rw [decide_eq_true rfl, HE1L.out] at hh
    exact hh)
  generalize highA A2 c2 = A3 at hrun HSM
  go_wp2_with (go_at_call 14; refine HSM.out.mono ?_; rintro e w9 ⟨rfl, nk, rfl⟩)
  go_ret
  exact ⟨rfl, ((HCB.out.trans hch2).drewN nk)⟩
end Go.Proofs.YtodcjcpbigggfaaDoor
