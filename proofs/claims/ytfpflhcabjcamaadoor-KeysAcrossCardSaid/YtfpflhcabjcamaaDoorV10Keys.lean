/- Layer 10 (keys): keys of secrets, first secrets and later ones, the program's. -/
import Derived.Test.YtfpflhcabjcamaaDoorV10Sc
import Derived.Test.YtfpflhcabjcamaaDoorKH2
import Derived.Test.YtfpflhcabjcamaaDoorHeldMore
import Derived.Test.YtfpflhcabjcamaaDoorLaidStr
namespace Go.Proofs.YtfpflhcabjcamaaDoor
open Go.RowKit

/-- The labels, as the program holds them. -/
def labelS : List (List UInt8) := [[113, 117, 105, 99, 32, 107, 101, 121], [113, 117, 105, 99, 32, 105, 118], [113, 117, 105, 99, 32, 107, 117], [99, 108, 105, 101, 110, 116, 32, 105, 110], [115, 101, 114, 118, 101, 114, 32, 105, 110], [99, 32, 97, 112, 32, 116, 114, 97, 102, 102, 105, 99], [115, 32, 97, 112, 32, 116, 114, 97, 102, 102, 105, 99]]
def lblB (i : Nat) : ByteArray := ⟨(labelS.getD i []).toArray⟩
/-- What the walks read of the package's variables. -/
structure KTab (w : World) : Prop where
  h : HTab w
  lt : 0 < w.heap.size
  ls : ∀ i, i < 7 → w.cell? ⟨0, i, none⟩ = some (.string (lblB i))
theorem KTab.chg {w w' : World} (h : KTab w) (hc : Chg none_ w w') : KTab w' :=
  ⟨h.h.chg hc (fun h => h) (fun h => h), Nat.lt_of_lt_of_le h.lt hc.size, fun i hi => (hc.cell _ h.lt (fun h => h)).trans (h.ls i hi)⟩

/-- A label of a secret, where it lies. -/
theorem lab_any (s : List Nat) (L : ByteArray) (n : Nat) (w : World) (hL : (bsN L).length ≤ 60) (hn0 : 0 < n) (hn : n ≤ 255) (hs : s.length = 32) (hsb : ∀ x ∈ s, x < 256) (hT : HTab w) :
    Calls Tryd.prog 21 #[.agg (u8s s).toArray, .string L, .int .i64 (n : Int)] w fun e w' => ∃ b o c, e = .returned (.slice (some ⟨b, o, none⟩) n c) ∧ w.heap.size ≤ b ∧ (∀ S x, Chg S w' x → ¬ S b → x.rangeAt b o (u8s (labelN s (bsN L) (n : Int)))) ∧ Chg none_ w w' := by
  refine (label_any s L (n : Int) w (by rw [bsN_len] at hL; omega) hs hsb hT).mono ?_
  rintro e w' ⟨A, c, rfl, hf, hc⟩
  have hl := labelN_len s (bsN L) n hL hn
  have hv := hf.view
  rw [hl] at hv ⊢
  obtain ⟨b, o, rfl, hb, hbT, hcell⟩ := hv.2 hn0
  refine ⟨b, o, c, rfl, hbT, fun S x hx hS j v hv => ?_, hc⟩
  have hj : j < n := by
    rcases Nat.lt_or_ge j (u8s (labelN s (bsN L) (n : Int))).length with h | h
    · rw [u8s_length, hl] at h; exact h
    · rw [List.getElem?_eq_none h] at hv; cases hv
  rw [hx.cell _ hb hS, hcell j hj]
  exact hv

set_option maxRecDepth 100000 in
set_option maxHeartbeats 2000000 in
theorem secretOf_any (s : List Nat) (L : ByteArray) (w : World) (hL : (bsN L).length ≤ 60) (hs : s.length = 32) (hsb : ∀ x ∈ s, x < 256) (hT : HTab w) :
    Calls Tryd.prog 20 #[.agg (u8s s).toArray, .string L] w fun e w' => e = .returned (.agg (u8s (labelN s (bsN L) 32)).toArray) ∧ Chg none_ w w' := by
  have HS := Lib.hid hs
  have HLB := Lib.hid (fun w' (hc : Chg none_ w w') => lab_any s L 32 w' hL (by decide) (by decide) hs hsb (hT.chg hc (fun h => h) (fun h => h)))
  have HKL : Hid ((labelN s (bsN L) 32).length = 32) := Lib.hid (labelN_len s (bsN L) 32 hL (by decide))
  simp only [show ((32 : Nat) : Int) = 32 from rfl] at HLB
  generalize labelN s (bsN L) 32 = K at HLB HKL
  clear hs hsb hT hL
  go_enter Tryd.func20, Tryd.ntmps20
  go_wp2_with (first | ((with_reducible show wpList _ _ _ (⟨some 2, .box 26 _, _, _, _, _⟩ :: _) _ _); refine wpList_box_Row rfl rfl (u8s s) rfl ?_; intro w1 hr1 hc1 hs1; have HRS := Lib.hid hr1; have HC1 := Lib.hid hc1; clear hr1 hc1 hs1) | ((with_reducible show wpList _ _ _ (⟨some 4, .alloc 26, _, _, _, _⟩ :: _) _ _); refine wpList_alloc_Row rfl rfl (u8s (List.replicate 32 0)) zero25 ?_; intro w2 hr2 hc2 hs2; have HR2 := Lib.hid hr2; have HC2 := Lib.hid (HC1.out.trans hc2); have HRS2 := Lib.hid (HRS.out.chg hc2 (fun h => h)); have HSZ1 := Lib.hid HC1.out.size; clear hr2 hc2 hs2) | ((with_reducible show wpList _ _ _ (⟨some 5, .load 26 _, _, _, _, _⟩ :: _) _ _); refine wpList_load_Row rfl rfl rfl (HRS2.out) Tryd.underlying26 rfl (by rw [u8s_length, HS.out]; exact size25) ?_) | (go_at_call 21; with_reducible refine (HLB.out _ HC2.out).mono ?_; rintro e w3 ⟨b3, o3, c3, rfl, hb3, hv3, hc3⟩; have HV3 := Lib.hid (hv3 none_ _ (Chg.refl _ _) (fun h => h)); have HC3 := Lib.hid (HC2.out.trans hc3); have HR3 := Lib.hid (HR2.out.chg hc3 (fun h => h)); clear hb3 hv3 hc3) | ((with_reducible show wpList _ _ _ (⟨some 8, _, _, _, _, _⟩ :: _) _ _); refine wpList_arrayAt rfl 26 5 32 _ rfl (some ⟨b3, o3, none⟩) 32 c3 rfl Tryd.underlying26 (Nat.le_refl _) ?_) | ((with_reducible show wpList _ _ _ (⟨some 9, .load 26 _, _, _, _, _⟩ :: _) _ _); refine wpList_load_Mid (cs := u8s K) rfl rfl rfl (HV3.out) Tryd.underlying26 rfl (by rw [u8s_length, HKL.out]; exact size25) ?_) | ((with_reducible show wpList _ _ _ (⟨_, .store 26 _ _, _, _, _, _⟩ :: _) _ _); refine wpList_store_Row (xs := u8s K) rfl rfl rfl (HR3.out) (rfl) (by rw [u8s_length, u8s_length, HKL.out, List.length_replicate]) (by rw [u8s_length, HKL.out]; exact size25) (u8s_oneA _) ?_; intro w4 hr4 hc4 hs4; have HR4 := Lib.hid hr4; have HC4 := Lib.hid (hc4 none_ w HC3.out (fun h => by have := HSZ1.out; omega)); clear hr4 hc4 hs4))
  refine ret_row rfl rfl HR4.out Tryd.underlying26 rfl (by rw [u8s_length, HKL.out]; exact size25) rfl ?_
  exact ⟨rfl, HC4.out⟩

theorem size16 : (Tryd.prog.info? 33).map (·.size) = some 16 := by kernel_rfl
theorem size12 : (Tryd.prog.info? 34).map (·.size) = some 12 := by kernel_rfl
theorem cellsS_one (s : Sc) : (cellsS s).all (·.oneCell') = true := by
  unfold cellsS
  rw [List.all_append, List.all_append, List.all_append, u8s_oneA, u8s_oneA, u8s_oneA]
  rfl

set_option maxRecDepth 100000 in
set_option maxHeartbeats 2000000 in
theorem Make_any (s : List Nat) (ph : Bool) (w : World) (hs : s.length = 32) (hsb : ∀ x ∈ s, x < 256) (hT : KTab w) :
    Calls Tryd.prog 8 #[.agg (u8s s).toArray, .bool ph] w fun e w' => e = .returned (aggS (makeN s ph)) ∧ Chg none_ w w' := by
  have HS := Lib.hid hs
  obtain ⟨M, hM⟩ : ∃ M, M = makeN s ph := ⟨_, rfl⟩
  obtain ⟨L0, hL0⟩ : ∃ L, L = lblB 0 := ⟨_, rfl⟩
  obtain ⟨L1, hL1⟩ : ∃ L, L = lblB 1 := ⟨_, rfl⟩
  obtain ⟨L2, hL2⟩ : ∃ L, L = lblB 2 := ⟨_, rfl⟩
  have HLS0 : Hid (∀ w', Chg none_ w w' → w'.cell? ⟨0, 0, none⟩ = some (.string L0)) := Lib.hid (fun w' hc => by rw [hL0]; exact (hT.chg hc).ls 0 (by decide))
  have HLS1 : Hid (∀ w', Chg none_ w w' → w'.cell? ⟨0, 1, none⟩ = some (.string L1)) := Lib.hid (fun w' hc => by rw [hL1]; exact (hT.chg hc).ls 1 (by decide))
  have HLS2 : Hid (∀ w', Chg none_ w w' → w'.cell? ⟨0, 2, none⟩ = some (.string L2)) := Lib.hid (fun w' hc => by rw [hL2]; exact (hT.chg hc).ls 2 (by decide))
  have HMO : Hid (M.Ok) := Lib.hid (by rw [hM]; exact makeN_ok s ph)
  have HB0 : Hid (∀ w', Chg none_ w w' → Calls Tryd.prog 21 #[.agg (u8s s).toArray, .string L0, .int .i64 16] w' fun e w'' => ∃ b o c, e = .returned (.slice (some ⟨b, o, none⟩) 16 c) ∧ w'.heap.size ≤ b ∧ (∀ S x, Chg S w'' x → ¬ S b → x.rangeAt b o (u8s M.key)) ∧ Chg none_ w' w'') := Lib.hid (fun w' hc => by rw [hL0, hM]; exact lab_any s (lblB 0) 16 w' (by decide) (by decide) (by decide) hs hsb (hT.chg hc).h)
  have HB1 : Hid (∀ w', Chg none_ w w' → Calls Tryd.prog 21 #[.agg (u8s s).toArray, .string L1, .int .i64 12] w' fun e w'' => ∃ b o c, e = .returned (.slice (some ⟨b, o, none⟩) 12 c) ∧ w'.heap.size ≤ b ∧ (∀ S x, Chg S w'' x → ¬ S b → x.rangeAt b o (u8s M.iv)) ∧ Chg none_ w' w'') := Lib.hid (fun w' hc => by rw [hL1, hM]; exact lab_any s (lblB 1) 12 w' (by decide) (by decide) (by decide) hs hsb (hT.chg hc).h)
  have HB2 : Hid (∀ w', Chg none_ w w' → Calls Tryd.prog 20 #[.agg (u8s s).toArray, .string L2] w' fun e w'' => e = .returned (.agg (u8s M.next).toArray) ∧ Chg none_ w' w'') := Lib.hid (fun w' hc => by rw [hL2, hM]; exact secretOf_any s (lblB 2) w' (by decide) hs hsb (hT.chg hc).h)
  have HBU : Hid (∀ w, (Instr.build 36 #[(0, .agg (u8s M.key).toArray), (1, .agg (u8s M.iv).toArray), (2, .agg (u8s M.next).toArray), (3, .bool ph)]).run Tryd.prog w = .ok (.agg (cellsS M).toArray) w) := Lib.hid (fun w => by rw [hM]; exact run_buildSc (makeN_ok s ph) w)
  rw [← hM]
  clear hs hsb hT hM hL0 hL1 hL2
  go_enter Tryd.func8, Tryd.ntmps8
  go_wp2_with (first | ((with_reducible show wpList _ _ _ (⟨some 2, .box 26 _, _, _, _, _⟩ :: _) _ _); refine wpList_box_Row rfl rfl (u8s s) rfl ?_; intro w1 hr1 hc1 hs1; have HRS := Lib.hid hr1; have HC1 := Lib.hid hc1; clear hr1 hc1 hs1) | ((with_reducible show wpList _ _ _ (⟨some 4, .alloc 36, _, _, _, _⟩ :: _) _ _); refine wpList_alloc_Row rfl rfl (zeroS) zeroSc ?_; intro w2 hr2 hc2 hs2; have HR2 := Lib.hid hr2; have HC2 := Lib.hid (HC1.out.trans hc2); have HRS2 := Lib.hid (HRS.out.chg hc2 (fun h => h)); have HSZ1 := Lib.hid HC1.out.size; clear hr2 hc2 hs2))
  try simp only [Act.put, List.setIfInBounds_toArray, List.set_cons_zero, List.set_cons_succ]
  obtain ⟨gR, hgR⟩ : ∃ g, g = w1.heap.size := ⟨_, rfl⟩
  rw [← hgR]
  rw [← hgR] at HR2
  have HGR : Hid (w.heap.size < gR ∧ gR < w2.heap.size) := Lib.hid ⟨by rw [hgR]; exact HRS.out.lt, HR2.out.lt⟩
  have HCW : Hid (∀ w', Chg (· = gR) w2 w' → Chg none_ w w') := Lib.hid (fun w' hc => HC2.out.andThen hc (fun b hb e => by have := HGR.out; omega))
  clear hgR
  have HL0 : Hid (∀ w', Chg (· = gR) w2 w' → w'.cell? ⟨0, 0, none⟩ = some (.string L0)) := Lib.hid (fun w' hc => HLS0.out w' (HCW.out _ hc))
  have HL1 : Hid (∀ w', Chg (· = gR) w2 w' → w'.cell? ⟨0, 1, none⟩ = some (.string L1)) := Lib.hid (fun w' hc => HLS1.out w' (HCW.out _ hc))
  have HL2 : Hid (∀ w', Chg (· = gR) w2 w' → w'.cell? ⟨0, 2, none⟩ = some (.string L2)) := Lib.hid (fun w' hc => HLS2.out w' (HCW.out _ hc))
  refine wp_region_held_drew (S := fun w' => Chg (· = gR) w2 w') (by kernel_rfl) ((Chg.refl _ w2).drew) (fun hch0 => ?_)
  have hch0_ : Chg none_ w2 w2.drew := (Chg.refl none_ w2).drew
  generalize w2.drew = wd at hch0 hch0_ ⊢
  refine wpAnyH_take (i := 0) (v := .agg (u8s s).toArray) rfl (by kernel_rfl) (by kernel_rfl) (by kernel_rfl) (by first | exact fun _ _ _ h => h | exact fun _ _ _ h => nomatch h.1) (yieldsIf_load_mid (by rfl) 26 _ rfl w.heap.size 0 rfl (u8s s) _ (fun w' hw' => (HRS2.out.chg hw' (fun e => by have := HGR.out; omega)).range) Tryd.underlying26 rfl (by rw [u8s_length, HS.out]; exact size25)) hch0 ?_
  refine wpAnyH_take (i := 6) (v := .agg (u8s s).toArray) rfl (by kernel_rfl) (by kernel_rfl) (by kernel_rfl) (by first | exact fun _ _ _ h => h | exact fun _ _ _ h => nomatch h.1) (yieldsIf_load_mid (by rfl) 26 _ rfl w.heap.size 0 rfl (u8s s) _ (fun w' hw' => (HRS2.out.chg hw' (fun e => by have := HGR.out; omega)).range) Tryd.underlying26 rfl (by rw [u8s_length, HS.out]; exact size25)) hch0 ?_
  refine wpAnyH_take (i := 12) (v := .agg (u8s s).toArray) rfl (by kernel_rfl) (by kernel_rfl) (by kernel_rfl) (by first | exact fun _ _ _ h => h | exact fun _ _ _ h => nomatch h.1) (yieldsIf_load_mid (by rfl) 26 _ rfl w.heap.size 0 rfl (u8s s) _ (fun w' hw' => (HRS2.out.chg hw' (fun e => by have := HGR.out; omega)).range) Tryd.underlying26 rfl (by rw [u8s_length, HS.out]; exact size25)) hch0 ?_
  refine wpAnyH_take (i := 1) (v := .pointer (some ⟨0, 0, none⟩)) rfl (by kernel_rfl) (by kernel_rfl) (by kernel_rfl) (by first | exact fun _ _ _ h => h | exact fun _ _ _ h => nomatch h.1) (Or.inl ⟨by rfl, fun w_ hw_ => by go_simp⟩) hch0 ?_
  refine wpAnyH_take (i := 7) (v := .pointer (some ⟨0, 1, none⟩)) rfl (by kernel_rfl) (by kernel_rfl) (by kernel_rfl) (by first | exact fun _ _ _ h => h | exact fun _ _ _ h => nomatch h.1) (Or.inl ⟨by rfl, fun w_ hw_ => by go_simp⟩) hch0 ?_
  refine wpAnyH_take (i := 13) (v := .pointer (some ⟨0, 2, none⟩)) rfl (by kernel_rfl) (by kernel_rfl) (by kernel_rfl) (by first | exact fun _ _ _ h => h | exact fun _ _ _ h => nomatch h.1) (Or.inl ⟨by rfl, fun w_ hw_ => by go_simp⟩) hch0 ?_
  try simp only [Act.put, List.setIfInBounds_toArray, List.set_cons_zero, List.set_cons_succ, List.getElem_toArray, List.getElem_cons_succ, List.getElem_cons_zero]
  refine wpAnyH_take (i := 2) (v := .string L0) rfl (by kernel_rfl) (by kernel_rfl) (by kernel_rfl) (by first | exact fun _ _ _ h => h | exact fun _ _ _ h => nomatch h.1) (Or.inl ⟨by rfl, fun w_ hw_ => by have hh := HL0.out w_ hw_; go_simp⟩) hch0 ?_
  refine wpAnyH_take (i := 8) (v := .string L1) rfl (by kernel_rfl) (by kernel_rfl) (by kernel_rfl) (by first | exact fun _ _ _ h => h | exact fun _ _ _ h => nomatch h.1) (Or.inl ⟨by rfl, fun w_ hw_ => by have hh := HL1.out w_ hw_; go_simp⟩) hch0 ?_
  refine wpAnyH_take (i := 14) (v := .string L2) rfl (by kernel_rfl) (by kernel_rfl) (by kernel_rfl) (by first | exact fun _ _ _ h => h | exact fun _ _ _ h => nomatch h.1) (Or.inl ⟨by rfl, fun w_ hw_ => by have hh := HL2.out w_ hw_; go_simp⟩) hch0 ?_
  refine wpAnyH_take (i := 16) (v := .bool ph) rfl (by kernel_rfl) (by kernel_rfl) (by kernel_rfl) (by first | exact fun _ _ _ h => h | exact fun _ _ _ h => nomatch h.1) (Or.inl ⟨by rfl, fun w_ hw_ => by go_simp⟩) hch0 ?_
  try simp only [Act.put, List.setIfInBounds_toArray, List.set_cons_zero, List.set_cons_succ, List.getElem_toArray, List.getElem_cons_succ, List.getElem_cons_zero]
  refine wpAnyH_ready (rs := [3]) (by kernel_rfl) (by simp) ?_
  refine AllReadyH.cons rfl (fun K hK => ?_) AllReadyH.nil
  rw [if_pos (by rfl)]
  try simp only [List.getElem_toArray, List.getElem_cons_succ, List.getElem_cons_zero]
  go_simp
  refine (HB0.out _ (HCW.out _ hch0)).mono ?_
  rintro e x1 ⟨b1, o1, c1, rfl, hb1, hv1, hcx1⟩
  have hch1 : Chg (· = gR) w2 x1 := hch0.trans hcx1.ofN
  have hn1 : b1 ≠ gR := by have := hch0.size; have := HGR.out; omega
  refine hK.out _ _ (hch1) (fun _ => ?_)
  clear hK K
  try simp only [Act.put, List.setIfInBounds_toArray, List.set_cons_zero, List.set_cons_succ, List.getElem_toArray, List.getElem_cons_succ, List.getElem_cons_zero]
  refine wpAnyH_more (S' := fun w' => Chg (· = gR) x1 w') (fun w' h => Chg.trans (hch1) h) ?_
  refine wpAnyH_take (i := 4) (v := .pointer (some ⟨b1, o1, none⟩)) rfl (by kernel_rfl) (by kernel_rfl) (by kernel_rfl) (by first | exact fun _ _ _ h => h | exact fun _ _ _ h => nomatch h.1) (yieldsIf_arrayAt (by rfl) 33 5 16 _ rfl (some ⟨b1, o1, none⟩) 16 c1 rfl Tryd.underlying33 (Nat.le_refl _)) (Chg.refl _ x1) ?_
  try simp only [Act.put, List.setIfInBounds_toArray, List.set_cons_zero, List.set_cons_succ, List.getElem_toArray, List.getElem_cons_succ, List.getElem_cons_zero]
  refine wpAnyH_take (i := 5) (v := .agg (u8s M.key).toArray) rfl (by kernel_rfl) (by kernel_rfl) (by kernel_rfl) (by first | exact fun _ _ _ h => h | exact fun _ _ _ h => nomatch h.1) (yieldsIf_load_mid (by rfl) 33 _ rfl b1 o1 rfl (u8s M.key) _ (fun w' hw' => hv1 _ w' hw' hn1) Tryd.underlying33 rfl (by rw [u8s_length, HMO.out.keyL]; exact size16)) (Chg.refl _ x1) ?_
  try simp only [Act.put, List.setIfInBounds_toArray, List.set_cons_zero, List.set_cons_succ, List.getElem_toArray, List.getElem_cons_succ, List.getElem_cons_zero]
  refine wpAnyH_ready (rs := [9]) (by kernel_rfl) (by simp) ?_
  refine AllReadyH.cons rfl (fun K hK => ?_) AllReadyH.nil
  rw [if_pos (by rfl)]
  try simp only [List.getElem_toArray, List.getElem_cons_succ, List.getElem_cons_zero]
  go_simp
  refine (HB1.out _ (HCW.out _ hch1)).mono ?_
  rintro e x2 ⟨b2, o2, c2, rfl, hb2, hv2, hcx2⟩
  have hch2 : Chg (· = gR) w2 x2 := hch1.trans hcx2.ofN
  have hn2 : b2 ≠ gR := by have := hch1.size; have := HGR.out; omega
  refine hK.out _ _ (hcx2.ofN) (fun _ => ?_)
  clear hK K
  try simp only [Act.put, List.setIfInBounds_toArray, List.set_cons_zero, List.set_cons_succ, List.getElem_toArray, List.getElem_cons_succ, List.getElem_cons_zero]
  refine wpAnyH_more (S' := fun w' => Chg (· = gR) x2 w') (fun w' h => Chg.trans (hcx2.ofN) h) ?_
  refine wpAnyH_take (i := 10) (v := .pointer (some ⟨b2, o2, none⟩)) rfl (by kernel_rfl) (by kernel_rfl) (by kernel_rfl) (by first | exact fun _ _ _ h => h | exact fun _ _ _ h => nomatch h.1) (yieldsIf_arrayAt (by rfl) 34 5 12 _ rfl (some ⟨b2, o2, none⟩) 12 c2 rfl Tryd.underlying34 (Nat.le_refl _)) (Chg.refl _ x2) ?_
  try simp only [Act.put, List.setIfInBounds_toArray, List.set_cons_zero, List.set_cons_succ, List.getElem_toArray, List.getElem_cons_succ, List.getElem_cons_zero]
  refine wpAnyH_take (i := 11) (v := .agg (u8s M.iv).toArray) rfl (by kernel_rfl) (by kernel_rfl) (by kernel_rfl) (by first | exact fun _ _ _ h => h | exact fun _ _ _ h => nomatch h.1) (yieldsIf_load_mid (by rfl) 34 _ rfl b2 o2 rfl (u8s M.iv) _ (fun w' hw' => hv2 _ w' hw' hn2) Tryd.underlying34 rfl (by rw [u8s_length, HMO.out.ivL]; exact size12)) (Chg.refl _ x2) ?_
  try simp only [Act.put, List.setIfInBounds_toArray, List.set_cons_zero, List.set_cons_succ, List.getElem_toArray, List.getElem_cons_succ, List.getElem_cons_zero]
  refine wpAnyH_ready (rs := [15]) (by kernel_rfl) (by simp) ?_
  refine AllReadyH.cons rfl (fun K hK => ?_) AllReadyH.nil
  rw [if_pos (by rfl)]
  try simp only [List.getElem_toArray, List.getElem_cons_succ, List.getElem_cons_zero]
  go_simp
  refine (HB2.out _ (HCW.out _ hch2)).mono ?_
  rintro e x3 ⟨rfl, hcx3⟩
  have hch3 : Chg (· = gR) w2 x3 := hch2.trans hcx3.ofN
  have hr3 := ((HR2.out.chg hch0_ (fun h => h)).chg hcx1 (fun h => h)).chg hcx2 (fun h => h) |>.chg hcx3 (fun h => h)
  refine hK.out _ _ (hcx3.ofN) (fun _ => ?_)
  clear hK K
  try simp only [Act.put, List.setIfInBounds_toArray, List.set_cons_zero, List.set_cons_succ, List.getElem_toArray, List.getElem_cons_succ, List.getElem_cons_zero]
  refine wpAnyH_take (i := 17) (v := .agg (cellsS M).toArray) rfl (by kernel_rfl) (by kernel_rfl) (by kernel_rfl) (by first | exact fun _ _ _ h => h | exact fun _ _ _ h => nomatch h.1) (Or.inl ⟨by rfl, fun w_ _ => by have hh := HBU.out w_; unfold execOp; simp [Act.eval, hh]⟩) hcx3.ofN ?_
  try simp only [Act.put, List.setIfInBounds_toArray, List.set_cons_zero, List.set_cons_succ, List.getElem_toArray, List.getElem_cons_succ, List.getElem_cons_zero]
  refine wpAnyH_ready (rs := [18]) (by kernel_rfl) (by simp) ?_
  refine AllReadyH.cons rfl (fun K hK => ?_) AllReadyH.nil
  rw [if_pos (by rfl)]
  try simp only [List.getElem_toArray, List.getElem_cons_succ, List.getElem_cons_zero]
  refine wp_store_row (ty := 36) (xs := cellsS M) rfl rfl (hr3) rfl (by rw [cellsS_len HMO.out]; rfl) (by rw [cellsS_len HMO.out]; exact sizeSc) (cellsS_one M) ?_
  intro x4 hr_x4 hc_x4 hs_x4
  refine hK.out _ _ (hc_x4 (· = gR) x2 hcx3.ofN (fun _ => rfl)) (fun _ => ?_)
  clear hK K
  try simp only [Act.put]
  refine wpAnyH_done (by kernel_rfl) ?_ _
  have hcw : Chg none_ w x4 := hc_x4 none_ w (HCW.out _ hch3) (fun h => by have := HGR.out; omega)
  go_wp2
  refine ret_row rfl rfl hr_x4 Tryd.underlying36 rfl (by rw [cellsS_len HMO.out]; exact sizeSc) rfl ?_
  exact ⟨rfl, hcw⟩
end Go.Proofs.YtfpflhcabjcamaaDoor
