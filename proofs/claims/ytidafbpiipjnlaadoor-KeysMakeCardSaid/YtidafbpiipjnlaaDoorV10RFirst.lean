/- Layer 10 (keys): first secrets and later ones, the document's. -/
import Derived.Test.YtidafbpiipjnlaaDoorV10RMake
import Derived.Test.YtidafbpiipjnlaaDoorKH3
namespace Go.Proofs.YtidafbpiipjnlaaDoor
open Go.RowKit

set_option maxRecDepth 100000 in
set_option maxHeartbeats 2000000 in
theorem rhash_any (l : List Nat) (T : Nat → Prop) (A : Option Addr) (cap : Nat) (w : World) (hv : View w T A 32 (u8s l)) (hl : l.length = 32) :
    Calls Tryd.prog 33 #[.slice A 32 cap] w fun e w' => e = .returned (.agg (u8s l).toArray) ∧ Chg none_ w w' := by
  have HKL := Lib.hid hl
  have HV : Hid (∀ w', Chg none_ w w' → View w' (fun b => b < w.heap.size) A 32 (u8s l)) := Lib.hid (fun w' hc => (hv.mono (fun b hb _ => hb)).chg hc (fun _ _ h => h))
  clear hv
  go_enter Tryd.func33, Tryd.ntmps33
  go_wp2_with (first | ((with_reducible show wpList _ _ _ (⟨some 2, .alloc 23, _, _, _, _⟩ :: _) _ _); refine wpList_alloc_Row rfl rfl (u8s (List.replicate 32 0)) zero25 ?_; intro w1 hr1 hc1 hs1; have HR1 := Lib.hid hr1; have HC1 := Lib.hid hc1; clear hr1 hc1 hs1) | ((with_reducible show wpList _ _ _ (⟨some 3, .alloc 23, _, _, _, _⟩ :: _) _ _); refine wpList_alloc_Row rfl rfl (u8s (List.replicate 32 0)) zero25 ?_; intro w2 hr2 hc2 hs2; have HR2 := Lib.hid hr2; have HC2 := Lib.hid (HC1.out.trans hc2); have HR1b := Lib.hid (HR1.out.chg hc2 (fun h => h)); have HG1 := Lib.hid HR1.out.lt; clear hr2 hc2 hs2))
  go_loopw [4] (fun iv wr => ∃ k : Nat, k ≤ 32 ∧ iv = .int .i64 k ∧ Row wr w1.heap.size 23 (u8s (partF (fun i => l.getD i 0) (List.replicate 32 0) 32 k)) ∧ Chg (· = w1.heap.size) w2 wr) (fun iv _ => 32 - (intOf iv).toNat)
  case atStart => exact ⟨0, Nat.zero_le _, rfl, by rw [partF_0 _ _ _ (by simp)]; exact HR2.out, Chg.refl _ _⟩
  case round =>
    obtain ⟨k, hk, rfl, hrow, hch⟩ := hrel
    have HC := Lib.hid hch
    by_cases hlt : k < 32
    · obtain ⟨b, o, hA, hb, hT, d⟩ := ((HV.out _ HC2.out).chg hch (fun b hb e => by have := HG1.out; omega)).at_ (i := k) hlt
      subst hA
      have c0 := Row.u8 hrow (i := k) (by rw [partF_len]; omega)
      have f0 := hrow.frozen k
      have HSET := Lib.hid (hrow.set k (.int .u8 ((l.getD k 0 : Nat) : Int)))
      have HPS := Lib.hid (partF_set (fun i => l.getD i 0) (List.replicate 32 0) 32 k)
      generalize (partF (fun i => l.getD i 0) (List.replicate 32 0) 32 k).getD k 0 = z at c0
      generalize l.getD k 0 = x at d HSET HPS
      have q1 : (0 : Int) ≤ (k : Int) := by omega
      have q2 : (k : Int) < 32 := by omega
      have HLT := Lib.hid hlt
      clear hrow hch hk hlt hb hT
      go_wp2
      go_roundw
      case rel => exact ⟨k + 1, by have := HLT.out; omega, by go_num, by rw [← HPS.out, ← u8s_set]; exact HSET.out, HC.out.setCell (fun _ => rfl) _⟩
      case measure => have := HLT.out; simp [intOf]; omega
    · have hk32 : k = 32 := by omega
      subst hk32
      rw [partF_all, list_eta l 32 HKL.out] at hrow
      have HROW := Lib.hid hrow
      have HR1r := Lib.hid (HR1b.out.chg hch (fun e => by have := HG1.out; omega))
      have HE := Lib.hid (HC2.out.andThen hch (fun b h e => by have := HG1.out; omega))
      have HG1' := HG1
      have q0 : ¬ (((32 : Nat) : Int) < 32) := by decide
      clear hrow hch hk hlt
      go_wp2_with (first | ((with_reducible show wpList _ _ _ (⟨some 15, .load 23 _, _, _, _, _⟩ :: _) _ _); refine wpList_load_Row rfl rfl rfl (HROW.out) Tryd.underlying23 rfl (by rw [u8s_length, HKL.out]; exact size25) ?_) | ((with_reducible show wpList _ _ _ (⟨_, .store 23 (.tmp 2) _, _, _, _, _⟩ :: _) _ _); refine wpList_store_Row (xs := u8s l) rfl rfl rfl (HR1r.out) (rfl) (by rw [u8s_length, u8s_length, HKL.out, List.length_replicate]) (by rw [u8s_length, HKL.out]; exact size25) (u8s_oneA _) ?_; intro w3 hr3 hc3 hs3; have HR3 := Lib.hid hr3; have HC3 := Lib.hid hc3; clear hr3 hc3 hs3))
      refine ret_row rfl rfl HR3.out Tryd.underlying23 rfl (by rw [u8s_length, HKL.out]; exact size25) rfl ?_
      exact ⟨rfl, HC3.out none_ w HE.out (fun h => by omega)⟩

set_option maxRecDepth 100000 in
set_option maxHeartbeats 4000000 in
theorem rLater_any (c t : List Nat) (T T' : Nat → Prop) (A A' : Option Addr) (cap cap' : Nat) (w : World) (hvc : View w T A c.length (u8s c)) (hvt : View w T' A' t.length (u8s t)) (hcl : c.length ≤ 100000) (htl : t.length ≤ 100000) (hcb : ∀ x ∈ c, x < 256) (htb : ∀ x ∈ t, x < 256) (hT : HTab w) :
    Calls Tryd.prog 13 #[.slice A c.length cap, .slice A' t.length cap'] w fun e w' => e = .returned (.tuple #[.agg (u8s (laterN c t).1).toArray, .agg (u8s (laterN c t).2).toArray]) ∧ Chg none_ w w' := by
  obtain ⟨X, hX⟩ : ∃ X, X = tagN c t := ⟨_, rfl⟩
  have hXl : X.length = 32 := by rw [hX]; exact tagN_len _ _
  have hXb : ∀ x ∈ X, x < 256 := by rw [hX]; exact tagN_lt _ _
  have HXL := Lib.hid hXl
  have HEX : Hid (∀ w', Chg none_ w w' → Calls Tryd.prog 32 #[.slice A c.length cap, .slice A' t.length cap'] w' fun e w'' => e = .returned (.agg (u8s X).toArray) ∧ Chg none_ w' w'') := Lib.hid (fun w' hc => by rw [hX]; exact rtag_any T T' A A' cap cap' c t w' (hvc.chg hc (fun _ _ h => h)) (hvt.chg hc (fun _ _ h => h)) (by omega) (by omega) hcb htb (hT.chg hc (fun h => h) (fun h => h)))
  obtain ⟨Ka, hKa⟩ : ∃ K, K = labelN X capL 32 := ⟨_, rfl⟩
  obtain ⟨Kb, hKb⟩ : ∃ K, K = labelN X sapL 32 := ⟨_, rfl⟩
  have e1 : (laterN c t).1 = Ka := by rw [hKa, hX]; rfl
  have e2 : (laterN c t).2 = Kb := by rw [hKb, hX]; rfl
  rw [e1, e2]
  have HKa : Hid (Ka.length = 32) := Lib.hid (by rw [hKa]; exact labelN_len X capL 32 (by decide) (by decide))
  have HKb : Hid (Kb.length = 32) := Lib.hid (by rw [hKb]; exact labelN_len X sapL 32 (by decide) (by decide))
  have HB5 : Hid (∀ w', Chg none_ w w' → Calls Tryd.prog 34 #[.agg (u8s X).toArray, .string ⟨#[99, 32, 97, 112, 32, 116, 114, 97, 102, 102, 105, 99]⟩, .int .i64 32] w' fun e w'' => ∃ A c, e = .returned (.slice A 32 c) ∧ View w'' (fun b => w'.heap.size ≤ b) A 32 (u8s Ka) ∧ Chg none_ w' w'') := Lib.hid (fun w' hc => by rw [hKa]; exact rlab_any X ⟨#[99, 32, 97, 112, 32, 116, 114, 97, 102, 102, 105, 99]⟩ 32 w' (by decide) (by decide) hXl hXb (hT.chg hc (fun h => h) (fun h => h)))
  have HB6 : Hid (∀ w', Chg none_ w w' → Calls Tryd.prog 34 #[.agg (u8s X).toArray, .string ⟨#[115, 32, 97, 112, 32, 116, 114, 97, 102, 102, 105, 99]⟩, .int .i64 32] w' fun e w'' => ∃ A c, e = .returned (.slice A 32 c) ∧ View w'' (fun b => w'.heap.size ≤ b) A 32 (u8s Kb) ∧ Chg none_ w' w'') := Lib.hid (fun w' hc => by rw [hKb]; exact rlab_any X ⟨#[115, 32, 97, 112, 32, 116, 114, 97, 102, 102, 105, 99]⟩ 32 w' (by decide) (by decide) hXl hXb (hT.chg hc (fun h => h) (fun h => h)))
  have HH0 : Hid (∀ w' (T : Nat → Prop) A c, View w' T A 32 (u8s Ka) → Calls Tryd.prog 33 #[.slice A 32 c] w' fun e w'' => e = .returned (.agg (u8s Ka).toArray) ∧ Chg none_ w' w'') := Lib.hid (fun w' T A c hv => rhash_any Ka T A c w' hv HKa.out)
  have HH1 : Hid (∀ w' (T : Nat → Prop) A c, View w' T A 32 (u8s Kb) → Calls Tryd.prog 33 #[.slice A 32 c] w' fun e w'' => e = .returned (.agg (u8s Kb).toArray) ∧ Chg none_ w' w'') := Lib.hid (fun w' T A c hv => rhash_any Kb T A c w' hv HKb.out)
  clear hvc hvt hcl htl hcb htb hT hX hXl hXb hKa hKb e1 e2
  go_enter Tryd.func13, Tryd.ntmps13
  go_wp2_with (first | ((with_reducible show wpList _ _ _ (⟨some 4, .alloc 23, _, _, _, _⟩ :: _) _ _); refine wpList_alloc_Row rfl rfl (u8s (List.replicate 32 0)) zero25 ?_; intro w1 hr1 hc1 hs1; have HRa1 := Lib.hid hr1; have HC1 := Lib.hid hc1; clear hr1 hc1 hs1) | ((with_reducible show wpList _ _ _ (⟨some 5, .alloc 23, _, _, _, _⟩ :: _) _ _); refine wpList_alloc_Row rfl rfl (u8s (List.replicate 32 0)) zero25 ?_; intro w2 hr2 hc2 hs2; have HRb2 := Lib.hid hr2; have HC2 := Lib.hid (HC1.out.trans hc2); have HRa2 := Lib.hid (HRa1.out.chg hc2 (fun h => h)); have HSZ1 := Lib.hid HC1.out.size; clear hr2 hc2 hs2) | (go_at_call 32; with_reducible refine (HEX.out _ HC2.out).mono ?_; rintro e w3 ⟨rfl, hc3⟩; have HC3 := Lib.hid (HC2.out.trans hc3); have HRa3 := Lib.hid (HRa2.out.chg hc3 (fun h => h)); have HRb3 := Lib.hid (HRb2.out.chg hc3 (fun h => h)); clear hc3) | ((with_reducible show wpList _ _ _ (⟨some 6, .alloc 23, _, _, _, _⟩ :: _) _ _); refine wpList_alloc_Row rfl rfl (u8s (List.replicate 32 0)) zero25 ?_; intro w4 hr4 hc4 hs4; have HR4 := Lib.hid hr4; have HC4 := Lib.hid (HC3.out.trans hc4); have HRa4 := Lib.hid (HRa3.out.chg hc4 (fun h => h)); have HRb4 := Lib.hid (HRb3.out.chg hc4 (fun h => h)); clear hr4 hc4 hs4) | ((with_reducible show wpList _ _ _ (⟨_, .store 23 (.tmp 6) _, _, _, _, _⟩ :: _) _ _); refine wpList_store_Row (xs := u8s X) rfl rfl rfl (HR4.out) (rfl) (by rw [u8s_length, u8s_length, HXL.out, List.length_replicate]) (by rw [u8s_length, HXL.out]; exact size25) (u8s_oneA _) ?_; intro w5 hr5 hc5 hs5; have HRX := Lib.hid hr5; have HC5 := Lib.hid (hc5 none_ w HC4.out (fun h => by have := HC3.out.size; omega)); have hcx5 := hc5 (· = w3.heap.size) w4 (Chg.refl _ _) (fun _ => rfl); have HRa5 := Lib.hid (HRa4.out.chg hcx5 (fun e => by have := HRa3.out.lt; omega)); have HRb5 := Lib.hid (HRb4.out.chg hcx5 (fun e => by have := HRb3.out.lt; omega)); clear hcx5; clear hr5 hc5 hs5))
  have HGG : Hid (w.heap.size < w1.heap.size ∧ w1.heap.size < w3.heap.size ∧ w3.heap.size < w5.heap.size) := Lib.hid ⟨HRa1.out.lt, HRb3.out.lt, HRX.out.lt⟩
  have HCW : Hid (∀ w', Chg (fun b => b = w.heap.size ∨ b = w1.heap.size) w5 w' → Chg none_ w w') := Lib.hid (fun w' hc => HC5.out.andThen hc (fun b hb e => by have := HGG.out; omega))
  have HRa := HRa5
  have HRb := HRb5
  try simp only [Act.put, List.setIfInBounds_toArray, List.set_cons_zero, List.set_cons_succ]
  refine wp_region_held_drew (S := fun w' => Chg (fun b => b = w.heap.size ∨ b = w1.heap.size) w5 w') (by kernel_rfl) ((Chg.refl _ w5).drew) (fun hch0 => ?_)
  have hch0_ : Chg none_ w5 w5.drew := (Chg.refl none_ w5).drew
  generalize w5.drew = wd at hch0 hch0_ ⊢
  refine wpAnyH_take (i := 0) (v := .agg (u8s X).toArray) rfl (by kernel_rfl) (by kernel_rfl) (by kernel_rfl) (by first | exact fun _ _ _ h => h | exact fun _ _ _ h => nomatch h.1) (yieldsIf_load_mid (by rfl) 23 _ rfl w3.heap.size 0 rfl (u8s X) _ (fun w' hw' => (HRX.out.chg hw' (fun e => by have := HGG.out; omega)).range) Tryd.underlying23 rfl (by rw [u8s_length, HXL.out]; exact size25)) hch0 ?_
  refine wpAnyH_take (i := 3) (v := .agg (u8s X).toArray) rfl (by kernel_rfl) (by kernel_rfl) (by kernel_rfl) (by first | exact fun _ _ _ h => h | exact fun _ _ _ h => nomatch h.1) (yieldsIf_load_mid (by rfl) 23 _ rfl w3.heap.size 0 rfl (u8s X) _ (fun w' hw' => (HRX.out.chg hw' (fun e => by have := HGG.out; omega)).range) Tryd.underlying23 rfl (by rw [u8s_length, HXL.out]; exact size25)) hch0 ?_
  try simp only [Act.put, List.setIfInBounds_toArray, List.set_cons_zero, List.set_cons_succ, List.getElem_toArray, List.getElem_cons_succ, List.getElem_cons_zero]
  refine wpAnyH_ready (rs := [1]) (by kernel_rfl) (by simp) ?_
  refine AllReadyH.cons rfl (fun K hK => ?_) AllReadyH.nil
  rw [if_pos (by rfl)]
  try simp only [List.getElem_toArray, List.getElem_cons_succ, List.getElem_cons_zero]
  go_simp
  refine (HB5.out _ (HCW.out _ hch0)).mono ?_
  rintro e x1 ⟨A1, c1, rfl, hv1, hcx1⟩
  have hch1 : Chg (fun b => b = w.heap.size ∨ b = w1.heap.size) w5 x1 := hch0.trans hcx1.ofN
  refine hK.out _ _ (hch1) (fun _ => ?_)
  clear hK K
  try simp only [Act.put, List.setIfInBounds_toArray, List.set_cons_zero, List.set_cons_succ, List.getElem_toArray, List.getElem_cons_succ, List.getElem_cons_zero]
  refine wpAnyH_ready (rs := [2]) (by kernel_rfl) (by simp) ?_
  refine AllReadyH.cons rfl (fun K hK => ?_) AllReadyH.nil
  rw [if_pos (by rfl)]
  try simp only [List.getElem_toArray, List.getElem_cons_succ, List.getElem_cons_zero]
  go_simp
  refine (HH0.out _ _ _ _ hv1).mono ?_
  rintro e x2 ⟨rfl, hcx2⟩
  have hch2 : Chg (fun b => b = w.heap.size ∨ b = w1.heap.size) w5 x2 := hch1.trans hcx2.ofN
  refine hK.out _ _ (hch2) (fun _ => ?_)
  clear hK K
  try simp only [Act.put, List.setIfInBounds_toArray, List.set_cons_zero, List.set_cons_succ, List.getElem_toArray, List.getElem_cons_succ, List.getElem_cons_zero]
  refine wpAnyH_ready (rs := [4]) (by kernel_rfl) (by simp) ?_
  refine AllReadyH.cons rfl (fun K hK => ?_) AllReadyH.nil
  rw [if_pos (by rfl)]
  try simp only [List.getElem_toArray, List.getElem_cons_succ, List.getElem_cons_zero]
  go_simp
  refine (HB6.out _ (HCW.out _ hch2)).mono ?_
  rintro e x3 ⟨A3, c3, rfl, hv3, hcx3⟩
  have hch3 : Chg (fun b => b = w.heap.size ∨ b = w1.heap.size) w5 x3 := hch2.trans hcx3.ofN
  refine hK.out _ _ (hch3) (fun _ => ?_)
  clear hK K
  try simp only [Act.put, List.setIfInBounds_toArray, List.set_cons_zero, List.set_cons_succ, List.getElem_toArray, List.getElem_cons_succ, List.getElem_cons_zero]
  refine wpAnyH_ready (rs := [5]) (by kernel_rfl) (by simp) ?_
  refine AllReadyH.cons rfl (fun K hK => ?_) AllReadyH.nil
  rw [if_pos (by rfl)]
  try simp only [List.getElem_toArray, List.getElem_cons_succ, List.getElem_cons_zero]
  go_simp
  refine (HH1.out _ _ _ _ hv3).mono ?_
  rintro e x4 ⟨rfl, hcx4⟩
  have hch4 : Chg (fun b => b = w.heap.size ∨ b = w1.heap.size) w5 x4 := hch3.trans hcx4.ofN
  have hra := (((HRa.out.chg hch0_ (fun h => h)).chg hcx1 (fun h => h)).chg hcx2 (fun h => h)).chg hcx3 (fun h => h) |>.chg hcx4 (fun h => h)
  have hrb := (((HRb.out.chg hch0_ (fun h => h)).chg hcx1 (fun h => h)).chg hcx2 (fun h => h)).chg hcx3 (fun h => h) |>.chg hcx4 (fun h => h)
  refine hK.out _ _ (hch4) (fun _ => ?_)
  clear hK K
  try simp only [Act.put, List.setIfInBounds_toArray, List.set_cons_zero, List.set_cons_succ, List.getElem_toArray, List.getElem_cons_succ, List.getElem_cons_zero]
  refine wpAnyH_ready (rs := [6]) (by kernel_rfl) (by simp) ?_
  refine AllReadyH.cons rfl (fun K hK => ?_) AllReadyH.nil
  rw [if_pos (by rfl)]
  try simp only [List.getElem_toArray, List.getElem_cons_succ, List.getElem_cons_zero]
  refine wp_store_row (ty := 23) (xs := u8s Ka) rfl rfl (hra) rfl (by rw [u8s_length, u8s_length, HKa.out, List.length_replicate]) (by rw [u8s_length, HKa.out]; exact size25) (u8s_oneA _) ?_
  intro x5 hr_x5 hc_x5 hs_x5
  refine hK.out _ _ (hc_x5 _ w5 hch4 (fun _ => Or.inl rfl)) (fun _ => ?_)
  clear hK K
  try simp only [Act.put]
  have hch5 : Chg (fun b => b = w.heap.size ∨ b = w1.heap.size) w5 x5 := hc_x5 _ w5 hch4 (fun _ => Or.inl rfl)
  have hrb5 := hrb.chg (hc_x5 (· = w.heap.size) x4 (Chg.refl _ _) (fun _ => rfl)) (fun e => by have := HGG.out; omega)
  refine wpAnyH_ready (rs := [7]) (by kernel_rfl) (by simp) ?_
  refine AllReadyH.cons rfl (fun K hK => ?_) AllReadyH.nil
  rw [if_pos (by rfl)]
  try simp only [List.getElem_toArray, List.getElem_cons_succ, List.getElem_cons_zero]
  refine wp_store_row (ty := 23) (xs := u8s Kb) rfl rfl (hrb5) rfl (by rw [u8s_length, u8s_length, HKb.out, List.length_replicate]) (by rw [u8s_length, HKb.out]; exact size25) (u8s_oneA _) ?_
  intro x6 hr_x6 hc_x6 hs_x6
  refine hK.out _ _ (hc_x6 _ w5 hch5 (fun _ => Or.inr rfl)) (fun _ => ?_)
  clear hK K
  try simp only [Act.put]
  have hch6 : Chg (fun b => b = w.heap.size ∨ b = w1.heap.size) w5 x6 := hc_x6 _ w5 hch5 (fun _ => Or.inr rfl)
  have hra6 := hr_x5.chg (hc_x6 (· = w1.heap.size) x5 (Chg.refl _ _) (fun _ => rfl)) (fun e => by have := HGG.out; omega)
  refine wpAnyH_done (by kernel_rfl) ?_ _
  go_wp2
  refine ret_rows2 rfl rfl hra6 Tryd.underlying23 rfl (by rw [u8s_length, HKa.out]; exact size25) rfl hr_x6 Tryd.underlying23 rfl (by rw [u8s_length, HKb.out]; exact size25) rfl ?_
  exact ⟨rfl, HCW.out _ hch6⟩

set_option maxRecDepth 100000 in
set_option maxHeartbeats 4000000 in
theorem rFirst_any (t : List Nat) (T' : Nat → Prop) (A' : Option Addr) (cap' : Nat) (w : World) (hvt : View w T' A' t.length (u8s t)) (htl : t.length ≤ 100000) (htb : ∀ x ∈ t, x < 256) (hT : HTab w) :
    Calls Tryd.prog 11 #[.slice A' t.length cap'] w fun e w' => e = .returned (.tuple #[.agg (u8s (firstN t).1).toArray, .agg (u8s (firstN t).2).toArray]) ∧ Chg none_ w w' := by
  obtain ⟨X, hX⟩ : ∃ X, X = tagN saltL t := ⟨_, rfl⟩
  have hXl : X.length = 32 := by rw [hX]; exact tagN_len _ _
  have hXb : ∀ x ∈ X, x < 256 := by rw [hX]; exact tagN_lt _ _
  have HXL := Lib.hid hXl
  have HEX : Hid (∀ w' (T : Nat → Prop) A, Chg none_ w w' → View w' T A 21 (u8s saltL) → Calls Tryd.prog 32 #[.slice A 21 21, .slice A' t.length cap'] w' fun e w'' => e = .returned (.agg (u8s X).toArray) ∧ Chg none_ w' w'') := Lib.hid (fun w' T A hc hv => by rw [hX]; exact rtag_any T T' A A' 21 cap' saltL t w' hv (hvt.chg hc (fun _ _ h => h)) (by decide) (by omega) (by decide) htb (hT.chg hc (fun h => h) (fun h => h)))
  obtain ⟨Ka, hKa⟩ : ∃ K, K = labelN X cinL 32 := ⟨_, rfl⟩
  obtain ⟨Kb, hKb⟩ : ∃ K, K = labelN X sinL 32 := ⟨_, rfl⟩
  have e1 : (firstN t).1 = Ka := by rw [hKa, hX]; rfl
  have e2 : (firstN t).2 = Kb := by rw [hKb, hX]; rfl
  rw [e1, e2]
  have HKa : Hid (Ka.length = 32) := Lib.hid (by rw [hKa]; exact labelN_len X cinL 32 (by decide) (by decide))
  have HKb : Hid (Kb.length = 32) := Lib.hid (by rw [hKb]; exact labelN_len X sinL 32 (by decide) (by decide))
  have HB3 : Hid (∀ w', Chg none_ w w' → Calls Tryd.prog 34 #[.agg (u8s X).toArray, .string ⟨#[99, 108, 105, 101, 110, 116, 32, 105, 110]⟩, .int .i64 32] w' fun e w'' => ∃ A c, e = .returned (.slice A 32 c) ∧ View w'' (fun b => w'.heap.size ≤ b) A 32 (u8s Ka) ∧ Chg none_ w' w'') := Lib.hid (fun w' hc => by rw [hKa]; exact rlab_any X ⟨#[99, 108, 105, 101, 110, 116, 32, 105, 110]⟩ 32 w' (by decide) (by decide) hXl hXb (hT.chg hc (fun h => h) (fun h => h)))
  have HB4 : Hid (∀ w', Chg none_ w w' → Calls Tryd.prog 34 #[.agg (u8s X).toArray, .string ⟨#[115, 101, 114, 118, 101, 114, 32, 105, 110]⟩, .int .i64 32] w' fun e w'' => ∃ A c, e = .returned (.slice A 32 c) ∧ View w'' (fun b => w'.heap.size ≤ b) A 32 (u8s Kb) ∧ Chg none_ w' w'') := Lib.hid (fun w' hc => by rw [hKb]; exact rlab_any X ⟨#[115, 101, 114, 118, 101, 114, 32, 105, 110]⟩ 32 w' (by decide) (by decide) hXl hXb (hT.chg hc (fun h => h) (fun h => h)))
  have HH0 : Hid (∀ w' (T : Nat → Prop) A c, View w' T A 32 (u8s Ka) → Calls Tryd.prog 33 #[.slice A 32 c] w' fun e w'' => e = .returned (.agg (u8s Ka).toArray) ∧ Chg none_ w' w'') := Lib.hid (fun w' T A c hv => rhash_any Ka T A c w' hv HKa.out)
  have HH1 : Hid (∀ w' (T : Nat → Prop) A c, View w' T A 32 (u8s Kb) → Calls Tryd.prog 33 #[.slice A 32 c] w' fun e w'' => e = .returned (.agg (u8s Kb).toArray) ∧ Chg none_ w' w'') := Lib.hid (fun w' T A c hv => rhash_any Kb T A c w' hv HKb.out)
  clear hvt htl htb hT hX hXl hXb hKa hKb e1 e2
  go_enter Tryd.func11, Tryd.ntmps11
  go_wp2_with (first | ((with_reducible show wpList _ _ _ (⟨some 2, .alloc 23, _, _, _, _⟩ :: _) _ _); refine wpList_alloc_Row rfl rfl (u8s (List.replicate 32 0)) zero25 ?_; intro w1 hr1 hc1 hs1; have HRa1 := Lib.hid hr1; have HC1 := Lib.hid hc1; clear hr1 hc1 hs1) | ((with_reducible show wpList _ _ _ (⟨some 3, .alloc 23, _, _, _, _⟩ :: _) _ _); refine wpList_alloc_Row rfl rfl (u8s (List.replicate 32 0)) zero25 ?_; intro w2 hr2 hc2 hs2; have HRb2 := Lib.hid hr2; have HC2 := Lib.hid (HC1.out.trans hc2); have HRa2 := Lib.hid (HRa1.out.chg hc2 (fun h => h)); have HSZ1 := Lib.hid HC1.out.size; clear hr2 hc2 hs2) | ((with_reducible show wpList _ _ _ (⟨some 5, _, _, _, _, _⟩ :: _) _ _); refine wpList_new_row (v := fun g => .slice (some ⟨g, 0, none⟩) 21 21) (e := 5) (cs := [.int .u8 100, .int .u8 111, .int .u8 111, .int .u8 114, .int .u8 119, .int .u8 97, .int .u8 114, .int .u8 100, .int .u8 32, .int .u8 102, .int .u8 105, .int .u8 114, .int .u8 115, .int .u8 116, .int .u8 32, .int .u8 115, .int .u8 97, .int .u8 108, .int .u8 116, .int .u8 46, .int .u8 46]) rfl (fun w_ => by go_simp) ?_; intro w6 hr6 hc6 hs6; have HR6 := Lib.hid (salt_row hr6); have HN6 := Lib.hid hc6; have HC6 := Lib.hid (HC2.out.trans hc6); have HRa6 := Lib.hid (HRa2.out.chg hc6 (fun h => h)); have HRb6 := Lib.hid (HRb2.out.chg hc6 (fun h => h)); clear hr6 hc6 hs6) | ((with_reducible show wpList _ _ _ (⟨some 6, _, _, _, _, _⟩ :: _) _ _); refine wpList_bytes_mark rfl rfl (g := w2.heap.size) (n := 21) (c := 21) rfl Tryd.underlying24 Tryd.underlying5 HR6.out ?_; intro w7 hv7 hc7 hs7; have HV7 := Lib.hid hv7; have HC7 := Lib.hid (HC2.out.andThen (HN6.out.ofN.trans hc7) (fun b hb e => by have := HC2.out.size; omega)); have HRa7 := Lib.hid (HRa6.out.chg hc7 (fun e => by have := HRa2.out.lt; omega)); have HRb7 := Lib.hid (HRb6.out.chg hc7 (fun e => by have := HRb2.out.lt; omega)); clear hv7 hc7 hs7) | (go_at_call 32; with_reducible refine (HEX.out _ _ _ HC7.out HV7.out).mono ?_; rintro e w3 ⟨rfl, hc3⟩; have HC3 := Lib.hid (HC7.out.trans hc3); have HRa3 := Lib.hid (HRa7.out.chg hc3 (fun h => h)); have HRb3 := Lib.hid (HRb7.out.chg hc3 (fun h => h)); clear hc3) | ((with_reducible show wpList _ _ _ (⟨some 4, .alloc 23, _, _, _, _⟩ :: _) _ _); refine wpList_alloc_Row rfl rfl (u8s (List.replicate 32 0)) zero25 ?_; intro w4 hr4 hc4 hs4; have HR4 := Lib.hid hr4; have HC4 := Lib.hid (HC3.out.trans hc4); have HRa4 := Lib.hid (HRa3.out.chg hc4 (fun h => h)); have HRb4 := Lib.hid (HRb3.out.chg hc4 (fun h => h)); clear hr4 hc4 hs4) | ((with_reducible show wpList _ _ _ (⟨_, .store 23 (.tmp 4) _, _, _, _, _⟩ :: _) _ _); refine wpList_store_Row (xs := u8s X) rfl rfl rfl (HR4.out) (rfl) (by rw [u8s_length, u8s_length, HXL.out, List.length_replicate]) (by rw [u8s_length, HXL.out]; exact size25) (u8s_oneA _) ?_; intro w5 hr5 hc5 hs5; have HRX := Lib.hid hr5; have HC5 := Lib.hid (hc5 none_ w HC4.out (fun h => by have := HC3.out.size; omega)); have hcx5 := hc5 (· = w3.heap.size) w4 (Chg.refl _ _) (fun _ => rfl); have HRa5 := Lib.hid (HRa4.out.chg hcx5 (fun e => by have := HRa3.out.lt; omega)); have HRb5 := Lib.hid (HRb4.out.chg hcx5 (fun e => by have := HRb3.out.lt; omega)); clear hcx5; clear hr5 hc5 hs5))
  have HGG : Hid (w.heap.size < w1.heap.size ∧ w1.heap.size < w3.heap.size ∧ w3.heap.size < w5.heap.size) := Lib.hid ⟨HRa1.out.lt, HRb3.out.lt, HRX.out.lt⟩
  have HCW : Hid (∀ w', Chg (fun b => b = w.heap.size ∨ b = w1.heap.size) w5 w' → Chg none_ w w') := Lib.hid (fun w' hc => HC5.out.andThen hc (fun b hb e => by have := HGG.out; omega))
  have HRa := HRa5
  have HRb := HRb5
  try simp only [Act.put, List.setIfInBounds_toArray, List.set_cons_zero, List.set_cons_succ]
  refine wp_region_held_drew (S := fun w' => Chg (fun b => b = w.heap.size ∨ b = w1.heap.size) w5 w') (by kernel_rfl) ((Chg.refl _ w5).drew) (fun hch0 => ?_)
  have hch0_ : Chg none_ w5 w5.drew := (Chg.refl none_ w5).drew
  generalize w5.drew = wd at hch0 hch0_ ⊢
  refine wpAnyH_take (i := 0) (v := .agg (u8s X).toArray) rfl (by kernel_rfl) (by kernel_rfl) (by kernel_rfl) (by first | exact fun _ _ _ h => h | exact fun _ _ _ h => nomatch h.1) (yieldsIf_load_mid (by rfl) 23 _ rfl w3.heap.size 0 rfl (u8s X) _ (fun w' hw' => (HRX.out.chg hw' (fun e => by have := HGG.out; omega)).range) Tryd.underlying23 rfl (by rw [u8s_length, HXL.out]; exact size25)) hch0 ?_
  refine wpAnyH_take (i := 3) (v := .agg (u8s X).toArray) rfl (by kernel_rfl) (by kernel_rfl) (by kernel_rfl) (by first | exact fun _ _ _ h => h | exact fun _ _ _ h => nomatch h.1) (yieldsIf_load_mid (by rfl) 23 _ rfl w3.heap.size 0 rfl (u8s X) _ (fun w' hw' => (HRX.out.chg hw' (fun e => by have := HGG.out; omega)).range) Tryd.underlying23 rfl (by rw [u8s_length, HXL.out]; exact size25)) hch0 ?_
  try simp only [Act.put, List.setIfInBounds_toArray, List.set_cons_zero, List.set_cons_succ, List.getElem_toArray, List.getElem_cons_succ, List.getElem_cons_zero]
  refine wpAnyH_ready (rs := [1]) (by kernel_rfl) (by simp) ?_
  refine AllReadyH.cons rfl (fun K hK => ?_) AllReadyH.nil
  rw [if_pos (by rfl)]
  try simp only [List.getElem_toArray, List.getElem_cons_succ, List.getElem_cons_zero]
  go_simp
  refine (HB3.out _ (HCW.out _ hch0)).mono ?_
  rintro e x1 ⟨A1, c1, rfl, hv1, hcx1⟩
  have hch1 : Chg (fun b => b = w.heap.size ∨ b = w1.heap.size) w5 x1 := hch0.trans hcx1.ofN
  refine hK.out _ _ (hch1) (fun _ => ?_)
  clear hK K
  try simp only [Act.put, List.setIfInBounds_toArray, List.set_cons_zero, List.set_cons_succ, List.getElem_toArray, List.getElem_cons_succ, List.getElem_cons_zero]
  refine wpAnyH_ready (rs := [2]) (by kernel_rfl) (by simp) ?_
  refine AllReadyH.cons rfl (fun K hK => ?_) AllReadyH.nil
  rw [if_pos (by rfl)]
  try simp only [List.getElem_toArray, List.getElem_cons_succ, List.getElem_cons_zero]
  go_simp
  refine (HH0.out _ _ _ _ hv1).mono ?_
  rintro e x2 ⟨rfl, hcx2⟩
  have hch2 : Chg (fun b => b = w.heap.size ∨ b = w1.heap.size) w5 x2 := hch1.trans hcx2.ofN
  refine hK.out _ _ (hch2) (fun _ => ?_)
  clear hK K
  try simp only [Act.put, List.setIfInBounds_toArray, List.set_cons_zero, List.set_cons_succ, List.getElem_toArray, List.getElem_cons_succ, List.getElem_cons_zero]
  refine wpAnyH_ready (rs := [4]) (by kernel_rfl) (by simp) ?_
  refine AllReadyH.cons rfl (fun K hK => ?_) AllReadyH.nil
  rw [if_pos (by rfl)]
  try simp only [List.getElem_toArray, List.getElem_cons_succ, List.getElem_cons_zero]
  go_simp
  refine (HB4.out _ (HCW.out _ hch2)).mono ?_
  rintro e x3 ⟨A3, c3, rfl, hv3, hcx3⟩
  have hch3 : Chg (fun b => b = w.heap.size ∨ b = w1.heap.size) w5 x3 := hch2.trans hcx3.ofN
  refine hK.out _ _ (hch3) (fun _ => ?_)
  clear hK K
  try simp only [Act.put, List.setIfInBounds_toArray, List.set_cons_zero, List.set_cons_succ, List.getElem_toArray, List.getElem_cons_succ, List.getElem_cons_zero]
  refine wpAnyH_ready (rs := [5]) (by kernel_rfl) (by simp) ?_
  refine AllReadyH.cons rfl (fun K hK => ?_) AllReadyH.nil
  rw [if_pos (by rfl)]
  try simp only [List.getElem_toArray, List.getElem_cons_succ, List.getElem_cons_zero]
  go_simp
  refine (HH1.out _ _ _ _ hv3).mono ?_
  rintro e x4 ⟨rfl, hcx4⟩
  have hch4 : Chg (fun b => b = w.heap.size ∨ b = w1.heap.size) w5 x4 := hch3.trans hcx4.ofN
  have hra := (((HRa.out.chg hch0_ (fun h => h)).chg hcx1 (fun h => h)).chg hcx2 (fun h => h)).chg hcx3 (fun h => h) |>.chg hcx4 (fun h => h)
  have hrb := (((HRb.out.chg hch0_ (fun h => h)).chg hcx1 (fun h => h)).chg hcx2 (fun h => h)).chg hcx3 (fun h => h) |>.chg hcx4 (fun h => h)
  refine hK.out _ _ (hch4) (fun _ => ?_)
  clear hK K
  try simp only [Act.put, List.setIfInBounds_toArray, List.set_cons_zero, List.set_cons_succ, List.getElem_toArray, List.getElem_cons_succ, List.getElem_cons_zero]
  refine wpAnyH_ready (rs := [6]) (by kernel_rfl) (by simp) ?_
  refine AllReadyH.cons rfl (fun K hK => ?_) AllReadyH.nil
  rw [if_pos (by rfl)]
  try simp only [List.getElem_toArray, List.getElem_cons_succ, List.getElem_cons_zero]
  refine wp_store_row (ty := 23) (xs := u8s Ka) rfl rfl (hra) rfl (by rw [u8s_length, u8s_length, HKa.out, List.length_replicate]) (by rw [u8s_length, HKa.out]; exact size25) (u8s_oneA _) ?_
  intro x5 hr_x5 hc_x5 hs_x5
  refine hK.out _ _ (hc_x5 _ w5 hch4 (fun _ => Or.inl rfl)) (fun _ => ?_)
  clear hK K
  try simp only [Act.put]
  have hch5 : Chg (fun b => b = w.heap.size ∨ b = w1.heap.size) w5 x5 := hc_x5 _ w5 hch4 (fun _ => Or.inl rfl)
  have hrb5 := hrb.chg (hc_x5 (· = w.heap.size) x4 (Chg.refl _ _) (fun _ => rfl)) (fun e => by have := HGG.out; omega)
  refine wpAnyH_ready (rs := [7]) (by kernel_rfl) (by simp) ?_
  refine AllReadyH.cons rfl (fun K hK => ?_) AllReadyH.nil
  rw [if_pos (by rfl)]
  try simp only [List.getElem_toArray, List.getElem_cons_succ, List.getElem_cons_zero]
  refine wp_store_row (ty := 23) (xs := u8s Kb) rfl rfl (hrb5) rfl (by rw [u8s_length, u8s_length, HKb.out, List.length_replicate]) (by rw [u8s_length, HKb.out]; exact size25) (u8s_oneA _) ?_
  intro x6 hr_x6 hc_x6 hs_x6
  refine hK.out _ _ (hc_x6 _ w5 hch5 (fun _ => Or.inr rfl)) (fun _ => ?_)
  clear hK K
  try simp only [Act.put]
  have hch6 : Chg (fun b => b = w.heap.size ∨ b = w1.heap.size) w5 x6 := hc_x6 _ w5 hch5 (fun _ => Or.inr rfl)
  have hra6 := hr_x5.chg (hc_x6 (· = w1.heap.size) x5 (Chg.refl _ _) (fun _ => rfl)) (fun e => by have := HGG.out; omega)
  refine wpAnyH_done (by kernel_rfl) ?_ _
  go_wp2
  refine ret_rows2 rfl rfl hra6 Tryd.underlying23 rfl (by rw [u8s_length, HKa.out]; exact size25) rfl hr_x6 Tryd.underlying23 rfl (by rw [u8s_length, HKb.out]; exact size25) rfl ?_
  exact ⟨rfl, HCW.out _ hch6⟩

end Go.Proofs.YtidafbpiipjnlaaDoor
