/- Layer 7 (hash): a text's digest, and tags. -/
import Derived.Test.YtodcjcpbigggfaaDoorV7Digest
namespace Go.Proofs.YtodcjcpbigggfaaDoor
open Go.RowKit

set_option maxRecDepth 100000 in
set_option maxHeartbeats 1000000 in
theorem sum_any (T : Nat → Prop) (A : Option Addr) (cap : Nat) (l : List Nat) (w : World) (hv : View w T A l.length (u8s l)) (hl : l.length ≤ 1000000) (hlc : l.length ≤ cap) (hb : ∀ x ∈ l, x < 256) (hT : HTab w) :
    Calls Tryd.prog 9 #[.slice A l.length cap] w fun e w' => e = .returned (.agg (u8s (sumN l)).toArray) ∧ Chg none_ w w' := by
  have HT := Lib.hid hT
  have HLB := Lib.hid hb
  have HV := Lib.hid hv
  have HCAP := Lib.hid hlc
  clear hT hb hv hlc
  go_enter Tryd.func9, Tryd.ntmps9
  go_wp2_with (first | ((with_reducible show wpList _ _ _ (⟨_, .alloc 25, _, _, _, _⟩ :: _) _ _); refine wpList_alloc_Row rfl rfl (u8s (List.replicate 32 0)) zero25 ?_; intro w1 hr1 hc1 hs1; have HR1 := Lib.hid hr1; have HC1 := Lib.hid hc1; clear hr1 hc1 hs1) | ((with_reducible show wpList _ _ _ (⟨_, .load 36 _, _, _, _, _⟩ :: _) _ _); refine wpList_load_Mid (cs := u32s first8.list) rfl rfl rfl ((HT.out.chg HC1.out (fun h => h) (fun h => h)).fs) Tryd.underlying36 rfl (size36) ?_) | (go_at_call 19; refine (digest_any first8 0 (fun b => b < w.heap.size) A cap l _ first8_ok (by omega) ((HV.out.mono (T' := fun b => b < w.heap.size) (fun _ h _ => h)).chg HC1.out (fun _ _ h => h)) hl HCAP.out HLB.out (HT.out.chg HC1.out (fun h => h) (fun h => h))).mono ?_; rintro e w2 ⟨rfl, hc2⟩; have HC2 := Lib.hid hc2; clear hc2) | ((with_reducible show wpList _ _ _ (⟨_, .store 25 _ _, _, _, _, _⟩ :: _) _ _); refine wpList_store_Row (xs := u8s (sumN l)) rfl rfl rfl (HR1.out.chg HC2.out (fun h => h)) (rfl) (by rw [u8s_length, sumN, digN_len, u8s_length]; rfl) (by rw [u8s_length, sumN, digN_len]; exact size25) (u8s_oneA _) ?_; intro w3 hr3 hc3 hs3; have HR3 := Lib.hid hr3; have HC3 := Lib.hid hc3; clear hr3 hc3 hs3))
  refine ret_row rfl rfl HR3.out Tryd.underlying25 rfl (by rw [u8s_length, sumN, digN_len]; exact size25) rfl ?_
  exact ⟨rfl, HC3.out none_ w (HC1.out.trans HC2.out) (fun h => absurd h (by omega))⟩

theorem keyN_len (k : List Nat) (h : k.length ≤ 64) : (keyN k).length = 64 := by simp [keyN]; omega
theorem keyN_lt {k : List Nat} (hk : ∀ x ∈ k, x < 256) : ∀ x ∈ keyN k, x < 256 := by
  intro x hx
  simp only [keyN, List.mem_append, List.mem_replicate] at hx
  rcases hx with h | ⟨_, rfl⟩
  · exact hk x h
  · decide
theorem key_row {w : World} {g : Nat} {e : TypeId} {k : List Nat} (h : Row w g e ([] ++ ((u8s k).take 64 ++ (u8s (List.replicate 64 0)).drop k.length) ++ [])) (hk : k.length ≤ 64) : Row w g e (u8s (keyN k)) := by
  have e1 : ([] ++ ((u8s k).take 64 ++ (u8s (List.replicate 64 0)).drop k.length) ++ [] : List Value) = u8s (keyN k) := by
    rw [List.take_of_length_le (by rw [u8s_length]; omega), List.nil_append, List.append_nil]
    simp only [u8s, ← List.map_drop, List.drop_replicate, List.map_append, keyN]
  rw [← e1]; exact h
theorem sumN_len (l : List Nat) : (sumN l).length = 32 := digN_len _ _ _
theorem sumN_lt (l : List Nat) : ∀ x ∈ sumN l, x < 256 := digN_lt _ _ _
theorem tagN_len (k l : List Nat) : (tagN k l).length = 32 := digN_len _ _ _
theorem tagN_lt (k l : List Nat) : ∀ x ∈ tagN k l, x < 256 := digN_lt _ _ _

set_option maxRecDepth 100000 in
set_option maxHeartbeats 2000000 in
theorem tag_short (T T' : Nat → Prop) (A A' : Option Addr) (cap cap' : Nat) (k l : List Nat) (w : World) (hvk : View w T A k.length (u8s k)) (hv : View w T' A' l.length (u8s l)) (hk : k.length ≤ 1000000) (hl : l.length ≤ 1000000) (hkc : k.length ≤ cap) (hlc : l.length ≤ cap') (hkb : ∀ x ∈ k, x < 256) (hb : ∀ x ∈ l, x < 256) (hT : HTab w) (h64 : k.length ≤ 64) :
    Calls Tryd.prog 11 #[.slice A k.length cap, .slice A' l.length cap'] w fun e w' => e = .returned (.agg (u8s (tagN k l)).toArray) ∧ Chg none_ w w' := by
  have HTX : Hid (∀ w', Chg none_ w w' → HTab w') := Lib.hid (fun w' hc => hT.chg hc (fun h => h) (fun h => h))
  have HLB := Lib.hid hb
  have HKB := Lib.hid hkb
  have HVL : Hid (∀ w', Chg none_ w w' → View w' (fun b => b < w.heap.size) A' l.length (u8s l)) := Lib.hid (fun w' hc => (hv.mono (T' := fun b => b < w.heap.size) (fun _ h _ => h)).chg hc (fun _ _ h => h))
  have HVK : Hid (∀ w', Chg none_ w w' → View w' (fun b => b < w.heap.size) A k.length (u8s k)) := Lib.hid (fun w' hc => (hvk.mono (T' := fun b => b < w.heap.size) (fun _ h _ => h)).chg hc (fun _ _ h => h))
  have HCAPL := Lib.hid hlc
  have HCAPK := Lib.hid hkc
  clear hT hb hkb hv hvk hlc hkc
  have HK64 := Lib.hid h64
  have HE : Hid (tagN k l = tagS k l) := Lib.hid (by unfold tagN; rw [if_neg (by omega)])
  go_enter Tryd.func11, Tryd.ntmps11
  go_wp2_with (first | ((with_reducible show wpList _ _ _ (⟨some 4, .alloc 25, _, _, _, _⟩ :: _) _ _); refine wpList_alloc_Row rfl rfl (u8s (List.replicate 32 0)) zero25 ?_; intro w1 hr1 hc1 hs1; have HR1 := Lib.hid hr1; have HX := Lib.hid hc1; have HR1y := Lib.hid hr1; have HC1 := Lib.hid hc1; clear hr1 hc1 hs1) | ((with_reducible show wpList _ _ _ (⟨_, .alloc 41, _, _, _, _⟩ :: _) _ _); refine wpList_alloc_Row rfl rfl (u8s (List.replicate 64 0)) zero41 ?_; intro w6 hr6 hc6 hs6; have HR6 := Lib.hid hr6; have HC6 := Lib.hid hc6; clear hr6 hc6 hs6) | ((with_reducible show wpList _ _ _ (⟨some 16, _, _, _, _, _⟩ :: _) _ _); refine wpList_copy_min rfl _ _ _ _ rfl (pre := []) (ys := u8s (List.replicate 64 0)) (post := []) (xs := u8s (k)) (D := some ⟨w1.heap.size, 0, none⟩) rfl rfl (fun _ => rfl) Tryd.underlying22 size5 (by simpa using HR6.out) (by simp) ((HVK.out _ HX.out).chg HC6.out (fun _ _ h => h)) (u8s_one _) ?_; intro w7 hr7 hc7; have HR7 := Lib.hid (key_row (hr7) HK64.out); have HC7 := Lib.hid hc7; have HC67 := Lib.hid (HC6.out.andThen hc7 (fun b h e => by omega)); clear hr7 hc7) | ((with_reducible show wpList _ _ _ (⟨some 17, .load 41 _, _, _, _, _⟩ :: _) _ _); refine wpList_load_Row rfl rfl rfl (HR7.out) Tryd.underlying41 rfl (by rw [u8s_length, keyN_len _ HK64.out]; exact size41) ?_) | (go_at_call 21; refine (behindKey_any (keyN (k)) 54 _ (keyN_len _ HK64.out) (keyN_lt HKB.out) (by decide) (HTX.out _ ((HX.out).trans HC67.out))).mono ?_; rintro e w8 ⟨rfl, hc8⟩; have HC8 := Lib.hid hc8; clear hc8) | (go_at_call 19; refine (digest_any (turnN first8 (xorK (keyN (k)) 54)) 64 (fun b => b < w.heap.size) A' cap' l _ (turnN_ok _ _) (by omega) (HVL.out _ (((HX.out).trans HC67.out).trans HC8.out)) hl HCAPL.out HLB.out (HTX.out _ (((HX.out).trans HC67.out).trans HC8.out))).mono ?_; rintro e w9 ⟨rfl, hc9⟩; have HC9 := Lib.hid hc9; clear hc9) | ((with_reducible show wpList _ _ _ (⟨some 7, .alloc 25, _, _, _, _⟩ :: _) _ _); refine wpList_alloc_Row rfl rfl (u8s (List.replicate 32 0)) zero25 ?_; intro w10 hr10 hc10 hs10; have HR10 := Lib.hid hr10; have HC10 := Lib.hid hc10; clear hr10 hc10 hs10) | ((with_reducible show wpList _ _ _ (⟨_, .store 25 (.tmp 7) _, _, _, _, _⟩ :: _) _ _); refine wpList_store_Row (xs := u8s (digN (turnN first8 (xorK (keyN (k)) 54)) 64 l)) rfl rfl rfl (HR10.out) (rfl) (by rw [u8s_length, digN_len, u8s_length]; rfl) (by rw [u8s_length, digN_len]; exact size25) (u8s_oneA _) ?_; intro w11 hr11 hc11 hs11; have HR11 := Lib.hid hr11; have HC11 := Lib.hid hc11; clear hr11 hc11 hs11))
  have hg1 : w.heap.size < w1.heap.size := by have := HR1y.out.lt; omega
  have HC811 := Lib.hid (((HC8.out.trans HC9.out).trans HC10.out))
  have HC11x : Hid (Chg none_ w w11) := Lib.hid (HC11.out none_ w (((HX.out).trans HC67.out).trans HC811.out) (fun h => by have := (HC67.out.trans (HC8.out.trans HC9.out)).size; omega))
  have HXX : Hid (∀ w', Chg (· = w.heap.size) w11 w' → Chg none_ w w') := Lib.hid (fun w' hc => HC11x.out.andThen hc (fun b h e => by omega))
  have HC711 : Hid (Chg (· = w9.heap.size) w7 w11) := Lib.hid (HC11.out _ w7 (HC811.out.mono (fun _ _ h => h.elim)) (fun _ => rfl))
  have hg9 : w1.heap.size < w9.heap.size := by have := HR7.out.lt; have := (HC8.out.trans HC9.out).size; omega
  have HR7x := Lib.hid (HR7.out.chg HC711.out (by omega))
  have HR1x := Lib.hid ((HR1y.out.chg HC67.out (fun h => h)).chg HC711.out (by omega))
  have HVI : Hid (View w11 (fun b => w9.heap.size ≤ b) (some ⟨w9.heap.size, 0, none⟩) 32 (u8s (digN (turnN first8 (xorK (keyN (k)) 54)) 64 l))) := Lib.hid (by
    have hh := View.row (T := fun b => w9.heap.size ≤ b) HR11.out (n := 32) (by rw [u8s_length, digN_len]; omega) (Nat.le_refl _)
    rw [List.take_of_length_le (by rw [u8s_length, digN_len]; omega)] at hh
    exact hh)
  refine wp_region_held_drew (S := fun w' => Chg (· = w.heap.size) w11 w') (by kernel_rfl) ((Chg.refl _ _).drew) (fun hch0 => ?_)
  refine wpAnyH_take (i := 0) (v := .agg (u8s (keyN (k))).toArray) rfl (by kernel_rfl) (by kernel_rfl) (by kernel_rfl) (by first | exact fun _ _ _ h => h | exact fun _ _ _ h => nomatch h.1) (yieldsIf_load_mid (by rfl) 41 _ rfl w1.heap.size 0 rfl (u8s (keyN (k))) _ (fun w' hw' => (HR7x.out.chg hw' (by omega)).range) Tryd.underlying41 rfl (by rw [u8s_length, keyN_len _ HK64.out]; exact size41)) hch0 ?_
  refine wpAnyH_take (i := 2) (v := .slice (some ⟨w9.heap.size, 0, none⟩) 32 32) rfl (by kernel_rfl) (by kernel_rfl) (by kernel_rfl) (by first | exact fun _ _ _ h => h | exact fun _ _ _ h => nomatch h.1) (Or.inl ⟨by rfl, fun w_ hw_ => by go_simp⟩) hch0 ?_
  refine wpAnyH_ready (rs := [1]) (by kernel_rfl) (by simp) ?_
  refine AllReadyH.cons rfl (fun K hK => ?_) AllReadyH.nil
  rw [if_pos (by rfl)]
  try simp only [Act.put, List.setIfInBounds_toArray, List.set_cons_zero, List.set_cons_succ, List.getElem_toArray, List.getElem_cons_succ, List.getElem_cons_zero]
  go_simp
  refine (behindKey_any (keyN (k)) 92 _ (keyN_len _ HK64.out) (keyN_lt HKB.out) (by decide) (HTX.out _ (HXX.out _ hch0))).mono ?_
  rintro e w12 ⟨rfl, hc12⟩
  have hch1 : Chg (· = w.heap.size) w11 w12 := hch0.trans (hc12.mono (fun _ _ h => h.elim))
  refine hK.out _ _ (hch1) (fun _ => ?_)
  clear hK K
  try simp only [Act.put, List.setIfInBounds_toArray, List.set_cons_zero, List.set_cons_succ, List.getElem_toArray, List.getElem_cons_succ, List.getElem_cons_zero]
  refine wpAnyH_ready (rs := [3]) (by kernel_rfl) (by simp) ?_
  refine AllReadyH.cons rfl (fun K hK => ?_) AllReadyH.nil
  rw [if_pos (by rfl)]
  try simp only [Act.put, List.setIfInBounds_toArray, List.set_cons_zero, List.set_cons_succ, List.getElem_toArray, List.getElem_cons_succ, List.getElem_cons_zero]
  go_simp
  refine (digest_any (turnN first8 (xorK (keyN (k)) 92)) 64 (fun b => w9.heap.size ≤ b) (some ⟨w9.heap.size, 0, none⟩) 32 (digN (turnN first8 (xorK (keyN (k)) 54)) 64 l) _ (turnN_ok _ _) (by omega) (by rw [digN_len]; exact (HVI.out.chg hch1 (fun b hb h => by omega))) (by rw [digN_len]; omega) (by rw [digN_len]; omega) (digN_lt _ _ _) (HTX.out _ (HXX.out _ hch1))).mono ?_
  rintro e w13 ⟨rfl, hc13⟩
  have hch2 : Chg (· = w.heap.size) w11 w13 := hch1.trans (hc13.mono (fun _ _ h => h.elim))
  have hrow1 := (HR1x.out.drew.chg hc12 (fun h => h)).chg hc13 (fun h => h)
  refine hK.out _ _ (hch2) (fun _ => ?_)
  clear hK K
  try simp only [Act.put, List.setIfInBounds_toArray, List.set_cons_zero, List.set_cons_succ, List.getElem_toArray, List.getElem_cons_succ, List.getElem_cons_zero]
  refine wpAnyH_ready (rs := [4]) (by kernel_rfl) (by simp) ?_
  refine AllReadyH.cons rfl (fun K hK => ?_) AllReadyH.nil
  rw [if_pos (by rfl)]
  try simp only [Act.put, List.setIfInBounds_toArray, List.set_cons_zero, List.set_cons_succ, List.getElem_toArray, List.getElem_cons_succ, List.getElem_cons_zero]
  refine wp_store_row (ty := 25) (xs := u8s (digN (turnN first8 (xorK (keyN (k)) 92)) 64 (digN (turnN first8 (xorK (keyN (k)) 54)) 64 l))) rfl rfl (hrow1) rfl (by rw [u8s_length, digN_len, u8s_length]; rfl) (by rw [u8s_length, digN_len]; exact size25) (u8s_oneA _) ?_
  intro w14 hr_w14 hc_w14 hs_w14
  refine hK.out _ _ (hc_w14 (fun b => b = w.heap.size) w11 hch2 (fun _ => rfl)) (fun _ => ?_)
  clear hK K
  try simp only [Act.put, List.setIfInBounds_toArray, List.set_cons_zero, List.set_cons_succ, List.getElem_toArray, List.getElem_cons_succ, List.getElem_cons_zero]
  refine wpAnyH_done (by kernel_rfl) ?_ _
  go_wp2
  refine ret_row rfl rfl hr_w14 Tryd.underlying25 rfl (by rw [u8s_length, digN_len]; exact size25) rfl ?_
  exact ⟨by rw [HE.out]; rfl, hc_w14 none_ w (HXX.out _ hch2) (fun h => absurd h (by omega))⟩

set_option maxRecDepth 100000 in
set_option maxHeartbeats 2000000 in
theorem tag_long (T T' : Nat → Prop) (A A' : Option Addr) (cap cap' : Nat) (k l : List Nat) (w : World) (hvk : View w T A k.length (u8s k)) (hv : View w T' A' l.length (u8s l)) (hk : k.length ≤ 1000000) (hl : l.length ≤ 1000000) (hkc : k.length ≤ cap) (hlc : l.length ≤ cap') (hkb : ∀ x ∈ k, x < 256) (hb : ∀ x ∈ l, x < 256) (hT : HTab w) (h64 : 64 < k.length) :
    Calls Tryd.prog 11 #[.slice A k.length cap, .slice A' l.length cap'] w fun e w' => e = .returned (.agg (u8s (tagN k l)).toArray) ∧ Chg none_ w w' := by
  have HTX : Hid (∀ w', Chg none_ w w' → HTab w') := Lib.hid (fun w' hc => hT.chg hc (fun h => h) (fun h => h))
  have HLB := Lib.hid hb
  have HKB := Lib.hid hkb
  have HVL : Hid (∀ w', Chg none_ w w' → View w' (fun b => b < w.heap.size) A' l.length (u8s l)) := Lib.hid (fun w' hc => (hv.mono (T' := fun b => b < w.heap.size) (fun _ h _ => h)).chg hc (fun _ _ h => h))
  have HVK : Hid (∀ w', Chg none_ w w' → View w' (fun b => b < w.heap.size) A k.length (u8s k)) := Lib.hid (fun w' hc => (hvk.mono (T' := fun b => b < w.heap.size) (fun _ h _ => h)).chg hc (fun _ _ h => h))
  have HCAPL := Lib.hid hlc
  have HCAPK := Lib.hid hkc
  clear hT hb hkb hv hvk hlc hkc
  have HS64 : Hid ((sumN k).length ≤ 64) := Lib.hid (by rw [sumN_len]; omega)
  have HE : Hid (tagN k l = tagS (sumN k) l) := Lib.hid (by unfold tagN; rw [if_pos h64])
  go_enter Tryd.func11, Tryd.ntmps11
  go_wp2_with (first | ((with_reducible show wpList _ _ _ (⟨some 4, .alloc 25, _, _, _, _⟩ :: _) _ _); refine wpList_alloc_Row rfl rfl (u8s (List.replicate 32 0)) zero25 ?_; intro w1 hr1 hc1 hs1; have HR1 := Lib.hid hr1; have HC1 := Lib.hid hc1; clear hr1 hc1 hs1) | (go_at_call 9; refine (sum_any (fun b => b < w.heap.size) A cap k _ (HVK.out _ HC1.out) hk HCAPK.out HKB.out (HTX.out _ HC1.out)).mono ?_; rintro e w2 ⟨rfl, hc2⟩; have HC2 := Lib.hid hc2; clear hc2) | ((with_reducible show wpList _ _ _ (⟨some 5, .alloc 25, _, _, _, _⟩ :: _) _ _); refine wpList_alloc_Row rfl rfl (u8s (List.replicate 32 0)) zero25 ?_; intro w3 hr3 hc3 hs3; have HR3 := Lib.hid hr3; have HC3 := Lib.hid hc3; clear hr3 hc3 hs3) | ((with_reducible show wpList _ _ _ (⟨_, .store 25 (.tmp 5) _, _, _, _, _⟩ :: _) _ _); refine wpList_store_Row (xs := u8s (sumN k)) rfl rfl rfl (HR3.out) (rfl) (by rw [u8s_length, sumN_len, u8s_length]; rfl) (by rw [u8s_length, sumN_len]; exact size25) (u8s_oneA _) ?_; intro w4 hr4 hc4 hs4; have HR4 := Lib.hid hr4; have HC4 := Lib.hid hc4; have hsz2 := HC2.out.size; have HX := Lib.hid (hc4 none_ w ((HC1.out.trans HC2.out).trans HC3.out) (fun h => by have := HC1.out.size; omega)); have HR1y := Lib.hid ((HR1.out.chg HC2.out (fun h => h)).chg (hc4 (· = w2.heap.size) w2 (HC3.out.mono (fun _ _ h => h.elim)) (fun _ => rfl)) (by have := HR1.out.lt; omega)); have HVS : Hid (View w4 (fun _ => True) (some ⟨w2.heap.size, 0, none⟩) 32 (u8s (sumN k))) := Lib.hid (by have hh := View.row (T := fun _ => True) hr4 (n := 32) (by rw [u8s_length, sumN_len]; omega) trivial; rw [List.take_of_length_le (by rw [u8s_length, sumN_len]; omega)] at hh; exact hh); clear hr4 hc4 hs4) | ((with_reducible show wpList _ _ _ (⟨_, .alloc 41, _, _, _, _⟩ :: _) _ _); refine wpList_alloc_Row rfl rfl (u8s (List.replicate 64 0)) zero41 ?_; intro w6 hr6 hc6 hs6; have HR6 := Lib.hid hr6; have HC6 := Lib.hid hc6; clear hr6 hc6 hs6) | ((with_reducible show wpList _ _ _ (⟨some 16, _, _, _, _, _⟩ :: _) _ _); refine wpList_copy_min rfl _ _ _ _ rfl (pre := []) (ys := u8s (List.replicate 64 0)) (post := []) (xs := u8s (sumN k)) (D := some ⟨w4.heap.size, 0, none⟩) rfl rfl (fun _ => rfl) Tryd.underlying22 size5 (by simpa using HR6.out) (by simp) ((HVS.out).chg HC6.out (fun _ _ h => h)) (u8s_one _) ?_; intro w7 hr7 hc7; have HR7 := Lib.hid (key_row (by rw [sumN_len]; exact hr7) HS64.out); have HC7 := Lib.hid hc7; have HC67 := Lib.hid (HC6.out.andThen hc7 (fun b h e => by omega)); clear hr7 hc7) | ((with_reducible show wpList _ _ _ (⟨some 17, .load 41 _, _, _, _, _⟩ :: _) _ _); refine wpList_load_Row rfl rfl rfl (HR7.out) Tryd.underlying41 rfl (by rw [u8s_length, keyN_len _ HS64.out]; exact size41) ?_) | (go_at_call 21; refine (behindKey_any (keyN (sumN k)) 54 _ (keyN_len _ HS64.out) (keyN_lt (sumN_lt k)) (by decide) (HTX.out _ ((HX.out).trans HC67.out))).mono ?_; rintro e w8 ⟨rfl, hc8⟩; have HC8 := Lib.hid hc8; clear hc8) | (go_at_call 19; refine (digest_any (turnN first8 (xorK (keyN (sumN k)) 54)) 64 (fun b => b < w.heap.size) A' cap' l _ (turnN_ok _ _) (by omega) (HVL.out _ (((HX.out).trans HC67.out).trans HC8.out)) hl HCAPL.out HLB.out (HTX.out _ (((HX.out).trans HC67.out).trans HC8.out))).mono ?_; rintro e w9 ⟨rfl, hc9⟩; have HC9 := Lib.hid hc9; clear hc9) | ((with_reducible show wpList _ _ _ (⟨some 7, .alloc 25, _, _, _, _⟩ :: _) _ _); refine wpList_alloc_Row rfl rfl (u8s (List.replicate 32 0)) zero25 ?_; intro w10 hr10 hc10 hs10; have HR10 := Lib.hid hr10; have HC10 := Lib.hid hc10; clear hr10 hc10 hs10) | ((with_reducible show wpList _ _ _ (⟨_, .store 25 (.tmp 7) _, _, _, _, _⟩ :: _) _ _); refine wpList_store_Row (xs := u8s (digN (turnN first8 (xorK (keyN (sumN k)) 54)) 64 l)) rfl rfl rfl (HR10.out) (rfl) (by rw [u8s_length, digN_len, u8s_length]; rfl) (by rw [u8s_length, digN_len]; exact size25) (u8s_oneA _) ?_; intro w11 hr11 hc11 hs11; have HR11 := Lib.hid hr11; have HC11 := Lib.hid hc11; clear hr11 hc11 hs11))
  have hg1 : w.heap.size < w4.heap.size := by have := HR1y.out.lt; omega
  have HC811 := Lib.hid (((HC8.out.trans HC9.out).trans HC10.out))
  have HC11x : Hid (Chg none_ w w11) := Lib.hid (HC11.out none_ w (((HX.out).trans HC67.out).trans HC811.out) (fun h => by have := (HC67.out.trans (HC8.out.trans HC9.out)).size; omega))
  have HXX : Hid (∀ w', Chg (· = w.heap.size) w11 w' → Chg none_ w w') := Lib.hid (fun w' hc => HC11x.out.andThen hc (fun b h e => by omega))
  have HC711 : Hid (Chg (· = w9.heap.size) w7 w11) := Lib.hid (HC11.out _ w7 (HC811.out.mono (fun _ _ h => h.elim)) (fun _ => rfl))
  have hg9 : w4.heap.size < w9.heap.size := by have := HR7.out.lt; have := (HC8.out.trans HC9.out).size; omega
  have HR7x := Lib.hid (HR7.out.chg HC711.out (by omega))
  have HR1x := Lib.hid ((HR1y.out.chg HC67.out (fun h => h)).chg HC711.out (by omega))
  have HVI : Hid (View w11 (fun b => w9.heap.size ≤ b) (some ⟨w9.heap.size, 0, none⟩) 32 (u8s (digN (turnN first8 (xorK (keyN (sumN k)) 54)) 64 l))) := Lib.hid (by
    have hh := View.row (T := fun b => w9.heap.size ≤ b) HR11.out (n := 32) (by rw [u8s_length, digN_len]; omega) (Nat.le_refl _)
    rw [List.take_of_length_le (by rw [u8s_length, digN_len]; omega)] at hh
    exact hh)
  refine wp_region_held_drew (S := fun w' => Chg (· = w.heap.size) w11 w') (by kernel_rfl) ((Chg.refl _ _).drew) (fun hch0 => ?_)
  refine wpAnyH_take (i := 0) (v := .agg (u8s (keyN (sumN k))).toArray) rfl (by kernel_rfl) (by kernel_rfl) (by kernel_rfl) (by first | exact fun _ _ _ h => h | exact fun _ _ _ h => nomatch h.1) (yieldsIf_load_mid (by rfl) 41 _ rfl w4.heap.size 0 rfl (u8s (keyN (sumN k))) _ (fun w' hw' => (HR7x.out.chg hw' (by omega)).range) Tryd.underlying41 rfl (by rw [u8s_length, keyN_len _ HS64.out]; exact size41)) hch0 ?_
  refine wpAnyH_take (i := 2) (v := .slice (some ⟨w9.heap.size, 0, none⟩) 32 32) rfl (by kernel_rfl) (by kernel_rfl) (by kernel_rfl) (by first | exact fun _ _ _ h => h | exact fun _ _ _ h => nomatch h.1) (Or.inl ⟨by rfl, fun w_ hw_ => by go_simp⟩) hch0 ?_
  refine wpAnyH_ready (rs := [1]) (by kernel_rfl) (by simp) ?_
  refine AllReadyH.cons rfl (fun K hK => ?_) AllReadyH.nil
  rw [if_pos (by rfl)]
  try simp only [Act.put, List.setIfInBounds_toArray, List.set_cons_zero, List.set_cons_succ, List.getElem_toArray, List.getElem_cons_succ, List.getElem_cons_zero]
  go_simp
  refine (behindKey_any (keyN (sumN k)) 92 _ (keyN_len _ HS64.out) (keyN_lt (sumN_lt k)) (by decide) (HTX.out _ (HXX.out _ hch0))).mono ?_
  rintro e w12 ⟨rfl, hc12⟩
  have hch1 : Chg (· = w.heap.size) w11 w12 := hch0.trans (hc12.mono (fun _ _ h => h.elim))
  refine hK.out _ _ (hch1) (fun _ => ?_)
  clear hK K
  try simp only [Act.put, List.setIfInBounds_toArray, List.set_cons_zero, List.set_cons_succ, List.getElem_toArray, List.getElem_cons_succ, List.getElem_cons_zero]
  refine wpAnyH_ready (rs := [3]) (by kernel_rfl) (by simp) ?_
  refine AllReadyH.cons rfl (fun K hK => ?_) AllReadyH.nil
  rw [if_pos (by rfl)]
  try simp only [Act.put, List.setIfInBounds_toArray, List.set_cons_zero, List.set_cons_succ, List.getElem_toArray, List.getElem_cons_succ, List.getElem_cons_zero]
  go_simp
  refine (digest_any (turnN first8 (xorK (keyN (sumN k)) 92)) 64 (fun b => w9.heap.size ≤ b) (some ⟨w9.heap.size, 0, none⟩) 32 (digN (turnN first8 (xorK (keyN (sumN k)) 54)) 64 l) _ (turnN_ok _ _) (by omega) (by rw [digN_len]; exact (HVI.out.chg hch1 (fun b hb h => by omega))) (by rw [digN_len]; omega) (by rw [digN_len]; omega) (digN_lt _ _ _) (HTX.out _ (HXX.out _ hch1))).mono ?_
  rintro e w13 ⟨rfl, hc13⟩
  have hch2 : Chg (· = w.heap.size) w11 w13 := hch1.trans (hc13.mono (fun _ _ h => h.elim))
  have hrow1 := (HR1x.out.drew.chg hc12 (fun h => h)).chg hc13 (fun h => h)
  refine hK.out _ _ (hch2) (fun _ => ?_)
  clear hK K
  try simp only [Act.put, List.setIfInBounds_toArray, List.set_cons_zero, List.set_cons_succ, List.getElem_toArray, List.getElem_cons_succ, List.getElem_cons_zero]
  refine wpAnyH_ready (rs := [4]) (by kernel_rfl) (by simp) ?_
  refine AllReadyH.cons rfl (fun K hK => ?_) AllReadyH.nil
  rw [if_pos (by rfl)]
  try simp only [Act.put, List.setIfInBounds_toArray, List.set_cons_zero, List.set_cons_succ, List.getElem_toArray, List.getElem_cons_succ, List.getElem_cons_zero]
  refine wp_store_row (ty := 25) (xs := u8s (digN (turnN first8 (xorK (keyN (sumN k)) 92)) 64 (digN (turnN first8 (xorK (keyN (sumN k)) 54)) 64 l))) rfl rfl (hrow1) rfl (by rw [u8s_length, digN_len, u8s_length]; rfl) (by rw [u8s_length, digN_len]; exact size25) (u8s_oneA _) ?_
  intro w14 hr_w14 hc_w14 hs_w14
  refine hK.out _ _ (hc_w14 (fun b => b = w.heap.size) w11 hch2 (fun _ => rfl)) (fun _ => ?_)
  clear hK K
  try simp only [Act.put, List.setIfInBounds_toArray, List.set_cons_zero, List.set_cons_succ, List.getElem_toArray, List.getElem_cons_succ, List.getElem_cons_zero]
  refine wpAnyH_done (by kernel_rfl) ?_ _
  go_wp2
  refine ret_row rfl rfl hr_w14 Tryd.underlying25 rfl (by rw [u8s_length, digN_len]; exact size25) rfl ?_
  exact ⟨by rw [HE.out]; rfl, hc_w14 none_ w (HXX.out _ hch2) (fun h => absurd h (by omega))⟩

theorem tag_any (T T' : Nat → Prop) (A A' : Option Addr) (cap cap' : Nat) (k l : List Nat) (w : World) (hvk : View w T A k.length (u8s k)) (hv : View w T' A' l.length (u8s l)) (hk : k.length ≤ 1000000) (hl : l.length ≤ 1000000) (hkc : k.length ≤ cap) (hlc : l.length ≤ cap') (hkb : ∀ x ∈ k, x < 256) (hb : ∀ x ∈ l, x < 256) (hT : HTab w) :
    Calls Tryd.prog 11 #[.slice A k.length cap, .slice A' l.length cap'] w fun e w' => e = .returned (.agg (u8s (tagN k l)).toArray) ∧ Chg none_ w w' := by
  rcases Nat.lt_or_ge 64 k.length with h | h
  · exact tag_long T T' A A' cap cap' k l w hvk hv hk hl hkc hlc hkb hb hT h
  · exact tag_short T T' A A' cap cap' k l w hvk hv hk hl hkc hlc hkb hb hT h

theorem extract_any (T T' : Nat → Prop) (A A' : Option Addr) (cap cap' : Nat) (k l : List Nat) (w : World) (hvk : View w T A k.length (u8s k)) (hv : View w T' A' l.length (u8s l)) (hk : k.length ≤ 1000000) (hl : l.length ≤ 1000000) (hkc : k.length ≤ cap) (hlc : l.length ≤ cap') (hkb : ∀ x ∈ k, x < 256) (hb : ∀ x ∈ l, x < 256) (hT : HTab w) :
    Calls Tryd.prog 13 #[.slice A k.length cap, .slice A' l.length cap'] w fun e w' => e = .returned (.agg (u8s (tagN k l)).toArray) ∧ Chg none_ w w' := by
  have HTG := Lib.hid (fun w' (hc : Chg none_ w w') => tag_any _ _ A A' cap cap' k l w' (hvk.chg hc (fun _ _ h => h)) (hv.chg hc (fun _ _ h => h)) hk hl hkc hlc hkb hb (hT.chg hc (fun h => h) (fun h => h)))
  clear hvk hv hk hl hkc hlc hkb hb hT
  go_enter Tryd.func13, Tryd.ntmps13
  go_wp2_with (first | ((with_reducible show wpList _ _ _ (⟨_, .alloc 25, _, _, _, _⟩ :: _) _ _); refine wpList_alloc_Row rfl rfl (u8s (List.replicate 32 0)) zero25 ?_; intro w1 hr1 hc1 hs1; have HR1 := Lib.hid hr1; have HC1 := Lib.hid hc1; clear hr1 hc1 hs1) | (go_at_call 11; refine (HTG.out _ HC1.out).mono ?_; rintro e w2 ⟨rfl, hc2⟩; have HC2 := Lib.hid hc2; clear hc2) | ((with_reducible show wpList _ _ _ (⟨_, .store 25 _ _, _, _, _, _⟩ :: _) _ _); refine wpList_store_Row (xs := u8s (tagN k l)) rfl rfl rfl (HR1.out.chg HC2.out (fun h => h)) (rfl) (by rw [u8s_length, tagN_len, u8s_length]; rfl) (by rw [u8s_length, tagN_len]; exact size25) (u8s_oneA _) ?_; intro w3 hr3 hc3 hs3; have HR3 := Lib.hid hr3; have HC3 := Lib.hid hc3; clear hr3 hc3 hs3))
  refine ret_row rfl rfl HR3.out Tryd.underlying25 rfl (by rw [u8s_length, tagN_len]; exact size25) rfl ?_
  exact ⟨rfl, HC3.out none_ w (HC1.out.trans HC2.out) (fun h => absurd h (by omega))⟩
end Go.Proofs.YtodcjcpbigggfaaDoor
