/- Layer 7 (hash): the walk of the law HashLong. -/
import Derived.Test.YtodcjcpbigggfaaDoorV7KeysLaw
namespace Go.Proofs.YtodcjcpbigggfaaDoor
open Go.RowKit

set_option maxRecDepth 100000 in
set_option maxHeartbeats 1000000 in
theorem walk_HashLong (A : Option Addr) (len cap : Nat) (zs : List Int) (at_ : Int) (A' : Option Addr) (len' cap' : Nat) (zs' : List Int) (W : World) (x0 : IsRow .u8 W A len cap zs) (x1 : (Lit.int .u16 at_).wf = true) (x2 : IsRow .u8 W A' len' cap' zs') (hT : HTab W) :
    Calls Tryd.prog 6 #[.slice A len cap, .int .u16 at_, .slice A' len' cap'] W fun e w' => e = .returned (.bool true) ∧ Chg none_ W w' := by
  obtain ⟨l, rfl, hlc, hlm, hlb, hvl⟩ := x0.u8
  obtain ⟨k, rfl, hkc, hkm, hkb, hvk⟩ := x2.u8
  have hlm2 := maxl2 _ (Nat.le_trans hlc hlm)
  have hkm2 := maxl2 _ (Nat.le_trans hkc hkm)
  have hn : 0 ≤ at_ ∧ at_ ≤ 65535 := by
    have h2 : (decide (0 ≤ at_) && decide (at_ ≤ 65535)) = true := x1
    simpa using h2
  obtain ⟨n, rfl⟩ : ∃ n : Nat, at_ = (n : Int) := ⟨at_.toNat, by omega⟩
  have hn2 : n ≤ 65535 := by omega
  have HAL := Lib.hid (fun w' (hc : Chg none_ W w') => alive_any w' (hT.chg hc (fun h => h) (fun h => h)))
  have HC0 := Lib.hid (Chg.refl none_ W)
  by_cases hk : 300 < l.length
  · have hd1 : decide ((300 : Int) < (l.length : Int)) = true := by simp; omega
    clear hvk hvl hkb hlb hT x0 x1 x2
    go_enter Tryd.func6, Tryd.ntmps6
    go_wp2_with (go_at_call 8; refine (HAL.out _ HC0.out).mono ?_; rintro e w1 ⟨rfl, hc1⟩; have HC1 := Lib.hid (HC0.out.trans hc1); clear hc1)
    go_ret
    exact ⟨rfl, HC1.out⟩
  have hd1 : decide ((300 : Int) < (l.length : Int)) = false := by simp; omega
  by_cases hl : 300 < k.length
  · have hd2 : decide ((300 : Int) < (k.length : Int)) = true := by simp; omega
    clear hvk hvl hkb hlb hT x0 x1 x2
    go_enter Tryd.func6, Tryd.ntmps6
    go_wp2_with (go_at_call 8; refine (HAL.out _ HC0.out).mono ?_; rintro e w1 ⟨rfl, hc1⟩; have HC1 := Lib.hid (HC0.out.trans hc1); clear hc1)
    go_ret
    exact ⟨rfl, HC1.out⟩
  have hd2 : decide ((300 : Int) < (k.length : Int)) = false := by simp; omega
  obtain ⟨LL, hLL⟩ : ∃ LL, [] ++ k ++ List.replicate (65 + n % 30) 0 = LL := ⟨_, rfl⟩
  have hLLl : LL.length = k.length + (65 + n % 30) := by rw [← hLL]; simp
  have hLLb : ∀ x ∈ LL, x < 256 := by
    intro x hx
    rw [← hLL] at hx
    simp only [List.nil_append, List.mem_append, List.mem_replicate] at hx
    rcases hx with h | ⟨_, rfl⟩
    · exact hkb x h
    · decide
  have HS := Lib.hid (fun w' (hc : Chg none_ W w') (T : Nat → Prop) Al cl (hv : View w' T Al LL.length (u8s LL)) (hcap : LL.length ≤ cl) => sum_any T Al cl LL w' hv (by omega) hcap hLLb (hT.chg hc (fun h => h) (fun h => h)))
  have HT1 := Lib.hid (fun w' (hc : Chg none_ W w') Al cl {T : Nat → Prop} (hv : View w' T Al LL.length (u8s LL)) (hcap : LL.length ≤ cl) => tag_any T _ Al A cl cap LL l w' hv (hvl.chg hc (fun _ _ h => h)) (by omega) (by omega) hcap hlc hLLb hlb (hT.chg hc (fun h => h) (fun h => h)))
  have HT2 : Hid (∀ w' (_ : Chg none_ W w') g (_ : Row w' g 25 (u8s (sumN LL))), Calls Tryd.prog 11 #[.slice (some ⟨g, 0, none⟩) 32 32, .slice A l.length cap] w' fun e w'' => e = .returned (.agg (u8s (tagN LL l)).toArray) ∧ Chg none_ w' w'') := Lib.hid (fun w' hc g hr => by
    have hsl := sumN_len LL
    have hv := View.all (T := fun _ => True) hr (n := (sumN LL).length) (by rw [u8s_length]) trivial
    have hh := tag_any _ _ (some ⟨g, 0, none⟩) A 32 cap (sumN LL) l w' hv (hvl.chg hc (fun _ _ h => h)) (by omega) (by omega) (by omega) hlc (sumN_lt LL) hlb (hT.chg hc (fun h => h) (fun h => h))
    rw [tag_long_eq LL l (by omega), hsl] at hh
    exact hh)
  have HLL := Lib.hid hLL
  have HLLL := Lib.hid hLLl
  have HVK := Lib.hid hvk
  have HSL := Lib.hid (sumN_len LL)
  generalize sumN LL = HL at HS HT2 HSL
  have htl := tagN_len LL l
  generalize tagN LL l = TG at HT1 HT2 htl
  have HEQ := Lib.hid (hash_refl TG htl)
  clear hvk hvl hkb hlb hT x0 x1 x2 hLL hLLl hLLb htl hn
  go_enter Tryd.func6, Tryd.ntmps6
  go_wp2_with (first | (go_at_call 8; refine (HAL.out _ HC0.out).mono ?_; rintro e w1 ⟨rfl, hc1⟩; have HC1 := Lib.hid (HC0.out.trans hc1); clear hc1) | ((with_reducible show wpList _ _ _ (⟨some 19, _, _, _, _, _⟩ :: _) _ _); refine wpList_new_row (v := fun g => .slice (some ⟨g, 0, none⟩) 0 0) (e := 5) (cs := []) rfl (fun w_ => by go_simp) ?_; intro w2 hr2 hc2 hs2; have HR2 := Lib.hid hr2; have HC2 := Lib.hid (HC1.out.trans hc2); clear hr2 hc2 hs2) | ((with_reducible show wpList _ _ _ (⟨some 21, _, _, _, _, _⟩ :: _) _ _); refine wpList_append_bytes (v := .slice (some ⟨w1.heap.size, 0, none⟩) 0 0) (w0 := W) rfl _ _ 22 rfl Tryd.underlying22 rfl (Owned.row (l := []) HR2.out HC1.out.size rfl (by simp [maxLen])) rfl (HVK.out.chg HC2.out (fun _ _ h => h)) (by simp; omega) HC2.out.size HC2.out (Nat.le_refl _) ?_; intro v3 w3 hown3 hc3; have HOWN3 := Lib.hid hown3; have HC3 := Lib.hid hc3; clear hown3 hc3) | ((with_reducible show wpList _ _ _ (⟨some 26, _, _, _, _, _⟩ :: _) _ _); refine wpList_append_zeros_own (v := v3) (w0 := W) rfl _ _ 22 3 rfl Tryd.underlying22 Tryd.underlying3 (65 + n % 30) (by omega) rfl HOWN3.out rfl (by simp; omega) HC3.out.size HC3.out (Nat.le_refl _) ?_; intro v4 w4 hown4 hc4; rw [HLL.out] at hown4; obtain ⟨A4, c4, e4, hcap4, _, hv4⟩ := hown4.view; subst e4; have HV4 := Lib.hid hv4; have HCAP4 := Lib.hid hcap4; have HC4 := Lib.hid hc4; clear hown4 hc4 hv4 hcap4) | (go_at_call 9; refine (HS.out _ HC4.out _ A4 c4 HV4.out HCAP4.out).mono ?_; rintro e w5 ⟨rfl, hc5⟩; have HC5 := Lib.hid hc5; clear hc5) | ((with_reducible show wpList _ _ _ (⟨some 8, .alloc 25, _, _, _, _⟩ :: _) _ _); refine wpList_alloc_Row rfl rfl (u8s (List.replicate 32 0)) zero25 ?_; intro w6 hr6 hc6 hs6; have HR6 := Lib.hid hr6; have HC6 := Lib.hid hc6; clear hr6 hc6 hs6) | ((with_reducible show wpList _ _ _ (⟨_, .store 25 (.tmp 8) _, _, _, _, _⟩ :: _) _ _); refine wpList_store_Row (xs := u8s HL) rfl rfl rfl (HR6.out) (rfl) (by rw [u8s_length, HSL.out, u8s_length]; rfl) (by rw [u8s_length, HSL.out]; exact size25) (u8s_oneA _) ?_; intro w7 hr7 hc7 hs7; have HR7 := Lib.hid hr7; have HC47 : Hid (Chg none_ w4 w7) := Lib.hid (hc7 none_ w4 (HC5.out.trans HC6.out) (fun h => by have := HC5.out.size; omega)); have HC7 : Hid (Chg none_ W w7) := Lib.hid (HC4.out.trans HC47.out); clear hr7 hc7 hs7))
  refine wp_region_held_drew (S := fun w' => Chg none_ w7 w') (by kernel_rfl) ((Chg.refl none_ w7).drew) (fun hch0 => ?_)
  generalize w7.drew = wd at hch0 ⊢
  refine wpAnyH_take (i := 0) (v := .slice A4 LL.length c4) rfl (by kernel_rfl) (by kernel_rfl) (by kernel_rfl) (by first | exact fun _ _ _ h => h | exact fun _ _ _ h => nomatch h.1) (Or.inl ⟨by rfl, fun w_ hw_ => by go_simp⟩) hch0 ?_
  refine wpAnyH_take (i := 1) (v := .slice A l.length cap) rfl (by kernel_rfl) (by kernel_rfl) (by kernel_rfl) (by first | exact fun _ _ _ h => h | exact fun _ _ _ h => nomatch h.1) (Or.inl ⟨by rfl, fun w_ hw_ => by go_simp⟩) hch0 ?_
  refine wpAnyH_take (i := 3) (v := .slice (some ⟨w5.heap.size, 0, none⟩) 32 32) rfl (by kernel_rfl) (by kernel_rfl) (by kernel_rfl) (by first | exact fun _ _ _ h => h | exact fun _ _ _ h => nomatch h.1) (Or.inl ⟨by rfl, fun w_ hw_ => by go_simp⟩) hch0 ?_
  refine wpAnyH_take (i := 4) (v := .slice A l.length cap) rfl (by kernel_rfl) (by kernel_rfl) (by kernel_rfl) (by first | exact fun _ _ _ h => h | exact fun _ _ _ h => nomatch h.1) (Or.inl ⟨by rfl, fun w_ hw_ => by go_simp⟩) hch0 ?_
  try simp only [Act.put, List.setIfInBounds_toArray, List.set_cons_zero, List.set_cons_succ, List.getElem_toArray, List.getElem_cons_succ, List.getElem_cons_zero]
  refine wpAnyH_ready (rs := [2]) (by kernel_rfl) (by simp) ?_
  refine AllReadyH.cons rfl (fun K hK => ?_) AllReadyH.nil
  rw [if_pos (by rfl)]
  try simp only [Act.put, List.setIfInBounds_toArray, List.set_cons_zero, List.set_cons_succ, List.getElem_toArray, List.getElem_cons_succ, List.getElem_cons_zero]
  go_simp
  refine (HT1.out _ (HC7.out.trans hch0) A4 c4 (HV4.out.chg (HC47.out.trans hch0) (fun _ _ h => h)) HCAP4.out).mono ?_
  rintro e y1 ⟨rfl, hcy1⟩
  have hch1 : Chg none_ w7 y1 := hch0.trans hcy1
  refine hK.out _ _ hch1 (fun _ => ?_)
  clear hK K
  try simp only [Act.put, List.setIfInBounds_toArray, List.set_cons_zero, List.set_cons_succ, List.getElem_toArray, List.getElem_cons_succ, List.getElem_cons_zero]
  refine wpAnyH_ready (rs := [5]) (by kernel_rfl) (by simp) ?_
  refine AllReadyH.cons rfl (fun K hK => ?_) AllReadyH.nil
  rw [if_pos (by rfl)]
  try simp only [Act.put, List.setIfInBounds_toArray, List.set_cons_zero, List.set_cons_succ, List.getElem_toArray, List.getElem_cons_succ, List.getElem_cons_zero]
  go_simp
  refine (HT2.out _ (HC7.out.trans hch1) w5.heap.size (HR7.out.chg hch1 (fun h => h))).mono ?_
  rintro e y2 ⟨rfl, hcy2⟩
  have hch2 : Chg none_ w7 y2 := hch1.trans hcy2
  refine hK.out _ _ hch2 (fun _ => ?_)
  clear hK K
  try simp only [Act.put, List.setIfInBounds_toArray, List.set_cons_zero, List.set_cons_succ, List.getElem_toArray, List.getElem_cons_succ, List.getElem_cons_zero]
  refine wpAnyH_take (i := 6) (v := .bool true) rfl (by kernel_rfl) (by kernel_rfl) (by kernel_rfl) (by first | exact fun _ _ _ h => h | exact fun _ _ _ h => nomatch h.1) (yieldsIf_eql (by rfl) 25 _ _ _ rfl (u8s TG).toArray (u8s TG).toArray rfl rfl true (fun w => run_eqGuard_agg w .eql 25 _ _ _ _ Tryd.eqGuardType25) (fun w _ => HEQ.out w)) hch2 ?_
  try simp only [Act.put, List.setIfInBounds_toArray, List.set_cons_zero, List.set_cons_succ, List.getElem_toArray, List.getElem_cons_succ, List.getElem_cons_zero]
  refine wpAnyH_take (i := 7) (v := .bool true) rfl (by kernel_rfl) (by kernel_rfl) (by kernel_rfl) (by first | exact fun _ _ _ h => h | exact fun _ _ _ h => nomatch h.1) (Or.inl ⟨by rfl, fun w_ hw_ => by go_simp⟩) hch2 ?_
  try simp only [Act.put, List.setIfInBounds_toArray, List.set_cons_zero, List.set_cons_succ, List.getElem_toArray, List.getElem_cons_succ, List.getElem_cons_zero]
  refine wpAnyH_done (by kernel_rfl) ?_ _
  go_wp2
  go_ret
  exact ⟨rfl, HC7.out.trans hch2⟩
end Go.Proofs.YtodcjcpbigggfaaDoor
