/- Layer 7 (hash): the laws' own look that the program answers at all. -/
import Derived.Test.YtodcjcpbigggfaaDoorV7Label
import Derived.Test.YtodcjcpbigggfaaDoorV7Eq
import Derived.Test.YtodcjcpbigggfaaDoorOwn
namespace Go.Proofs.YtodcjcpbigggfaaDoor
open Go.RowKit

def abcN : List Nat := [97, 98, 99]
def jefeN : List Nat := [74, 101, 102, 101]
def whatN : List Nat := [119, 104, 97, 116, 32, 100, 111, 32, 121, 97, 32, 119, 97, 110, 116, 32, 102, 111, 114, 32, 110, 111, 116, 104, 105, 110, 103, 63]
theorem sum_ev : (sumN abcN).getD 0 0 = 186 ∧ (sumN abcN).getD 31 0 = 173 := by decide +kernel
theorem tag_ev : (tagN jefeN whatN).getD 0 0 = 91 ∧ (tagN jefeN whatN).getD 31 0 = 67 := by decide +kernel
theorem abc_lt : ∀ x ∈ abcN, x < 256 := by decide
theorem jefe_lt : ∀ x ∈ jefeN, x < 256 := by decide
theorem what_lt : ∀ x ∈ whatN, x < 256 := by decide
theorem expandN_len (s info : List Nat) (n : Nat) (hn : n ≤ 255) : (expandN s info (n : Int)).length = n := by
  unfold expandN
  rw [if_neg (by omega), List.length_take, allN_len]
  simp only [Int.toNat_natCast]
  omega

theorem expandN_16 (s info : List Nat) : (expandN s info 16).length = 16 := expandN_len s info 16 (by decide)
theorem expandN_40 (s info : List Nat) : (expandN s info 40).length = 40 := expandN_len s info 40 (by decide)

set_option maxRecDepth 100000 in
set_option maxHeartbeats 4000000 in
theorem alive_any (W : World) (hT : HTab W) : Calls Tryd.prog 8 #[] W fun e w' => e = .returned (.bool true) ∧ Chg none_ W w' := by
  have HTX : Hid (∀ w', Chg none_ W w' → HTab w') := Lib.hid (fun w' hc => hT.chg hc (fun h => h) (fun h => h))
  have hsl : (sumN abcN).length = 32 := sumN_len _
  have htl : (tagN jefeN whatN).length = 32 := tagN_len _ _
  have hsb := sumN_lt abcN
  have HSUM : Hid (∀ (T : Nat → Prop) g w', View w' T (some ⟨g, 0, none⟩) 3 [.int .u8 97, .int .u8 98, .int .u8 99] → Chg none_ W w' → Calls Tryd.prog 9 #[.slice (some ⟨g, 0, none⟩) 3 3] w' fun e w'' => e = .returned (.agg (u8s (sumN abcN)).toArray) ∧ Chg none_ w' w'') := Lib.hid (fun T g w' hv hc => sum_any T (some ⟨g, 0, none⟩) 3 abcN w' hv (by decide) (by decide) abc_lt (HTX.out _ hc))
  have HTAG : Hid (∀ (T T' : Nat → Prop) g g' w', View w' T (some ⟨g, 0, none⟩) 4 [.int .u8 74, .int .u8 101, .int .u8 102, .int .u8 101] → View w' T' (some ⟨g', 0, none⟩) 28 [.int .u8 119, .int .u8 104, .int .u8 97, .int .u8 116, .int .u8 32, .int .u8 100, .int .u8 111, .int .u8 32, .int .u8 121, .int .u8 97, .int .u8 32, .int .u8 119, .int .u8 97, .int .u8 110, .int .u8 116, .int .u8 32, .int .u8 102, .int .u8 111, .int .u8 114, .int .u8 32, .int .u8 110, .int .u8 111, .int .u8 116, .int .u8 104, .int .u8 105, .int .u8 110, .int .u8 103, .int .u8 63] → Chg none_ W w' → Calls Tryd.prog 11 #[.slice (some ⟨g, 0, none⟩) 4 4, .slice (some ⟨g', 0, none⟩) 28 28] w' fun e w'' => e = .returned (.agg (u8s (tagN jefeN whatN)).toArray) ∧ Chg none_ w' w'') := Lib.hid (fun T T' g g' w' hv hv' hc => tag_any T T' (some ⟨g, 0, none⟩) (some ⟨g', 0, none⟩) 4 28 jefeN whatN w' hv hv' (by decide) (by decide) (by decide) (by decide) jefe_lt what_lt (HTX.out _ hc))
  have HEXT : Hid (∀ (T T' : Nat → Prop) g g' w', View w' T (some ⟨g, 0, none⟩) 4 [.int .u8 74, .int .u8 101, .int .u8 102, .int .u8 101] → View w' T' (some ⟨g', 0, none⟩) 28 [.int .u8 119, .int .u8 104, .int .u8 97, .int .u8 116, .int .u8 32, .int .u8 100, .int .u8 111, .int .u8 32, .int .u8 121, .int .u8 97, .int .u8 32, .int .u8 119, .int .u8 97, .int .u8 110, .int .u8 116, .int .u8 32, .int .u8 102, .int .u8 111, .int .u8 114, .int .u8 32, .int .u8 110, .int .u8 111, .int .u8 116, .int .u8 104, .int .u8 105, .int .u8 110, .int .u8 103, .int .u8 63] → Chg none_ W w' → Calls Tryd.prog 13 #[.slice (some ⟨g, 0, none⟩) 4 4, .slice (some ⟨g', 0, none⟩) 28 28] w' fun e w'' => e = .returned (.agg (u8s (tagN jefeN whatN)).toArray) ∧ Chg none_ w' w'') := Lib.hid (fun T T' g g' w' hv hv' hc => extract_any T T' (some ⟨g, 0, none⟩) (some ⟨g', 0, none⟩) 4 28 jefeN whatN w' hv hv' (by decide) (by decide) (by decide) (by decide) jefe_lt what_lt (HTX.out _ hc))
  have HLAB : Hid (∀ w', Chg none_ W w' → Calls Tryd.prog 17 #[.agg (u8s (sumN abcN)).toArray, .string { data := #[107, 101, 121] }, .int .i64 16] w' fun e w'' => ∃ A c, e = .returned (.slice A 16 c) ∧ Chg none_ w' w'') := Lib.hid (fun w' hc => (label_any (sumN abcN) { data := #[107, 101, 121] } 16 w' (by decide) hsl hsb (HTX.out _ hc)).mono fun e w'' ⟨A, c, h1, _, h3⟩ => ⟨A, c, by
    rw [h1]
    unfold labelN
    rw [if_neg (by decide), expandN_16], h3⟩)
  have HEXP : Hid (∀ w', Chg none_ W w' → Calls Tryd.prog 15 #[.agg (u8s (sumN abcN)).toArray, .slice none 0 0, .int .i64 40] w' fun e w'' => ∃ A c, e = .returned (.slice A 40 c) ∧ Chg none_ w' w'') := Lib.hid (fun w' hc => (expand_any (sumN abcN) [] 40 (fun _ => True) none 0 w' hsl hsb (View.none_ _ _ _) (by decide) (by decide) (by simp) (HTX.out _ hc)).mono fun e w'' ⟨A, c, h1, _, h3⟩ => ⟨A, c, by rw [h1, expandN_40], h3⟩)
  have hse := sum_ev
  have hte := tag_ev
  generalize sumN abcN = HH at hsl hse HSUM HLAB HEXP
  generalize tagN jefeN whatN = TT at htl hte HTAG HEXT
  have HHL := Lib.hid hsl
  have TTL := Lib.hid htl
  have HSE := Lib.hid hse
  have HTE := Lib.hid hte
  have HEQ := Lib.hid (hash_refl TT htl)
  clear hT hsl htl hsb hse hte HTX
  go_enter Tryd.func8, Tryd.ntmps8
  go_wp2_with (first | ((with_reducible show wpList _ _ _ (⟨some 3, _, _, _, _, _⟩ :: _) _ _); refine wpList_new_row (v := fun g => .slice (some ⟨g, 0, none⟩) 3 3) (e := 5) (cs := [.int .u8 97, .int .u8 98, .int .u8 99]) rfl (fun w_ => by go_simp) ?_; intro w1 hr1 hc1 hs1; have HR1 := Lib.hid hr1; have HC1 := Lib.hid hc1; clear hr1 hc1 hs1) | ((with_reducible show wpList _ _ _ (⟨some 4, _, _, _, _, _⟩ :: _) _ _); refine wpList_bytes_mark rfl rfl rfl Tryd.underlying22 Tryd.underlying5 (HR1.out) ?_; intro w2 hv2 hc2 hs2; have HV2 := Lib.hid hv2; have HC2 := Lib.hid hc2; have HD2 : Hid (Chg none_ W w2) := Lib.hid (HC1.out.andThen hc2 (fun b h e => by omega)); clear hv2 hc2 hs2) | (go_at_call 9; refine (HSUM.out _ _ _ HV2.out HD2.out).mono ?_; rintro e w3 ⟨rfl, hc3⟩; have HD3 : Hid (Chg none_ W w3) := Lib.hid (HD2.out.trans hc3); clear hc3) | ((with_reducible show wpList _ _ _ (⟨some 1, .alloc 25, _, _, _, _⟩ :: _) _ _); refine wpList_alloc_Row rfl rfl (u8s (List.replicate 32 0)) zero25 ?_; intro w4 hr4 hc4 hs4; have HR4 := Lib.hid hr4; have HC4 := Lib.hid hc4; clear hr4 hc4 hs4) | ((with_reducible show wpList _ _ _ (⟨_, .store 25 (.tmp 1) _, _, _, _, _⟩ :: _) _ _); refine wpList_store_Row (xs := u8s HH) rfl rfl rfl (HR4.out) (rfl) (by rw [u8s_length, HHL.out, u8s_length]; rfl) (by rw [u8s_length, HHL.out]; exact size25) (u8s_oneA _) ?_; intro w5 hr5 hc5 hs5; have HR5 := Lib.hid hr5; have HC5 := Lib.hid hc5; have HD5 : Hid (Chg none_ W w5) := Lib.hid (hc5 none_ W (HD3.out.trans HC4.out) (fun h => by have := HD3.out.size; omega)); clear hr5 hc5 hs5) | ((with_reducible show wpList _ _ _ (⟨some 6, _, _, _, _, _⟩ :: _) _ _); refine wpList_new_row (v := fun g => .slice (some ⟨g, 0, none⟩) 4 4) (e := 5) (cs := [.int .u8 74, .int .u8 101, .int .u8 102, .int .u8 101]) rfl (fun w_ => by go_simp) ?_; intro w6 hr6 hc6 hs6; have HR6 := Lib.hid hr6; have HC6 := Lib.hid hc6; clear hr6 hc6 hs6) | ((with_reducible show wpList _ _ _ (⟨some 7, _, _, _, _, _⟩ :: _) _ _); refine wpList_bytes_mark rfl rfl rfl Tryd.underlying22 Tryd.underlying5 (HR6.out) ?_; intro w7 hv7 hc7 hs7; have HV7 := Lib.hid hv7; have HC7 := Lib.hid hc7; have HE7 : Hid (Chg none_ w5 w7) := Lib.hid (HC6.out.andThen hc7 (fun b h e => by omega)); clear hv7 hc7 hs7) | ((with_reducible show wpList _ _ _ (⟨some 8, _, _, _, _, _⟩ :: _) _ _); refine wpList_new_row (v := fun g => .slice (some ⟨g, 0, none⟩) 28 28) (e := 5) (cs := [.int .u8 119, .int .u8 104, .int .u8 97, .int .u8 116, .int .u8 32, .int .u8 100, .int .u8 111, .int .u8 32, .int .u8 121, .int .u8 97, .int .u8 32, .int .u8 119, .int .u8 97, .int .u8 110, .int .u8 116, .int .u8 32, .int .u8 102, .int .u8 111, .int .u8 114, .int .u8 32, .int .u8 110, .int .u8 111, .int .u8 116, .int .u8 104, .int .u8 105, .int .u8 110, .int .u8 103, .int .u8 63]) rfl (fun w_ => by go_simp) ?_; intro w8 hr8 hc8 hs8; have HR8 := Lib.hid hr8; have HC8 := Lib.hid hc8; clear hr8 hc8 hs8) | ((with_reducible show wpList _ _ _ (⟨some 9, _, _, _, _, _⟩ :: _) _ _); refine wpList_bytes_mark rfl rfl rfl Tryd.underlying22 Tryd.underlying5 (HR8.out) ?_; intro w9 hv9 hc9 hs9; have HV9 := Lib.hid hv9; have HC9 := Lib.hid hc9; have HE9 : Hid (Chg none_ w7 w9) := Lib.hid (HC8.out.andThen hc9 (fun b h e => by omega)); have HD9 : Hid (Chg none_ W w9) := Lib.hid ((HD5.out.trans HE7.out).trans HE9.out); clear hv9 hc9 hs9) | (go_at_call 11; refine (HTAG.out _ _ _ _ _ (HV7.out.chg HE9.out (fun _ _ h => h)) HV9.out HD9.out).mono ?_; rintro e w10 ⟨rfl, hc10⟩; have HD10 : Hid (Chg none_ w5 w10) := Lib.hid ((HE7.out.trans HE9.out).trans hc10); clear hc10) | ((with_reducible show wpList _ _ _ (⟨some 2, .alloc 25, _, _, _, _⟩ :: _) _ _); refine wpList_alloc_Row rfl rfl (u8s (List.replicate 32 0)) zero25 ?_; intro w11 hr11 hc11 hs11; have HR11 := Lib.hid hr11; have HC11 := Lib.hid hc11; clear hr11 hc11 hs11) | ((with_reducible show wpList _ _ _ (⟨_, .store 25 (.tmp 2) _, _, _, _, _⟩ :: _) _ _); refine wpList_store_Row (xs := u8s TT) rfl rfl rfl (HR11.out) (rfl) (by rw [u8s_length, TTL.out, u8s_length]; rfl) (by rw [u8s_length, TTL.out]; exact size25) (u8s_oneA _) ?_; intro w12 hr12 hc12 hs12; have HR12 := Lib.hid hr12; have HC12 := Lib.hid hc12; have HD12 : Hid (Chg none_ w5 w12) := Lib.hid (hc12 none_ w5 (HD10.out.trans HC11.out) (fun h => by have := HD10.out.size; omega)); clear hr12 hc12 hs12))
  have HRH := Lib.hid (HR5.out.chg HD12.out (fun h => h))
  have HRT := HR12
  have HDW := Lib.hid (HD5.out.trans HD12.out)
  have K0 : Hid (∀ w', Chg none_ w12 w' → w'.cell? ⟨w3.heap.size, 0, none⟩ = some (.int .u8 186)) := Lib.hid (fun w' hc => by have := Row.u8 (HRH.out.chg hc (fun h => h)) (i := 0) (by rw [HHL.out]; decide); rw [HSE.out.1] at this; exact this)
  have K1 : Hid (∀ w', Chg none_ w12 w' → w'.cell? ⟨w3.heap.size, 31, none⟩ = some (.int .u8 173)) := Lib.hid (fun w' hc => by have := Row.u8 (HRH.out.chg hc (fun h => h)) (i := 31) (by rw [HHL.out]; decide); rw [HSE.out.2] at this; exact this)
  have K2 : Hid (∀ w', Chg none_ w12 w' → w'.cell? ⟨w10.heap.size, 0, none⟩ = some (.int .u8 91)) := Lib.hid (fun w' hc => by have := Row.u8 (HRT.out.chg hc (fun h => h)) (i := 0) (by rw [TTL.out]; decide); rw [HTE.out.1] at this; exact this)
  have K3 : Hid (∀ w', Chg none_ w12 w' → w'.cell? ⟨w10.heap.size, 31, none⟩ = some (.int .u8 67)) := Lib.hid (fun w' hc => by have := Row.u8 (HRT.out.chg hc (fun h => h)) (i := 31) (by rw [TTL.out]; decide); rw [HTE.out.2] at this; exact this)
  clear HR1 HR4 HR6 HR8 HR11 HC1 HC2 HC4 HC6 HC7 HC8 HC9 HC11 HC12 HC5 HD2 HD3 HD9 HD10 HE7 HE9 HV2 HV7 HV9 HSUM HTAG HR5
  refine wp_region_held_drew (S := fun w' => Chg none_ w12 w') (by kernel_rfl) ((Chg.refl none_ w12).drew) (fun hch0 => ?_)
  generalize w12.drew = wd at hch0 ⊢
  refine wpAnyH_take (i := 0) (v := .pointer (some ⟨w3.heap.size, 0, none⟩)) rfl (by kernel_rfl) (by kernel_rfl) (by kernel_rfl) (by first | exact fun _ _ _ h => h | exact fun _ _ _ h => nomatch h.1) (Or.inl ⟨by rfl, fun w_ hw_ => by go_simp⟩) hch0 ?_
  refine wpAnyH_take (i := 1) (v := .int .u8 186) rfl (by kernel_rfl) (by kernel_rfl) (by kernel_rfl) (by first | exact fun _ _ _ h => h | exact fun _ _ _ h => nomatch h.1) (Or.inl ⟨by rfl, fun w_ hw_ => by have hh := K0.out w_ hw_; go_simp⟩) hch0 ?_
  refine wpAnyH_take (i := 2) (v := .bool true) rfl (by kernel_rfl) (by kernel_rfl) (by kernel_rfl) (by first | exact fun _ _ _ h => h | exact fun _ _ _ h => nomatch h.1) (Or.inl ⟨by rfl, fun w_ hw_ => by go_simp⟩) hch0 ?_
  refine wpAnyH_take (i := 3) (v := .bool true) rfl (by kernel_rfl) (by kernel_rfl) (by kernel_rfl) (by first | exact fun _ _ _ h => h | exact fun _ _ _ h => nomatch h.1) (Or.inl ⟨by rfl, fun w_ hw_ => by go_simp⟩) hch0 ?_
  refine wpAnyH_take (i := 4) (v := .pointer (some ⟨w3.heap.size, 31, none⟩)) rfl (by kernel_rfl) (by kernel_rfl) (by kernel_rfl) (by first | exact fun _ _ _ h => h | exact fun _ _ _ h => nomatch h.1) (Or.inl ⟨by rfl, fun w_ hw_ => by go_simp⟩) hch0 ?_
  try simp only [Act.put, List.setIfInBounds_toArray, List.set_cons_zero, List.set_cons_succ, List.getElem_toArray, List.getElem_cons_succ, List.getElem_cons_zero]
  refine wpAnyH_take (i := 5) (v := .int .u8 173) rfl (by kernel_rfl) (by kernel_rfl) (by kernel_rfl) (by first | exact fun _ _ _ h => h | exact fun _ _ _ h => nomatch h.1) (Or.inl ⟨by rfl, fun w_ hw_ => by have hh := K1.out w_ hw_; go_simp⟩) hch0 ?_
  refine wpAnyH_take (i := 6) (v := .bool true) rfl (by kernel_rfl) (by kernel_rfl) (by kernel_rfl) (by first | exact fun _ _ _ h => h | exact fun _ _ _ h => nomatch h.1) (Or.inl ⟨by rfl, fun w_ hw_ => by go_simp⟩) hch0 ?_
  refine wpAnyH_take (i := 7) (v := .bool true) rfl (by kernel_rfl) (by kernel_rfl) (by kernel_rfl) (by first | exact fun _ _ _ h => h | exact fun _ _ _ h => nomatch h.1) (Or.inl ⟨by rfl, fun w_ hw_ => by go_simp⟩) hch0 ?_
  refine wpAnyH_take (i := 8) (v := .bool true) rfl (by kernel_rfl) (by kernel_rfl) (by kernel_rfl) (by first | exact fun _ _ _ h => h | exact fun _ _ _ h => nomatch h.1) (Or.inl ⟨by rfl, fun w_ hw_ => by go_simp⟩) hch0 ?_
  refine wpAnyH_take (i := 9) (v := .pointer (some ⟨w10.heap.size, 0, none⟩)) rfl (by kernel_rfl) (by kernel_rfl) (by kernel_rfl) (by first | exact fun _ _ _ h => h | exact fun _ _ _ h => nomatch h.1) (Or.inl ⟨by rfl, fun w_ hw_ => by go_simp⟩) hch0 ?_
  try simp only [Act.put, List.setIfInBounds_toArray, List.set_cons_zero, List.set_cons_succ, List.getElem_toArray, List.getElem_cons_succ, List.getElem_cons_zero]
  refine wpAnyH_take (i := 10) (v := .int .u8 91) rfl (by kernel_rfl) (by kernel_rfl) (by kernel_rfl) (by first | exact fun _ _ _ h => h | exact fun _ _ _ h => nomatch h.1) (Or.inl ⟨by rfl, fun w_ hw_ => by have hh := K2.out w_ hw_; go_simp⟩) hch0 ?_
  refine wpAnyH_take (i := 11) (v := .bool true) rfl (by kernel_rfl) (by kernel_rfl) (by kernel_rfl) (by first | exact fun _ _ _ h => h | exact fun _ _ _ h => nomatch h.1) (Or.inl ⟨by rfl, fun w_ hw_ => by go_simp⟩) hch0 ?_
  refine wpAnyH_take (i := 12) (v := .bool true) rfl (by kernel_rfl) (by kernel_rfl) (by kernel_rfl) (by first | exact fun _ _ _ h => h | exact fun _ _ _ h => nomatch h.1) (Or.inl ⟨by rfl, fun w_ hw_ => by go_simp⟩) hch0 ?_
  refine wpAnyH_take (i := 13) (v := .bool true) rfl (by kernel_rfl) (by kernel_rfl) (by kernel_rfl) (by first | exact fun _ _ _ h => h | exact fun _ _ _ h => nomatch h.1) (Or.inl ⟨by rfl, fun w_ hw_ => by go_simp⟩) hch0 ?_
  refine wpAnyH_take (i := 14) (v := .pointer (some ⟨w10.heap.size, 31, none⟩)) rfl (by kernel_rfl) (by kernel_rfl) (by kernel_rfl) (by first | exact fun _ _ _ h => h | exact fun _ _ _ h => nomatch h.1) (Or.inl ⟨by rfl, fun w_ hw_ => by go_simp⟩) hch0 ?_
  try simp only [Act.put, List.setIfInBounds_toArray, List.set_cons_zero, List.set_cons_succ, List.getElem_toArray, List.getElem_cons_succ, List.getElem_cons_zero]
  refine wpAnyH_take (i := 15) (v := .int .u8 67) rfl (by kernel_rfl) (by kernel_rfl) (by kernel_rfl) (by first | exact fun _ _ _ h => h | exact fun _ _ _ h => nomatch h.1) (Or.inl ⟨by rfl, fun w_ hw_ => by have hh := K3.out w_ hw_; go_simp⟩) hch0 ?_
  refine wpAnyH_take (i := 16) (v := .bool true) rfl (by kernel_rfl) (by kernel_rfl) (by kernel_rfl) (by first | exact fun _ _ _ h => h | exact fun _ _ _ h => nomatch h.1) (Or.inl ⟨by rfl, fun w_ hw_ => by go_simp⟩) hch0 ?_
  refine wpAnyH_take (i := 17) (v := .bool true) rfl (by kernel_rfl) (by kernel_rfl) (by kernel_rfl) (by first | exact fun _ _ _ h => h | exact fun _ _ _ h => nomatch h.1) (Or.inl ⟨by rfl, fun w_ hw_ => by go_simp⟩) hch0 ?_
  refine wpAnyH_take (i := 18) (v := .bool true) rfl (by kernel_rfl) (by kernel_rfl) (by kernel_rfl) (by first | exact fun _ _ _ h => h | exact fun _ _ _ h => nomatch h.1) (Or.inl ⟨by rfl, fun w_ hw_ => by go_simp⟩) hch0 ?_
  refine wpAnyH_take (i := 19) (v := .agg (u8s HH).toArray) rfl (by kernel_rfl) (by kernel_rfl) (by kernel_rfl) (by first | exact fun _ _ _ h => h | exact fun _ _ _ h => nomatch h.1) (yieldsIf_load_mid (by rfl) 25 _ rfl w3.heap.size 0 rfl (u8s HH) _ (fun w' hw' => (HRH.out.chg hw' (fun h => h)).range) Tryd.underlying25 rfl (by rw [u8s_length, HHL.out]; exact size25)) hch0 ?_
  try simp only [Act.put, List.setIfInBounds_toArray, List.set_cons_zero, List.set_cons_succ, List.getElem_toArray, List.getElem_cons_succ, List.getElem_cons_zero]
  try simp only [Act.put, List.setIfInBounds_toArray, List.set_cons_zero, List.set_cons_succ, List.getElem_toArray, List.getElem_cons_succ, List.getElem_cons_zero]
  refine wpAnyH_ready (rs := [20]) (by kernel_rfl) (by simp) ?_
  refine AllReadyH.cons rfl (fun K hK => ?_) AllReadyH.nil
  rw [if_pos (by rfl)]
  try simp only [Act.put, List.setIfInBounds_toArray, List.set_cons_zero, List.set_cons_succ, List.getElem_toArray, List.getElem_cons_succ, List.getElem_cons_zero]
  go_simp
  refine (HLAB.out _ (HDW.out.trans hch0)).mono ?_
  rintro e x1 ⟨A1, c1, rfl, hcx1⟩
  have hch1 : Chg none_ w12 x1 := hch0.trans hcx1
  refine hK.out _ _ (hch1) (fun _ => ?_)
  clear hK K
  try simp only [Act.put, List.setIfInBounds_toArray, List.set_cons_zero, List.set_cons_succ, List.getElem_toArray, List.getElem_cons_succ, List.getElem_cons_zero]
  refine wpAnyH_take (i := 21) (v := .int .i64 16) rfl (by kernel_rfl) (by kernel_rfl) (by kernel_rfl) (by first | exact fun _ _ _ h => h | exact fun _ _ _ h => nomatch h.1) (Or.inl ⟨by rfl, fun w_ hw_ => by go_simp⟩) hch1 ?_
  refine wpAnyH_take (i := 22) (v := .bool true) rfl (by kernel_rfl) (by kernel_rfl) (by kernel_rfl) (by first | exact fun _ _ _ h => h | exact fun _ _ _ h => nomatch h.1) (Or.inl ⟨by rfl, fun w_ hw_ => by go_simp⟩) hch1 ?_
  refine wpAnyH_take (i := 23) (v := .bool true) rfl (by kernel_rfl) (by kernel_rfl) (by kernel_rfl) (by first | exact fun _ _ _ h => h | exact fun _ _ _ h => nomatch h.1) (Or.inl ⟨by rfl, fun w_ hw_ => by go_simp⟩) hch1 ?_
  refine wpAnyH_take (i := 24) (v := .bool true) rfl (by kernel_rfl) (by kernel_rfl) (by kernel_rfl) (by first | exact fun _ _ _ h => h | exact fun _ _ _ h => nomatch h.1) (Or.inl ⟨by rfl, fun w_ hw_ => by go_simp⟩) hch1 ?_
  refine wpAnyH_take (i := 25) (v := .agg (u8s HH).toArray) rfl (by kernel_rfl) (by kernel_rfl) (by kernel_rfl) (by first | exact fun _ _ _ h => h | exact fun _ _ _ h => nomatch h.1) (yieldsIf_load_mid (by rfl) 25 _ rfl w3.heap.size 0 rfl (u8s HH) _ (fun w' hw' => (HRH.out.chg hw' (fun h => h)).range) Tryd.underlying25 rfl (by rw [u8s_length, HHL.out]; exact size25)) hch1 ?_
  try simp only [Act.put, List.setIfInBounds_toArray, List.set_cons_zero, List.set_cons_succ, List.getElem_toArray, List.getElem_cons_succ, List.getElem_cons_zero]
  try simp only [Act.put, List.setIfInBounds_toArray, List.set_cons_zero, List.set_cons_succ, List.getElem_toArray, List.getElem_cons_succ, List.getElem_cons_zero]
  refine wpAnyH_ready (rs := [26]) (by kernel_rfl) (by simp) ?_
  refine AllReadyH.cons rfl (fun K hK => ?_) AllReadyH.nil
  rw [if_pos (by rfl)]
  try simp only [Act.put, List.setIfInBounds_toArray, List.set_cons_zero, List.set_cons_succ, List.getElem_toArray, List.getElem_cons_succ, List.getElem_cons_zero]
  go_simp
  refine (HEXP.out _ (HDW.out.trans hch1)).mono ?_
  rintro e x2 ⟨A2, c2, rfl, hcx2⟩
  have hch2 : Chg none_ w12 x2 := hch1.trans hcx2
  refine hK.out _ _ (hch2) (fun _ => ?_)
  clear hK K
  try simp only [Act.put, List.setIfInBounds_toArray, List.set_cons_zero, List.set_cons_succ, List.getElem_toArray, List.getElem_cons_succ, List.getElem_cons_zero]
  refine wpAnyH_take (i := 27) (v := .int .i64 40) rfl (by kernel_rfl) (by kernel_rfl) (by kernel_rfl) (by first | exact fun _ _ _ h => h | exact fun _ _ _ h => nomatch h.1) (Or.inl ⟨by rfl, fun w_ hw_ => by go_simp⟩) hch2 ?_
  refine wpAnyH_take (i := 28) (v := .bool true) rfl (by kernel_rfl) (by kernel_rfl) (by kernel_rfl) (by first | exact fun _ _ _ h => h | exact fun _ _ _ h => nomatch h.1) (Or.inl ⟨by rfl, fun w_ hw_ => by go_simp⟩) hch2 ?_
  refine wpAnyH_take (i := 29) (v := .bool true) rfl (by kernel_rfl) (by kernel_rfl) (by kernel_rfl) (by first | exact fun _ _ _ h => h | exact fun _ _ _ h => nomatch h.1) (Or.inl ⟨by rfl, fun w_ hw_ => by go_simp⟩) hch2 ?_
  refine wpAnyH_take (i := 30) (v := .bool true) rfl (by kernel_rfl) (by kernel_rfl) (by kernel_rfl) (by first | exact fun _ _ _ h => h | exact fun _ _ _ h => nomatch h.1) (Or.inl ⟨by rfl, fun w_ hw_ => by go_simp⟩) hch2 ?_
  refine wpAnyH_take (i := 36) (v := .agg (u8s TT).toArray) rfl (by kernel_rfl) (by kernel_rfl) (by kernel_rfl) (by first | exact fun _ _ _ h => h | exact fun _ _ _ h => nomatch h.1) (yieldsIf_load_mid (by rfl) 25 _ rfl w10.heap.size 0 rfl (u8s TT) _ (fun w' hw' => (HRT.out.chg hw' (fun h => h)).range) Tryd.underlying25 rfl (by rw [u8s_length, TTL.out]; exact size25)) hch2 ?_
  try simp only [Act.put, List.setIfInBounds_toArray, List.set_cons_zero, List.set_cons_succ, List.getElem_toArray, List.getElem_cons_succ, List.getElem_cons_zero]
  try simp only [Act.put, List.setIfInBounds_toArray, List.set_cons_zero, List.set_cons_succ, List.getElem_toArray, List.getElem_cons_succ, List.getElem_cons_zero]
  have hzz0 := hch2.size
  refine wpAnyH_ready (rs := [31, 33]) (by kernel_rfl) (by simp) ?_
  refine AllReadyH.cons rfl (fun K hK => ?_) (AllReadyH.cons rfl (fun K hK => ?_) AllReadyH.nil)
  · rw [if_pos (by rfl)]
    try simp only [Act.put, List.setIfInBounds_toArray, List.set_cons_zero, List.set_cons_succ, List.getElem_toArray, List.getElem_cons_succ, List.getElem_cons_zero]
    refine wp_new_row (v := fun g => .slice (some ⟨g, 0, none⟩) 4 4) (e := 5) (cs := [.int .u8 74, .int .u8 101, .int .u8 102, .int .u8 101]) (fun w_ => by go_simp) ?_
    intro z1 hro1 hst1 hsz1
    clear hsz1
    have hlt1 := hro1.lt
    have hcu1 : Chg none_ w12 z1 := hch2.trans hst1
    have hzz1 := hst1.size
    refine hK.out _ _ hcu1 (fun _ => ?_)
    clear hK K
    try simp only [Act.put, List.setIfInBounds_toArray, List.set_cons_zero, List.set_cons_succ, List.getElem_toArray, List.getElem_cons_succ, List.getElem_cons_zero]
    refine wpAnyH_ready (rs := [32, 33]) (by kernel_rfl) (by simp) ?_
    refine AllReadyH.cons rfl (fun K hK => ?_) (AllReadyH.cons rfl (fun K hK => ?_) AllReadyH.nil)
    · rw [if_pos (by rfl)]
      try simp only [Act.put, List.setIfInBounds_toArray, List.set_cons_zero, List.set_cons_succ, List.getElem_toArray, List.getElem_cons_succ, List.getElem_cons_zero]
      refine wp_bytes_mark rfl rfl Tryd.underlying22 Tryd.underlying5 (hro1) ?_
      intro z2 hvi2 hst2 hsz2
      clear hsz2
      have hcu2 : Chg none_ w12 z2 := hcu1.andThen hst2 (fun b h e => by have h1 := (hro1).lt; have h2 := (hch2).size; skip; omega)
      have hzz2 := hst2.size
      refine hK.out _ _ hcu2 (fun _ => ?_)
      clear hK K
      try simp only [Act.put, List.setIfInBounds_toArray, List.set_cons_zero, List.set_cons_succ, List.getElem_toArray, List.getElem_cons_succ, List.getElem_cons_zero]
      refine wpAnyH_ready (rs := [33]) (by kernel_rfl) (by simp) ?_
      refine AllReadyH.cons rfl (fun K hK => ?_) AllReadyH.nil
      rw [if_pos (by rfl)]
      try simp only [Act.put, List.setIfInBounds_toArray, List.set_cons_zero, List.set_cons_succ, List.getElem_toArray, List.getElem_cons_succ, List.getElem_cons_zero]
      refine wp_new_row (v := fun g => .slice (some ⟨g, 0, none⟩) 28 28) (e := 5) (cs := [.int .u8 119, .int .u8 104, .int .u8 97, .int .u8 116, .int .u8 32, .int .u8 100, .int .u8 111, .int .u8 32, .int .u8 121, .int .u8 97, .int .u8 32, .int .u8 119, .int .u8 97, .int .u8 110, .int .u8 116, .int .u8 32, .int .u8 102, .int .u8 111, .int .u8 114, .int .u8 32, .int .u8 110, .int .u8 111, .int .u8 116, .int .u8 104, .int .u8 105, .int .u8 110, .int .u8 103, .int .u8 63]) (fun w_ => by go_simp) ?_
      intro z3 hro3 hst3 hsz3
      clear hsz3
      have hlt3 := hro3.lt
      have hcu3 : Chg none_ w12 z3 := hcu2.trans hst3
      have hzz3 := hst3.size
      refine hK.out _ _ hcu3 (fun _ => ?_)
      clear hK K
      try simp only [Act.put, List.setIfInBounds_toArray, List.set_cons_zero, List.set_cons_succ, List.getElem_toArray, List.getElem_cons_succ, List.getElem_cons_zero]
      refine wpAnyH_ready (rs := [34]) (by kernel_rfl) (by simp) ?_
      refine AllReadyH.cons rfl (fun K hK => ?_) AllReadyH.nil
      rw [if_pos (by rfl)]
      try simp only [Act.put, List.setIfInBounds_toArray, List.set_cons_zero, List.set_cons_succ, List.getElem_toArray, List.getElem_cons_succ, List.getElem_cons_zero]
      refine wp_bytes_mark rfl rfl Tryd.underlying22 Tryd.underlying5 (hro3) ?_
      intro z4 hvi4 hst4 hsz4
      clear hsz4
      have hcu4 : Chg none_ w12 z4 := hcu3.andThen hst4 (fun b h e => by have h1 := (hro3).lt; have h2 := (hch2).size; skip; omega)
      have hzz4 := hst4.size
      refine hK.out _ _ hcu4 (fun _ => ?_)
      clear hK K
      try simp only [Act.put, List.setIfInBounds_toArray, List.set_cons_zero, List.set_cons_succ, List.getElem_toArray, List.getElem_cons_succ, List.getElem_cons_zero]
      refine wpAnyH_ready (rs := [35]) (by kernel_rfl) (by simp) ?_
      refine AllReadyH.cons rfl (fun K hK => ?_) AllReadyH.nil
      rw [if_pos (by rfl)]
      try simp only [Act.put, List.setIfInBounds_toArray, List.set_cons_zero, List.set_cons_succ, List.getElem_toArray, List.getElem_cons_succ, List.getElem_cons_zero]
      go_simp
      refine (HEXT.out _ _ _ _ _ (((hvi2.chg hst3 (fun _ _ h => h)).chg hst4 (fun b h e => by skip; omega))) (hvi4) (HDW.out.trans hcu4)).mono ?_
      rintro e y1 ⟨rfl, hcy1⟩
      have hchy : Chg none_ w12 y1 := hcu4.trans hcy1
      refine hK.out _ _ hchy (fun _ => ?_)
      clear hK K
      try simp only [Act.put, List.setIfInBounds_toArray, List.set_cons_zero, List.set_cons_succ, List.getElem_toArray, List.getElem_cons_succ, List.getElem_cons_zero]
      refine wpAnyH_take (i := 37) (v := .bool true) rfl (by kernel_rfl) (by kernel_rfl) (by kernel_rfl) (by first | exact fun _ _ _ h => h | exact fun _ _ _ h => nomatch h.1) (yieldsIf_eql (by rfl) 25 _ _ _ rfl (u8s TT).toArray (u8s TT).toArray rfl rfl true (fun w => run_eqGuard_agg w .eql 25 _ _ _ _ Tryd.eqGuardType25) (fun w _ => HEQ.out w)) hchy ?_
      try simp only [Act.put, List.setIfInBounds_toArray, List.set_cons_zero, List.set_cons_succ, List.getElem_toArray, List.getElem_cons_succ, List.getElem_cons_zero]
      refine wpAnyH_take (i := 38) (v := .bool true) rfl (by kernel_rfl) (by kernel_rfl) (by kernel_rfl) (by first | exact fun _ _ _ h => h | exact fun _ _ _ h => nomatch h.1) (Or.inl ⟨by rfl, fun w_ hw_ => by go_simp⟩) hchy ?_
      refine wpAnyH_take (i := 39) (v := .bool true) rfl (by kernel_rfl) (by kernel_rfl) (by kernel_rfl) (by first | exact fun _ _ _ h => h | exact fun _ _ _ h => nomatch h.1) (Or.inl ⟨by rfl, fun w_ hw_ => by go_simp⟩) hchy ?_
      try simp only [Act.put, List.setIfInBounds_toArray, List.set_cons_zero, List.set_cons_succ, List.getElem_toArray, List.getElem_cons_succ, List.getElem_cons_zero]
      refine wpAnyH_done (by kernel_rfl) ?_ _
      go_wp2
      go_ret
      exact ⟨rfl, HDW.out.trans hchy⟩
    · rw [if_pos (by rfl)]
      try simp only [Act.put, List.setIfInBounds_toArray, List.set_cons_zero, List.set_cons_succ, List.getElem_toArray, List.getElem_cons_succ, List.getElem_cons_zero]
      refine wp_new_row (v := fun g => .slice (some ⟨g, 0, none⟩) 28 28) (e := 5) (cs := [.int .u8 119, .int .u8 104, .int .u8 97, .int .u8 116, .int .u8 32, .int .u8 100, .int .u8 111, .int .u8 32, .int .u8 121, .int .u8 97, .int .u8 32, .int .u8 119, .int .u8 97, .int .u8 110, .int .u8 116, .int .u8 32, .int .u8 102, .int .u8 111, .int .u8 114, .int .u8 32, .int .u8 110, .int .u8 111, .int .u8 116, .int .u8 104, .int .u8 105, .int .u8 110, .int .u8 103, .int .u8 63]) (fun w_ => by go_simp) ?_
      intro z2 hro2 hst2 hsz2
      clear hsz2
      have hlt2 := hro2.lt
      have hcu2 : Chg none_ w12 z2 := hcu1.trans hst2
      have hzz2 := hst2.size
      refine hK.out _ _ hcu2 (fun _ => ?_)
      clear hK K
      try simp only [Act.put, List.setIfInBounds_toArray, List.set_cons_zero, List.set_cons_succ, List.getElem_toArray, List.getElem_cons_succ, List.getElem_cons_zero]
      refine wpAnyH_ready (rs := [32, 34]) (by kernel_rfl) (by simp) ?_
      refine AllReadyH.cons rfl (fun K hK => ?_) (AllReadyH.cons rfl (fun K hK => ?_) AllReadyH.nil)
      · rw [if_pos (by rfl)]
        try simp only [Act.put, List.setIfInBounds_toArray, List.set_cons_zero, List.set_cons_succ, List.getElem_toArray, List.getElem_cons_succ, List.getElem_cons_zero]
        refine wp_bytes_mark rfl rfl Tryd.underlying22 Tryd.underlying5 ((hro1.chg hst2 (fun h => h))) ?_
        intro z3 hvi3 hst3 hsz3
        clear hsz3
        have hcu3 : Chg none_ w12 z3 := hcu2.andThen hst3 (fun b h e => by have h1 := ((hro1.chg hst2 (fun h => h))).lt; have h2 := (hch2).size; skip; omega)
        have hzz3 := hst3.size
        refine hK.out _ _ hcu3 (fun _ => ?_)
        clear hK K
        try simp only [Act.put, List.setIfInBounds_toArray, List.set_cons_zero, List.set_cons_succ, List.getElem_toArray, List.getElem_cons_succ, List.getElem_cons_zero]
        refine wpAnyH_ready (rs := [34]) (by kernel_rfl) (by simp) ?_
        refine AllReadyH.cons rfl (fun K hK => ?_) AllReadyH.nil
        rw [if_pos (by rfl)]
        try simp only [Act.put, List.setIfInBounds_toArray, List.set_cons_zero, List.set_cons_succ, List.getElem_toArray, List.getElem_cons_succ, List.getElem_cons_zero]
        refine wp_bytes_mark rfl rfl Tryd.underlying22 Tryd.underlying5 ((hro2.chg hst3 (by skip; omega))) ?_
        intro z4 hvi4 hst4 hsz4
        clear hsz4
        have hcu4 : Chg none_ w12 z4 := hcu3.andThen hst4 (fun b h e => by have h1 := ((hro2.chg hst3 (by skip; omega))).lt; have h2 := (hch2).size; skip; omega)
        have hzz4 := hst4.size
        refine hK.out _ _ hcu4 (fun _ => ?_)
        clear hK K
        try simp only [Act.put, List.setIfInBounds_toArray, List.set_cons_zero, List.set_cons_succ, List.getElem_toArray, List.getElem_cons_succ, List.getElem_cons_zero]
        refine wpAnyH_ready (rs := [35]) (by kernel_rfl) (by simp) ?_
        refine AllReadyH.cons rfl (fun K hK => ?_) AllReadyH.nil
        rw [if_pos (by rfl)]
        try simp only [Act.put, List.setIfInBounds_toArray, List.set_cons_zero, List.set_cons_succ, List.getElem_toArray, List.getElem_cons_succ, List.getElem_cons_zero]
        go_simp
        refine (HEXT.out _ _ _ _ _ ((hvi3.chg hst4 (fun b h e => by skip; omega))) (hvi4) (HDW.out.trans hcu4)).mono ?_
        rintro e y1 ⟨rfl, hcy1⟩
        have hchy : Chg none_ w12 y1 := hcu4.trans hcy1
        refine hK.out _ _ hchy (fun _ => ?_)
        clear hK K
        try simp only [Act.put, List.setIfInBounds_toArray, List.set_cons_zero, List.set_cons_succ, List.getElem_toArray, List.getElem_cons_succ, List.getElem_cons_zero]
        refine wpAnyH_take (i := 37) (v := .bool true) rfl (by kernel_rfl) (by kernel_rfl) (by kernel_rfl) (by first | exact fun _ _ _ h => h | exact fun _ _ _ h => nomatch h.1) (yieldsIf_eql (by rfl) 25 _ _ _ rfl (u8s TT).toArray (u8s TT).toArray rfl rfl true (fun w => run_eqGuard_agg w .eql 25 _ _ _ _ Tryd.eqGuardType25) (fun w _ => HEQ.out w)) hchy ?_
        try simp only [Act.put, List.setIfInBounds_toArray, List.set_cons_zero, List.set_cons_succ, List.getElem_toArray, List.getElem_cons_succ, List.getElem_cons_zero]
        refine wpAnyH_take (i := 38) (v := .bool true) rfl (by kernel_rfl) (by kernel_rfl) (by kernel_rfl) (by first | exact fun _ _ _ h => h | exact fun _ _ _ h => nomatch h.1) (Or.inl ⟨by rfl, fun w_ hw_ => by go_simp⟩) hchy ?_
        refine wpAnyH_take (i := 39) (v := .bool true) rfl (by kernel_rfl) (by kernel_rfl) (by kernel_rfl) (by first | exact fun _ _ _ h => h | exact fun _ _ _ h => nomatch h.1) (Or.inl ⟨by rfl, fun w_ hw_ => by go_simp⟩) hchy ?_
        try simp only [Act.put, List.setIfInBounds_toArray, List.set_cons_zero, List.set_cons_succ, List.getElem_toArray, List.getElem_cons_succ, List.getElem_cons_zero]
        refine wpAnyH_done (by kernel_rfl) ?_ _
        go_wp2
        go_ret
        exact ⟨rfl, HDW.out.trans hchy⟩
      · rw [if_pos (by rfl)]
        try simp only [Act.put, List.setIfInBounds_toArray, List.set_cons_zero, List.set_cons_succ, List.getElem_toArray, List.getElem_cons_succ, List.getElem_cons_zero]
        refine wp_bytes_mark rfl rfl Tryd.underlying22 Tryd.underlying5 (hro2) ?_
        intro z3 hvi3 hst3 hsz3
        clear hsz3
        have hcu3 : Chg none_ w12 z3 := hcu2.andThen hst3 (fun b h e => by have h1 := (hro2).lt; have h2 := (hch2).size; skip; omega)
        have hzz3 := hst3.size
        refine hK.out _ _ hcu3 (fun _ => ?_)
        clear hK K
        try simp only [Act.put, List.setIfInBounds_toArray, List.set_cons_zero, List.set_cons_succ, List.getElem_toArray, List.getElem_cons_succ, List.getElem_cons_zero]
        refine wpAnyH_ready (rs := [32]) (by kernel_rfl) (by simp) ?_
        refine AllReadyH.cons rfl (fun K hK => ?_) AllReadyH.nil
        rw [if_pos (by rfl)]
        try simp only [Act.put, List.setIfInBounds_toArray, List.set_cons_zero, List.set_cons_succ, List.getElem_toArray, List.getElem_cons_succ, List.getElem_cons_zero]
        refine wp_bytes_mark rfl rfl Tryd.underlying22 Tryd.underlying5 (((hro1.chg hst2 (fun h => h)).chg hst3 (by skip; omega))) ?_
        intro z4 hvi4 hst4 hsz4
        clear hsz4
        have hcu4 : Chg none_ w12 z4 := hcu3.andThen hst4 (fun b h e => by have h1 := (((hro1.chg hst2 (fun h => h)).chg hst3 (by skip; omega))).lt; have h2 := (hch2).size; skip; omega)
        have hzz4 := hst4.size
        refine hK.out _ _ hcu4 (fun _ => ?_)
        clear hK K
        try simp only [Act.put, List.setIfInBounds_toArray, List.set_cons_zero, List.set_cons_succ, List.getElem_toArray, List.getElem_cons_succ, List.getElem_cons_zero]
        refine wpAnyH_ready (rs := [35]) (by kernel_rfl) (by simp) ?_
        refine AllReadyH.cons rfl (fun K hK => ?_) AllReadyH.nil
        rw [if_pos (by rfl)]
        try simp only [Act.put, List.setIfInBounds_toArray, List.set_cons_zero, List.set_cons_succ, List.getElem_toArray, List.getElem_cons_succ, List.getElem_cons_zero]
        go_simp
        refine (HEXT.out _ _ _ _ _ (hvi4) ((hvi3.chg hst4 (fun b h e => by skip; omega))) (HDW.out.trans hcu4)).mono ?_
        rintro e y1 ⟨rfl, hcy1⟩
        have hchy : Chg none_ w12 y1 := hcu4.trans hcy1
        refine hK.out _ _ hchy (fun _ => ?_)
        clear hK K
        try simp only [Act.put, List.setIfInBounds_toArray, List.set_cons_zero, List.set_cons_succ, List.getElem_toArray, List.getElem_cons_succ, List.getElem_cons_zero]
        refine wpAnyH_take (i := 37) (v := .bool true) rfl (by kernel_rfl) (by kernel_rfl) (by kernel_rfl) (by first | exact fun _ _ _ h => h | exact fun _ _ _ h => nomatch h.1) (yieldsIf_eql (by rfl) 25 _ _ _ rfl (u8s TT).toArray (u8s TT).toArray rfl rfl true (fun w => run_eqGuard_agg w .eql 25 _ _ _ _ Tryd.eqGuardType25) (fun w _ => HEQ.out w)) hchy ?_
        try simp only [Act.put, List.setIfInBounds_toArray, List.set_cons_zero, List.set_cons_succ, List.getElem_toArray, List.getElem_cons_succ, List.getElem_cons_zero]
        refine wpAnyH_take (i := 38) (v := .bool true) rfl (by kernel_rfl) (by kernel_rfl) (by kernel_rfl) (by first | exact fun _ _ _ h => h | exact fun _ _ _ h => nomatch h.1) (Or.inl ⟨by rfl, fun w_ hw_ => by go_simp⟩) hchy ?_
        refine wpAnyH_take (i := 39) (v := .bool true) rfl (by kernel_rfl) (by kernel_rfl) (by kernel_rfl) (by first | exact fun _ _ _ h => h | exact fun _ _ _ h => nomatch h.1) (Or.inl ⟨by rfl, fun w_ hw_ => by go_simp⟩) hchy ?_
        try simp only [Act.put, List.setIfInBounds_toArray, List.set_cons_zero, List.set_cons_succ, List.getElem_toArray, List.getElem_cons_succ, List.getElem_cons_zero]
        refine wpAnyH_done (by kernel_rfl) ?_ _
        go_wp2
        go_ret
        exact ⟨rfl, HDW.out.trans hchy⟩
  · rw [if_pos (by rfl)]
    try simp only [Act.put, List.setIfInBounds_toArray, List.set_cons_zero, List.set_cons_succ, List.getElem_toArray, List.getElem_cons_succ, List.getElem_cons_zero]
    refine wp_new_row (v := fun g => .slice (some ⟨g, 0, none⟩) 28 28) (e := 5) (cs := [.int .u8 119, .int .u8 104, .int .u8 97, .int .u8 116, .int .u8 32, .int .u8 100, .int .u8 111, .int .u8 32, .int .u8 121, .int .u8 97, .int .u8 32, .int .u8 119, .int .u8 97, .int .u8 110, .int .u8 116, .int .u8 32, .int .u8 102, .int .u8 111, .int .u8 114, .int .u8 32, .int .u8 110, .int .u8 111, .int .u8 116, .int .u8 104, .int .u8 105, .int .u8 110, .int .u8 103, .int .u8 63]) (fun w_ => by go_simp) ?_
    intro z1 hro1 hst1 hsz1
    clear hsz1
    have hlt1 := hro1.lt
    have hcu1 : Chg none_ w12 z1 := hch2.trans hst1
    have hzz1 := hst1.size
    refine hK.out _ _ hcu1 (fun _ => ?_)
    clear hK K
    try simp only [Act.put, List.setIfInBounds_toArray, List.set_cons_zero, List.set_cons_succ, List.getElem_toArray, List.getElem_cons_succ, List.getElem_cons_zero]
    refine wpAnyH_ready (rs := [31, 34]) (by kernel_rfl) (by simp) ?_
    refine AllReadyH.cons rfl (fun K hK => ?_) (AllReadyH.cons rfl (fun K hK => ?_) AllReadyH.nil)
    · rw [if_pos (by rfl)]
      try simp only [Act.put, List.setIfInBounds_toArray, List.set_cons_zero, List.set_cons_succ, List.getElem_toArray, List.getElem_cons_succ, List.getElem_cons_zero]
      refine wp_new_row (v := fun g => .slice (some ⟨g, 0, none⟩) 4 4) (e := 5) (cs := [.int .u8 74, .int .u8 101, .int .u8 102, .int .u8 101]) (fun w_ => by go_simp) ?_
      intro z2 hro2 hst2 hsz2
      clear hsz2
      have hlt2 := hro2.lt
      have hcu2 : Chg none_ w12 z2 := hcu1.trans hst2
      have hzz2 := hst2.size
      refine hK.out _ _ hcu2 (fun _ => ?_)
      clear hK K
      try simp only [Act.put, List.setIfInBounds_toArray, List.set_cons_zero, List.set_cons_succ, List.getElem_toArray, List.getElem_cons_succ, List.getElem_cons_zero]
      refine wpAnyH_ready (rs := [32, 34]) (by kernel_rfl) (by simp) ?_
      refine AllReadyH.cons rfl (fun K hK => ?_) (AllReadyH.cons rfl (fun K hK => ?_) AllReadyH.nil)
      · rw [if_pos (by rfl)]
        try simp only [Act.put, List.setIfInBounds_toArray, List.set_cons_zero, List.set_cons_succ, List.getElem_toArray, List.getElem_cons_succ, List.getElem_cons_zero]
        refine wp_bytes_mark rfl rfl Tryd.underlying22 Tryd.underlying5 (hro2) ?_
        intro z3 hvi3 hst3 hsz3
        clear hsz3
        have hcu3 : Chg none_ w12 z3 := hcu2.andThen hst3 (fun b h e => by have h1 := (hro2).lt; have h2 := (hch2).size; skip; omega)
        have hzz3 := hst3.size
        refine hK.out _ _ hcu3 (fun _ => ?_)
        clear hK K
        try simp only [Act.put, List.setIfInBounds_toArray, List.set_cons_zero, List.set_cons_succ, List.getElem_toArray, List.getElem_cons_succ, List.getElem_cons_zero]
        refine wpAnyH_ready (rs := [34]) (by kernel_rfl) (by simp) ?_
        refine AllReadyH.cons rfl (fun K hK => ?_) AllReadyH.nil
        rw [if_pos (by rfl)]
        try simp only [Act.put, List.setIfInBounds_toArray, List.set_cons_zero, List.set_cons_succ, List.getElem_toArray, List.getElem_cons_succ, List.getElem_cons_zero]
        refine wp_bytes_mark rfl rfl Tryd.underlying22 Tryd.underlying5 (((hro1.chg hst2 (fun h => h)).chg hst3 (by skip; omega))) ?_
        intro z4 hvi4 hst4 hsz4
        clear hsz4
        have hcu4 : Chg none_ w12 z4 := hcu3.andThen hst4 (fun b h e => by have h1 := (((hro1.chg hst2 (fun h => h)).chg hst3 (by skip; omega))).lt; have h2 := (hch2).size; skip; omega)
        have hzz4 := hst4.size
        refine hK.out _ _ hcu4 (fun _ => ?_)
        clear hK K
        try simp only [Act.put, List.setIfInBounds_toArray, List.set_cons_zero, List.set_cons_succ, List.getElem_toArray, List.getElem_cons_succ, List.getElem_cons_zero]
        refine wpAnyH_ready (rs := [35]) (by kernel_rfl) (by simp) ?_
        refine AllReadyH.cons rfl (fun K hK => ?_) AllReadyH.nil
        rw [if_pos (by rfl)]
        try simp only [Act.put, List.setIfInBounds_toArray, List.set_cons_zero, List.set_cons_succ, List.getElem_toArray, List.getElem_cons_succ, List.getElem_cons_zero]
        go_simp
        refine (HEXT.out _ _ _ _ _ ((hvi3.chg hst4 (fun b h e => by skip; omega))) (hvi4) (HDW.out.trans hcu4)).mono ?_
        rintro e y1 ⟨rfl, hcy1⟩
        have hchy : Chg none_ w12 y1 := hcu4.trans hcy1
        refine hK.out _ _ hchy (fun _ => ?_)
        clear hK K
        try simp only [Act.put, List.setIfInBounds_toArray, List.set_cons_zero, List.set_cons_succ, List.getElem_toArray, List.getElem_cons_succ, List.getElem_cons_zero]
        refine wpAnyH_take (i := 37) (v := .bool true) rfl (by kernel_rfl) (by kernel_rfl) (by kernel_rfl) (by first | exact fun _ _ _ h => h | exact fun _ _ _ h => nomatch h.1) (yieldsIf_eql (by rfl) 25 _ _ _ rfl (u8s TT).toArray (u8s TT).toArray rfl rfl true (fun w => run_eqGuard_agg w .eql 25 _ _ _ _ Tryd.eqGuardType25) (fun w _ => HEQ.out w)) hchy ?_
        try simp only [Act.put, List.setIfInBounds_toArray, List.set_cons_zero, List.set_cons_succ, List.getElem_toArray, List.getElem_cons_succ, List.getElem_cons_zero]
        refine wpAnyH_take (i := 38) (v := .bool true) rfl (by kernel_rfl) (by kernel_rfl) (by kernel_rfl) (by first | exact fun _ _ _ h => h | exact fun _ _ _ h => nomatch h.1) (Or.inl ⟨by rfl, fun w_ hw_ => by go_simp⟩) hchy ?_
        refine wpAnyH_take (i := 39) (v := .bool true) rfl (by kernel_rfl) (by kernel_rfl) (by kernel_rfl) (by first | exact fun _ _ _ h => h | exact fun _ _ _ h => nomatch h.1) (Or.inl ⟨by rfl, fun w_ hw_ => by go_simp⟩) hchy ?_
        try simp only [Act.put, List.setIfInBounds_toArray, List.set_cons_zero, List.set_cons_succ, List.getElem_toArray, List.getElem_cons_succ, List.getElem_cons_zero]
        refine wpAnyH_done (by kernel_rfl) ?_ _
        go_wp2
        go_ret
        exact ⟨rfl, HDW.out.trans hchy⟩
      · rw [if_pos (by rfl)]
        try simp only [Act.put, List.setIfInBounds_toArray, List.set_cons_zero, List.set_cons_succ, List.getElem_toArray, List.getElem_cons_succ, List.getElem_cons_zero]
        refine wp_bytes_mark rfl rfl Tryd.underlying22 Tryd.underlying5 ((hro1.chg hst2 (fun h => h))) ?_
        intro z3 hvi3 hst3 hsz3
        clear hsz3
        have hcu3 : Chg none_ w12 z3 := hcu2.andThen hst3 (fun b h e => by have h1 := ((hro1.chg hst2 (fun h => h))).lt; have h2 := (hch2).size; skip; omega)
        have hzz3 := hst3.size
        refine hK.out _ _ hcu3 (fun _ => ?_)
        clear hK K
        try simp only [Act.put, List.setIfInBounds_toArray, List.set_cons_zero, List.set_cons_succ, List.getElem_toArray, List.getElem_cons_succ, List.getElem_cons_zero]
        refine wpAnyH_ready (rs := [32]) (by kernel_rfl) (by simp) ?_
        refine AllReadyH.cons rfl (fun K hK => ?_) AllReadyH.nil
        rw [if_pos (by rfl)]
        try simp only [Act.put, List.setIfInBounds_toArray, List.set_cons_zero, List.set_cons_succ, List.getElem_toArray, List.getElem_cons_succ, List.getElem_cons_zero]
        refine wp_bytes_mark rfl rfl Tryd.underlying22 Tryd.underlying5 ((hro2.chg hst3 (by skip; omega))) ?_
        intro z4 hvi4 hst4 hsz4
        clear hsz4
        have hcu4 : Chg none_ w12 z4 := hcu3.andThen hst4 (fun b h e => by have h1 := ((hro2.chg hst3 (by skip; omega))).lt; have h2 := (hch2).size; skip; omega)
        have hzz4 := hst4.size
        refine hK.out _ _ hcu4 (fun _ => ?_)
        clear hK K
        try simp only [Act.put, List.setIfInBounds_toArray, List.set_cons_zero, List.set_cons_succ, List.getElem_toArray, List.getElem_cons_succ, List.getElem_cons_zero]
        refine wpAnyH_ready (rs := [35]) (by kernel_rfl) (by simp) ?_
        refine AllReadyH.cons rfl (fun K hK => ?_) AllReadyH.nil
        rw [if_pos (by rfl)]
        try simp only [Act.put, List.setIfInBounds_toArray, List.set_cons_zero, List.set_cons_succ, List.getElem_toArray, List.getElem_cons_succ, List.getElem_cons_zero]
        go_simp
        refine (HEXT.out _ _ _ _ _ (hvi4) ((hvi3.chg hst4 (fun b h e => by skip; omega))) (HDW.out.trans hcu4)).mono ?_
        rintro e y1 ⟨rfl, hcy1⟩
        have hchy : Chg none_ w12 y1 := hcu4.trans hcy1
        refine hK.out _ _ hchy (fun _ => ?_)
        clear hK K
        try simp only [Act.put, List.setIfInBounds_toArray, List.set_cons_zero, List.set_cons_succ, List.getElem_toArray, List.getElem_cons_succ, List.getElem_cons_zero]
        refine wpAnyH_take (i := 37) (v := .bool true) rfl (by kernel_rfl) (by kernel_rfl) (by kernel_rfl) (by first | exact fun _ _ _ h => h | exact fun _ _ _ h => nomatch h.1) (yieldsIf_eql (by rfl) 25 _ _ _ rfl (u8s TT).toArray (u8s TT).toArray rfl rfl true (fun w => run_eqGuard_agg w .eql 25 _ _ _ _ Tryd.eqGuardType25) (fun w _ => HEQ.out w)) hchy ?_
        try simp only [Act.put, List.setIfInBounds_toArray, List.set_cons_zero, List.set_cons_succ, List.getElem_toArray, List.getElem_cons_succ, List.getElem_cons_zero]
        refine wpAnyH_take (i := 38) (v := .bool true) rfl (by kernel_rfl) (by kernel_rfl) (by kernel_rfl) (by first | exact fun _ _ _ h => h | exact fun _ _ _ h => nomatch h.1) (Or.inl ⟨by rfl, fun w_ hw_ => by go_simp⟩) hchy ?_
        refine wpAnyH_take (i := 39) (v := .bool true) rfl (by kernel_rfl) (by kernel_rfl) (by kernel_rfl) (by first | exact fun _ _ _ h => h | exact fun _ _ _ h => nomatch h.1) (Or.inl ⟨by rfl, fun w_ hw_ => by go_simp⟩) hchy ?_
        try simp only [Act.put, List.setIfInBounds_toArray, List.set_cons_zero, List.set_cons_succ, List.getElem_toArray, List.getElem_cons_succ, List.getElem_cons_zero]
        refine wpAnyH_done (by kernel_rfl) ?_ _
        go_wp2
        go_ret
        exact ⟨rfl, HDW.out.trans hchy⟩
    · rw [if_pos (by rfl)]
      try simp only [Act.put, List.setIfInBounds_toArray, List.set_cons_zero, List.set_cons_succ, List.getElem_toArray, List.getElem_cons_succ, List.getElem_cons_zero]
      refine wp_bytes_mark rfl rfl Tryd.underlying22 Tryd.underlying5 (hro1) ?_
      intro z2 hvi2 hst2 hsz2
      clear hsz2
      have hcu2 : Chg none_ w12 z2 := hcu1.andThen hst2 (fun b h e => by have h1 := (hro1).lt; have h2 := (hch2).size; skip; omega)
      have hzz2 := hst2.size
      refine hK.out _ _ hcu2 (fun _ => ?_)
      clear hK K
      try simp only [Act.put, List.setIfInBounds_toArray, List.set_cons_zero, List.set_cons_succ, List.getElem_toArray, List.getElem_cons_succ, List.getElem_cons_zero]
      refine wpAnyH_ready (rs := [31]) (by kernel_rfl) (by simp) ?_
      refine AllReadyH.cons rfl (fun K hK => ?_) AllReadyH.nil
      rw [if_pos (by rfl)]
      try simp only [Act.put, List.setIfInBounds_toArray, List.set_cons_zero, List.set_cons_succ, List.getElem_toArray, List.getElem_cons_succ, List.getElem_cons_zero]
      refine wp_new_row (v := fun g => .slice (some ⟨g, 0, none⟩) 4 4) (e := 5) (cs := [.int .u8 74, .int .u8 101, .int .u8 102, .int .u8 101]) (fun w_ => by go_simp) ?_
      intro z3 hro3 hst3 hsz3
      clear hsz3
      have hlt3 := hro3.lt
      have hcu3 : Chg none_ w12 z3 := hcu2.trans hst3
      have hzz3 := hst3.size
      refine hK.out _ _ hcu3 (fun _ => ?_)
      clear hK K
      try simp only [Act.put, List.setIfInBounds_toArray, List.set_cons_zero, List.set_cons_succ, List.getElem_toArray, List.getElem_cons_succ, List.getElem_cons_zero]
      refine wpAnyH_ready (rs := [32]) (by kernel_rfl) (by simp) ?_
      refine AllReadyH.cons rfl (fun K hK => ?_) AllReadyH.nil
      rw [if_pos (by rfl)]
      try simp only [Act.put, List.setIfInBounds_toArray, List.set_cons_zero, List.set_cons_succ, List.getElem_toArray, List.getElem_cons_succ, List.getElem_cons_zero]
      refine wp_bytes_mark rfl rfl Tryd.underlying22 Tryd.underlying5 (hro3) ?_
      intro z4 hvi4 hst4 hsz4
      clear hsz4
      have hcu4 : Chg none_ w12 z4 := hcu3.andThen hst4 (fun b h e => by have h1 := (hro3).lt; have h2 := (hch2).size; skip; omega)
      have hzz4 := hst4.size
      refine hK.out _ _ hcu4 (fun _ => ?_)
      clear hK K
      try simp only [Act.put, List.setIfInBounds_toArray, List.set_cons_zero, List.set_cons_succ, List.getElem_toArray, List.getElem_cons_succ, List.getElem_cons_zero]
      refine wpAnyH_ready (rs := [35]) (by kernel_rfl) (by simp) ?_
      refine AllReadyH.cons rfl (fun K hK => ?_) AllReadyH.nil
      rw [if_pos (by rfl)]
      try simp only [Act.put, List.setIfInBounds_toArray, List.set_cons_zero, List.set_cons_succ, List.getElem_toArray, List.getElem_cons_succ, List.getElem_cons_zero]
      go_simp
      refine (HEXT.out _ _ _ _ _ (hvi4) (((hvi2.chg hst3 (fun _ _ h => h)).chg hst4 (fun b h e => by skip; omega))) (HDW.out.trans hcu4)).mono ?_
      rintro e y1 ⟨rfl, hcy1⟩
      have hchy : Chg none_ w12 y1 := hcu4.trans hcy1
      refine hK.out _ _ hchy (fun _ => ?_)
      clear hK K
      try simp only [Act.put, List.setIfInBounds_toArray, List.set_cons_zero, List.set_cons_succ, List.getElem_toArray, List.getElem_cons_succ, List.getElem_cons_zero]
      refine wpAnyH_take (i := 37) (v := .bool true) rfl (by kernel_rfl) (by kernel_rfl) (by kernel_rfl) (by first | exact fun _ _ _ h => h | exact fun _ _ _ h => nomatch h.1) (yieldsIf_eql (by rfl) 25 _ _ _ rfl (u8s TT).toArray (u8s TT).toArray rfl rfl true (fun w => run_eqGuard_agg w .eql 25 _ _ _ _ Tryd.eqGuardType25) (fun w _ => HEQ.out w)) hchy ?_
      try simp only [Act.put, List.setIfInBounds_toArray, List.set_cons_zero, List.set_cons_succ, List.getElem_toArray, List.getElem_cons_succ, List.getElem_cons_zero]
      refine wpAnyH_take (i := 38) (v := .bool true) rfl (by kernel_rfl) (by kernel_rfl) (by kernel_rfl) (by first | exact fun _ _ _ h => h | exact fun _ _ _ h => nomatch h.1) (Or.inl ⟨by rfl, fun w_ hw_ => by go_simp⟩) hchy ?_
      refine wpAnyH_take (i := 39) (v := .bool true) rfl (by kernel_rfl) (by kernel_rfl) (by kernel_rfl) (by first | exact fun _ _ _ h => h | exact fun _ _ _ h => nomatch h.1) (Or.inl ⟨by rfl, fun w_ hw_ => by go_simp⟩) hchy ?_
      try simp only [Act.put, List.setIfInBounds_toArray, List.set_cons_zero, List.set_cons_succ, List.getElem_toArray, List.getElem_cons_succ, List.getElem_cons_zero]
      refine wpAnyH_done (by kernel_rfl) ?_ _
      go_wp2
      go_ret
      exact ⟨rfl, HDW.out.trans hchy⟩
end Go.Proofs.YtodcjcpbigggfaaDoor
