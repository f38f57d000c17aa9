/- Layer 10 (keys): the walk of the law KeysAcross. -/
import Derived.Test.YtfpflhcabjcamaaDoorV10Grow2
namespace Go.Proofs.YtfpflhcabjcamaaDoor
open Go.RowKit

theorem zeroPast : (Tryd.prog.info? 39).map (·.zero) = some (some (.agg [.slice none 0 0, .slice none 0 0].toArray)) := by kernel_rfl

set_option maxRecDepth 100000 in
set_option maxHeartbeats 200000000 in
theorem walk_KeysAcross (A : Option Addr) (len cap : Nat) (zs : List Int) (A' : Option Addr) (len' cap' : Nat) (zs' : List Int) (Ab : Option Addr) (nl capl : Nat) (At : Option Addr) (lent capt : Nat) (zst : List Int) (W : World) (x0 : IsRow .u8 W A len cap zs) (x1 : IsRow .u8 W A' len' cap' zs') (hnl : nl ≤ maxLen) (hbl : ∀ i, i < nl → ∃ b o v, Ab = some ⟨b, o, none⟩ ∧ b < W.heap.size ∧ W.cell? ⟨b, o + i, none⟩ = some (.bool v)) (x3 : IsRow .u8 W At lent capt zst) (hK : KTab W) :
    Calls Tryd.prog 3 #[.slice A len cap, .slice A' len' cap', .slice Ab nl capl, .slice At lent capt] W fun e w' => e = .returned (.bool true) ∧ Chg none_ W w' := by
  obtain ⟨client, rfl, hcc, hcm, hclb, hcv⟩ := x0.u8
  obtain ⟨server, rfl, hsc, hsm, hsvb, hsv⟩ := x1.u8
  obtain ⟨text, rfl, htc, htm, htb, htv⟩ := x3.u8
  clear x0 x1 x3
  have HAL : Hid (∀ w, Chg none_ W w → Calls Tryd.prog 4 #[] w fun e w' => e = .returned (.bool true) ∧ Chg none_ w w') := Lib.hid (fun w hc => alive_any w (hK.chg hc))
  have hb1 : client.length ≤ 9223372036854775807 := by unfold maxLen at hcm; omega
  have hb2 : server.length ≤ 9223372036854775807 := by unfold maxLen at hsm; omega
  have hb3 : text.length ≤ 9223372036854775807 := by unfold maxLen at htm; omega
  have hb4 : nl ≤ 9223372036854775807 := by unfold maxLen at hnl; omega
  clear hnl
  by_cases hq1 : 100 < client.length
  · have hd_hq1 : decide ((100 : Int) < (client.length : Int)) = true := by simp; omega
    clear hclb hcv hsvb hsv htb htv hbl hK hcc hsc htc hcm hsm htm
    go_enter Tryd.func3, Tryd.ntmps3
    go_wp2_with (go_at_call 4; with_reducible refine (HAL.out _ (Chg.refl _ _)).mono ?_; rintro e w1 ⟨rfl, hc1⟩; have HC1 := Lib.hid hc1; clear hc1)
    go_ret
    exact ⟨rfl, HC1.out⟩
  have hd_hq1 : decide ((100 : Int) < (client.length : Int)) = false := by simp; omega
  by_cases hq2 : 100 < server.length
  · have hd_hq2 : decide ((100 : Int) < (server.length : Int)) = true := by simp; omega
    clear hclb hcv hsvb hsv htb htv hbl hK hcc hsc htc hcm hsm htm
    go_enter Tryd.func3, Tryd.ntmps3
    go_wp2_with (go_at_call 4; with_reducible refine (HAL.out _ (Chg.refl _ _)).mono ?_; rintro e w1 ⟨rfl, hc1⟩; have HC1 := Lib.hid hc1; clear hc1)
    go_ret
    exact ⟨rfl, HC1.out⟩
  have hd_hq2 : decide ((100 : Int) < (server.length : Int)) = false := by simp; omega
  by_cases hq3 : 30 < nl
  · have hd_hq3 : decide ((30 : Int) < (nl : Int)) = true := by simp; omega
    clear hclb hcv hsvb hsv htb htv hbl hK hcc hsc htc hcm hsm htm
    go_enter Tryd.func3, Tryd.ntmps3
    go_wp2_with (go_at_call 4; with_reducible refine (HAL.out _ (Chg.refl _ _)).mono ?_; rintro e w1 ⟨rfl, hc1⟩; have HC1 := Lib.hid hc1; clear hc1)
    go_ret
    exact ⟨rfl, HC1.out⟩
  have hd_hq3 : decide ((30 : Int) < (nl : Int)) = false := by simp; omega
  by_cases hq4 : 60 < text.length
  · have hd_hq4 : decide ((60 : Int) < (text.length : Int)) = true := by simp; omega
    clear hclb hcv hsvb hsv htb htv hbl hK hcc hsc htc hcm hsm htm
    go_enter Tryd.func3, Tryd.ntmps3
    go_wp2_with (go_at_call 4; with_reducible refine (HAL.out _ (Chg.refl _ _)).mono ?_; rintro e w1 ⟨rfl, hc1⟩; have HC1 := Lib.hid hc1; clear hc1)
    go_ret
    exact ⟨rfl, HC1.out⟩
  have hd_hq4 : decide ((60 : Int) < (text.length : Int)) = false := by simp; omega
  have HBL := Lib.hid hbl
  have HTV : Hid (∀ w', Chg none_ W w' → View w' (fun b => b < W.heap.size) At text.length (u8s text)) := Lib.hid (fun w' hc => (htv.mono (fun b hb _ => hb)).chg hc (fun _ _ h => h))
  have HTB := Lib.hid htb
  have HSA : Hid (∀ w' A2 c2 (T : Nat → Prop), Chg none_ W w' → View w' T A2 text.length (u8s text) → Calls Tryd.prog 15 #[.slice A2 text.length c2, .slice At text.length capt] w' fun e w'' => e = .returned (.bool true) ∧ ∃ k, w'' = w'.drewN k) := Lib.hid (fun w' A2 c2 T hc h => by
    have := same_any w' T _ A2 At c2 capt text text h (htv.chg hc (fun _ _ h => h)) (by omega)
    rwa [decide_eq_true rfl] at this)
  have hq4' : text.length ≤ 60 := by omega
  have HKK := Lib.hid (fun w (hc : Chg none_ W w) => hK.chg hc)
  obtain ⟨C, hC⟩ : ∃ C, C = (laterN client server).1 := ⟨_, rfl⟩
  obtain ⟨S, hS⟩ : ∃ C, C = (laterN client server).2 := ⟨_, rfl⟩
  have hCl : C.length = 32 := by rw [hC]; exact labelN_len _ capL 32 (by decide) (by decide)
  have hSl : S.length = 32 := by rw [hS]; exact labelN_len _ sapL 32 (by decide) (by decide)
  have hCb : ∀ x ∈ C, x < 256 := by rw [hC]; exact labelN_lt _ capL 32
  have hSb : ∀ x ∈ S, x < 256 := by rw [hS]; exact labelN_lt _ sapL 32
  have HCL := Lib.hid hCl
  have HSL := Lib.hid hSl
  have HLT : Hid (∀ w, Chg none_ W w → Calls Tryd.prog 5 #[.slice A client.length cap, .slice A' server.length cap'] w fun e w' => e = .returned (.tuple #[.agg (u8s C).toArray, .agg (u8s S).toArray]) ∧ Chg none_ w w') := Lib.hid (fun w hc => by rw [hC, hS]; exact Later_any client server _ _ A A' cap cap' w (hcv.chg hc (fun _ _ h => h)) (hsv.chg hc (fun _ _ h => h)) (by omega) (by omega) hcc hsc hclb hsvb (hK.chg hc))
  have HNR := Lib.hid NewRing_any
  have HS0 : Hid (∀ g (T : Nat → Prop) w', RingAt w' g T Rg.new → ¬ T g → (∀ b, w'.heap.size ≤ b → T b) → Chg none_ W w' → Calls Tryd.prog 7 #[.pointer (some ⟨g, 0, none⟩), .int .i64 1, .agg (u8s C).toArray, .agg (u8s S).toArray] w' fun e w'' => e = .returned (.bool true) ∧ RingAt w'' g T (rgN C S 0 0) ∧ Chg (· = g) w' w'') := Lib.hid (fun g T w' h h1 h2 hc => SetY_1 g T Rg.new C S w' h rfl h1 h2 hCl hCb hSl hSb (hK.chg hc))
  have HS1 : Hid (∀ g (T : Nat → Prop) w', RingAt w' g T Rg.new → ¬ T g → (∀ b, w'.heap.size ≤ b → T b) → Chg none_ W w' → Calls Tryd.prog 7 #[.pointer (some ⟨g, 0, none⟩), .int .i64 1, .agg (u8s S).toArray, .agg (u8s C).toArray] w' fun e w'' => e = .returned (.bool true) ∧ RingAt w'' g T (rgN C S 1 0) ∧ Chg (· = g) w' w'') := Lib.hid (fun g T w' h h1 h2 hc => SetY_1 g T Rg.new S C w' h rfl h1 h2 hSl hSb hCl hCb (hK.chg hc))
  have HM0 : Hid (∀ w, Chg none_ W w → Calls Tryd.prog 8 #[.agg (u8s C).toArray, .bool false] w fun e w' => e = .returned (.agg (cellsS (ownN C S 0 0)).toArray) ∧ Chg none_ w w') := Lib.hid (fun w hc => Make_any C false w hCl hCb (hK.chg hc))
  have HM1 : Hid (∀ w, Chg none_ W w → Calls Tryd.prog 8 #[.agg (u8s S).toArray, .bool false] w fun e w' => e = .returned (.agg (cellsS (ownN C S 1 0)).toArray) ∧ Chg none_ w w') := Lib.hid (fun w hc => Make_any S false w hSl hSb (hK.chg hc))
  have HBS := Lib.hid (fun w => run_slice2 (ownN C S 0 0) (ownN C S 1 0) (ownN_ok _ _ _ _) (ownN_ok _ _ _ _) w)
  clear hclb hcv hsvb hsv htb htv hbl hK hC hS hCl hSl hCb hSb hcc hsc htc hcm hsm htm
  go_enter Tryd.func3, Tryd.ntmps3
  go_wp2_with (first | (go_at_call 4; with_reducible refine (HAL.out _ (Chg.refl _ _)).mono ?_; rintro e w1 ⟨rfl, hc1⟩; have HC1 := Lib.hid hc1; clear hc1) | (go_at_call 5; with_reducible refine (HLT.out _ HC1.out).mono ?_; rintro e w2 ⟨rfl, hc2⟩; have HC2 := Lib.hid (HC1.out.trans hc2); clear hc2) | ((with_reducible show wpList _ _ _ (⟨some 9, .alloc 26, _, _, _, _⟩ :: _) _ _); refine wpList_alloc_Row rfl rfl (u8s (List.replicate 32 0)) zero25 ?_; intro w3 hr3 hc3 hs3; have RC3 := Lib.hid hr3; have HC3 := Lib.hid (HC2.out.trans hc3); clear hr3 hc3 hs3) | ((with_reducible show wpList _ _ _ (⟨some 10, .alloc 26, _, _, _, _⟩ :: _) _ _); refine wpList_alloc_Row rfl rfl (u8s (List.replicate 32 0)) zero25 ?_; intro w4 hr4 hc4 hs4; have RS4 := Lib.hid hr4; have HC4 := Lib.hid (HC3.out.trans hc4); have RC4 := Lib.hid (RC3.out.chg hc4 (fun h => h)); clear hr4 hc4 hs4) | ((with_reducible show wpList _ _ _ (⟨_, .store 26 (.tmp 9) _, _, _, _, _⟩ :: _) _ _); refine wpList_store_Row (xs := u8s C) rfl rfl rfl (RC4.out) (rfl) (by rw [u8s_length, u8s_length, HCL.out, List.length_replicate]) (by rw [u8s_length, HCL.out]; exact size25) (u8s_oneA _) ?_; intro w5 hr5 hc5 hs5; have RC5 := Lib.hid hr5; have HS45 := Lib.hid (show w4.heap.size ≤ w5.heap.size from Nat.le_of_eq hs5.symm); have hx5 := hc5 (· = w2.heap.size) w4 (Chg.refl _ _) (fun _ => rfl); have HC5 := Lib.hid (hc5 none_ W HC4.out (fun h => by have := HC2.out.size; omega)); have RS5 := Lib.hid (RS4.out.chg hx5 (fun e => by have := RC3.out.lt; omega)); clear hx5; clear hr5 hc5 hs5) | ((with_reducible show wpList _ _ _ (⟨_, .store 26 (.tmp 10) _, _, _, _, _⟩ :: _) _ _); refine wpList_store_Row (xs := u8s S) rfl rfl rfl (RS5.out) (rfl) (by rw [u8s_length, u8s_length, HSL.out, List.length_replicate]) (by rw [u8s_length, HSL.out]; exact size25) (u8s_oneA _) ?_; intro w6 hr6 hc6 hs6; have RS6 := Lib.hid hr6; have HS56 := Lib.hid (show w5.heap.size ≤ w6.heap.size from Nat.le_of_eq hs6.symm); have hx6 := hc6 (· = w3.heap.size) w5 (Chg.refl _ _) (fun _ => rfl); have HC6 := Lib.hid (hc6 none_ W HC5.out (fun h => by have := HC3.out.size; omega)); have RC6 := Lib.hid (RC5.out.chg hx6 (fun e => by have := RC3.out.lt; omega)); clear hx6; clear hr6 hc6 hs6) | (go_at_call 6; with_reducible refine (HNR.out (fun b => False) w6).mono ?_; rintro e w7 ⟨rfl, hra7, hc7⟩; have HC7 := Lib.hid (HC6.out.trans hc7); have RC7 := Lib.hid (RC6.out.chg hc7 (fun h => h)); have RS7 := Lib.hid (RS6.out.chg hc7 (fun h => h)); have RA7 := Lib.hid hra7; have HL7 := Lib.hid hra7.lt; clear hra7 hc7) | (go_at_call 6; with_reducible refine (HNR.out (fun b => False) w7).mono ?_; rintro e w8 ⟨rfl, hrb8, hc8⟩; have HC8 := Lib.hid (HC7.out.trans hc8); have RC8 := Lib.hid (RC7.out.chg hc8 (fun h => h)); have RS8 := Lib.hid (RS7.out.chg hc8 (fun h => h)); have RA8 := Lib.hid (RA7.out.quiet hc8); have RB8 := Lib.hid hrb8; have HL8 := Lib.hid hrb8.lt; clear hrb8 hc8) | ((with_reducible show wpList _ _ _ (⟨some 55, _, _, _, _, _⟩ :: _) _ _); refine wpList_new_row (v := fun g => .slice (some ⟨g, 0, none⟩) 2 2) (e := 29) (cs := [.pointer (some ⟨w6.heap.size, 0, none⟩), .pointer (some ⟨w7.heap.size, 0, none⟩)]) rfl (fun w_ => by go_simp) ?_; intro w9 hr9 hc9 hs9; have RX9 := Lib.hid hr9; have HC9 := Lib.hid (HC8.out.trans hc9); have RC9 := Lib.hid (RC8.out.chg hc9 (fun h => h)); have RS9 := Lib.hid (RS8.out.chg hc9 (fun h => h)); have RA9 := Lib.hid (RA8.out.quiet hc9); have RB9 := Lib.hid (RB8.out.quiet hc9); have HL9 := Lib.hid hr9.lt; clear hr9 hc9 hs9))
  try simp only [Act.put, List.setIfInBounds_toArray, List.set_cons_zero, List.set_cons_succ]
  have HGG : Hid (w2.heap.size < w3.heap.size ∧ w3.heap.size < w4.heap.size ∧ w4.heap.size ≤ w6.heap.size ∧ w6.heap.size < w7.heap.size ∧ w7.heap.size < w8.heap.size ∧ w8.heap.size < w9.heap.size ∧ W.heap.size ≤ w2.heap.size) := Lib.hid ⟨RC3.out.lt, RS4.out.lt, (Nat.le_trans HS45.out HS56.out), HL7.out, HL8.out, HL9.out, HC2.out.size⟩
  have CX0 : Hid (∀ w', Chg (fun b => b = w6.heap.size ∨ b = w7.heap.size) w9 w' → w'.cell? ⟨w8.heap.size, 0, none⟩ = some (.pointer (some ⟨w6.heap.size, 0, none⟩))) := Lib.hid (fun w' hc => (RX9.out.chg hc (fun e => by have := HGG.out; omega)).cell 0)
  have CX1 : Hid (∀ w', Chg (fun b => b = w6.heap.size ∨ b = w7.heap.size) w9 w' → w'.cell? ⟨w8.heap.size, 1, none⟩ = some (.pointer (some ⟨w7.heap.size, 0, none⟩))) := Lib.hid (fun w' hc => (RX9.out.chg hc (fun e => by have := HGG.out; omega)).cell 1)
  have HCW : Hid (∀ w', Chg (fun b => b = w6.heap.size ∨ b = w7.heap.size) w9 w' → Chg none_ W w') := Lib.hid (fun w' hc => HC9.out.andThen hc (fun b hb e => by have := HGG.out; omega))
  refine wp_region_held_drew (S := fun w' => Chg (fun b => b = w6.heap.size ∨ b = w7.heap.size) w9 w') (by kernel_rfl) ((Chg.refl _ w9).drew) (fun hch0 => ?_)
  have hch0_ : Chg none_ w9 w9.drew := (Chg.refl none_ w9).drew
  generalize w9.drew = wd at hch0 hch0_ ⊢
  refine wpAnyH_take (i := 0) (v := .slice (some ⟨w8.heap.size, 0, none⟩) 2 2) rfl (by kernel_rfl) (by kernel_rfl) (by kernel_rfl) (by first | exact fun _ _ _ h => h | exact fun _ _ _ h => nomatch h.1) (Or.inl ⟨by rfl, fun w_ hw_ => by go_simp⟩) hch0 ?_
  try simp only [Act.put, List.setIfInBounds_toArray, List.set_cons_zero, List.set_cons_succ, List.getElem_toArray, List.getElem_cons_zero]
  refine wpAnyH_take (i := 1) (v := .pointer (some ⟨w8.heap.size, 0, none⟩)) rfl (by kernel_rfl) (by kernel_rfl) (by kernel_rfl) (by first | exact fun _ _ _ h => h | exact fun _ _ _ h => nomatch h.1) (Or.inl ⟨by rfl, fun w_ hw_ => by go_simp⟩) hch0 ?_
  try simp only [Act.put, List.setIfInBounds_toArray, List.set_cons_zero, List.set_cons_succ, List.getElem_toArray, List.getElem_cons_succ, List.getElem_cons_zero]
  refine wpAnyH_take (i := 2) (v := .pointer (some ⟨w6.heap.size, 0, none⟩)) rfl (by kernel_rfl) (by kernel_rfl) (by kernel_rfl) (by first | exact fun _ _ _ h => h | exact fun _ _ _ h => nomatch h.1) (Or.inl ⟨by rfl, fun w_ hw_ => by have hh := CX0.out w_ hw_; go_simp⟩) hch0 ?_
  refine wpAnyH_take (i := 3) (v := .agg (u8s C).toArray) rfl (by kernel_rfl) (by kernel_rfl) (by kernel_rfl) (by first | exact fun _ _ _ h => h | exact fun _ _ _ h => nomatch h.1) (yieldsIf_load_mid (by rfl) 26 _ rfl w2.heap.size 0 rfl (u8s C) _ (fun w' hw' => (RC9.out.chg hw' (fun e => by have := HGG.out; omega)).range) Tryd.underlying26 rfl (by rw [u8s_length, HCL.out]; exact size25)) hch0 ?_
  refine wpAnyH_take (i := 4) (v := .agg (u8s S).toArray) rfl (by kernel_rfl) (by kernel_rfl) (by kernel_rfl) (by first | exact fun _ _ _ h => h | exact fun _ _ _ h => nomatch h.1) (yieldsIf_load_mid (by rfl) 26 _ rfl w3.heap.size 0 rfl (u8s S) _ (fun w' hw' => (RS9.out.chg hw' (fun e => by have := HGG.out; omega)).range) Tryd.underlying26 rfl (by rw [u8s_length, HSL.out]; exact size25)) hch0 ?_
  try simp only [Act.put, List.setIfInBounds_toArray, List.set_cons_zero, List.set_cons_succ, List.getElem_toArray, List.getElem_cons_succ, List.getElem_cons_zero]
  refine wpAnyH_ready (rs := [5]) (by kernel_rfl) (by simp) ?_
  refine AllReadyH.cons rfl (fun K hK => ?_) AllReadyH.nil
  rw [if_pos (by rfl)]
  try simp only [List.getElem_toArray, List.getElem_cons_succ, List.getElem_cons_zero]
  go_simp
  refine (HS0.out _ (fun b => w9.heap.size ≤ b) _ ((new_mono _ RA9.out).quiet hch0_) (fun h => by have := HGG.out; omega) (fun b h => by have := hch0.size; omega) (HCW.out _ hch0)).mono ?_
  rintro e x1 ⟨rfl, hra1, hcx1⟩
  have hch1 : Chg (fun b => b = w6.heap.size ∨ b = w7.heap.size) w9 x1 := hch0.trans (hcx1.mono (fun _ _ h => Or.inl h))
  have hrb1 := ((new_mono (fun b => w9.heap.size ≤ b) RB9.out).quiet hch0_).chg hcx1 (fun e => by have := HGG.out; omega) (fun b hb e => by have := HGG.out; omega)
  refine hK.out _ _ (hch1) (fun _ => ?_)
  clear hK K
  try simp only [Act.put, List.setIfInBounds_toArray, List.set_cons_zero, List.set_cons_succ, List.getElem_toArray, List.getElem_cons_succ, List.getElem_cons_zero]
  refine wpAnyH_take (i := 6) (v := .bool false) rfl (by kernel_rfl) (by kernel_rfl) (by kernel_rfl) (by first | exact fun _ _ _ h => h | exact fun _ _ _ h => nomatch h.1) (Or.inl ⟨by rfl, fun w_ hw_ => by go_simp⟩) hch1 ?_
  try simp only [Act.put, List.setIfInBounds_toArray, List.set_cons_zero, List.set_cons_succ, List.getElem_toArray, List.getElem_cons_succ, List.getElem_cons_zero]
  refine wpAnyH_take (i := 7) (v := .bool false) rfl (by kernel_rfl) (by kernel_rfl) (by kernel_rfl) (by first | exact fun _ _ _ h => h | exact fun _ _ _ h => nomatch h.1) (Or.inl ⟨by rfl, fun w_ hw_ => by go_simp⟩) hch1 ?_
  try simp only [Act.put, List.setIfInBounds_toArray, List.set_cons_zero, List.set_cons_succ, List.getElem_toArray, List.getElem_cons_succ, List.getElem_cons_zero]
  refine wpAnyH_take (i := 8) (v := .slice (some ⟨w8.heap.size, 0, none⟩) 2 2) rfl (by kernel_rfl) (by kernel_rfl) (by kernel_rfl) (by first | exact fun _ _ _ h => h | exact fun _ _ _ h => nomatch h.1) (Or.inl ⟨by rfl, fun w_ hw_ => by go_simp⟩) hch1 ?_
  try simp only [Act.put, List.setIfInBounds_toArray, List.set_cons_zero, List.set_cons_succ, List.getElem_toArray, List.getElem_cons_succ, List.getElem_cons_zero]
  refine wpAnyH_take (i := 9) (v := .pointer (some ⟨w8.heap.size, 1, none⟩)) rfl (by kernel_rfl) (by kernel_rfl) (by kernel_rfl) (by first | exact fun _ _ _ h => h | exact fun _ _ _ h => nomatch h.1) (Or.inl ⟨by rfl, fun w_ hw_ => by go_simp⟩) hch1 ?_
  try simp only [Act.put, List.setIfInBounds_toArray, List.set_cons_zero, List.set_cons_succ, List.getElem_toArray, List.getElem_cons_succ, List.getElem_cons_zero]
  refine wpAnyH_take (i := 10) (v := .pointer (some ⟨w7.heap.size, 0, none⟩)) rfl (by kernel_rfl) (by kernel_rfl) (by kernel_rfl) (by first | exact fun _ _ _ h => h | exact fun _ _ _ h => nomatch h.1) (Or.inl ⟨by rfl, fun w_ hw_ => by have hh := CX1.out w_ hw_; go_simp⟩) hch1 ?_
  refine wpAnyH_take (i := 11) (v := .agg (u8s S).toArray) rfl (by kernel_rfl) (by kernel_rfl) (by kernel_rfl) (by first | exact fun _ _ _ h => h | exact fun _ _ _ h => nomatch h.1) (yieldsIf_load_mid (by rfl) 26 _ rfl w3.heap.size 0 rfl (u8s S) _ (fun w' hw' => (RS9.out.chg hw' (fun e => by have := HGG.out; omega)).range) Tryd.underlying26 rfl (by rw [u8s_length, HSL.out]; exact size25)) hch1 ?_
  refine wpAnyH_take (i := 12) (v := .agg (u8s C).toArray) rfl (by kernel_rfl) (by kernel_rfl) (by kernel_rfl) (by first | exact fun _ _ _ h => h | exact fun _ _ _ h => nomatch h.1) (yieldsIf_load_mid (by rfl) 26 _ rfl w2.heap.size 0 rfl (u8s C) _ (fun w' hw' => (RC9.out.chg hw' (fun e => by have := HGG.out; omega)).range) Tryd.underlying26 rfl (by rw [u8s_length, HCL.out]; exact size25)) hch1 ?_
  try simp only [Act.put, List.setIfInBounds_toArray, List.set_cons_zero, List.set_cons_succ, List.getElem_toArray, List.getElem_cons_succ, List.getElem_cons_zero]
  refine wpAnyH_ready (rs := [13]) (by kernel_rfl) (by simp) ?_
  refine AllReadyH.cons rfl (fun K hK => ?_) AllReadyH.nil
  rw [if_pos (by rfl)]
  try simp only [List.getElem_toArray, List.getElem_cons_succ, List.getElem_cons_zero]
  go_simp
  refine (HS1.out _ (fun b => w9.heap.size ≤ b) _ hrb1 (fun h => by have := HGG.out; omega) (fun b h => by have := hch1.size; omega) (HCW.out _ hch1)).mono ?_
  rintro e x2 ⟨rfl, hrb2, hcx2⟩
  have hch2 : Chg (fun b => b = w6.heap.size ∨ b = w7.heap.size) w9 x2 := hch1.trans (hcx2.mono (fun _ _ h => Or.inr h))
  have hra2 := hra1.chg hcx2 (fun e => by have := HGG.out; omega) (fun b hb e => by have := HGG.out; omega)
  refine hK.out _ _ (hch2) (fun _ => ?_)
  clear hK K
  try simp only [Act.put, List.setIfInBounds_toArray, List.set_cons_zero, List.set_cons_succ, List.getElem_toArray, List.getElem_cons_succ, List.getElem_cons_zero]
  refine wpAnyH_take (i := 14) (v := .bool false) rfl (by kernel_rfl) (by kernel_rfl) (by kernel_rfl) (by first | exact fun _ _ _ h => h | exact fun _ _ _ h => nomatch h.1) (Or.inl ⟨by rfl, fun w_ hw_ => by go_simp⟩) hch2 ?_
  try simp only [Act.put, List.setIfInBounds_toArray, List.set_cons_zero, List.set_cons_succ, List.getElem_toArray, List.getElem_cons_succ, List.getElem_cons_zero]
  refine wpAnyH_take (i := 15) (v := .bool false) rfl (by kernel_rfl) (by kernel_rfl) (by kernel_rfl) (by first | exact fun _ _ _ h => h | exact fun _ _ _ h => nomatch h.1) (Or.inl ⟨by rfl, fun w_ hw_ => by go_simp⟩) hch2 ?_
  try simp only [Act.put, List.setIfInBounds_toArray, List.set_cons_zero, List.set_cons_succ, List.getElem_toArray, List.getElem_cons_succ, List.getElem_cons_zero]
  refine wpAnyH_done (by kernel_rfl) ?_ _
  have HC10 := Lib.hid (HCW.out _ hch2)
  have RC10 := Lib.hid (RC9.out.chg hch2 (fun e => by have := HGG.out; omega))
  have RS10 := Lib.hid (RS9.out.chg hch2 (fun e => by have := HGG.out; omega))
  have RX10 := Lib.hid (RX9.out.chg hch2 (fun e => by have := HGG.out; omega))
  have RA10 := Lib.hid (hra2.mono2 (T' := fun b => w9.heap.size ≤ b ∧ b < x2.heap.size) (fun b hb h => ⟨h, hb⟩))
  have RB10 := Lib.hid (hrb2.mono2 (T' := fun b => w9.heap.size ≤ b ∧ b < x2.heap.size) (fun b hb h => ⟨h, hb⟩))
  have HS910 := Lib.hid hch2.size
  clear hch0 hch0_ hch1 hch2 hra1 hrb1 hra2 hrb2 hcx1 hcx2 CX0 CX1 HCW RC9 RS9 RX9 RA9 RB9 HC9
  go_wp2
  try simp only [Act.put, List.setIfInBounds_toArray, List.set_cons_zero, List.set_cons_succ]
  refine wp_region_held_drew (S := fun w' => Chg none_ x2 w') (by kernel_rfl) ((Chg.refl none_ x2).drew) (fun hch0 => ?_)
  generalize x2.drew = wd2 at hch0 ⊢
  refine wpAnyH_take (i := 0) (v := .agg (u8s C).toArray) rfl (by kernel_rfl) (by kernel_rfl) (by kernel_rfl) (by first | exact fun _ _ _ h => h | exact fun _ _ _ h => nomatch h.1) (yieldsIf_load_mid (by rfl) 26 _ rfl w2.heap.size 0 rfl (u8s C) _ (fun w' hw' => (RC10.out.chg hw' (fun h => h)).range) Tryd.underlying26 rfl (by rw [u8s_length, HCL.out]; exact size25)) hch0 ?_
  refine wpAnyH_take (i := 2) (v := .agg (u8s S).toArray) rfl (by kernel_rfl) (by kernel_rfl) (by kernel_rfl) (by first | exact fun _ _ _ h => h | exact fun _ _ _ h => nomatch h.1) (yieldsIf_load_mid (by rfl) 26 _ rfl w3.heap.size 0 rfl (u8s S) _ (fun w' hw' => (RS10.out.chg hw' (fun h => h)).range) Tryd.underlying26 rfl (by rw [u8s_length, HSL.out]; exact size25)) hch0 ?_
  try simp only [Act.put, List.setIfInBounds_toArray, List.set_cons_zero, List.set_cons_succ, List.getElem_toArray, List.getElem_cons_succ, List.getElem_cons_zero]
  refine wpAnyH_ready (rs := [1]) (by kernel_rfl) (by simp) ?_
  refine AllReadyH.cons rfl (fun K hK => ?_) AllReadyH.nil
  rw [if_pos (by rfl)]
  try simp only [List.getElem_toArray, List.getElem_cons_succ, List.getElem_cons_zero]
  go_simp
  refine (HM0.out _ (HC10.out.trans hch0)).mono ?_
  rintro e y1 ⟨rfl, hcy1⟩
  have hch1 : Chg none_ x2 y1 := hch0.trans hcy1
  refine hK.out _ _ (hch1) (fun _ => ?_)
  clear hK K
  try simp only [Act.put, List.setIfInBounds_toArray, List.set_cons_zero, List.set_cons_succ, List.getElem_toArray, List.getElem_cons_succ, List.getElem_cons_zero]
  refine wpAnyH_ready (rs := [3]) (by kernel_rfl) (by simp) ?_
  refine AllReadyH.cons rfl (fun K hK => ?_) AllReadyH.nil
  rw [if_pos (by rfl)]
  try simp only [List.getElem_toArray, List.getElem_cons_succ, List.getElem_cons_zero]
  go_simp
  refine (HM1.out _ (HC10.out.trans hch1)).mono ?_
  rintro e y2 ⟨rfl, hcy2⟩
  have hch2 : Chg none_ x2 y2 := hch1.trans hcy2
  refine hK.out _ _ (hch2) (fun _ => ?_)
  clear hK K
  try simp only [Act.put, List.setIfInBounds_toArray, List.set_cons_zero, List.set_cons_succ, List.getElem_toArray, List.getElem_cons_succ, List.getElem_cons_zero]
  refine wpAnyH_ready (rs := [4]) (by kernel_rfl) (by simp) ?_
  refine AllReadyH.cons rfl (fun K hK => ?_) AllReadyH.nil
  rw [if_pos (by rfl)]
  try simp only [List.getElem_toArray, List.getElem_cons_succ, List.getElem_cons_zero]
  refine wp_new_row (v := fun g => .slice (some ⟨g, 0, none⟩) 2 2) (e := 36) (cs := cellsS (ownN C S 0 0) ++ cellsS (ownN C S 1 0)) (fun w_ => by have hh := HBS.out w_; unfold execOp; simp [Act.eval, hh]) ?_
  intro y3 hro hcy3 hsy3
  have hch3 : Chg none_ x2 y3 := hch2.trans hcy3
  refine hK.out _ _ hch3 (fun _ => ?_)
  clear hK K
  try simp only [Act.put, List.setIfInBounds_toArray, List.set_cons_zero, List.set_cons_succ]
  refine wpAnyH_take (i := 5) (v := .slice (some ⟨y2.heap.size, 0, none⟩) 2 2) rfl (by kernel_rfl) (by kernel_rfl) (by kernel_rfl) (by first | exact fun _ _ _ h => h | exact fun _ _ _ h => nomatch h.1) (Or.inl ⟨by rfl, fun w_ hw_ => by go_simp⟩) hch3 ?_
  try simp only [Act.put, List.setIfInBounds_toArray, List.set_cons_zero, List.set_cons_succ, List.getElem_toArray, List.getElem_cons_succ, List.getElem_cons_zero]
  refine wpAnyH_done (by kernel_rfl) ?_ _
  have HC11 := Lib.hid (HC10.out.trans hch3)
  have RX11 := Lib.hid (RX10.out.chg hch3 (fun h => h))
  have RA11 := Lib.hid (RA10.out.quiet hch3)
  have RB11 := Lib.hid (RB10.out.quiet hch3)
  have RO11 := Lib.hid hro
  have HS11 : Hid (x2.heap.size ≤ y2.heap.size ∧ y2.heap.size < y3.heap.size) := Lib.hid ⟨hch2.size, hro.lt⟩
  clear hch0 hch1 hch2 hch3 hcy1 hcy2 hcy3 hsy3 hro RC10 RS10 RX10 RA10 RB10 HC10
  go_wp2_with (first | ((with_reducible show wpList _ _ _ (⟨some 13, .alloc 39, _, _, _, _⟩ :: _) _ _); refine wpList_alloc_Row rfl rfl ([.slice none 0 0, .slice none 0 0]) zeroPast ?_; intro w12 hr12 hc12 hs12; have RP12 := Lib.hid hr12; have HN12 := Lib.hid hc12; have HC12 := Lib.hid (HC11.out.trans hc12); clear hr12 hc12 hs12))
  try simp only [Act.put, List.setIfInBounds_toArray, List.set_cons_zero, List.set_cons_succ]
  obtain ⟨q, hq⟩ : ∃ q : Pl, q = ⟨w6.heap.size, w7.heap.size, w8.heap.size, y2.heap.size, y3.heap.size, w12.heap.size⟩ := ⟨_, rfl⟩
  have hgp : y3.heap.size < w12.heap.size := RP12.out.lt
  have HI : Hid (Inv C S q 0 0 0 0 w12) := Lib.hid (by
    have g1 := HGG.out
    have g2 := HS910.out
    have g3 := HS11.out
    rw [hq]
    refine ⟨.slice none 0 0, .slice none 0 0, fun b => w9.heap.size ≤ b ∧ b < x2.heap.size, ?_⟩
    exact {
      r0 := RA11.out.quiet HN12.out
      r1 := RB11.out.quiet HN12.out
      rx := RX11.out.chg HN12.out (fun h => h)
      ro := RO11.out.chg HN12.out (fun h => h)
      rp := RP12.out
      w0 := World.ownsRow_nil _ _ _ _
      w1 := World.ownsRow_nil _ _ _ _
      lt := fun b hb => by have := hb.2; omega
      ne := fun b hb => by have h1 := hb.1; have h2 := hb.2; simp only; omega
      nv := fun b hb => ⟨fun e => (nomatch e), fun e => (nomatch e)⟩
      vv := fun b e => (nomatch e)
      pl := by simp only; omega })
  have HQW : Hid (W.heap.size ≤ q.gA ∧ W.heap.size ≤ q.gB) := Lib.hid (by have := HGG.out; rw [hq]; simp only; omega)
  have e1 : w8.heap.size = q.gx := by rw [hq]
  have e2 : y2.heap.size = q.go := by rw [hq]
  have e3 : y3.heap.size = q.gp := by rw [hq]
  have HC12_ := HC12
  rw [e1, e2, e3]
  clear e1 e2 e3 hq hgp RA11 RB11 RX11 RO11 RP12 HN12 HS11 HGG HC11 HLT HNR HS0 HS1 HM0 HM1 HBS HAL
  go_loopw [8, 14, 15, 16, 17, 18, 19, 20, 21, 22, 23, 24, 25, 26] (fun _ iv _ _ _ _ _ _ _ _ _ _ _ _ wr => ∃ i : Nat, i ≤ nl ∧ iv = .int .i64 i ∧ Inv C S q (i / 3) (i / 3) (i / 3) (i / 3) wr ∧ Chg none_ W wr) (fun _ iv _ _ _ _ _ _ _ _ _ _ _ _ _ => nl - (intOf iv).toNat)
  case atStart => exact ⟨0, Nat.zero_le _, rfl, HI.out, HC12.out⟩
  case round =>
    obtain ⟨i, hi, rfl, hinv, hch⟩ := hrel
    have HIN := Lib.hid hinv
    have HC := Lib.hid hch
    clear HI HC12 HC12_
    by_cases hlt : i < nl
    · obtain ⟨b, o, v, hA, hb, hcell⟩ := HBL.out i hlt
      subst hA
      have cl := (hch.cell (o + i) hb (fun h => h)).trans hcell
      have q1 : (i : Int) < (nl : Int) := by omega
      have q2 : (0 : Int) ≤ (i : Int) := by omega
      obtain ⟨t, ht⟩ : ∃ t, t = i / 3 := ⟨_, rfl⟩
      have HINt : Hid (Inv C S q t t t t wr) := Lib.hid (by rw [ht]; exact hinv)
      have HLT := Lib.hid hlt
      have hi30 : i ≤ 30 := by omega
      clear hinv hch hb hcell hi hlt HIN
      cases v with
      | false =>
        by_cases h3 : i % 3 = 2
        · have HT3 : Hid ((i + 1) / 3 = t + 1) := Lib.hid (by omega)
          have ht10 : t ≤ 10 := by omega
          have q3 : (i : Int) % 3 = 2 := by omega
          have q3b : ((i : Int) % 3 == 2) = true := by simp only [beq_iff_eq]; exact q3
          clear ht h3
          have cxa := HINt.out.ringsX.1
          have cxb := HINt.out.ringsX.2
          have HTU : Hid (Calls Tryd.prog 9 #[.pointer (some ⟨q.gA, 0, none⟩)] wr fun e w' => e = .returned (.bool true) ∧ Inv C S q (t + 1) t t t w' ∧ Chg (· = q.gA) wr w') := Lib.hid (turn_inv 0 (by decide) HINt.out (HKK.out _ HC.out))
          go_wp2_with (go_at_call 9; with_reducible refine HTU.out.mono ?_; rintro e d1 ⟨rfl, hi1, hc1⟩; have HIN1 : Hid (Inv C S q (t + 1) t t t d1) := Lib.hid hi1; have HC1 := Lib.hid (HC.out.andThen hc1 (fun b hb e => by have := HQW.out; omega)); clear hi1 hc1)
          try simp only [Act.put, List.setIfInBounds_toArray, List.set_cons_zero, List.set_cons_succ]
          go_loopw [16] (fun kv wk => ∃ k : Nat, k ≤ 2 ∧ kv = .int .i64 k ∧ Inv C S q (t + 1) t (if 1 ≤ k then t + 1 else t) (if 2 ≤ k then t + 1 else t) wk ∧ Chg none_ W wk) (fun kv _ => 2 - (intOf kv).toNat)
          case atStart => exact ⟨0, by omega, rfl, by simpa using HIN1.out, HC1.out⟩
          case round =>
            obtain ⟨k, hk, rfl, hik, hck⟩ := hrel
            have HCt := Lib.hid hck
            clear hck HTU HIN1 HC1
            have hk3 : k = 0 ∨ k = 1 ∨ k = 2 := by omega
            rcases hk3 with rfl | rfl | rfl
            all_goals clear hk
            · have HIN2 : Hid (Inv C S q (t + 1) t t t wr) := Lib.hid (by simpa using hik)
              clear hik
              as_aux_lemma =>
                obtain ⟨v0, v1, P, hib⟩ := HIN2.out
                obtain ⟨Ak, ck, hvk⟩ := own_shape hib.w0
                subst hvk
                have HIB := Lib.hid hib
                have cp : wr.cell? ⟨q.gp, 0, none⟩ = some (.slice Ak t ck) := hib.rp.cell 0
                have HGP := Lib.hid hib.rp.lt
                have HBK := Lib.hid (fun w => run_slice1 (ownN C S 0 t) (ownN_ok _ _ _ _) w)
                have HGO : Hid (∀ w', Chg (fun b => b = q.gp ∨ (Value.slice Ak t ck).ownBlock = some b) wr w' → w'.rangeAt q.go 0 (cellsS (ownN C S 0 t))) := Lib.hid (fun w' hc => range_own0 (HIB.out.keep0 hc))
                have HUP : Hid (∀ w', Chg none_ W w' → Calls Tryd.prog 10 #[.agg (cellsS (ownN C S 0 t)).toArray] w' fun e w'' => e = .returned (.agg (cellsS (ownN C S 0 (t + 1))).toArray) ∧ Chg none_ w' w'') := Lib.hid (fun w' hc => Update_any _ w' (ownN_ok _ _ _ _) (HKK.out _ hc))
                clear hib
                simp only [show ((0 : Nat) : Int) = 0 from rfl]
                go_wp2
                try simp only [Act.put, List.setIfInBounds_toArray, List.set_cons_zero, List.set_cons_succ]
                have hch0n : Chg none_ wr wr.drew := (Chg.refl none_ wr).drew
                refine wp_region_held_drew (S := fun w' => Chg (fun b => b = q.gp ∨ (Value.slice Ak t ck).ownBlock = some b) wr w') (by kernel_rfl) ((Chg.refl _ wr).drew) (fun hch0 => ?_)
                generalize wr.drew = wz at hch0 hch0n ⊢
                refine wpAnyH_take (i := 0) (v := .int .i64 0) rfl (by kernel_rfl) (by kernel_rfl) (by kernel_rfl) (by first | exact fun _ _ _ h => h | exact fun _ _ _ h => nomatch h.1) (Or.inl ⟨by rfl, fun w_ hw_ => by go_simp⟩) hch0 ?_
                refine wpAnyH_take (i := 1) (v := .int .i64 0) rfl (by kernel_rfl) (by kernel_rfl) (by kernel_rfl) (by first | exact fun _ _ _ h => h | exact fun _ _ _ h => nomatch h.1) (Or.inl ⟨by rfl, fun w_ hw_ => by go_simp⟩) hch0 ?_
                refine wpAnyH_take (i := 4) (v := .slice (some ⟨q.go, 0, none⟩) 2 2) rfl (by kernel_rfl) (by kernel_rfl) (by kernel_rfl) (by first | exact fun _ _ _ h => h | exact fun _ _ _ h => nomatch h.1) (Or.inl ⟨by rfl, fun w_ hw_ => by go_simp⟩) hch0 ?_
                refine wpAnyH_take (i := 5) (v := .int .i64 0) rfl (by kernel_rfl) (by kernel_rfl) (by kernel_rfl) (by first | exact fun _ _ _ h => h | exact fun _ _ _ h => nomatch h.1) (Or.inl ⟨by rfl, fun w_ hw_ => by go_simp⟩) hch0 ?_
                try simp only [Act.put, List.setIfInBounds_toArray, List.set_cons_zero, List.set_cons_succ, List.getElem_toArray, List.getElem_cons_succ, List.getElem_cons_zero]
                refine wpAnyH_take (i := 2) (v := .pointer (some ⟨q.gp, 0, none⟩)) rfl (by kernel_rfl) (by kernel_rfl) (by kernel_rfl) (by first | exact fun _ _ _ h => h | exact fun _ _ _ h => nomatch h.1) (Or.inl ⟨by rfl, fun w_ hw_ => by go_simp⟩) hch0 ?_
                refine wpAnyH_take (i := 6) (v := .pointer (some ⟨q.go, 0, none⟩)) rfl (by kernel_rfl) (by kernel_rfl) (by kernel_rfl) (by first | exact fun _ _ _ h => h | exact fun _ _ _ h => nomatch h.1) (Or.inl ⟨by rfl, fun w_ hw_ => by go_simp⟩) hch0 ?_
                try simp only [Act.put, List.setIfInBounds_toArray, List.set_cons_zero, List.set_cons_succ, List.getElem_toArray, List.getElem_cons_succ, List.getElem_cons_zero]
                refine wpAnyH_take (i := 7) (v := .agg (cellsS (ownN C S 0 t)).toArray) rfl (by kernel_rfl) (by kernel_rfl) (by kernel_rfl) (by first | exact fun _ _ _ h => h | exact fun _ _ _ h => nomatch h.1) (yieldsIf_load_mid (by rfl) 36 _ rfl q.go 0 rfl (cellsS (ownN C S 0 t)) _ (fun w' hw' => HGO.out w' hw') Tryd.underlying36 rfl (by rw [cellsS_len (ownN_ok _ _ _ _)]; exact sizeSc)) hch0 ?_
                try simp only [Act.put, List.setIfInBounds_toArray, List.set_cons_zero, List.set_cons_succ, List.getElem_toArray, List.getElem_cons_succ, List.getElem_cons_zero]
                have cz := (hch0n.cell 0 HGP.out (fun h => h)).trans cp
                refine wpAnyH_ready (rs := [3, 8]) (by kernel_rfl) (by simp) ?_
                refine AllReadyH.cons rfl (fun K hK => ?_) (AllReadyH.cons rfl (fun K hK => ?_) AllReadyH.nil)
                · rw [if_pos (by rfl)]
                  try simp only [List.getElem_toArray, List.getElem_cons_succ, List.getElem_cons_zero]
                  go_simp
                  refine hK.out _ _ hch0 (fun _ => ?_)
                  clear hK K
                  try simp only [Act.put, List.setIfInBounds_toArray, List.set_cons_zero, List.set_cons_succ, List.getElem_toArray, List.getElem_cons_succ, List.getElem_cons_zero]
                  refine wpAnyH_ready (rs := [8]) (by kernel_rfl) (by simp) ?_
                  refine AllReadyH.cons rfl (fun K hK => ?_) AllReadyH.nil
                  rw [if_pos (by rfl)]
                  try simp only [List.getElem_toArray, List.getElem_cons_succ, List.getElem_cons_zero]
                  refine wp_new_row (v := fun g => .slice (some ⟨g, 0, none⟩) 1 1) (e := 36) (cs := cellsS (ownN C S 0 t)) (fun w_ => by have hh := HBK.out w_; unfold execOp; simp [Act.eval, hh]) ?_
                  intro x1 hx1 hcx1 hsx1
                  have hch1n : Chg none_ wr x1 := hch0n.trans hcx1
                  have hch1 : Chg (fun b => b = q.gp ∨ (Value.slice Ak t ck).ownBlock = some b) wr x1 := hch0.trans (hcx1.mono (fun _ _ h => h.elim))
                  have cx1 := (hch1n.cell 0 HGP.out (fun h => h)).trans cp
                  refine hK.out _ _ hch1 (fun _ => ?_)
                  clear hK K
                  try simp only [Act.put, List.setIfInBounds_toArray, List.set_cons_zero, List.set_cons_succ]
                  refine wpAnyH_ready (rs := [9]) (by kernel_rfl) (by simp) ?_
                  refine AllReadyH.cons rfl (fun K hK => ?_) AllReadyH.nil
                  rw [if_pos (by rfl)]
                  try simp only [List.getElem_toArray, List.getElem_cons_succ, List.getElem_cons_zero]
                  refine wp_append_key (.tmp 103) (.tmp 108) rfl (ownN C S 0 t) (ownN_ok _ _ _ _) rfl (own_chgN HIB.out.w0 hch1n (fun _ _ h => h)) rfl hx1 (by omega) (Nat.le_trans HIB.out.pl.2.2.2.2.2 hch1n.size) ?_
                  intro v' x2 hown2 hcx2 hn2
                  obtain ⟨Av, cv, hv2⟩ := own_shape hown2
                  subst hv2
                  obtain ⟨hp2, hpost⟩ := HIB.out.app0 hch1n hcx2 hown2
                  have hch2 : Chg (fun b => b = q.gp ∨ (Value.slice Ak t ck).ownBlock = some b) wr x2 := hch1.trans (hcx2.mono (fun _ _ h => .inr h))
                  refine hK.out _ _ hch2 (fun _ => ?_)
                  clear hK K
                  try simp only [Act.put, List.setIfInBounds_toArray, List.set_cons_zero, List.set_cons_succ]
                  refine wpAnyH_take (i := 10) (v := .pointer (some ⟨q.gp, 0, none⟩)) rfl (by kernel_rfl) (by kernel_rfl) (by kernel_rfl) (by first | exact fun _ _ _ h => h | exact fun _ _ _ h => nomatch h.1) (Or.inl ⟨by rfl, fun w_ hw_ => by go_simp⟩) hch2 ?_
                  try simp only [Act.put, List.setIfInBounds_toArray, List.set_cons_zero, List.set_cons_succ, List.getElem_toArray, List.getElem_cons_succ, List.getElem_cons_zero]
                  refine wpAnyH_ready (rs := [11]) (by kernel_rfl) (by simp) ?_
                  refine AllReadyH.cons rfl (fun K hK => ?_) AllReadyH.nil
                  rw [if_pos (by rfl)]
                  try simp only [List.getElem_toArray, List.getElem_cons_succ, List.getElem_cons_zero]
                  have c2 : x2.cell? ⟨q.gp, 0, none⟩ = some (.slice Ak t ck) := hp2.cell 0
                  have z2 := hp2.frozen 0
                  go_simp
                  obtain ⟨x3, hx3⟩ : ∃ x, x = x2.setCell ⟨q.gp, 0, none⟩ (.slice Av (t + 1) cv) := ⟨_, rfl⟩
                  have hch3 : Chg (fun b => b = q.gp ∨ (Value.slice Ak t ck).ownBlock = some b) wr (x2.setCell ⟨q.gp, 0, none⟩ (.slice Av (t + 1) cv)) := hch2.setCell (p := ⟨q.gp, 0, none⟩) (fun _ => .inl rfl) _
                  refine hK.out _ _ hch3 (fun _ => ?_)
                  clear hK K
                  try simp only [Act.put, List.setIfInBounds_toArray, List.set_cons_zero, List.set_cons_succ, List.getElem_toArray, List.getElem_cons_succ, List.getElem_cons_zero]
                  refine wpAnyH_done (by kernel_rfl) ?_ _
                  obtain ⟨hp3, hw3, ho3, hc3⟩ := hpost x3 hx3
                  rw [← hx3]
                  have HP3 := Lib.hid hp3
                  have HW3 := Lib.hid hw3
                  have HO3 := Lib.hid ho3
                  have HC3 := Lib.hid hc3
                  have HN3 : Hid (∀ b, (Value.slice Av (t + 1) cv).ownBlock = some b → (Value.slice Ak t ck).ownBlock = some b ∨ wr.heap.size ≤ b) := Lib.hid (fun b e => (hn2 b e).imp id (fun h => Nat.le_trans hch1n.size h))
                  have HCX := Lib.hid (HIB.out.far0 HQW.out.1 HCt.out hc3)
                  clear hp3 hw3 ho3 hc3 hn2 hpost hp2 c2 z2 hch3 hch2 hch1 hch1n hch0 hch0n hcx2 hown2 hx1 hcx1 hsx1 hx3 cz cx1 cp
                  go_wp2_with (first | ((with_reducible show wpList _ _ _ (⟨some 116, .load 36 _, _, _, _, _⟩ :: _) _ _); refine wpList_load_Mid (cs := cellsS (ownN C S 0 t)) rfl rfl rfl (range_own0 HO3.out) Tryd.underlying36 rfl (by rw [cellsS_len (ownN_ok _ _ _ _)]; exact sizeSc) ?_) | (go_at_call 10; with_reducible refine (HUP.out _ HCX.out).mono ?_; rintro e x4 ⟨rfl, hcu⟩; have HCU := Lib.hid hcu; have HO4 := Lib.hid ((HO3.out.chg hcu (fun h => h)).mid0); clear hcu) | ((with_reducible show wpList _ _ _ (⟨_, .store 36 _ _, _, _, _, _⟩ :: _) _ _); refine wpList_store_Mid (n := 0) (xs := cellsS (ownN C S 0 (t + 1))) rfl rfl rfl rfl HO4.out rfl (by rw [cellsS_len (ownN_ok _ _ _ _), cellsS_len (ownN_ok _ _ _ _)]) (by rw [cellsS_len (ownN_ok _ _ _ _)]; exact sizeSc) (cellsS_one _) ?_; intro x5 hr5 hcs5 hs5; have HFIN := Lib.hid (HIB.out.fin0 HQW.out.1 HCt.out HC3.out HP3.out HW3.out HN3.out HCU.out (hcs5 (fun b => b = q.go) x4 (Chg.refl _ _) (fun _ => rfl)) hr5.unmid0); clear hr5 hcs5 hs5))
                  go_roundw
                  case rel => exact ⟨1, by omega, by first | rfl | go_num, by simpa using HFIN.out.1, HFIN.out.2⟩
                  case measure => simp [intOf]
                · rw [if_pos (by rfl)]
                  try simp only [List.getElem_toArray, List.getElem_cons_succ, List.getElem_cons_zero]
                  refine wp_new_row (v := fun g => .slice (some ⟨g, 0, none⟩) 1 1) (e := 36) (cs := cellsS (ownN C S 0 t)) (fun w_ => by have hh := HBK.out w_; unfold execOp; simp [Act.eval, hh]) ?_
                  intro x1 hx1 hcx1 hsx1
                  have hch1n : Chg none_ wr x1 := hch0n.trans hcx1
                  have hch1 : Chg (fun b => b = q.gp ∨ (Value.slice Ak t ck).ownBlock = some b) wr x1 := hch0.trans (hcx1.mono (fun _ _ h => h.elim))
                  have cx1 := (hch1n.cell 0 HGP.out (fun h => h)).trans cp
                  refine hK.out _ _ hch1 (fun _ => ?_)
                  clear hK K
                  try simp only [Act.put, List.setIfInBounds_toArray, List.set_cons_zero, List.set_cons_succ]
                  refine wpAnyH_ready (rs := [3]) (by kernel_rfl) (by simp) ?_
                  refine AllReadyH.cons rfl (fun K hK => ?_) AllReadyH.nil
                  rw [if_pos (by rfl)]
                  try simp only [List.getElem_toArray, List.getElem_cons_succ, List.getElem_cons_zero]
                  go_simp
                  refine hK.out _ _ hch1 (fun _ => ?_)
                  clear hK K
                  try simp only [Act.put, List.setIfInBounds_toArray, List.set_cons_zero, List.set_cons_succ, List.getElem_toArray, List.getElem_cons_succ, List.getElem_cons_zero]
                  refine wpAnyH_ready (rs := [9]) (by kernel_rfl) (by simp) ?_
                  refine AllReadyH.cons rfl (fun K hK => ?_) AllReadyH.nil
                  rw [if_pos (by rfl)]
                  try simp only [List.getElem_toArray, List.getElem_cons_succ, List.getElem_cons_zero]
                  refine wp_append_key (.tmp 103) (.tmp 108) rfl (ownN C S 0 t) (ownN_ok _ _ _ _) rfl (own_chgN HIB.out.w0 hch1n (fun _ _ h => h)) rfl hx1 (by omega) (Nat.le_trans HIB.out.pl.2.2.2.2.2 hch1n.size) ?_
                  intro v' x2 hown2 hcx2 hn2
                  obtain ⟨Av, cv, hv2⟩ := own_shape hown2
                  subst hv2
                  obtain ⟨hp2, hpost⟩ := HIB.out.app0 hch1n hcx2 hown2
                  have hch2 : Chg (fun b => b = q.gp ∨ (Value.slice Ak t ck).ownBlock = some b) wr x2 := hch1.trans (hcx2.mono (fun _ _ h => .inr h))
                  refine hK.out _ _ hch2 (fun _ => ?_)
                  clear hK K
                  try simp only [Act.put, List.setIfInBounds_toArray, List.set_cons_zero, List.set_cons_succ]
                  refine wpAnyH_take (i := 10) (v := .pointer (some ⟨q.gp, 0, none⟩)) rfl (by kernel_rfl) (by kernel_rfl) (by kernel_rfl) (by first | exact fun _ _ _ h => h | exact fun _ _ _ h => nomatch h.1) (Or.inl ⟨by rfl, fun w_ hw_ => by go_simp⟩) hch2 ?_
                  try simp only [Act.put, List.setIfInBounds_toArray, List.set_cons_zero, List.set_cons_succ, List.getElem_toArray, List.getElem_cons_succ, List.getElem_cons_zero]
                  refine wpAnyH_ready (rs := [11]) (by kernel_rfl) (by simp) ?_
                  refine AllReadyH.cons rfl (fun K hK => ?_) AllReadyH.nil
                  rw [if_pos (by rfl)]
                  try simp only [List.getElem_toArray, List.getElem_cons_succ, List.getElem_cons_zero]
                  have c2 : x2.cell? ⟨q.gp, 0, none⟩ = some (.slice Ak t ck) := hp2.cell 0
                  have z2 := hp2.frozen 0
                  go_simp
                  obtain ⟨x3, hx3⟩ : ∃ x, x = x2.setCell ⟨q.gp, 0, none⟩ (.slice Av (t + 1) cv) := ⟨_, rfl⟩
                  have hch3 : Chg (fun b => b = q.gp ∨ (Value.slice Ak t ck).ownBlock = some b) wr (x2.setCell ⟨q.gp, 0, none⟩ (.slice Av (t + 1) cv)) := hch2.setCell (p := ⟨q.gp, 0, none⟩) (fun _ => .inl rfl) _
                  refine hK.out _ _ hch3 (fun _ => ?_)
                  clear hK K
                  try simp only [Act.put, List.setIfInBounds_toArray, List.set_cons_zero, List.set_cons_succ, List.getElem_toArray, List.getElem_cons_succ, List.getElem_cons_zero]
                  refine wpAnyH_done (by kernel_rfl) ?_ _
                  obtain ⟨hp3, hw3, ho3, hc3⟩ := hpost x3 hx3
                  rw [← hx3]
                  have HP3 := Lib.hid hp3
                  have HW3 := Lib.hid hw3
                  have HO3 := Lib.hid ho3
                  have HC3 := Lib.hid hc3
                  have HN3 : Hid (∀ b, (Value.slice Av (t + 1) cv).ownBlock = some b → (Value.slice Ak t ck).ownBlock = some b ∨ wr.heap.size ≤ b) := Lib.hid (fun b e => (hn2 b e).imp id (fun h => Nat.le_trans hch1n.size h))
                  have HCX := Lib.hid (HIB.out.far0 HQW.out.1 HCt.out hc3)
                  clear hp3 hw3 ho3 hc3 hn2 hpost hp2 c2 z2 hch3 hch2 hch1 hch1n hch0 hch0n hcx2 hown2 hx1 hcx1 hsx1 hx3 cz cx1 cp
                  go_wp2_with (first | ((with_reducible show wpList _ _ _ (⟨some 116, .load 36 _, _, _, _, _⟩ :: _) _ _); refine wpList_load_Mid (cs := cellsS (ownN C S 0 t)) rfl rfl rfl (range_own0 HO3.out) Tryd.underlying36 rfl (by rw [cellsS_len (ownN_ok _ _ _ _)]; exact sizeSc) ?_) | (go_at_call 10; with_reducible refine (HUP.out _ HCX.out).mono ?_; rintro e x4 ⟨rfl, hcu⟩; have HCU := Lib.hid hcu; have HO4 := Lib.hid ((HO3.out.chg hcu (fun h => h)).mid0); clear hcu) | ((with_reducible show wpList _ _ _ (⟨_, .store 36 _ _, _, _, _, _⟩ :: _) _ _); refine wpList_store_Mid (n := 0) (xs := cellsS (ownN C S 0 (t + 1))) rfl rfl rfl rfl HO4.out rfl (by rw [cellsS_len (ownN_ok _ _ _ _), cellsS_len (ownN_ok _ _ _ _)]) (by rw [cellsS_len (ownN_ok _ _ _ _)]; exact sizeSc) (cellsS_one _) ?_; intro x5 hr5 hcs5 hs5; have HFIN := Lib.hid (HIB.out.fin0 HQW.out.1 HCt.out HC3.out HP3.out HW3.out HN3.out HCU.out (hcs5 (fun b => b = q.go) x4 (Chg.refl _ _) (fun _ => rfl)) hr5.unmid0); clear hr5 hcs5 hs5))
                  go_roundw
                  case rel => exact ⟨1, by omega, by first | rfl | go_num, by simpa using HFIN.out.1, HFIN.out.2⟩
                  case measure => simp [intOf]
            · have HIN2 : Hid (Inv C S q (t + 1) t (t + 1) t wr) := Lib.hid (by simpa using hik)
              clear hik
              as_aux_lemma =>
                obtain ⟨v0, v1, P, hib⟩ := HIN2.out
                obtain ⟨Ak, ck, hvk⟩ := own_shape hib.w1
                subst hvk
                have HIB := Lib.hid hib
                have cp : wr.cell? ⟨q.gp, 1, none⟩ = some (.slice Ak t ck) := hib.rp.cell 1
                have HGP := Lib.hid hib.rp.lt
                have HBK := Lib.hid (fun w => run_slice1 (ownN C S 1 t) (ownN_ok _ _ _ _) w)
                have HGO : Hid (∀ w', Chg (fun b => b = q.gp ∨ (Value.slice Ak t ck).ownBlock = some b) wr w' → w'.rangeAt q.go 61 (cellsS (ownN C S 1 t))) := Lib.hid (fun w' hc => range_own1 (HIB.out.keep1 hc) (cellsS_len (ownN_ok _ _ _ _)))
                have HUP : Hid (∀ w', Chg none_ W w' → Calls Tryd.prog 10 #[.agg (cellsS (ownN C S 1 t)).toArray] w' fun e w'' => e = .returned (.agg (cellsS (ownN C S 1 (t + 1))).toArray) ∧ Chg none_ w' w'') := Lib.hid (fun w' hc => Update_any _ w' (ownN_ok _ _ _ _) (HKK.out _ hc))
                clear hib
                simp only [show ((1 : Nat) : Int) = 1 from rfl]
                go_wp2
                try simp only [Act.put, List.setIfInBounds_toArray, List.set_cons_zero, List.set_cons_succ]
                have hch0n : Chg none_ wr wr.drew := (Chg.refl none_ wr).drew
                refine wp_region_held_drew (S := fun w' => Chg (fun b => b = q.gp ∨ (Value.slice Ak t ck).ownBlock = some b) wr w') (by kernel_rfl) ((Chg.refl _ wr).drew) (fun hch0 => ?_)
                generalize wr.drew = wz at hch0 hch0n ⊢
                refine wpAnyH_take (i := 0) (v := .int .i64 1) rfl (by kernel_rfl) (by kernel_rfl) (by kernel_rfl) (by first | exact fun _ _ _ h => h | exact fun _ _ _ h => nomatch h.1) (Or.inl ⟨by rfl, fun w_ hw_ => by go_simp⟩) hch0 ?_
                refine wpAnyH_take (i := 1) (v := .int .i64 1) rfl (by kernel_rfl) (by kernel_rfl) (by kernel_rfl) (by first | exact fun _ _ _ h => h | exact fun _ _ _ h => nomatch h.1) (Or.inl ⟨by rfl, fun w_ hw_ => by go_simp⟩) hch0 ?_
                refine wpAnyH_take (i := 4) (v := .slice (some ⟨q.go, 0, none⟩) 2 2) rfl (by kernel_rfl) (by kernel_rfl) (by kernel_rfl) (by first | exact fun _ _ _ h => h | exact fun _ _ _ h => nomatch h.1) (Or.inl ⟨by rfl, fun w_ hw_ => by go_simp⟩) hch0 ?_
                refine wpAnyH_take (i := 5) (v := .int .i64 1) rfl (by kernel_rfl) (by kernel_rfl) (by kernel_rfl) (by first | exact fun _ _ _ h => h | exact fun _ _ _ h => nomatch h.1) (Or.inl ⟨by rfl, fun w_ hw_ => by go_simp⟩) hch0 ?_
                try simp only [Act.put, List.setIfInBounds_toArray, List.set_cons_zero, List.set_cons_succ, List.getElem_toArray, List.getElem_cons_succ, List.getElem_cons_zero]
                refine wpAnyH_take (i := 2) (v := .pointer (some ⟨q.gp, 1, none⟩)) rfl (by kernel_rfl) (by kernel_rfl) (by kernel_rfl) (by first | exact fun _ _ _ h => h | exact fun _ _ _ h => nomatch h.1) (Or.inl ⟨by rfl, fun w_ hw_ => by go_simp⟩) hch0 ?_
                refine wpAnyH_take (i := 6) (v := .pointer (some ⟨q.go, 61, none⟩)) rfl (by kernel_rfl) (by kernel_rfl) (by kernel_rfl) (by first | exact fun _ _ _ h => h | exact fun _ _ _ h => nomatch h.1) (Or.inl ⟨by rfl, fun w_ hw_ => by go_simp⟩) hch0 ?_
                try simp only [Act.put, List.setIfInBounds_toArray, List.set_cons_zero, List.set_cons_succ, List.getElem_toArray, List.getElem_cons_succ, List.getElem_cons_zero]
                refine wpAnyH_take (i := 7) (v := .agg (cellsS (ownN C S 1 t)).toArray) rfl (by kernel_rfl) (by kernel_rfl) (by kernel_rfl) (by first | exact fun _ _ _ h => h | exact fun _ _ _ h => nomatch h.1) (yieldsIf_load_mid (by rfl) 36 _ rfl q.go 61 rfl (cellsS (ownN C S 1 t)) _ (fun w' hw' => HGO.out w' hw') Tryd.underlying36 rfl (by rw [cellsS_len (ownN_ok _ _ _ _)]; exact sizeSc)) hch0 ?_
                try simp only [Act.put, List.setIfInBounds_toArray, List.set_cons_zero, List.set_cons_succ, List.getElem_toArray, List.getElem_cons_succ, List.getElem_cons_zero]
                have cz := (hch0n.cell 1 HGP.out (fun h => h)).trans cp
                refine wpAnyH_ready (rs := [3, 8]) (by kernel_rfl) (by simp) ?_
                refine AllReadyH.cons rfl (fun K hK => ?_) (AllReadyH.cons rfl (fun K hK => ?_) AllReadyH.nil)
                · rw [if_pos (by rfl)]
                  try simp only [List.getElem_toArray, List.getElem_cons_succ, List.getElem_cons_zero]
                  go_simp
                  refine hK.out _ _ hch0 (fun _ => ?_)
                  clear hK K
                  try simp only [Act.put, List.setIfInBounds_toArray, List.set_cons_zero, List.set_cons_succ, List.getElem_toArray, List.getElem_cons_succ, List.getElem_cons_zero]
                  refine wpAnyH_ready (rs := [8]) (by kernel_rfl) (by simp) ?_
                  refine AllReadyH.cons rfl (fun K hK => ?_) AllReadyH.nil
                  rw [if_pos (by rfl)]
                  try simp only [List.getElem_toArray, List.getElem_cons_succ, List.getElem_cons_zero]
                  refine wp_new_row (v := fun g => .slice (some ⟨g, 0, none⟩) 1 1) (e := 36) (cs := cellsS (ownN C S 1 t)) (fun w_ => by have hh := HBK.out w_; unfold execOp; simp [Act.eval, hh]) ?_
                  intro x1 hx1 hcx1 hsx1
                  have hch1n : Chg none_ wr x1 := hch0n.trans hcx1
                  have hch1 : Chg (fun b => b = q.gp ∨ (Value.slice Ak t ck).ownBlock = some b) wr x1 := hch0.trans (hcx1.mono (fun _ _ h => h.elim))
                  have cx1 := (hch1n.cell 1 HGP.out (fun h => h)).trans cp
                  refine hK.out _ _ hch1 (fun _ => ?_)
                  clear hK K
                  try simp only [Act.put, List.setIfInBounds_toArray, List.set_cons_zero, List.set_cons_succ]
                  refine wpAnyH_ready (rs := [9]) (by kernel_rfl) (by simp) ?_
                  refine AllReadyH.cons rfl (fun K hK => ?_) AllReadyH.nil
                  rw [if_pos (by rfl)]
                  try simp only [List.getElem_toArray, List.getElem_cons_succ, List.getElem_cons_zero]
                  refine wp_append_key (.tmp 103) (.tmp 108) rfl (ownN C S 1 t) (ownN_ok _ _ _ _) rfl (own_chgN HIB.out.w1 hch1n (fun _ _ h => h)) rfl hx1 (by omega) (Nat.le_trans HIB.out.pl.2.2.2.2.2 hch1n.size) ?_
                  intro v' x2 hown2 hcx2 hn2
                  obtain ⟨Av, cv, hv2⟩ := own_shape hown2
                  subst hv2
                  obtain ⟨hp2, hpost⟩ := HIB.out.app1 hch1n hcx2 hown2
                  have hch2 : Chg (fun b => b = q.gp ∨ (Value.slice Ak t ck).ownBlock = some b) wr x2 := hch1.trans (hcx2.mono (fun _ _ h => .inr h))
                  refine hK.out _ _ hch2 (fun _ => ?_)
                  clear hK K
                  try simp only [Act.put, List.setIfInBounds_toArray, List.set_cons_zero, List.set_cons_succ]
                  refine wpAnyH_take (i := 10) (v := .pointer (some ⟨q.gp, 1, none⟩)) rfl (by kernel_rfl) (by kernel_rfl) (by kernel_rfl) (by first | exact fun _ _ _ h => h | exact fun _ _ _ h => nomatch h.1) (Or.inl ⟨by rfl, fun w_ hw_ => by go_simp⟩) hch2 ?_
                  try simp only [Act.put, List.setIfInBounds_toArray, List.set_cons_zero, List.set_cons_succ, List.getElem_toArray, List.getElem_cons_succ, List.getElem_cons_zero]
                  refine wpAnyH_ready (rs := [11]) (by kernel_rfl) (by simp) ?_
                  refine AllReadyH.cons rfl (fun K hK => ?_) AllReadyH.nil
                  rw [if_pos (by rfl)]
                  try simp only [List.getElem_toArray, List.getElem_cons_succ, List.getElem_cons_zero]
                  have c2 : x2.cell? ⟨q.gp, 1, none⟩ = some (.slice Ak t ck) := hp2.cell 1
                  have z2 := hp2.frozen 1
                  go_simp
                  obtain ⟨x3, hx3⟩ : ∃ x, x = x2.setCell ⟨q.gp, 1, none⟩ (.slice Av (t + 1) cv) := ⟨_, rfl⟩
                  have hch3 : Chg (fun b => b = q.gp ∨ (Value.slice Ak t ck).ownBlock = some b) wr (x2.setCell ⟨q.gp, 1, none⟩ (.slice Av (t + 1) cv)) := hch2.setCell (p := ⟨q.gp, 1, none⟩) (fun _ => .inl rfl) _
                  refine hK.out _ _ hch3 (fun _ => ?_)
                  clear hK K
                  try simp only [Act.put, List.setIfInBounds_toArray, List.set_cons_zero, List.set_cons_succ, List.getElem_toArray, List.getElem_cons_succ, List.getElem_cons_zero]
                  refine wpAnyH_done (by kernel_rfl) ?_ _
                  obtain ⟨hp3, hw3, ho3, hc3⟩ := hpost x3 hx3
                  rw [← hx3]
                  have HP3 := Lib.hid hp3
                  have HW3 := Lib.hid hw3
                  have HO3 := Lib.hid ho3
                  have HC3 := Lib.hid hc3
                  have HN3 : Hid (∀ b, (Value.slice Av (t + 1) cv).ownBlock = some b → (Value.slice Ak t ck).ownBlock = some b ∨ wr.heap.size ≤ b) := Lib.hid (fun b e => (hn2 b e).imp id (fun h => Nat.le_trans hch1n.size h))
                  have HCX := Lib.hid (HIB.out.far1 HQW.out.1 HCt.out hc3)
                  clear hp3 hw3 ho3 hc3 hn2 hpost hp2 c2 z2 hch3 hch2 hch1 hch1n hch0 hch0n hcx2 hown2 hx1 hcx1 hsx1 hx3 cz cx1 cp
                  go_wp2_with (first | ((with_reducible show wpList _ _ _ (⟨some 116, .load 36 _, _, _, _, _⟩ :: _) _ _); refine wpList_load_Mid (cs := cellsS (ownN C S 1 t)) rfl rfl rfl (range_own1 HO3.out (cellsS_len (ownN_ok _ _ _ _))) Tryd.underlying36 rfl (by rw [cellsS_len (ownN_ok _ _ _ _)]; exact sizeSc) ?_) | (go_at_call 10; with_reducible refine (HUP.out _ HCX.out).mono ?_; rintro e x4 ⟨rfl, hcu⟩; have HCU := Lib.hid hcu; have HO4 := Lib.hid ((HO3.out.chg hcu (fun h => h)).mid1); clear hcu) | ((with_reducible show wpList _ _ _ (⟨_, .store 36 _ _, _, _, _, _⟩ :: _) _ _); refine wpList_store_Mid (n := 61) (xs := cellsS (ownN C S 1 (t + 1))) rfl rfl (cellsS_len (ownN_ok _ _ _ _)).symm rfl HO4.out rfl (by rw [cellsS_len (ownN_ok _ _ _ _), cellsS_len (ownN_ok _ _ _ _)]) (by rw [cellsS_len (ownN_ok _ _ _ _)]; exact sizeSc) (cellsS_one _) ?_; intro x5 hr5 hcs5 hs5; have HFIN := Lib.hid (HIB.out.fin1 HQW.out.1 HCt.out HC3.out HP3.out HW3.out HN3.out HCU.out (hcs5 (fun b => b = q.go) x4 (Chg.refl _ _) (fun _ => rfl)) hr5.unmid); clear hr5 hcs5 hs5))
                  go_roundw
                  case rel => exact ⟨2, by omega, by first | rfl | go_num, by simpa using HFIN.out.1, HFIN.out.2⟩
                  case measure => simp [intOf]
                · rw [if_pos (by rfl)]
                  try simp only [List.getElem_toArray, List.getElem_cons_succ, List.getElem_cons_zero]
                  refine wp_new_row (v := fun g => .slice (some ⟨g, 0, none⟩) 1 1) (e := 36) (cs := cellsS (ownN C S 1 t)) (fun w_ => by have hh := HBK.out w_; unfold execOp; simp [Act.eval, hh]) ?_
                  intro x1 hx1 hcx1 hsx1
                  have hch1n : Chg none_ wr x1 := hch0n.trans hcx1
                  have hch1 : Chg (fun b => b = q.gp ∨ (Value.slice Ak t ck).ownBlock = some b) wr x1 := hch0.trans (hcx1.mono (fun _ _ h => h.elim))
                  have cx1 := (hch1n.cell 1 HGP.out (fun h => h)).trans cp
                  refine hK.out _ _ hch1 (fun _ => ?_)
                  clear hK K
                  try simp only [Act.put, List.setIfInBounds_toArray, List.set_cons_zero, List.set_cons_succ]
                  refine wpAnyH_ready (rs := [3]) (by kernel_rfl) (by simp) ?_
                  refine AllReadyH.cons rfl (fun K hK => ?_) AllReadyH.nil
                  rw [if_pos (by rfl)]
                  try simp only [List.getElem_toArray, List.getElem_cons_succ, List.getElem_cons_zero]
                  go_simp
                  refine hK.out _ _ hch1 (fun _ => ?_)
                  clear hK K
                  try simp only [Act.put, List.setIfInBounds_toArray, List.set_cons_zero, List.set_cons_succ, List.getElem_toArray, List.getElem_cons_succ, List.getElem_cons_zero]
                  refine wpAnyH_ready (rs := [9]) (by kernel_rfl) (by simp) ?_
                  refine AllReadyH.cons rfl (fun K hK => ?_) AllReadyH.nil
                  rw [if_pos (by rfl)]
                  try simp only [List.getElem_toArray, List.getElem_cons_succ, List.getElem_cons_zero]
                  refine wp_append_key (.tmp 103) (.tmp 108) rfl (ownN C S 1 t) (ownN_ok _ _ _ _) rfl (own_chgN HIB.out.w1 hch1n (fun _ _ h => h)) rfl hx1 (by omega) (Nat.le_trans HIB.out.pl.2.2.2.2.2 hch1n.size) ?_
                  intro v' x2 hown2 hcx2 hn2
                  obtain ⟨Av, cv, hv2⟩ := own_shape hown2
                  subst hv2
                  obtain ⟨hp2, hpost⟩ := HIB.out.app1 hch1n hcx2 hown2
                  have hch2 : Chg (fun b => b = q.gp ∨ (Value.slice Ak t ck).ownBlock = some b) wr x2 := hch1.trans (hcx2.mono (fun _ _ h => .inr h))
                  refine hK.out _ _ hch2 (fun _ => ?_)
                  clear hK K
                  try simp only [Act.put, List.setIfInBounds_toArray, List.set_cons_zero, List.set_cons_succ]
                  refine wpAnyH_take (i := 10) (v := .pointer (some ⟨q.gp, 1, none⟩)) rfl (by kernel_rfl) (by kernel_rfl) (by kernel_rfl) (by first | exact fun _ _ _ h => h | exact fun _ _ _ h => nomatch h.1) (Or.inl ⟨by rfl, fun w_ hw_ => by go_simp⟩) hch2 ?_
                  try simp only [Act.put, List.setIfInBounds_toArray, List.set_cons_zero, List.set_cons_succ, List.getElem_toArray, List.getElem_cons_succ, List.getElem_cons_zero]
                  refine wpAnyH_ready (rs := [11]) (by kernel_rfl) (by simp) ?_
                  refine AllReadyH.cons rfl (fun K hK => ?_) AllReadyH.nil
                  rw [if_pos (by rfl)]
                  try simp only [List.getElem_toArray, List.getElem_cons_succ, List.getElem_cons_zero]
                  have c2 : x2.cell? ⟨q.gp, 1, none⟩ = some (.slice Ak t ck) := hp2.cell 1
                  have z2 := hp2.frozen 1
                  go_simp
                  obtain ⟨x3, hx3⟩ : ∃ x, x = x2.setCell ⟨q.gp, 1, none⟩ (.slice Av (t + 1) cv) := ⟨_, rfl⟩
                  have hch3 : Chg (fun b => b = q.gp ∨ (Value.slice Ak t ck).ownBlock = some b) wr (x2.setCell ⟨q.gp, 1, none⟩ (.slice Av (t + 1) cv)) := hch2.setCell (p := ⟨q.gp, 1, none⟩) (fun _ => .inl rfl) _
                  refine hK.out _ _ hch3 (fun _ => ?_)
                  clear hK K
                  try simp only [Act.put, List.setIfInBounds_toArray, List.set_cons_zero, List.set_cons_succ, List.getElem_toArray, List.getElem_cons_succ, List.getElem_cons_zero]
                  refine wpAnyH_done (by kernel_rfl) ?_ _
                  obtain ⟨hp3, hw3, ho3, hc3⟩ := hpost x3 hx3
                  rw [← hx3]
                  have HP3 := Lib.hid hp3
                  have HW3 := Lib.hid hw3
                  have HO3 := Lib.hid ho3
                  have HC3 := Lib.hid hc3
                  have HN3 : Hid (∀ b, (Value.slice Av (t + 1) cv).ownBlock = some b → (Value.slice Ak t ck).ownBlock = some b ∨ wr.heap.size ≤ b) := Lib.hid (fun b e => (hn2 b e).imp id (fun h => Nat.le_trans hch1n.size h))
                  have HCX := Lib.hid (HIB.out.far1 HQW.out.1 HCt.out hc3)
                  clear hp3 hw3 ho3 hc3 hn2 hpost hp2 c2 z2 hch3 hch2 hch1 hch1n hch0 hch0n hcx2 hown2 hx1 hcx1 hsx1 hx3 cz cx1 cp
                  go_wp2_with (first | ((with_reducible show wpList _ _ _ (⟨some 116, .load 36 _, _, _, _, _⟩ :: _) _ _); refine wpList_load_Mid (cs := cellsS (ownN C S 1 t)) rfl rfl rfl (range_own1 HO3.out (cellsS_len (ownN_ok _ _ _ _))) Tryd.underlying36 rfl (by rw [cellsS_len (ownN_ok _ _ _ _)]; exact sizeSc) ?_) | (go_at_call 10; with_reducible refine (HUP.out _ HCX.out).mono ?_; rintro e x4 ⟨rfl, hcu⟩; have HCU := Lib.hid hcu; have HO4 := Lib.hid ((HO3.out.chg hcu (fun h => h)).mid1); clear hcu) | ((with_reducible show wpList _ _ _ (⟨_, .store 36 _ _, _, _, _, _⟩ :: _) _ _); refine wpList_store_Mid (n := 61) (xs := cellsS (ownN C S 1 (t + 1))) rfl rfl (cellsS_len (ownN_ok _ _ _ _)).symm rfl HO4.out rfl (by rw [cellsS_len (ownN_ok _ _ _ _), cellsS_len (ownN_ok _ _ _ _)]) (by rw [cellsS_len (ownN_ok _ _ _ _)]; exact sizeSc) (cellsS_one _) ?_; intro x5 hr5 hcs5 hs5; have HFIN := Lib.hid (HIB.out.fin1 HQW.out.1 HCt.out HC3.out HP3.out HW3.out HN3.out HCU.out (hcs5 (fun b => b = q.go) x4 (Chg.refl _ _) (fun _ => rfl)) hr5.unmid); clear hr5 hcs5 hs5))
                  go_roundw
                  case rel => exact ⟨2, by omega, by first | rfl | go_num, by simpa using HFIN.out.1, HFIN.out.2⟩
                  case measure => simp [intOf]
            · have HIN2 : Hid (Inv C S q (t + 1) t (t + 1) (t + 1) wr) := Lib.hid (by simpa using hik)
              clear hik
              simp only [show ((2 : Nat) : Int) = 2 from rfl]
              go_wp2
              try simp only [Act.put, List.setIfInBounds_toArray, List.set_cons_zero, List.set_cons_succ]
              go_loopw [8, 17, 18, 19, 20, 21, 22, 23, 24, 25, 26] (fun _ kv _ _ _ _ _ _ _ _ _ wk => ∃ k : Nat, k ≤ 2 ∧ kv = .int .i64 k ∧ Inv C S q (t + 1) (if k = 0 then t else t + 1) (t + 1) (t + 1) wk ∧ Chg none_ W wk) (fun _ kv _ _ _ _ _ _ _ _ _ _ => 2 - (intOf kv).toNat)
              case atStart => exact ⟨0, Nat.zero_le _, rfl, by simpa using HIN2.out, HCt.out⟩
              case round =>
                obtain ⟨k, hk, rfl, hik, hck⟩ := hrel
                have HCk := Lib.hid hck
                obtain ⟨wk, hwk⟩ : ∃ x, x = wr := ⟨_, rfl⟩
                subst hwk
                clear hck
                have hk3 : k = 0 ∨ k = 1 ∨ k = 2 := by omega
                rcases hk3 with rfl | rfl | rfl
                all_goals clear hk
                · have HINk : Hid (Inv C S q (t + 1) t (t + 1) (t + 1) wk) := Lib.hid (by simpa using hik)
                  clear hik
                  simp only [show ((0 : Nat) : Int) = 0 from rfl]
                  go_wp2
                  as_aux_lemma =>
                    have HSE : Hid (∀ w', Chg none_ wk w' → Calls Tryd.prog 11 #[.pointer (some ⟨q.gA, 0, none⟩), .int .i64 1, .int .i64 i, .slice none 0 0, .slice At text.length capt] w' fun e w'' => ∃ A c, e = .returned (.slice A (text.length + 16) c) ∧ text.length + 16 ≤ c ∧ View w'' (fun b => w'.heap.size ≤ b) A (text.length + 16) (u8s (ctN C S 0 (t + 1) i text)) ∧ Chg none_ w' w'') := Lib.hid (fun w' hc => seal_inv 0 (by decide) i text _ At capt (HINk.out.quiet hc) (HTV.out w' (HCk.out.trans hc)) hq4' HTB.out)
                    try simp only [Act.put, List.setIfInBounds_toArray, List.set_cons_zero, List.set_cons_succ]
                    have CXA : Hid (∀ w', Chg none_ wk w' → w'.cell? ⟨q.gx, 0, none⟩ = some (.pointer (some ⟨q.gA, 0, none⟩))) := Lib.hid (fun w' hc => (HINk.out.quiet hc).ringsX.1)
                    have CXB : Hid (∀ w', Chg none_ wk w' → w'.cell? ⟨q.gx, 1, none⟩ = some (.pointer (some ⟨q.gB, 0, none⟩))) := Lib.hid (fun w' hc => (HINk.out.quiet hc).ringsX.2)
                    refine wp_region_held_drew (S := fun w' => Chg none_ wk w') (by kernel_rfl) ((Chg.refl none_ wk).drew) (fun hch0 => ?_)
                    generalize wk.drew = wz at hch0 ⊢
                    refine wpAnyH_take (i := 0) (v := .slice (some ⟨q.gx, 0, none⟩) 2 2) rfl (by kernel_rfl) (by kernel_rfl) (by kernel_rfl) (by first | exact fun _ _ _ h => h | exact fun _ _ _ h => nomatch h.1) (Or.inl ⟨by rfl, fun w_ hw_ => by go_simp⟩) hch0 ?_
                    refine wpAnyH_take (i := 1) (v := .int .i64 0) rfl (by kernel_rfl) (by kernel_rfl) (by kernel_rfl) (by first | exact fun _ _ _ h => h | exact fun _ _ _ h => nomatch h.1) (Or.inl ⟨by rfl, fun w_ hw_ => by go_simp⟩) hch0 ?_
                    refine wpAnyH_take (i := 4) (v := .slice (some ⟨q.gx, 0, none⟩) 2 2) rfl (by kernel_rfl) (by kernel_rfl) (by kernel_rfl) (by first | exact fun _ _ _ h => h | exact fun _ _ _ h => nomatch h.1) (Or.inl ⟨by rfl, fun w_ hw_ => by go_simp⟩) hch0 ?_
                    refine wpAnyH_take (i := 5) (v := .int .i64 0) rfl (by kernel_rfl) (by kernel_rfl) (by kernel_rfl) (by first | exact fun _ _ _ h => h | exact fun _ _ _ h => nomatch h.1) (Or.inl ⟨by rfl, fun w_ hw_ => by go_simp⟩) hch0 ?_
                    try simp only [Act.put, List.setIfInBounds_toArray, List.set_cons_zero, List.set_cons_succ, List.getElem_toArray, List.getElem_cons_succ, List.getElem_cons_zero]
                    refine wpAnyH_take (i := 2) (v := .pointer (some ⟨q.gx, 0, none⟩)) rfl (by kernel_rfl) (by kernel_rfl) (by kernel_rfl) (by first | exact fun _ _ _ h => h | exact fun _ _ _ h => nomatch h.1) (Or.inl ⟨by rfl, fun w_ hw_ => by go_simp⟩) hch0 ?_
                    refine wpAnyH_take (i := 6) (v := .int .i64 1) rfl (by kernel_rfl) (by kernel_rfl) (by kernel_rfl) (by first | exact fun _ _ _ h => h | exact fun _ _ _ h => nomatch h.1) (Or.inl ⟨by rfl, fun w_ hw_ => by first | (go_simp; done) | (go_simp; rfl)⟩) hch0 ?_
                    try simp only [Act.put, List.setIfInBounds_toArray, List.set_cons_zero, List.set_cons_succ, List.getElem_toArray, List.getElem_cons_succ, List.getElem_cons_zero]
                    refine wpAnyH_take (i := 3) (v := .pointer (some ⟨q.gA, 0, none⟩)) rfl (by kernel_rfl) (by kernel_rfl) (by kernel_rfl) (by first | exact fun _ _ _ h => h | exact fun _ _ _ h => nomatch h.1) (Or.inl ⟨by rfl, fun w_ hw_ => by have hh := CXA.out w_ hw_; go_simp⟩) hch0 ?_
                    refine wpAnyH_take (i := 7) (v := .pointer (some ⟨q.gx, 1, none⟩)) rfl (by kernel_rfl) (by kernel_rfl) (by kernel_rfl) (by first | exact fun _ _ _ h => h | exact fun _ _ _ h => nomatch h.1) (Or.inl ⟨by rfl, fun w_ hw_ => by go_simp⟩) hch0 ?_
                    try simp only [Act.put, List.setIfInBounds_toArray, List.set_cons_zero, List.set_cons_succ, List.getElem_toArray, List.getElem_cons_succ, List.getElem_cons_zero]
                    refine wpAnyH_take (i := 8) (v := .pointer (some ⟨q.gB, 0, none⟩)) rfl (by kernel_rfl) (by kernel_rfl) (by kernel_rfl) (by first | exact fun _ _ _ h => h | exact fun _ _ _ h => nomatch h.1) (Or.inl ⟨by rfl, fun w_ hw_ => by have hh := CXB.out w_ hw_; go_simp⟩) hch0 ?_
                    try simp only [Act.put, List.setIfInBounds_toArray, List.set_cons_zero, List.set_cons_succ, List.getElem_toArray, List.getElem_cons_succ, List.getElem_cons_zero]
                    refine wpAnyH_take (i := 9) (v := .pointer (some ⟨q.gA, 0, none⟩)) rfl (by kernel_rfl) (by kernel_rfl) (by kernel_rfl) (by first | exact fun _ _ _ h => h | exact fun _ _ _ h => nomatch h.1) (Or.inl ⟨by rfl, fun w_ hw_ => by go_simp⟩) hch0 ?_
                    refine wpAnyH_take (i := 10) (v := .pointer (some ⟨q.gB, 0, none⟩)) rfl (by kernel_rfl) (by kernel_rfl) (by kernel_rfl) (by first | exact fun _ _ _ h => h | exact fun _ _ _ h => nomatch h.1) (Or.inl ⟨by rfl, fun w_ hw_ => by go_simp⟩) hch0 ?_
                    try simp only [Act.put, List.setIfInBounds_toArray, List.set_cons_zero, List.set_cons_succ, List.getElem_toArray, List.getElem_cons_succ, List.getElem_cons_zero]
                    refine wpAnyH_done (by kernel_rfl) ?_ _
                    go_wp2_with (first | (go_at_call 11; with_reducible refine (HSE.out _ hch0).mono ?_; rintro e s1 ⟨A21, c21, rfl, hl21, hv21, hcs1⟩; have HL21 := Lib.hid hl21; have HINs := Lib.hid (HINk.out.quiet (hch0.trans hcs1)); have HCs := Lib.hid (HCk.out.trans (hch0.trans hcs1)); have HVs := Lib.hid (hv21.mono (T' := fun b => b < s1.heap.size) (fun b hb _ => hb)); clear hv21 hcs1 hl21))
                    try simp only [Act.put, List.setIfInBounds_toArray, List.set_cons_zero, List.set_cons_succ]
                    clear HSE CXA CXB hch0
                    obtain ⟨Ap, cp, hpc, hpl, hpr⟩ := HINs.out.past 0 (by decide)
                    have HPC := Lib.hid hpc
                    have HPL := Lib.hid hpl
                    have HPR := Lib.hid hpr
                    have HPO : Hid (∀ w' m, Chg none_ s1 w' → Calls Tryd.prog 12 #[.agg (cellsS (ownN C S 0 m)).toArray, .int .i64 i, .slice none 0 0, .slice A21 (text.length + 16) c21] w' fun e w'' => ∃ v, e = .returned (.tuple #[v, .int .i64 (openK (ownN C S 0 m) i [] (ctN C S 0 (t + 1) i text)).2]) ∧ Owned w'' w'.heap.size v (openK (ownN C S 0 m) i [] (ctN C S 0 (t + 1) i text)).1 ∧ Chg none_ w' w'') := Lib.hid (fun w' m hc => past_open 0 ((t + 1)) m i text A21 c21 _ (HVs.out.chg hc (fun _ _ h => h)) HL21.out hq4' HTB.out)
                    clear hpc hpl hpr
                    go_loopw [22, 23, 24] (fun mv _ _ wr => ∃ m : Nat, m ≤ (t + 1) ∧ mv = .int .i64 m ∧ Hid (∀ m', m' < m → (openK (ownN C S 0 m') i [] (ctN C S 0 (t + 1) i text)).2 ≠ 0) ∧ Chg none_ s1 wr) (fun mv _ _ _ => (t + 1) - (intOf mv).toNat)
                    case atStart => exact ⟨0, Nat.zero_le _, rfl, Lib.hid (fun m' h => absurd h (by omega)), Chg.refl _ _⟩
                    case round =>
                      obtain ⟨m, hm, rfl, HNO, hchm⟩ := hrel
                      have cg := (hchm.cell 0 HPL.out (fun h => h)).trans HPC.out
                      have HCm := Lib.hid hchm
                      by_cases hlm : m < (t + 1)
                      · obtain ⟨gp, hAp, hgl, hrg⟩ := HPR.out m hlm
                        subst hAp
                        have HRG : Hid (wr.rangeAt gp (m * 61) (cellsS (ownN C S 0 m))) := Lib.hid (fun j v hv => (hchm.cell _ hgl (fun h => h)).trans (hrg j v hv))
                        have HPM := Lib.hid (HPO.out wr m hchm)
                        have HMO := Lib.hid (ownN_ok C S 0 m)
                        obtain ⟨z, hz⟩ : ∃ z, z = (openK (ownN C S 0 m) i [] (ctN C S 0 (t + 1) i text)).2 := ⟨_, rfl⟩
                        rw [← hz] at HPM
                        have HZ := Lib.hid hz
                        have q5 : (m : Int) < ((t + 1) : Int) := by omega
                        have q6 : (0 : Int) ≤ (m : Int) := by omega
                        have HLM := Lib.hid hlm
                        clear hm hchm hlm hgl hrg hz
                        by_cases hz0 : z = 0
                        · subst hz0
                          go_wp2_with (first | ((with_reducible show wpList _ _ _ (⟨some 154, .load 36 _, _, _, _, _⟩ :: _) _ _); refine wpList_load_Mid (cs := cellsS (ownN C S 0 m)) rfl rfl rfl (HRG.out) Tryd.underlying36 rfl (by rw [cellsS_len HMO.out]; exact sizeSc) ?_) | (go_at_call 12; with_reducible refine HPM.out.mono ?_; rintro e o1 ⟨vo, rfl, _, hco⟩; have HCo := Lib.hid hco; clear hco))
                          go_ret
                          exact ⟨rfl, (HCs.out.trans HCm.out).trans HCo.out⟩
                        · go_wp2_with (first | ((with_reducible show wpList _ _ _ (⟨some 154, .load 36 _, _, _, _, _⟩ :: _) _ _); refine wpList_load_Mid (cs := cellsS (ownN C S 0 m)) rfl rfl rfl (HRG.out) Tryd.underlying36 rfl (by rw [cellsS_len HMO.out]; exact sizeSc) ?_) | (go_at_call 12; with_reducible refine HPM.out.mono ?_; rintro e o1 ⟨vo, rfl, _, hco⟩; have HCo := Lib.hid hco; clear hco))
                          go_roundw
                          case rel => exact ⟨m + 1, by have := HLM.out; omega, by go_num, Lib.hid (fun m' h => by
                            rcases Nat.lt_or_ge m' m with h2 | h2
                            · exact HNO.out m' h2
                            · have : m' = m := by omega
                              subst this
                              rw [← HZ.out]; exact hz0), HCm.out.trans HCo.out⟩
                          case measure => have := HLM.out; simp [intOf]; omega
                      · have hmt : m = (t + 1) := by omega
                        have q5 : ¬ (m : Int) < ((t + 1) : Int) := by omega
                        have HPAST : Hid (∀ m', m' < (t + 1) → (openK (ownN C S 0 m') i [] (ctN C S 0 (t + 1) i text)).2 ≠ 0) := Lib.hid (fun m' h => HNO.out m' (by omega))
                        have HINm := Lib.hid (HINs.out.quiet hchm)
                        have HCw := Lib.hid (HCs.out.trans hchm)
                        have HVm := Lib.hid (HVs.out.chg hchm (fun _ _ h => h))
                        obtain ⟨bp, hbp⟩ : ∃ b, b = decide (((t + 1)) % 2 = 1) := ⟨_, rfl⟩
                        have HOPX : Hid (∀ w', Inv C S q (t + 1) t ((t + 1)) ((t + 1)) w' → Chg none_ W w' → View w' (fun b => b < s1.heap.size) A21 (text.length + 16) (u8s (ctN C S 0 (t + 1) i text)) → Calls Tryd.prog 13 #[.pointer (some ⟨q.gB, 0, none⟩), .int .i64 1, .bool bp, .int .i64 i, .slice none 0 0, .slice A21 (text.length + 16) c21] w' fun e w'' => ∃ A c, e = .returned (.tuple #[.slice A text.length c, .int .i64 0]) ∧ View w'' (fun b => w'.heap.size ≤ b) A text.length (u8s text) ∧ Inv C S q ((t + 1)) ((t + 1)) ((t + 1)) ((t + 1)) w'' ∧ Chg (· = q.gB) w' w'') := Lib.hid (fun w' hI hC hV => by rw [hbp]; exact open_behind 0 t (by decide) i text c21 _ A21 hI (HKK.out _ hC) HPAST.out hV HL21.out hq4' HTB.out)
                        have HPHN : Hid (∀ w', Inv C S q (t + 1) t ((t + 1)) ((t + 1)) w' → Calls Tryd.prog 14 #[.pointer (some ⟨q.gA, 0, none⟩)] w' fun e w'' => e = .returned (.bool bp) ∧ Chg none_ w' w'') := Lib.hid (fun w' hI => by rw [hbp]; exact phase_inv 0 (by decide) hI)
                        have HPH0 : Hid (∀ w', Inv C S q ((t + 1)) ((t + 1)) ((t + 1)) ((t + 1)) w' → Calls Tryd.prog 14 #[.pointer (some ⟨q.gA, 0, none⟩)] w' fun e w'' => e = .returned (.bool bp) ∧ Chg none_ w' w'') := Lib.hid (fun w' hI => by rw [hbp]; exact phase_inv 0 (by decide) hI)
                        have HPH1 : Hid (∀ w', Inv C S q ((t + 1)) ((t + 1)) ((t + 1)) ((t + 1)) w' → Calls Tryd.prog 14 #[.pointer (some ⟨q.gB, 0, none⟩)] w' fun e w'' => e = .returned (.bool bp) ∧ Chg none_ w' w'') := Lib.hid (fun w' hI => by rw [hbp]; exact phase_inv 1 (by decide) hI)
                        clear hbp
                        clear hm hchm hlm HNO hmt
                        go_wp2_with (first | (go_at_call 14; with_reducible refine (HPHN.out _ HINm.out).mono ?_; rintro e f1 ⟨rfl, hcp⟩; have HCp := Lib.hid (HCw.out.trans hcp); have HINp := Lib.hid (HINm.out.quiet hcp); have HVp := Lib.hid (HVm.out.chg hcp (fun _ _ h => h)); clear hcp HINm HPHN) | (go_at_call 13; with_reducible refine (HOPX.out _ HINp.out HCp.out HVp.out).mono ?_; rintro e f2 ⟨A25, c25, rfl, hv25, hi25, hc25⟩; have HINf := Lib.hid hi25; have HCf := Lib.hid (HCp.out.andThen hc25 (fun b hb e => by have := HQW.out; omega)); have HVf := Lib.hid hv25; clear hv25 hi25 hc25 HINp) | (go_at_call 15; with_reducible refine (HSA.out _ _ _ _ HCf.out HVf.out).mono ?_; rintro e f3 ⟨rfl, nk, hf3⟩; have hx3 := (show Chg none_ f2 f3 by (rw [hf3]; exact (Chg.refl none_ f2).drewN nk)); have HCg := Lib.hid (HCf.out.trans hx3); have HINg := Lib.hid (HINf.out.quiet hx3); clear hf3 hx3) | (go_at_call 14; with_reducible refine (HPH0.out _ HINg.out).mono ?_; rintro e f4 ⟨rfl, hcp⟩; have HCh := Lib.hid (HCg.out.trans hcp); have HINh := Lib.hid (HINg.out.quiet hcp); clear hcp HINg) | (go_at_call 14; with_reducible refine (HPH1.out _ HINh.out).mono ?_; rintro e f5 ⟨rfl, hcp⟩; have HCi := Lib.hid (HCh.out.trans hcp); have HINi := Lib.hid (HINh.out.quiet hcp); clear hcp))
                        go_roundw
                        case rel => exact ⟨1, by omega, rfl, by simpa using HINi.out, HCi.out⟩
                        case measure => simp [intOf]
                · have HINk : Hid (Inv C S q (t + 1) (t + 1) (t + 1) (t + 1) wk) := Lib.hid (by simpa using hik)
                  clear hik
                  simp only [show ((1 : Nat) : Int) = 1 from rfl]
                  go_wp2
                  as_aux_lemma =>
                    have HSE : Hid (∀ w', Chg none_ wk w' → Calls Tryd.prog 11 #[.pointer (some ⟨q.gB, 0, none⟩), .int .i64 1, .int .i64 i, .slice none 0 0, .slice At text.length capt] w' fun e w'' => ∃ A c, e = .returned (.slice A (text.length + 16) c) ∧ text.length + 16 ≤ c ∧ View w'' (fun b => w'.heap.size ≤ b) A (text.length + 16) (u8s (ctN C S 1 (t + 1) i text)) ∧ Chg none_ w' w'') := Lib.hid (fun w' hc => seal_inv 1 (by decide) i text _ At capt (HINk.out.quiet hc) (HTV.out w' (HCk.out.trans hc)) hq4' HTB.out)
                    try simp only [Act.put, List.setIfInBounds_toArray, List.set_cons_zero, List.set_cons_succ]
                    have CXA : Hid (∀ w', Chg none_ wk w' → w'.cell? ⟨q.gx, 0, none⟩ = some (.pointer (some ⟨q.gA, 0, none⟩))) := Lib.hid (fun w' hc => (HINk.out.quiet hc).ringsX.1)
                    have CXB : Hid (∀ w', Chg none_ wk w' → w'.cell? ⟨q.gx, 1, none⟩ = some (.pointer (some ⟨q.gB, 0, none⟩))) := Lib.hid (fun w' hc => (HINk.out.quiet hc).ringsX.2)
                    refine wp_region_held_drew (S := fun w' => Chg none_ wk w') (by kernel_rfl) ((Chg.refl none_ wk).drew) (fun hch0 => ?_)
                    generalize wk.drew = wz at hch0 ⊢
                    refine wpAnyH_take (i := 0) (v := .slice (some ⟨q.gx, 0, none⟩) 2 2) rfl (by kernel_rfl) (by kernel_rfl) (by kernel_rfl) (by first | exact fun _ _ _ h => h | exact fun _ _ _ h => nomatch h.1) (Or.inl ⟨by rfl, fun w_ hw_ => by go_simp⟩) hch0 ?_
                    refine wpAnyH_take (i := 1) (v := .int .i64 1) rfl (by kernel_rfl) (by kernel_rfl) (by kernel_rfl) (by first | exact fun _ _ _ h => h | exact fun _ _ _ h => nomatch h.1) (Or.inl ⟨by rfl, fun w_ hw_ => by go_simp⟩) hch0 ?_
                    refine wpAnyH_take (i := 4) (v := .slice (some ⟨q.gx, 0, none⟩) 2 2) rfl (by kernel_rfl) (by kernel_rfl) (by kernel_rfl) (by first | exact fun _ _ _ h => h | exact fun _ _ _ h => nomatch h.1) (Or.inl ⟨by rfl, fun w_ hw_ => by go_simp⟩) hch0 ?_
                    refine wpAnyH_take (i := 5) (v := .int .i64 1) rfl (by kernel_rfl) (by kernel_rfl) (by kernel_rfl) (by first | exact fun _ _ _ h => h | exact fun _ _ _ h => nomatch h.1) (Or.inl ⟨by rfl, fun w_ hw_ => by go_simp⟩) hch0 ?_
                    try simp only [Act.put, List.setIfInBounds_toArray, List.set_cons_zero, List.set_cons_succ, List.getElem_toArray, List.getElem_cons_succ, List.getElem_cons_zero]
                    refine wpAnyH_take (i := 2) (v := .pointer (some ⟨q.gx, 1, none⟩)) rfl (by kernel_rfl) (by kernel_rfl) (by kernel_rfl) (by first | exact fun _ _ _ h => h | exact fun _ _ _ h => nomatch h.1) (Or.inl ⟨by rfl, fun w_ hw_ => by go_simp⟩) hch0 ?_
                    refine wpAnyH_take (i := 6) (v := .int .i64 0) rfl (by kernel_rfl) (by kernel_rfl) (by kernel_rfl) (by first | exact fun _ _ _ h => h | exact fun _ _ _ h => nomatch h.1) (Or.inl ⟨by rfl, fun w_ hw_ => by first | (go_simp; done) | (go_simp; rfl)⟩) hch0 ?_
                    try simp only [Act.put, List.setIfInBounds_toArray, List.set_cons_zero, List.set_cons_succ, List.getElem_toArray, List.getElem_cons_succ, List.getElem_cons_zero]
                    refine wpAnyH_take (i := 3) (v := .pointer (some ⟨q.gB, 0, none⟩)) rfl (by kernel_rfl) (by kernel_rfl) (by kernel_rfl) (by first | exact fun _ _ _ h => h | exact fun _ _ _ h => nomatch h.1) (Or.inl ⟨by rfl, fun w_ hw_ => by have hh := CXB.out w_ hw_; go_simp⟩) hch0 ?_
                    refine wpAnyH_take (i := 7) (v := .pointer (some ⟨q.gx, 0, none⟩)) rfl (by kernel_rfl) (by kernel_rfl) (by kernel_rfl) (by first | exact fun _ _ _ h => h | exact fun _ _ _ h => nomatch h.1) (Or.inl ⟨by rfl, fun w_ hw_ => by go_simp⟩) hch0 ?_
                    try simp only [Act.put, List.setIfInBounds_toArray, List.set_cons_zero, List.set_cons_succ, List.getElem_toArray, List.getElem_cons_succ, List.getElem_cons_zero]
                    refine wpAnyH_take (i := 8) (v := .pointer (some ⟨q.gA, 0, none⟩)) rfl (by kernel_rfl) (by kernel_rfl) (by kernel_rfl) (by first | exact fun _ _ _ h => h | exact fun _ _ _ h => nomatch h.1) (Or.inl ⟨by rfl, fun w_ hw_ => by have hh := CXA.out w_ hw_; go_simp⟩) hch0 ?_
                    try simp only [Act.put, List.setIfInBounds_toArray, List.set_cons_zero, List.set_cons_succ, List.getElem_toArray, List.getElem_cons_succ, List.getElem_cons_zero]
                    refine wpAnyH_take (i := 9) (v := .pointer (some ⟨q.gB, 0, none⟩)) rfl (by kernel_rfl) (by kernel_rfl) (by kernel_rfl) (by first | exact fun _ _ _ h => h | exact fun _ _ _ h => nomatch h.1) (Or.inl ⟨by rfl, fun w_ hw_ => by go_simp⟩) hch0 ?_
                    refine wpAnyH_take (i := 10) (v := .pointer (some ⟨q.gA, 0, none⟩)) rfl (by kernel_rfl) (by kernel_rfl) (by kernel_rfl) (by first | exact fun _ _ _ h => h | exact fun _ _ _ h => nomatch h.1) (Or.inl ⟨by rfl, fun w_ hw_ => by go_simp⟩) hch0 ?_
                    try simp only [Act.put, List.setIfInBounds_toArray, List.set_cons_zero, List.set_cons_succ, List.getElem_toArray, List.getElem_cons_succ, List.getElem_cons_zero]
                    refine wpAnyH_done (by kernel_rfl) ?_ _
                    go_wp2_with (first | (go_at_call 11; with_reducible refine (HSE.out _ hch0).mono ?_; rintro e s1 ⟨A21, c21, rfl, hl21, hv21, hcs1⟩; have HL21 := Lib.hid hl21; have HINs := Lib.hid (HINk.out.quiet (hch0.trans hcs1)); have HCs := Lib.hid (HCk.out.trans (hch0.trans hcs1)); have HVs := Lib.hid (hv21.mono (T' := fun b => b < s1.heap.size) (fun b hb _ => hb)); clear hv21 hcs1 hl21))
                    try simp only [Act.put, List.setIfInBounds_toArray, List.set_cons_zero, List.set_cons_succ]
                    clear HSE CXA CXB hch0
                    obtain ⟨Ap, cp, hpc, hpl, hpr⟩ := HINs.out.past 1 (by decide)
                    have HPC := Lib.hid hpc
                    have HPL := Lib.hid hpl
                    have HPR := Lib.hid hpr
                    have HPO : Hid (∀ w' m, Chg none_ s1 w' → Calls Tryd.prog 12 #[.agg (cellsS (ownN C S 1 m)).toArray, .int .i64 i, .slice none 0 0, .slice A21 (text.length + 16) c21] w' fun e w'' => ∃ v, e = .returned (.tuple #[v, .int .i64 (openK (ownN C S 1 m) i [] (ctN C S 1 (t + 1) i text)).2]) ∧ Owned w'' w'.heap.size v (openK (ownN C S 1 m) i [] (ctN C S 1 (t + 1) i text)).1 ∧ Chg none_ w' w'') := Lib.hid (fun w' m hc => past_open 1 ((t + 1)) m i text A21 c21 _ (HVs.out.chg hc (fun _ _ h => h)) HL21.out hq4' HTB.out)
                    clear hpc hpl hpr
                    go_loopw [22, 23, 24] (fun mv _ _ wr => ∃ m : Nat, m ≤ (t + 1) ∧ mv = .int .i64 m ∧ Hid (∀ m', m' < m → (openK (ownN C S 1 m') i [] (ctN C S 1 (t + 1) i text)).2 ≠ 0) ∧ Chg none_ s1 wr) (fun mv _ _ _ => (t + 1) - (intOf mv).toNat)
                    case atStart => exact ⟨0, Nat.zero_le _, rfl, Lib.hid (fun m' h => absurd h (by omega)), Chg.refl _ _⟩
                    case round =>
                      obtain ⟨m, hm, rfl, HNO, hchm⟩ := hrel
                      have cg := (hchm.cell 1 HPL.out (fun h => h)).trans HPC.out
                      have HCm := Lib.hid hchm
                      by_cases hlm : m < (t + 1)
                      · obtain ⟨gp, hAp, hgl, hrg⟩ := HPR.out m hlm
                        subst hAp
                        have HRG : Hid (wr.rangeAt gp (m * 61) (cellsS (ownN C S 1 m))) := Lib.hid (fun j v hv => (hchm.cell _ hgl (fun h => h)).trans (hrg j v hv))
                        have HPM := Lib.hid (HPO.out wr m hchm)
                        have HMO := Lib.hid (ownN_ok C S 1 m)
                        obtain ⟨z, hz⟩ : ∃ z, z = (openK (ownN C S 1 m) i [] (ctN C S 1 (t + 1) i text)).2 := ⟨_, rfl⟩
                        rw [← hz] at HPM
                        have HZ := Lib.hid hz
                        have q5 : (m : Int) < ((t + 1) : Int) := by omega
                        have q6 : (0 : Int) ≤ (m : Int) := by omega
                        have HLM := Lib.hid hlm
                        clear hm hchm hlm hgl hrg hz
                        by_cases hz0 : z = 0
                        · subst hz0
                          go_wp2_with (first | ((with_reducible show wpList _ _ _ (⟨some 154, .load 36 _, _, _, _, _⟩ :: _) _ _); refine wpList_load_Mid (cs := cellsS (ownN C S 1 m)) rfl rfl rfl (HRG.out) Tryd.underlying36 rfl (by rw [cellsS_len HMO.out]; exact sizeSc) ?_) | (go_at_call 12; with_reducible refine HPM.out.mono ?_; rintro e o1 ⟨vo, rfl, _, hco⟩; have HCo := Lib.hid hco; clear hco))
                          go_ret
                          exact ⟨rfl, (HCs.out.trans HCm.out).trans HCo.out⟩
                        · go_wp2_with (first | ((with_reducible show wpList _ _ _ (⟨some 154, .load 36 _, _, _, _, _⟩ :: _) _ _); refine wpList_load_Mid (cs := cellsS (ownN C S 1 m)) rfl rfl rfl (HRG.out) Tryd.underlying36 rfl (by rw [cellsS_len HMO.out]; exact sizeSc) ?_) | (go_at_call 12; with_reducible refine HPM.out.mono ?_; rintro e o1 ⟨vo, rfl, _, hco⟩; have HCo := Lib.hid hco; clear hco))
                          go_roundw
                          case rel => exact ⟨m + 1, by have := HLM.out; omega, by go_num, Lib.hid (fun m' h => by
                            rcases Nat.lt_or_ge m' m with h2 | h2
                            · exact HNO.out m' h2
                            · have : m' = m := by omega
                              subst this
                              rw [← HZ.out]; exact hz0), HCm.out.trans HCo.out⟩
                          case measure => have := HLM.out; simp [intOf]; omega
                      · have hmt : m = (t + 1) := by omega
                        have q5 : ¬ (m : Int) < ((t + 1) : Int) := by omega
                        have HPAST : Hid (∀ m', m' < (t + 1) → (openK (ownN C S 1 m') i [] (ctN C S 1 (t + 1) i text)).2 ≠ 0) := Lib.hid (fun m' h => HNO.out m' (by omega))
                        have HINm := Lib.hid (HINs.out.quiet hchm)
                        have HCw := Lib.hid (HCs.out.trans hchm)
                        have HVm := Lib.hid (HVs.out.chg hchm (fun _ _ h => h))
                        obtain ⟨bp, hbp⟩ : ∃ b, b = decide (((t + 1)) % 2 = 1) := ⟨_, rfl⟩
                        have HOPX : Hid (∀ w', Inv C S q (t + 1) (t + 1) ((t + 1)) ((t + 1)) w' → Chg none_ W w' → View w' (fun b => b < s1.heap.size) A21 (text.length + 16) (u8s (ctN C S 1 (t + 1) i text)) → Calls Tryd.prog 13 #[.pointer (some ⟨q.gA, 0, none⟩), .int .i64 1, .bool bp, .int .i64 i, .slice none 0 0, .slice A21 (text.length + 16) c21] w' fun e w'' => ∃ A c, e = .returned (.tuple #[.slice A text.length c, .int .i64 0]) ∧ View w'' (fun b => w'.heap.size ≤ b) A text.length (u8s text) ∧ Inv C S q ((t + 1)) ((t + 1)) ((t + 1)) ((t + 1)) w'' ∧ Chg (· = q.gA) w' w'') := Lib.hid (fun w' hI hC hV => by rw [hbp]; exact open_same 1 ((t + 1)) (by decide) i text c21 _ A21 hI hV HL21.out hq4' HTB.out)
                        have HPHN : Hid (∀ w', Inv C S q (t + 1) (t + 1) ((t + 1)) ((t + 1)) w' → Calls Tryd.prog 14 #[.pointer (some ⟨q.gB, 0, none⟩)] w' fun e w'' => e = .returned (.bool bp) ∧ Chg none_ w' w'') := Lib.hid (fun w' hI => by rw [hbp]; exact phase_inv 1 (by decide) hI)
                        have HPH0 : Hid (∀ w', Inv C S q ((t + 1)) ((t + 1)) ((t + 1)) ((t + 1)) w' → Calls Tryd.prog 14 #[.pointer (some ⟨q.gA, 0, none⟩)] w' fun e w'' => e = .returned (.bool bp) ∧ Chg none_ w' w'') := Lib.hid (fun w' hI => by rw [hbp]; exact phase_inv 0 (by decide) hI)
                        have HPH1 : Hid (∀ w', Inv C S q ((t + 1)) ((t + 1)) ((t + 1)) ((t + 1)) w' → Calls Tryd.prog 14 #[.pointer (some ⟨q.gB, 0, none⟩)] w' fun e w'' => e = .returned (.bool bp) ∧ Chg none_ w' w'') := Lib.hid (fun w' hI => by rw [hbp]; exact phase_inv 1 (by decide) hI)
                        clear hbp
                        clear hm hchm hlm HNO hmt
                        go_wp2_with (first | (go_at_call 14; with_reducible refine (HPHN.out _ HINm.out).mono ?_; rintro e f1 ⟨rfl, hcp⟩; have HCp := Lib.hid (HCw.out.trans hcp); have HINp := Lib.hid (HINm.out.quiet hcp); have HVp := Lib.hid (HVm.out.chg hcp (fun _ _ h => h)); clear hcp HINm HPHN) | (go_at_call 13; with_reducible refine (HOPX.out _ HINp.out HCp.out HVp.out).mono ?_; rintro e f2 ⟨A25, c25, rfl, hv25, hi25, hc25⟩; have HINf := Lib.hid hi25; have HCf := Lib.hid (HCp.out.andThen hc25 (fun b hb e => by have := HQW.out; omega)); have HVf := Lib.hid hv25; clear hv25 hi25 hc25 HINp) | (go_at_call 15; with_reducible refine (HSA.out _ _ _ _ HCf.out HVf.out).mono ?_; rintro e f3 ⟨rfl, nk, hf3⟩; have hx3 := (show Chg none_ f2 f3 by (rw [hf3]; exact (Chg.refl none_ f2).drewN nk)); have HCg := Lib.hid (HCf.out.trans hx3); have HINg := Lib.hid (HINf.out.quiet hx3); clear hf3 hx3) | (go_at_call 14; with_reducible refine (HPH1.out _ HINg.out).mono ?_; rintro e f4 ⟨rfl, hcp⟩; have HCh := Lib.hid (HCg.out.trans hcp); have HINh := Lib.hid (HINg.out.quiet hcp); clear hcp HINg) | (go_at_call 14; with_reducible refine (HPH0.out _ HINh.out).mono ?_; rintro e f5 ⟨rfl, hcp⟩; have HCi := Lib.hid (HCh.out.trans hcp); have HINi := Lib.hid (HINh.out.quiet hcp); clear hcp))
                        go_roundw
                        case rel => exact ⟨2, by omega, rfl, by simpa using HINi.out, HCi.out⟩
                        case measure => simp [intOf]
                · have HINk : Hid (Inv C S q (t + 1) (t + 1) (t + 1) (t + 1) wk) := Lib.hid (by simpa using hik)
                  clear hik
                  simp only [show ((2 : Nat) : Int) = 2 from rfl]
                  go_wp2
                  go_roundw
                  case rel => exact ⟨i + 1, by have := HLT.out; omega, by go_num, by rw [HT3.out]; exact HINk.out, HCk.out⟩
                  case measure => have := HLT.out; simp [intOf]; omega
        have HT3 : Hid ((i + 1) / 3 = t) := Lib.hid (by omega)
        have ht10 : t ≤ 10 := by omega
        clear ht
        -- both are as far, and stay so
        have q3 : ¬ (i : Int) % 3 = 2 := by omega
        have q3b : ((i : Int) % 3 == 2) = false := by simp only [beq_eq_false_iff_ne, ne_eq]; exact q3
        go_wp2
        try simp only [Act.put, List.setIfInBounds_toArray, List.set_cons_zero, List.set_cons_succ]
        go_loopw [8, 17, 18, 19, 20, 21, 22, 23, 24, 25, 26] (fun _ kv _ _ _ _ _ _ _ _ _ wk => ∃ k : Nat, k ≤ 2 ∧ kv = .int .i64 k ∧ Inv C S q t t t t wk ∧ Chg none_ W wk) (fun _ kv _ _ _ _ _ _ _ _ _ _ => 2 - (intOf kv).toNat)
        case atStart => exact ⟨0, Nat.zero_le _, rfl, HINt.out, HC.out⟩
        case round =>
          obtain ⟨k, hk, rfl, hik, hck⟩ := hrel
          have HINk := Lib.hid hik
          have HCk := Lib.hid hck
          obtain ⟨wk, hwk⟩ : ∃ x, x = wr := ⟨_, rfl⟩
          subst hwk
          clear hik hck
          have hk3 : k = 0 ∨ k = 1 ∨ k = 2 := by omega
          rcases hk3 with rfl | rfl | rfl
          all_goals clear hk
          · simp only [show ((0 : Nat) : Int) = 0 from rfl]
            go_wp2
            as_aux_lemma =>
              have HSE : Hid (∀ w', Chg none_ wk w' → Calls Tryd.prog 11 #[.pointer (some ⟨q.gA, 0, none⟩), .int .i64 1, .int .i64 i, .slice none 0 0, .slice At text.length capt] w' fun e w'' => ∃ A c, e = .returned (.slice A (text.length + 16) c) ∧ text.length + 16 ≤ c ∧ View w'' (fun b => w'.heap.size ≤ b) A (text.length + 16) (u8s (ctN C S 0 t i text)) ∧ Chg none_ w' w'') := Lib.hid (fun w' hc => seal_inv 0 (by decide) i text _ At capt (HINk.out.quiet hc) (HTV.out w' (HCk.out.trans hc)) hq4' HTB.out)
              try simp only [Act.put, List.setIfInBounds_toArray, List.set_cons_zero, List.set_cons_succ]
              have CXA : Hid (∀ w', Chg none_ wk w' → w'.cell? ⟨q.gx, 0, none⟩ = some (.pointer (some ⟨q.gA, 0, none⟩))) := Lib.hid (fun w' hc => (HINk.out.quiet hc).ringsX.1)
              have CXB : Hid (∀ w', Chg none_ wk w' → w'.cell? ⟨q.gx, 1, none⟩ = some (.pointer (some ⟨q.gB, 0, none⟩))) := Lib.hid (fun w' hc => (HINk.out.quiet hc).ringsX.2)
              refine wp_region_held_drew (S := fun w' => Chg none_ wk w') (by kernel_rfl) ((Chg.refl none_ wk).drew) (fun hch0 => ?_)
              generalize wk.drew = wz at hch0 ⊢
              refine wpAnyH_take (i := 0) (v := .slice (some ⟨q.gx, 0, none⟩) 2 2) rfl (by kernel_rfl) (by kernel_rfl) (by kernel_rfl) (by first | exact fun _ _ _ h => h | exact fun _ _ _ h => nomatch h.1) (Or.inl ⟨by rfl, fun w_ hw_ => by go_simp⟩) hch0 ?_
              refine wpAnyH_take (i := 1) (v := .int .i64 0) rfl (by kernel_rfl) (by kernel_rfl) (by kernel_rfl) (by first | exact fun _ _ _ h => h | exact fun _ _ _ h => nomatch h.1) (Or.inl ⟨by rfl, fun w_ hw_ => by go_simp⟩) hch0 ?_
              refine wpAnyH_take (i := 4) (v := .slice (some ⟨q.gx, 0, none⟩) 2 2) rfl (by kernel_rfl) (by kernel_rfl) (by kernel_rfl) (by first | exact fun _ _ _ h => h | exact fun _ _ _ h => nomatch h.1) (Or.inl ⟨by rfl, fun w_ hw_ => by go_simp⟩) hch0 ?_
              refine wpAnyH_take (i := 5) (v := .int .i64 0) rfl (by kernel_rfl) (by kernel_rfl) (by kernel_rfl) (by first | exact fun _ _ _ h => h | exact fun _ _ _ h => nomatch h.1) (Or.inl ⟨by rfl, fun w_ hw_ => by go_simp⟩) hch0 ?_
              try simp only [Act.put, List.setIfInBounds_toArray, List.set_cons_zero, List.set_cons_succ, List.getElem_toArray, List.getElem_cons_succ, List.getElem_cons_zero]
              refine wpAnyH_take (i := 2) (v := .pointer (some ⟨q.gx, 0, none⟩)) rfl (by kernel_rfl) (by kernel_rfl) (by kernel_rfl) (by first | exact fun _ _ _ h => h | exact fun _ _ _ h => nomatch h.1) (Or.inl ⟨by rfl, fun w_ hw_ => by go_simp⟩) hch0 ?_
              refine wpAnyH_take (i := 6) (v := .int .i64 1) rfl (by kernel_rfl) (by kernel_rfl) (by kernel_rfl) (by first | exact fun _ _ _ h => h | exact fun _ _ _ h => nomatch h.1) (Or.inl ⟨by rfl, fun w_ hw_ => by first | (go_simp; done) | (go_simp; rfl)⟩) hch0 ?_
              try simp only [Act.put, List.setIfInBounds_toArray, List.set_cons_zero, List.set_cons_succ, List.getElem_toArray, List.getElem_cons_succ, List.getElem_cons_zero]
              refine wpAnyH_take (i := 3) (v := .pointer (some ⟨q.gA, 0, none⟩)) rfl (by kernel_rfl) (by kernel_rfl) (by kernel_rfl) (by first | exact fun _ _ _ h => h | exact fun _ _ _ h => nomatch h.1) (Or.inl ⟨by rfl, fun w_ hw_ => by have hh := CXA.out w_ hw_; go_simp⟩) hch0 ?_
              refine wpAnyH_take (i := 7) (v := .pointer (some ⟨q.gx, 1, none⟩)) rfl (by kernel_rfl) (by kernel_rfl) (by kernel_rfl) (by first | exact fun _ _ _ h => h | exact fun _ _ _ h => nomatch h.1) (Or.inl ⟨by rfl, fun w_ hw_ => by go_simp⟩) hch0 ?_
              try simp only [Act.put, List.setIfInBounds_toArray, List.set_cons_zero, List.set_cons_succ, List.getElem_toArray, List.getElem_cons_succ, List.getElem_cons_zero]
              refine wpAnyH_take (i := 8) (v := .pointer (some ⟨q.gB, 0, none⟩)) rfl (by kernel_rfl) (by kernel_rfl) (by kernel_rfl) (by first | exact fun _ _ _ h => h | exact fun _ _ _ h => nomatch h.1) (Or.inl ⟨by rfl, fun w_ hw_ => by have hh := CXB.out w_ hw_; go_simp⟩) hch0 ?_
              try simp only [Act.put, List.setIfInBounds_toArray, List.set_cons_zero, List.set_cons_succ, List.getElem_toArray, List.getElem_cons_succ, List.getElem_cons_zero]
              refine wpAnyH_take (i := 9) (v := .pointer (some ⟨q.gA, 0, none⟩)) rfl (by kernel_rfl) (by kernel_rfl) (by kernel_rfl) (by first | exact fun _ _ _ h => h | exact fun _ _ _ h => nomatch h.1) (Or.inl ⟨by rfl, fun w_ hw_ => by go_simp⟩) hch0 ?_
              refine wpAnyH_take (i := 10) (v := .pointer (some ⟨q.gB, 0, none⟩)) rfl (by kernel_rfl) (by kernel_rfl) (by kernel_rfl) (by first | exact fun _ _ _ h => h | exact fun _ _ _ h => nomatch h.1) (Or.inl ⟨by rfl, fun w_ hw_ => by go_simp⟩) hch0 ?_
              try simp only [Act.put, List.setIfInBounds_toArray, List.set_cons_zero, List.set_cons_succ, List.getElem_toArray, List.getElem_cons_succ, List.getElem_cons_zero]
              refine wpAnyH_done (by kernel_rfl) ?_ _
              go_wp2_with (first | (go_at_call 11; with_reducible refine (HSE.out _ hch0).mono ?_; rintro e s1 ⟨A21, c21, rfl, hl21, hv21, hcs1⟩; have HL21 := Lib.hid hl21; have HINs := Lib.hid (HINk.out.quiet (hch0.trans hcs1)); have HCs := Lib.hid (HCk.out.trans (hch0.trans hcs1)); have HVs := Lib.hid (hv21.mono (T' := fun b => b < s1.heap.size) (fun b hb _ => hb)); clear hv21 hcs1 hl21))
              try simp only [Act.put, List.setIfInBounds_toArray, List.set_cons_zero, List.set_cons_succ]
              clear HSE CXA CXB hch0
              obtain ⟨Ap, cp, hpc, hpl, hpr⟩ := HINs.out.past 0 (by decide)
              have HPC := Lib.hid hpc
              have HPL := Lib.hid hpl
              have HPR := Lib.hid hpr
              have HPO : Hid (∀ w' m, Chg none_ s1 w' → Calls Tryd.prog 12 #[.agg (cellsS (ownN C S 0 m)).toArray, .int .i64 i, .slice none 0 0, .slice A21 (text.length + 16) c21] w' fun e w'' => ∃ v, e = .returned (.tuple #[v, .int .i64 (openK (ownN C S 0 m) i [] (ctN C S 0 t i text)).2]) ∧ Owned w'' w'.heap.size v (openK (ownN C S 0 m) i [] (ctN C S 0 t i text)).1 ∧ Chg none_ w' w'') := Lib.hid (fun w' m hc => past_open 0 (t) m i text A21 c21 _ (HVs.out.chg hc (fun _ _ h => h)) HL21.out hq4' HTB.out)
              clear hpc hpl hpr
              go_loopw [22, 23, 24] (fun mv _ _ wr => ∃ m : Nat, m ≤ t ∧ mv = .int .i64 m ∧ Hid (∀ m', m' < m → (openK (ownN C S 0 m') i [] (ctN C S 0 t i text)).2 ≠ 0) ∧ Chg none_ s1 wr) (fun mv _ _ _ => t - (intOf mv).toNat)
              case atStart => exact ⟨0, Nat.zero_le _, rfl, Lib.hid (fun m' h => absurd h (by omega)), Chg.refl _ _⟩
              case round =>
                obtain ⟨m, hm, rfl, HNO, hchm⟩ := hrel
                have cg := (hchm.cell 0 HPL.out (fun h => h)).trans HPC.out
                have HCm := Lib.hid hchm
                by_cases hlm : m < t
                · obtain ⟨gp, hAp, hgl, hrg⟩ := HPR.out m hlm
                  subst hAp
                  have HRG : Hid (wr.rangeAt gp (m * 61) (cellsS (ownN C S 0 m))) := Lib.hid (fun j v hv => (hchm.cell _ hgl (fun h => h)).trans (hrg j v hv))
                  have HPM := Lib.hid (HPO.out wr m hchm)
                  have HMO := Lib.hid (ownN_ok C S 0 m)
                  obtain ⟨z, hz⟩ : ∃ z, z = (openK (ownN C S 0 m) i [] (ctN C S 0 t i text)).2 := ⟨_, rfl⟩
                  rw [← hz] at HPM
                  have HZ := Lib.hid hz
                  have q5 : (m : Int) < (t : Int) := by omega
                  have q6 : (0 : Int) ≤ (m : Int) := by omega
                  have HLM := Lib.hid hlm
                  clear hm hchm hlm hgl hrg hz
                  by_cases hz0 : z = 0
                  · subst hz0
                    go_wp2_with (first | ((with_reducible show wpList _ _ _ (⟨some 154, .load 36 _, _, _, _, _⟩ :: _) _ _); refine wpList_load_Mid (cs := cellsS (ownN C S 0 m)) rfl rfl rfl (HRG.out) Tryd.underlying36 rfl (by rw [cellsS_len HMO.out]; exact sizeSc) ?_) | (go_at_call 12; with_reducible refine HPM.out.mono ?_; rintro e o1 ⟨vo, rfl, _, hco⟩; have HCo := Lib.hid hco; clear hco))
                    go_ret
                    exact ⟨rfl, (HCs.out.trans HCm.out).trans HCo.out⟩
                  · go_wp2_with (first | ((with_reducible show wpList _ _ _ (⟨some 154, .load 36 _, _, _, _, _⟩ :: _) _ _); refine wpList_load_Mid (cs := cellsS (ownN C S 0 m)) rfl rfl rfl (HRG.out) Tryd.underlying36 rfl (by rw [cellsS_len HMO.out]; exact sizeSc) ?_) | (go_at_call 12; with_reducible refine HPM.out.mono ?_; rintro e o1 ⟨vo, rfl, _, hco⟩; have HCo := Lib.hid hco; clear hco))
                    go_roundw
                    case rel => exact ⟨m + 1, by have := HLM.out; omega, by go_num, Lib.hid (fun m' h => by
                      rcases Nat.lt_or_ge m' m with h2 | h2
                      · exact HNO.out m' h2
                      · have : m' = m := by omega
                        subst this
                        rw [← HZ.out]; exact hz0), HCm.out.trans HCo.out⟩
                    case measure => have := HLM.out; simp [intOf]; omega
                · have hmt : m = t := by omega
                  have q5 : ¬ (m : Int) < (t : Int) := by omega
                  have HPAST : Hid (∀ m', m' < t → (openK (ownN C S 0 m') i [] (ctN C S 0 t i text)).2 ≠ 0) := Lib.hid (fun m' h => HNO.out m' (by omega))
                  have HINm := Lib.hid (HINs.out.quiet hchm)
                  have HCw := Lib.hid (HCs.out.trans hchm)
                  have HVm := Lib.hid (HVs.out.chg hchm (fun _ _ h => h))
                  obtain ⟨bp, hbp⟩ : ∃ b, b = decide ((t) % 2 = 1) := ⟨_, rfl⟩
                  have HOPX : Hid (∀ w', Inv C S q t t (t) (t) w' → Chg none_ W w' → View w' (fun b => b < s1.heap.size) A21 (text.length + 16) (u8s (ctN C S 0 t i text)) → Calls Tryd.prog 13 #[.pointer (some ⟨q.gB, 0, none⟩), .int .i64 1, .bool bp, .int .i64 i, .slice none 0 0, .slice A21 (text.length + 16) c21] w' fun e w'' => ∃ A c, e = .returned (.tuple #[.slice A text.length c, .int .i64 0]) ∧ View w'' (fun b => w'.heap.size ≤ b) A text.length (u8s text) ∧ Inv C S q (t) (t) (t) (t) w'' ∧ Chg (· = q.gB) w' w'') := Lib.hid (fun w' hI hC hV => by rw [hbp]; exact open_same 0 (t) (by decide) i text c21 _ A21 hI hV HL21.out hq4' HTB.out)
                  have HPHN : Hid (∀ w', Inv C S q t t (t) (t) w' → Calls Tryd.prog 14 #[.pointer (some ⟨q.gA, 0, none⟩)] w' fun e w'' => e = .returned (.bool bp) ∧ Chg none_ w' w'') := Lib.hid (fun w' hI => by rw [hbp]; exact phase_inv 0 (by decide) hI)
                  have HPH0 : Hid (∀ w', Inv C S q (t) (t) (t) (t) w' → Calls Tryd.prog 14 #[.pointer (some ⟨q.gA, 0, none⟩)] w' fun e w'' => e = .returned (.bool bp) ∧ Chg none_ w' w'') := Lib.hid (fun w' hI => by rw [hbp]; exact phase_inv 0 (by decide) hI)
                  have HPH1 : Hid (∀ w', Inv C S q (t) (t) (t) (t) w' → Calls Tryd.prog 14 #[.pointer (some ⟨q.gB, 0, none⟩)] w' fun e w'' => e = .returned (.bool bp) ∧ Chg none_ w' w'') := Lib.hid (fun w' hI => by rw [hbp]; exact phase_inv 1 (by decide) hI)
                  clear hbp
                  clear hm hchm hlm HNO hmt
                  go_wp2_with (first | (go_at_call 14; with_reducible refine (HPHN.out _ HINm.out).mono ?_; rintro e f1 ⟨rfl, hcp⟩; have HCp := Lib.hid (HCw.out.trans hcp); have HINp := Lib.hid (HINm.out.quiet hcp); have HVp := Lib.hid (HVm.out.chg hcp (fun _ _ h => h)); clear hcp HINm HPHN) | (go_at_call 13; with_reducible refine (HOPX.out _ HINp.out HCp.out HVp.out).mono ?_; rintro e f2 ⟨A25, c25, rfl, hv25, hi25, hc25⟩; have HINf := Lib.hid hi25; have HCf := Lib.hid (HCp.out.andThen hc25 (fun b hb e => by have := HQW.out; omega)); have HVf := Lib.hid hv25; clear hv25 hi25 hc25 HINp) | (go_at_call 15; with_reducible refine (HSA.out _ _ _ _ HCf.out HVf.out).mono ?_; rintro e f3 ⟨rfl, nk, hf3⟩; have hx3 := (show Chg none_ f2 f3 by (rw [hf3]; exact (Chg.refl none_ f2).drewN nk)); have HCg := Lib.hid (HCf.out.trans hx3); have HINg := Lib.hid (HINf.out.quiet hx3); clear hf3 hx3) | (go_at_call 14; with_reducible refine (HPH0.out _ HINg.out).mono ?_; rintro e f4 ⟨rfl, hcp⟩; have HCh := Lib.hid (HCg.out.trans hcp); have HINh := Lib.hid (HINg.out.quiet hcp); clear hcp HINg) | (go_at_call 14; with_reducible refine (HPH1.out _ HINh.out).mono ?_; rintro e f5 ⟨rfl, hcp⟩; have HCi := Lib.hid (HCh.out.trans hcp); have HINi := Lib.hid (HINh.out.quiet hcp); clear hcp))
                  go_roundw
                  case rel => exact ⟨1, by omega, rfl, HINi.out, HCi.out⟩
                  case measure => simp [intOf]
          · simp only [show ((1 : Nat) : Int) = 1 from rfl]
            go_wp2
            as_aux_lemma =>
              have HSE : Hid (∀ w', Chg none_ wk w' → Calls Tryd.prog 11 #[.pointer (some ⟨q.gB, 0, none⟩), .int .i64 1, .int .i64 i, .slice none 0 0, .slice At text.length capt] w' fun e w'' => ∃ A c, e = .returned (.slice A (text.length + 16) c) ∧ text.length + 16 ≤ c ∧ View w'' (fun b => w'.heap.size ≤ b) A (text.length + 16) (u8s (ctN C S 1 t i text)) ∧ Chg none_ w' w'') := Lib.hid (fun w' hc => seal_inv 1 (by decide) i text _ At capt (HINk.out.quiet hc) (HTV.out w' (HCk.out.trans hc)) hq4' HTB.out)
              try simp only [Act.put, List.setIfInBounds_toArray, List.set_cons_zero, List.set_cons_succ]
              have CXA : Hid (∀ w', Chg none_ wk w' → w'.cell? ⟨q.gx, 0, none⟩ = some (.pointer (some ⟨q.gA, 0, none⟩))) := Lib.hid (fun w' hc => (HINk.out.quiet hc).ringsX.1)
              have CXB : Hid (∀ w', Chg none_ wk w' → w'.cell? ⟨q.gx, 1, none⟩ = some (.pointer (some ⟨q.gB, 0, none⟩))) := Lib.hid (fun w' hc => (HINk.out.quiet hc).ringsX.2)
              refine wp_region_held_drew (S := fun w' => Chg none_ wk w') (by kernel_rfl) ((Chg.refl none_ wk).drew) (fun hch0 => ?_)
              generalize wk.drew = wz at hch0 ⊢
              refine wpAnyH_take (i := 0) (v := .slice (some ⟨q.gx, 0, none⟩) 2 2) rfl (by kernel_rfl) (by kernel_rfl) (by kernel_rfl) (by first | exact fun _ _ _ h => h | exact fun _ _ _ h => nomatch h.1) (Or.inl ⟨by rfl, fun w_ hw_ => by go_simp⟩) hch0 ?_
              refine wpAnyH_take (i := 1) (v := .int .i64 1) rfl (by kernel_rfl) (by kernel_rfl) (by kernel_rfl) (by first | exact fun _ _ _ h => h | exact fun _ _ _ h => nomatch h.1) (Or.inl ⟨by rfl, fun w_ hw_ => by go_simp⟩) hch0 ?_
              refine wpAnyH_take (i := 4) (v := .slice (some ⟨q.gx, 0, none⟩) 2 2) rfl (by kernel_rfl) (by kernel_rfl) (by kernel_rfl) (by first | exact fun _ _ _ h => h | exact fun _ _ _ h => nomatch h.1) (Or.inl ⟨by rfl, fun w_ hw_ => by go_simp⟩) hch0 ?_
              refine wpAnyH_take (i := 5) (v := .int .i64 1) rfl (by kernel_rfl) (by kernel_rfl) (by kernel_rfl) (by first | exact fun _ _ _ h => h | exact fun _ _ _ h => nomatch h.1) (Or.inl ⟨by rfl, fun w_ hw_ => by go_simp⟩) hch0 ?_
              try simp only [Act.put, List.setIfInBounds_toArray, List.set_cons_zero, List.set_cons_succ, List.getElem_toArray, List.getElem_cons_succ, List.getElem_cons_zero]
              refine wpAnyH_take (i := 2) (v := .pointer (some ⟨q.gx, 1, none⟩)) rfl (by kernel_rfl) (by kernel_rfl) (by kernel_rfl) (by first | exact fun _ _ _ h => h | exact fun _ _ _ h => nomatch h.1) (Or.inl ⟨by rfl, fun w_ hw_ => by go_simp⟩) hch0 ?_
              refine wpAnyH_take (i := 6) (v := .int .i64 0) rfl (by kernel_rfl) (by kernel_rfl) (by kernel_rfl) (by first | exact fun _ _ _ h => h | exact fun _ _ _ h => nomatch h.1) (Or.inl ⟨by rfl, fun w_ hw_ => by first | (go_simp; done) | (go_simp; rfl)⟩) hch0 ?_
              try simp only [Act.put, List.setIfInBounds_toArray, List.set_cons_zero, List.set_cons_succ, List.getElem_toArray, List.getElem_cons_succ, List.getElem_cons_zero]
              refine wpAnyH_take (i := 3) (v := .pointer (some ⟨q.gB, 0, none⟩)) rfl (by kernel_rfl) (by kernel_rfl) (by kernel_rfl) (by first | exact fun _ _ _ h => h | exact fun _ _ _ h => nomatch h.1) (Or.inl ⟨by rfl, fun w_ hw_ => by have hh := CXB.out w_ hw_; go_simp⟩) hch0 ?_
              refine wpAnyH_take (i := 7) (v := .pointer (some ⟨q.gx, 0, none⟩)) rfl (by kernel_rfl) (by kernel_rfl) (by kernel_rfl) (by first | exact fun _ _ _ h => h | exact fun _ _ _ h => nomatch h.1) (Or.inl ⟨by rfl, fun w_ hw_ => by go_simp⟩) hch0 ?_
              try simp only [Act.put, List.setIfInBounds_toArray, List.set_cons_zero, List.set_cons_succ, List.getElem_toArray, List.getElem_cons_succ, List.getElem_cons_zero]
              refine wpAnyH_take (i := 8) (v := .pointer (some ⟨q.gA, 0, none⟩)) rfl (by kernel_rfl) (by kernel_rfl) (by kernel_rfl) (by first | exact fun _ _ _ h => h | exact fun _ _ _ h => nomatch h.1) (Or.inl ⟨by rfl, fun w_ hw_ => by have hh := CXA.out w_ hw_; go_simp⟩) hch0 ?_
              try simp only [Act.put, List.setIfInBounds_toArray, List.set_cons_zero, List.set_cons_succ, List.getElem_toArray, List.getElem_cons_succ, List.getElem_cons_zero]
              refine wpAnyH_take (i := 9) (v := .pointer (some ⟨q.gB, 0, none⟩)) rfl (by kernel_rfl) (by kernel_rfl) (by kernel_rfl) (by first | exact fun _ _ _ h => h | exact fun _ _ _ h => nomatch h.1) (Or.inl ⟨by rfl, fun w_ hw_ => by go_simp⟩) hch0 ?_
              refine wpAnyH_take (i := 10) (v := .pointer (some ⟨q.gA, 0, none⟩)) rfl (by kernel_rfl) (by kernel_rfl) (by kernel_rfl) (by first | exact fun _ _ _ h => h | exact fun _ _ _ h => nomatch h.1) (Or.inl ⟨by rfl, fun w_ hw_ => by go_simp⟩) hch0 ?_
              try simp only [Act.put, List.setIfInBounds_toArray, List.set_cons_zero, List.set_cons_succ, List.getElem_toArray, List.getElem_cons_succ, List.getElem_cons_zero]
              refine wpAnyH_done (by kernel_rfl) ?_ _
              go_wp2_with (first | (go_at_call 11; with_reducible refine (HSE.out _ hch0).mono ?_; rintro e s1 ⟨A21, c21, rfl, hl21, hv21, hcs1⟩; have HL21 := Lib.hid hl21; have HINs := Lib.hid (HINk.out.quiet (hch0.trans hcs1)); have HCs := Lib.hid (HCk.out.trans (hch0.trans hcs1)); have HVs := Lib.hid (hv21.mono (T' := fun b => b < s1.heap.size) (fun b hb _ => hb)); clear hv21 hcs1 hl21))
              try simp only [Act.put, List.setIfInBounds_toArray, List.set_cons_zero, List.set_cons_succ]
              clear HSE CXA CXB hch0
              obtain ⟨Ap, cp, hpc, hpl, hpr⟩ := HINs.out.past 1 (by decide)
              have HPC := Lib.hid hpc
              have HPL := Lib.hid hpl
              have HPR := Lib.hid hpr
              have HPO : Hid (∀ w' m, Chg none_ s1 w' → Calls Tryd.prog 12 #[.agg (cellsS (ownN C S 1 m)).toArray, .int .i64 i, .slice none 0 0, .slice A21 (text.length + 16) c21] w' fun e w'' => ∃ v, e = .returned (.tuple #[v, .int .i64 (openK (ownN C S 1 m) i [] (ctN C S 1 t i text)).2]) ∧ Owned w'' w'.heap.size v (openK (ownN C S 1 m) i [] (ctN C S 1 t i text)).1 ∧ Chg none_ w' w'') := Lib.hid (fun w' m hc => past_open 1 (t) m i text A21 c21 _ (HVs.out.chg hc (fun _ _ h => h)) HL21.out hq4' HTB.out)
              clear hpc hpl hpr
              go_loopw [22, 23, 24] (fun mv _ _ wr => ∃ m : Nat, m ≤ t ∧ mv = .int .i64 m ∧ Hid (∀ m', m' < m → (openK (ownN C S 1 m') i [] (ctN C S 1 t i text)).2 ≠ 0) ∧ Chg none_ s1 wr) (fun mv _ _ _ => t - (intOf mv).toNat)
              case atStart => exact ⟨0, Nat.zero_le _, rfl, Lib.hid (fun m' h => absurd h (by omega)), Chg.refl _ _⟩
              case round =>
                obtain ⟨m, hm, rfl, HNO, hchm⟩ := hrel
                have cg := (hchm.cell 1 HPL.out (fun h => h)).trans HPC.out
                have HCm := Lib.hid hchm
                by_cases hlm : m < t
                · obtain ⟨gp, hAp, hgl, hrg⟩ := HPR.out m hlm
                  subst hAp
                  have HRG : Hid (wr.rangeAt gp (m * 61) (cellsS (ownN C S 1 m))) := Lib.hid (fun j v hv => (hchm.cell _ hgl (fun h => h)).trans (hrg j v hv))
                  have HPM := Lib.hid (HPO.out wr m hchm)
                  have HMO := Lib.hid (ownN_ok C S 1 m)
                  obtain ⟨z, hz⟩ : ∃ z, z = (openK (ownN C S 1 m) i [] (ctN C S 1 t i text)).2 := ⟨_, rfl⟩
                  rw [← hz] at HPM
                  have HZ := Lib.hid hz
                  have q5 : (m : Int) < (t : Int) := by omega
                  have q6 : (0 : Int) ≤ (m : Int) := by omega
                  have HLM := Lib.hid hlm
                  clear hm hchm hlm hgl hrg hz
                  by_cases hz0 : z = 0
                  · subst hz0
                    go_wp2_with (first | ((with_reducible show wpList _ _ _ (⟨some 154, .load 36 _, _, _, _, _⟩ :: _) _ _); refine wpList_load_Mid (cs := cellsS (ownN C S 1 m)) rfl rfl rfl (HRG.out) Tryd.underlying36 rfl (by rw [cellsS_len HMO.out]; exact sizeSc) ?_) | (go_at_call 12; with_reducible refine HPM.out.mono ?_; rintro e o1 ⟨vo, rfl, _, hco⟩; have HCo := Lib.hid hco; clear hco))
                    go_ret
                    exact ⟨rfl, (HCs.out.trans HCm.out).trans HCo.out⟩
                  · go_wp2_with (first | ((with_reducible show wpList _ _ _ (⟨some 154, .load 36 _, _, _, _, _⟩ :: _) _ _); refine wpList_load_Mid (cs := cellsS (ownN C S 1 m)) rfl rfl rfl (HRG.out) Tryd.underlying36 rfl (by rw [cellsS_len HMO.out]; exact sizeSc) ?_) | (go_at_call 12; with_reducible refine HPM.out.mono ?_; rintro e o1 ⟨vo, rfl, _, hco⟩; have HCo := Lib.hid hco; clear hco))
                    go_roundw
                    case rel => exact ⟨m + 1, by have := HLM.out; omega, by go_num, Lib.hid (fun m' h => by
                      rcases Nat.lt_or_ge m' m with h2 | h2
                      · exact HNO.out m' h2
                      · have : m' = m := by omega
                        subst this
                        rw [← HZ.out]; exact hz0), HCm.out.trans HCo.out⟩
                    case measure => have := HLM.out; simp [intOf]; omega
                · have hmt : m = t := by omega
                  have q5 : ¬ (m : Int) < (t : Int) := by omega
                  have HPAST : Hid (∀ m', m' < t → (openK (ownN C S 1 m') i [] (ctN C S 1 t i text)).2 ≠ 0) := Lib.hid (fun m' h => HNO.out m' (by omega))
                  have HINm := Lib.hid (HINs.out.quiet hchm)
                  have HCw := Lib.hid (HCs.out.trans hchm)
                  have HVm := Lib.hid (HVs.out.chg hchm (fun _ _ h => h))
                  obtain ⟨bp, hbp⟩ : ∃ b, b = decide ((t) % 2 = 1) := ⟨_, rfl⟩
                  have HOPX : Hid (∀ w', Inv C S q t t (t) (t) w' → Chg none_ W w' → View w' (fun b => b < s1.heap.size) A21 (text.length + 16) (u8s (ctN C S 1 t i text)) → Calls Tryd.prog 13 #[.pointer (some ⟨q.gA, 0, none⟩), .int .i64 1, .bool bp, .int .i64 i, .slice none 0 0, .slice A21 (text.length + 16) c21] w' fun e w'' => ∃ A c, e = .returned (.tuple #[.slice A text.length c, .int .i64 0]) ∧ View w'' (fun b => w'.heap.size ≤ b) A text.length (u8s text) ∧ Inv C S q (t) (t) (t) (t) w'' ∧ Chg (· = q.gA) w' w'') := Lib.hid (fun w' hI hC hV => by rw [hbp]; exact open_same 1 (t) (by decide) i text c21 _ A21 hI hV HL21.out hq4' HTB.out)
                  have HPHN : Hid (∀ w', Inv C S q t t (t) (t) w' → Calls Tryd.prog 14 #[.pointer (some ⟨q.gB, 0, none⟩)] w' fun e w'' => e = .returned (.bool bp) ∧ Chg none_ w' w'') := Lib.hid (fun w' hI => by rw [hbp]; exact phase_inv 1 (by decide) hI)
                  have HPH0 : Hid (∀ w', Inv C S q (t) (t) (t) (t) w' → Calls Tryd.prog 14 #[.pointer (some ⟨q.gA, 0, none⟩)] w' fun e w'' => e = .returned (.bool bp) ∧ Chg none_ w' w'') := Lib.hid (fun w' hI => by rw [hbp]; exact phase_inv 0 (by decide) hI)
                  have HPH1 : Hid (∀ w', Inv C S q (t) (t) (t) (t) w' → Calls Tryd.prog 14 #[.pointer (some ⟨q.gB, 0, none⟩)] w' fun e w'' => e = .returned (.bool bp) ∧ Chg none_ w' w'') := Lib.hid (fun w' hI => by rw [hbp]; exact phase_inv 1 (by decide) hI)
                  clear hbp
                  clear hm hchm hlm HNO hmt
                  go_wp2_with (first | (go_at_call 14; with_reducible refine (HPHN.out _ HINm.out).mono ?_; rintro e f1 ⟨rfl, hcp⟩; have HCp := Lib.hid (HCw.out.trans hcp); have HINp := Lib.hid (HINm.out.quiet hcp); have HVp := Lib.hid (HVm.out.chg hcp (fun _ _ h => h)); clear hcp HINm HPHN) | (go_at_call 13; with_reducible refine (HOPX.out _ HINp.out HCp.out HVp.out).mono ?_; rintro e f2 ⟨A25, c25, rfl, hv25, hi25, hc25⟩; have HINf := Lib.hid hi25; have HCf := Lib.hid (HCp.out.andThen hc25 (fun b hb e => by have := HQW.out; omega)); have HVf := Lib.hid hv25; clear hv25 hi25 hc25 HINp) | (go_at_call 15; with_reducible refine (HSA.out _ _ _ _ HCf.out HVf.out).mono ?_; rintro e f3 ⟨rfl, nk, hf3⟩; have hx3 := (show Chg none_ f2 f3 by (rw [hf3]; exact (Chg.refl none_ f2).drewN nk)); have HCg := Lib.hid (HCf.out.trans hx3); have HINg := Lib.hid (HINf.out.quiet hx3); clear hf3 hx3) | (go_at_call 14; with_reducible refine (HPH1.out _ HINg.out).mono ?_; rintro e f4 ⟨rfl, hcp⟩; have HCh := Lib.hid (HCg.out.trans hcp); have HINh := Lib.hid (HINg.out.quiet hcp); clear hcp HINg) | (go_at_call 14; with_reducible refine (HPH0.out _ HINh.out).mono ?_; rintro e f5 ⟨rfl, hcp⟩; have HCi := Lib.hid (HCh.out.trans hcp); have HINi := Lib.hid (HINh.out.quiet hcp); clear hcp))
                  go_roundw
                  case rel => exact ⟨2, by omega, rfl, HINi.out, HCi.out⟩
                  case measure => simp [intOf]
          · simp only [show ((2 : Nat) : Int) = 2 from rfl]
            go_wp2
            go_roundw
            case rel => exact ⟨i + 1, by have := HLT.out; omega, by go_num, by rw [HT3.out]; exact HINk.out, HCk.out⟩
            case measure => have := HLT.out; simp [intOf]; omega
      | true =>
        by_cases h3 : i % 3 = 2
        · have HT3 : Hid ((i + 1) / 3 = t + 1) := Lib.hid (by omega)
          have ht10 : t ≤ 10 := by omega
          have q3 : (i : Int) % 3 = 2 := by omega
          have q3b : ((i : Int) % 3 == 2) = true := by simp only [beq_iff_eq]; exact q3
          clear ht h3
          have cxa := HINt.out.ringsX.1
          have cxb := HINt.out.ringsX.2
          have HTU : Hid (Calls Tryd.prog 9 #[.pointer (some ⟨q.gB, 0, none⟩)] wr fun e w' => e = .returned (.bool true) ∧ Inv C S q t (t + 1) t t w' ∧ Chg (· = q.gB) wr w') := Lib.hid (turn_inv 1 (by decide) HINt.out (HKK.out _ HC.out))
          go_wp2_with (go_at_call 9; with_reducible refine HTU.out.mono ?_; rintro e d1 ⟨rfl, hi1, hc1⟩; have HIN1 : Hid (Inv C S q t (t + 1) t t d1) := Lib.hid hi1; have HC1 := Lib.hid (HC.out.andThen hc1 (fun b hb e => by have := HQW.out; omega)); clear hi1 hc1)
          try simp only [Act.put, List.setIfInBounds_toArray, List.set_cons_zero, List.set_cons_succ]
          go_loopw [16] (fun kv wk => ∃ k : Nat, k ≤ 2 ∧ kv = .int .i64 k ∧ Inv C S q t (t + 1) (if 1 ≤ k then t + 1 else t) (if 2 ≤ k then t + 1 else t) wk ∧ Chg none_ W wk) (fun kv _ => 2 - (intOf kv).toNat)
          case atStart => exact ⟨0, by omega, rfl, by simpa using HIN1.out, HC1.out⟩
          case round =>
            obtain ⟨k, hk, rfl, hik, hck⟩ := hrel
            have HCt := Lib.hid hck
            clear hck HTU HIN1 HC1
            have hk3 : k = 0 ∨ k = 1 ∨ k = 2 := by omega
            rcases hk3 with rfl | rfl | rfl
            all_goals clear hk
            · have HIN2 : Hid (Inv C S q t (t + 1) t t wr) := Lib.hid (by simpa using hik)
              clear hik
              as_aux_lemma =>
                obtain ⟨v0, v1, P, hib⟩ := HIN2.out
                obtain ⟨Ak, ck, hvk⟩ := own_shape hib.w0
                subst hvk
                have HIB := Lib.hid hib
                have cp : wr.cell? ⟨q.gp, 0, none⟩ = some (.slice Ak t ck) := hib.rp.cell 0
                have HGP := Lib.hid hib.rp.lt
                have HBK := Lib.hid (fun w => run_slice1 (ownN C S 0 t) (ownN_ok _ _ _ _) w)
                have HGO : Hid (∀ w', Chg (fun b => b = q.gp ∨ (Value.slice Ak t ck).ownBlock = some b) wr w' → w'.rangeAt q.go 0 (cellsS (ownN C S 0 t))) := Lib.hid (fun w' hc => range_own0 (HIB.out.keep0 hc))
                have HUP : Hid (∀ w', Chg none_ W w' → Calls Tryd.prog 10 #[.agg (cellsS (ownN C S 0 t)).toArray] w' fun e w'' => e = .returned (.agg (cellsS (ownN C S 0 (t + 1))).toArray) ∧ Chg none_ w' w'') := Lib.hid (fun w' hc => Update_any _ w' (ownN_ok _ _ _ _) (HKK.out _ hc))
                clear hib
                simp only [show ((0 : Nat) : Int) = 0 from rfl]
                go_wp2
                try simp only [Act.put, List.setIfInBounds_toArray, List.set_cons_zero, List.set_cons_succ]
                have hch0n : Chg none_ wr wr.drew := (Chg.refl none_ wr).drew
                refine wp_region_held_drew (S := fun w' => Chg (fun b => b = q.gp ∨ (Value.slice Ak t ck).ownBlock = some b) wr w') (by kernel_rfl) ((Chg.refl _ wr).drew) (fun hch0 => ?_)
                generalize wr.drew = wz at hch0 hch0n ⊢
                refine wpAnyH_take (i := 0) (v := .int .i64 0) rfl (by kernel_rfl) (by kernel_rfl) (by kernel_rfl) (by first | exact fun _ _ _ h => h | exact fun _ _ _ h => nomatch h.1) (Or.inl ⟨by rfl, fun w_ hw_ => by go_simp⟩) hch0 ?_
                refine wpAnyH_take (i := 1) (v := .int .i64 0) rfl (by kernel_rfl) (by kernel_rfl) (by kernel_rfl) (by first | exact fun _ _ _ h => h | exact fun _ _ _ h => nomatch h.1) (Or.inl ⟨by rfl, fun w_ hw_ => by go_simp⟩) hch0 ?_
                refine wpAnyH_take (i := 4) (v := .slice (some ⟨q.go, 0, none⟩) 2 2) rfl (by kernel_rfl) (by kernel_rfl) (by kernel_rfl) (by first | exact fun _ _ _ h => h | exact fun _ _ _ h => nomatch h.1) (Or.inl ⟨by rfl, fun w_ hw_ => by go_simp⟩) hch0 ?_
                refine wpAnyH_take (i := 5) (v := .int .i64 0) rfl (by kernel_rfl) (by kernel_rfl) (by kernel_rfl) (by first | exact fun _ _ _ h => h | exact fun _ _ _ h => nomatch h.1) (Or.inl ⟨by rfl, fun w_ hw_ => by go_simp⟩) hch0 ?_
                try simp only [Act.put, List.setIfInBounds_toArray, List.set_cons_zero, List.set_cons_succ, List.getElem_toArray, List.getElem_cons_succ, List.getElem_cons_zero]
                refine wpAnyH_take (i := 2) (v := .pointer (some ⟨q.gp, 0, none⟩)) rfl (by kernel_rfl) (by kernel_rfl) (by kernel_rfl) (by first | exact fun _ _ _ h => h | exact fun _ _ _ h => nomatch h.1) (Or.inl ⟨by rfl, fun w_ hw_ => by go_simp⟩) hch0 ?_
                refine wpAnyH_take (i := 6) (v := .pointer (some ⟨q.go, 0, none⟩)) rfl (by kernel_rfl) (by kernel_rfl) (by kernel_rfl) (by first | exact fun _ _ _ h => h | exact fun _ _ _ h => nomatch h.1) (Or.inl ⟨by rfl, fun w_ hw_ => by go_simp⟩) hch0 ?_
                try simp only [Act.put, List.setIfInBounds_toArray, List.set_cons_zero, List.set_cons_succ, List.getElem_toArray, List.getElem_cons_succ, List.getElem_cons_zero]
                refine wpAnyH_take (i := 7) (v := .agg (cellsS (ownN C S 0 t)).toArray) rfl (by kernel_rfl) (by kernel_rfl) (by kernel_rfl) (by first | exact fun _ _ _ h => h | exact fun _ _ _ h => nomatch h.1) (yieldsIf_load_mid (by rfl) 36 _ rfl q.go 0 rfl (cellsS (ownN C S 0 t)) _ (fun w' hw' => HGO.out w' hw') Tryd.underlying36 rfl (by rw [cellsS_len (ownN_ok _ _ _ _)]; exact sizeSc)) hch0 ?_
                try simp only [Act.put, List.setIfInBounds_toArray, List.set_cons_zero, List.set_cons_succ, List.getElem_toArray, List.getElem_cons_succ, List.getElem_cons_zero]
                have cz := (hch0n.cell 0 HGP.out (fun h => h)).trans cp
                refine wpAnyH_ready (rs := [3, 8]) (by kernel_rfl) (by simp) ?_
                refine AllReadyH.cons rfl (fun K hK => ?_) (AllReadyH.cons rfl (fun K hK => ?_) AllReadyH.nil)
                · rw [if_pos (by rfl)]
                  try simp only [List.getElem_toArray, List.getElem_cons_succ, List.getElem_cons_zero]
                  go_simp
                  refine hK.out _ _ hch0 (fun _ => ?_)
                  clear hK K
                  try simp only [Act.put, List.setIfInBounds_toArray, List.set_cons_zero, List.set_cons_succ, List.getElem_toArray, List.getElem_cons_succ, List.getElem_cons_zero]
                  refine wpAnyH_ready (rs := [8]) (by kernel_rfl) (by simp) ?_
                  refine AllReadyH.cons rfl (fun K hK => ?_) AllReadyH.nil
                  rw [if_pos (by rfl)]
                  try simp only [List.getElem_toArray, List.getElem_cons_succ, List.getElem_cons_zero]
                  refine wp_new_row (v := fun g => .slice (some ⟨g, 0, none⟩) 1 1) (e := 36) (cs := cellsS (ownN C S 0 t)) (fun w_ => by have hh := HBK.out w_; unfold execOp; simp [Act.eval, hh]) ?_
                  intro x1 hx1 hcx1 hsx1
                  have hch1n : Chg none_ wr x1 := hch0n.trans hcx1
                  have hch1 : Chg (fun b => b = q.gp ∨ (Value.slice Ak t ck).ownBlock = some b) wr x1 := hch0.trans (hcx1.mono (fun _ _ h => h.elim))
                  have cx1 := (hch1n.cell 0 HGP.out (fun h => h)).trans cp
                  refine hK.out _ _ hch1 (fun _ => ?_)
                  clear hK K
                  try simp only [Act.put, List.setIfInBounds_toArray, List.set_cons_zero, List.set_cons_succ]
                  refine wpAnyH_ready (rs := [9]) (by kernel_rfl) (by simp) ?_
                  refine AllReadyH.cons rfl (fun K hK => ?_) AllReadyH.nil
                  rw [if_pos (by rfl)]
                  try simp only [List.getElem_toArray, List.getElem_cons_succ, List.getElem_cons_zero]
                  refine wp_append_key (.tmp 103) (.tmp 108) rfl (ownN C S 0 t) (ownN_ok _ _ _ _) rfl (own_chgN HIB.out.w0 hch1n (fun _ _ h => h)) rfl hx1 (by omega) (Nat.le_trans HIB.out.pl.2.2.2.2.2 hch1n.size) ?_
                  intro v' x2 hown2 hcx2 hn2
                  obtain ⟨Av, cv, hv2⟩ := own_shape hown2
                  subst hv2
                  obtain ⟨hp2, hpost⟩ := HIB.out.app0 hch1n hcx2 hown2
                  have hch2 : Chg (fun b => b = q.gp ∨ (Value.slice Ak t ck).ownBlock = some b) wr x2 := hch1.trans (hcx2.mono (fun _ _ h => .inr h))
                  refine hK.out _ _ hch2 (fun _ => ?_)
                  clear hK K
                  try simp only [Act.put, List.setIfInBounds_toArray, List.set_cons_zero, List.set_cons_succ]
                  refine wpAnyH_take (i := 10) (v := .pointer (some ⟨q.gp, 0, none⟩)) rfl (by kernel_rfl) (by kernel_rfl) (by kernel_rfl) (by first | exact fun _ _ _ h => h | exact fun _ _ _ h => nomatch h.1) (Or.inl ⟨by rfl, fun w_ hw_ => by go_simp⟩) hch2 ?_
                  try simp only [Act.put, List.setIfInBounds_toArray, List.set_cons_zero, List.set_cons_succ, List.getElem_toArray, List.getElem_cons_succ, List.getElem_cons_zero]
                  refine wpAnyH_ready (rs := [11]) (by kernel_rfl) (by simp) ?_
                  refine AllReadyH.cons rfl (fun K hK => ?_) AllReadyH.nil
                  rw [if_pos (by rfl)]
                  try simp only [List.getElem_toArray, List.getElem_cons_succ, List.getElem_cons_zero]
                  have c2 : x2.cell? ⟨q.gp, 0, none⟩ = some (.slice Ak t ck) := hp2.cell 0
                  have z2 := hp2.frozen 0
                  go_simp
                  obtain ⟨x3, hx3⟩ : ∃ x, x = x2.setCell ⟨q.gp, 0, none⟩ (.slice Av (t + 1) cv) := ⟨_, rfl⟩
                  have hch3 : Chg (fun b => b = q.gp ∨ (Value.slice Ak t ck).ownBlock = some b) wr (x2.setCell ⟨q.gp, 0, none⟩ (.slice Av (t + 1) cv)) := hch2.setCell (p := ⟨q.gp, 0, none⟩) (fun _ => .inl rfl) _
                  refine hK.out _ _ hch3 (fun _ => ?_)
                  clear hK K
                  try simp only [Act.put, List.setIfInBounds_toArray, List.set_cons_zero, List.set_cons_succ, List.getElem_toArray, List.getElem_cons_succ, List.getElem_cons_zero]
                  refine wpAnyH_done (by kernel_rfl) ?_ _
                  obtain ⟨hp3, hw3, ho3, hc3⟩ := hpost x3 hx3
                  rw [← hx3]
                  have HP3 := Lib.hid hp3
                  have HW3 := Lib.hid hw3
                  have HO3 := Lib.hid ho3
                  have HC3 := Lib.hid hc3
                  have HN3 : Hid (∀ b, (Value.slice Av (t + 1) cv).ownBlock = some b → (Value.slice Ak t ck).ownBlock = some b ∨ wr.heap.size ≤ b) := Lib.hid (fun b e => (hn2 b e).imp id (fun h => Nat.le_trans hch1n.size h))
                  have HCX := Lib.hid (HIB.out.far0 HQW.out.1 HCt.out hc3)
                  clear hp3 hw3 ho3 hc3 hn2 hpost hp2 c2 z2 hch3 hch2 hch1 hch1n hch0 hch0n hcx2 hown2 hx1 hcx1 hsx1 hx3 cz cx1 cp
                  go_wp2_with (first | ((with_reducible show wpList _ _ _ (⟨some 116, .load 36 _, _, _, _, _⟩ :: _) _ _); refine wpList_load_Mid (cs := cellsS (ownN C S 0 t)) rfl rfl rfl (range_own0 HO3.out) Tryd.underlying36 rfl (by rw [cellsS_len (ownN_ok _ _ _ _)]; exact sizeSc) ?_) | (go_at_call 10; with_reducible refine (HUP.out _ HCX.out).mono ?_; rintro e x4 ⟨rfl, hcu⟩; have HCU := Lib.hid hcu; have HO4 := Lib.hid ((HO3.out.chg hcu (fun h => h)).mid0); clear hcu) | ((with_reducible show wpList _ _ _ (⟨_, .store 36 _ _, _, _, _, _⟩ :: _) _ _); refine wpList_store_Mid (n := 0) (xs := cellsS (ownN C S 0 (t + 1))) rfl rfl rfl rfl HO4.out rfl (by rw [cellsS_len (ownN_ok _ _ _ _), cellsS_len (ownN_ok _ _ _ _)]) (by rw [cellsS_len (ownN_ok _ _ _ _)]; exact sizeSc) (cellsS_one _) ?_; intro x5 hr5 hcs5 hs5; have HFIN := Lib.hid (HIB.out.fin0 HQW.out.1 HCt.out HC3.out HP3.out HW3.out HN3.out HCU.out (hcs5 (fun b => b = q.go) x4 (Chg.refl _ _) (fun _ => rfl)) hr5.unmid0); clear hr5 hcs5 hs5))
                  go_roundw
                  case rel => exact ⟨1, by omega, by first | rfl | go_num, by simpa using HFIN.out.1, HFIN.out.2⟩
                  case measure => simp [intOf]
                · rw [if_pos (by rfl)]
                  try simp only [List.getElem_toArray, List.getElem_cons_succ, List.getElem_cons_zero]
                  refine wp_new_row (v := fun g => .slice (some ⟨g, 0, none⟩) 1 1) (e := 36) (cs := cellsS (ownN C S 0 t)) (fun w_ => by have hh := HBK.out w_; unfold execOp; simp [Act.eval, hh]) ?_
                  intro x1 hx1 hcx1 hsx1
                  have hch1n : Chg none_ wr x1 := hch0n.trans hcx1
                  have hch1 : Chg (fun b => b = q.gp ∨ (Value.slice Ak t ck).ownBlock = some b) wr x1 := hch0.trans (hcx1.mono (fun _ _ h => h.elim))
                  have cx1 := (hch1n.cell 0 HGP.out (fun h => h)).trans cp
                  refine hK.out _ _ hch1 (fun _ => ?_)
                  clear hK K
                  try simp only [Act.put, List.setIfInBounds_toArray, List.set_cons_zero, List.set_cons_succ]
                  refine wpAnyH_ready (rs := [3]) (by kernel_rfl) (by simp) ?_
                  refine AllReadyH.cons rfl (fun K hK => ?_) AllReadyH.nil
                  rw [if_pos (by rfl)]
                  try simp only [List.getElem_toArray, List.getElem_cons_succ, List.getElem_cons_zero]
                  go_simp
                  refine hK.out _ _ hch1 (fun _ => ?_)
                  clear hK K
                  try simp only [Act.put, List.setIfInBounds_toArray, List.set_cons_zero, List.set_cons_succ, List.getElem_toArray, List.getElem_cons_succ, List.getElem_cons_zero]
                  refine wpAnyH_ready (rs := [9]) (by kernel_rfl) (by simp) ?_
                  refine AllReadyH.cons rfl (fun K hK => ?_) AllReadyH.nil
                  rw [if_pos (by rfl)]
                  try simp only [List.getElem_toArray, List.getElem_cons_succ, List.getElem_cons_zero]
                  refine wp_append_key (.tmp 103) (.tmp 108) rfl (ownN C S 0 t) (ownN_ok _ _ _ _) rfl (own_chgN HIB.out.w0 hch1n (fun _ _ h => h)) rfl hx1 (by omega) (Nat.le_trans HIB.out.pl.2.2.2.2.2 hch1n.size) ?_
                  intro v' x2 hown2 hcx2 hn2
                  obtain ⟨Av, cv, hv2⟩ := own_shape hown2
                  subst hv2
                  obtain ⟨hp2, hpost⟩ := HIB.out.app0 hch1n hcx2 hown2
                  have hch2 : Chg (fun b => b = q.gp ∨ (Value.slice Ak t ck).ownBlock = some b) wr x2 := hch1.trans (hcx2.mono (fun _ _ h => .inr h))
                  refine hK.out _ _ hch2 (fun _ => ?_)
                  clear hK K
                  try simp only [Act.put, List.setIfInBounds_toArray, List.set_cons_zero, List.set_cons_succ]
                  refine wpAnyH_take (i := 10) (v := .pointer (some ⟨q.gp, 0, none⟩)) rfl (by kernel_rfl) (by kernel_rfl) (by kernel_rfl) (by first | exact fun _ _ _ h => h | exact fun _ _ _ h => nomatch h.1) (Or.inl ⟨by rfl, fun w_ hw_ => by go_simp⟩) hch2 ?_
                  try simp only [Act.put, List.setIfInBounds_toArray, List.set_cons_zero, List.set_cons_succ, List.getElem_toArray, List.getElem_cons_succ, List.getElem_cons_zero]
                  refine wpAnyH_ready (rs := [11]) (by kernel_rfl) (by simp) ?_
                  refine AllReadyH.cons rfl (fun K hK => ?_) AllReadyH.nil
                  rw [if_pos (by rfl)]
                  try simp only [List.getElem_toArray, List.getElem_cons_succ, List.getElem_cons_zero]
                  have c2 : x2.cell? ⟨q.gp, 0, none⟩ = some (.slice Ak t ck) := hp2.cell 0
                  have z2 := hp2.frozen 0
                  go_simp
                  obtain ⟨x3, hx3⟩ : ∃ x, x = x2.setCell ⟨q.gp, 0, none⟩ (.slice Av (t + 1) cv) := ⟨_, rfl⟩
                  have hch3 : Chg (fun b => b = q.gp ∨ (Value.slice Ak t ck).ownBlock = some b) wr (x2.setCell ⟨q.gp, 0, none⟩ (.slice Av (t + 1) cv)) := hch2.setCell (p := ⟨q.gp, 0, none⟩) (fun _ => .inl rfl) _
                  refine hK.out _ _ hch3 (fun _ => ?_)
                  clear hK K
                  try simp only [Act.put, List.setIfInBounds_toArray, List.set_cons_zero, List.set_cons_succ, List.getElem_toArray, List.getElem_cons_succ, List.getElem_cons_zero]
                  refine wpAnyH_done (by kernel_rfl) ?_ _
                  obtain ⟨hp3, hw3, ho3, hc3⟩ := hpost x3 hx3
                  rw [← hx3]
                  have HP3 := Lib.hid hp3
                  have HW3 := Lib.hid hw3
                  have HO3 := Lib.hid ho3
                  have HC3 := Lib.hid hc3
                  have HN3 : Hid (∀ b, (Value.slice Av (t + 1) cv).ownBlock = some b → (Value.slice Ak t ck).ownBlock = some b ∨ wr.heap.size ≤ b) := Lib.hid (fun b e => (hn2 b e).imp id (fun h => Nat.le_trans hch1n.size h))
                  have HCX := Lib.hid (HIB.out.far0 HQW.out.1 HCt.out hc3)
                  clear hp3 hw3 ho3 hc3 hn2 hpost hp2 c2 z2 hch3 hch2 hch1 hch1n hch0 hch0n hcx2 hown2 hx1 hcx1 hsx1 hx3 cz cx1 cp
                  go_wp2_with (first | ((with_reducible show wpList _ _ _ (⟨some 116, .load 36 _, _, _, _, _⟩ :: _) _ _); refine wpList_load_Mid (cs := cellsS (ownN C S 0 t)) rfl rfl rfl (range_own0 HO3.out) Tryd.underlying36 rfl (by rw [cellsS_len (ownN_ok _ _ _ _)]; exact sizeSc) ?_) | (go_at_call 10; with_reducible refine (HUP.out _ HCX.out).mono ?_; rintro e x4 ⟨rfl, hcu⟩; have HCU := Lib.hid hcu; have HO4 := Lib.hid ((HO3.out.chg hcu (fun h => h)).mid0); clear hcu) | ((with_reducible show wpList _ _ _ (⟨_, .store 36 _ _, _, _, _, _⟩ :: _) _ _); refine wpList_store_Mid (n := 0) (xs := cellsS (ownN C S 0 (t + 1))) rfl rfl rfl rfl HO4.out rfl (by rw [cellsS_len (ownN_ok _ _ _ _), cellsS_len (ownN_ok _ _ _ _)]) (by rw [cellsS_len (ownN_ok _ _ _ _)]; exact sizeSc) (cellsS_one _) ?_; intro x5 hr5 hcs5 hs5; have HFIN := Lib.hid (HIB.out.fin0 HQW.out.1 HCt.out HC3.out HP3.out HW3.out HN3.out HCU.out (hcs5 (fun b => b = q.go) x4 (Chg.refl _ _) (fun _ => rfl)) hr5.unmid0); clear hr5 hcs5 hs5))
                  go_roundw
                  case rel => exact ⟨1, by omega, by first | rfl | go_num, by simpa using HFIN.out.1, HFIN.out.2⟩
                  case measure => simp [intOf]
            · have HIN2 : Hid (Inv C S q t (t + 1) (t + 1) t wr) := Lib.hid (by simpa using hik)
              clear hik
              as_aux_lemma =>
                obtain ⟨v0, v1, P, hib⟩ := HIN2.out
                obtain ⟨Ak, ck, hvk⟩ := own_shape hib.w1
                subst hvk
                have HIB := Lib.hid hib
                have cp : wr.cell? ⟨q.gp, 1, none⟩ = some (.slice Ak t ck) := hib.rp.cell 1
                have HGP := Lib.hid hib.rp.lt
                have HBK := Lib.hid (fun w => run_slice1 (ownN C S 1 t) (ownN_ok _ _ _ _) w)
                have HGO : Hid (∀ w', Chg (fun b => b = q.gp ∨ (Value.slice Ak t ck).ownBlock = some b) wr w' → w'.rangeAt q.go 61 (cellsS (ownN C S 1 t))) := Lib.hid (fun w' hc => range_own1 (HIB.out.keep1 hc) (cellsS_len (ownN_ok _ _ _ _)))
                have HUP : Hid (∀ w', Chg none_ W w' → Calls Tryd.prog 10 #[.agg (cellsS (ownN C S 1 t)).toArray] w' fun e w'' => e = .returned (.agg (cellsS (ownN C S 1 (t + 1))).toArray) ∧ Chg none_ w' w'') := Lib.hid (fun w' hc => Update_any _ w' (ownN_ok _ _ _ _) (HKK.out _ hc))
                clear hib
                simp only [show ((1 : Nat) : Int) = 1 from rfl]
                go_wp2
                try simp only [Act.put, List.setIfInBounds_toArray, List.set_cons_zero, List.set_cons_succ]
                have hch0n : Chg none_ wr wr.drew := (Chg.refl none_ wr).drew
                refine wp_region_held_drew (S := fun w' => Chg (fun b => b = q.gp ∨ (Value.slice Ak t ck).ownBlock = some b) wr w') (by kernel_rfl) ((Chg.refl _ wr).drew) (fun hch0 => ?_)
                generalize wr.drew = wz at hch0 hch0n ⊢
                refine wpAnyH_take (i := 0) (v := .int .i64 1) rfl (by kernel_rfl) (by kernel_rfl) (by kernel_rfl) (by first | exact fun _ _ _ h => h | exact fun _ _ _ h => nomatch h.1) (Or.inl ⟨by rfl, fun w_ hw_ => by go_simp⟩) hch0 ?_
                refine wpAnyH_take (i := 1) (v := .int .i64 1) rfl (by kernel_rfl) (by kernel_rfl) (by kernel_rfl) (by first | exact fun _ _ _ h => h | exact fun _ _ _ h => nomatch h.1) (Or.inl ⟨by rfl, fun w_ hw_ => by go_simp⟩) hch0 ?_
                refine wpAnyH_take (i := 4) (v := .slice (some ⟨q.go, 0, none⟩) 2 2) rfl (by kernel_rfl) (by kernel_rfl) (by kernel_rfl) (by first | exact fun _ _ _ h => h | exact fun _ _ _ h => nomatch h.1) (Or.inl ⟨by rfl, fun w_ hw_ => by go_simp⟩) hch0 ?_
                refine wpAnyH_take (i := 5) (v := .int .i64 1) rfl (by kernel_rfl) (by kernel_rfl) (by kernel_rfl) (by first | exact fun _ _ _ h => h | exact fun _ _ _ h => nomatch h.1) (Or.inl ⟨by rfl, fun w_ hw_ => by go_simp⟩) hch0 ?_
                try simp only [Act.put, List.setIfInBounds_toArray, List.set_cons_zero, List.set_cons_succ, List.getElem_toArray, List.getElem_cons_succ, List.getElem_cons_zero]
                refine wpAnyH_take (i := 2) (v := .pointer (some ⟨q.gp, 1, none⟩)) rfl (by kernel_rfl) (by kernel_rfl) (by kernel_rfl) (by first | exact fun _ _ _ h => h | exact fun _ _ _ h => nomatch h.1) (Or.inl ⟨by rfl, fun w_ hw_ => by go_simp⟩) hch0 ?_
                refine wpAnyH_take (i := 6) (v := .pointer (some ⟨q.go, 61, none⟩)) rfl (by kernel_rfl) (by kernel_rfl) (by kernel_rfl) (by first | exact fun _ _ _ h => h | exact fun _ _ _ h => nomatch h.1) (Or.inl ⟨by rfl, fun w_ hw_ => by go_simp⟩) hch0 ?_
                try simp only [Act.put, List.setIfInBounds_toArray, List.set_cons_zero, List.set_cons_succ, List.getElem_toArray, List.getElem_cons_succ, List.getElem_cons_zero]
                refine wpAnyH_take (i := 7) (v := .agg (cellsS (ownN C S 1 t)).toArray) rfl (by kernel_rfl) (by kernel_rfl) (by kernel_rfl) (by first | exact fun _ _ _ h => h | exact fun _ _ _ h => nomatch h.1) (yieldsIf_load_mid (by rfl) 36 _ rfl q.go 61 rfl (cellsS (ownN C S 1 t)) _ (fun w' hw' => HGO.out w' hw') Tryd.underlying36 rfl (by rw [cellsS_len (ownN_ok _ _ _ _)]; exact sizeSc)) hch0 ?_
                try simp only [Act.put, List.setIfInBounds_toArray, List.set_cons_zero, List.set_cons_succ, List.getElem_toArray, List.getElem_cons_succ, List.getElem_cons_zero]
                have cz := (hch0n.cell 1 HGP.out (fun h => h)).trans cp
                refine wpAnyH_ready (rs := [3, 8]) (by kernel_rfl) (by simp) ?_
                refine AllReadyH.cons rfl (fun K hK => ?_) (AllReadyH.cons rfl (fun K hK => ?_) AllReadyH.nil)
                · rw [if_pos (by rfl)]
                  try simp only [List.getElem_toArray, List.getElem_cons_succ, List.getElem_cons_zero]
                  go_simp
                  refine hK.out _ _ hch0 (fun _ => ?_)
                  clear hK K
                  try simp only [Act.put, List.setIfInBounds_toArray, List.set_cons_zero, List.set_cons_succ, List.getElem_toArray, List.getElem_cons_succ, List.getElem_cons_zero]
                  refine wpAnyH_ready (rs := [8]) (by kernel_rfl) (by simp) ?_
                  refine AllReadyH.cons rfl (fun K hK => ?_) AllReadyH.nil
                  rw [if_pos (by rfl)]
                  try simp only [List.getElem_toArray, List.getElem_cons_succ, List.getElem_cons_zero]
                  refine wp_new_row (v := fun g => .slice (some ⟨g, 0, none⟩) 1 1) (e := 36) (cs := cellsS (ownN C S 1 t)) (fun w_ => by have hh := HBK.out w_; unfold execOp; simp [Act.eval, hh]) ?_
                  intro x1 hx1 hcx1 hsx1
                  have hch1n : Chg none_ wr x1 := hch0n.trans hcx1
                  have hch1 : Chg (fun b => b = q.gp ∨ (Value.slice Ak t ck).ownBlock = some b) wr x1 := hch0.trans (hcx1.mono (fun _ _ h => h.elim))
                  have cx1 := (hch1n.cell 1 HGP.out (fun h => h)).trans cp
                  refine hK.out _ _ hch1 (fun _ => ?_)
                  clear hK K
                  try simp only [Act.put, List.setIfInBounds_toArray, List.set_cons_zero, List.set_cons_succ]
                  refine wpAnyH_ready (rs := [9]) (by kernel_rfl) (by simp) ?_
                  refine AllReadyH.cons rfl (fun K hK => ?_) AllReadyH.nil
                  rw [if_pos (by rfl)]
                  try simp only [List.getElem_toArray, List.getElem_cons_succ, List.getElem_cons_zero]
                  refine wp_append_key (.tmp 103) (.tmp 108) rfl (ownN C S 1 t) (ownN_ok _ _ _ _) rfl (own_chgN HIB.out.w1 hch1n (fun _ _ h => h)) rfl hx1 (by omega) (Nat.le_trans HIB.out.pl.2.2.2.2.2 hch1n.size) ?_
                  intro v' x2 hown2 hcx2 hn2
                  obtain ⟨Av, cv, hv2⟩ := own_shape hown2
                  subst hv2
                  obtain ⟨hp2, hpost⟩ := HIB.out.app1 hch1n hcx2 hown2
                  have hch2 : Chg (fun b => b = q.gp ∨ (Value.slice Ak t ck).ownBlock = some b) wr x2 := hch1.trans (hcx2.mono (fun _ _ h => .inr h))
                  refine hK.out _ _ hch2 (fun _ => ?_)
                  clear hK K
                  try simp only [Act.put, List.setIfInBounds_toArray, List.set_cons_zero, List.set_cons_succ]
                  refine wpAnyH_take (i := 10) (v := .pointer (some ⟨q.gp, 1, none⟩)) rfl (by kernel_rfl) (by kernel_rfl) (by kernel_rfl) (by first | exact fun _ _ _ h => h | exact fun _ _ _ h => nomatch h.1) (Or.inl ⟨by rfl, fun w_ hw_ => by go_simp⟩) hch2 ?_
                  try simp only [Act.put, List.setIfInBounds_toArray, List.set_cons_zero, List.set_cons_succ, List.getElem_toArray, List.getElem_cons_succ, List.getElem_cons_zero]
                  refine wpAnyH_ready (rs := [11]) (by kernel_rfl) (by simp) ?_
                  refine AllReadyH.cons rfl (fun K hK => ?_) AllReadyH.nil
                  rw [if_pos (by rfl)]
                  try simp only [List.getElem_toArray, List.getElem_cons_succ, List.getElem_cons_zero]
                  have c2 : x2.cell? ⟨q.gp, 1, none⟩ = some (.slice Ak t ck) := hp2.cell 1
                  have z2 := hp2.frozen 1
                  go_simp
                  obtain ⟨x3, hx3⟩ : ∃ x, x = x2.setCell ⟨q.gp, 1, none⟩ (.slice Av (t + 1) cv) := ⟨_, rfl⟩
                  have hch3 : Chg (fun b => b = q.gp ∨ (Value.slice Ak t ck).ownBlock = some b) wr (x2.setCell ⟨q.gp, 1, none⟩ (.slice Av (t + 1) cv)) := hch2.setCell (p := ⟨q.gp, 1, none⟩) (fun _ => .inl rfl) _
                  refine hK.out _ _ hch3 (fun _ => ?_)
                  clear hK K
                  try simp only [Act.put, List.setIfInBounds_toArray, List.set_cons_zero, List.set_cons_succ, List.getElem_toArray, List.getElem_cons_succ, List.getElem_cons_zero]
                  refine wpAnyH_done (by kernel_rfl) ?_ _
                  obtain ⟨hp3, hw3, ho3, hc3⟩ := hpost x3 hx3
                  rw [← hx3]
                  have HP3 := Lib.hid hp3
                  have HW3 := Lib.hid hw3
                  have HO3 := Lib.hid ho3
                  have HC3 := Lib.hid hc3
                  have HN3 : Hid (∀ b, (Value.slice Av (t + 1) cv).ownBlock = some b → (Value.slice Ak t ck).ownBlock = some b ∨ wr.heap.size ≤ b) := Lib.hid (fun b e => (hn2 b e).imp id (fun h => Nat.le_trans hch1n.size h))
                  have HCX := Lib.hid (HIB.out.far1 HQW.out.1 HCt.out hc3)
                  clear hp3 hw3 ho3 hc3 hn2 hpost hp2 c2 z2 hch3 hch2 hch1 hch1n hch0 hch0n hcx2 hown2 hx1 hcx1 hsx1 hx3 cz cx1 cp
                  go_wp2_with (first | ((with_reducible show wpList _ _ _ (⟨some 116, .load 36 _, _, _, _, _⟩ :: _) _ _); refine wpList_load_Mid (cs := cellsS (ownN C S 1 t)) rfl rfl rfl (range_own1 HO3.out (cellsS_len (ownN_ok _ _ _ _))) Tryd.underlying36 rfl (by rw [cellsS_len (ownN_ok _ _ _ _)]; exact sizeSc) ?_) | (go_at_call 10; with_reducible refine (HUP.out _ HCX.out).mono ?_; rintro e x4 ⟨rfl, hcu⟩; have HCU := Lib.hid hcu; have HO4 := Lib.hid ((HO3.out.chg hcu (fun h => h)).mid1); clear hcu) | ((with_reducible show wpList _ _ _ (⟨_, .store 36 _ _, _, _, _, _⟩ :: _) _ _); refine wpList_store_Mid (n := 61) (xs := cellsS (ownN C S 1 (t + 1))) rfl rfl (cellsS_len (ownN_ok _ _ _ _)).symm rfl HO4.out rfl (by rw [cellsS_len (ownN_ok _ _ _ _), cellsS_len (ownN_ok _ _ _ _)]) (by rw [cellsS_len (ownN_ok _ _ _ _)]; exact sizeSc) (cellsS_one _) ?_; intro x5 hr5 hcs5 hs5; have HFIN := Lib.hid (HIB.out.fin1 HQW.out.1 HCt.out HC3.out HP3.out HW3.out HN3.out HCU.out (hcs5 (fun b => b = q.go) x4 (Chg.refl _ _) (fun _ => rfl)) hr5.unmid); clear hr5 hcs5 hs5))
                  go_roundw
                  case rel => exact ⟨2, by omega, by first | rfl | go_num, by simpa using HFIN.out.1, HFIN.out.2⟩
                  case measure => simp [intOf]
                · rw [if_pos (by rfl)]
                  try simp only [List.getElem_toArray, List.getElem_cons_succ, List.getElem_cons_zero]
                  refine wp_new_row (v := fun g => .slice (some ⟨g, 0, none⟩) 1 1) (e := 36) (cs := cellsS (ownN C S 1 t)) (fun w_ => by have hh := HBK.out w_; unfold execOp; simp [Act.eval, hh]) ?_
                  intro x1 hx1 hcx1 hsx1
                  have hch1n : Chg none_ wr x1 := hch0n.trans hcx1
                  have hch1 : Chg (fun b => b = q.gp ∨ (Value.slice Ak t ck).ownBlock = some b) wr x1 := hch0.trans (hcx1.mono (fun _ _ h => h.elim))
                  have cx1 := (hch1n.cell 1 HGP.out (fun h => h)).trans cp
                  refine hK.out _ _ hch1 (fun _ => ?_)
                  clear hK K
                  try simp only [Act.put, List.setIfInBounds_toArray, List.set_cons_zero, List.set_cons_succ]
                  refine wpAnyH_ready (rs := [3]) (by kernel_rfl) (by simp) ?_
                  refine AllReadyH.cons rfl (fun K hK => ?_) AllReadyH.nil
                  rw [if_pos (by rfl)]
                  try simp only [List.getElem_toArray, List.getElem_cons_succ, List.getElem_cons_zero]
                  go_simp
                  refine hK.out _ _ hch1 (fun _ => ?_)
                  clear hK K
                  try simp only [Act.put, List.setIfInBounds_toArray, List.set_cons_zero, List.set_cons_succ, List.getElem_toArray, List.getElem_cons_succ, List.getElem_cons_zero]
                  refine wpAnyH_ready (rs := [9]) (by kernel_rfl) (by simp) ?_
                  refine AllReadyH.cons rfl (fun K hK => ?_) AllReadyH.nil
                  rw [if_pos (by rfl)]
                  try simp only [List.getElem_toArray, List.getElem_cons_succ, List.getElem_cons_zero]
                  refine wp_append_key (.tmp 103) (.tmp 108) rfl (ownN C S 1 t) (ownN_ok _ _ _ _) rfl (own_chgN HIB.out.w1 hch1n (fun _ _ h => h)) rfl hx1 (by omega) (Nat.le_trans HIB.out.pl.2.2.2.2.2 hch1n.size) ?_
                  intro v' x2 hown2 hcx2 hn2
                  obtain ⟨Av, cv, hv2⟩ := own_shape hown2
                  subst hv2
                  obtain ⟨hp2, hpost⟩ := HIB.out.app1 hch1n hcx2 hown2
                  have hch2 : Chg (fun b => b = q.gp ∨ (Value.slice Ak t ck).ownBlock = some b) wr x2 := hch1.trans (hcx2.mono (fun _ _ h => .inr h))
                  refine hK.out _ _ hch2 (fun _ => ?_)
                  clear hK K
                  try simp only [Act.put, List.setIfInBounds_toArray, List.set_cons_zero, List.set_cons_succ]
                  refine wpAnyH_take (i := 10) (v := .pointer (some ⟨q.gp, 1, none⟩)) rfl (by kernel_rfl) (by kernel_rfl) (by kernel_rfl) (by first | exact fun _ _ _ h => h | exact fun _ _ _ h => nomatch h.1) (Or.inl ⟨by rfl, fun w_ hw_ => by go_simp⟩) hch2 ?_
                  try simp only [Act.put, List.setIfInBounds_toArray, List.set_cons_zero, List.set_cons_succ, List.getElem_toArray, List.getElem_cons_succ, List.getElem_cons_zero]
                  refine wpAnyH_ready (rs := [11]) (by kernel_rfl) (by simp) ?_
                  refine AllReadyH.cons rfl (fun K hK => ?_) AllReadyH.nil
                  rw [if_pos (by rfl)]
                  try simp only [List.getElem_toArray, List.getElem_cons_succ, List.getElem_cons_zero]
                  have c2 : x2.cell? ⟨q.gp, 1, none⟩ = some (.slice Ak t ck) := hp2.cell 1
                  have z2 := hp2.frozen 1
                  go_simp
                  obtain ⟨x3, hx3⟩ : ∃ x, x = x2.setCell ⟨q.gp, 1, none⟩ (.slice Av (t + 1) cv) := ⟨_, rfl⟩
                  have hch3 : Chg (fun b => b = q.gp ∨ (Value.slice Ak t ck).ownBlock = some b) wr (x2.setCell ⟨q.gp, 1, none⟩ (.slice Av (t + 1) cv)) := hch2.setCell (p := ⟨q.gp, 1, none⟩) (fun _ => .inl rfl) _
                  refine hK.out _ _ hch3 (fun _ => ?_)
                  clear hK K
                  try simp only [Act.put, List.setIfInBounds_toArray, List.set_cons_zero, List.set_cons_succ, List.getElem_toArray, List.getElem_cons_succ, List.getElem_cons_zero]
                  refine wpAnyH_done (by kernel_rfl) ?_ _
                  obtain ⟨hp3, hw3, ho3, hc3⟩ := hpost x3 hx3
                  rw [← hx3]
                  have HP3 := Lib.hid hp3
                  have HW3 := Lib.hid hw3
                  have HO3 := Lib.hid ho3
                  have HC3 := Lib.hid hc3
                  have HN3 : Hid (∀ b, (Value.slice Av (t + 1) cv).ownBlock = some b → (Value.slice Ak t ck).ownBlock = some b ∨ wr.heap.size ≤ b) := Lib.hid (fun b e => (hn2 b e).imp id (fun h => Nat.le_trans hch1n.size h))
                  have HCX := Lib.hid (HIB.out.far1 HQW.out.1 HCt.out hc3)
                  clear hp3 hw3 ho3 hc3 hn2 hpost hp2 c2 z2 hch3 hch2 hch1 hch1n hch0 hch0n hcx2 hown2 hx1 hcx1 hsx1 hx3 cz cx1 cp
                  go_wp2_with (first | ((with_reducible show wpList _ _ _ (⟨some 116, .load 36 _, _, _, _, _⟩ :: _) _ _); refine wpList_load_Mid (cs := cellsS (ownN C S 1 t)) rfl rfl rfl (range_own1 HO3.out (cellsS_len (ownN_ok _ _ _ _))) Tryd.underlying36 rfl (by rw [cellsS_len (ownN_ok _ _ _ _)]; exact sizeSc) ?_) | (go_at_call 10; with_reducible refine (HUP.out _ HCX.out).mono ?_; rintro e x4 ⟨rfl, hcu⟩; have HCU := Lib.hid hcu; have HO4 := Lib.hid ((HO3.out.chg hcu (fun h => h)).mid1); clear hcu) | ((with_reducible show wpList _ _ _ (⟨_, .store 36 _ _, _, _, _, _⟩ :: _) _ _); refine wpList_store_Mid (n := 61) (xs := cellsS (ownN C S 1 (t + 1))) rfl rfl (cellsS_len (ownN_ok _ _ _ _)).symm rfl HO4.out rfl (by rw [cellsS_len (ownN_ok _ _ _ _), cellsS_len (ownN_ok _ _ _ _)]) (by rw [cellsS_len (ownN_ok _ _ _ _)]; exact sizeSc) (cellsS_one _) ?_; intro x5 hr5 hcs5 hs5; have HFIN := Lib.hid (HIB.out.fin1 HQW.out.1 HCt.out HC3.out HP3.out HW3.out HN3.out HCU.out (hcs5 (fun b => b = q.go) x4 (Chg.refl _ _) (fun _ => rfl)) hr5.unmid); clear hr5 hcs5 hs5))
                  go_roundw
                  case rel => exact ⟨2, by omega, by first | rfl | go_num, by simpa using HFIN.out.1, HFIN.out.2⟩
                  case measure => simp [intOf]
            · have HIN2 : Hid (Inv C S q t (t + 1) (t + 1) (t + 1) wr) := Lib.hid (by simpa using hik)
              clear hik
              simp only [show ((2 : Nat) : Int) = 2 from rfl]
              go_wp2
              try simp only [Act.put, List.setIfInBounds_toArray, List.set_cons_zero, List.set_cons_succ]
              go_loopw [8, 17, 18, 19, 20, 21, 22, 23, 24, 25, 26] (fun _ kv _ _ _ _ _ _ _ _ _ wk => ∃ k : Nat, k ≤ 2 ∧ kv = .int .i64 k ∧ Inv C S q (if k = 0 then t else t + 1) (t + 1) (t + 1) (t + 1) wk ∧ Chg none_ W wk) (fun _ kv _ _ _ _ _ _ _ _ _ _ => 2 - (intOf kv).toNat)
              case atStart => exact ⟨0, Nat.zero_le _, rfl, by simpa using HIN2.out, HCt.out⟩
              case round =>
                obtain ⟨k, hk, rfl, hik, hck⟩ := hrel
                have HCk := Lib.hid hck
                obtain ⟨wk, hwk⟩ : ∃ x, x = wr := ⟨_, rfl⟩
                subst hwk
                clear hck
                have hk3 : k = 0 ∨ k = 1 ∨ k = 2 := by omega
                rcases hk3 with rfl | rfl | rfl
                all_goals clear hk
                · have HINk : Hid (Inv C S q t (t + 1) (t + 1) (t + 1) wk) := Lib.hid (by simpa using hik)
                  clear hik
                  simp only [show ((0 : Nat) : Int) = 0 from rfl]
                  go_wp2
                  as_aux_lemma =>
                    have HSE : Hid (∀ w', Chg none_ wk w' → Calls Tryd.prog 11 #[.pointer (some ⟨q.gB, 0, none⟩), .int .i64 1, .int .i64 i, .slice none 0 0, .slice At text.length capt] w' fun e w'' => ∃ A c, e = .returned (.slice A (text.length + 16) c) ∧ text.length + 16 ≤ c ∧ View w'' (fun b => w'.heap.size ≤ b) A (text.length + 16) (u8s (ctN C S 1 (t + 1) i text)) ∧ Chg none_ w' w'') := Lib.hid (fun w' hc => seal_inv 1 (by decide) i text _ At capt (HINk.out.quiet hc) (HTV.out w' (HCk.out.trans hc)) hq4' HTB.out)
                    try simp only [Act.put, List.setIfInBounds_toArray, List.set_cons_zero, List.set_cons_succ]
                    have CXA : Hid (∀ w', Chg none_ wk w' → w'.cell? ⟨q.gx, 0, none⟩ = some (.pointer (some ⟨q.gA, 0, none⟩))) := Lib.hid (fun w' hc => (HINk.out.quiet hc).ringsX.1)
                    have CXB : Hid (∀ w', Chg none_ wk w' → w'.cell? ⟨q.gx, 1, none⟩ = some (.pointer (some ⟨q.gB, 0, none⟩))) := Lib.hid (fun w' hc => (HINk.out.quiet hc).ringsX.2)
                    refine wp_region_held_drew (S := fun w' => Chg none_ wk w') (by kernel_rfl) ((Chg.refl none_ wk).drew) (fun hch0 => ?_)
                    generalize wk.drew = wz at hch0 ⊢
                    refine wpAnyH_take (i := 0) (v := .slice (some ⟨q.gx, 0, none⟩) 2 2) rfl (by kernel_rfl) (by kernel_rfl) (by kernel_rfl) (by first | exact fun _ _ _ h => h | exact fun _ _ _ h => nomatch h.1) (Or.inl ⟨by rfl, fun w_ hw_ => by go_simp⟩) hch0 ?_
                    refine wpAnyH_take (i := 1) (v := .int .i64 1) rfl (by kernel_rfl) (by kernel_rfl) (by kernel_rfl) (by first | exact fun _ _ _ h => h | exact fun _ _ _ h => nomatch h.1) (Or.inl ⟨by rfl, fun w_ hw_ => by go_simp⟩) hch0 ?_
                    refine wpAnyH_take (i := 4) (v := .slice (some ⟨q.gx, 0, none⟩) 2 2) rfl (by kernel_rfl) (by kernel_rfl) (by kernel_rfl) (by first | exact fun _ _ _ h => h | exact fun _ _ _ h => nomatch h.1) (Or.inl ⟨by rfl, fun w_ hw_ => by go_simp⟩) hch0 ?_
                    refine wpAnyH_take (i := 5) (v := .int .i64 1) rfl (by kernel_rfl) (by kernel_rfl) (by kernel_rfl) (by first | exact fun _ _ _ h => h | exact fun _ _ _ h => nomatch h.1) (Or.inl ⟨by rfl, fun w_ hw_ => by go_simp⟩) hch0 ?_
                    try simp only [Act.put, List.setIfInBounds_toArray, List.set_cons_zero, List.set_cons_succ, List.getElem_toArray, List.getElem_cons_succ, List.getElem_cons_zero]
                    refine wpAnyH_take (i := 2) (v := .pointer (some ⟨q.gx, 1, none⟩)) rfl (by kernel_rfl) (by kernel_rfl) (by kernel_rfl) (by first | exact fun _ _ _ h => h | exact fun _ _ _ h => nomatch h.1) (Or.inl ⟨by rfl, fun w_ hw_ => by go_simp⟩) hch0 ?_
                    refine wpAnyH_take (i := 6) (v := .int .i64 0) rfl (by kernel_rfl) (by kernel_rfl) (by kernel_rfl) (by first | exact fun _ _ _ h => h | exact fun _ _ _ h => nomatch h.1) (Or.inl ⟨by rfl, fun w_ hw_ => by first | (go_simp; done) | (go_simp; rfl)⟩) hch0 ?_
                    try simp only [Act.put, List.setIfInBounds_toArray, List.set_cons_zero, List.set_cons_succ, List.getElem_toArray, List.getElem_cons_succ, List.getElem_cons_zero]
                    refine wpAnyH_take (i := 3) (v := .pointer (some ⟨q.gB, 0, none⟩)) rfl (by kernel_rfl) (by kernel_rfl) (by kernel_rfl) (by first | exact fun _ _ _ h => h | exact fun _ _ _ h => nomatch h.1) (Or.inl ⟨by rfl, fun w_ hw_ => by have hh := CXB.out w_ hw_; go_simp⟩) hch0 ?_
                    refine wpAnyH_take (i := 7) (v := .pointer (some ⟨q.gx, 0, none⟩)) rfl (by kernel_rfl) (by kernel_rfl) (by kernel_rfl) (by first | exact fun _ _ _ h => h | exact fun _ _ _ h => nomatch h.1) (Or.inl ⟨by rfl, fun w_ hw_ => by go_simp⟩) hch0 ?_
                    try simp only [Act.put, List.setIfInBounds_toArray, List.set_cons_zero, List.set_cons_succ, List.getElem_toArray, List.getElem_cons_succ, List.getElem_cons_zero]
                    refine wpAnyH_take (i := 8) (v := .pointer (some ⟨q.gA, 0, none⟩)) rfl (by kernel_rfl) (by kernel_rfl) (by kernel_rfl) (by first | exact fun _ _ _ h => h | exact fun _ _ _ h => nomatch h.1) (Or.inl ⟨by rfl, fun w_ hw_ => by have hh := CXA.out w_ hw_; go_simp⟩) hch0 ?_
                    try simp only [Act.put, List.setIfInBounds_toArray, List.set_cons_zero, List.set_cons_succ, List.getElem_toArray, List.getElem_cons_succ, List.getElem_cons_zero]
                    refine wpAnyH_take (i := 9) (v := .pointer (some ⟨q.gB, 0, none⟩)) rfl (by kernel_rfl) (by kernel_rfl) (by kernel_rfl) (by first | exact fun _ _ _ h => h | exact fun _ _ _ h => nomatch h.1) (Or.inl ⟨by rfl, fun w_ hw_ => by go_simp⟩) hch0 ?_
                    refine wpAnyH_take (i := 10) (v := .pointer (some ⟨q.gA, 0, none⟩)) rfl (by kernel_rfl) (by kernel_rfl) (by kernel_rfl) (by first | exact fun _ _ _ h => h | exact fun _ _ _ h => nomatch h.1) (Or.inl ⟨by rfl, fun w_ hw_ => by go_simp⟩) hch0 ?_
                    try simp only [Act.put, List.setIfInBounds_toArray, List.set_cons_zero, List.set_cons_succ, List.getElem_toArray, List.getElem_cons_succ, List.getElem_cons_zero]
                    refine wpAnyH_done (by kernel_rfl) ?_ _
                    go_wp2_with (first | (go_at_call 11; with_reducible refine (HSE.out _ hch0).mono ?_; rintro e s1 ⟨A21, c21, rfl, hl21, hv21, hcs1⟩; have HL21 := Lib.hid hl21; have HINs := Lib.hid (HINk.out.quiet (hch0.trans hcs1)); have HCs := Lib.hid (HCk.out.trans (hch0.trans hcs1)); have HVs := Lib.hid (hv21.mono (T' := fun b => b < s1.heap.size) (fun b hb _ => hb)); clear hv21 hcs1 hl21))
                    try simp only [Act.put, List.setIfInBounds_toArray, List.set_cons_zero, List.set_cons_succ]
                    clear HSE CXA CXB hch0
                    obtain ⟨Ap, cp, hpc, hpl, hpr⟩ := HINs.out.past 1 (by decide)
                    have HPC := Lib.hid hpc
                    have HPL := Lib.hid hpl
                    have HPR := Lib.hid hpr
                    have HPO : Hid (∀ w' m, Chg none_ s1 w' → Calls Tryd.prog 12 #[.agg (cellsS (ownN C S 1 m)).toArray, .int .i64 i, .slice none 0 0, .slice A21 (text.length + 16) c21] w' fun e w'' => ∃ v, e = .returned (.tuple #[v, .int .i64 (openK (ownN C S 1 m) i [] (ctN C S 1 (t + 1) i text)).2]) ∧ Owned w'' w'.heap.size v (openK (ownN C S 1 m) i [] (ctN C S 1 (t + 1) i text)).1 ∧ Chg none_ w' w'') := Lib.hid (fun w' m hc => past_open 1 ((t + 1)) m i text A21 c21 _ (HVs.out.chg hc (fun _ _ h => h)) HL21.out hq4' HTB.out)
                    clear hpc hpl hpr
                    go_loopw [22, 23, 24] (fun mv _ _ wr => ∃ m : Nat, m ≤ (t + 1) ∧ mv = .int .i64 m ∧ Hid (∀ m', m' < m → (openK (ownN C S 1 m') i [] (ctN C S 1 (t + 1) i text)).2 ≠ 0) ∧ Chg none_ s1 wr) (fun mv _ _ _ => (t + 1) - (intOf mv).toNat)
                    case atStart => exact ⟨0, Nat.zero_le _, rfl, Lib.hid (fun m' h => absurd h (by omega)), Chg.refl _ _⟩
                    case round =>
                      obtain ⟨m, hm, rfl, HNO, hchm⟩ := hrel
                      have cg := (hchm.cell 1 HPL.out (fun h => h)).trans HPC.out
                      have HCm := Lib.hid hchm
                      by_cases hlm : m < (t + 1)
                      · obtain ⟨gp, hAp, hgl, hrg⟩ := HPR.out m hlm
                        subst hAp
                        have HRG : Hid (wr.rangeAt gp (m * 61) (cellsS (ownN C S 1 m))) := Lib.hid (fun j v hv => (hchm.cell _ hgl (fun h => h)).trans (hrg j v hv))
                        have HPM := Lib.hid (HPO.out wr m hchm)
                        have HMO := Lib.hid (ownN_ok C S 1 m)
                        obtain ⟨z, hz⟩ : ∃ z, z = (openK (ownN C S 1 m) i [] (ctN C S 1 (t + 1) i text)).2 := ⟨_, rfl⟩
                        rw [← hz] at HPM
                        have HZ := Lib.hid hz
                        have q5 : (m : Int) < ((t + 1) : Int) := by omega
                        have q6 : (0 : Int) ≤ (m : Int) := by omega
                        have HLM := Lib.hid hlm
                        clear hm hchm hlm hgl hrg hz
                        by_cases hz0 : z = 0
                        · subst hz0
                          go_wp2_with (first | ((with_reducible show wpList _ _ _ (⟨some 154, .load 36 _, _, _, _, _⟩ :: _) _ _); refine wpList_load_Mid (cs := cellsS (ownN C S 1 m)) rfl rfl rfl (HRG.out) Tryd.underlying36 rfl (by rw [cellsS_len HMO.out]; exact sizeSc) ?_) | (go_at_call 12; with_reducible refine HPM.out.mono ?_; rintro e o1 ⟨vo, rfl, _, hco⟩; have HCo := Lib.hid hco; clear hco))
                          go_ret
                          exact ⟨rfl, (HCs.out.trans HCm.out).trans HCo.out⟩
                        · go_wp2_with (first | ((with_reducible show wpList _ _ _ (⟨some 154, .load 36 _, _, _, _, _⟩ :: _) _ _); refine wpList_load_Mid (cs := cellsS (ownN C S 1 m)) rfl rfl rfl (HRG.out) Tryd.underlying36 rfl (by rw [cellsS_len HMO.out]; exact sizeSc) ?_) | (go_at_call 12; with_reducible refine HPM.out.mono ?_; rintro e o1 ⟨vo, rfl, _, hco⟩; have HCo := Lib.hid hco; clear hco))
                          go_roundw
                          case rel => exact ⟨m + 1, by have := HLM.out; omega, by go_num, Lib.hid (fun m' h => by
                            rcases Nat.lt_or_ge m' m with h2 | h2
                            · exact HNO.out m' h2
                            · have : m' = m := by omega
                              subst this
                              rw [← HZ.out]; exact hz0), HCm.out.trans HCo.out⟩
                          case measure => have := HLM.out; simp [intOf]; omega
                      · have hmt : m = (t + 1) := by omega
                        have q5 : ¬ (m : Int) < ((t + 1) : Int) := by omega
                        have HPAST : Hid (∀ m', m' < (t + 1) → (openK (ownN C S 1 m') i [] (ctN C S 1 (t + 1) i text)).2 ≠ 0) := Lib.hid (fun m' h => HNO.out m' (by omega))
                        have HINm := Lib.hid (HINs.out.quiet hchm)
                        have HCw := Lib.hid (HCs.out.trans hchm)
                        have HVm := Lib.hid (HVs.out.chg hchm (fun _ _ h => h))
                        obtain ⟨bp, hbp⟩ : ∃ b, b = decide (((t + 1)) % 2 = 1) := ⟨_, rfl⟩
                        have HOPX : Hid (∀ w', Inv C S q t (t + 1) ((t + 1)) ((t + 1)) w' → Chg none_ W w' → View w' (fun b => b < s1.heap.size) A21 (text.length + 16) (u8s (ctN C S 1 (t + 1) i text)) → Calls Tryd.prog 13 #[.pointer (some ⟨q.gA, 0, none⟩), .int .i64 1, .bool bp, .int .i64 i, .slice none 0 0, .slice A21 (text.length + 16) c21] w' fun e w'' => ∃ A c, e = .returned (.tuple #[.slice A text.length c, .int .i64 0]) ∧ View w'' (fun b => w'.heap.size ≤ b) A text.length (u8s text) ∧ Inv C S q ((t + 1)) ((t + 1)) ((t + 1)) ((t + 1)) w'' ∧ Chg (· = q.gA) w' w'') := Lib.hid (fun w' hI hC hV => by rw [hbp]; exact open_behind 1 t (by decide) i text c21 _ A21 hI (HKK.out _ hC) HPAST.out hV HL21.out hq4' HTB.out)
                        have HPHN : Hid (∀ w', Inv C S q t (t + 1) ((t + 1)) ((t + 1)) w' → Calls Tryd.prog 14 #[.pointer (some ⟨q.gB, 0, none⟩)] w' fun e w'' => e = .returned (.bool bp) ∧ Chg none_ w' w'') := Lib.hid (fun w' hI => by rw [hbp]; exact phase_inv 1 (by decide) hI)
                        have HPH0 : Hid (∀ w', Inv C S q ((t + 1)) ((t + 1)) ((t + 1)) ((t + 1)) w' → Calls Tryd.prog 14 #[.pointer (some ⟨q.gA, 0, none⟩)] w' fun e w'' => e = .returned (.bool bp) ∧ Chg none_ w' w'') := Lib.hid (fun w' hI => by rw [hbp]; exact phase_inv 0 (by decide) hI)
                        have HPH1 : Hid (∀ w', Inv C S q ((t + 1)) ((t + 1)) ((t + 1)) ((t + 1)) w' → Calls Tryd.prog 14 #[.pointer (some ⟨q.gB, 0, none⟩)] w' fun e w'' => e = .returned (.bool bp) ∧ Chg none_ w' w'') := Lib.hid (fun w' hI => by rw [hbp]; exact phase_inv 1 (by decide) hI)
                        clear hbp
                        clear hm hchm hlm HNO hmt
                        go_wp2_with (first | (go_at_call 14; with_reducible refine (HPHN.out _ HINm.out).mono ?_; rintro e f1 ⟨rfl, hcp⟩; have HCp := Lib.hid (HCw.out.trans hcp); have HINp := Lib.hid (HINm.out.quiet hcp); have HVp := Lib.hid (HVm.out.chg hcp (fun _ _ h => h)); clear hcp HINm HPHN) | (go_at_call 13; with_reducible refine (HOPX.out _ HINp.out HCp.out HVp.out).mono ?_; rintro e f2 ⟨A25, c25, rfl, hv25, hi25, hc25⟩; have HINf := Lib.hid hi25; have HCf := Lib.hid (HCp.out.andThen hc25 (fun b hb e => by have := HQW.out; omega)); have HVf := Lib.hid hv25; clear hv25 hi25 hc25 HINp) | (go_at_call 15; with_reducible refine (HSA.out _ _ _ _ HCf.out HVf.out).mono ?_; rintro e f3 ⟨rfl, nk, hf3⟩; have hx3 := (show Chg none_ f2 f3 by (rw [hf3]; exact (Chg.refl none_ f2).drewN nk)); have HCg := Lib.hid (HCf.out.trans hx3); have HINg := Lib.hid (HINf.out.quiet hx3); clear hf3 hx3) | (go_at_call 14; with_reducible refine (HPH1.out _ HINg.out).mono ?_; rintro e f4 ⟨rfl, hcp⟩; have HCh := Lib.hid (HCg.out.trans hcp); have HINh := Lib.hid (HINg.out.quiet hcp); clear hcp HINg) | (go_at_call 14; with_reducible refine (HPH0.out _ HINh.out).mono ?_; rintro e f5 ⟨rfl, hcp⟩; have HCi := Lib.hid (HCh.out.trans hcp); have HINi := Lib.hid (HINh.out.quiet hcp); clear hcp))
                        go_roundw
                        case rel => exact ⟨1, by omega, rfl, by simpa using HINi.out, HCi.out⟩
                        case measure => simp [intOf]
                · have HINk : Hid (Inv C S q (t + 1) (t + 1) (t + 1) (t + 1) wk) := Lib.hid (by simpa using hik)
                  clear hik
                  simp only [show ((1 : Nat) : Int) = 1 from rfl]
                  go_wp2
                  as_aux_lemma =>
                    have HSE : Hid (∀ w', Chg none_ wk w' → Calls Tryd.prog 11 #[.pointer (some ⟨q.gA, 0, none⟩), .int .i64 1, .int .i64 i, .slice none 0 0, .slice At text.length capt] w' fun e w'' => ∃ A c, e = .returned (.slice A (text.length + 16) c) ∧ text.length + 16 ≤ c ∧ View w'' (fun b => w'.heap.size ≤ b) A (text.length + 16) (u8s (ctN C S 0 (t + 1) i text)) ∧ Chg none_ w' w'') := Lib.hid (fun w' hc => seal_inv 0 (by decide) i text _ At capt (HINk.out.quiet hc) (HTV.out w' (HCk.out.trans hc)) hq4' HTB.out)
                    try simp only [Act.put, List.setIfInBounds_toArray, List.set_cons_zero, List.set_cons_succ]
                    have CXA : Hid (∀ w', Chg none_ wk w' → w'.cell? ⟨q.gx, 0, none⟩ = some (.pointer (some ⟨q.gA, 0, none⟩))) := Lib.hid (fun w' hc => (HINk.out.quiet hc).ringsX.1)
                    have CXB : Hid (∀ w', Chg none_ wk w' → w'.cell? ⟨q.gx, 1, none⟩ = some (.pointer (some ⟨q.gB, 0, none⟩))) := Lib.hid (fun w' hc => (HINk.out.quiet hc).ringsX.2)
                    refine wp_region_held_drew (S := fun w' => Chg none_ wk w') (by kernel_rfl) ((Chg.refl none_ wk).drew) (fun hch0 => ?_)
                    generalize wk.drew = wz at hch0 ⊢
                    refine wpAnyH_take (i := 0) (v := .slice (some ⟨q.gx, 0, none⟩) 2 2) rfl (by kernel_rfl) (by kernel_rfl) (by kernel_rfl) (by first | exact fun _ _ _ h => h | exact fun _ _ _ h => nomatch h.1) (Or.inl ⟨by rfl, fun w_ hw_ => by go_simp⟩) hch0 ?_
                    refine wpAnyH_take (i := 1) (v := .int .i64 0) rfl (by kernel_rfl) (by kernel_rfl) (by kernel_rfl) (by first | exact fun _ _ _ h => h | exact fun _ _ _ h => nomatch h.1) (Or.inl ⟨by rfl, fun w_ hw_ => by go_simp⟩) hch0 ?_
                    refine wpAnyH_take (i := 4) (v := .slice (some ⟨q.gx, 0, none⟩) 2 2) rfl (by kernel_rfl) (by kernel_rfl) (by kernel_rfl) (by first | exact fun _ _ _ h => h | exact fun _ _ _ h => nomatch h.1) (Or.inl ⟨by rfl, fun w_ hw_ => by go_simp⟩) hch0 ?_
                    refine wpAnyH_take (i := 5) (v := .int .i64 0) rfl (by kernel_rfl) (by kernel_rfl) (by kernel_rfl) (by first | exact fun _ _ _ h => h | exact fun _ _ _ h => nomatch h.1) (Or.inl ⟨by rfl, fun w_ hw_ => by go_simp⟩) hch0 ?_
                    try simp only [Act.put, List.setIfInBounds_toArray, List.set_cons_zero, List.set_cons_succ, List.getElem_toArray, List.getElem_cons_succ, List.getElem_cons_zero]
                    refine wpAnyH_take (i := 2) (v := .pointer (some ⟨q.gx, 0, none⟩)) rfl (by kernel_rfl) (by kernel_rfl) (by kernel_rfl) (by first | exact fun _ _ _ h => h | exact fun _ _ _ h => nomatch h.1) (Or.inl ⟨by rfl, fun w_ hw_ => by go_simp⟩) hch0 ?_
                    refine wpAnyH_take (i := 6) (v := .int .i64 1) rfl (by kernel_rfl) (by kernel_rfl) (by kernel_rfl) (by first | exact fun _ _ _ h => h | exact fun _ _ _ h => nomatch h.1) (Or.inl ⟨by rfl, fun w_ hw_ => by first | (go_simp; done) | (go_simp; rfl)⟩) hch0 ?_
                    try simp only [Act.put, List.setIfInBounds_toArray, List.set_cons_zero, List.set_cons_succ, List.getElem_toArray, List.getElem_cons_succ, List.getElem_cons_zero]
                    refine wpAnyH_take (i := 3) (v := .pointer (some ⟨q.gA, 0, none⟩)) rfl (by kernel_rfl) (by kernel_rfl) (by kernel_rfl) (by first | exact fun _ _ _ h => h | exact fun _ _ _ h => nomatch h.1) (Or.inl ⟨by rfl, fun w_ hw_ => by have hh := CXA.out w_ hw_; go_simp⟩) hch0 ?_
                    refine wpAnyH_take (i := 7) (v := .pointer (some ⟨q.gx, 1, none⟩)) rfl (by kernel_rfl) (by kernel_rfl) (by kernel_rfl) (by first | exact fun _ _ _ h => h | exact fun _ _ _ h => nomatch h.1) (Or.inl ⟨by rfl, fun w_ hw_ => by go_simp⟩) hch0 ?_
                    try simp only [Act.put, List.setIfInBounds_toArray, List.set_cons_zero, List.set_cons_succ, List.getElem_toArray, List.getElem_cons_succ, List.getElem_cons_zero]
                    refine wpAnyH_take (i := 8) (v := .pointer (some ⟨q.gB, 0, none⟩)) rfl (by kernel_rfl) (by kernel_rfl) (by kernel_rfl) (by first | exact fun _ _ _ h => h | exact fun _ _ _ h => nomatch h.1) (Or.inl ⟨by rfl, fun w_ hw_ => by have hh := CXB.out w_ hw_; go_simp⟩) hch0 ?_
                    try simp only [Act.put, List.setIfInBounds_toArray, List.set_cons_zero, List.set_cons_succ, List.getElem_toArray, List.getElem_cons_succ, List.getElem_cons_zero]
                    refine wpAnyH_take (i := 9) (v := .pointer (some ⟨q.gA, 0, none⟩)) rfl (by kernel_rfl) (by kernel_rfl) (by kernel_rfl) (by first | exact fun _ _ _ h => h | exact fun _ _ _ h => nomatch h.1) (Or.inl ⟨by rfl, fun w_ hw_ => by go_simp⟩) hch0 ?_
                    refine wpAnyH_take (i := 10) (v := .pointer (some ⟨q.gB, 0, none⟩)) rfl (by kernel_rfl) (by kernel_rfl) (by kernel_rfl) (by first | exact fun _ _ _ h => h | exact fun _ _ _ h => nomatch h.1) (Or.inl ⟨by rfl, fun w_ hw_ => by go_simp⟩) hch0 ?_
                    try simp only [Act.put, List.setIfInBounds_toArray, List.set_cons_zero, List.set_cons_succ, List.getElem_toArray, List.getElem_cons_succ, List.getElem_cons_zero]
                    refine wpAnyH_done (by kernel_rfl) ?_ _
                    go_wp2_with (first | (go_at_call 11; with_reducible refine (HSE.out _ hch0).mono ?_; rintro e s1 ⟨A21, c21, rfl, hl21, hv21, hcs1⟩; have HL21 := Lib.hid hl21; have HINs := Lib.hid (HINk.out.quiet (hch0.trans hcs1)); have HCs := Lib.hid (HCk.out.trans (hch0.trans hcs1)); have HVs := Lib.hid (hv21.mono (T' := fun b => b < s1.heap.size) (fun b hb _ => hb)); clear hv21 hcs1 hl21))
                    try simp only [Act.put, List.setIfInBounds_toArray, List.set_cons_zero, List.set_cons_succ]
                    clear HSE CXA CXB hch0
                    obtain ⟨Ap, cp, hpc, hpl, hpr⟩ := HINs.out.past 0 (by decide)
                    have HPC := Lib.hid hpc
                    have HPL := Lib.hid hpl
                    have HPR := Lib.hid hpr
                    have HPO : Hid (∀ w' m, Chg none_ s1 w' → Calls Tryd.prog 12 #[.agg (cellsS (ownN C S 0 m)).toArray, .int .i64 i, .slice none 0 0, .slice A21 (text.length + 16) c21] w' fun e w'' => ∃ v, e = .returned (.tuple #[v, .int .i64 (openK (ownN C S 0 m) i [] (ctN C S 0 (t + 1) i text)).2]) ∧ Owned w'' w'.heap.size v (openK (ownN C S 0 m) i [] (ctN C S 0 (t + 1) i text)).1 ∧ Chg none_ w' w'') := Lib.hid (fun w' m hc => past_open 0 ((t + 1)) m i text A21 c21 _ (HVs.out.chg hc (fun _ _ h => h)) HL21.out hq4' HTB.out)
                    clear hpc hpl hpr
                    go_loopw [22, 23, 24] (fun mv _ _ wr => ∃ m : Nat, m ≤ (t + 1) ∧ mv = .int .i64 m ∧ Hid (∀ m', m' < m → (openK (ownN C S 0 m') i [] (ctN C S 0 (t + 1) i text)).2 ≠ 0) ∧ Chg none_ s1 wr) (fun mv _ _ _ => (t + 1) - (intOf mv).toNat)
                    case atStart => exact ⟨0, Nat.zero_le _, rfl, Lib.hid (fun m' h => absurd h (by omega)), Chg.refl _ _⟩
                    case round =>
                      obtain ⟨m, hm, rfl, HNO, hchm⟩ := hrel
                      have cg := (hchm.cell 0 HPL.out (fun h => h)).trans HPC.out
                      have HCm := Lib.hid hchm
                      by_cases hlm : m < (t + 1)
                      · obtain ⟨gp, hAp, hgl, hrg⟩ := HPR.out m hlm
                        subst hAp
                        have HRG : Hid (wr.rangeAt gp (m * 61) (cellsS (ownN C S 0 m))) := Lib.hid (fun j v hv => (hchm.cell _ hgl (fun h => h)).trans (hrg j v hv))
                        have HPM := Lib.hid (HPO.out wr m hchm)
                        have HMO := Lib.hid (ownN_ok C S 0 m)
                        obtain ⟨z, hz⟩ : ∃ z, z = (openK (ownN C S 0 m) i [] (ctN C S 0 (t + 1) i text)).2 := ⟨_, rfl⟩
                        rw [← hz] at HPM
                        have HZ := Lib.hid hz
                        have q5 : (m : Int) < ((t + 1) : Int) := by omega
                        have q6 : (0 : Int) ≤ (m : Int) := by omega
                        have HLM := Lib.hid hlm
                        clear hm hchm hlm hgl hrg hz
                        by_cases hz0 : z = 0
                        · subst hz0
                          go_wp2_with (first | ((with_reducible show wpList _ _ _ (⟨some 154, .load 36 _, _, _, _, _⟩ :: _) _ _); refine wpList_load_Mid (cs := cellsS (ownN C S 0 m)) rfl rfl rfl (HRG.out) Tryd.underlying36 rfl (by rw [cellsS_len HMO.out]; exact sizeSc) ?_) | (go_at_call 12; with_reducible refine HPM.out.mono ?_; rintro e o1 ⟨vo, rfl, _, hco⟩; have HCo := Lib.hid hco; clear hco))
                          go_ret
                          exact ⟨rfl, (HCs.out.trans HCm.out).trans HCo.out⟩
                        · go_wp2_with (first | ((with_reducible show wpList _ _ _ (⟨some 154, .load 36 _, _, _, _, _⟩ :: _) _ _); refine wpList_load_Mid (cs := cellsS (ownN C S 0 m)) rfl rfl rfl (HRG.out) Tryd.underlying36 rfl (by rw [cellsS_len HMO.out]; exact sizeSc) ?_) | (go_at_call 12; with_reducible refine HPM.out.mono ?_; rintro e o1 ⟨vo, rfl, _, hco⟩; have HCo := Lib.hid hco; clear hco))
                          go_roundw
                          case rel => exact ⟨m + 1, by have := HLM.out; omega, by go_num, Lib.hid (fun m' h => by
                            rcases Nat.lt_or_ge m' m with h2 | h2
                            · exact HNO.out m' h2
                            · have : m' = m := by omega
                              subst this
                              rw [← HZ.out]; exact hz0), HCm.out.trans HCo.out⟩
                          case measure => have := HLM.out; simp [intOf]; omega
                      · have hmt : m = (t + 1) := by omega
                        have q5 : ¬ (m : Int) < ((t + 1) : Int) := by omega
                        have HPAST : Hid (∀ m', m' < (t + 1) → (openK (ownN C S 0 m') i [] (ctN C S 0 (t + 1) i text)).2 ≠ 0) := Lib.hid (fun m' h => HNO.out m' (by omega))
                        have HINm := Lib.hid (HINs.out.quiet hchm)
                        have HCw := Lib.hid (HCs.out.trans hchm)
                        have HVm := Lib.hid (HVs.out.chg hchm (fun _ _ h => h))
                        obtain ⟨bp, hbp⟩ : ∃ b, b = decide (((t + 1)) % 2 = 1) := ⟨_, rfl⟩
                        have HOPX : Hid (∀ w', Inv C S q (t + 1) (t + 1) ((t + 1)) ((t + 1)) w' → Chg none_ W w' → View w' (fun b => b < s1.heap.size) A21 (text.length + 16) (u8s (ctN C S 0 (t + 1) i text)) → Calls Tryd.prog 13 #[.pointer (some ⟨q.gB, 0, none⟩), .int .i64 1, .bool bp, .int .i64 i, .slice none 0 0, .slice A21 (text.length + 16) c21] w' fun e w'' => ∃ A c, e = .returned (.tuple #[.slice A text.length c, .int .i64 0]) ∧ View w'' (fun b => w'.heap.size ≤ b) A text.length (u8s text) ∧ Inv C S q ((t + 1)) ((t + 1)) ((t + 1)) ((t + 1)) w'' ∧ Chg (· = q.gB) w' w'') := Lib.hid (fun w' hI hC hV => by rw [hbp]; exact open_same 0 ((t + 1)) (by decide) i text c21 _ A21 hI hV HL21.out hq4' HTB.out)
                        have HPHN : Hid (∀ w', Inv C S q (t + 1) (t + 1) ((t + 1)) ((t + 1)) w' → Calls Tryd.prog 14 #[.pointer (some ⟨q.gA, 0, none⟩)] w' fun e w'' => e = .returned (.bool bp) ∧ Chg none_ w' w'') := Lib.hid (fun w' hI => by rw [hbp]; exact phase_inv 0 (by decide) hI)
                        have HPH0 : Hid (∀ w', Inv C S q ((t + 1)) ((t + 1)) ((t + 1)) ((t + 1)) w' → Calls Tryd.prog 14 #[.pointer (some ⟨q.gA, 0, none⟩)] w' fun e w'' => e = .returned (.bool bp) ∧ Chg none_ w' w'') := Lib.hid (fun w' hI => by rw [hbp]; exact phase_inv 0 (by decide) hI)
                        have HPH1 : Hid (∀ w', Inv C S q ((t + 1)) ((t + 1)) ((t + 1)) ((t + 1)) w' → Calls Tryd.prog 14 #[.pointer (some ⟨q.gB, 0, none⟩)] w' fun e w'' => e = .returned (.bool bp) ∧ Chg none_ w' w'') := Lib.hid (fun w' hI => by rw [hbp]; exact phase_inv 1 (by decide) hI)
                        clear hbp
                        clear hm hchm hlm HNO hmt
                        go_wp2_with (first | (go_at_call 14; with_reducible refine (HPHN.out _ HINm.out).mono ?_; rintro e f1 ⟨rfl, hcp⟩; have HCp := Lib.hid (HCw.out.trans hcp); have HINp := Lib.hid (HINm.out.quiet hcp); have HVp := Lib.hid (HVm.out.chg hcp (fun _ _ h => h)); clear hcp HINm HPHN) | (go_at_call 13; with_reducible refine (HOPX.out _ HINp.out HCp.out HVp.out).mono ?_; rintro e f2 ⟨A25, c25, rfl, hv25, hi25, hc25⟩; have HINf := Lib.hid hi25; have HCf := Lib.hid (HCp.out.andThen hc25 (fun b hb e => by have := HQW.out; omega)); have HVf := Lib.hid hv25; clear hv25 hi25 hc25 HINp) | (go_at_call 15; with_reducible refine (HSA.out _ _ _ _ HCf.out HVf.out).mono ?_; rintro e f3 ⟨rfl, nk, hf3⟩; have hx3 := (show Chg none_ f2 f3 by (rw [hf3]; exact (Chg.refl none_ f2).drewN nk)); have HCg := Lib.hid (HCf.out.trans hx3); have HINg := Lib.hid (HINf.out.quiet hx3); clear hf3 hx3) | (go_at_call 14; with_reducible refine (HPH0.out _ HINg.out).mono ?_; rintro e f4 ⟨rfl, hcp⟩; have HCh := Lib.hid (HCg.out.trans hcp); have HINh := Lib.hid (HINg.out.quiet hcp); clear hcp HINg) | (go_at_call 14; with_reducible refine (HPH1.out _ HINh.out).mono ?_; rintro e f5 ⟨rfl, hcp⟩; have HCi := Lib.hid (HCh.out.trans hcp); have HINi := Lib.hid (HINh.out.quiet hcp); clear hcp))
                        go_roundw
                        case rel => exact ⟨2, by omega, rfl, by simpa using HINi.out, HCi.out⟩
                        case measure => simp [intOf]
                · have HINk : Hid (Inv C S q (t + 1) (t + 1) (t + 1) (t + 1) wk) := Lib.hid (by simpa using hik)
                  clear hik
                  simp only [show ((2 : Nat) : Int) = 2 from rfl]
                  go_wp2
                  go_roundw
                  case rel => exact ⟨i + 1, by have := HLT.out; omega, by go_num, by rw [HT3.out]; exact HINk.out, HCk.out⟩
                  case measure => have := HLT.out; simp [intOf]; omega
        have HT3 : Hid ((i + 1) / 3 = t) := Lib.hid (by omega)
        have ht10 : t ≤ 10 := by omega
        clear ht
        -- both are as far, and stay so
        have q3 : ¬ (i : Int) % 3 = 2 := by omega
        have q3b : ((i : Int) % 3 == 2) = false := by simp only [beq_eq_false_iff_ne, ne_eq]; exact q3
        go_wp2
        try simp only [Act.put, List.setIfInBounds_toArray, List.set_cons_zero, List.set_cons_succ]
        go_loopw [8, 17, 18, 19, 20, 21, 22, 23, 24, 25, 26] (fun _ kv _ _ _ _ _ _ _ _ _ wk => ∃ k : Nat, k ≤ 2 ∧ kv = .int .i64 k ∧ Inv C S q t t t t wk ∧ Chg none_ W wk) (fun _ kv _ _ _ _ _ _ _ _ _ _ => 2 - (intOf kv).toNat)
        case atStart => exact ⟨0, Nat.zero_le _, rfl, HINt.out, HC.out⟩
        case round =>
          obtain ⟨k, hk, rfl, hik, hck⟩ := hrel
          have HINk := Lib.hid hik
          have HCk := Lib.hid hck
          obtain ⟨wk, hwk⟩ : ∃ x, x = wr := ⟨_, rfl⟩
          subst hwk
          clear hik hck
          have hk3 : k = 0 ∨ k = 1 ∨ k = 2 := by omega
          rcases hk3 with rfl | rfl | rfl
          all_goals clear hk
          · simp only [show ((0 : Nat) : Int) = 0 from rfl]
            go_wp2
            as_aux_lemma =>
              have HSE : Hid (∀ w', Chg none_ wk w' → Calls Tryd.prog 11 #[.pointer (some ⟨q.gB, 0, none⟩), .int .i64 1, .int .i64 i, .slice none 0 0, .slice At text.length capt] w' fun e w'' => ∃ A c, e = .returned (.slice A (text.length + 16) c) ∧ text.length + 16 ≤ c ∧ View w'' (fun b => w'.heap.size ≤ b) A (text.length + 16) (u8s (ctN C S 1 t i text)) ∧ Chg none_ w' w'') := Lib.hid (fun w' hc => seal_inv 1 (by decide) i text _ At capt (HINk.out.quiet hc) (HTV.out w' (HCk.out.trans hc)) hq4' HTB.out)
              try simp only [Act.put, List.setIfInBounds_toArray, List.set_cons_zero, List.set_cons_succ]
              have CXA : Hid (∀ w', Chg none_ wk w' → w'.cell? ⟨q.gx, 0, none⟩ = some (.pointer (some ⟨q.gA, 0, none⟩))) := Lib.hid (fun w' hc => (HINk.out.quiet hc).ringsX.1)
              have CXB : Hid (∀ w', Chg none_ wk w' → w'.cell? ⟨q.gx, 1, none⟩ = some (.pointer (some ⟨q.gB, 0, none⟩))) := Lib.hid (fun w' hc => (HINk.out.quiet hc).ringsX.2)
              refine wp_region_held_drew (S := fun w' => Chg none_ wk w') (by kernel_rfl) ((Chg.refl none_ wk).drew) (fun hch0 => ?_)
              generalize wk.drew = wz at hch0 ⊢
              refine wpAnyH_take (i := 0) (v := .slice (some ⟨q.gx, 0, none⟩) 2 2) rfl (by kernel_rfl) (by kernel_rfl) (by kernel_rfl) (by first | exact fun _ _ _ h => h | exact fun _ _ _ h => nomatch h.1) (Or.inl ⟨by rfl, fun w_ hw_ => by go_simp⟩) hch0 ?_
              refine wpAnyH_take (i := 1) (v := .int .i64 1) rfl (by kernel_rfl) (by kernel_rfl) (by kernel_rfl) (by first | exact fun _ _ _ h => h | exact fun _ _ _ h => nomatch h.1) (Or.inl ⟨by rfl, fun w_ hw_ => by go_simp⟩) hch0 ?_
              refine wpAnyH_take (i := 4) (v := .slice (some ⟨q.gx, 0, none⟩) 2 2) rfl (by kernel_rfl) (by kernel_rfl) (by kernel_rfl) (by first | exact fun _ _ _ h => h | exact fun _ _ _ h => nomatch h.1) (Or.inl ⟨by rfl, fun w_ hw_ => by go_simp⟩) hch0 ?_
              refine wpAnyH_take (i := 5) (v := .int .i64 1) rfl (by kernel_rfl) (by kernel_rfl) (by kernel_rfl) (by first | exact fun _ _ _ h => h | exact fun _ _ _ h => nomatch h.1) (Or.inl ⟨by rfl, fun w_ hw_ => by go_simp⟩) hch0 ?_
              try simp only [Act.put, List.setIfInBounds_toArray, List.set_cons_zero, List.set_cons_succ, List.getElem_toArray, List.getElem_cons_succ, List.getElem_cons_zero]
              refine wpAnyH_take (i := 2) (v := .pointer (some ⟨q.gx, 1, none⟩)) rfl (by kernel_rfl) (by kernel_rfl) (by kernel_rfl) (by first | exact fun _ _ _ h => h | exact fun _ _ _ h => nomatch h.1) (Or.inl ⟨by rfl, fun w_ hw_ => by go_simp⟩) hch0 ?_
              refine wpAnyH_take (i := 6) (v := .int .i64 0) rfl (by kernel_rfl) (by kernel_rfl) (by kernel_rfl) (by first | exact fun _ _ _ h => h | exact fun _ _ _ h => nomatch h.1) (Or.inl ⟨by rfl, fun w_ hw_ => by first | (go_simp; done) | (go_simp; rfl)⟩) hch0 ?_
              try simp only [Act.put, List.setIfInBounds_toArray, List.set_cons_zero, List.set_cons_succ, List.getElem_toArray, List.getElem_cons_succ, List.getElem_cons_zero]
              refine wpAnyH_take (i := 3) (v := .pointer (some ⟨q.gB, 0, none⟩)) rfl (by kernel_rfl) (by kernel_rfl) (by kernel_rfl) (by first | exact fun _ _ _ h => h | exact fun _ _ _ h => nomatch h.1) (Or.inl ⟨by rfl, fun w_ hw_ => by have hh := CXB.out w_ hw_; go_simp⟩) hch0 ?_
              refine wpAnyH_take (i := 7) (v := .pointer (some ⟨q.gx, 0, none⟩)) rfl (by kernel_rfl) (by kernel_rfl) (by kernel_rfl) (by first | exact fun _ _ _ h => h | exact fun _ _ _ h => nomatch h.1) (Or.inl ⟨by rfl, fun w_ hw_ => by go_simp⟩) hch0 ?_
              try simp only [Act.put, List.setIfInBounds_toArray, List.set_cons_zero, List.set_cons_succ, List.getElem_toArray, List.getElem_cons_succ, List.getElem_cons_zero]
              refine wpAnyH_take (i := 8) (v := .pointer (some ⟨q.gA, 0, none⟩)) rfl (by kernel_rfl) (by kernel_rfl) (by kernel_rfl) (by first | exact fun _ _ _ h => h | exact fun _ _ _ h => nomatch h.1) (Or.inl ⟨by rfl, fun w_ hw_ => by have hh := CXA.out w_ hw_; go_simp⟩) hch0 ?_
              try simp only [Act.put, List.setIfInBounds_toArray, List.set_cons_zero, List.set_cons_succ, List.getElem_toArray, List.getElem_cons_succ, List.getElem_cons_zero]
              refine wpAnyH_take (i := 9) (v := .pointer (some ⟨q.gB, 0, none⟩)) rfl (by kernel_rfl) (by kernel_rfl) (by kernel_rfl) (by first | exact fun _ _ _ h => h | exact fun _ _ _ h => nomatch h.1) (Or.inl ⟨by rfl, fun w_ hw_ => by go_simp⟩) hch0 ?_
              refine wpAnyH_take (i := 10) (v := .pointer (some ⟨q.gA, 0, none⟩)) rfl (by kernel_rfl) (by kernel_rfl) (by kernel_rfl) (by first | exact fun _ _ _ h => h | exact fun _ _ _ h => nomatch h.1) (Or.inl ⟨by rfl, fun w_ hw_ => by go_simp⟩) hch0 ?_
              try simp only [Act.put, List.setIfInBounds_toArray, List.set_cons_zero, List.set_cons_succ, List.getElem_toArray, List.getElem_cons_succ, List.getElem_cons_zero]
              refine wpAnyH_done (by kernel_rfl) ?_ _
              go_wp2_with (first | (go_at_call 11; with_reducible refine (HSE.out _ hch0).mono ?_; rintro e s1 ⟨A21, c21, rfl, hl21, hv21, hcs1⟩; have HL21 := Lib.hid hl21; have HINs := Lib.hid (HINk.out.quiet (hch0.trans hcs1)); have HCs := Lib.hid (HCk.out.trans (hch0.trans hcs1)); have HVs := Lib.hid (hv21.mono (T' := fun b => b < s1.heap.size) (fun b hb _ => hb)); clear hv21 hcs1 hl21))
              try simp only [Act.put, List.setIfInBounds_toArray, List.set_cons_zero, List.set_cons_succ]
              clear HSE CXA CXB hch0
              obtain ⟨Ap, cp, hpc, hpl, hpr⟩ := HINs.out.past 1 (by decide)
              have HPC := Lib.hid hpc
              have HPL := Lib.hid hpl
              have HPR := Lib.hid hpr
              have HPO : Hid (∀ w' m, Chg none_ s1 w' → Calls Tryd.prog 12 #[.agg (cellsS (ownN C S 1 m)).toArray, .int .i64 i, .slice none 0 0, .slice A21 (text.length + 16) c21] w' fun e w'' => ∃ v, e = .returned (.tuple #[v, .int .i64 (openK (ownN C S 1 m) i [] (ctN C S 1 t i text)).2]) ∧ Owned w'' w'.heap.size v (openK (ownN C S 1 m) i [] (ctN C S 1 t i text)).1 ∧ Chg none_ w' w'') := Lib.hid (fun w' m hc => past_open 1 (t) m i text A21 c21 _ (HVs.out.chg hc (fun _ _ h => h)) HL21.out hq4' HTB.out)
              clear hpc hpl hpr
              go_loopw [22, 23, 24] (fun mv _ _ wr => ∃ m : Nat, m ≤ t ∧ mv = .int .i64 m ∧ Hid (∀ m', m' < m → (openK (ownN C S 1 m') i [] (ctN C S 1 t i text)).2 ≠ 0) ∧ Chg none_ s1 wr) (fun mv _ _ _ => t - (intOf mv).toNat)
              case atStart => exact ⟨0, Nat.zero_le _, rfl, Lib.hid (fun m' h => absurd h (by omega)), Chg.refl _ _⟩
              case round =>
                obtain ⟨m, hm, rfl, HNO, hchm⟩ := hrel
                have cg := (hchm.cell 1 HPL.out (fun h => h)).trans HPC.out
                have HCm := Lib.hid hchm
                by_cases hlm : m < t
                · obtain ⟨gp, hAp, hgl, hrg⟩ := HPR.out m hlm
                  subst hAp
                  have HRG : Hid (wr.rangeAt gp (m * 61) (cellsS (ownN C S 1 m))) := Lib.hid (fun j v hv => (hchm.cell _ hgl (fun h => h)).trans (hrg j v hv))
                  have HPM := Lib.hid (HPO.out wr m hchm)
                  have HMO := Lib.hid (ownN_ok C S 1 m)
                  obtain ⟨z, hz⟩ : ∃ z, z = (openK (ownN C S 1 m) i [] (ctN C S 1 t i text)).2 := ⟨_, rfl⟩
                  rw [← hz] at HPM
                  have HZ := Lib.hid hz
                  have q5 : (m : Int) < (t : Int) := by omega
                  have q6 : (0 : Int) ≤ (m : Int) := by omega
                  have HLM := Lib.hid hlm
                  clear hm hchm hlm hgl hrg hz
                  by_cases hz0 : z = 0
                  · subst hz0
                    go_wp2_with (first | ((with_reducible show wpList _ _ _ (⟨some 154, .load 36 _, _, _, _, _⟩ :: _) _ _); refine wpList_load_Mid (cs := cellsS (ownN C S 1 m)) rfl rfl rfl (HRG.out) Tryd.underlying36 rfl (by rw [cellsS_len HMO.out]; exact sizeSc) ?_) | (go_at_call 12; with_reducible refine HPM.out.mono ?_; rintro e o1 ⟨vo, rfl, _, hco⟩; have HCo := Lib.hid hco; clear hco))
                    go_ret
                    exact ⟨rfl, (HCs.out.trans HCm.out).trans HCo.out⟩
                  · go_wp2_with (first | ((with_reducible show wpList _ _ _ (⟨some 154, .load 36 _, _, _, _, _⟩ :: _) _ _); refine wpList_load_Mid (cs := cellsS (ownN C S 1 m)) rfl rfl rfl (HRG.out) Tryd.underlying36 rfl (by rw [cellsS_len HMO.out]; exact sizeSc) ?_) | (go_at_call 12; with_reducible refine HPM.out.mono ?_; rintro e o1 ⟨vo, rfl, _, hco⟩; have HCo := Lib.hid hco; clear hco))
                    go_roundw
                    case rel => exact ⟨m + 1, by have := HLM.out; omega, by go_num, Lib.hid (fun m' h => by
                      rcases Nat.lt_or_ge m' m with h2 | h2
                      · exact HNO.out m' h2
                      · have : m' = m := by omega
                        subst this
                        rw [← HZ.out]; exact hz0), HCm.out.trans HCo.out⟩
                    case measure => have := HLM.out; simp [intOf]; omega
                · have hmt : m = t := by omega
                  have q5 : ¬ (m : Int) < (t : Int) := by omega
                  have HPAST : Hid (∀ m', m' < t → (openK (ownN C S 1 m') i [] (ctN C S 1 t i text)).2 ≠ 0) := Lib.hid (fun m' h => HNO.out m' (by omega))
                  have HINm := Lib.hid (HINs.out.quiet hchm)
                  have HCw := Lib.hid (HCs.out.trans hchm)
                  have HVm := Lib.hid (HVs.out.chg hchm (fun _ _ h => h))
                  obtain ⟨bp, hbp⟩ : ∃ b, b = decide ((t) % 2 = 1) := ⟨_, rfl⟩
                  have HOPX : Hid (∀ w', Inv C S q t t (t) (t) w' → Chg none_ W w' → View w' (fun b => b < s1.heap.size) A21 (text.length + 16) (u8s (ctN C S 1 t i text)) → Calls Tryd.prog 13 #[.pointer (some ⟨q.gA, 0, none⟩), .int .i64 1, .bool bp, .int .i64 i, .slice none 0 0, .slice A21 (text.length + 16) c21] w' fun e w'' => ∃ A c, e = .returned (.tuple #[.slice A text.length c, .int .i64 0]) ∧ View w'' (fun b => w'.heap.size ≤ b) A text.length (u8s text) ∧ Inv C S q (t) (t) (t) (t) w'' ∧ Chg (· = q.gA) w' w'') := Lib.hid (fun w' hI hC hV => by rw [hbp]; exact open_same 1 (t) (by decide) i text c21 _ A21 hI hV HL21.out hq4' HTB.out)
                  have HPHN : Hid (∀ w', Inv C S q t t (t) (t) w' → Calls Tryd.prog 14 #[.pointer (some ⟨q.gB, 0, none⟩)] w' fun e w'' => e = .returned (.bool bp) ∧ Chg none_ w' w'') := Lib.hid (fun w' hI => by rw [hbp]; exact phase_inv 1 (by decide) hI)
                  have HPH0 : Hid (∀ w', Inv C S q (t) (t) (t) (t) w' → Calls Tryd.prog 14 #[.pointer (some ⟨q.gA, 0, none⟩)] w' fun e w'' => e = .returned (.bool bp) ∧ Chg none_ w' w'') := Lib.hid (fun w' hI => by rw [hbp]; exact phase_inv 0 (by decide) hI)
                  have HPH1 : Hid (∀ w', Inv C S q (t) (t) (t) (t) w' → Calls Tryd.prog 14 #[.pointer (some ⟨q.gB, 0, none⟩)] w' fun e w'' => e = .returned (.bool bp) ∧ Chg none_ w' w'') := Lib.hid (fun w' hI => by rw [hbp]; exact phase_inv 1 (by decide) hI)
                  clear hbp
                  clear hm hchm hlm HNO hmt
                  go_wp2_with (first | (go_at_call 14; with_reducible refine (HPHN.out _ HINm.out).mono ?_; rintro e f1 ⟨rfl, hcp⟩; have HCp := Lib.hid (HCw.out.trans hcp); have HINp := Lib.hid (HINm.out.quiet hcp); have HVp := Lib.hid (HVm.out.chg hcp (fun _ _ h => h)); clear hcp HINm HPHN) | (go_at_call 13; with_reducible refine (HOPX.out _ HINp.out HCp.out HVp.out).mono ?_; rintro e f2 ⟨A25, c25, rfl, hv25, hi25, hc25⟩; have HINf := Lib.hid hi25; have HCf := Lib.hid (HCp.out.andThen hc25 (fun b hb e => by have := HQW.out; omega)); have HVf := Lib.hid hv25; clear hv25 hi25 hc25 HINp) | (go_at_call 15; with_reducible refine (HSA.out _ _ _ _ HCf.out HVf.out).mono ?_; rintro e f3 ⟨rfl, nk, hf3⟩; have hx3 := (show Chg none_ f2 f3 by (rw [hf3]; exact (Chg.refl none_ f2).drewN nk)); have HCg := Lib.hid (HCf.out.trans hx3); have HINg := Lib.hid (HINf.out.quiet hx3); clear hf3 hx3) | (go_at_call 14; with_reducible refine (HPH1.out _ HINg.out).mono ?_; rintro e f4 ⟨rfl, hcp⟩; have HCh := Lib.hid (HCg.out.trans hcp); have HINh := Lib.hid (HINg.out.quiet hcp); clear hcp HINg) | (go_at_call 14; with_reducible refine (HPH0.out _ HINh.out).mono ?_; rintro e f5 ⟨rfl, hcp⟩; have HCi := Lib.hid (HCh.out.trans hcp); have HINi := Lib.hid (HINh.out.quiet hcp); clear hcp))
                  go_roundw
                  case rel => exact ⟨1, by omega, rfl, HINi.out, HCi.out⟩
                  case measure => simp [intOf]
          · simp only [show ((1 : Nat) : Int) = 1 from rfl]
            go_wp2
            as_aux_lemma =>
              have HSE : Hid (∀ w', Chg none_ wk w' → Calls Tryd.prog 11 #[.pointer (some ⟨q.gA, 0, none⟩), .int .i64 1, .int .i64 i, .slice none 0 0, .slice At text.length capt] w' fun e w'' => ∃ A c, e = .returned (.slice A (text.length + 16) c) ∧ text.length + 16 ≤ c ∧ View w'' (fun b => w'.heap.size ≤ b) A (text.length + 16) (u8s (ctN C S 0 t i text)) ∧ Chg none_ w' w'') := Lib.hid (fun w' hc => seal_inv 0 (by decide) i text _ At capt (HINk.out.quiet hc) (HTV.out w' (HCk.out.trans hc)) hq4' HTB.out)
              try simp only [Act.put, List.setIfInBounds_toArray, List.set_cons_zero, List.set_cons_succ]
              have CXA : Hid (∀ w', Chg none_ wk w' → w'.cell? ⟨q.gx, 0, none⟩ = some (.pointer (some ⟨q.gA, 0, none⟩))) := Lib.hid (fun w' hc => (HINk.out.quiet hc).ringsX.1)
              have CXB : Hid (∀ w', Chg none_ wk w' → w'.cell? ⟨q.gx, 1, none⟩ = some (.pointer (some ⟨q.gB, 0, none⟩))) := Lib.hid (fun w' hc => (HINk.out.quiet hc).ringsX.2)
              refine wp_region_held_drew (S := fun w' => Chg none_ wk w') (by kernel_rfl) ((Chg.refl none_ wk).drew) (fun hch0 => ?_)
              generalize wk.drew = wz at hch0 ⊢
              refine wpAnyH_take (i := 0) (v := .slice (some ⟨q.gx, 0, none⟩) 2 2) rfl (by kernel_rfl) (by kernel_rfl) (by kernel_rfl) (by first | exact fun _ _ _ h => h | exact fun _ _ _ h => nomatch h.1) (Or.inl ⟨by rfl, fun w_ hw_ => by go_simp⟩) hch0 ?_
              refine wpAnyH_take (i := 1) (v := .int .i64 0) rfl (by kernel_rfl) (by kernel_rfl) (by kernel_rfl) (by first | exact fun _ _ _ h => h | exact fun _ _ _ h => nomatch h.1) (Or.inl ⟨by rfl, fun w_ hw_ => by go_simp⟩) hch0 ?_
              refine wpAnyH_take (i := 4) (v := .slice (some ⟨q.gx, 0, none⟩) 2 2) rfl (by kernel_rfl) (by kernel_rfl) (by kernel_rfl) (by first | exact fun _ _ _ h => h | exact fun _ _ _ h => nomatch h.1) (Or.inl ⟨by rfl, fun w_ hw_ => by go_simp⟩) hch0 ?_
              refine wpAnyH_take (i := 5) (v := .int .i64 0) rfl (by kernel_rfl) (by kernel_rfl) (by kernel_rfl) (by first | exact fun _ _ _ h => h | exact fun _ _ _ h => nomatch h.1) (Or.inl ⟨by rfl, fun w_ hw_ => by go_simp⟩) hch0 ?_
              try simp only [Act.put, List.setIfInBounds_toArray, List.set_cons_zero, List.set_cons_succ, List.getElem_toArray, List.getElem_cons_succ, List.getElem_cons_zero]
              refine wpAnyH_take (i := 2) (v := .pointer (some ⟨q.gx, 0, none⟩)) rfl (by kernel_rfl) (by kernel_rfl) (by kernel_rfl) (by first | exact fun _ _ _ h => h | exact fun _ _ _ h => nomatch h.1) (Or.inl ⟨by rfl, fun w_ hw_ => by go_simp⟩) hch0 ?_
              refine wpAnyH_take (i := 6) (v := .int .i64 1) rfl (by kernel_rfl) (by kernel_rfl) (by kernel_rfl) (by first | exact fun _ _ _ h => h | exact fun _ _ _ h => nomatch h.1) (Or.inl ⟨by rfl, fun w_ hw_ => by first | (go_simp; done) | (go_simp; rfl)⟩) hch0 ?_
              try simp only [Act.put, List.setIfInBounds_toArray, List.set_cons_zero, List.set_cons_succ, List.getElem_toArray, List.getElem_cons_succ, List.getElem_cons_zero]
              refine wpAnyH_take (i := 3) (v := .pointer (some ⟨q.gA, 0, none⟩)) rfl (by kernel_rfl) (by kernel_rfl) (by kernel_rfl) (by first | exact fun _ _ _ h => h | exact fun _ _ _ h => nomatch h.1) (Or.inl ⟨by rfl, fun w_ hw_ => by have hh := CXA.out w_ hw_; go_simp⟩) hch0 ?_
              refine wpAnyH_take (i := 7) (v := .pointer (some ⟨q.gx, 1, none⟩)) rfl (by kernel_rfl) (by kernel_rfl) (by kernel_rfl) (by first | exact fun _ _ _ h => h | exact fun _ _ _ h => nomatch h.1) (Or.inl ⟨by rfl, fun w_ hw_ => by go_simp⟩) hch0 ?_
              try simp only [Act.put, List.setIfInBounds_toArray, List.set_cons_zero, List.set_cons_succ, List.getElem_toArray, List.getElem_cons_succ, List.getElem_cons_zero]
              refine wpAnyH_take (i := 8) (v := .pointer (some ⟨q.gB, 0, none⟩)) rfl (by kernel_rfl) (by kernel_rfl) (by kernel_rfl) (by first | exact fun _ _ _ h => h | exact fun _ _ _ h => nomatch h.1) (Or.inl ⟨by rfl, fun w_ hw_ => by have hh := CXB.out w_ hw_; go_simp⟩) hch0 ?_
              try simp only [Act.put, List.setIfInBounds_toArray, List.set_cons_zero, List.set_cons_succ, List.getElem_toArray, List.getElem_cons_succ, List.getElem_cons_zero]
              refine wpAnyH_take (i := 9) (v := .pointer (some ⟨q.gA, 0, none⟩)) rfl (by kernel_rfl) (by kernel_rfl) (by kernel_rfl) (by first | exact fun _ _ _ h => h | exact fun _ _ _ h => nomatch h.1) (Or.inl ⟨by rfl, fun w_ hw_ => by go_simp⟩) hch0 ?_
              refine wpAnyH_take (i := 10) (v := .pointer (some ⟨q.gB, 0, none⟩)) rfl (by kernel_rfl) (by kernel_rfl) (by kernel_rfl) (by first | exact fun _ _ _ h => h | exact fun _ _ _ h => nomatch h.1) (Or.inl ⟨by rfl, fun w_ hw_ => by go_simp⟩) hch0 ?_
              try simp only [Act.put, List.setIfInBounds_toArray, List.set_cons_zero, List.set_cons_succ, List.getElem_toArray, List.getElem_cons_succ, List.getElem_cons_zero]
              refine wpAnyH_done (by kernel_rfl) ?_ _
              go_wp2_with (first | (go_at_call 11; with_reducible refine (HSE.out _ hch0).mono ?_; rintro e s1 ⟨A21, c21, rfl, hl21, hv21, hcs1⟩; have HL21 := Lib.hid hl21; have HINs := Lib.hid (HINk.out.quiet (hch0.trans hcs1)); have HCs := Lib.hid (HCk.out.trans (hch0.trans hcs1)); have HVs := Lib.hid (hv21.mono (T' := fun b => b < s1.heap.size) (fun b hb _ => hb)); clear hv21 hcs1 hl21))
              try simp only [Act.put, List.setIfInBounds_toArray, List.set_cons_zero, List.set_cons_succ]
              clear HSE CXA CXB hch0
              obtain ⟨Ap, cp, hpc, hpl, hpr⟩ := HINs.out.past 0 (by decide)
              have HPC := Lib.hid hpc
              have HPL := Lib.hid hpl
              have HPR := Lib.hid hpr
              have HPO : Hid (∀ w' m, Chg none_ s1 w' → Calls Tryd.prog 12 #[.agg (cellsS (ownN C S 0 m)).toArray, .int .i64 i, .slice none 0 0, .slice A21 (text.length + 16) c21] w' fun e w'' => ∃ v, e = .returned (.tuple #[v, .int .i64 (openK (ownN C S 0 m) i [] (ctN C S 0 t i text)).2]) ∧ Owned w'' w'.heap.size v (openK (ownN C S 0 m) i [] (ctN C S 0 t i text)).1 ∧ Chg none_ w' w'') := Lib.hid (fun w' m hc => past_open 0 (t) m i text A21 c21 _ (HVs.out.chg hc (fun _ _ h => h)) HL21.out hq4' HTB.out)
              clear hpc hpl hpr
              go_loopw [22, 23, 24] (fun mv _ _ wr => ∃ m : Nat, m ≤ t ∧ mv = .int .i64 m ∧ Hid (∀ m', m' < m → (openK (ownN C S 0 m') i [] (ctN C S 0 t i text)).2 ≠ 0) ∧ Chg none_ s1 wr) (fun mv _ _ _ => t - (intOf mv).toNat)
              case atStart => exact ⟨0, Nat.zero_le _, rfl, Lib.hid (fun m' h => absurd h (by omega)), Chg.refl _ _⟩
              case round =>
                obtain ⟨m, hm, rfl, HNO, hchm⟩ := hrel
                have cg := (hchm.cell 0 HPL.out (fun h => h)).trans HPC.out
                have HCm := Lib.hid hchm
                by_cases hlm : m < t
                · obtain ⟨gp, hAp, hgl, hrg⟩ := HPR.out m hlm
                  subst hAp
                  have HRG : Hid (wr.rangeAt gp (m * 61) (cellsS (ownN C S 0 m))) := Lib.hid (fun j v hv => (hchm.cell _ hgl (fun h => h)).trans (hrg j v hv))
                  have HPM := Lib.hid (HPO.out wr m hchm)
                  have HMO := Lib.hid (ownN_ok C S 0 m)
                  obtain ⟨z, hz⟩ : ∃ z, z = (openK (ownN C S 0 m) i [] (ctN C S 0 t i text)).2 := ⟨_, rfl⟩
                  rw [← hz] at HPM
                  have HZ := Lib.hid hz
                  have q5 : (m : Int) < (t : Int) := by omega
                  have q6 : (0 : Int) ≤ (m : Int) := by omega
                  have HLM := Lib.hid hlm
                  clear hm hchm hlm hgl hrg hz
                  by_cases hz0 : z = 0
                  · subst hz0
                    go_wp2_with (first | ((with_reducible show wpList _ _ _ (⟨some 154, .load 36 _, _, _, _, _⟩ :: _) _ _); refine wpList_load_Mid (cs := cellsS (ownN C S 0 m)) rfl rfl rfl (HRG.out) Tryd.underlying36 rfl (by rw [cellsS_len HMO.out]; exact sizeSc) ?_) | (go_at_call 12; with_reducible refine HPM.out.mono ?_; rintro e o1 ⟨vo, rfl, _, hco⟩; have HCo := Lib.hid hco; clear hco))
                    go_ret
                    exact ⟨rfl, (HCs.out.trans HCm.out).trans HCo.out⟩
                  · go_wp2_with (first | ((with_reducible show wpList _ _ _ (⟨some 154, .load 36 _, _, _, _, _⟩ :: _) _ _); refine wpList_load_Mid (cs := cellsS (ownN C S 0 m)) rfl rfl rfl (HRG.out) Tryd.underlying36 rfl (by rw [cellsS_len HMO.out]; exact sizeSc) ?_) | (go_at_call 12; with_reducible refine HPM.out.mono ?_; rintro e o1 ⟨vo, rfl, _, hco⟩; have HCo := Lib.hid hco; clear hco))
                    go_roundw
                    case rel => exact ⟨m + 1, by have := HLM.out; omega, by go_num, Lib.hid (fun m' h => by
                      rcases Nat.lt_or_ge m' m with h2 | h2
                      · exact HNO.out m' h2
                      · have : m' = m := by omega
                        subst this
                        rw [← HZ.out]; exact hz0), HCm.out.trans HCo.out⟩
                    case measure => have := HLM.out; simp [intOf]; omega
                · have hmt : m = t := by omega
                  have q5 : ¬ (m : Int) < (t : Int) := by omega
                  have HPAST : Hid (∀ m', m' < t → (openK (ownN C S 0 m') i [] (ctN C S 0 t i text)).2 ≠ 0) := Lib.hid (fun m' h => HNO.out m' (by omega))
                  have HINm := Lib.hid (HINs.out.quiet hchm)
                  have HCw := Lib.hid (HCs.out.trans hchm)
                  have HVm := Lib.hid (HVs.out.chg hchm (fun _ _ h => h))
                  obtain ⟨bp, hbp⟩ : ∃ b, b = decide ((t) % 2 = 1) := ⟨_, rfl⟩
                  have HOPX : Hid (∀ w', Inv C S q t t (t) (t) w' → Chg none_ W w' → View w' (fun b => b < s1.heap.size) A21 (text.length + 16) (u8s (ctN C S 0 t i text)) → Calls Tryd.prog 13 #[.pointer (some ⟨q.gB, 0, none⟩), .int .i64 1, .bool bp, .int .i64 i, .slice none 0 0, .slice A21 (text.length + 16) c21] w' fun e w'' => ∃ A c, e = .returned (.tuple #[.slice A text.length c, .int .i64 0]) ∧ View w'' (fun b => w'.heap.size ≤ b) A text.length (u8s text) ∧ Inv C S q (t) (t) (t) (t) w'' ∧ Chg (· = q.gB) w' w'') := Lib.hid (fun w' hI hC hV => by rw [hbp]; exact open_same 0 (t) (by decide) i text c21 _ A21 hI hV HL21.out hq4' HTB.out)
                  have HPHN : Hid (∀ w', Inv C S q t t (t) (t) w' → Calls Tryd.prog 14 #[.pointer (some ⟨q.gA, 0, none⟩)] w' fun e w'' => e = .returned (.bool bp) ∧ Chg none_ w' w'') := Lib.hid (fun w' hI => by rw [hbp]; exact phase_inv 0 (by decide) hI)
                  have HPH0 : Hid (∀ w', Inv C S q (t) (t) (t) (t) w' → Calls Tryd.prog 14 #[.pointer (some ⟨q.gA, 0, none⟩)] w' fun e w'' => e = .returned (.bool bp) ∧ Chg none_ w' w'') := Lib.hid (fun w' hI => by rw [hbp]; exact phase_inv 0 (by decide) hI)
                  have HPH1 : Hid (∀ w', Inv C S q (t) (t) (t) (t) w' → Calls Tryd.prog 14 #[.pointer (some ⟨q.gB, 0, none⟩)] w' fun e w'' => e = .returned (.bool bp) ∧ Chg none_ w' w'') := Lib.hid (fun w' hI => by rw [hbp]; exact phase_inv 1 (by decide) hI)
                  clear hbp
                  clear hm hchm hlm HNO hmt
                  go_wp2_with (first | (go_at_call 14; with_reducible refine (HPHN.out _ HINm.out).mono ?_; rintro e f1 ⟨rfl, hcp⟩; have HCp := Lib.hid (HCw.out.trans hcp); have HINp := Lib.hid (HINm.out.quiet hcp); have HVp := Lib.hid (HVm.out.chg hcp (fun _ _ h => h)); clear hcp HINm HPHN) | (go_at_call 13; with_reducible refine (HOPX.out _ HINp.out HCp.out HVp.out).mono ?_; rintro e f2 ⟨A25, c25, rfl, hv25, hi25, hc25⟩; have HINf := Lib.hid hi25; have HCf := Lib.hid (HCp.out.andThen hc25 (fun b hb e => by have := HQW.out; omega)); have HVf := Lib.hid hv25; clear hv25 hi25 hc25 HINp) | (go_at_call 15; with_reducible refine (HSA.out _ _ _ _ HCf.out HVf.out).mono ?_; rintro e f3 ⟨rfl, nk, hf3⟩; have hx3 := (show Chg none_ f2 f3 by (rw [hf3]; exact (Chg.refl none_ f2).drewN nk)); have HCg := Lib.hid (HCf.out.trans hx3); have HINg := Lib.hid (HINf.out.quiet hx3); clear hf3 hx3) | (go_at_call 14; with_reducible refine (HPH0.out _ HINg.out).mono ?_; rintro e f4 ⟨rfl, hcp⟩; have HCh := Lib.hid (HCg.out.trans hcp); have HINh := Lib.hid (HINg.out.quiet hcp); clear hcp HINg) | (go_at_call 14; with_reducible refine (HPH1.out _ HINh.out).mono ?_; rintro e f5 ⟨rfl, hcp⟩; have HCi := Lib.hid (HCh.out.trans hcp); have HINi := Lib.hid (HINh.out.quiet hcp); clear hcp))
                  go_roundw
                  case rel => exact ⟨2, by omega, rfl, HINi.out, HCi.out⟩
                  case measure => simp [intOf]
          · simp only [show ((2 : Nat) : Int) = 2 from rfl]
            go_wp2
            go_roundw
            case rel => exact ⟨i + 1, by have := HLT.out; omega, by go_num, by rw [HT3.out]; exact HINk.out, HCk.out⟩
            case measure => have := HLT.out; simp [intOf]; omega
    · have hin : i = nl := by omega
      subst hin
      have cx := hinv.ringsX.1
      have q0 : ¬ (i : Int) < (i : Int) := by omega
      clear hinv hch hlt hi
      go_wp2_with (first | (go_at_call 16; with_reducible refine (drop_inv HIN.out).mono ?_; rintro e d1 ⟨P, rfl, hr1, hx1, hc1⟩; have HRD := Lib.hid hr1; have cx1 := rx0 hx1; have HX1 := Lib.hid hx1; have HD1 := Lib.hid (HC.out.andThen hc1 (fun b hb e => by have := HQW.out; omega)); clear hr1 hx1 hc1) | (go_at_call 11; with_reducible refine (seal_dropped _ _ 0 text At capt HRD.out).mono ?_; rintro e d2 ⟨rfl, hc2⟩; have HRD2 := Lib.hid (HRD.out.quiet hc2); have cx2 := rx0 (HX1.out.chg hc2 (fun h => h)); have HD2 := Lib.hid (HD1.out.trans hc2); clear hc2) | (go_at_call 17; with_reducible refine (live_dropped _ _ HRD2.out).mono ?_; rintro e d3 ⟨rfl, hc3⟩; have HD3 := Lib.hid (HD2.out.trans hc3); clear hc3))
      go_ret
      exact ⟨rfl, HD3.out⟩
end Go.Proofs.YtfpflhcabjcamaaDoor
