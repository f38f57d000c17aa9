/- Layer 8 (aes): the walk of the law AesStreams. -/
import Derived.Test.YtbohpnbiemokpaaV8Open
import Derived.Test.YtbohpnbiemokpaaV8RStream
import Derived.Test.YtbohpnbiemokpaaSame
namespace Go.Proofs.Ytbohpnbiemokpaa
open Go.RowKit

set_option maxRecDepth 100000 in
set_option maxHeartbeats 1000000 in
theorem walk_AesStreams (key first : List Nat) (A : Option Addr) (len cap : Nat) (zs : List Int) (W : World) (hk : key.length = 16) (hkb : ∀ x ∈ key, x < 256) (hf : first.length = 16) (hfb : ∀ x ∈ first, x < 256) (x0 : IsRow .u8 W A len cap zs) :
    Calls Try.prog 5 #[.agg (u8s key).toArray, .agg (u8s first).toArray, .slice A len cap] W fun e w' => e = .returned (.bool true) ∧ Chg none_ W w' := by
  obtain ⟨text, rfl, hcap, hmax, htb, hv⟩ := x0.u8
  clear x0
  have HKL := Lib.hid hk
  have HFL := Lib.hid hf
  have hmx : text.length ≤ 9223372036854775807 := by unfold maxLen at hmax; omega
  by_cases hlong : 300 < text.length
  · have hd : decide ((300 : Int) < (text.length : Int)) = true := by simp; omega
    clear hk hkb hf hfb hv htb hcap hmax
    go_enter Try.func5, Try.ntmps5
    go_wp2_with (first | ((with_reducible show wpList _ _ _ (⟨some 3, .box 26 _, _, _, _, _⟩ :: _) _ _); refine wpList_box_Row rfl rfl (u8s key) rfl ?_; intro w1 hr1 hc1 hs1; have HR1 := Lib.hid hr1; have HC1 := Lib.hid hc1; clear hr1 hc1 hs1) | ((with_reducible show wpList _ _ _ (⟨some 4, .box 26 _, _, _, _, _⟩ :: _) _ _); refine wpList_box_Row rfl rfl (u8s first) rfl ?_; intro w2 hr2 hc2 hs2; have HR2 := Lib.hid hr2; have HC2 := Lib.hid (HC1.out.trans hc2); have HR1b := Lib.hid (HR1.out.chg hc2 (fun h => h)); clear hr2 hc2 hs2) | (go_at_call 10; refine (alive_any _).mono ?_; rintro e w3 ⟨rfl, hc3⟩; have HC3 := Lib.hid (HC2.out.trans hc3); have HRK := Lib.hid (HR1b.out.chg hc3 (fun h => h)); have HRF := Lib.hid (HR2.out.chg hc3 (fun h => h)); clear hc3))
    refine wp_region_held_drew (S := fun w' => Chg none_ w3 w') (by kernel_rfl) ((Chg.refl none_ w3).drew) (fun hch0 => ?_)
    generalize w3.drew = wd at hch0 ⊢
    refine wpAnyH_take (i := 0) (v := .slice A text.length cap) rfl (by kernel_rfl) (by kernel_rfl) (by kernel_rfl) (by first | exact fun _ _ _ h => h | exact fun _ _ _ h => nomatch h.1) (Or.inl ⟨by rfl, fun w_ hw_ => by go_simp⟩) hch0 ?_
    refine wpAnyH_take (i := 1) (v := .int .i64 text.length) rfl (by kernel_rfl) (by kernel_rfl) (by kernel_rfl) (by first | exact fun _ _ _ h => h | exact fun _ _ _ h => nomatch h.1) (Or.inl ⟨by rfl, fun w_ hw_ => by go_simp⟩) hch0 ?_
    refine wpAnyH_take (i := 2) (v := .bool true) rfl (by kernel_rfl) (by kernel_rfl) (by kernel_rfl) (by first | exact fun _ _ _ h => h | exact fun _ _ _ h => nomatch h.1) (Or.inl ⟨by rfl, fun w_ hw_ => by go_simp⟩) hch0 ?_
    refine wpAnyH_take (i := 3) (v := .bool true) rfl (by kernel_rfl) (by kernel_rfl) (by kernel_rfl) (by first | exact fun _ _ _ h => h | exact fun _ _ _ h => nomatch h.1) (Or.inl ⟨by rfl, fun w_ hw_ => by go_simp⟩) hch0 ?_
    try simp only [Act.put, List.setIfInBounds_toArray, List.set_cons_zero, List.set_cons_succ, List.getElem_toArray, List.getElem_cons_succ, List.getElem_cons_zero]
    refine wpAnyH_take (i := 4) (v := undef) rfl (by kernel_rfl) (by kernel_rfl) (by kernel_rfl) (by first | exact fun _ _ _ h => h | exact fun _ _ _ h => nomatch h.1) (Or.inr ⟨by rfl, rfl⟩) hch0 ?_
    refine wpAnyH_take (i := 5) (v := undef) rfl (by kernel_rfl) (by kernel_rfl) (by kernel_rfl) (by first | exact fun _ _ _ h => h | exact fun _ _ _ h => nomatch h.1) (Or.inr ⟨by rfl, rfl⟩) hch0 ?_
    refine wpAnyH_take (i := 6) (v := undef) rfl (by kernel_rfl) (by kernel_rfl) (by kernel_rfl) (by first | exact fun _ _ _ h => h | exact fun _ _ _ h => nomatch h.1) (Or.inr ⟨by rfl, rfl⟩) hch0 ?_
    try simp only [Act.put, List.setIfInBounds_toArray, List.set_cons_zero, List.set_cons_succ, List.getElem_toArray, List.getElem_cons_succ, List.getElem_cons_zero]
    refine wpAnyH_take (i := 7) (v := undef) rfl (by kernel_rfl) (by kernel_rfl) (by kernel_rfl) (by first | exact fun _ _ _ h => h | exact fun _ _ _ h => nomatch h.1) (Or.inr ⟨by rfl, rfl⟩) hch0 ?_
    refine wpAnyH_take (i := 8) (v := undef) rfl (by kernel_rfl) (by kernel_rfl) (by kernel_rfl) (by first | exact fun _ _ _ h => h | exact fun _ _ _ h => nomatch h.1) (Or.inr ⟨by rfl, rfl⟩) hch0 ?_
    refine wpAnyH_take (i := 9) (v := undef) rfl (by kernel_rfl) (by kernel_rfl) (by kernel_rfl) (by first | exact fun _ _ _ h => h | exact fun _ _ _ h => nomatch h.1) (Or.inr ⟨by rfl, rfl⟩) hch0 ?_
    try simp only [Act.put, List.setIfInBounds_toArray, List.set_cons_zero, List.set_cons_succ, List.getElem_toArray, List.getElem_cons_succ, List.getElem_cons_zero]
    refine wpAnyH_take (i := 10) (v := undef) rfl (by kernel_rfl) (by kernel_rfl) (by kernel_rfl) (by first | exact fun _ _ _ h => h | exact fun _ _ _ h => nomatch h.1) (Or.inr ⟨by rfl, rfl⟩) hch0 ?_
    refine wpAnyH_take (i := 11) (v := undef) rfl (by kernel_rfl) (by kernel_rfl) (by kernel_rfl) (by first | exact fun _ _ _ h => h | exact fun _ _ _ h => nomatch h.1) (Or.inr ⟨by rfl, rfl⟩) hch0 ?_
    refine wpAnyH_take (i := 12) (v := undef) rfl (by kernel_rfl) (by kernel_rfl) (by kernel_rfl) (by first | exact fun _ _ _ h => h | exact fun _ _ _ h => nomatch h.1) (Or.inr ⟨by rfl, rfl⟩) hch0 ?_
    try simp only [Act.put, List.setIfInBounds_toArray, List.set_cons_zero, List.set_cons_succ, List.getElem_toArray, List.getElem_cons_succ, List.getElem_cons_zero]
    refine wpAnyH_take (i := 13) (v := .bool true) rfl (by kernel_rfl) (by kernel_rfl) (by kernel_rfl) (by first | exact fun _ _ _ h => h | exact fun _ _ _ h => nomatch h.1) (Or.inl ⟨by rfl, fun w_ hw_ => by go_simp⟩) hch0 ?_
    refine wpAnyH_take (i := 14) (v := .bool true) rfl (by kernel_rfl) (by kernel_rfl) (by kernel_rfl) (by first | exact fun _ _ _ h => h | exact fun _ _ _ h => nomatch h.1) (Or.inl ⟨by rfl, fun w_ hw_ => by go_simp⟩) hch0 ?_
    try simp only [Act.put, List.setIfInBounds_toArray, List.set_cons_zero, List.set_cons_succ, List.getElem_toArray, List.getElem_cons_succ, List.getElem_cons_zero]
    refine wpAnyH_done (by kernel_rfl) ?_ _
    go_wp2
    go_ret
    exact ⟨rfl, HC3.out.trans hch0⟩
  have hd : decide ((300 : Int) < (text.length : Int)) = false := by simp; omega
  have HA := Lib.hid (fun w (hc : Chg none_ W w) => Stream_any key first _ A cap text w hk hkb hf hfb (hv.chg hc (fun _ _ h => h)) (by omega) htb)
  have HB := Lib.hid (fun w (hc : Chg none_ W w) => rstream_any key first _ A cap text w hk hkb hf hfb (hv.chg hc (fun _ _ h => h)) (by omega) htb)
  have hsl := streamN_len key first text
  generalize streamN key first text = ST at HA HB hsl
  have HM : Hid (∀ w g A2 c2, Row w g 5 (u8s ST) → View w (fun _ => True) A2 text.length (u8s ST) → Calls Try.prog 20 #[.slice (some ⟨g, 0, none⟩) text.length text.length, .slice A2 text.length c2] w fun e w' => e = .returned (.bool true) ∧ ∃ k, w' = w.drewN k) := Lib.hid (fun w g A2 c2 hr hv2 => by
    have := same_any w (fun _ => True) (fun _ => True) (some ⟨g, 0, none⟩) A2 text.length c2 ST ST (View.all hr (by rw [u8s_length]) trivial) (by rw [hsl]; exact hv2) (by omega)
    rwa [decide_eq_true rfl, hsl] at this)
  clear hk hkb hf hfb hv htb hcap hmax hsl
  go_enter Try.func5, Try.ntmps5
  go_wp2_with (first | ((with_reducible show wpList _ _ _ (⟨some 3, .box 26 _, _, _, _, _⟩ :: _) _ _); refine wpList_box_Row rfl rfl (u8s key) rfl ?_; intro w1 hr1 hc1 hs1; have HR1 := Lib.hid hr1; have HC1 := Lib.hid hc1; clear hr1 hc1 hs1) | ((with_reducible show wpList _ _ _ (⟨some 4, .box 26 _, _, _, _, _⟩ :: _) _ _); refine wpList_box_Row rfl rfl (u8s first) rfl ?_; intro w2 hr2 hc2 hs2; have HR2 := Lib.hid hr2; have HC2 := Lib.hid (HC1.out.trans hc2); have HR1b := Lib.hid (HR1.out.chg hc2 (fun h => h)); clear hr2 hc2 hs2) | (go_at_call 10; refine (alive_any _).mono ?_; rintro e w3 ⟨rfl, hc3⟩; have HC3 := Lib.hid (HC2.out.trans hc3); have HRK := Lib.hid (HR1b.out.chg hc3 (fun h => h)); have HRF := Lib.hid (HR2.out.chg hc3 (fun h => h)); clear hc3))
  refine wp_region_held_drew (S := fun w' => Chg none_ w3 w') (by kernel_rfl) ((Chg.refl none_ w3).drew) (fun hch0 => ?_)
  generalize w3.drew = wd at hch0 ⊢
  refine wpAnyH_take (i := 0) (v := .slice A text.length cap) rfl (by kernel_rfl) (by kernel_rfl) (by kernel_rfl) (by first | exact fun _ _ _ h => h | exact fun _ _ _ h => nomatch h.1) (Or.inl ⟨by rfl, fun w_ hw_ => by go_simp⟩) hch0 ?_
  refine wpAnyH_take (i := 1) (v := .int .i64 text.length) rfl (by kernel_rfl) (by kernel_rfl) (by kernel_rfl) (by first | exact fun _ _ _ h => h | exact fun _ _ _ h => nomatch h.1) (Or.inl ⟨by rfl, fun w_ hw_ => by go_simp⟩) hch0 ?_
  refine wpAnyH_take (i := 2) (v := .bool false) rfl (by kernel_rfl) (by kernel_rfl) (by kernel_rfl) (by first | exact fun _ _ _ h => h | exact fun _ _ _ h => nomatch h.1) (Or.inl ⟨by rfl, fun w_ hw_ => by go_simp⟩) hch0 ?_
  refine wpAnyH_take (i := 3) (v := .bool false) rfl (by kernel_rfl) (by kernel_rfl) (by kernel_rfl) (by first | exact fun _ _ _ h => h | exact fun _ _ _ h => nomatch h.1) (Or.inl ⟨by rfl, fun w_ hw_ => by go_simp⟩) hch0 ?_
  try simp only [Act.put, List.setIfInBounds_toArray, List.set_cons_zero, List.set_cons_succ, List.getElem_toArray, List.getElem_cons_succ, List.getElem_cons_zero]
  refine wpAnyH_take (i := 4) (v := .agg (u8s key).toArray) rfl (by kernel_rfl) (by kernel_rfl) (by kernel_rfl) (by first | exact fun _ _ _ h => h | exact fun _ _ _ h => nomatch h.1) (yieldsIf_load_mid (by rfl) 26 _ rfl W.heap.size 0 rfl (u8s key) _ (fun w' hw' => (HRK.out.chg hw' (fun h => h)).range) Try.underlying26 rfl (by rw [u8s_length, HKL.out]; exact size26)) hch0 ?_
  refine wpAnyH_take (i := 5) (v := .agg (u8s first).toArray) rfl (by kernel_rfl) (by kernel_rfl) (by kernel_rfl) (by first | exact fun _ _ _ h => h | exact fun _ _ _ h => nomatch h.1) (yieldsIf_load_mid (by rfl) 26 _ rfl w1.heap.size 0 rfl (u8s first) _ (fun w' hw' => (HRF.out.chg hw' (fun h => h)).range) Try.underlying26 rfl (by rw [u8s_length, HFL.out]; exact size26)) hch0 ?_
  refine wpAnyH_take (i := 6) (v := .slice A text.length cap) rfl (by kernel_rfl) (by kernel_rfl) (by kernel_rfl) (by first | exact fun _ _ _ h => h | exact fun _ _ _ h => nomatch h.1) (Or.inl ⟨by rfl, fun w_ hw_ => by go_simp⟩) hch0 ?_
  refine wpAnyH_take (i := 8) (v := .agg (u8s key).toArray) rfl (by kernel_rfl) (by kernel_rfl) (by kernel_rfl) (by first | exact fun _ _ _ h => h | exact fun _ _ _ h => nomatch h.1) (yieldsIf_load_mid (by rfl) 26 _ rfl W.heap.size 0 rfl (u8s key) _ (fun w' hw' => (HRK.out.chg hw' (fun h => h)).range) Try.underlying26 rfl (by rw [u8s_length, HKL.out]; exact size26)) hch0 ?_
  refine wpAnyH_take (i := 9) (v := .agg (u8s first).toArray) rfl (by kernel_rfl) (by kernel_rfl) (by kernel_rfl) (by first | exact fun _ _ _ h => h | exact fun _ _ _ h => nomatch h.1) (yieldsIf_load_mid (by rfl) 26 _ rfl w1.heap.size 0 rfl (u8s first) _ (fun w' hw' => (HRF.out.chg hw' (fun h => h)).range) Try.underlying26 rfl (by rw [u8s_length, HFL.out]; exact size26)) hch0 ?_
  refine wpAnyH_take (i := 10) (v := .slice A text.length cap) rfl (by kernel_rfl) (by kernel_rfl) (by kernel_rfl) (by first | exact fun _ _ _ h => h | exact fun _ _ _ h => nomatch h.1) (Or.inl ⟨by rfl, fun w_ hw_ => by go_simp⟩) hch0 ?_
  try simp only [Act.put, List.setIfInBounds_toArray, List.set_cons_zero, List.set_cons_succ, List.getElem_toArray, List.getElem_cons_succ, List.getElem_cons_zero]
  refine wpAnyH_ready (rs := [7]) (by kernel_rfl) (by simp) ?_
  refine AllReadyH.cons rfl (fun K hK => ?_) AllReadyH.nil
  rw [if_pos (by rfl)]
  try simp only [Act.put, List.setIfInBounds_toArray, List.set_cons_zero, List.set_cons_succ, List.getElem_toArray, List.getElem_cons_succ, List.getElem_cons_zero]
  go_simp
  refine (HA.out _ (HC3.out.trans hch0)).mono ?_
  rintro e x1 ⟨g1, rfl, hge1, hr1, hcx1⟩
  have hch1 : Chg none_ w3 x1 := hch0.trans hcx1
  refine hK.out _ _ (hch1) (fun _ => ?_)
  clear hK K
  try simp only [Act.put, List.setIfInBounds_toArray, List.set_cons_zero, List.set_cons_succ, List.getElem_toArray, List.getElem_cons_succ, List.getElem_cons_zero]
  refine wpAnyH_ready (rs := [11]) (by kernel_rfl) (by simp) ?_
  refine AllReadyH.cons rfl (fun K hK => ?_) AllReadyH.nil
  rw [if_pos (by rfl)]
  try simp only [Act.put, List.setIfInBounds_toArray, List.set_cons_zero, List.set_cons_succ, List.getElem_toArray, List.getElem_cons_succ, List.getElem_cons_zero]
  go_simp
  refine (HB.out _ (HC3.out.trans hch1)).mono ?_
  rintro e x2 ⟨A2, c2, rfl, hv2, hcx2⟩
  have hch2 : Chg none_ w3 x2 := hch1.trans hcx2
  refine hK.out _ _ (hch2) (fun _ => ?_)
  clear hK K
  try simp only [Act.put, List.setIfInBounds_toArray, List.set_cons_zero, List.set_cons_succ, List.getElem_toArray, List.getElem_cons_succ, List.getElem_cons_zero]
  refine wpAnyH_ready (rs := [12]) (by kernel_rfl) (by simp) ?_
  refine AllReadyH.cons rfl (fun K hK => ?_) AllReadyH.nil
  rw [if_pos (by rfl)]
  try simp only [Act.put, List.setIfInBounds_toArray, List.set_cons_zero, List.set_cons_succ, List.getElem_toArray, List.getElem_cons_succ, List.getElem_cons_zero]
  go_simp
  refine (HM.out _ _ _ _ (hr1.chg hcx2 (fun h => h)) hv2).mono ?_
  rintro e x3 ⟨rfl, nk, rfl⟩
  have hch3 : Chg none_ w3 (x2.drewN nk) := hch2.drewN nk
  generalize x2.drewN nk = x4 at hch3 ⊢
  refine hK.out _ _ (hch3) (fun _ => ?_)
  clear hK K
  try simp only [Act.put, List.setIfInBounds_toArray, List.set_cons_zero, List.set_cons_succ, List.getElem_toArray, List.getElem_cons_succ, List.getElem_cons_zero]
  refine wpAnyH_take (i := 13) (v := .bool true) rfl (by kernel_rfl) (by kernel_rfl) (by kernel_rfl) (by first | exact fun _ _ _ h => h | exact fun _ _ _ h => nomatch h.1) (Or.inl ⟨by rfl, fun w_ hw_ => by go_simp⟩) hch3 ?_
  refine wpAnyH_take (i := 14) (v := .bool true) rfl (by kernel_rfl) (by kernel_rfl) (by kernel_rfl) (by first | exact fun _ _ _ h => h | exact fun _ _ _ h => nomatch h.1) (Or.inl ⟨by rfl, fun w_ hw_ => by go_simp⟩) hch3 ?_
  try simp only [Act.put, List.setIfInBounds_toArray, List.set_cons_zero, List.set_cons_succ, List.getElem_toArray, List.getElem_cons_succ, List.getElem_cons_zero]
  refine wpAnyH_done (by kernel_rfl) ?_ _
  go_wp2
  go_ret
  exact ⟨rfl, HC3.out.trans hch3⟩
end Go.Proofs.Ytbohpnbiemokpaa
