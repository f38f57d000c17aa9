/- Layer 9 (gcm): the walk of the law GcmText. -/
import Derived.Test.YtmimpodbmfmeiaaV9Back
namespace Go.Proofs.Ytmimpodbmfmeiaa
open Go.RowKit

theorem view_upto {w : World} {g k c : Nat} {S : List Nat} {sp : List Value} (h : Row w g 5 (u8s S ++ sp)) (hk : k ≤ S.length) : View w (fun _ => True) (highA (some ⟨g, 0, none⟩) c) k (u8s (S.take k)) := by
  have hvw := View.row (T := fun _ => True) h (n := S.length) (by rw [List.length_append, u8s_length]; omega) trivial
  rw [List.take_append_of_le_length (by rw [u8s_length]; exact Nat.le_refl _), List.take_of_length_le (by rw [u8s_length]; exact Nat.le_refl _)] at hvw
  exact hvw.upto c hk
theorem view_whole {w : World} {g n : Nat} {S : List Nat} {sp : List Value} (h : Row w g 5 (u8s S ++ sp)) (hn : n = S.length) : View w (fun _ => True) (some ⟨g, 0, none⟩) n (u8s S) := by
  subst hn
  have hvw := View.row (T := fun _ => True) h (n := S.length) (by rw [List.length_append, u8s_length]; omega) trivial
  rwa [List.take_append_of_le_length (by rw [u8s_length]; exact Nat.le_refl _), List.take_of_length_le (by rw [u8s_length]; exact Nat.le_refl _)] at hvw
/-- Seal, its answer a row of its own. -/
theorem Seal_row (key nonce more text : List Nat) (T T' : Nat → Prop) (A A' : Option Addr) (cap cap' n : Nat) (w : World) (hk : key.length = 16) (hkb : ∀ x ∈ key, x < 256) (hn : nonce.length = 12) (hnb : ∀ x ∈ nonce, x < 256) (hm : View w T A more.length (u8s more)) (hmc : more.length ≤ cap) (hml : more.length ≤ 100000) (hmb : ∀ x ∈ more, x < 256) (htn : text.length = n) (ht : View w T' A' n (u8s text)) (htl : n ≤ 100000) (htb : ∀ x ∈ text, x < 256) :
    Calls Try.prog 17 #[.agg (u8s key).toArray, .agg (u8s nonce).toArray, .slice A more.length cap, .slice A' n cap'] w fun e w'' => ∃ g c sp, e = .returned (.slice (some ⟨g, 0, none⟩) (n + 16) c) ∧ n + 16 ≤ c ∧ Row w'' g 5 (u8s (sealG key nonce more text) ++ sp) ∧ Chg none_ w w'' := by
  subst htn
  refine (Seal_any key nonce more text T T' A A' cap cap' w hk hkb hn hnb hm hmc hml hmb ht htl htb).mono ?_
  rintro e w'' ⟨v, rfl, ho, hc2⟩
  have hsl := sealG_len key nonce more text
  obtain ⟨g, c, sp, rfl, h1, h2, _⟩ := ho.rowOf (by omega)
  rw [hsl] at h1 ⊢
  exact ⟨g, c, sp, rfl, h1, h2, hc2⟩

set_option maxRecDepth 100000 in
set_option maxHeartbeats 8000000 in
theorem walk_GcmText (key nonce : List Nat) (A : Option Addr) (len cap : Nat) (zs : List Int) (A' : Option Addr) (len' cap' : Nat) (zs' : List Int) (A'' : Option Addr) (len'' cap'' : Nat) (zs'' : List Int) (W : World) (hk : key.length = 16) (hkb : ∀ x ∈ key, x < 256) (hn : nonce.length = 12) (hnb : ∀ x ∈ nonce, x < 256) (x0 : IsRow .u8 W A len cap zs) (x1 : IsRow .u8 W A' len' cap' zs') (x2 : IsRow .u8 W A'' len'' cap'' zs'') :
    Calls Try.prog 7 #[.agg (u8s key).toArray, .agg (u8s nonce).toArray, .slice A len cap, .slice A' len' cap', .slice A'' len'' cap''] W fun e w' => e = .returned (.bool true) ∧ Chg none_ W w' := by
  obtain ⟨more, rfl, hcap, hmax, hmb, hv⟩ := x0.u8
  obtain ⟨other, rfl, hcap', hmax', hob, hv'⟩ := x1.u8
  obtain ⟨text, rfl, hcap'', hmax'', htb, hv''⟩ := x2.u8
  clear x0 x1 x2
  have HKL := Lib.hid hk
  have HNL := Lib.hid hn
  have hmx : more.length ≤ 9223372036854775807 := by unfold maxLen at hmax; omega
  have hmx' : other.length ≤ 9223372036854775807 := by unfold maxLen at hmax'; omega
  have hmx'' : text.length ≤ 9223372036854775807 := by unfold maxLen at hmax''; omega
  by_cases hlong : 100 < more.length
  · have hd : decide ((100 : Int) < (more.length : Int)) = true := by simp; omega
    clear hk hkb hn hnb hv hmb hv' hob hv'' htb hcap hmax hcap' hmax' hcap'' hmax''
    go_enter Try.func7, Try.ntmps7
    go_wp2_with (first | ((with_reducible show wpList _ _ _ (⟨some 5, .box 22 _, _, _, _, _⟩ :: _) _ _); refine wpList_box_Row rfl rfl (u8s key) rfl ?_; intro wK hrK hcK hsK; have HRK := Lib.hid hrK; have HCK := Lib.hid hcK; clear hrK hcK hsK) | ((with_reducible show wpList _ _ _ (⟨some 6, .box 28 _, _, _, _, _⟩ :: _) _ _); refine wpList_box_Row rfl rfl (u8s nonce) rfl ?_; intro wN hrN hcN hsN; have HRN := Lib.hid hrN; have HCN := Lib.hid (HCK.out.trans hcN); have HRK1 := Lib.hid (HRK.out.chg hcN (fun h => h)); clear hrN hcN hsN) | (go_at_call 9; refine (alive_any _).mono ?_; rintro e w3 ⟨rfl, hc3⟩; have HC3 := Lib.hid (HCN.out.trans hc3); have HRK3 := Lib.hid (HRK1.out.chg hc3 (fun h => h)); have HRN3 := Lib.hid (HRN.out.chg hc3 (fun h => h)); clear hc3))
    go_ret
    exact ⟨rfl, HC3.out⟩
  have hd : decide ((100 : Int) < (more.length : Int)) = false := by simp; omega
  by_cases hlong' : 100 < other.length
  · have hd' : decide ((100 : Int) < (other.length : Int)) = true := by simp; omega
    clear hk hkb hn hnb hv hmb hv' hob hv'' htb hcap hmax hcap' hmax' hcap'' hmax''
    go_enter Try.func7, Try.ntmps7
    go_wp2_with (first | ((with_reducible show wpList _ _ _ (⟨some 5, .box 22 _, _, _, _, _⟩ :: _) _ _); refine wpList_box_Row rfl rfl (u8s key) rfl ?_; intro wK hrK hcK hsK; have HRK := Lib.hid hrK; have HCK := Lib.hid hcK; clear hrK hcK hsK) | ((with_reducible show wpList _ _ _ (⟨some 6, .box 28 _, _, _, _, _⟩ :: _) _ _); refine wpList_box_Row rfl rfl (u8s nonce) rfl ?_; intro wN hrN hcN hsN; have HRN := Lib.hid hrN; have HCN := Lib.hid (HCK.out.trans hcN); have HRK1 := Lib.hid (HRK.out.chg hcN (fun h => h)); clear hrN hcN hsN) | (go_at_call 9; refine (alive_any _).mono ?_; rintro e w3 ⟨rfl, hc3⟩; have HC3 := Lib.hid (HCN.out.trans hc3); have HRK3 := Lib.hid (HRK1.out.chg hc3 (fun h => h)); have HRN3 := Lib.hid (HRN.out.chg hc3 (fun h => h)); clear hc3))
    go_ret
    exact ⟨rfl, HC3.out⟩
  have hd' : decide ((100 : Int) < (other.length : Int)) = false := by simp; omega
  by_cases hlong'' : 100 < text.length
  · have hd'' : decide ((100 : Int) < (text.length : Int)) = true := by simp; omega
    clear hk hkb hn hnb hv hmb hv' hob hv'' htb hcap hmax hcap' hmax' hcap'' hmax''
    go_enter Try.func7, Try.ntmps7
    go_wp2_with (first | ((with_reducible show wpList _ _ _ (⟨some 5, .box 22 _, _, _, _, _⟩ :: _) _ _); refine wpList_box_Row rfl rfl (u8s key) rfl ?_; intro wK hrK hcK hsK; have HRK := Lib.hid hrK; have HCK := Lib.hid hcK; clear hrK hcK hsK) | ((with_reducible show wpList _ _ _ (⟨some 6, .box 28 _, _, _, _, _⟩ :: _) _ _); refine wpList_box_Row rfl rfl (u8s nonce) rfl ?_; intro wN hrN hcN hsN; have HRN := Lib.hid hrN; have HCN := Lib.hid (HCK.out.trans hcN); have HRK1 := Lib.hid (HRK.out.chg hcN (fun h => h)); clear hrN hcN hsN) | (go_at_call 9; refine (alive_any _).mono ?_; rintro e w3 ⟨rfl, hc3⟩; have HC3 := Lib.hid (HCN.out.trans hc3); have HRK3 := Lib.hid (HRK1.out.chg hc3 (fun h => h)); have HRN3 := Lib.hid (HRN.out.chg hc3 (fun h => h)); clear hc3))
    go_ret
    exact ⟨rfl, HC3.out⟩
  have hd'' : decide ((100 : Int) < (text.length : Int)) = false := by simp; omega
  obtain ⟨hf, hhf⟩ : ∃ hf, hf = text.length / 2 := ⟨_, rfl⟩
  have m1 : (text.length : Int) / 2 = (hf : Int) := by omega
  have HWF : Hid (IntKind.i64.wrap (hf : Int) = (hf : Int)) := Lib.hid (IntWalk.i64_in _ (by omega))
  have HHF : Hid (hf ≤ text.length) := Lib.hid (by omega)
  have HHC : Hid (hf ≤ cap'') := Lib.hid (by omega)
  have htl : (text.take hf).length = hf := by rw [List.length_take]; omega
  have HS1 := Lib.hid (fun w (hc : Chg none_ W w) => Seal_row key nonce more text _ _ A A'' cap cap'' text.length w hk hkb hn hnb (hv.chg hc (fun _ _ h => h)) hcap (by omega) hmb rfl (hv''.chg hc (fun _ _ h => h)) (by omega) htb)
  have HS2 := Lib.hid (fun w (hc : Chg none_ W w) => Seal_row key nonce other text _ _ A' A'' cap' cap'' text.length w hk hkb hn hnb (hv'.chg hc (fun _ _ h => h)) hcap' (by omega) hob rfl (hv''.chg hc (fun _ _ h => h)) (by omega) htb)
  have HS3 := Lib.hid (fun w (hc : Chg none_ W w) => Seal_row key nonce more (text.take hf) _ _ A (highA A'' cap'') cap cap'' hf w hk hkb hn hnb (hv.chg hc (fun _ _ h => h)) hcap (by omega) hmb htl ((hv''.chg hc (fun _ _ h => h)).upto cap'' HHF.out) (by omega) (fun x hx => htb x (List.mem_of_mem_take hx)))
  have ha1 := sealG_len key nonce more text
  have hb1 := sealG_len key nonce other text
  have hc1 := sealG_len key nonce more (text.take hf)
  rw [htl] at hc1
  have hab : (sealG key nonce more text).take text.length = (sealG key nonce other text).take text.length := by rw [sealG_take, sealG_take]
  have hca : (sealG key nonce more (text.take hf)).take hf = (sealG key nonce more text).take hf := by
    have e1 := sealG_take key nonce more (text.take hf)
    rw [htl, stream_take _ _ _ _ HHF.out] at e1
    rw [e1, ← sealG_take key nonce more text, List.take_take, Nat.min_eq_left HHF.out]
  have hse : more = other → sealG key nonce more text = sealG key nonce other text := fun h => by rw [h]
  generalize sealG key nonce more text = SA at HS1 ha1 hab hca hse
  generalize sealG key nonce other text = SB at HS2 hb1 hab hse
  generalize sealG key nonce more (text.take hf) = SC at HS3 hc1 hca
  have HM1 : Hid (∀ w g1 c1 sp1 g2 c2 sp2, Row w g1 5 (u8s SA ++ sp1) → Row w g2 5 (u8s SB ++ sp2) → Calls Try.prog 16 #[.slice (highA (some ⟨g1, 0, none⟩) c1) text.length c1, .slice (highA (some ⟨g2, 0, none⟩) c2) text.length c2] w fun e w' => e = .returned (.bool true) ∧ ∃ k, w' = w.drewN k) := Lib.hid (fun w g1 c1 sp1 g2 c2 sp2 h1 h2 => by
    have l1 : (SA.take text.length).length = text.length := by rw [List.length_take]; omega
    have l2 : (SB.take text.length).length = text.length := by rw [List.length_take]; omega
    have := same_any w (fun _ => True) (fun _ => True) (highA (some ⟨g1, 0, none⟩) c1) (highA (some ⟨g2, 0, none⟩) c2) c1 c2 (SA.take text.length) (SB.take text.length) (by rw [l1]; exact view_upto h1 (by omega)) (by rw [l2]; exact view_upto h2 (by omega)) (by omega)
    rwa [l1, l2, decide_eq_true hab] at this)
  have HM2 : Hid (∀ w g1 c1 sp1 g2 c2 sp2, Row w g1 5 (u8s SC ++ sp1) → Row w g2 5 (u8s SA ++ sp2) → Calls Try.prog 16 #[.slice (highA (some ⟨g1, 0, none⟩) c1) hf c1, .slice (highA (some ⟨g2, 0, none⟩) c2) hf c2] w fun e w' => e = .returned (.bool true) ∧ ∃ k, w' = w.drewN k) := Lib.hid (fun w g1 c1 sp1 g2 c2 sp2 h1 h2 => by
    have l1 : (SC.take hf).length = hf := by rw [List.length_take]; omega
    have l2 : (SA.take hf).length = hf := by rw [List.length_take]; have := HHF.out; omega
    have := same_any w (fun _ => True) (fun _ => True) (highA (some ⟨g1, 0, none⟩) c1) (highA (some ⟨g2, 0, none⟩) c2) c1 c2 (SC.take hf) (SA.take hf) (by rw [l1]; exact view_upto h1 (by omega)) (by rw [l2]; exact view_upto h2 (by have := HHF.out; omega)) (by omega)
    rwa [l1, l2, decide_eq_true hca] at this)
  have HM3 : Hid (∀ w, Chg none_ W w → Calls Try.prog 16 #[.slice A more.length cap, .slice A' other.length cap'] w fun e w' => e = .returned (.bool (decide (more = other))) ∧ ∃ k, w' = w.drewN k) := Lib.hid (fun w hc => same_any w _ _ A A' cap cap' more other (hv.chg hc (fun _ _ h => h)) (hv'.chg hc (fun _ _ h => h)) (by omega))
  by_cases hmo : more = other
  · have hss := hse hmo
    have HM4 : Hid (∀ w g1 c1 sp1 g2 c2 sp2, Row w g1 5 (u8s SA ++ sp1) → Row w g2 5 (u8s SB ++ sp2) → Calls Try.prog 16 #[.slice (some ⟨g1, 0, none⟩) (text.length + 16) c1, .slice (some ⟨g2, 0, none⟩) (text.length + 16) c2] w fun e w' => e = .returned (.bool true) ∧ ∃ k, w' = w.drewN k) := Lib.hid (fun w g1 c1 sp1 g2 c2 sp2 h1 h2 => by
      have := same_any w (fun _ => True) (fun _ => True) (some ⟨g1, 0, none⟩) (some ⟨g2, 0, none⟩) c1 c2 SA SB (by rw [ha1]; exact view_whole h1 (by omega)) (by rw [hb1]; exact view_whole h2 (by omega)) (by omega)
      rwa [ha1, hb1, decide_eq_true hss] at this)
    rw [decide_eq_true hmo] at HM3
    have hml : more.length ≤ 100 := by omega
    have hol : other.length ≤ 100 := by omega
    have htl2 : text.length ≤ 100 := by omega
    clear hk hkb hn hnb hv hmb hv' hob hv'' htb hcap hmax hcap' hmax' hcap'' hmax'' hmx hmx' hmx'' hlong hlong' hlong'' ha1 hb1 hc1 hab hca hse hss hmo hhf htl
    go_enter Try.func7, Try.ntmps7
    go_wp2_with (first | ((with_reducible show wpList _ _ _ (⟨some 5, .box 22 _, _, _, _, _⟩ :: _) _ _); refine wpList_box_Row rfl rfl (u8s key) rfl ?_; intro wK hrK hcK hsK; have HRK := Lib.hid hrK; have HCK := Lib.hid hcK; clear hrK hcK hsK) | ((with_reducible show wpList _ _ _ (⟨some 6, .box 28 _, _, _, _, _⟩ :: _) _ _); refine wpList_box_Row rfl rfl (u8s nonce) rfl ?_; intro wN hrN hcN hsN; have HRN := Lib.hid hrN; have HCN := Lib.hid (HCK.out.trans hcN); have HRK1 := Lib.hid (HRK.out.chg hcN (fun h => h)); clear hrN hcN hsN) | (go_at_call 9; refine (alive_any _).mono ?_; rintro e w3 ⟨rfl, hc3⟩; have HC3 := Lib.hid (HCN.out.trans hc3); have HRK3 := Lib.hid (HRK1.out.chg hc3 (fun h => h)); have HRN3 := Lib.hid (HRN.out.chg hc3 (fun h => h)); clear hc3))
    refine wp_region_held_drew (S := fun w' => Chg none_ w3 w') (by kernel_rfl) ((Chg.refl none_ w3).drew) (fun hch0 => ?_)
    generalize w3.drew = wd at hch0 ⊢
    refine wpAnyH_take (i := 0) (v := .agg (u8s key).toArray) rfl (by kernel_rfl) (by kernel_rfl) (by kernel_rfl) (by first | exact fun _ _ _ h => h | exact fun _ _ _ h => nomatch h.1) (yieldsIf_load_mid (by rfl) 22 _ rfl W.heap.size 0 rfl (u8s key) _ (fun w' hw' => (HRK3.out.chg hw' (fun h => h)).range) Try.underlying22 rfl (by rw [u8s_length, HKL.out]; exact size22)) hch0 ?_
    refine wpAnyH_take (i := 1) (v := .agg (u8s nonce).toArray) rfl (by kernel_rfl) (by kernel_rfl) (by kernel_rfl) (by first | exact fun _ _ _ h => h | exact fun _ _ _ h => nomatch h.1) (yieldsIf_load_mid (by rfl) 28 _ rfl wK.heap.size 0 rfl (u8s nonce) _ (fun w' hw' => (HRN3.out.chg hw' (fun h => h)).range) Try.underlying28 rfl (by rw [u8s_length, HNL.out]; exact sizeN12)) hch0 ?_
    refine wpAnyH_take (i := 2) (v := .slice A more.length cap) rfl (by kernel_rfl) (by kernel_rfl) (by kernel_rfl) (by first | exact fun _ _ _ h => h | exact fun _ _ _ h => nomatch h.1) (Or.inl ⟨by rfl, fun w_ hw_ => by go_simp⟩) hch0 ?_
    refine wpAnyH_take (i := 3) (v := .slice A'' text.length cap'') rfl (by kernel_rfl) (by kernel_rfl) (by kernel_rfl) (by first | exact fun _ _ _ h => h | exact fun _ _ _ h => nomatch h.1) (Or.inl ⟨by rfl, fun w_ hw_ => by go_simp⟩) hch0 ?_
    refine wpAnyH_take (i := 5) (v := .agg (u8s key).toArray) rfl (by kernel_rfl) (by kernel_rfl) (by kernel_rfl) (by first | exact fun _ _ _ h => h | exact fun _ _ _ h => nomatch h.1) (yieldsIf_load_mid (by rfl) 22 _ rfl W.heap.size 0 rfl (u8s key) _ (fun w' hw' => (HRK3.out.chg hw' (fun h => h)).range) Try.underlying22 rfl (by rw [u8s_length, HKL.out]; exact size22)) hch0 ?_
    refine wpAnyH_take (i := 6) (v := .agg (u8s nonce).toArray) rfl (by kernel_rfl) (by kernel_rfl) (by kernel_rfl) (by first | exact fun _ _ _ h => h | exact fun _ _ _ h => nomatch h.1) (yieldsIf_load_mid (by rfl) 28 _ rfl wK.heap.size 0 rfl (u8s nonce) _ (fun w' hw' => (HRN3.out.chg hw' (fun h => h)).range) Try.underlying28 rfl (by rw [u8s_length, HNL.out]; exact sizeN12)) hch0 ?_
    refine wpAnyH_take (i := 7) (v := .slice A' other.length cap') rfl (by kernel_rfl) (by kernel_rfl) (by kernel_rfl) (by first | exact fun _ _ _ h => h | exact fun _ _ _ h => nomatch h.1) (Or.inl ⟨by rfl, fun w_ hw_ => by go_simp⟩) hch0 ?_
    refine wpAnyH_take (i := 8) (v := .slice A'' text.length cap'') rfl (by kernel_rfl) (by kernel_rfl) (by kernel_rfl) (by first | exact fun _ _ _ h => h | exact fun _ _ _ h => nomatch h.1) (Or.inl ⟨by rfl, fun w_ hw_ => by go_simp⟩) hch0 ?_
    try simp only [Act.put, List.setIfInBounds_toArray, List.set_cons_zero, List.set_cons_succ, List.getElem_toArray, List.getElem_cons_succ, List.getElem_cons_zero]
    refine wpAnyH_ready (rs := [4]) (by kernel_rfl) (by simp) ?_
    refine AllReadyH.cons rfl (fun K hK => ?_) AllReadyH.nil
    rw [if_pos (by rfl)]
    try simp only [List.getElem_toArray, List.getElem_cons_succ, List.getElem_cons_zero]
    go_simp
    refine (HS1.out _ (HC3.out.trans hch0)).mono ?_
    rintro e x4 ⟨g1, c1, sp1, rfl, hc1, hr1, hx4⟩
    have hch4 : Chg none_ w3 x4 := hch0.trans hx4
    refine hK.out _ _ (hch4) (fun _ => ?_)
    clear hK K
    try simp only [Act.put, List.setIfInBounds_toArray, List.set_cons_zero, List.set_cons_succ, List.getElem_toArray, List.getElem_cons_succ, List.getElem_cons_zero]
    refine wpAnyH_ready (rs := [9]) (by kernel_rfl) (by simp) ?_
    refine AllReadyH.cons rfl (fun K hK => ?_) AllReadyH.nil
    rw [if_pos (by rfl)]
    try simp only [List.getElem_toArray, List.getElem_cons_succ, List.getElem_cons_zero]
    go_simp
    refine (HS2.out _ (HC3.out.trans hch4)).mono ?_
    rintro e x9 ⟨g2, c2, sp2, rfl, hc2, hr2, hx9⟩
    have hch9 : Chg none_ w3 x9 := hch4.trans hx9
    have hr1b := hr1.chg hx9 (fun h => h)
    refine hK.out _ _ (hch9) (fun _ => ?_)
    clear hK K
    try simp only [Act.put, List.setIfInBounds_toArray, List.set_cons_zero, List.set_cons_succ, List.getElem_toArray, List.getElem_cons_succ, List.getElem_cons_zero]
    refine wpAnyH_take (i := 10) (v := .slice (some ⟨g1, 0, none⟩) (text.length + 16) c1) rfl (by kernel_rfl) (by kernel_rfl) (by kernel_rfl) (by first | exact fun _ _ _ h => h | exact fun _ _ _ h => nomatch h.1) (Or.inl ⟨by rfl, fun w_ hw_ => by go_simp⟩) hch9 ?_
    refine wpAnyH_take (i := 11) (v := .slice (some ⟨g2, 0, none⟩) (text.length + 16) c2) rfl (by kernel_rfl) (by kernel_rfl) (by kernel_rfl) (by first | exact fun _ _ _ h => h | exact fun _ _ _ h => nomatch h.1) (Or.inl ⟨by rfl, fun w_ hw_ => by go_simp⟩) hch9 ?_
    try simp only [Act.put, List.setIfInBounds_toArray, List.set_cons_zero, List.set_cons_succ, List.getElem_toArray, List.getElem_cons_succ, List.getElem_cons_zero]
    refine wpAnyH_done (by kernel_rfl) ?_ _
    have HC9 := Lib.hid (HC3.out.trans hch9)
    have HRK9 := Lib.hid (HRK3.out.chg hch9 (fun h => h))
    have HRN9 := Lib.hid (HRN3.out.chg hch9 (fun h => h))
    have HRA := Lib.hid hr1b
    have HRB := Lib.hid hr2
    have HCA1 := Lib.hid hc1
    have HCB1 := Lib.hid hc2
    clear hch9 hch4 hch0 hr1b hr1 hr2 hc1 hc2 hx4 hx9
    go_wp2
    refine wp_region_held_drew (S := fun w' => Chg none_ x9 w') (by kernel_rfl) ((Chg.refl none_ x9).drew) (fun hch0 => ?_)
    generalize x9.drew = we at hch0 ⊢
    refine wpAnyH_take (i := 0) (v := .agg (u8s key).toArray) rfl (by kernel_rfl) (by kernel_rfl) (by kernel_rfl) (by first | exact fun _ _ _ h => h | exact fun _ _ _ h => nomatch h.1) (yieldsIf_load_mid (by rfl) 22 _ rfl W.heap.size 0 rfl (u8s key) _ (fun w' hw' => (HRK9.out.chg hw' (fun h => h)).range) Try.underlying22 rfl (by rw [u8s_length, HKL.out]; exact size22)) hch0 ?_
    refine wpAnyH_take (i := 1) (v := .agg (u8s nonce).toArray) rfl (by kernel_rfl) (by kernel_rfl) (by kernel_rfl) (by first | exact fun _ _ _ h => h | exact fun _ _ _ h => nomatch h.1) (yieldsIf_load_mid (by rfl) 28 _ rfl wK.heap.size 0 rfl (u8s nonce) _ (fun w' hw' => (HRN9.out.chg hw' (fun h => h)).range) Try.underlying28 rfl (by rw [u8s_length, HNL.out]; exact sizeN12)) hch0 ?_
    refine wpAnyH_take (i := 2) (v := .slice A more.length cap) rfl (by kernel_rfl) (by kernel_rfl) (by kernel_rfl) (by first | exact fun _ _ _ h => h | exact fun _ _ _ h => nomatch h.1) (Or.inl ⟨by rfl, fun w_ hw_ => by go_simp⟩) hch0 ?_
    refine wpAnyH_take (i := 3) (v := .slice A'' text.length cap'') rfl (by kernel_rfl) (by kernel_rfl) (by kernel_rfl) (by first | exact fun _ _ _ h => h | exact fun _ _ _ h => nomatch h.1) (Or.inl ⟨by rfl, fun w_ hw_ => by go_simp⟩) hch0 ?_
    refine wpAnyH_take (i := 4) (v := .int .i64 (text.length : Int)) rfl (by kernel_rfl) (by kernel_rfl) (by kernel_rfl) (by first | exact fun _ _ _ h => h | exact fun _ _ _ h => nomatch h.1) (Or.inl ⟨by rfl, fun w_ hw_ => by go_simp⟩) hch0 ?_
    try simp only [Act.put, List.setIfInBounds_toArray, List.set_cons_zero, List.set_cons_succ, List.getElem_toArray, List.getElem_cons_succ, List.getElem_cons_zero]
    refine wpAnyH_take (i := 5) (v := .int .i64 (hf : Int)) rfl (by kernel_rfl) (by kernel_rfl) (by kernel_rfl) (by first | exact fun _ _ _ h => h | exact fun _ _ _ h => nomatch h.1) (Or.inl ⟨by rfl, fun w_ hw_ => by go_simp; exact HWF.out⟩) hch0 ?_
    try simp only [Act.put, List.setIfInBounds_toArray, List.set_cons_zero, List.set_cons_succ, List.getElem_toArray, List.getElem_cons_succ, List.getElem_cons_zero]
    refine wpAnyH_take (i := 6) (v := .slice (highA A'' cap'') hf cap'') rfl (by kernel_rfl) (by kernel_rfl) (by kernel_rfl) (by first | exact fun _ _ _ h => h | exact fun _ _ _ h => nomatch h.1) (yieldsIf_slice_high (by rfl) 23 5 _ _ rfl A'' (text.length) cap'' (hf) rfl rfl Try.underlying23 size5 (HHC.out)) hch0 ?_
    try simp only [Act.put, List.setIfInBounds_toArray, List.set_cons_zero, List.set_cons_succ, List.getElem_toArray, List.getElem_cons_succ, List.getElem_cons_zero]
    refine wpAnyH_ready (rs := [7]) (by kernel_rfl) (by simp) ?_
    refine AllReadyH.cons rfl (fun K hK => ?_) AllReadyH.nil
    rw [if_pos (by rfl)]
    try simp only [List.getElem_toArray, List.getElem_cons_succ, List.getElem_cons_zero]
    go_simp
    refine (HS3.out _ (HC9.out.trans hch0)).mono ?_
    rintro e x7 ⟨g3, c3, sp3, rfl, hc3, hr3, hx7⟩
    have hch7 : Chg none_ x9 x7 := hch0.trans hx7
    refine hK.out _ _ (hch7) (fun _ => ?_)
    clear hK K
    try simp only [Act.put, List.setIfInBounds_toArray, List.set_cons_zero, List.set_cons_succ, List.getElem_toArray, List.getElem_cons_succ, List.getElem_cons_zero]
    refine wpAnyH_take (i := 8) (v := .slice (some ⟨g3, 0, none⟩) (hf + 16) c3) rfl (by kernel_rfl) (by kernel_rfl) (by kernel_rfl) (by first | exact fun _ _ _ h => h | exact fun _ _ _ h => nomatch h.1) (Or.inl ⟨by rfl, fun w_ hw_ => by go_simp⟩) hch7 ?_
    try simp only [Act.put, List.setIfInBounds_toArray, List.set_cons_zero, List.set_cons_succ, List.getElem_toArray, List.getElem_cons_succ, List.getElem_cons_zero]
    refine wpAnyH_done (by kernel_rfl) ?_ _
    have HC7 := Lib.hid (HC9.out.trans hch7)
    have HRA7 := Lib.hid (HRA.out.chg hch7 (fun h => h))
    have HRB7 := Lib.hid (HRB.out.chg hch7 (fun h => h))
    have HRC := Lib.hid hr3
    have HCC1 := Lib.hid hc3
    clear hch7 hch0 hr3 hc3 hx7
    go_wp2
    refine wp_region_held_drew (S := fun w' => Chg none_ x7 w') (by kernel_rfl) ((Chg.refl none_ x7).drew) (fun hch0 => ?_)
    generalize x7.drew = wf at hch0 ⊢
    refine wpAnyH_take (i := 0) (v := .slice (some ⟨g1, 0, none⟩) (text.length + 16) c1) rfl (by kernel_rfl) (by kernel_rfl) (by kernel_rfl) (by first | exact fun _ _ _ h => h | exact fun _ _ _ h => nomatch h.1) (Or.inl ⟨by rfl, fun w_ hw_ => by go_simp⟩) hch0 ?_
    refine wpAnyH_take (i := 1) (v := .int .i64 (text.length : Int)) rfl (by kernel_rfl) (by kernel_rfl) (by kernel_rfl) (by first | exact fun _ _ _ h => h | exact fun _ _ _ h => nomatch h.1) (Or.inl ⟨by rfl, fun w_ hw_ => by go_simp⟩) hch0 ?_
    refine wpAnyH_take (i := 3) (v := .slice (some ⟨g2, 0, none⟩) (text.length + 16) c2) rfl (by kernel_rfl) (by kernel_rfl) (by kernel_rfl) (by first | exact fun _ _ _ h => h | exact fun _ _ _ h => nomatch h.1) (Or.inl ⟨by rfl, fun w_ hw_ => by go_simp⟩) hch0 ?_
    refine wpAnyH_take (i := 4) (v := .int .i64 (text.length : Int)) rfl (by kernel_rfl) (by kernel_rfl) (by kernel_rfl) (by first | exact fun _ _ _ h => h | exact fun _ _ _ h => nomatch h.1) (Or.inl ⟨by rfl, fun w_ hw_ => by go_simp⟩) hch0 ?_
    try simp only [Act.put, List.setIfInBounds_toArray, List.set_cons_zero, List.set_cons_succ, List.getElem_toArray, List.getElem_cons_succ, List.getElem_cons_zero]
    refine wpAnyH_take (i := 2) (v := .slice (highA (some ⟨g1, 0, none⟩) c1) text.length c1) rfl (by kernel_rfl) (by kernel_rfl) (by kernel_rfl) (by first | exact fun _ _ _ h => h | exact fun _ _ _ h => nomatch h.1) (yieldsIf_slice_high (by rfl) 23 5 _ _ rfl (some ⟨g1, 0, none⟩) ((text.length + 16)) c1 (text.length) rfl rfl Try.underlying23 size5 (by have := HCA1.out; omega)) hch0 ?_
    refine wpAnyH_take (i := 5) (v := .slice (highA (some ⟨g2, 0, none⟩) c2) text.length c2) rfl (by kernel_rfl) (by kernel_rfl) (by kernel_rfl) (by first | exact fun _ _ _ h => h | exact fun _ _ _ h => nomatch h.1) (yieldsIf_slice_high (by rfl) 23 5 _ _ rfl (some ⟨g2, 0, none⟩) ((text.length + 16)) c2 (text.length) rfl rfl Try.underlying23 size5 (by have := HCB1.out; omega)) hch0 ?_
    try simp only [Act.put, List.setIfInBounds_toArray, List.set_cons_zero, List.set_cons_succ, List.getElem_toArray, List.getElem_cons_succ, List.getElem_cons_zero]
    refine wpAnyH_ready (rs := [6]) (by kernel_rfl) (by simp) ?_
    refine AllReadyH.cons rfl (fun K hK => ?_) AllReadyH.nil
    rw [if_pos (by rfl)]
    try simp only [List.getElem_toArray, List.getElem_cons_succ, List.getElem_cons_zero]
    go_simp
    refine (HM1.out _ _ _ _ _ _ _ (HRA7.out.chg hch0 (fun h => h)) (HRB7.out.chg hch0 (fun h => h))).mono ?_
    rintro e y6 ⟨rfl, k6, hk6⟩
    have hch6 : Chg none_ x7 y6 := by rw [hk6]; exact (hch0).drewN _
    clear hk6
    refine hK.out _ _ (hch6) (fun _ => ?_)
    clear hK K
    try simp only [Act.put, List.setIfInBounds_toArray, List.set_cons_zero, List.set_cons_succ, List.getElem_toArray, List.getElem_cons_succ, List.getElem_cons_zero]
    refine wpAnyH_take (i := 7) (v := .bool true) rfl (by kernel_rfl) (by kernel_rfl) (by kernel_rfl) (by first | exact fun _ _ _ h => h | exact fun _ _ _ h => nomatch h.1) (Or.inl ⟨by rfl, fun w_ hw_ => by go_simp⟩) hch6 ?_
    try simp only [Act.put, List.setIfInBounds_toArray, List.set_cons_zero, List.set_cons_succ, List.getElem_toArray, List.getElem_cons_succ, List.getElem_cons_zero]
    refine wpAnyH_take (i := 8) (v := .slice (some ⟨g3, 0, none⟩) (hf + 16) c3) rfl (by kernel_rfl) (by kernel_rfl) (by kernel_rfl) (by first | exact fun _ _ _ h => h | exact fun _ _ _ h => nomatch h.1) (Or.inl ⟨by rfl, fun w_ hw_ => by go_simp⟩) hch6 ?_
    refine wpAnyH_take (i := 9) (v := .int .i64 (text.length : Int)) rfl (by kernel_rfl) (by kernel_rfl) (by kernel_rfl) (by first | exact fun _ _ _ h => h | exact fun _ _ _ h => nomatch h.1) (Or.inl ⟨by rfl, fun w_ hw_ => by go_simp⟩) hch6 ?_
    refine wpAnyH_take (i := 12) (v := .slice (some ⟨g1, 0, none⟩) (text.length + 16) c1) rfl (by kernel_rfl) (by kernel_rfl) (by kernel_rfl) (by first | exact fun _ _ _ h => h | exact fun _ _ _ h => nomatch h.1) (Or.inl ⟨by rfl, fun w_ hw_ => by go_simp⟩) hch6 ?_
    refine wpAnyH_take (i := 13) (v := .int .i64 (text.length : Int)) rfl (by kernel_rfl) (by kernel_rfl) (by kernel_rfl) (by first | exact fun _ _ _ h => h | exact fun _ _ _ h => nomatch h.1) (Or.inl ⟨by rfl, fun w_ hw_ => by go_simp⟩) hch6 ?_
    try simp only [Act.put, List.setIfInBounds_toArray, List.set_cons_zero, List.set_cons_succ, List.getElem_toArray, List.getElem_cons_succ, List.getElem_cons_zero]
    refine wpAnyH_take (i := 10) (v := .int .i64 (hf : Int)) rfl (by kernel_rfl) (by kernel_rfl) (by kernel_rfl) (by first | exact fun _ _ _ h => h | exact fun _ _ _ h => nomatch h.1) (Or.inl ⟨by rfl, fun w_ hw_ => by go_simp; exact HWF.out⟩) hch6 ?_
    refine wpAnyH_take (i := 14) (v := .int .i64 (hf : Int)) rfl (by kernel_rfl) (by kernel_rfl) (by kernel_rfl) (by first | exact fun _ _ _ h => h | exact fun _ _ _ h => nomatch h.1) (Or.inl ⟨by rfl, fun w_ hw_ => by go_simp; exact HWF.out⟩) hch6 ?_
    try simp only [Act.put, List.setIfInBounds_toArray, List.set_cons_zero, List.set_cons_succ, List.getElem_toArray, List.getElem_cons_succ, List.getElem_cons_zero]
    refine wpAnyH_take (i := 11) (v := .slice (highA (some ⟨g3, 0, none⟩) c3) hf c3) rfl (by kernel_rfl) (by kernel_rfl) (by kernel_rfl) (by first | exact fun _ _ _ h => h | exact fun _ _ _ h => nomatch h.1) (yieldsIf_slice_high (by rfl) 23 5 _ _ rfl (some ⟨g3, 0, none⟩) (hf + 16) c3 (hf) rfl rfl Try.underlying23 size5 (by have := HCC1.out; omega)) hch6 ?_
    refine wpAnyH_take (i := 15) (v := .slice (highA (some ⟨g1, 0, none⟩) c1) hf c1) rfl (by kernel_rfl) (by kernel_rfl) (by kernel_rfl) (by first | exact fun _ _ _ h => h | exact fun _ _ _ h => nomatch h.1) (yieldsIf_slice_high (by rfl) 23 5 _ _ rfl (some ⟨g1, 0, none⟩) ((text.length + 16)) c1 (hf) rfl rfl Try.underlying23 size5 (by have := HCA1.out; have := HHF.out; omega)) hch6 ?_
    try simp only [Act.put, List.setIfInBounds_toArray, List.set_cons_zero, List.set_cons_succ, List.getElem_toArray, List.getElem_cons_succ, List.getElem_cons_zero]
    refine wpAnyH_ready (rs := [16]) (by kernel_rfl) (by simp) ?_
    refine AllReadyH.cons rfl (fun K hK => ?_) AllReadyH.nil
    rw [if_pos (by rfl)]
    try simp only [List.getElem_toArray, List.getElem_cons_succ, List.getElem_cons_zero]
    go_simp
    refine (HM2.out _ _ _ _ _ _ _ (HRC.out.chg hch6 (fun h => h)) (HRA7.out.chg hch6 (fun h => h))).mono ?_
    rintro e y16 ⟨rfl, k16, hk16⟩
    have hch16 : Chg none_ x7 y16 := by rw [hk16]; exact (hch6).drewN _
    clear hk16
    refine hK.out _ _ (hch16) (fun _ => ?_)
    clear hK K
    try simp only [Act.put, List.setIfInBounds_toArray, List.set_cons_zero, List.set_cons_succ, List.getElem_toArray, List.getElem_cons_succ, List.getElem_cons_zero]
    refine wpAnyH_take (i := 17) (v := .bool true) rfl (by kernel_rfl) (by kernel_rfl) (by kernel_rfl) (by first | exact fun _ _ _ h => h | exact fun _ _ _ h => nomatch h.1) (Or.inl ⟨by rfl, fun w_ hw_ => by go_simp⟩) hch16 ?_
    try simp only [Act.put, List.setIfInBounds_toArray, List.set_cons_zero, List.set_cons_succ, List.getElem_toArray, List.getElem_cons_succ, List.getElem_cons_zero]
    refine wpAnyH_take (i := 18) (v := .bool true) rfl (by kernel_rfl) (by kernel_rfl) (by kernel_rfl) (by first | exact fun _ _ _ h => h | exact fun _ _ _ h => nomatch h.1) (Or.inl ⟨by rfl, fun w_ hw_ => by go_simp⟩) hch16 ?_
    try simp only [Act.put, List.setIfInBounds_toArray, List.set_cons_zero, List.set_cons_succ, List.getElem_toArray, List.getElem_cons_succ, List.getElem_cons_zero]
    refine wpAnyH_take (i := 19) (v := .slice A more.length cap) rfl (by kernel_rfl) (by kernel_rfl) (by kernel_rfl) (by first | exact fun _ _ _ h => h | exact fun _ _ _ h => nomatch h.1) (Or.inl ⟨by rfl, fun w_ hw_ => by go_simp⟩) hch16 ?_
    refine wpAnyH_take (i := 20) (v := .slice A' other.length cap') rfl (by kernel_rfl) (by kernel_rfl) (by kernel_rfl) (by first | exact fun _ _ _ h => h | exact fun _ _ _ h => nomatch h.1) (Or.inl ⟨by rfl, fun w_ hw_ => by go_simp⟩) hch16 ?_
    try simp only [Act.put, List.setIfInBounds_toArray, List.set_cons_zero, List.set_cons_succ, List.getElem_toArray, List.getElem_cons_succ, List.getElem_cons_zero]
    refine wpAnyH_ready (rs := [21]) (by kernel_rfl) (by simp) ?_
    refine AllReadyH.cons rfl (fun K hK => ?_) AllReadyH.nil
    rw [if_pos (by rfl)]
    try simp only [List.getElem_toArray, List.getElem_cons_succ, List.getElem_cons_zero]
    go_simp
    refine (HM3.out _ (HC7.out.trans hch16)).mono ?_
    rintro e y21 ⟨rfl, k21, hk21⟩
    have hch21 : Chg none_ x7 y21 := by rw [hk21]; exact (hch16).drewN _
    clear hk21
    refine hK.out _ _ (hch21) (fun _ => ?_)
    clear hK K
    try simp only [Act.put, List.setIfInBounds_toArray, List.set_cons_zero, List.set_cons_succ, List.getElem_toArray, List.getElem_cons_succ, List.getElem_cons_zero]
    refine wpAnyH_take (i := 22) (v := .bool false) rfl (by kernel_rfl) (by kernel_rfl) (by kernel_rfl) (by first | exact fun _ _ _ h => h | exact fun _ _ _ h => nomatch h.1) (Or.inl ⟨by rfl, fun w_ hw_ => by go_simp⟩) hch21 ?_
    try simp only [Act.put, List.setIfInBounds_toArray, List.set_cons_zero, List.set_cons_succ, List.getElem_toArray, List.getElem_cons_succ, List.getElem_cons_zero]
    refine wpAnyH_take (i := 23) (v := .bool false) rfl (by kernel_rfl) (by kernel_rfl) (by kernel_rfl) (by first | exact fun _ _ _ h => h | exact fun _ _ _ h => nomatch h.1) (Or.inl ⟨by rfl, fun w_ hw_ => by go_simp⟩) hch21 ?_
    try simp only [Act.put, List.setIfInBounds_toArray, List.set_cons_zero, List.set_cons_succ, List.getElem_toArray, List.getElem_cons_succ, List.getElem_cons_zero]
    refine wpAnyH_take (i := 24) (v := .slice (some ⟨g1, 0, none⟩) (text.length + 16) c1) rfl (by kernel_rfl) (by kernel_rfl) (by kernel_rfl) (by first | exact fun _ _ _ h => h | exact fun _ _ _ h => nomatch h.1) (Or.inl ⟨by rfl, fun w_ hw_ => by go_simp⟩) hch21 ?_
    refine wpAnyH_take (i := 25) (v := .slice (some ⟨g2, 0, none⟩) (text.length + 16) c2) rfl (by kernel_rfl) (by kernel_rfl) (by kernel_rfl) (by first | exact fun _ _ _ h => h | exact fun _ _ _ h => nomatch h.1) (Or.inl ⟨by rfl, fun w_ hw_ => by go_simp⟩) hch21 ?_
    try simp only [Act.put, List.setIfInBounds_toArray, List.set_cons_zero, List.set_cons_succ, List.getElem_toArray, List.getElem_cons_succ, List.getElem_cons_zero]
    refine wpAnyH_ready (rs := [26]) (by kernel_rfl) (by simp) ?_
    refine AllReadyH.cons rfl (fun K hK => ?_) AllReadyH.nil
    rw [if_pos (by rfl)]
    try simp only [List.getElem_toArray, List.getElem_cons_succ, List.getElem_cons_zero]
    go_simp
    refine (HM4.out _ _ _ _ _ _ _ (HRA7.out.chg hch21 (fun h => h)) (HRB7.out.chg hch21 (fun h => h))).mono ?_
    rintro e y26 ⟨rfl, k26, hk26⟩
    have hch26 : Chg none_ x7 y26 := by rw [hk26]; exact (hch21).drewN _
    clear hk26
    refine hK.out _ _ (hch26) (fun _ => ?_)
    clear hK K
    try simp only [Act.put, List.setIfInBounds_toArray, List.set_cons_zero, List.set_cons_succ, List.getElem_toArray, List.getElem_cons_succ, List.getElem_cons_zero]
    refine wpAnyH_take (i := 27) (v := .bool true) rfl (by kernel_rfl) (by kernel_rfl) (by kernel_rfl) (by first | exact fun _ _ _ h => h | exact fun _ _ _ h => nomatch h.1) (Or.inl ⟨by rfl, fun w_ hw_ => by go_simp⟩) hch26 ?_
    try simp only [Act.put, List.setIfInBounds_toArray, List.set_cons_zero, List.set_cons_succ, List.getElem_toArray, List.getElem_cons_succ, List.getElem_cons_zero]
    refine wpAnyH_take (i := 28) (v := .bool true) rfl (by kernel_rfl) (by kernel_rfl) (by kernel_rfl) (by first | exact fun _ _ _ h => h | exact fun _ _ _ h => nomatch h.1) (Or.inl ⟨by rfl, fun w_ hw_ => by go_simp⟩) hch26 ?_
    try simp only [Act.put, List.setIfInBounds_toArray, List.set_cons_zero, List.set_cons_succ, List.getElem_toArray, List.getElem_cons_succ, List.getElem_cons_zero]
    refine wpAnyH_take (i := 29) (v := .bool true) rfl (by kernel_rfl) (by kernel_rfl) (by kernel_rfl) (by first | exact fun _ _ _ h => h | exact fun _ _ _ h => nomatch h.1) (Or.inl ⟨by rfl, fun w_ hw_ => by go_simp⟩) hch26 ?_
    try simp only [Act.put, List.setIfInBounds_toArray, List.set_cons_zero, List.set_cons_succ, List.getElem_toArray, List.getElem_cons_succ, List.getElem_cons_zero]
    refine wpAnyH_done (by kernel_rfl) ?_ _
    go_wp2
    go_ret
    exact ⟨rfl, HC7.out.trans hch26⟩
  · rw [decide_eq_false hmo] at HM3
    have hml : more.length ≤ 100 := by omega
    have hol : other.length ≤ 100 := by omega
    have htl2 : text.length ≤ 100 := by omega
    clear hk hkb hn hnb hv hmb hv' hob hv'' htb hcap hmax hcap' hmax' hcap'' hmax'' hmx hmx' hmx'' hlong hlong' hlong'' ha1 hb1 hc1 hab hca hse hmo hhf htl
    go_enter Try.func7, Try.ntmps7
    go_wp2_with (first | ((with_reducible show wpList _ _ _ (⟨some 5, .box 22 _, _, _, _, _⟩ :: _) _ _); refine wpList_box_Row rfl rfl (u8s key) rfl ?_; intro wK hrK hcK hsK; have HRK := Lib.hid hrK; have HCK := Lib.hid hcK; clear hrK hcK hsK) | ((with_reducible show wpList _ _ _ (⟨some 6, .box 28 _, _, _, _, _⟩ :: _) _ _); refine wpList_box_Row rfl rfl (u8s nonce) rfl ?_; intro wN hrN hcN hsN; have HRN := Lib.hid hrN; have HCN := Lib.hid (HCK.out.trans hcN); have HRK1 := Lib.hid (HRK.out.chg hcN (fun h => h)); clear hrN hcN hsN) | (go_at_call 9; refine (alive_any _).mono ?_; rintro e w3 ⟨rfl, hc3⟩; have HC3 := Lib.hid (HCN.out.trans hc3); have HRK3 := Lib.hid (HRK1.out.chg hc3 (fun h => h)); have HRN3 := Lib.hid (HRN.out.chg hc3 (fun h => h)); clear hc3))
    refine wp_region_held_drew (S := fun w' => Chg none_ w3 w') (by kernel_rfl) ((Chg.refl none_ w3).drew) (fun hch0 => ?_)
    generalize w3.drew = wd at hch0 ⊢
    refine wpAnyH_take (i := 0) (v := .agg (u8s key).toArray) rfl (by kernel_rfl) (by kernel_rfl) (by kernel_rfl) (by first | exact fun _ _ _ h => h | exact fun _ _ _ h => nomatch h.1) (yieldsIf_load_mid (by rfl) 22 _ rfl W.heap.size 0 rfl (u8s key) _ (fun w' hw' => (HRK3.out.chg hw' (fun h => h)).range) Try.underlying22 rfl (by rw [u8s_length, HKL.out]; exact size22)) hch0 ?_
    refine wpAnyH_take (i := 1) (v := .agg (u8s nonce).toArray) rfl (by kernel_rfl) (by kernel_rfl) (by kernel_rfl) (by first | exact fun _ _ _ h => h | exact fun _ _ _ h => nomatch h.1) (yieldsIf_load_mid (by rfl) 28 _ rfl wK.heap.size 0 rfl (u8s nonce) _ (fun w' hw' => (HRN3.out.chg hw' (fun h => h)).range) Try.underlying28 rfl (by rw [u8s_length, HNL.out]; exact sizeN12)) hch0 ?_
    refine wpAnyH_take (i := 2) (v := .slice A more.length cap) rfl (by kernel_rfl) (by kernel_rfl) (by kernel_rfl) (by first | exact fun _ _ _ h => h | exact fun _ _ _ h => nomatch h.1) (Or.inl ⟨by rfl, fun w_ hw_ => by go_simp⟩) hch0 ?_
    refine wpAnyH_take (i := 3) (v := .slice A'' text.length cap'') rfl (by kernel_rfl) (by kernel_rfl) (by kernel_rfl) (by first | exact fun _ _ _ h => h | exact fun _ _ _ h => nomatch h.1) (Or.inl ⟨by rfl, fun w_ hw_ => by go_simp⟩) hch0 ?_
    refine wpAnyH_take (i := 5) (v := .agg (u8s key).toArray) rfl (by kernel_rfl) (by kernel_rfl) (by kernel_rfl) (by first | exact fun _ _ _ h => h | exact fun _ _ _ h => nomatch h.1) (yieldsIf_load_mid (by rfl) 22 _ rfl W.heap.size 0 rfl (u8s key) _ (fun w' hw' => (HRK3.out.chg hw' (fun h => h)).range) Try.underlying22 rfl (by rw [u8s_length, HKL.out]; exact size22)) hch0 ?_
    refine wpAnyH_take (i := 6) (v := .agg (u8s nonce).toArray) rfl (by kernel_rfl) (by kernel_rfl) (by kernel_rfl) (by first | exact fun _ _ _ h => h | exact fun _ _ _ h => nomatch h.1) (yieldsIf_load_mid (by rfl) 28 _ rfl wK.heap.size 0 rfl (u8s nonce) _ (fun w' hw' => (HRN3.out.chg hw' (fun h => h)).range) Try.underlying28 rfl (by rw [u8s_length, HNL.out]; exact sizeN12)) hch0 ?_
    refine wpAnyH_take (i := 7) (v := .slice A' other.length cap') rfl (by kernel_rfl) (by kernel_rfl) (by kernel_rfl) (by first | exact fun _ _ _ h => h | exact fun _ _ _ h => nomatch h.1) (Or.inl ⟨by rfl, fun w_ hw_ => by go_simp⟩) hch0 ?_
    refine wpAnyH_take (i := 8) (v := .slice A'' text.length cap'') rfl (by kernel_rfl) (by kernel_rfl) (by kernel_rfl) (by first | exact fun _ _ _ h => h | exact fun _ _ _ h => nomatch h.1) (Or.inl ⟨by rfl, fun w_ hw_ => by go_simp⟩) hch0 ?_
    try simp only [Act.put, List.setIfInBounds_toArray, List.set_cons_zero, List.set_cons_succ, List.getElem_toArray, List.getElem_cons_succ, List.getElem_cons_zero]
    refine wpAnyH_ready (rs := [4]) (by kernel_rfl) (by simp) ?_
    refine AllReadyH.cons rfl (fun K hK => ?_) AllReadyH.nil
    rw [if_pos (by rfl)]
    try simp only [List.getElem_toArray, List.getElem_cons_succ, List.getElem_cons_zero]
    go_simp
    refine (HS1.out _ (HC3.out.trans hch0)).mono ?_
    rintro e x4 ⟨g1, c1, sp1, rfl, hc1, hr1, hx4⟩
    have hch4 : Chg none_ w3 x4 := hch0.trans hx4
    refine hK.out _ _ (hch4) (fun _ => ?_)
    clear hK K
    try simp only [Act.put, List.setIfInBounds_toArray, List.set_cons_zero, List.set_cons_succ, List.getElem_toArray, List.getElem_cons_succ, List.getElem_cons_zero]
    refine wpAnyH_ready (rs := [9]) (by kernel_rfl) (by simp) ?_
    refine AllReadyH.cons rfl (fun K hK => ?_) AllReadyH.nil
    rw [if_pos (by rfl)]
    try simp only [List.getElem_toArray, List.getElem_cons_succ, List.getElem_cons_zero]
    go_simp
    refine (HS2.out _ (HC3.out.trans hch4)).mono ?_
    rintro e x9 ⟨g2, c2, sp2, rfl, hc2, hr2, hx9⟩
    have hch9 : Chg none_ w3 x9 := hch4.trans hx9
    have hr1b := hr1.chg hx9 (fun h => h)
    refine hK.out _ _ (hch9) (fun _ => ?_)
    clear hK K
    try simp only [Act.put, List.setIfInBounds_toArray, List.set_cons_zero, List.set_cons_succ, List.getElem_toArray, List.getElem_cons_succ, List.getElem_cons_zero]
    refine wpAnyH_take (i := 10) (v := .slice (some ⟨g1, 0, none⟩) (text.length + 16) c1) rfl (by kernel_rfl) (by kernel_rfl) (by kernel_rfl) (by first | exact fun _ _ _ h => h | exact fun _ _ _ h => nomatch h.1) (Or.inl ⟨by rfl, fun w_ hw_ => by go_simp⟩) hch9 ?_
    refine wpAnyH_take (i := 11) (v := .slice (some ⟨g2, 0, none⟩) (text.length + 16) c2) rfl (by kernel_rfl) (by kernel_rfl) (by kernel_rfl) (by first | exact fun _ _ _ h => h | exact fun _ _ _ h => nomatch h.1) (Or.inl ⟨by rfl, fun w_ hw_ => by go_simp⟩) hch9 ?_
    try simp only [Act.put, List.setIfInBounds_toArray, List.set_cons_zero, List.set_cons_succ, List.getElem_toArray, List.getElem_cons_succ, List.getElem_cons_zero]
    refine wpAnyH_done (by kernel_rfl) ?_ _
    have HC9 := Lib.hid (HC3.out.trans hch9)
    have HRK9 := Lib.hid (HRK3.out.chg hch9 (fun h => h))
    have HRN9 := Lib.hid (HRN3.out.chg hch9 (fun h => h))
    have HRA := Lib.hid hr1b
    have HRB := Lib.hid hr2
    have HCA1 := Lib.hid hc1
    have HCB1 := Lib.hid hc2
    clear hch9 hch4 hch0 hr1b hr1 hr2 hc1 hc2 hx4 hx9
    go_wp2
    refine wp_region_held_drew (S := fun w' => Chg none_ x9 w') (by kernel_rfl) ((Chg.refl none_ x9).drew) (fun hch0 => ?_)
    generalize x9.drew = we at hch0 ⊢
    refine wpAnyH_take (i := 0) (v := .agg (u8s key).toArray) rfl (by kernel_rfl) (by kernel_rfl) (by kernel_rfl) (by first | exact fun _ _ _ h => h | exact fun _ _ _ h => nomatch h.1) (yieldsIf_load_mid (by rfl) 22 _ rfl W.heap.size 0 rfl (u8s key) _ (fun w' hw' => (HRK9.out.chg hw' (fun h => h)).range) Try.underlying22 rfl (by rw [u8s_length, HKL.out]; exact size22)) hch0 ?_
    refine wpAnyH_take (i := 1) (v := .agg (u8s nonce).toArray) rfl (by kernel_rfl) (by kernel_rfl) (by kernel_rfl) (by first | exact fun _ _ _ h => h | exact fun _ _ _ h => nomatch h.1) (yieldsIf_load_mid (by rfl) 28 _ rfl wK.heap.size 0 rfl (u8s nonce) _ (fun w' hw' => (HRN9.out.chg hw' (fun h => h)).range) Try.underlying28 rfl (by rw [u8s_length, HNL.out]; exact sizeN12)) hch0 ?_
    refine wpAnyH_take (i := 2) (v := .slice A more.length cap) rfl (by kernel_rfl) (by kernel_rfl) (by kernel_rfl) (by first | exact fun _ _ _ h => h | exact fun _ _ _ h => nomatch h.1) (Or.inl ⟨by rfl, fun w_ hw_ => by go_simp⟩) hch0 ?_
    refine wpAnyH_take (i := 3) (v := .slice A'' text.length cap'') rfl (by kernel_rfl) (by kernel_rfl) (by kernel_rfl) (by first | exact fun _ _ _ h => h | exact fun _ _ _ h => nomatch h.1) (Or.inl ⟨by rfl, fun w_ hw_ => by go_simp⟩) hch0 ?_
    refine wpAnyH_take (i := 4) (v := .int .i64 (text.length : Int)) rfl (by kernel_rfl) (by kernel_rfl) (by kernel_rfl) (by first | exact fun _ _ _ h => h | exact fun _ _ _ h => nomatch h.1) (Or.inl ⟨by rfl, fun w_ hw_ => by go_simp⟩) hch0 ?_
    try simp only [Act.put, List.setIfInBounds_toArray, List.set_cons_zero, List.set_cons_succ, List.getElem_toArray, List.getElem_cons_succ, List.getElem_cons_zero]
    refine wpAnyH_take (i := 5) (v := .int .i64 (hf : Int)) rfl (by kernel_rfl) (by kernel_rfl) (by kernel_rfl) (by first | exact fun _ _ _ h => h | exact fun _ _ _ h => nomatch h.1) (Or.inl ⟨by rfl, fun w_ hw_ => by go_simp; exact HWF.out⟩) hch0 ?_
    try simp only [Act.put, List.setIfInBounds_toArray, List.set_cons_zero, List.set_cons_succ, List.getElem_toArray, List.getElem_cons_succ, List.getElem_cons_zero]
    refine wpAnyH_take (i := 6) (v := .slice (highA A'' cap'') hf cap'') rfl (by kernel_rfl) (by kernel_rfl) (by kernel_rfl) (by first | exact fun _ _ _ h => h | exact fun _ _ _ h => nomatch h.1) (yieldsIf_slice_high (by rfl) 23 5 _ _ rfl A'' (text.length) cap'' (hf) rfl rfl Try.underlying23 size5 (HHC.out)) hch0 ?_
    try simp only [Act.put, List.setIfInBounds_toArray, List.set_cons_zero, List.set_cons_succ, List.getElem_toArray, List.getElem_cons_succ, List.getElem_cons_zero]
    refine wpAnyH_ready (rs := [7]) (by kernel_rfl) (by simp) ?_
    refine AllReadyH.cons rfl (fun K hK => ?_) AllReadyH.nil
    rw [if_pos (by rfl)]
    try simp only [List.getElem_toArray, List.getElem_cons_succ, List.getElem_cons_zero]
    go_simp
    refine (HS3.out _ (HC9.out.trans hch0)).mono ?_
    rintro e x7 ⟨g3, c3, sp3, rfl, hc3, hr3, hx7⟩
    have hch7 : Chg none_ x9 x7 := hch0.trans hx7
    refine hK.out _ _ (hch7) (fun _ => ?_)
    clear hK K
    try simp only [Act.put, List.setIfInBounds_toArray, List.set_cons_zero, List.set_cons_succ, List.getElem_toArray, List.getElem_cons_succ, List.getElem_cons_zero]
    refine wpAnyH_take (i := 8) (v := .slice (some ⟨g3, 0, none⟩) (hf + 16) c3) rfl (by kernel_rfl) (by kernel_rfl) (by kernel_rfl) (by first | exact fun _ _ _ h => h | exact fun _ _ _ h => nomatch h.1) (Or.inl ⟨by rfl, fun w_ hw_ => by go_simp⟩) hch7 ?_
    try simp only [Act.put, List.setIfInBounds_toArray, List.set_cons_zero, List.set_cons_succ, List.getElem_toArray, List.getElem_cons_succ, List.getElem_cons_zero]
    refine wpAnyH_done (by kernel_rfl) ?_ _
    have HC7 := Lib.hid (HC9.out.trans hch7)
    have HRA7 := Lib.hid (HRA.out.chg hch7 (fun h => h))
    have HRB7 := Lib.hid (HRB.out.chg hch7 (fun h => h))
    have HRC := Lib.hid hr3
    have HCC1 := Lib.hid hc3
    clear hch7 hch0 hr3 hc3 hx7
    go_wp2
    refine wp_region_held_drew (S := fun w' => Chg none_ x7 w') (by kernel_rfl) ((Chg.refl none_ x7).drew) (fun hch0 => ?_)
    generalize x7.drew = wf at hch0 ⊢
    refine wpAnyH_take (i := 0) (v := .slice (some ⟨g1, 0, none⟩) (text.length + 16) c1) rfl (by kernel_rfl) (by kernel_rfl) (by kernel_rfl) (by first | exact fun _ _ _ h => h | exact fun _ _ _ h => nomatch h.1) (Or.inl ⟨by rfl, fun w_ hw_ => by go_simp⟩) hch0 ?_
    refine wpAnyH_take (i := 1) (v := .int .i64 (text.length : Int)) rfl (by kernel_rfl) (by kernel_rfl) (by kernel_rfl) (by first | exact fun _ _ _ h => h | exact fun _ _ _ h => nomatch h.1) (Or.inl ⟨by rfl, fun w_ hw_ => by go_simp⟩) hch0 ?_
    refine wpAnyH_take (i := 3) (v := .slice (some ⟨g2, 0, none⟩) (text.length + 16) c2) rfl (by kernel_rfl) (by kernel_rfl) (by kernel_rfl) (by first | exact fun _ _ _ h => h | exact fun _ _ _ h => nomatch h.1) (Or.inl ⟨by rfl, fun w_ hw_ => by go_simp⟩) hch0 ?_
    refine wpAnyH_take (i := 4) (v := .int .i64 (text.length : Int)) rfl (by kernel_rfl) (by kernel_rfl) (by kernel_rfl) (by first | exact fun _ _ _ h => h | exact fun _ _ _ h => nomatch h.1) (Or.inl ⟨by rfl, fun w_ hw_ => by go_simp⟩) hch0 ?_
    try simp only [Act.put, List.setIfInBounds_toArray, List.set_cons_zero, List.set_cons_succ, List.getElem_toArray, List.getElem_cons_succ, List.getElem_cons_zero]
    refine wpAnyH_take (i := 2) (v := .slice (highA (some ⟨g1, 0, none⟩) c1) text.length c1) rfl (by kernel_rfl) (by kernel_rfl) (by kernel_rfl) (by first | exact fun _ _ _ h => h | exact fun _ _ _ h => nomatch h.1) (yieldsIf_slice_high (by rfl) 23 5 _ _ rfl (some ⟨g1, 0, none⟩) ((text.length + 16)) c1 (text.length) rfl rfl Try.underlying23 size5 (by have := HCA1.out; omega)) hch0 ?_
    refine wpAnyH_take (i := 5) (v := .slice (highA (some ⟨g2, 0, none⟩) c2) text.length c2) rfl (by kernel_rfl) (by kernel_rfl) (by kernel_rfl) (by first | exact fun _ _ _ h => h | exact fun _ _ _ h => nomatch h.1) (yieldsIf_slice_high (by rfl) 23 5 _ _ rfl (some ⟨g2, 0, none⟩) ((text.length + 16)) c2 (text.length) rfl rfl Try.underlying23 size5 (by have := HCB1.out; omega)) hch0 ?_
    try simp only [Act.put, List.setIfInBounds_toArray, List.set_cons_zero, List.set_cons_succ, List.getElem_toArray, List.getElem_cons_succ, List.getElem_cons_zero]
    refine wpAnyH_ready (rs := [6]) (by kernel_rfl) (by simp) ?_
    refine AllReadyH.cons rfl (fun K hK => ?_) AllReadyH.nil
    rw [if_pos (by rfl)]
    try simp only [List.getElem_toArray, List.getElem_cons_succ, List.getElem_cons_zero]
    go_simp
    refine (HM1.out _ _ _ _ _ _ _ (HRA7.out.chg hch0 (fun h => h)) (HRB7.out.chg hch0 (fun h => h))).mono ?_
    rintro e y6 ⟨rfl, k6, hk6⟩
    have hch6 : Chg none_ x7 y6 := by rw [hk6]; exact (hch0).drewN _
    clear hk6
    refine hK.out _ _ (hch6) (fun _ => ?_)
    clear hK K
    try simp only [Act.put, List.setIfInBounds_toArray, List.set_cons_zero, List.set_cons_succ, List.getElem_toArray, List.getElem_cons_succ, List.getElem_cons_zero]
    refine wpAnyH_take (i := 7) (v := .bool true) rfl (by kernel_rfl) (by kernel_rfl) (by kernel_rfl) (by first | exact fun _ _ _ h => h | exact fun _ _ _ h => nomatch h.1) (Or.inl ⟨by rfl, fun w_ hw_ => by go_simp⟩) hch6 ?_
    try simp only [Act.put, List.setIfInBounds_toArray, List.set_cons_zero, List.set_cons_succ, List.getElem_toArray, List.getElem_cons_succ, List.getElem_cons_zero]
    refine wpAnyH_take (i := 8) (v := .slice (some ⟨g3, 0, none⟩) (hf + 16) c3) rfl (by kernel_rfl) (by kernel_rfl) (by kernel_rfl) (by first | exact fun _ _ _ h => h | exact fun _ _ _ h => nomatch h.1) (Or.inl ⟨by rfl, fun w_ hw_ => by go_simp⟩) hch6 ?_
    refine wpAnyH_take (i := 9) (v := .int .i64 (text.length : Int)) rfl (by kernel_rfl) (by kernel_rfl) (by kernel_rfl) (by first | exact fun _ _ _ h => h | exact fun _ _ _ h => nomatch h.1) (Or.inl ⟨by rfl, fun w_ hw_ => by go_simp⟩) hch6 ?_
    refine wpAnyH_take (i := 12) (v := .slice (some ⟨g1, 0, none⟩) (text.length + 16) c1) rfl (by kernel_rfl) (by kernel_rfl) (by kernel_rfl) (by first | exact fun _ _ _ h => h | exact fun _ _ _ h => nomatch h.1) (Or.inl ⟨by rfl, fun w_ hw_ => by go_simp⟩) hch6 ?_
    refine wpAnyH_take (i := 13) (v := .int .i64 (text.length : Int)) rfl (by kernel_rfl) (by kernel_rfl) (by kernel_rfl) (by first | exact fun _ _ _ h => h | exact fun _ _ _ h => nomatch h.1) (Or.inl ⟨by rfl, fun w_ hw_ => by go_simp⟩) hch6 ?_
    try simp only [Act.put, List.setIfInBounds_toArray, List.set_cons_zero, List.set_cons_succ, List.getElem_toArray, List.getElem_cons_succ, List.getElem_cons_zero]
    refine wpAnyH_take (i := 10) (v := .int .i64 (hf : Int)) rfl (by kernel_rfl) (by kernel_rfl) (by kernel_rfl) (by first | exact fun _ _ _ h => h | exact fun _ _ _ h => nomatch h.1) (Or.inl ⟨by rfl, fun w_ hw_ => by go_simp; exact HWF.out⟩) hch6 ?_
    refine wpAnyH_take (i := 14) (v := .int .i64 (hf : Int)) rfl (by kernel_rfl) (by kernel_rfl) (by kernel_rfl) (by first | exact fun _ _ _ h => h | exact fun _ _ _ h => nomatch h.1) (Or.inl ⟨by rfl, fun w_ hw_ => by go_simp; exact HWF.out⟩) hch6 ?_
    try simp only [Act.put, List.setIfInBounds_toArray, List.set_cons_zero, List.set_cons_succ, List.getElem_toArray, List.getElem_cons_succ, List.getElem_cons_zero]
    refine wpAnyH_take (i := 11) (v := .slice (highA (some ⟨g3, 0, none⟩) c3) hf c3) rfl (by kernel_rfl) (by kernel_rfl) (by kernel_rfl) (by first | exact fun _ _ _ h => h | exact fun _ _ _ h => nomatch h.1) (yieldsIf_slice_high (by rfl) 23 5 _ _ rfl (some ⟨g3, 0, none⟩) (hf + 16) c3 (hf) rfl rfl Try.underlying23 size5 (by have := HCC1.out; omega)) hch6 ?_
    refine wpAnyH_take (i := 15) (v := .slice (highA (some ⟨g1, 0, none⟩) c1) hf c1) rfl (by kernel_rfl) (by kernel_rfl) (by kernel_rfl) (by first | exact fun _ _ _ h => h | exact fun _ _ _ h => nomatch h.1) (yieldsIf_slice_high (by rfl) 23 5 _ _ rfl (some ⟨g1, 0, none⟩) ((text.length + 16)) c1 (hf) rfl rfl Try.underlying23 size5 (by have := HCA1.out; have := HHF.out; omega)) hch6 ?_
    try simp only [Act.put, List.setIfInBounds_toArray, List.set_cons_zero, List.set_cons_succ, List.getElem_toArray, List.getElem_cons_succ, List.getElem_cons_zero]
    refine wpAnyH_ready (rs := [16]) (by kernel_rfl) (by simp) ?_
    refine AllReadyH.cons rfl (fun K hK => ?_) AllReadyH.nil
    rw [if_pos (by rfl)]
    try simp only [List.getElem_toArray, List.getElem_cons_succ, List.getElem_cons_zero]
    go_simp
    refine (HM2.out _ _ _ _ _ _ _ (HRC.out.chg hch6 (fun h => h)) (HRA7.out.chg hch6 (fun h => h))).mono ?_
    rintro e y16 ⟨rfl, k16, hk16⟩
    have hch16 : Chg none_ x7 y16 := by rw [hk16]; exact (hch6).drewN _
    clear hk16
    refine hK.out _ _ (hch16) (fun _ => ?_)
    clear hK K
    try simp only [Act.put, List.setIfInBounds_toArray, List.set_cons_zero, List.set_cons_succ, List.getElem_toArray, List.getElem_cons_succ, List.getElem_cons_zero]
    refine wpAnyH_take (i := 17) (v := .bool true) rfl (by kernel_rfl) (by kernel_rfl) (by kernel_rfl) (by first | exact fun _ _ _ h => h | exact fun _ _ _ h => nomatch h.1) (Or.inl ⟨by rfl, fun w_ hw_ => by go_simp⟩) hch16 ?_
    try simp only [Act.put, List.setIfInBounds_toArray, List.set_cons_zero, List.set_cons_succ, List.getElem_toArray, List.getElem_cons_succ, List.getElem_cons_zero]
    refine wpAnyH_take (i := 18) (v := .bool true) rfl (by kernel_rfl) (by kernel_rfl) (by kernel_rfl) (by first | exact fun _ _ _ h => h | exact fun _ _ _ h => nomatch h.1) (Or.inl ⟨by rfl, fun w_ hw_ => by go_simp⟩) hch16 ?_
    try simp only [Act.put, List.setIfInBounds_toArray, List.set_cons_zero, List.set_cons_succ, List.getElem_toArray, List.getElem_cons_succ, List.getElem_cons_zero]
    refine wpAnyH_take (i := 19) (v := .slice A more.length cap) rfl (by kernel_rfl) (by kernel_rfl) (by kernel_rfl) (by first | exact fun _ _ _ h => h | exact fun _ _ _ h => nomatch h.1) (Or.inl ⟨by rfl, fun w_ hw_ => by go_simp⟩) hch16 ?_
    refine wpAnyH_take (i := 20) (v := .slice A' other.length cap') rfl (by kernel_rfl) (by kernel_rfl) (by kernel_rfl) (by first | exact fun _ _ _ h => h | exact fun _ _ _ h => nomatch h.1) (Or.inl ⟨by rfl, fun w_ hw_ => by go_simp⟩) hch16 ?_
    try simp only [Act.put, List.setIfInBounds_toArray, List.set_cons_zero, List.set_cons_succ, List.getElem_toArray, List.getElem_cons_succ, List.getElem_cons_zero]
    refine wpAnyH_ready (rs := [21]) (by kernel_rfl) (by simp) ?_
    refine AllReadyH.cons rfl (fun K hK => ?_) AllReadyH.nil
    rw [if_pos (by rfl)]
    try simp only [List.getElem_toArray, List.getElem_cons_succ, List.getElem_cons_zero]
    go_simp
    refine (HM3.out _ (HC7.out.trans hch16)).mono ?_
    rintro e y21 ⟨rfl, k21, hk21⟩
    have hch21 : Chg none_ x7 y21 := by rw [hk21]; exact (hch16).drewN _
    clear hk21
    refine hK.out _ _ (hch21) (fun _ => ?_)
    clear hK K
    try simp only [Act.put, List.setIfInBounds_toArray, List.set_cons_zero, List.set_cons_succ, List.getElem_toArray, List.getElem_cons_succ, List.getElem_cons_zero]
    refine wpAnyH_take (i := 22) (v := .bool true) rfl (by kernel_rfl) (by kernel_rfl) (by kernel_rfl) (by first | exact fun _ _ _ h => h | exact fun _ _ _ h => nomatch h.1) (Or.inl ⟨by rfl, fun w_ hw_ => by go_simp⟩) hch21 ?_
    try simp only [Act.put, List.setIfInBounds_toArray, List.set_cons_zero, List.set_cons_succ, List.getElem_toArray, List.getElem_cons_succ, List.getElem_cons_zero]
    refine wpAnyH_take (i := 23) (v := .bool true) rfl (by kernel_rfl) (by kernel_rfl) (by kernel_rfl) (by first | exact fun _ _ _ h => h | exact fun _ _ _ h => nomatch h.1) (Or.inl ⟨by rfl, fun w_ hw_ => by go_simp⟩) hch21 ?_
    try simp only [Act.put, List.setIfInBounds_toArray, List.set_cons_zero, List.set_cons_succ, List.getElem_toArray, List.getElem_cons_succ, List.getElem_cons_zero]
    refine wpAnyH_take (i := 24) (v := undef) rfl (by kernel_rfl) (by kernel_rfl) (by kernel_rfl) (by first | exact fun _ _ _ h => h | exact fun _ _ _ h => nomatch h.1) (Or.inr ⟨rfl, rfl⟩) hch21 ?_
    refine wpAnyH_take (i := 25) (v := undef) rfl (by kernel_rfl) (by kernel_rfl) (by kernel_rfl) (by first | exact fun _ _ _ h => h | exact fun _ _ _ h => nomatch h.1) (Or.inr ⟨rfl, rfl⟩) hch21 ?_
    try simp only [Act.put, List.setIfInBounds_toArray, List.set_cons_zero, List.set_cons_succ, List.getElem_toArray, List.getElem_cons_succ, List.getElem_cons_zero]
    refine wpAnyH_take (i := 26) (v := undef) rfl (by kernel_rfl) (by kernel_rfl) (by kernel_rfl) (by first | exact fun _ _ _ h => h | exact fun _ _ _ h => nomatch h.1) (Or.inr ⟨rfl, rfl⟩) hch21 ?_
    try simp only [Act.put, List.setIfInBounds_toArray, List.set_cons_zero, List.set_cons_succ, List.getElem_toArray, List.getElem_cons_succ, List.getElem_cons_zero]
    refine wpAnyH_take (i := 27) (v := .bool true) rfl (by kernel_rfl) (by kernel_rfl) (by kernel_rfl) (by first | exact fun _ _ _ h => h | exact fun _ _ _ h => nomatch h.1) (Or.inl ⟨by rfl, fun w_ hw_ => by go_simp⟩) hch21 ?_
    try simp only [Act.put, List.setIfInBounds_toArray, List.set_cons_zero, List.set_cons_succ, List.getElem_toArray, List.getElem_cons_succ, List.getElem_cons_zero]
    refine wpAnyH_take (i := 28) (v := .bool true) rfl (by kernel_rfl) (by kernel_rfl) (by kernel_rfl) (by first | exact fun _ _ _ h => h | exact fun _ _ _ h => nomatch h.1) (Or.inl ⟨by rfl, fun w_ hw_ => by go_simp⟩) hch21 ?_
    try simp only [Act.put, List.setIfInBounds_toArray, List.set_cons_zero, List.set_cons_succ, List.getElem_toArray, List.getElem_cons_succ, List.getElem_cons_zero]
    refine wpAnyH_take (i := 29) (v := .bool true) rfl (by kernel_rfl) (by kernel_rfl) (by kernel_rfl) (by first | exact fun _ _ _ h => h | exact fun _ _ _ h => nomatch h.1) (Or.inl ⟨by rfl, fun w_ hw_ => by go_simp⟩) hch21 ?_
    try simp only [Act.put, List.setIfInBounds_toArray, List.set_cons_zero, List.set_cons_succ, List.getElem_toArray, List.getElem_cons_succ, List.getElem_cons_zero]
    refine wpAnyH_done (by kernel_rfl) ?_ _
    go_wp2
    go_ret
    exact ⟨rfl, HC7.out.trans hch21⟩
end Go.Proofs.Ytmimpodbmfmeiaa
