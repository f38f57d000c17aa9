/- Layer 10 (keys): the walk of the law KeysTurns. -/
import Derived.Test.YtidafbpiipjnlaaDoorV10Alive
namespace Go.Proofs.YtidafbpiipjnlaaDoor
open Go.RowKit

/-- Keys that are updated so often. -/
def uN (h : List Nat) : Nat → Sc
  | 0 => makeN h false
  | k + 1 => updateN (uN h k)
theorem uN_ok (h : List Nat) : ∀ k, (uN h k).Ok
  | 0 => makeN_ok _ _
  | _ + 1 => updateN_ok _
theorem uN_phase (h : List Nat) : ∀ k, (uN h k).phase = decide (k % 2 = 1)
  | 0 => rfl
  | k + 1 => by
    show (!(uN h k).phase) = _
    rw [uN_phase h k]
    rcases Nat.mod_two_eq_zero_or_one k with e | e
    · rw [decide_eq_false (by omega), decide_eq_true (by omega)]; rfl
    · rw [decide_eq_true (by omega), decide_eq_false (by omega)]; rfl

set_option maxRecDepth 100000 in
set_option maxHeartbeats 4000000 in
theorem walk_KeysTurns (h : List Nat) (n0 : Int) (W : World) (hhl : h.length = 32) (hhb : ∀ x ∈ h, x < 256) (x1 : (Lit.int .u8 n0).wf = true) (hK : KTab W) :
    Calls Tryd.prog 6 #[.agg (u8s h).toArray, .int .u8 n0] W fun e w' => e = .returned (.bool true) ∧ Chg none_ W w' := by
  obtain ⟨n, rfl, hn⟩ := nat_u8h x1
  clear x1
  have HHL := Lib.hid hhl
  have HAL : Hid (∀ w, Chg none_ W w → Calls Tryd.prog 8 #[] w fun e w' => e = .returned (.bool true) ∧ Chg none_ w w') := Lib.hid (fun w hc => alive_any w (hK.chg hc))
  have HM0 : Hid (∀ w, Chg none_ W w → Calls Tryd.prog 9 #[.agg (u8s h).toArray, .bool false] w fun e w' => e = .returned (.agg (cellsS (uN h 0)).toArray) ∧ Chg none_ w w') := Lib.hid (fun w hc => Make_any h false w hhl hhb (hK.chg hc))
  have HKK := Lib.hid (fun w (hc : Chg none_ W w) => hK.chg hc)
  obtain ⟨m, hm⟩ : ∃ m, m = n % 6 := ⟨_, rfl⟩
  have hm2 : (n : Int) % 6 = (m : Int) := by omega
  have HM6 : Hid (m < 6) := Lib.hid (by omega)
  clear hm
  have HP := Lib.hid (uN_phase h m)
  clear hhl hhb hK
  go_enter Tryd.func6, Tryd.ntmps6
  go_wp2_with (first | ((with_reducible show wpList _ _ _ (⟨some 2, .box 23 _, _, _, _, _⟩ :: _) _ _); refine wpList_box_Row rfl rfl (u8s h) rfl ?_; intro w1 hr1 hc1 hs1; have HRH1 := Lib.hid hr1; have HC1 := Lib.hid hc1; clear hr1 hc1 hs1) | (go_at_call 8; with_reducible refine (HAL.out _ HC1.out).mono ?_; rintro e w2 ⟨rfl, hc2⟩; have HC2 := Lib.hid (HC1.out.trans hc2); have HRH2 := Lib.hid (HRH1.out.chg hc2 (fun h => h)); clear hc2) | ((with_reducible show wpList _ _ _ (⟨some 10, .load 23 _, _, _, _, _⟩ :: _) _ _); refine wpList_load_Row rfl rfl rfl (HRH2.out) Tryd.underlying23 rfl (by rw [u8s_length, HHL.out]; exact size25) ?_) | (go_at_call 9; with_reducible refine (HM0.out _ HC2.out).mono ?_; rintro e w3 ⟨rfl, hc3⟩; have HS23 := Lib.hid hc3.size; have HC3 := Lib.hid (HC2.out.trans hc3); clear hc3) | ((with_reducible show wpList _ _ _ (⟨some 5, .alloc 29, _, _, _, _⟩ :: _) _ _); refine wpList_alloc_Row rfl rfl (zeroS) zeroSc ?_; intro w4 hr4 hc4 hs4; have HR4 := Lib.hid hr4; have HC4 := Lib.hid (HC3.out.trans hc4); clear hr4 hc4 hs4) | ((with_reducible show wpList _ _ _ (⟨_, .store 29 (.tmp 5) _, _, _, _, _⟩ :: _) _ _); refine wpList_store_Row (xs := cellsS (uN h 0)) rfl rfl rfl (HR4.out) (rfl) (by rw [cellsS_len (uN_ok h 0)]; rfl) (by rw [cellsS_len (uN_ok h 0)]; exact sizeSc) (cellsS_one _) ?_; intro w5 hr5 hc5 hs5; have HR5 := Lib.hid hr5; have HC5 := Lib.hid (hc5 none_ W HC4.out (fun h => by have := HC3.out.size; omega)); clear hr5 hc5 hs5))
  try simp only [Act.put, List.setIfInBounds_toArray, List.set_cons_zero, List.set_cons_succ]
  have HG : Hid (W.heap.size < w3.heap.size) := Lib.hid (Nat.lt_of_lt_of_le HRH2.out.lt HS23.out)
  go_loopw [6, 7] (fun iv _ wr => ∃ k : Nat, k ≤ m ∧ iv = .int .i64 k ∧ Row wr w3.heap.size 29 (cellsS (uN h k)) ∧ Chg (· = w3.heap.size) w5 wr) (fun iv _ _ => 6 - (intOf iv).toNat)
  case atStart => exact ⟨0, Nat.zero_le _, rfl, HR5.out, Chg.refl _ _⟩
  case round =>
    obtain ⟨k, hk, rfl, hrow, hch⟩ := hrel
    have HDr := Lib.hid hch
    have HCr := Lib.hid (HC5.out.andThen hch (fun b hb e => by have := HG.out; omega))
    by_cases hlt : k < m
    · obtain ⟨s, hs⟩ : ∃ s, s = uN h k := ⟨_, rfl⟩
      rw [← hs] at hrow
      obtain ⟨c, hc⟩ : ∃ c, c = updateN s := ⟨_, rfl⟩
      have HNX : Hid (c = uN h (k + 1)) := Lib.hid (by rw [hc, hs]; rfl)
      have HSO : Hid s.Ok := Lib.hid (by rw [hs]; exact uN_ok h k)
      have HCO : Hid c.Ok := Lib.hid (by rw [hc]; exact updateN_ok s)
      have HCP : Hid (c.phase = !s.phase) := Lib.hid (by rw [hc]; rfl)
      obtain ⟨b, hb⟩ : ∃ b, s.phase = b := ⟨_, rfl⟩
      have HB := Lib.hid hb
      have HUP : Hid (∀ w, Chg none_ W w → Calls Tryd.prog 15 #[.agg (cellsS s).toArray] w fun e w' => e = .returned (.agg (cellsS c).toArray) ∧ Chg none_ w w') := Lib.hid (fun w h => by rw [hc]; exact Update_any s w HSO.out (HKK.out w h))
      have HMK : Hid (∀ w, Chg none_ W w → Calls Tryd.prog 9 #[.agg (u8s s.next).toArray, .bool (!b)] w fun e w' => e = .returned (.agg (cellsS c).toArray) ∧ Chg none_ w w') := Lib.hid (fun w h => by rw [hc, ← hb]; exact Make_any s.next (!s.phase) w HSO.out.nextL HSO.out.nextB (HKK.out w h))
      have HEQ := Lib.hid (fun w => sc_refl HCO.out w)
      have HS0 := Lib.hid hrow
      have q1 : (k : Int) < (m : Int) := by omega
      have HLT := Lib.hid hlt
      clear hrow hch hs hc hb hk hlt
      go_wp2_with (first | ((with_reducible show wpList _ _ _ (⟨some 19, .load 29 _, _, _, _, _⟩ :: _) _ _); refine wpList_load_Row rfl rfl rfl (HS0.out) Tryd.underlying29 rfl (by rw [cellsS_len HSO.out]; exact sizeSc) ?_) | (go_at_call 15; with_reducible refine (HUP.out _ HCr.out).mono ?_; rintro e w6 ⟨rfl, hc6⟩; have HC6 := Lib.hid (HCr.out.trans hc6); have HS6 := Lib.hid (HS0.out.chg hc6 (fun h => h)); have HD6 := Lib.hid (HDr.out.trans hc6.ofN); clear hc6) | ((with_reducible show wpList _ _ _ (⟨some 7, .alloc 29, _, _, _, _⟩ :: _) _ _); refine wpList_alloc_Row rfl rfl (zeroS) zeroSc ?_; intro w7 hr7 hc7 hs7; have HR7 := Lib.hid hr7; have HC7 := Lib.hid (HC6.out.trans hc7); have HS7 := Lib.hid (HS6.out.chg hc7 (fun h => h)); have HD7 := Lib.hid (HD6.out.trans hc7.ofN); clear hr7 hc7 hs7) | ((with_reducible show wpList _ _ _ (⟨_, .store 29 (.tmp 7) _, _, _, _, _⟩ :: _) _ _); refine wpList_store_Row (xs := cellsS c) rfl rfl rfl (HR7.out) (rfl) (by rw [cellsS_len HCO.out]; rfl) (by rw [cellsS_len HCO.out]; exact sizeSc) (cellsS_one _) ?_; intro w8 hr8 hc8 hs8; have HR8 := Lib.hid hr8; have hx8 := hc8 (· = w6.heap.size) w7 (Chg.refl _ _) (fun _ => rfl); have HC8 := Lib.hid (hc8 none_ W HC7.out (fun h => by have := HC6.out.size; omega)); have HS8 := Lib.hid (HS7.out.chg hx8 (fun e => by have := HS6.out.lt; omega)); have HD8 := Lib.hid (hc8 (· = w3.heap.size) w5 HD7.out (fun h => by have := HD6.out.size; omega)); clear hx8; clear hr8 hc8 hs8))
      try simp only [Act.put, List.setIfInBounds_toArray, List.set_cons_zero, List.set_cons_succ]
      have HPA : Hid (∀ w', Chg none_ w8 w' → w'.cell? ⟨w3.heap.size, 60, none⟩ = some (.bool b)) := Lib.hid (fun w' hc => by rw [← HB.out]; exact sc_phase (HS8.out.chg hc (fun h => h)) HSO.out)
      have HPC : Hid (∀ w', Chg none_ w8 w' → w'.cell? ⟨w6.heap.size, 60, none⟩ = some (.bool (!b))) := Lib.hid (fun w' hc => by rw [← HB.out, ← HCP.out]; exact sc_phase (HR8.out.chg hc (fun h => h)) HCO.out)
      refine wp_region_held_drew (S := fun w' => Chg none_ w8 w') (by kernel_rfl) ((Chg.refl none_ w8).drew) (fun hch0 => ?_)
      generalize w8.drew = wd at hch0 ⊢
      refine wpAnyH_take (i := 0) (v := .pointer (some ⟨w6.heap.size, 60, none⟩)) rfl (by kernel_rfl) (by kernel_rfl) (by kernel_rfl) (by first | exact fun _ _ _ h => h | exact fun _ _ _ h => nomatch h.1) (Or.inl ⟨by rfl, fun w_ hw_ => by go_simp⟩) hch0 ?_
      refine wpAnyH_take (i := 2) (v := .pointer (some ⟨w3.heap.size, 60, none⟩)) rfl (by kernel_rfl) (by kernel_rfl) (by kernel_rfl) (by first | exact fun _ _ _ h => h | exact fun _ _ _ h => nomatch h.1) (Or.inl ⟨by rfl, fun w_ hw_ => by go_simp⟩) hch0 ?_
      try simp only [Act.put, List.setIfInBounds_toArray, List.set_cons_zero, List.set_cons_succ, List.getElem_toArray, List.getElem_cons_succ, List.getElem_cons_zero]
      refine wpAnyH_take (i := 1) (v := .bool (!b)) rfl (by kernel_rfl) (by kernel_rfl) (by kernel_rfl) (by first | exact fun _ _ _ h => h | exact fun _ _ _ h => nomatch h.1) (Or.inl ⟨by rfl, fun w_ hw_ => by have hh := HPC.out w_ hw_; go_simp⟩) hch0 ?_
      refine wpAnyH_take (i := 3) (v := .bool b) rfl (by kernel_rfl) (by kernel_rfl) (by kernel_rfl) (by first | exact fun _ _ _ h => h | exact fun _ _ _ h => nomatch h.1) (Or.inl ⟨by rfl, fun w_ hw_ => by have hh := HPA.out w_ hw_; go_simp⟩) hch0 ?_
      try simp only [Act.put, List.setIfInBounds_toArray, List.set_cons_zero, List.set_cons_succ, List.getElem_toArray, List.getElem_cons_succ, List.getElem_cons_zero]
      refine wpAnyH_take (i := 4) (v := .bool false) rfl (by kernel_rfl) (by kernel_rfl) (by kernel_rfl) (by first | exact fun _ _ _ h => h | exact fun _ _ _ h => nomatch h.1) (Or.inl ⟨by rfl, fun w_ hw_ => by cases b <;> go_simp⟩) hch0 ?_
      try simp only [Act.put, List.setIfInBounds_toArray, List.set_cons_zero, List.set_cons_succ, List.getElem_toArray, List.getElem_cons_succ, List.getElem_cons_zero]
      refine wpAnyH_take (i := 5) (v := .bool false) rfl (by kernel_rfl) (by kernel_rfl) (by kernel_rfl) (by first | exact fun _ _ _ h => h | exact fun _ _ _ h => nomatch h.1) (Or.inl ⟨by rfl, fun w_ hw_ => by go_simp⟩) hch0 ?_
      try simp only [Act.put, List.setIfInBounds_toArray, List.set_cons_zero, List.set_cons_succ, List.getElem_toArray, List.getElem_cons_succ, List.getElem_cons_zero]
      refine wpAnyH_take (i := 6) (v := .agg (cellsS c).toArray) rfl (by kernel_rfl) (by kernel_rfl) (by kernel_rfl) (by first | exact fun _ _ _ h => h | exact fun _ _ _ h => nomatch h.1) (yieldsIf_load_mid (by rfl) 29 _ rfl w6.heap.size 0 rfl (cellsS c) _ (fun w' hw' => (HR8.out.chg hw' (fun h => h)).range) Tryd.underlying29 rfl (by rw [cellsS_len HCO.out]; exact sizeSc)) hch0 ?_
      refine wpAnyH_take (i := 7) (v := .pointer (some ⟨w3.heap.size, 28, none⟩)) rfl (by kernel_rfl) (by kernel_rfl) (by kernel_rfl) (by first | exact fun _ _ _ h => h | exact fun _ _ _ h => nomatch h.1) (Or.inl ⟨by rfl, fun w_ hw_ => by go_simp⟩) hch0 ?_
      refine wpAnyH_take (i := 9) (v := .pointer (some ⟨w3.heap.size, 60, none⟩)) rfl (by kernel_rfl) (by kernel_rfl) (by kernel_rfl) (by first | exact fun _ _ _ h => h | exact fun _ _ _ h => nomatch h.1) (Or.inl ⟨by rfl, fun w_ hw_ => by go_simp⟩) hch0 ?_
      try simp only [Act.put, List.setIfInBounds_toArray, List.set_cons_zero, List.set_cons_succ, List.getElem_toArray, List.getElem_cons_succ, List.getElem_cons_zero]
      refine wpAnyH_take (i := 8) (v := .agg (u8s s.next).toArray) rfl (by kernel_rfl) (by kernel_rfl) (by kernel_rfl) (by first | exact fun _ _ _ h => h | exact fun _ _ _ h => nomatch h.1) (yieldsIf_load_mid (by rfl) 23 _ rfl w3.heap.size 28 rfl (u8s s.next) _ (fun w' hw' => sc_next (HS8.out.chg hw' (fun h => h)) HSO.out) Tryd.underlying23 rfl (by rw [u8s_length, HSO.out.nextL]; exact size25)) hch0 ?_
      refine wpAnyH_take (i := 10) (v := .bool b) rfl (by kernel_rfl) (by kernel_rfl) (by kernel_rfl) (by first | exact fun _ _ _ h => h | exact fun _ _ _ h => nomatch h.1) (Or.inl ⟨by rfl, fun w_ hw_ => by have hh := HPA.out w_ hw_; go_simp⟩) hch0 ?_
      try simp only [Act.put, List.setIfInBounds_toArray, List.set_cons_zero, List.set_cons_succ, List.getElem_toArray, List.getElem_cons_succ, List.getElem_cons_zero]
      refine wpAnyH_take (i := 11) (v := .bool (!b)) rfl (by kernel_rfl) (by kernel_rfl) (by kernel_rfl) (by first | exact fun _ _ _ h => h | exact fun _ _ _ h => nomatch h.1) (Or.inl ⟨by rfl, fun w_ hw_ => by go_simp⟩) hch0 ?_
      try simp only [Act.put, List.setIfInBounds_toArray, List.set_cons_zero, List.set_cons_succ, List.getElem_toArray, List.getElem_cons_succ, List.getElem_cons_zero]
      refine wpAnyH_ready (rs := [12]) (by kernel_rfl) (by simp) ?_
      refine AllReadyH.cons rfl (fun K hK => ?_) AllReadyH.nil
      rw [if_pos (by rfl)]
      try simp only [List.getElem_toArray, List.getElem_cons_succ, List.getElem_cons_zero]
      go_simp
      refine (HMK.out _ (HC8.out.trans hch0)).mono ?_
      rintro e x1 ⟨rfl, hcx1⟩
      have hch1 : Chg none_ w8 x1 := hch0.trans hcx1
      refine hK.out _ _ (hch1) (fun _ => ?_)
      clear hK K
      try simp only [Act.put, List.setIfInBounds_toArray, List.set_cons_zero, List.set_cons_succ, List.getElem_toArray, List.getElem_cons_succ, List.getElem_cons_zero]
      refine wpAnyH_take (i := 13) (v := .bool (!true)) rfl (by kernel_rfl) (by kernel_rfl) (by kernel_rfl) (by first | exact fun _ _ _ h => h | exact fun _ _ _ h => nomatch h.1) (yieldsIf_neq (by rfl) 29 _ _ _ rfl (cellsS c).toArray (cellsS c).toArray rfl rfl true (fun w => run_eqGuard_agg w .neq 29 _ _ _ _ Tryd.eqGuardType29) (fun w _ => HEQ.out w)) hch1 ?_
      try simp only [Act.put, List.setIfInBounds_toArray, List.set_cons_zero, List.set_cons_succ, List.getElem_toArray, List.getElem_cons_succ, List.getElem_cons_zero]
      refine wpAnyH_take (i := 14) (v := .bool false) rfl (by kernel_rfl) (by kernel_rfl) (by kernel_rfl) (by first | exact fun _ _ _ h => h | exact fun _ _ _ h => nomatch h.1) (Or.inl ⟨by rfl, fun w_ hw_ => by go_simp⟩) hch1 ?_
      try simp only [Act.put, List.setIfInBounds_toArray, List.set_cons_zero, List.set_cons_succ, List.getElem_toArray, List.getElem_cons_succ, List.getElem_cons_zero]
      refine wpAnyH_done (by kernel_rfl) ?_ _
      have HR9 := Lib.hid (HR8.out.chg hch1 (fun h => h))
      have HS9 := Lib.hid (HS8.out.chg hch1 (fun h => h))
      have HD9 := Lib.hid (HD8.out.trans hch1.ofN)
      go_wp2_with (first | ((with_reducible show wpList _ _ _ (⟨some 36, .load 29 _, _, _, _, _⟩ :: _) _ _); refine wpList_load_Row rfl rfl rfl (HR9.out) Tryd.underlying29 rfl (by rw [cellsS_len HCO.out]; exact sizeSc) ?_) | ((with_reducible show wpList _ _ _ (⟨_, .store 29 (.tmp 5) _, _, _, _, _⟩ :: _) _ _); refine wpList_store_Row (xs := cellsS c) rfl rfl rfl (HS9.out) (rfl) (by rw [cellsS_len HCO.out, cellsS_len HSO.out]) (by rw [cellsS_len HCO.out]; exact sizeSc) (cellsS_one _) ?_; intro w10 hr10 hc10 hs10; have HR10 := Lib.hid hr10; have HD10 := Lib.hid (hc10 (· = w3.heap.size) w5 HD9.out (fun _ => rfl)); clear hr10 hc10 hs10))
      go_roundw
      case rel => exact ⟨k + 1, by have := HLT.out; omega, by go_num, by rw [← HNX.out]; exact HR10.out, HD10.out⟩
      case measure => have := HLT.out; have := HM6.out; simp [intOf]; omega
    · have hkm : k = m := by omega
      subst hkm
      have cp := sc_phase hrow (uN_ok h k)
      rw [HP.out] at cp
      have q1 : ¬ (k : Int) < (k : Int) := by omega
      clear hrow hch hk hlt
      by_cases he : k % 2 = 1
      · have he2 : (k : Int) % 2 = 1 := by omega
        rw [decide_eq_true he] at cp
        clear he
        go_wp2
        go_ret
        exact ⟨rfl, HCr.out⟩
      · have he2 : (k : Int) % 2 = 0 := by omega
        rw [decide_eq_false he] at cp
        clear he
        go_wp2
        go_ret
        exact ⟨rfl, HCr.out⟩
end Go.Proofs.YtidafbpiipjnlaaDoor
