/- Layer 9 (gcm): a tag, the program's. -/
import Derived.Test.YtfpflhcabjcamaaDoorV9SumP
import Derived.Test.YtfpflhcabjcamaaDoorV9Plain
namespace Go.Proofs.YtfpflhcabjcamaaDoor
open Go.RowKit

set_option maxRecDepth 100000 in
set_option maxHeartbeats 8000000 in
theorem tagOf_any (key nonce more c : List Nat) (T T' : Nat → Prop) (A A' : Option Addr) (cap cap' : Nat) (w : World) (hk : key.length = 16) (hkb : ∀ x ∈ key, x < 256) (hn : nonce.length = 12) (hnb : ∀ x ∈ nonce, x < 256) (hm : View w T A more.length (u8s more)) (hmc : more.length ≤ cap) (hml : more.length ≤ 1000000) (hmb : ∀ x ∈ more, x < 256) (ht : View w T' A' c.length (u8s c)) (htc : c.length ≤ cap') (htl : c.length ≤ 1000000) (htb : ∀ x ∈ c, x < 256) :
    Calls Tryd.prog 31 #[.agg (u8s key).toArray, .agg (u8s nonce).toArray, .slice A more.length cap, .slice A' c.length cap'] w fun e w' => e = .returned (.agg (u8s (tagG key nonce more c)).toArray) ∧ Chg none_ w w' := by
  have HKL := Lib.hid hk
  have HNL := Lib.hid hn
  have hz : ∀ x ∈ List.replicate 16 0, x < 256 := by intro x hx; rw [List.eq_of_mem_replicate hx]; decide
  have hH : ∀ x ∈ cipherN key (List.replicate 16 0), x < 256 := cipherN_lt hkb hz
  have hE : ∀ x ∈ cipherN key (jN nonce 1), x < 256 := cipherN_lt hkb (jN_lt hnb (by decide))
  have HE0 := Lib.hid (fun w => Encipher_any key (List.replicate 16 0) w hk hkb (by simp) hz)
  have HE1 := Lib.hid (fun w => Encipher_any key (jN nonce 1) w hk hkb (jN_len nonce 1 hn) (jN_lt hnb (by decide)))
  have HNM := Lib.hid (fun w => numbered_any nonce 1 w hn)
  have hEL := cipherN_len key (jN nonce 1)
  have hHL := cipherN_len key (List.replicate 16 0)
  obtain ⟨Z, hZ⟩ : ∃ Z, Z = List.replicate 16 0 := ⟨_, rfl⟩
  have HBN : Hid (∀ w, (Instr.build 33 #[]).run Tryd.prog w = .ok (.agg (u8s Z).toArray) w) := Lib.hid (fun w => by rw [hZ]; exact run_build_none w)
  obtain ⟨TG, hTG⟩ : ∃ TG, TG = tagG key nonce more c := ⟨_, rfl⟩
  have HTL : Hid (TG.length = 16) := Lib.hid (by rw [hTG]; exact xorB_len' _ _)
  have hTG2 : TG = xorB (sumG (cipherN key (List.replicate 16 0)) more c) (cipherN key (jN nonce 1)) := hTG
  rw [← hTG]
  rw [← hZ] at HE0 hHL hH hTG2
  generalize cipherN key Z = H at HE0 hHL hH hTG2
  generalize cipherN key (jN nonce 1) = E1 at HE1 hEL hE hTG2
  have HHL := Lib.hid hHL
  have HSM : Hid (∀ w', Chg none_ w w' → Calls Tryd.prog 40 #[.agg (u8s H).toArray, .slice A more.length cap, .slice A' c.length cap'] w' fun e w'' => e = .returned (.agg (u8s (sumG H more c)).toArray) ∧ Chg none_ w' w'') := Lib.hid (fun w' hc => Sum_any H more c T T' A A' cap cap' w' hHL hH (hm.chg hc (fun _ _ h => h)) hmc hml hmb (ht.chg hc (fun _ _ h => h)) htc htl htb)
  have hSL := sumG_len H more c
  have hSB := sumG_lt H more c
  generalize sumG H more c = SM at HSM hSL hSB hTG2
  have HPS := Lib.hid (fun w => polynomialOf_any SM w hSL hSB)
  have HPE := Lib.hid (fun w => polynomialOf_any E1 w hEL hE)
  have HBY : Hid (∀ w, Calls Tryd.prog 42 #[.agg (pw (polB SM ^^^ polB E1)).toArray] w fun e w' => e = .returned (.agg (u8s TG).toArray) ∧ Chg none_ w w') := Lib.hid (fun w => by
    have := bytes9_any (polB SM ^^^ polB E1) w
    have eb : bpol (polB SM ^^^ polB E1) = TG := by rw [hTG2]; exact xor_bpol hSL hSB hEL hE
    rw [eb] at this
    exact this)
  clear hk hkb hn hnb hm ht hmb htb hmc htc hz hH hE hHL hEL hTG hTG2 hSL hSB hZ
  go_enter Tryd.func31, Tryd.ntmps31
  go_wp2_with (first | ((with_reducible show wpList _ _ _ (⟨some 4, .box 33 _, _, _, _, _⟩ :: _) _ _); refine wpList_box_Row rfl rfl (u8s key) rfl ?_; intro wK hrK hcK hsK; have HRK := Lib.hid hrK; have HCK := Lib.hid hcK; clear hrK hcK hsK) | ((with_reducible show wpList _ _ _ (⟨some 5, .box 34 _, _, _, _, _⟩ :: _) _ _); refine wpList_box_Row rfl rfl (u8s nonce) rfl ?_; intro wN hrN hcN hsN; have HRN := Lib.hid hrN; have HCN := Lib.hid (HCK.out.trans hcN); have HRK1 := Lib.hid (HRK.out.chg hcN (fun h => h)); clear hrN hcN hsN) | ((with_reducible show wpList _ _ _ (⟨some 8, .alloc 33, _, _, _, _⟩ :: _) _ _); refine wpList_alloc_Row rfl rfl (u8s (List.replicate 16 0)) zero22 ?_; intro wR hrR hcR hsR; have HRR := Lib.hid hrR; have HCR := Lib.hid (HCN.out.trans hcR); have HRK2 := Lib.hid (HRK1.out.chg hcR (fun h => h)); have HRN2 := Lib.hid (HRN.out.chg hcR (fun h => h)); have HZ1 := Lib.hid (show w.heap.size < wK.heap.size from HRK.out.lt); have HZ2 := Lib.hid (show wK.heap.size < wN.heap.size from HRN.out.lt); clear hrR hcR hsR) | ((with_reducible show wpList _ _ _ (⟨some 12, .load 33 _, _, _, _, _⟩ :: _) _ _); refine wpList_load_Row rfl rfl rfl (HRK2.out) Tryd.underlying33 rfl (by rw [u8s_length, HKL.out]; exact size22) ?_) | ((with_reducible show wpList _ _ _ (⟨some 13, _, _, _, _, _⟩ :: _) _ _); refine wpList_val rfl (.agg (u8s Z).toArray) (fun w => by have := HBN.out w; unfold execOp; simp [Act.eval, this]) ?_) | (go_at_call 38; with_reducible refine (HE0.out _).mono ?_; rintro e w3 ⟨rfl, hc3⟩; have HC3 := Lib.hid (HCR.out.trans hc3); have HRK3 := Lib.hid (HRK2.out.chg hc3 (fun h => h)); have HRN3 := Lib.hid (HRN2.out.chg hc3 (fun h => h)); have HRR3 := Lib.hid (HRR.out.chg hc3 (fun h => h)); clear hc3 HE0) | ((with_reducible show wpList _ _ _ (⟨some 9, .alloc 33, _, _, _, _⟩ :: _) _ _); refine wpList_alloc_Row rfl rfl (u8s (List.replicate 16 0)) zero22 ?_; intro w4 hr4 hc4 hs4; have HR4 := Lib.hid hr4; have HC4 := Lib.hid (HC3.out.trans hc4); have HRK4 := Lib.hid (HRK3.out.chg hc4 (fun h => h)); have HRN4 := Lib.hid (HRN3.out.chg hc4 (fun h => h)); have HRR4 := Lib.hid (HRR3.out.chg hc4 (fun h => h)); clear hr4 hc4 hs4) | ((with_reducible show wpList _ _ _ (⟨none, .store 33 (.tmp 9) _, _, _, _, _⟩ :: _) _ _); refine wpList_store_Row (xs := u8s H) rfl rfl rfl HR4.out rfl (by rw [u8s_length, u8s_length, HHL.out, List.length_replicate]) (by rw [u8s_length, HHL.out]; exact size22) (u8s_oneA _) ?_; intro w5 hr5 hc5 hs5; have HR5 := Lib.hid hr5; have HC5 := Lib.hid (hc5 none_ w HC4.out (fun h => by have := HC3.out.size; omega)); have hx5 := hc5 (· = w3.heap.size) w4 (Chg.refl _ _) (fun _ => rfl); have HRK5 := Lib.hid (HRK4.out.chg hx5 (fun e => by have := HRK3.out.lt; omega)); have HRN5 := Lib.hid (HRN4.out.chg hx5 (fun e => by have := HRN3.out.lt; omega)); have HRR5 := Lib.hid (HRR4.out.chg hx5 (fun e => by have := HRR3.out.lt; omega)); clear hr5 hc5 hs5 hx5) | ((with_reducible show wpList _ _ _ (⟨some 15, .load 33 _, _, _, _, _⟩ :: _) _ _); refine wpList_load_Row rfl rfl rfl (HR5.out) Tryd.underlying33 rfl (by rw [u8s_length, HHL.out]; exact size22) ?_) | (go_at_call 40; refine (HSM.out _ HC5.out).mono ?_; rintro e w6 ⟨rfl, hc6⟩; have HC6 := Lib.hid (HC5.out.trans hc6); have HRK6 := Lib.hid (HRK5.out.chg hc6 (fun h => h)); have HRN6 := Lib.hid (HRN5.out.chg hc6 (fun h => h)); have HRR6 := Lib.hid (HRR5.out.chg hc6 (fun h => h)); clear hc6) | (go_at_call 39; with_reducible refine (HPS.out _).mono ?_; rintro e w7 ⟨rfl, hc7⟩; have HC7 := Lib.hid (HC6.out.trans hc7); have HRK7 := Lib.hid (HRK6.out.chg hc7 (fun h => h)); have HRN7 := Lib.hid (HRN6.out.chg hc7 (fun h => h)); have HRR7 := Lib.hid (HRR6.out.chg hc7 (fun h => h)); clear hc7 HPS) | ((with_reducible show wpList _ _ _ (⟨some 10, .alloc 86, _, _, _, _⟩ :: _) _ _); refine wpList_alloc_Row rfl rfl (w2 0 0) zero45 ?_; intro w8 hr8 hc8 hs8; have HR8 := Lib.hid hr8; have HC8 := Lib.hid (HC7.out.trans hc8); have HRK8 := Lib.hid (HRK7.out.chg hc8 (fun h => h)); have HRN8 := Lib.hid (HRN7.out.chg hc8 (fun h => h)); have HRR8 := Lib.hid (HRR7.out.chg hc8 (fun h => h)); clear hr8 hc8 hs8) | ((with_reducible show wpList _ _ _ (⟨none, .store 86 (.tmp 10) _, _, _, _, _⟩ :: _) _ _); refine wpList_store_Row (xs := pw (polB SM)) rfl rfl rfl HR8.out rfl rfl size45 rfl ?_; intro w9 hr9 hc9 hs9; have HR9 := Lib.hid hr9; have HC9 := Lib.hid (hc9 none_ w HC8.out (fun h => by have := HC7.out.size; omega)); have hx9 := hc9 (· = w7.heap.size) w8 (Chg.refl _ _) (fun _ => rfl); have HRK9 := Lib.hid (HRK8.out.chg hx9 (fun e => by have := HRK7.out.lt; omega)); have HRN9 := Lib.hid (HRN8.out.chg hx9 (fun e => by have := HRN7.out.lt; omega)); have HRR9 := Lib.hid (HRR8.out.chg hx9 (fun e => by have := HRR7.out.lt; omega)); clear hr9 hc9 hs9 hx9))
  simp only [Act.put, List.setIfInBounds_toArray, List.set_cons_zero, List.set_cons_succ]
  refine wp_region_held_drew (S := fun w' => Chg none_ w9 w') (by kernel_rfl) ((Chg.refl none_ w9).drew) (fun hch0 => ?_)
  generalize w9.drew = wd at hch0 ⊢
  refine wpAnyH_take (i := 0) (v := .agg (u8s key).toArray) rfl (by kernel_rfl) (by kernel_rfl) (by kernel_rfl) (by first | exact fun _ _ _ h => h | exact fun _ _ _ h => nomatch h.1) (yieldsIf_load_mid (by rfl) 33 _ rfl w.heap.size 0 rfl (u8s key) _ (fun w' hw' => (HRK9.out.chg hw' (fun h => h)).range) Tryd.underlying33 rfl (by rw [u8s_length, HKL.out]; exact size22)) hch0 ?_
  refine wpAnyH_take (i := 1) (v := .agg (u8s nonce).toArray) rfl (by kernel_rfl) (by kernel_rfl) (by kernel_rfl) (by first | exact fun _ _ _ h => h | exact fun _ _ _ h => nomatch h.1) (yieldsIf_load_mid (by rfl) 34 _ rfl wK.heap.size 0 rfl (u8s nonce) _ (fun w' hw' => (HRN9.out.chg hw' (fun h => h)).range) Tryd.underlying34 rfl (by rw [u8s_length, HNL.out]; exact sizeN12)) hch0 ?_
  try simp only [Act.put, List.setIfInBounds_toArray, List.set_cons_zero, List.set_cons_succ, List.getElem_toArray, List.getElem_cons_succ, List.getElem_cons_zero]
  refine wpAnyH_ready (rs := [2, 5]) (by kernel_rfl) (by simp) ?_
  refine AllReadyH.cons rfl (fun K hK => ?_) (AllReadyH.cons rfl (fun K hK => ?_) AllReadyH.nil)
  · rw [if_pos (by rfl)]
    try simp only [List.getElem_toArray, List.getElem_cons_succ, List.getElem_cons_zero]
    go_simp
    refine (HNM.out _).mono ?_
    rintro e y1 ⟨rfl, hcy1⟩
    have hch1 : Chg none_ w9 y1 := hch0.trans hcy1
    refine hK.out _ _ (hch1) (fun _ => ?_)
    clear hK K
    try simp only [Act.put, List.setIfInBounds_toArray, List.set_cons_zero, List.set_cons_succ, List.getElem_toArray, List.getElem_cons_succ, List.getElem_cons_zero]
    refine wpAnyH_ready (rs := [3, 5]) (by kernel_rfl) (by simp) ?_
    refine AllReadyH.cons rfl (fun K hK => ?_) (AllReadyH.cons rfl (fun K hK => ?_) AllReadyH.nil)
    · rw [if_pos (by rfl)]
      try simp only [List.getElem_toArray, List.getElem_cons_succ, List.getElem_cons_zero]
      go_simp
      refine (HE1.out _).mono ?_
      rintro e y2 ⟨rfl, hcy2⟩
      have hch2 : Chg none_ w9 y2 := hch1.trans hcy2
      refine hK.out _ _ (hch2) (fun _ => ?_)
      clear hK K
      try simp only [Act.put, List.setIfInBounds_toArray, List.set_cons_zero, List.set_cons_succ, List.getElem_toArray, List.getElem_cons_succ, List.getElem_cons_zero]
      refine wpAnyH_ready (rs := [4, 5]) (by kernel_rfl) (by simp) ?_
      refine AllReadyH.cons rfl (fun K hK => ?_) (AllReadyH.cons rfl (fun K hK => ?_) AllReadyH.nil)
      · rw [if_pos (by rfl)]
        try simp only [List.getElem_toArray, List.getElem_cons_succ, List.getElem_cons_zero]
        go_simp
        refine (HPE.out _).mono ?_
        rintro e y3 ⟨rfl, hcy3⟩
        have hch3 : Chg none_ w9 y3 := hch2.trans hcy3
        refine hK.out _ _ (hch3) (fun _ => ?_)
        clear hK K
        try simp only [Act.put, List.setIfInBounds_toArray, List.set_cons_zero, List.set_cons_succ, List.getElem_toArray, List.getElem_cons_succ, List.getElem_cons_zero]
        refine wpAnyH_ready (rs := [5]) (by kernel_rfl) (by simp) ?_
        refine AllReadyH.cons rfl (fun K hK => ?_) AllReadyH.nil
        rw [if_pos (by rfl)]
        try simp only [List.getElem_toArray, List.getElem_cons_succ, List.getElem_cons_zero]
        refine wp_alloc_row rfl (w2 0 0) zero45 ?_
        intro y4 hry4 hcy4 hsy4
        have hch4 : Chg none_ w9 y4 := hch3.trans hcy4
        have hby := hch3.size
        refine hK.out _ _ (hch4) (fun _ => ?_)
        clear hK K
        try simp only [Act.put, List.setIfInBounds_toArray, List.set_cons_zero, List.set_cons_succ]
        refine wpAnyH_ready (rs := [6]) (by kernel_rfl) (by simp) ?_
        refine AllReadyH.cons rfl (fun K hK => ?_) AllReadyH.nil
        rw [if_pos (by rfl)]
        try simp only [List.getElem_toArray, List.getElem_cons_succ, List.getElem_cons_zero]
        refine wp_store_row (ty := 86) (xs := pw (polB E1)) rfl rfl (hry4) rfl (rfl) (size45) (rfl) ?_
        intro wS hr_wS hc_wS hs_wS
        refine hK.out _ _ (hc_wS none_ w9 hch4 (fun h => by omega)) (fun _ => ?_)
        clear hK K
        try simp only [Act.put]
        have hchF : Chg none_ w9 wS := hc_wS none_ w9 hch4 (fun h => by omega)
        refine wpAnyH_done (by kernel_rfl) ?_ _
        have HRA := Lib.hid hr_wS
        have HRS := Lib.hid (HR9.out.chg hchF (fun h => h))
        have HRRF := Lib.hid (HRR9.out.chg hchF (fun h => h))
        have HCF := Lib.hid (HC9.out.trans hchF)
        clear hr_wS hc_wS hs_wS hchF
        go_wp2_with (first | ((with_reducible show wpList _ _ _ (⟨some 25, .load 86 _, _, _, _, _⟩ :: _) _ _); refine wpList_load_Row rfl rfl rfl (HRS.out) Tryd.underlying86 rfl (size45) ?_) | ((with_reducible show wpList _ _ _ (⟨some 26, .load 86 _, _, _, _, _⟩ :: _) _ _); refine wpList_load_Row rfl rfl rfl (HRA.out) Tryd.underlying86 rfl (size45) ?_) | (go_at_call 41; refine (plus_any (polB SM) (polB E1) _).mono ?_; rintro e wP ⟨rfl, hcP⟩; have HCP := Lib.hid (HCF.out.trans hcP); have HRRP := Lib.hid (HRRF.out.chg hcP (fun h => h)); clear hcP) | (go_at_call 42; refine (HBY.out _).mono ?_; rintro e wQ ⟨rfl, hcQ⟩; have HCQ := Lib.hid (HCP.out.trans hcQ); have HRRQ := Lib.hid (HRRP.out.chg hcQ (fun h => h)); clear hcQ) | ((with_reducible show wpList _ _ _ (⟨none, .store 33 (.tmp 8) _, _, _, _, _⟩ :: _) _ _); refine wpList_store_Row (xs := u8s TG) rfl rfl rfl HRRQ.out rfl (by rw [u8s_length, u8s_length, HTL.out, List.length_replicate]) (by rw [u8s_length, HTL.out]; exact size22) (u8s_oneA _) ?_; intro wZ hrZ hcZ hsZ; have HRZ := Lib.hid hrZ; have HCZ := Lib.hid (hcZ none_ w HCQ.out (fun h => by have := HZ1.out; have := HZ2.out; omega)); clear hrZ hcZ hsZ))
        refine ret_row rfl rfl HRZ.out Tryd.underlying33 rfl (by rw [u8s_length, HTL.out]; exact size22) rfl ?_
        exact ⟨rfl, HCZ.out⟩
      · rw [if_pos (by rfl)]
        try simp only [List.getElem_toArray, List.getElem_cons_succ, List.getElem_cons_zero]
        refine wp_alloc_row rfl (w2 0 0) zero45 ?_
        intro y5 hry5 hcy5 hsy5
        have hch5 : Chg none_ w9 y5 := hch2.trans hcy5
        have hby := hch2.size
        refine hK.out _ _ (hch5) (fun _ => ?_)
        clear hK K
        try simp only [Act.put, List.setIfInBounds_toArray, List.set_cons_zero, List.set_cons_succ]
        refine wpAnyH_ready (rs := [4]) (by kernel_rfl) (by simp) ?_
        refine AllReadyH.cons rfl (fun K hK => ?_) AllReadyH.nil
        rw [if_pos (by rfl)]
        try simp only [List.getElem_toArray, List.getElem_cons_succ, List.getElem_cons_zero]
        go_simp
        refine (HPE.out _).mono ?_
        rintro e y6 ⟨rfl, hcy6⟩
        have hch6 : Chg none_ w9 y6 := hch5.trans hcy6
        have hr6 := hry5.chg hcy6 (fun h => h)
        refine hK.out _ _ (hch6) (fun _ => ?_)
        clear hK K
        try simp only [Act.put, List.setIfInBounds_toArray, List.set_cons_zero, List.set_cons_succ, List.getElem_toArray, List.getElem_cons_succ, List.getElem_cons_zero]
        refine wpAnyH_ready (rs := [6]) (by kernel_rfl) (by simp) ?_
        refine AllReadyH.cons rfl (fun K hK => ?_) AllReadyH.nil
        rw [if_pos (by rfl)]
        try simp only [List.getElem_toArray, List.getElem_cons_succ, List.getElem_cons_zero]
        refine wp_store_row (ty := 86) (xs := pw (polB E1)) rfl rfl (hr6) rfl (rfl) (size45) (rfl) ?_
        intro wS hr_wS hc_wS hs_wS
        refine hK.out _ _ (hc_wS none_ w9 hch6 (fun h => by omega)) (fun _ => ?_)
        clear hK K
        try simp only [Act.put]
        have hchF : Chg none_ w9 wS := hc_wS none_ w9 hch6 (fun h => by omega)
        refine wpAnyH_done (by kernel_rfl) ?_ _
        have HRA := Lib.hid hr_wS
        have HRS := Lib.hid (HR9.out.chg hchF (fun h => h))
        have HRRF := Lib.hid (HRR9.out.chg hchF (fun h => h))
        have HCF := Lib.hid (HC9.out.trans hchF)
        clear hr_wS hc_wS hs_wS hchF
        go_wp2_with (first | ((with_reducible show wpList _ _ _ (⟨some 25, .load 86 _, _, _, _, _⟩ :: _) _ _); refine wpList_load_Row rfl rfl rfl (HRS.out) Tryd.underlying86 rfl (size45) ?_) | ((with_reducible show wpList _ _ _ (⟨some 26, .load 86 _, _, _, _, _⟩ :: _) _ _); refine wpList_load_Row rfl rfl rfl (HRA.out) Tryd.underlying86 rfl (size45) ?_) | (go_at_call 41; refine (plus_any (polB SM) (polB E1) _).mono ?_; rintro e wP ⟨rfl, hcP⟩; have HCP := Lib.hid (HCF.out.trans hcP); have HRRP := Lib.hid (HRRF.out.chg hcP (fun h => h)); clear hcP) | (go_at_call 42; refine (HBY.out _).mono ?_; rintro e wQ ⟨rfl, hcQ⟩; have HCQ := Lib.hid (HCP.out.trans hcQ); have HRRQ := Lib.hid (HRRP.out.chg hcQ (fun h => h)); clear hcQ) | ((with_reducible show wpList _ _ _ (⟨none, .store 33 (.tmp 8) _, _, _, _, _⟩ :: _) _ _); refine wpList_store_Row (xs := u8s TG) rfl rfl rfl HRRQ.out rfl (by rw [u8s_length, u8s_length, HTL.out, List.length_replicate]) (by rw [u8s_length, HTL.out]; exact size22) (u8s_oneA _) ?_; intro wZ hrZ hcZ hsZ; have HRZ := Lib.hid hrZ; have HCZ := Lib.hid (hcZ none_ w HCQ.out (fun h => by have := HZ1.out; have := HZ2.out; omega)); clear hrZ hcZ hsZ))
        refine ret_row rfl rfl HRZ.out Tryd.underlying33 rfl (by rw [u8s_length, HTL.out]; exact size22) rfl ?_
        exact ⟨rfl, HCZ.out⟩
    · rw [if_pos (by rfl)]
      try simp only [List.getElem_toArray, List.getElem_cons_succ, List.getElem_cons_zero]
      refine wp_alloc_row rfl (w2 0 0) zero45 ?_
      intro y7 hry7 hcy7 hsy7
      have hch7 : Chg none_ w9 y7 := hch1.trans hcy7
      have hby := hch1.size
      refine hK.out _ _ (hch7) (fun _ => ?_)
      clear hK K
      try simp only [Act.put, List.setIfInBounds_toArray, List.set_cons_zero, List.set_cons_succ]
      refine wpAnyH_ready (rs := [3]) (by kernel_rfl) (by simp) ?_
      refine AllReadyH.cons rfl (fun K hK => ?_) AllReadyH.nil
      rw [if_pos (by rfl)]
      try simp only [List.getElem_toArray, List.getElem_cons_succ, List.getElem_cons_zero]
      go_simp
      refine (HE1.out _).mono ?_
      rintro e y8 ⟨rfl, hcy8⟩
      have hch8 : Chg none_ w9 y8 := hch7.trans hcy8
      have hr8 := hry7.chg hcy8 (fun h => h)
      refine hK.out _ _ (hch8) (fun _ => ?_)
      clear hK K
      try simp only [Act.put, List.setIfInBounds_toArray, List.set_cons_zero, List.set_cons_succ, List.getElem_toArray, List.getElem_cons_succ, List.getElem_cons_zero]
      refine wpAnyH_ready (rs := [4]) (by kernel_rfl) (by simp) ?_
      refine AllReadyH.cons rfl (fun K hK => ?_) AllReadyH.nil
      rw [if_pos (by rfl)]
      try simp only [List.getElem_toArray, List.getElem_cons_succ, List.getElem_cons_zero]
      go_simp
      refine (HPE.out _).mono ?_
      rintro e y9 ⟨rfl, hcy9⟩
      have hch9 : Chg none_ w9 y9 := hch8.trans hcy9
      have hr9 := hr8.chg hcy9 (fun h => h)
      refine hK.out _ _ (hch9) (fun _ => ?_)
      clear hK K
      try simp only [Act.put, List.setIfInBounds_toArray, List.set_cons_zero, List.set_cons_succ, List.getElem_toArray, List.getElem_cons_succ, List.getElem_cons_zero]
      refine wpAnyH_ready (rs := [6]) (by kernel_rfl) (by simp) ?_
      refine AllReadyH.cons rfl (fun K hK => ?_) AllReadyH.nil
      rw [if_pos (by rfl)]
      try simp only [List.getElem_toArray, List.getElem_cons_succ, List.getElem_cons_zero]
      refine wp_store_row (ty := 86) (xs := pw (polB E1)) rfl rfl (hr9) rfl (rfl) (size45) (rfl) ?_
      intro wS hr_wS hc_wS hs_wS
      refine hK.out _ _ (hc_wS none_ w9 hch9 (fun h => by omega)) (fun _ => ?_)
      clear hK K
      try simp only [Act.put]
      have hchF : Chg none_ w9 wS := hc_wS none_ w9 hch9 (fun h => by omega)
      refine wpAnyH_done (by kernel_rfl) ?_ _
      have HRA := Lib.hid hr_wS
      have HRS := Lib.hid (HR9.out.chg hchF (fun h => h))
      have HRRF := Lib.hid (HRR9.out.chg hchF (fun h => h))
      have HCF := Lib.hid (HC9.out.trans hchF)
      clear hr_wS hc_wS hs_wS hchF
      go_wp2_with (first | ((with_reducible show wpList _ _ _ (⟨some 25, .load 86 _, _, _, _, _⟩ :: _) _ _); refine wpList_load_Row rfl rfl rfl (HRS.out) Tryd.underlying86 rfl (size45) ?_) | ((with_reducible show wpList _ _ _ (⟨some 26, .load 86 _, _, _, _, _⟩ :: _) _ _); refine wpList_load_Row rfl rfl rfl (HRA.out) Tryd.underlying86 rfl (size45) ?_) | (go_at_call 41; refine (plus_any (polB SM) (polB E1) _).mono ?_; rintro e wP ⟨rfl, hcP⟩; have HCP := Lib.hid (HCF.out.trans hcP); have HRRP := Lib.hid (HRRF.out.chg hcP (fun h => h)); clear hcP) | (go_at_call 42; refine (HBY.out _).mono ?_; rintro e wQ ⟨rfl, hcQ⟩; have HCQ := Lib.hid (HCP.out.trans hcQ); have HRRQ := Lib.hid (HRRP.out.chg hcQ (fun h => h)); clear hcQ) | ((with_reducible show wpList _ _ _ (⟨none, .store 33 (.tmp 8) _, _, _, _, _⟩ :: _) _ _); refine wpList_store_Row (xs := u8s TG) rfl rfl rfl HRRQ.out rfl (by rw [u8s_length, u8s_length, HTL.out, List.length_replicate]) (by rw [u8s_length, HTL.out]; exact size22) (u8s_oneA _) ?_; intro wZ hrZ hcZ hsZ; have HRZ := Lib.hid hrZ; have HCZ := Lib.hid (hcZ none_ w HCQ.out (fun h => by have := HZ1.out; have := HZ2.out; omega)); clear hrZ hcZ hsZ))
      refine ret_row rfl rfl HRZ.out Tryd.underlying33 rfl (by rw [u8s_length, HTL.out]; exact size22) rfl ?_
      exact ⟨rfl, HCZ.out⟩
  · rw [if_pos (by rfl)]
    try simp only [List.getElem_toArray, List.getElem_cons_succ, List.getElem_cons_zero]
    refine wp_alloc_row rfl (w2 0 0) zero45 ?_
    intro y10 hry10 hcy10 hsy10
    have hch10 : Chg none_ w9 y10 := hch0.trans hcy10
    have hby := hch0.size
    refine hK.out _ _ (hch10) (fun _ => ?_)
    clear hK K
    try simp only [Act.put, List.setIfInBounds_toArray, List.set_cons_zero, List.set_cons_succ]
    refine wpAnyH_ready (rs := [2]) (by kernel_rfl) (by simp) ?_
    refine AllReadyH.cons rfl (fun K hK => ?_) AllReadyH.nil
    rw [if_pos (by rfl)]
    try simp only [List.getElem_toArray, List.getElem_cons_succ, List.getElem_cons_zero]
    go_simp
    refine (HNM.out _).mono ?_
    rintro e y11 ⟨rfl, hcy11⟩
    have hch11 : Chg none_ w9 y11 := hch10.trans hcy11
    have hr11 := hry10.chg hcy11 (fun h => h)
    refine hK.out _ _ (hch11) (fun _ => ?_)
    clear hK K
    try simp only [Act.put, List.setIfInBounds_toArray, List.set_cons_zero, List.set_cons_succ, List.getElem_toArray, List.getElem_cons_succ, List.getElem_cons_zero]
    refine wpAnyH_ready (rs := [3]) (by kernel_rfl) (by simp) ?_
    refine AllReadyH.cons rfl (fun K hK => ?_) AllReadyH.nil
    rw [if_pos (by rfl)]
    try simp only [List.getElem_toArray, List.getElem_cons_succ, List.getElem_cons_zero]
    go_simp
    refine (HE1.out _).mono ?_
    rintro e y12 ⟨rfl, hcy12⟩
    have hch12 : Chg none_ w9 y12 := hch11.trans hcy12
    have hr12 := hr11.chg hcy12 (fun h => h)
    refine hK.out _ _ (hch12) (fun _ => ?_)
    clear hK K
    try simp only [Act.put, List.setIfInBounds_toArray, List.set_cons_zero, List.set_cons_succ, List.getElem_toArray, List.getElem_cons_succ, List.getElem_cons_zero]
    refine wpAnyH_ready (rs := [4]) (by kernel_rfl) (by simp) ?_
    refine AllReadyH.cons rfl (fun K hK => ?_) AllReadyH.nil
    rw [if_pos (by rfl)]
    try simp only [List.getElem_toArray, List.getElem_cons_succ, List.getElem_cons_zero]
    go_simp
    refine (HPE.out _).mono ?_
    rintro e y13 ⟨rfl, hcy13⟩
    have hch13 : Chg none_ w9 y13 := hch12.trans hcy13
    have hr13 := hr12.chg hcy13 (fun h => h)
    refine hK.out _ _ (hch13) (fun _ => ?_)
    clear hK K
    try simp only [Act.put, List.setIfInBounds_toArray, List.set_cons_zero, List.set_cons_succ, List.getElem_toArray, List.getElem_cons_succ, List.getElem_cons_zero]
    refine wpAnyH_ready (rs := [6]) (by kernel_rfl) (by simp) ?_
    refine AllReadyH.cons rfl (fun K hK => ?_) AllReadyH.nil
    rw [if_pos (by rfl)]
    try simp only [List.getElem_toArray, List.getElem_cons_succ, List.getElem_cons_zero]
    refine wp_store_row (ty := 86) (xs := pw (polB E1)) rfl rfl (hr13) rfl (rfl) (size45) (rfl) ?_
    intro wS hr_wS hc_wS hs_wS
    refine hK.out _ _ (hc_wS none_ w9 hch13 (fun h => by omega)) (fun _ => ?_)
    clear hK K
    try simp only [Act.put]
    have hchF : Chg none_ w9 wS := hc_wS none_ w9 hch13 (fun h => by omega)
    refine wpAnyH_done (by kernel_rfl) ?_ _
    have HRA := Lib.hid hr_wS
    have HRS := Lib.hid (HR9.out.chg hchF (fun h => h))
    have HRRF := Lib.hid (HRR9.out.chg hchF (fun h => h))
    have HCF := Lib.hid (HC9.out.trans hchF)
    clear hr_wS hc_wS hs_wS hchF
    go_wp2_with (first | ((with_reducible show wpList _ _ _ (⟨some 25, .load 86 _, _, _, _, _⟩ :: _) _ _); refine wpList_load_Row rfl rfl rfl (HRS.out) Tryd.underlying86 rfl (size45) ?_) | ((with_reducible show wpList _ _ _ (⟨some 26, .load 86 _, _, _, _, _⟩ :: _) _ _); refine wpList_load_Row rfl rfl rfl (HRA.out) Tryd.underlying86 rfl (size45) ?_) | (go_at_call 41; refine (plus_any (polB SM) (polB E1) _).mono ?_; rintro e wP ⟨rfl, hcP⟩; have HCP := Lib.hid (HCF.out.trans hcP); have HRRP := Lib.hid (HRRF.out.chg hcP (fun h => h)); clear hcP) | (go_at_call 42; refine (HBY.out _).mono ?_; rintro e wQ ⟨rfl, hcQ⟩; have HCQ := Lib.hid (HCP.out.trans hcQ); have HRRQ := Lib.hid (HRRP.out.chg hcQ (fun h => h)); clear hcQ) | ((with_reducible show wpList _ _ _ (⟨none, .store 33 (.tmp 8) _, _, _, _, _⟩ :: _) _ _); refine wpList_store_Row (xs := u8s TG) rfl rfl rfl HRRQ.out rfl (by rw [u8s_length, u8s_length, HTL.out, List.length_replicate]) (by rw [u8s_length, HTL.out]; exact size22) (u8s_oneA _) ?_; intro wZ hrZ hcZ hsZ; have HRZ := Lib.hid hrZ; have HCZ := Lib.hid (hcZ none_ w HCQ.out (fun h => by have := HZ1.out; have := HZ2.out; omega)); clear hrZ hcZ hsZ))
    refine ret_row rfl rfl HRZ.out Tryd.underlying33 rfl (by rw [u8s_length, HTL.out]; exact size22) rfl ?_
    exact ⟨rfl, HCZ.out⟩
end Go.Proofs.YtfpflhcabjcamaaDoor
