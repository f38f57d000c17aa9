/- Layer 9 (gcm): what a sum is behind a text, the program's. -/
import Derived.Test.YtfpflhcabjcamaaDoorV9Top
namespace Go.Proofs.YtfpflhcabjcamaaDoor
open Go.RowKit

theorem u8s_drop (l : List Nat) (k : Nat) : (u8s l).drop k = u8s (l.drop k) := by simp [u8s]
theorem u8s_take (l : List Nat) (k : Nat) : (u8s l).take k = u8s (l.take k) := by simp [u8s]
theorem u8s_append (l m : List Nat) : u8s l ++ u8s m = u8s (l ++ m) := by simp [u8s]

set_option maxRecDepth 100000 in
set_option maxHeartbeats 4000000 in
theorem behind9_any (h y g : Nat) (T : Nat → Prop) (A : Option Addr) (cap : Nat) (text : List Nat) (w : World) (hg : Row w g 116 (shC h 128)) (hv : View w T A text.length (u8s text)) (hcap : text.length ≤ cap) (hl : text.length ≤ 1000000) (hb : ∀ x ∈ text, x < 256) :
    Calls Tryd.prog 50 #[.pointer (some ⟨g, 0, none⟩), .agg (pw y).toArray, .slice A text.length cap] w fun e w' => e = .returned (.agg (pw (hornS h y text ((text.length + 15) / 16))).toArray) ∧ Chg none_ w w' := by
  have HG := Lib.hid hg
  have HGL := Lib.hid hg.lt
  have HV : Hid (View w (fun b => b < w.heap.size) A text.length (u8s text)) := Lib.hid (hv.mono (fun b hb _ => hb))
  have HB := Lib.hid hb
  have HTM := Lib.hid (fun p w hr => times_any h p g w hr)
  have HLEN := Lib.hid hl
  have HCAP := Lib.hid hcap
  clear hg hv hb hl hcap
  go_enter Tryd.func50, Tryd.ntmps50
  go_wp2_with (first | ((with_reducible show wpList _ _ _ (⟨_, .box 86 _, _, _, _, _⟩ :: _) _ _); refine wpList_box_Row rfl rfl (pw y) rfl ?_; intro w1 hr1 hc1 hs1; have HR1 := Lib.hid hr1; have HC1 := Lib.hid hc1; clear hr1 hc1 hs1) | ((with_reducible show wpList _ _ _ (⟨_, .alloc 86, _, _, _, _⟩ :: _) _ _); refine wpList_alloc_Row rfl rfl (w2 0 0) zero45 ?_; intro w2 hr2 hc2 hs2; have HR2 := Lib.hid hr2; have HC2 := Lib.hid (HC1.out.trans hc2); have HR1b := Lib.hid (HR1.out.chg hc2 (fun h => h)); clear hr2 hc2 hs2))
  have HG1 := Lib.hid (show w.heap.size < w1.heap.size from HR1.out.lt)
  have HG2 := Lib.hid (show w1.heap.size < w2.heap.size from HR2.out.lt)
  clear HR1 HC1
  simp only [Act.put, List.setIfInBounds_toArray, List.set_cons_zero, List.set_cons_succ]
  go_loopw [2, 7] (fun t _ wr => ∃ (k : Nat) (A' : Option Addr) (c' : Nat), k ≤ (text.length + 15) / 16 ∧ t = .slice A' (text.length - 16 * k) c' ∧ (View wr (fun b => b < w.heap.size) A' (text.length - 16 * k) (u8s (text.drop (16 * k))) ∧ text.length - 16 * k ≤ c') ∧ Row wr w.heap.size 86 (pw (hornS h y text k)) ∧ Chg (fun b => b = w.heap.size ∨ w2.heap.size ≤ b) w2 wr) (fun t _ _ => match t with | .slice _ n _ => n | _ => 0)
  case atStart => exact ⟨0, A, cap, Nat.zero_le _, rfl, ⟨HV.out.chg HC2.out (fun _ _ h => h), HCAP.out⟩, HR1b.out, Chg.refl _ _⟩
  case round =>
    obtain ⟨k, A, c0, hk, rfl, ⟨hv, hc0⟩, hrow, hch⟩ := hrel
    have HROW := Lib.hid hrow
    have HC := Lib.hid hch
    have HVV := Lib.hid hv
    clear hrow hch hv
    by_cases hlt : 16 * k < text.length
    · obtain ⟨m, hm⟩ : ∃ m, m = text.length - 16 * k := ⟨_, rfl⟩
      obtain ⟨q, hq⟩ : ∃ q, min m 16 = q := ⟨_, rfl⟩
      obtain ⟨rest, hrest⟩ : ∃ rest, rest = text.drop (16 * k) := ⟨_, rfl⟩
      obtain ⟨ym, hym⟩ : ∃ ym, ym = hornS h y text k := ⟨_, rfl⟩
      obtain ⟨blk, hblk⟩ : ∃ blk, blk = rest.take 16 ++ (List.replicate 16 0).drop m := ⟨_, rfl⟩
      have hrl : rest.length = m := by rw [hrest, List.length_drop, hm]
      have hrb : ∀ x ∈ rest, x < 256 := fun x hx => HB.out x (by rw [hrest] at hx; exact List.mem_of_mem_drop hx)
      have HQ := Lib.hid hq
      have HQM : Hid (q ≤ m ∧ q ≤ 16 ∧ 0 < q) := Lib.hid (by omega)
      have HPOS : Hid (text.length - 16 * (k + 1) < m) := Lib.hid (by omega)
      have HSL : Hid (m - q = text.length - 16 * (k + 1)) := Lib.hid (by omega)
      have HKN : Hid (k + 1 ≤ (text.length + 15) / 16) := Lib.hid (by omega)
      have HNX : Hid (hornS h y text (k + 1) = gM h (ym ^^^ polB rest)) := Lib.hid (by rw [hornS, ← hym, ← hrest])
      have hbl : blk.length = 16 := by rw [hblk, List.length_append, List.length_take, List.length_drop, List.length_replicate, hrl]; omega
      have HBL := Lib.hid hbl
      have hbb : ∀ x ∈ blk, x < 256 := by
        intro x hx
        rw [hblk] at hx
        rcases List.mem_append.1 hx with hx | hx
        · exact hrb x (List.mem_of_mem_take hx)
        · rw [List.eq_of_mem_replicate (List.mem_of_mem_drop hx)]; decide
      have HPL : Hid (∀ w, Calls Tryd.prog 39 #[.agg (u8s blk).toArray] w fun e w' => e = .returned (.agg (pw (polB rest)).toArray) ∧ Chg none_ w w') := Lib.hid (fun w => by
        have := polynomialOf_any blk w hbl hbb
        rwa [show polB blk = polB rest from by rw [hblk, List.drop_replicate]; exact polB_fill rest _] at this)
      have HBE : Hid ([] ++ ((u8s rest).take 16 ++ (u8s (List.replicate 16 0)).drop m) ++ [] = u8s blk) := Lib.hid (by rw [List.nil_append, List.append_nil, u8s_take, u8s_drop, u8s_append, hblk])
      rw [← hym] at HROW
      rw [← hrest, ← hm] at HVV
      rw [← hm]
      have hml : m ≤ 1000000 := by have := HLEN.out; omega
      have hc1 : m ≤ c0 := by rw [hm]; exact hc0
      have HM1 := Lib.hid hc1
      have HRS : Hid (text.drop (16 * (k + 1)) = rest.drop 16) := Lib.hid (by rw [hrest, List.drop_drop]; congr 1)
      have h0m : (0 : Int) < (m : Int) := by omega
      have HRM := Lib.hid hrl
      clear hq hrest hym hblk hrl hrb hbl hbb hm hk hc0 hlt hml hc1
      obtain ⟨wA, hwA⟩ : ∃ x, x = wr := ⟨_, rfl⟩
      subst hwA
      go_wp2_with (first | ((with_reducible show wpList _ _ _ (⟨some 7, .alloc 33, _, _, _, _⟩ :: _) _ _); refine wpList_alloc_Row rfl rfl (u8s (List.replicate 16 0)) zero22 ?_; intro w3 hr3 hc3 hs3; have HR3 := Lib.hid hr3; have HC3 := Lib.hid hc3; have HROWb := Lib.hid (HROW.out.chg hc3 (fun h => h)); have HVVb := Lib.hid (HVV.out.chg hc3 (fun _ _ h => h)); clear hr3 hc3 hs3) | ((with_reducible show wpList _ _ _ (⟨some 12, _, _, _, _, _⟩ :: _) _ _); refine wpList_slice_arr_all rfl 33 5 _ rfl 16 1 wA.heap.size 0 rfl Tryd.underlying33 size5 ?_) | ((with_reducible show wpList _ _ _ (⟨some 14, _, _, _, _, _⟩ :: _) _ _); refine wpList_copy_min rfl _ _ _ _ rfl (e := 33) (g := wA.heap.size) (n := 16) (c := 16) (m := m) (c' := c0) (A := A) (pre := []) (ys := u8s (List.replicate 16 0)) (post := []) (xs := u8s rest) (D := some ⟨wA.heap.size, 0, none⟩) rfl rfl (fun _ => rfl) Tryd.underlying22 size5 (by rw [List.nil_append, List.append_nil]; exact HR3.out) (by simp) HVVb.out (u8s_one _) ?_; intro wC hrC hcC; rw [HBE.out] at hrC; rw [HQ.out]; have HRC := Lib.hid hrC; have HCC := Lib.hid hcC; clear hrC hcC) | ((with_reducible show wpList _ _ _ (⟨some 15, _, _, _, _, _⟩ :: _) _ _); refine wpList_slice_low rfl 22 5 _ _ rfl A m c0 q rfl rfl Tryd.underlying22 size5 HQM.out.1 ?_))
      have HGA := Lib.hid (show w2.heap.size ≤ wA.heap.size from HC.out.size)
      have HCW : Hid (Chg (fun b => b = w.heap.size ∨ w2.heap.size ≤ b) w2 wC) := Lib.hid ((HC.out.trans (HC3.out.mono (fun _ _ h => h.elim))).andThen HCC.out (fun b h e => by have := HGA.out; omega))
      have HRY := Lib.hid (HROWb.out.chg HCC.out (fun e => by have := HGA.out; have := HG1.out; have := HG2.out; omega))
      have HRB : Hid (∀ w', Chg (· = w.heap.size) wC w' → Row w' wA.heap.size 33 (u8s blk)) := Lib.hid (fun w' h => HRC.out.chg h (fun e => by have := HGA.out; have := HG1.out; have := HG2.out; omega))
      have HRG : Hid (∀ w', Chg (· = w.heap.size) wC w' → Row w' g 116 (shC h 128)) := Lib.hid (fun w' hh => (HG.out.chg (HC2.out.andThen HCW.out (S := none_) (fun b hb e => by have := HG1.out; have := HG2.out; omega)) (fun h => h)).chg hh (fun e => by have := HGL.out; omega))
      have HVN : Hid (∀ w', Chg (· = w.heap.size) wC w' → (View w' (fun b => b < w.heap.size) (dropA A c0 q) (text.length - 16 * (k + 1)) (u8s (text.drop (16 * (k + 1)))) ∧ text.length - 16 * (k + 1) ≤ c0 - q)) := Lib.hid (fun w' hh => ⟨by
        have h1 := (HVVb.out.chg HCC.out (fun b hb e => by have := HGA.out; have := HG1.out; have := HG2.out; omega)).chg hh (fun b hb e => by omega)
        have h2 := h1.dropA (k := q) HM1.out
        rw [u8s_drop, HSL.out] at h2
        rw [HRS.out]
        have hq2 : rest.drop q = rest.drop 16 := by
          have := HQ.out
          have hl := HRM.out
          rcases Nat.lt_or_ge m 16 with h16 | h16
          · rw [List.drop_of_length_le (by omega), List.drop_of_length_le (by omega)]
          · rw [show q = 16 from by omega]
        rwa [hq2] at h2, by have := HSL.out; have := HM1.out; omega⟩)
      obtain ⟨gb, hgb⟩ : ∃ gb, gb = wA.heap.size := ⟨_, rfl⟩
      rw [← hgb] at HRB ⊢
      clear HRC HROWb HVVb HC3 HR3 HCC HROW HVV hgb
      refine wp_region_held_drew (S := fun w' => Chg (· = w.heap.size) wC w') (by kernel_rfl) ((Chg.refl (· = w.heap.size) wC).drew) (fun hch0 => ?_)
      refine wpAnyH_take (i := 0) (v := .pointer (some ⟨g, 0, none⟩)) rfl (by kernel_rfl) (by kernel_rfl) (by kernel_rfl) (by first | exact fun _ _ _ h => h | exact fun _ _ _ h => nomatch h.1) (Or.inl ⟨by rfl, fun w_ hw_ => by go_simp⟩) hch0 ?_
      refine wpAnyH_take (i := 2) (v := .agg (u8s blk).toArray) rfl (by kernel_rfl) (by kernel_rfl) (by kernel_rfl) (by first | exact fun _ _ _ h => h | exact fun _ _ _ h => nomatch h.1) (yieldsIf_load_mid (by rfl) 33 _ rfl gb 0 rfl (u8s blk) _ (fun w' hw' => (HRB.out w' hw').range) Tryd.underlying33 rfl (by rw [u8s_length, HBL.out]; exact size22)) hch0 ?_
      try simp only [Act.put, List.setIfInBounds_toArray, List.set_cons_zero, List.set_cons_succ, List.getElem_toArray, List.getElem_cons_succ, List.getElem_cons_zero]
      refine wpAnyH_ready (rs := [1, 3]) (by kernel_rfl) (by simp) ?_
      refine AllReadyH.cons rfl (fun K hK => ?_) (AllReadyH.cons rfl (fun K hK => ?_) AllReadyH.nil)
      · rw [if_pos (by rfl)]
        try simp only [List.getElem_toArray, List.getElem_cons_succ, List.getElem_cons_zero]
        refine wp_load_row (ty := 86) rfl rfl (HRY.out.drew) Tryd.underlying86 rfl (size45) ?_
        refine hK.out _ _ (hch0) (fun _ => ?_)
        clear hK K
        try simp only [Act.put, List.setIfInBounds_toArray, List.set_cons_zero, List.set_cons_succ]
        refine wpAnyH_ready (rs := [3]) (by kernel_rfl) (by simp) ?_
        refine AllReadyH.cons rfl (fun K hK => ?_) AllReadyH.nil
        rw [if_pos (by rfl)]
        try simp only [List.getElem_toArray, List.getElem_cons_succ, List.getElem_cons_zero]
        go_simp
        refine (HPL.out _).mono ?_
        rintro e x3 ⟨rfl, hc3⟩
        have hchA : Chg (· = w.heap.size) wC x3 := hch0.trans (hc3.mono (fun _ _ h => h.elim))
        have hrA := HRY.out.drew.chg hc3 (fun h => h)
        refine hK.out _ _ (hchA) (fun _ => ?_)
        clear hK K
        try simp only [Act.put, List.setIfInBounds_toArray, List.set_cons_zero, List.set_cons_succ, List.getElem_toArray, List.getElem_cons_succ, List.getElem_cons_zero]
        refine wpAnyH_ready (rs := [4]) (by kernel_rfl) (by simp) ?_
        refine AllReadyH.cons rfl (fun K hK => ?_) AllReadyH.nil
        rw [if_pos (by rfl)]
        try simp only [List.getElem_toArray, List.getElem_cons_succ, List.getElem_cons_zero]
        go_simp
        refine (plus_any ym (polB rest) _).mono ?_
        rintro e x4 ⟨rfl, hc4⟩
        have hch4 : Chg (· = w.heap.size) wC x4 := hchA.trans (hc4.mono (fun _ _ h => h.elim))
        refine hK.out _ _ (hch4) (fun _ => ?_)
        clear hK K
        try simp only [Act.put, List.setIfInBounds_toArray, List.set_cons_zero, List.set_cons_succ, List.getElem_toArray, List.getElem_cons_succ, List.getElem_cons_zero]
        refine wpAnyH_ready (rs := [5]) (by kernel_rfl) (by simp) ?_
        refine AllReadyH.cons rfl (fun K hK => ?_) AllReadyH.nil
        rw [if_pos (by rfl)]
        try simp only [List.getElem_toArray, List.getElem_cons_succ, List.getElem_cons_zero]
        go_simp
        refine (HTM.out (ym ^^^ polB rest) _ (HRG.out _ hch4)).mono ?_
        rintro e x5 ⟨rfl, hc5⟩
        have hch5 : Chg (· = w.heap.size) wC x5 := hch4.trans (hc5.mono (fun _ _ h => h.elim))
        have hr5 := (hrA.chg hc4 (fun h => h)).chg hc5 (fun h => h)
        refine hK.out _ _ (hch5) (fun _ => ?_)
        clear hK K
        try simp only [Act.put, List.setIfInBounds_toArray, List.set_cons_zero, List.set_cons_succ, List.getElem_toArray, List.getElem_cons_succ, List.getElem_cons_zero]
        refine wpAnyH_ready (rs := [6]) (by kernel_rfl) (by simp) ?_
        refine AllReadyH.cons rfl (fun K hK => ?_) AllReadyH.nil
        rw [if_pos (by rfl)]
        try simp only [List.getElem_toArray, List.getElem_cons_succ, List.getElem_cons_zero]
        refine wp_store_row (ty := 86) (xs := pw (gM h (ym ^^^ polB rest))) rfl rfl (hr5) rfl (rfl) (size45) (rfl) ?_
        intro w9 hr_w9 hc_w9 hs_w9
        refine hK.out _ _ (hc_w9 _ wC hch5 (fun _ => rfl)) (fun _ => ?_)
        clear hK K
        try simp only [Act.put]
        have hch9 : Chg (· = w.heap.size) wC w9 := hc_w9 _ wC hch5 (fun _ => rfl)
        refine wpAnyH_done (by kernel_rfl) ?_ _
        go_wp2
        go_roundw
        case rel => exact ⟨k + 1, dropA A c0 q, c0 - q, by have := HKN.out; omega, by rw [HSL.out], HVN.out _ hch9, by rw [HNX.out]; exact hr_w9, HCW.out.andThen hch9 (fun b h e => Or.inl e)⟩
        case measure => have := HQM.out; simp; omega
      · rw [if_pos (by rfl)]
        try simp only [List.getElem_toArray, List.getElem_cons_succ, List.getElem_cons_zero]
        go_simp
        refine (HPL.out _).mono ?_
        rintro e x3 ⟨rfl, hc3⟩
        have hchA : Chg (· = w.heap.size) wC x3 := hch0.trans (hc3.mono (fun _ _ h => h.elim))
        have hrA := HRY.out.drew.chg hc3 (fun h => h)
        refine hK.out _ _ (hchA) (fun _ => ?_)
        clear hK K
        try simp only [Act.put, List.setIfInBounds_toArray, List.set_cons_zero, List.set_cons_succ, List.getElem_toArray, List.getElem_cons_succ, List.getElem_cons_zero]
        refine wpAnyH_ready (rs := [1]) (by kernel_rfl) (by simp) ?_
        refine AllReadyH.cons rfl (fun K hK => ?_) AllReadyH.nil
        rw [if_pos (by rfl)]
        try simp only [List.getElem_toArray, List.getElem_cons_succ, List.getElem_cons_zero]
        refine wp_load_row (ty := 86) rfl rfl (hrA) Tryd.underlying86 rfl (size45) ?_
        refine hK.out _ _ (hchA) (fun _ => ?_)
        clear hK K
        try simp only [Act.put, List.setIfInBounds_toArray, List.set_cons_zero, List.set_cons_succ]
        refine wpAnyH_ready (rs := [4]) (by kernel_rfl) (by simp) ?_
        refine AllReadyH.cons rfl (fun K hK => ?_) AllReadyH.nil
        rw [if_pos (by rfl)]
        try simp only [List.getElem_toArray, List.getElem_cons_succ, List.getElem_cons_zero]
        go_simp
        refine (plus_any ym (polB rest) _).mono ?_
        rintro e x4 ⟨rfl, hc4⟩
        have hch4 : Chg (· = w.heap.size) wC x4 := hchA.trans (hc4.mono (fun _ _ h => h.elim))
        refine hK.out _ _ (hch4) (fun _ => ?_)
        clear hK K
        try simp only [Act.put, List.setIfInBounds_toArray, List.set_cons_zero, List.set_cons_succ, List.getElem_toArray, List.getElem_cons_succ, List.getElem_cons_zero]
        refine wpAnyH_ready (rs := [5]) (by kernel_rfl) (by simp) ?_
        refine AllReadyH.cons rfl (fun K hK => ?_) AllReadyH.nil
        rw [if_pos (by rfl)]
        try simp only [List.getElem_toArray, List.getElem_cons_succ, List.getElem_cons_zero]
        go_simp
        refine (HTM.out (ym ^^^ polB rest) _ (HRG.out _ hch4)).mono ?_
        rintro e x5 ⟨rfl, hc5⟩
        have hch5 : Chg (· = w.heap.size) wC x5 := hch4.trans (hc5.mono (fun _ _ h => h.elim))
        have hr5 := (hrA.chg hc4 (fun h => h)).chg hc5 (fun h => h)
        refine hK.out _ _ (hch5) (fun _ => ?_)
        clear hK K
        try simp only [Act.put, List.setIfInBounds_toArray, List.set_cons_zero, List.set_cons_succ, List.getElem_toArray, List.getElem_cons_succ, List.getElem_cons_zero]
        refine wpAnyH_ready (rs := [6]) (by kernel_rfl) (by simp) ?_
        refine AllReadyH.cons rfl (fun K hK => ?_) AllReadyH.nil
        rw [if_pos (by rfl)]
        try simp only [List.getElem_toArray, List.getElem_cons_succ, List.getElem_cons_zero]
        refine wp_store_row (ty := 86) (xs := pw (gM h (ym ^^^ polB rest))) rfl rfl (hr5) rfl (rfl) (size45) (rfl) ?_
        intro w9 hr_w9 hc_w9 hs_w9
        refine hK.out _ _ (hc_w9 _ wC hch5 (fun _ => rfl)) (fun _ => ?_)
        clear hK K
        try simp only [Act.put]
        have hch9 : Chg (· = w.heap.size) wC w9 := hc_w9 _ wC hch5 (fun _ => rfl)
        refine wpAnyH_done (by kernel_rfl) ?_ _
        go_wp2
        go_roundw
        case rel => exact ⟨k + 1, dropA A c0 q, c0 - q, by have := HKN.out; omega, by rw [HSL.out], HVN.out _ hch9, by rw [HNX.out]; exact hr_w9, HCW.out.andThen hch9 (fun b h e => Or.inl e)⟩
        case measure => have := HQM.out; simp; omega
    · have hk2 : k = (text.length + 15) / 16 := by omega
      have hm0 : text.length - 16 * k = 0 := by omega
      have HHN : Hid (hornS h y text k = hornS h y text ((text.length + 15) / 16)) := Lib.hid (by rw [← hk2])
      rw [HHN.out] at HROW
      rw [hm0]
      have HR2c := Lib.hid (HR2.out.chg HC.out (fun e => by have := HG1.out; have := HG2.out; omega))
      clear hk hk2 hm0 hlt
      go_wp2_with (first | ((with_reducible show wpList _ _ _ (⟨some 22, .load 86 _, _, _, _, _⟩ :: _) _ _); refine wpList_load_Row rfl rfl rfl (HROW.out) Tryd.underlying86 rfl (size45) ?_) | ((with_reducible show wpList _ _ _ (⟨_, .store 86 (.tmp 6) _, _, _, _, _⟩ :: _) _ _); refine wpList_store_Row (xs := pw (hornS h y text ((text.length + 15) / 16))) rfl rfl rfl (HR2c.out) (rfl) (rfl) (size45) (rfl) ?_; intro w9 hr9 hc9 hs9; have HR9 := Lib.hid hr9; have HC9 := Lib.hid hc9; clear hr9 hc9 hs9))
      refine ret_row rfl rfl HR9.out Tryd.underlying86 rfl size45 rfl ?_
      exact ⟨rfl, HC9.out none_ w (HC2.out.andThen HC.out (fun b h e => by have := HG1.out; have := HG2.out; omega)) (fun h => by have := HG1.out; omega)⟩
end Go.Proofs.YtfpflhcabjcamaaDoor
