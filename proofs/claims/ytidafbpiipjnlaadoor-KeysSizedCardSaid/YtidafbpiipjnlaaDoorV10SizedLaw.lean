/- Layer 10 (keys): the walk of the law KeysSized. -/
import Derived.Test.YtidafbpiipjnlaaDoorV10Alive
import Derived.Test.YtidafbpiipjnlaaDoorV10RMake
import Derived.Test.YtidafbpiipjnlaaDoorV9RSeal
import Derived.Test.YtidafbpiipjnlaaDoorK0
namespace Go.Proofs.YtidafbpiipjnlaaDoor
open Go.RowKit

/-- With one bit of its tag turned it isn't opened. -/
theorem back_turnK (s : Sc) (n : Int) (more text : List Nat) (i j : Nat) (hi : i < 16) : openK s n more ((sealK s n more text).set (text.length + i) ((sealK s n more text).getD (text.length + i) 0 ^^^ 2 ^ j)) = ([], 7) := by
  obtain ⟨key, hk⟩ : ∃ k, k = s.key := ⟨_, rfl⟩
  obtain ⟨nonce, hn⟩ : ∃ k, k = nonceX s.iv n := ⟨_, rfl⟩
  unfold sealK openK
  rw [← hk, ← hn]
  have hl := streamN_len key (jN nonce 2) text
  have ht := tagG_len key nonce more (streamN key (jN nonce 2) text)
  have e1 : (sealG key nonce more text).getD (text.length + i) 0 = (tagG key nonce more (streamN key (jN nonce 2) text)).getD i 0 := by
    unfold sealG
    rw [List.getD_eq_getElem?_getD, List.getElem?_append_right (by omega), hl, Nat.add_sub_cancel_left, List.getD_eq_getElem?_getD]
  rw [e1]
  have e2 : ∀ v, (sealG key nonce more text).set (text.length + i) v = streamN key (jN nonce 2) text ++ (tagG key nonce more (streamN key (jN nonce 2) text)).set i v := fun v => by
    unfold sealG
    rw [List.set_append_right _ _ (by omega), hl, Nat.add_sub_cancel_left]
  rw [e2]
  exact open_other key nonce more text _ (by rw [List.length_set]; exact ht) (set_ne _ i _ (by omega) (xor_bit_ne _ j))
/-- What the call has made lies in a row of its own. -/
theorem Owned.rowOfK {w : World} {base : Nat} {v : Value} {l : List Nat} (h : Owned w base v l) (hl : 0 < l.length) : ∃ g cap sp, v = .slice (some ⟨g, 0, none⟩) l.length cap ∧ l.length ≤ cap ∧ Row w g 5 (u8s l ++ sp) ∧ base ≤ g := by
  have h0 := h
  rcases h.2 with ⟨rfl, h3⟩ | ⟨g, cap, cur, rfl, hb, hh, hnc, _, _, _⟩
  · omega
  · obtain ⟨sp, hr, hb⟩ := Row.of_own h0
    exact ⟨g, cap, sp, rfl, hnc, hr, hb⟩

set_option maxRecDepth 100000 in
set_option maxHeartbeats 8000000 in
theorem walk_KeysSized (h : List Nat) (n : Int) (b0 : Int) (A : Option Addr) (len cap : Nat) (zs : List Int) (W : World) (hhl : h.length = 32) (hhb : ∀ x ∈ h, x < 256) (_ : (Lit.int .i64 n).wf = true) (x1 : (Lit.int .u8 b0).wf = true) (x2 : IsRow .u8 W A len cap zs) (hK : KTab W) :
    Calls Tryd.prog 7 #[.agg (u8s h).toArray, .int .i64 n, .int .u8 b0, .slice A len cap] W fun e w' => e = .returned (.bool true) ∧ Chg none_ W w' := by
  obtain ⟨nb, rfl, hnb0⟩ := nat_u8h x1
  obtain ⟨text, rfl, htc, htm, htb, htv⟩ := x2.u8
  clear x1 x2
  have HHL := Lib.hid hhl
  have HAL : Hid (∀ w, Chg none_ W w → Calls Tryd.prog 8 #[] w fun e w' => e = .returned (.bool true) ∧ Chg none_ w w') := Lib.hid (fun w hc => alive_any w (hK.chg hc))
  have htx : text.length ≤ 9223372036854775807 := by unfold maxLen at htm; omega
  by_cases hlt : 60 < text.length
  · have hd1 : decide ((60 : Int) < (text.length : Int)) = true := by simp; omega
    clear hhl hhb htc htm htb htv hK
    go_enter Tryd.func7, Tryd.ntmps7
    go_wp2_with (first | ((with_reducible show wpList _ _ _ (⟨some 4, .box 23 _, _, _, _, _⟩ :: _) _ _); refine wpList_box_Row rfl rfl (u8s h) rfl ?_; intro w1 hr1 hc1 hs1; have HRH1 := Lib.hid hr1; have HC1 := Lib.hid hc1; clear hr1 hc1 hs1) | (go_at_call 8; with_reducible refine (HAL.out _ HC1.out).mono ?_; rintro e w2 ⟨rfl, hc2⟩; have HC2 := Lib.hid (HC1.out.trans hc2); have HRH2 := Lib.hid (HRH1.out.chg hc2 (fun h => h)); clear hc2))
    go_ret
    exact ⟨rfl, HC2.out⟩
  have hd1 : decide ((60 : Int) < (text.length : Int)) = false := by simp; omega
  obtain ⟨kk, hkk⟩ : ∃ kk, kk = nb % 128 := ⟨_, rfl⟩
  obtain ⟨i0, hi0⟩ : ∃ i, i = kk / 8 := ⟨_, rfl⟩
  obtain ⟨i, hi⟩ : ∃ i, i = 15 - i0 := ⟨_, rfl⟩
  obtain ⟨j, hj⟩ : ∃ j, j = nb % 8 := ⟨_, rfl⟩
  have hi16 : i < 16 := by omega
  have hj8 : j < 8 := by omega
  have m1 : (nb : Int) % 128 = (kk : Int) := by omega
  have m2 : (kk : Int) / 8 = (i0 : Int) := by omega
  have m3 : (nb : Int) % 8 = (j : Int) := by omega
  have m4 : (text.length : Int) + 16 - 1 - (i0 : Int) = (text.length : Int) + (i : Int) := by omega
  have hib : i0 < 16 := by omega
  obtain ⟨M, hM⟩ : ∃ M, M = makeN h true := ⟨_, rfl⟩
  have hMO : M.Ok := by rw [hM]; exact makeN_ok h true
  have HMO := Lib.hid hMO
  have HMK : Hid (∀ w, Chg none_ W w → Calls Tryd.prog 9 #[.agg (u8s h).toArray, .bool true] w fun e w' => e = .returned (.agg (cellsS M).toArray) ∧ Chg none_ w w') := Lib.hid (fun w hc => by rw [hM]; exact Make_any h true w hhl hhb (hK.chg hc))
  obtain ⟨CT, hCT⟩ : ∃ x, x = sealK M n [] text := ⟨_, rfl⟩
  have hsl : CT.length = text.length + 16 := by rw [hCT, sealK_len]
  have hsb : ∀ x ∈ CT, x < 256 := by rw [hCT]; exact sealK_lt hMO n htb
  have hbt := back_turnK M n [] text i j hi16
  have hop := open_sealK M n [] text
  rw [← hCT] at hbt hop
  have HOW : Hid (∀ w v base, Owned w base v ([] ++ CT) → ∃ g c sp, v = .slice (some ⟨g, 0, none⟩) (text.length + 16) c ∧ text.length + 16 ≤ c ∧ Row w g 5 (u8s CT ++ sp) ∧ base ≤ g) := Lib.hid (fun w v base ho => by
    rw [List.nil_append] at ho
    obtain ⟨g, c, sp, rfl, h1, h2, h3⟩ := ho.rowOfK (by omega)
    rw [hsl] at h1 ⊢
    exact ⟨g, c, sp, rfl, h1, h2, h3⟩)
  have HSE : Hid (∀ w', Chg none_ W w' → Calls Tryd.prog 19 #[.agg (cellsS M).toArray, .int .i64 n, .slice none 0 0, .slice A text.length cap] w' fun e w'' => ∃ g c sp, e = .returned (.slice (some ⟨g, 0, none⟩) (text.length + 16) c) ∧ text.length + 16 ≤ c ∧ Row w'' g 5 (u8s CT ++ sp) ∧ Chg none_ w' w'') := Lib.hid (fun w' hc => by
    refine (kSeal_any M n [] text (fun _ => True) _ none A 0 cap w' hMO (View.none_ _ _ _) (Nat.le_refl _) (by decide) (by simp) (htv.chg hc (fun _ _ h => h)) (by omega) htb).mono ?_
    rintro e w'' ⟨v, rfl, ho, hc2⟩
    rw [← hCT] at ho
    obtain ⟨g, c, sp, rfl, h1, h2, _⟩ := ho.rowOfK (by omega)
    rw [hsl] at h1 ⊢
    exact ⟨g, c, sp, rfl, h1, h2, hc2⟩)
  have hvw : ∀ (S' : List Nat), S'.length = text.length + 16 → ∀ w' g sp, Row w' g 5 (u8s S' ++ sp) → View w' (fun _ => True) (some ⟨g, 0, none⟩) (text.length + 16) (u8s S') := fun S' hl w' g sp hr => by
    have hv := View.row (T := fun _ => True) hr (n := text.length + 16) (by rw [List.length_append, u8s_length, hl]; omega) trivial
    rwa [List.take_append_of_le_length (by rw [u8s_length, hl]; exact Nat.le_refl _), List.take_of_length_le (by rw [u8s_length, hl]; exact Nat.le_refl _)] at hv
  have HVW := Lib.hid (fun w' g sp => hvw CT hsl w' g sp)
  have hopen : ∀ (S' : List Nat), S'.length = text.length + 16 → (∀ x ∈ S', x < 256) → ∀ w' g c sp, Chg none_ W w' → Row w' g 5 (u8s S' ++ sp) → text.length + 16 ≤ c → Calls Tryd.prog 16 #[.agg (cellsS M).toArray, .int .i64 n, .slice none 0 0, .slice (some ⟨g, 0, none⟩) (text.length + 16) c] w' fun e w'' => ∃ v, e = .returned (.tuple #[v, .int .i64 (openK M n [] S').2]) ∧ Owned w'' w'.heap.size v (openK M n [] S').1 ∧ Chg none_ w' w'' := fun S' hl hb w' g c sp _ hr h1 => by
    have := kOpen_any M n [] S' (fun _ => True) _ none (some ⟨g, 0, none⟩) 0 c w' hMO (View.none_ _ _ _) (Nat.le_refl _) (by rw [hl]; exact h1) (by decide) (by simp) (by rw [hl]; exact hvw S' hl w' g sp hr) (by omega) hb
    rwa [hl] at this
  have HO1 : Hid (∀ w' g c sp, Chg none_ W w' → Row w' g 5 (u8s CT ++ sp) → text.length + 16 ≤ c → Calls Tryd.prog 16 #[.agg (cellsS M).toArray, .int .i64 n, .slice none 0 0, .slice (some ⟨g, 0, none⟩) (text.length + 16) c] w' fun e w'' => ∃ A2 c2, e = .returned (.tuple #[.slice A2 text.length c2, .int .i64 0]) ∧ View w'' (fun b => b < w''.heap.size) A2 text.length (u8s text) ∧ Chg none_ w' w'') := Lib.hid (fun w' g c sp hc hr h1 => by
    have := hopen CT hsl hsb w' g c sp hc hr h1
    rw [hop] at this
    refine this.mono ?_
    rintro e w'' ⟨v, rfl, ho, hc2⟩
    obtain ⟨A2, c2, rfl, _, h3⟩ := ho.viewLt9
    exact ⟨A2, c2, rfl, h3, hc2⟩)
  obtain ⟨x, hx⟩ : ∃ x, x = CT.getD (text.length + i) 0 := ⟨_, rfl⟩
  have hx8 : x < 256 := by rw [hx]; exact getD_lt hsb _ (by decide)
  have h2j : 2 ^ j < 256 := by
    have := Nat.pow_lt_pow_right (a := 2) (by decide) (show j < 8 from hj8)
    simpa using this
  have hxx : x ^^^ 2 ^ j < 256 := xor8_lt hx8 h2j
  rw [← hx] at hbt
  have HO2 : Hid (∀ w' g c sp, Chg none_ W w' → Row w' g 5 (u8s (CT.set (text.length + i) (x ^^^ 2 ^ j)) ++ sp) → text.length + 16 ≤ c → Calls Tryd.prog 16 #[.agg (cellsS M).toArray, .int .i64 n, .slice none 0 0, .slice (some ⟨g, 0, none⟩) (text.length + 16) c] w' fun e w'' => ∃ A2 c2, e = .returned (.tuple #[.slice A2 0 c2, .int .i64 7]) ∧ Chg none_ w' w'') := Lib.hid (fun w' g c sp hc hr h1 => by
    have := hopen (CT.set (text.length + i) (x ^^^ 2 ^ j)) (by rw [List.length_set]; exact hsl) (mem_set_lt hsb _ _ hxx) w' g c sp hc hr h1
    rw [hbt] at this
    refine this.mono ?_
    rintro e w'' ⟨v, rfl, ho, hc2⟩
    obtain ⟨A2, c2, rfl, _, _⟩ := ho.viewLt9
    exact ⟨A2, c2, rfl, hc2⟩)
  have HSA : Hid (∀ w' A2 c2 {T : Nat → Prop}, Chg none_ W w' → View w' T A2 text.length (u8s text) → Calls Tryd.prog 18 #[.slice A2 text.length c2, .slice A text.length cap] w' fun e w'' => e = .returned (.bool true) ∧ ∃ k, w'' = w'.drewN k) := Lib.hid (fun w' A2 c2 T hc h => by
    have := same_any w' T _ A2 A c2 cap text text h (htv.chg hc (fun _ _ h => h)) (by omega)
    rwa [decide_eq_true rfl] at this)
  have HCE : Hid (∀ w' g sp, Row w' g 5 (u8s CT ++ sp) → w'.cell? ⟨g, text.length + i, none⟩ = some (.int .u8 (x : Int))) := Lib.hid (fun w' g sp h => by
    rw [h.cell, List.getElem?_append_left (by rw [u8s_length, hsl]; omega), u8s_get, hx, List.getD_eq_getElem?_getD, List.getElem?_eq_getElem (by omega)]
    rfl)
  have HRW : Hid (∀ w g sp, Row w g 5 (u8s CT ++ sp) → Row (w.setCell ⟨g, text.length + i, none⟩ (.int .u8 (bits BinOp.xor IntKind.u8 (x : Int) (2 ^ j % 256)))) g 5 (u8s (CT.set (text.length + i) (x ^^^ 2 ^ j)) ++ sp)) := Lib.hid (fun w g sp h => by
    have e : ((2 : Int) ^ j % 256) = ((2 ^ j : Nat) : Int) := by
      have e1 : ((2 : Int) ^ j) = ((2 ^ j : Nat) : Int) := by simp
      rw [e1]
      generalize 2 ^ j = z at h2j ⊢
      omega
    rw [e, u8_xor_nat x (2 ^ j) hx8 h2j, ← u8s_set, ← List.set_append_left _ _ (by rw [u8s_length, hsl]; omega)]
    exact h.set (text.length + i) _)
  have q0 : (0 : Int) ≤ (i : Int) := by omega
  have q1 : (i : Int) < 16 := by omega
  have q2 : (0 : Int) ≤ (text.length : Int) + (i : Int) := by omega
  have q3 : (text.length : Int) + (i : Int) < (text.length : Int) + 16 := by omega
  have htl : text.length ≤ 60 := by omega
  clear hhl hhb htc htm htb htv hK hM hMO hlt hkk hi0 hi hj hbt hop hopen hsb hsl hx hxx htx hCT hvw
  go_enter Tryd.func7, Tryd.ntmps7
  go_wp2_with (first | ((with_reducible show wpList _ _ _ (⟨some 4, .box 23 _, _, _, _, _⟩ :: _) _ _); refine wpList_box_Row rfl rfl (u8s h) rfl ?_; intro w1 hr1 hc1 hs1; have HRH1 := Lib.hid hr1; have HC1 := Lib.hid hc1; clear hr1 hc1 hs1) | (go_at_call 8; with_reducible refine (HAL.out _ HC1.out).mono ?_; rintro e w2 ⟨rfl, hc2⟩; have HC2 := Lib.hid (HC1.out.trans hc2); have HRH2 := Lib.hid (HRH1.out.chg hc2 (fun h => h)); clear hc2) | ((with_reducible show wpList _ _ _ (⟨some 22, .load 23 _, _, _, _, _⟩ :: _) _ _); refine wpList_load_Row rfl rfl rfl (HRH2.out) Tryd.underlying23 rfl (by rw [u8s_length, HHL.out]; exact size25) ?_) | (go_at_call 9; with_reducible refine (HMK.out _ HC2.out).mono ?_; rintro e w3 ⟨rfl, hc3⟩; have HC3 := Lib.hid (HC2.out.trans hc3); clear hc3) | ((with_reducible show wpList _ _ _ (⟨some 9, .alloc 29, _, _, _, _⟩ :: _) _ _); refine wpList_alloc_Row rfl rfl (zeroS) zeroSc ?_; intro w4 hr4 hc4 hs4; have HR4 := Lib.hid hr4; have HC4 := Lib.hid (HC3.out.trans hc4); clear hr4 hc4 hs4) | ((with_reducible show wpList _ _ _ (⟨_, .store 29 (.tmp 9) _, _, _, _, _⟩ :: _) _ _); refine wpList_store_Row (xs := cellsS M) rfl rfl rfl (HR4.out) (rfl) (by rw [cellsS_len HMO.out]; rfl) (by rw [cellsS_len HMO.out]; exact sizeSc) (cellsS_one M) ?_; intro w5 hr5 hc5 hs5; have HRM5 := Lib.hid hr5; have HC5 := Lib.hid (hc5 none_ W HC4.out (fun h => by have := HC3.out.size; omega)); clear hr5 hc5 hs5) | ((with_reducible show wpList _ _ _ (⟨some 24, .load 29 _, _, _, _, _⟩ :: _) _ _); refine wpList_load_Row rfl rfl rfl (HRM5.out) Tryd.underlying29 rfl (by rw [cellsS_len HMO.out]; exact sizeSc) ?_) | (go_at_call 19; with_reducible refine (HSE.out _ HC5.out).mono ?_; rintro e w6 ⟨g6, c6, sp6, rfl, hl6, hr6, hc6⟩; have HC6 := Lib.hid (HC5.out.trans hc6); have HR6 := Lib.hid hr6; have HL6 := Lib.hid hl6; have HRM6 := Lib.hid (HRM5.out.chg hc6 (fun h => h)); clear hr6 hl6 hc6) | ((with_reducible show wpList _ _ _ (⟨some 29, .load 29 _, _, _, _, _⟩ :: _) _ _); refine wpList_load_Row rfl rfl rfl (HRM6.out) Tryd.underlying29 rfl (by rw [cellsS_len HMO.out]; exact sizeSc) ?_) | (go_at_call 16; with_reducible refine (HO1.out _ _ _ _ HC6.out HR6.out HL6.out).mono ?_; rintro e w7 ⟨A7, c7, rfl, hv7, hc7⟩; have HC7 := Lib.hid (HC6.out.trans hc7); have HV7 := Lib.hid hv7; have HR7 := Lib.hid (HR6.out.chg hc7 (fun h => h)); have HRM7 := Lib.hid (HRM6.out.chg hc7 (fun h => h)); clear hv7 hc7) | ((with_reducible show wpList _ _ _ (⟨some 35, _, _, _, _, _⟩ :: _) _ _); refine wpList_new_row (v := fun g => .slice (some ⟨g, 0, none⟩) 0 0) (e := 5) (cs := []) rfl (fun w_ => by go_simp) ?_; intro w8 hr8 hc8 hs8; have HC8 := Lib.hid (HC7.out.trans hc8); have HN8 := Lib.hid hc8; have HO8 : Hid (Owned w8 w7.heap.size (.slice (some ⟨w7.heap.size, 0, none⟩) 0 0) []) := Lib.hid (Owned.row hr8 (Nat.le_refl _) rfl (by decide)); have HV8 := Lib.hid (HV7.out.chg hc8 (fun _ _ h => h)); have HR8b := Lib.hid (HR7.out.chg hc8 (fun h => h)); have HRM8 := Lib.hid (HRM7.out.chg hc8 (fun h => h)); clear hr8 hc8 hs8) | ((with_reducible show wpList _ _ _ (⟨some 37, _, _, _, _, _⟩ :: _) _ _); refine wpList_append_bytes rfl _ _ _ rfl Tryd.underlying24 (base := w7.heap.size) (L := []) (M := CT) (A := some ⟨g6, 0, none⟩) (m := text.length + 16) (c := c6) (w0 := w7) rfl HO8.out rfl (HVW.out _ _ _ HR8b.out) (by simp; omega) HN8.out.size HN8.out (Nat.le_refl _) ?_; intro v9 w9 ho9 hc9; obtain ⟨g8, c8, sp8, hv9, hl9, hr9, hg9⟩ := HOW.out _ _ _ ho9; subst hv9; have HL9 := Lib.hid hl9; have HR9 := Lib.hid hr9; have HG9 : Hid (w7.heap.size ≤ g8) := Lib.hid hg9; have HC9 := Lib.hid (HC7.out.trans hc9); have HRM9 := Lib.hid (HRM7.out.chg hc9 (fun h => h)); have HV9 := Lib.hid (HV7.out.chg hc9 (fun _ _ h => h)); have k0 := HCE.out _ _ _ hr9; have kf := hr9.frozen (text.length + i); clear ho9 hc9 hl9 hr9 hg9) | ((with_reducible show wpList _ _ _ (⟨some 59, _, _, _, _, _⟩ :: _) _ _); refine wpList_nameS ?_; intro w10 hx10; have hc10 := (show Chg (· = g8) w9 w10 by (rw [hx10]; exact chg_set_K _ _ _ _)); have HR10 := Lib.hid (show Row w10 g8 5 (u8s (CT.set (text.length + i) (x ^^^ 2 ^ j)) ++ sp8) by (rw [hx10]; exact HRW.out _ _ _ HR9.out)); have HC10 := Lib.hid (HC9.out.andThen hc10 (fun b hb e => by have := HG9.out; have := HC7.out.size; omega)); have HRM10 := Lib.hid (HRM9.out.chg hc10 (fun e => by have := HRM7.out.lt; have := HG9.out; omega)); have HV10 := Lib.hid (HV9.out.chg hc10 (fun b hb e => by have := HG9.out; omega)); clear hx10 hc10; refine wpList_load_Row rfl rfl rfl HRM10.out Tryd.underlying29 rfl (by rw [cellsS_len HMO.out]; exact sizeSc) ?_) | (go_at_call 16; with_reducible refine (HO2.out _ _ _ _ HC10.out HR10.out HL9.out).mono ?_; rintro e w11 ⟨A11, c11, rfl, hc11⟩; have HC11 := Lib.hid (HC10.out.trans hc11); have HV11 := Lib.hid (HV10.out.chg hc11 (fun _ _ h => h)); clear hc11) | (go_at_call 18; with_reducible refine (HSA.out _ _ _ HC11.out HV11.out).mono ?_; rintro e w12 ⟨rfl, nk, hw12⟩; have HC12 := Lib.hid (show Chg none_ W w12 by (rw [hw12]; exact HC11.out.drewN nk)); clear hw12))
  go_ret
  exact ⟨rfl, HC12.out⟩
end Go.Proofs.YtidafbpiipjnlaaDoor
