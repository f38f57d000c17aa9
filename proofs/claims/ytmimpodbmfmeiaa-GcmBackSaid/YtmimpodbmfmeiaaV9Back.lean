/- Layer 9 (gcm): the walk of the law GcmBack. -/
import Derived.Test.YtmimpodbmfmeiaaV9Alive
import Derived.Test.YtmimpodbmfmeiaaV9Open
import Derived.Test.YtmimpodbmfmeiaaSame
namespace Go.Proofs.Ytmimpodbmfmeiaa
open Go.RowKit

/-- With one bit of its tag turned it isn't opened. -/
theorem back_turn (key nonce more text : List Nat) (i j : Nat) (hi : i < 16) : openG key nonce more ((sealG key nonce more text).set (text.length + i) ((sealG key nonce more text).getD (text.length + i) 0 ^^^ 2 ^ j)) = ([], 7) := by
  have hl := streamN_len key (jN nonce 2) text
  have ht := tagG_len key nonce more (streamN key (jN nonce 2) text)
  have e1 : (sealG key nonce more text).getD (text.length + i) 0 = (tagG key nonce more (streamN key (jN nonce 2) text)).getD i 0 := by
    unfold sealG
    rw [List.getD_eq_getElem?_getD, List.getElem?_append_right (by omega), hl, Nat.add_sub_cancel_left, List.getD_eq_getElem?_getD]
  rw [e1]
  have e2 : ∀ v, (sealG key nonce more text).set (text.length + i) v = streamN key (jN nonce 2) text ++ (tagG key nonce more (streamN key (jN nonce 2) text)).set i v := fun v => by
    unfold sealG
    rw [List.set_append_right _ _ (by omega), hl, Nat.add_sub_cancel_left]
  rw [e2]
  exact open_other key nonce more text _ (by rw [List.length_set]; exact ht) (set_ne _ i _ (by omega) (xor_bit_ne _ j))
theorem u16_nat {x : Int} (h : (Lit.int .u16 x).wf = true) : ∃ n : Nat, x = (n : Int) ∧ n < 65536 := by
  have h2 : (decide (0 ≤ x) && decide (x ≤ 65535)) = true := h
  simp only [Bool.and_eq_true, decide_eq_true_eq] at h2
  exact ⟨x.toNat, by omega, by omega⟩
/-- What the call has sealed lies in a row of its own. -/
theorem Owned.rowOf {w : World} {base : Nat} {v : Value} {l : List Nat} (h : Owned w base v l) (hl : 0 < l.length) : ∃ g cap sp, v = .slice (some ⟨g, 0, none⟩) l.length cap ∧ l.length ≤ cap ∧ Row w g 5 (u8s l ++ sp) ∧ base ≤ g := by
  have h0 := h
  rcases h.2 with ⟨rfl, h3⟩ | ⟨g, cap, cur, rfl, hb, hh, hnc, _, _, _⟩
  · omega
  · obtain ⟨sp, hr, hb⟩ := Row.of_own h0
    exact ⟨g, cap, sp, rfl, hnc, hr, hb⟩

set_option maxRecDepth 100000 in
set_option maxHeartbeats 8000000 in
theorem walk_GcmBack (key nonce : List Nat) (A : Option Addr) (len cap : Nat) (zs : List Int) (A' : Option Addr) (len' cap' : Nat) (zs' : List Int) (n0 : Int) (W : World) (hk : key.length = 16) (hkb : ∀ x ∈ key, x < 256) (hn : nonce.length = 12) (hnb : ∀ x ∈ nonce, x < 256) (x0 : IsRow .u8 W A len cap zs) (x1 : IsRow .u8 W A' len' cap' zs') (hn0 : (Lit.int .u16 n0).wf = true) :
    Calls Try.prog 5 #[.agg (u8s key).toArray, .agg (u8s nonce).toArray, .slice A len cap, .slice A' len' cap', .int .u16 n0] W fun e w' => e = .returned (.bool true) ∧ Chg none_ W w' := by
  obtain ⟨more, rfl, hcap, hmax, hmb, hv⟩ := x0.u8
  obtain ⟨text, rfl, hcap', hmax', htb, hv'⟩ := x1.u8
  obtain ⟨nb, rfl, hnb0⟩ := u16_nat hn0
  clear x0 x1 hn0
  have HKL := Lib.hid hk
  have HNL := Lib.hid hn
  have hmx : more.length ≤ 9223372036854775807 := by unfold maxLen at hmax; omega
  have hmx' : text.length ≤ 9223372036854775807 := by unfold maxLen at hmax'; omega
  by_cases hlong : 200 < more.length
  · have hd : decide ((200 : Int) < (more.length : Int)) = true := by simp; omega
    clear hk hkb hn hnb hv hmb htb hcap hmax hcap' hmax' hv' hnb0
    go_enter Try.func5, Try.ntmps5
    go_wp2_with (first | ((with_reducible show wpList _ _ _ (⟨some 5, .box 22 _, _, _, _, _⟩ :: _) _ _); refine wpList_box_Row rfl rfl (u8s key) rfl ?_; intro wK hrK hcK hsK; have HRK := Lib.hid hrK; have HCK := Lib.hid hcK; clear hrK hcK hsK) | ((with_reducible show wpList _ _ _ (⟨some 6, .box 28 _, _, _, _, _⟩ :: _) _ _); refine wpList_box_Row rfl rfl (u8s nonce) rfl ?_; intro wN hrN hcN hsN; have HRN := Lib.hid hrN; have HCN := Lib.hid (HCK.out.trans hcN); have HRK1 := Lib.hid (HRK.out.chg hcN (fun h => h)); clear hrN hcN hsN) | (go_at_call 9; refine (alive_any _).mono ?_; rintro e w3 ⟨rfl, hc3⟩; have HC3 := Lib.hid (HCN.out.trans hc3); have HRK3 := Lib.hid (HRK1.out.chg hc3 (fun h => h)); have HRN3 := Lib.hid (HRN.out.chg hc3 (fun h => h)); clear hc3))
    go_ret
    exact ⟨rfl, HC3.out⟩
  have hd : decide ((200 : Int) < (more.length : Int)) = false := by simp; omega
  by_cases hlong' : 200 < text.length
  · have hd' : decide ((200 : Int) < (text.length : Int)) = true := by simp; omega
    clear hk hkb hn hnb hv hmb htb hcap hmax hcap' hmax' hv' hnb0
    go_enter Try.func5, Try.ntmps5
    go_wp2_with (first | ((with_reducible show wpList _ _ _ (⟨some 5, .box 22 _, _, _, _, _⟩ :: _) _ _); refine wpList_box_Row rfl rfl (u8s key) rfl ?_; intro wK hrK hcK hsK; have HRK := Lib.hid hrK; have HCK := Lib.hid hcK; clear hrK hcK hsK) | ((with_reducible show wpList _ _ _ (⟨some 6, .box 28 _, _, _, _, _⟩ :: _) _ _); refine wpList_box_Row rfl rfl (u8s nonce) rfl ?_; intro wN hrN hcN hsN; have HRN := Lib.hid hrN; have HCN := Lib.hid (HCK.out.trans hcN); have HRK1 := Lib.hid (HRK.out.chg hcN (fun h => h)); clear hrN hcN hsN) | (go_at_call 9; refine (alive_any _).mono ?_; rintro e w3 ⟨rfl, hc3⟩; have HC3 := Lib.hid (HCN.out.trans hc3); have HRK3 := Lib.hid (HRK1.out.chg hc3 (fun h => h)); have HRN3 := Lib.hid (HRN.out.chg hc3 (fun h => h)); clear hc3))
    go_ret
    exact ⟨rfl, HC3.out⟩
  have hd' : decide ((200 : Int) < (text.length : Int)) = false := by simp; omega
  obtain ⟨kk, hkk⟩ : ∃ kk, kk = nb % 128 := ⟨_, rfl⟩
  obtain ⟨i, hi⟩ : ∃ i, i = kk / 8 := ⟨_, rfl⟩
  obtain ⟨j, hj⟩ : ∃ j, j = kk % 8 := ⟨_, rfl⟩
  have hi16 : i < 16 := by omega
  have hj8 : j < 8 := by omega
  have m1 : (nb : Int) % 128 = (kk : Int) := by omega
  have m2 : (kk : Int) / 8 = (i : Int) := by omega
  have m3 : (kk : Int) % 8 = (j : Int) := by omega
  have hsl := sealG_len key nonce more text
  have hsb := sealG_lt (more := more) hkb hnb htb
  have hbt := back_turn key nonce more text i j hi16
  have hop := open_seal key nonce more text
  have HSE : Hid (∀ w', Chg none_ W w' → Calls Try.prog 17 #[.agg (u8s key).toArray, .agg (u8s nonce).toArray, .slice A more.length cap, .slice A' text.length cap'] w' fun e w'' => ∃ g c sp, e = .returned (.slice (some ⟨g, 0, none⟩) (text.length + 16) c) ∧ text.length + 16 ≤ c ∧ Row w'' g 5 (u8s (sealG key nonce more text) ++ sp) ∧ w'.heap.size ≤ g ∧ Chg none_ w' w'') := Lib.hid (fun w' hc => by
    refine (Seal_any key nonce more text _ _ A A' cap cap' w' hk hkb hn hnb (hv.chg hc (fun _ _ h => h)) hcap (by omega) hmb (hv'.chg hc (fun _ _ h => h)) (by omega) htb).mono ?_
    rintro e w'' ⟨v, rfl, ho, hc2⟩
    obtain ⟨g, c, sp, rfl, h1, h2, h3⟩ := ho.rowOf (by omega)
    rw [hsl] at h1 ⊢
    exact ⟨g, c, sp, rfl, h1, h2, h3, hc2⟩)
  generalize sealG key nonce more text = S at hsl hsb hbt hop HSE
  have hopen : ∀ (S' : List Nat), S'.length = text.length + 16 → (∀ x ∈ S', x < 256) → ∀ w' g c sp, Chg none_ W w' → Row w' g 5 (u8s S' ++ sp) → text.length + 16 ≤ c → Calls Try.prog 14 #[.agg (u8s key).toArray, .agg (u8s nonce).toArray, .slice A more.length cap, .slice (some ⟨g, 0, none⟩) (text.length + 16) c] w' fun e w'' => ∃ v, e = .returned (.tuple #[v, .int .i64 (openG key nonce more S').2]) ∧ Owned w'' w'.heap.size v (openG key nonce more S').1 ∧ Chg none_ w' w'' := fun S' hl hb w' g c sp hc hr h1 => by
    have hvw := View.row (T := fun _ => True) hr (n := text.length + 16) (by rw [List.length_append, u8s_length, hl]; omega) trivial
    rw [List.take_append_of_le_length (by rw [u8s_length, hl]; exact Nat.le_refl _), List.take_of_length_le (by rw [u8s_length, hl]; exact Nat.le_refl _)] at hvw
    have := Open_any key nonce more S' _ _ A (some ⟨g, 0, none⟩) cap c w' hk hkb hn hnb (hv.chg hc (fun _ _ h => h)) hcap (by omega) hmb (by rw [hl]; exact hvw) (by rw [hl]; exact h1) (by omega) hb
    rwa [hl] at this
  have HO1 : Hid (∀ w' g c sp, Chg none_ W w' → Row w' g 5 (u8s S ++ sp) → text.length + 16 ≤ c → Calls Try.prog 14 #[.agg (u8s key).toArray, .agg (u8s nonce).toArray, .slice A more.length cap, .slice (some ⟨g, 0, none⟩) (text.length + 16) c] w' fun e w'' => ∃ A2 c2, e = .returned (.tuple #[.slice A2 text.length c2, .int .i64 0]) ∧ View w'' (fun _ => True) A2 text.length (u8s text) ∧ Chg none_ w' w'') := Lib.hid (fun w' g c sp hc hr h1 => by
    have := hopen S hsl hsb w' g c sp hc hr h1
    rw [hop] at this
    refine this.mono ?_
    rintro e w'' ⟨v, rfl, ho, hc2⟩
    obtain ⟨A2, c2, rfl, _, h3⟩ := ho.viewLt
    exact ⟨A2, c2, rfl, h3.mono (fun _ _ _ => trivial), hc2⟩)
  obtain ⟨x, hx⟩ : ∃ x, x = S.getD (text.length + i) 0 := ⟨_, rfl⟩
  have hx8 : x < 256 := by rw [hx]; exact getD_lt hsb _ (by decide)
  have h2j : 2 ^ j < 256 := by
    have := Nat.pow_lt_pow_right (a := 2) (by decide) (show j < 8 from hj8)
    simpa using this
  have hxx : x ^^^ 2 ^ j < 256 := xor8_lt hx8 h2j
  rw [← hx] at hbt
  have HO2 : Hid (∀ w' g c sp, Chg none_ W w' → Row w' g 5 (u8s (S.set (text.length + i) (x ^^^ 2 ^ j)) ++ sp) → text.length + 16 ≤ c → Calls Try.prog 14 #[.agg (u8s key).toArray, .agg (u8s nonce).toArray, .slice A more.length cap, .slice (some ⟨g, 0, none⟩) (text.length + 16) c] w' fun e w'' => ∃ A2 c2, e = .returned (.tuple #[.slice A2 0 c2, .int .i64 7]) ∧ Chg none_ w' w'') := Lib.hid (fun w' g c sp hc hr h1 => by
    have := hopen (S.set (text.length + i) (x ^^^ 2 ^ j)) (by rw [List.length_set]; exact hsl) (mem_set_lt hsb _ _ hxx) w' g c sp hc hr h1
    rw [hbt] at this
    refine this.mono ?_
    rintro e w'' ⟨v, rfl, ho, hc2⟩
    obtain ⟨A2, c2, rfl, _, _⟩ := ho.viewLt
    exact ⟨A2, c2, rfl, hc2⟩)
  have HSA : Hid (∀ w' A2 c2, Chg none_ W w' → View w' (fun _ => True) A2 text.length (u8s text) → Calls Try.prog 16 #[.slice A2 text.length c2, .slice A' text.length cap'] w' fun e w'' => e = .returned (.bool true) ∧ ∃ k, w'' = w'.drewN k) := Lib.hid (fun w' A2 c2 hc h => by
    have := same_any w' (fun _ => True) _ A2 A' c2 cap' text text h (hv'.chg hc (fun _ _ h => h)) (by omega)
    rwa [decide_eq_true rfl] at this)
  have HCE : Hid (∀ w' g sp, Row w' g 5 (u8s S ++ sp) → w'.cell? ⟨g, text.length + i, none⟩ = some (.int .u8 (x : Int))) := Lib.hid (fun w' g sp h => by
    rw [h.cell, List.getElem?_append_left (by rw [u8s_length, hsl]; omega), u8s_get, hx, List.getD_eq_getElem?_getD, List.getElem?_eq_getElem (by omega)]
    rfl)
  have HRW : Hid (∀ w g sp, Row w g 5 (u8s S ++ sp) → Row (w.setCell ⟨g, text.length + i, none⟩ (.int .u8 (bits BinOp.xor IntKind.u8 (x : Int) (2 ^ j % 256)))) g 5 (u8s (S.set (text.length + i) (x ^^^ 2 ^ j)) ++ sp)) := Lib.hid (fun w g sp h => by
    have e : ((2 : Int) ^ j % 256) = ((2 ^ j : Nat) : Int) := by
      have e1 : ((2 : Int) ^ j) = ((2 ^ j : Nat) : Int) := by simp
      rw [e1]
      generalize 2 ^ j = z at h2j ⊢
      omega
    rw [e, u8_xor_nat x (2 ^ j) hx8 h2j, ← u8s_set, ← List.set_append_left _ _ (by rw [u8s_length, hsl]; omega)]
    exact h.set (text.length + i) _)
  have HSL := Lib.hid hsl
  have q0 : (0 : Int) ≤ (i : Int) := by omega
  have q1 : (i : Int) < 16 := by omega
  have q2 : (0 : Int) ≤ (text.length : Int) + (i : Int) := by omega
  have q3 : (text.length : Int) + (i : Int) < (text.length : Int) + 16 := by omega
  have hml : more.length ≤ 200 := by omega
  have htl : text.length ≤ 200 := by omega
  clear hk hkb hn hnb hv hmb htb hcap hmax hcap' hmax' hv' hlong hlong' hkk hi hj hbt hop hopen hsb hsl hx hxx hmx hmx'
  go_enter Try.func5, Try.ntmps5
  go_wp2_with (first | ((with_reducible show wpList _ _ _ (⟨some 5, .box 22 _, _, _, _, _⟩ :: _) _ _); refine wpList_box_Row rfl rfl (u8s key) rfl ?_; intro wK hrK hcK hsK; have HRK := Lib.hid hrK; have HCK := Lib.hid hcK; clear hrK hcK hsK) | ((with_reducible show wpList _ _ _ (⟨some 6, .box 28 _, _, _, _, _⟩ :: _) _ _); refine wpList_box_Row rfl rfl (u8s nonce) rfl ?_; intro wN hrN hcN hsN; have HRN := Lib.hid hrN; have HCN := Lib.hid (HCK.out.trans hcN); have HRK1 := Lib.hid (HRK.out.chg hcN (fun h => h)); clear hrN hcN hsN) | (go_at_call 9; refine (alive_any _).mono ?_; rintro e w3 ⟨rfl, hc3⟩; have HC3 := Lib.hid (HCN.out.trans hc3); have HRK3 := Lib.hid (HRK1.out.chg hc3 (fun h => h)); have HRN3 := Lib.hid (HRN.out.chg hc3 (fun h => h)); clear hc3) | ((with_reducible show wpList _ _ _ (⟨some 27, .load 22 _, _, _, _, _⟩ :: _) _ _); refine wpList_load_Row rfl rfl rfl (HRK3.out) Try.underlying22 rfl (by rw [u8s_length, HKL.out]; exact size22) ?_) | ((with_reducible show wpList _ _ _ (⟨some 28, .load 28 _, _, _, _, _⟩ :: _) _ _); refine wpList_load_Row rfl rfl rfl (HRN3.out) Try.underlying28 rfl (by rw [u8s_length, HNL.out]; exact sizeN12) ?_) | (go_at_call 17; refine (HSE.out _ HC3.out).mono ?_; rintro e w4 ⟨g, cc, sp, rfl, hcc, hr4, hge, hc4⟩; have HC4 := Lib.hid (HC3.out.trans hc4); have HCC := Lib.hid hcc; have HR4 := Lib.hid hr4; have HGE : Hid (W.heap.size ≤ g ∧ w3.heap.size ≤ g) := Lib.hid ⟨by have := HC3.out.size; omega, hge⟩; have HRK4 := Lib.hid (HRK3.out.chg hc4 (fun h => h)); have HRN4 := Lib.hid (HRN3.out.chg hc4 (fun h => h)); clear hcc hr4 hge hc4) | ((with_reducible show wpList _ _ _ (⟨some 33, .load 22 _, _, _, _, _⟩ :: _) _ _); refine wpList_load_Row rfl rfl rfl (HRK4.out) Try.underlying22 rfl (by rw [u8s_length, HKL.out]; exact size22) ?_) | ((with_reducible show wpList _ _ _ (⟨some 34, .load 28 _, _, _, _, _⟩ :: _) _ _); refine wpList_load_Row rfl rfl rfl (HRN4.out) Try.underlying28 rfl (by rw [u8s_length, HNL.out]; exact sizeN12) ?_) | (go_at_call 14; with_reducible refine (HO1.out _ _ _ _ HC4.out HR4.out HCC.out).mono ?_; rintro e w5 ⟨A5, c5, rfl, hv5, hc5⟩; have HC5 := Lib.hid (HC4.out.trans hc5); have HV5 := Lib.hid hv5; have HR5 := Lib.hid (HR4.out.chg hc5 (fun h => h)); have HRK5 := Lib.hid (HRK4.out.chg hc5 (fun h => h)); have HRN5 := Lib.hid (HRN4.out.chg hc5 (fun h => h)); clear hv5 hc5 HO1) | (go_at_call 16; refine (HSA.out _ _ _ HC5.out HV5.out).mono ?_; rintro e w6 ⟨rfl, nk, hw6⟩; have hc6 : Chg none_ w5 w6 := (by rw [hw6]; exact (Chg.refl none_ w5).drewN nk); have HC6 := Lib.hid (HC5.out.trans hc6); have HR6 := Lib.hid (HR5.out.chg hc6 (fun h => h)); have HRK6 := Lib.hid (HRK5.out.chg hc6 (fun h => h)); have HRN6 := Lib.hid (HRN5.out.chg hc6 (fun h => h)); have k0 := HCE.out _ _ _ HR6.out; have kf := HR6.out.frozen (text.length + i); clear hw6 hc6) | ((with_reducible show wpList _ _ _ (⟨some 80, .load 22 _, _, _, _, _⟩ :: _) _ _); refine wpList_load_Row rfl rfl rfl (HRK6.out.far (p := ⟨g, text.length + i, none⟩) (fun e => by have := HGE.out.2; have := HRK3.out.lt; simp only at e; omega) _) Try.underlying22 rfl (by rw [u8s_length, HKL.out]; exact size22) ?_) | ((with_reducible show wpList _ _ _ (⟨some 81, .load 28 _, _, _, _, _⟩ :: _) _ _); refine wpList_load_Row rfl rfl rfl (HRN6.out.far (p := ⟨g, text.length + i, none⟩) (fun e => by have := HGE.out.2; have := HRN3.out.lt; simp only at e; omega) _) Try.underlying28 rfl (by rw [u8s_length, HNL.out]; exact sizeN12) ?_) | (go_at_call 14; with_reducible refine (HO2.out _ _ _ _ (HC6.out.setCell (p := ⟨g, text.length + i, none⟩) (fun h => by have := HGE.out.1; simp only at h; omega) _) (HRW.out _ _ _ HR6.out) HCC.out).mono ?_; rintro e w7 ⟨A7, c7, rfl, hc7⟩; have HC7 := Lib.hid ((HC6.out.setCell (p := ⟨g, text.length + i, none⟩) (fun h => (by have := HGE.out.1; simp only at h; omega)) _).trans hc7); clear hc7))
  go_ret
  exact ⟨rfl, HC7.out⟩
end Go.Proofs.Ytmimpodbmfmeiaa
