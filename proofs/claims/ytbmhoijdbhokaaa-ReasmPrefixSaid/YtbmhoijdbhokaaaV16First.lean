/- Layer 16 (reasm): the law ReasmFirst. -/
import Derived.Test.YtbmhoijdbhokaaaV16Sizes
import Derived.Test.YtbmhoijdbhokaaaSame
namespace Go.Proofs.Ytbmhoijdbhokaaa
open Go.RowKit

/-- A buffer at which these bytes came, from its beginning on, and none was read. -/
structure FS (s : Rb) (Z : List Nat) : Prop where
  win : s.win = 100
  rd : s.rd = 0
  kn : s.kn = false
  top : s.top = Z.length
  B : s.B = fun q => Z[q]?
theorem FS.new : FS (newB 100) [] := ⟨rfl, rfl, rfl, rfl, by funext q; simp [newB]⟩
theorem FS.put {s t : Rb} {Z data : List Nat} (h : FS s Z) (hp : PutS s t 0 data false) : FS t (Z ++ data.drop Z.length) := by
  refine ⟨hp.win.trans h.win, hp.rd.trans h.rd, by rw [hp.kn, h.kn]; rfl, ?_, ?_⟩
  · rw [hp.top, h.top, List.length_append, List.length_drop]; omega
  · rw [hp.B, h.B]
    funext q
    unfold putB
    simp only
    rcases Nat.lt_or_ge q Z.length with h1 | h1
    · rw [List.getElem?_eq_getElem h1, List.getElem?_append_left h1, List.getElem?_eq_getElem h1]
    · rw [List.getElem?_eq_none h1, List.getElem?_append_right h1, List.getElem?_drop]
      simp only [Nat.zero_le, if_true]
      congr 1
      omega
/-- Of a buffer whose bytes are these, from its beginning on. -/
theorem gapZ {s : Rb} {Z : List Nat} (h : s.Ok) (hB : s.B = fun q => Z[q]?) : s.gap = Z.length :=
  h.gap_eq (by rw [hB]; exact List.getElem?_eq_none (Nat.le_refl _)) (fun p hp => by rw [hB]; exact ⟨_, List.getElem?_eq_getElem hp⟩)
theorem bytesZ (Z : List Nat) (r k : Nat) (hk : r + k ≤ Z.length) : bytesB (fun q => Z[q]?) r k = (Z.drop r).take k := by
  refine List.ext_getElem? fun i => ?_
  rw [bytesB, List.getElem?_map, List.getElem?_take, List.getElem?_drop]
  rcases Nat.lt_or_ge i k with h | h
  · rw [if_pos h, List.getElem?_range h]
    simp only [Option.map_some]
    rw [List.getElem?_eq_getElem (show r + i < Z.length by omega)]
    rfl
  · rw [if_neg (by omega), List.getElem?_eq_none (by simpa using h)]
    rfl

section
variable {W w : World} {g m cap : Nat} {s : Rb} {Z data : List Nat} {A : Option Addr}
theorem fNew (w : World) : Calls Try.prog 9 #[.int .i64 100] w fun e w' => ∃ g m s, e = .returned (.pointer (some ⟨g, 0, none⟩)) ∧ w.heap.size ≤ g ∧ w.heap.size ≤ m ∧ BA w' g m s ∧ FS s [] ∧ Chg none_ w w' :=
  (bNew_any 100 (by decide) w).mono (by rintro e w' ⟨g, m, h1, h2, h3, h4, h5⟩; exact ⟨g, m, _, h1, h2, h3, ⟨h4, newB_ok (by decide)⟩, FS.new, h5⟩)
theorem fPut (hf : FS s Z) (h : BA w g m s) (hb : ∀ x ∈ data, x < 256) (hv : View w (fun b => b < W.heap.size) A data.length (u8s data)) (hl : data.length ≤ 100) (hc : Chg none_ W w) (hg : W.heap.size ≤ g) (hm : W.heap.size ≤ m) :
    Calls Try.prog 10 #[.pointer (some ⟨g, 0, none⟩), .int .u64 0, .slice A data.length cap, .bool false] w fun e w' => e = .returned (.int .i64 0) ∧ ∃ t, FS t (Z ++ data.drop Z.length) ∧ BA w' g m t ∧ Chg none_ W w' :=
  (cPut0 (off := 0) h hb (ahead2 hg hm) hv (putE_0 (by omega) (by rw [hf.rd, hf.win]; omega) (fun h => by rw [hf.kn] at h; cases h) (fun h => by cases h))).mono (by
    rintro e w' ⟨rfl, t, h1, h2, h3⟩
    exact ⟨rfl, t, hf.put h1, h2, chg2 hc h3 hg hm⟩)
theorem zRead (hB : s.B = fun q => Z[q]?) (hr : s.rd = 0) (h : BA w g m s) (hl : Z.length ≤ 200) :
    Calls Try.prog 11 #[.pointer (some ⟨g, 0, none⟩), .int .i64 200] w fun e w' => ∃ A c, e = .returned (.slice A Z.length c) ∧ View w' (fun b => w.heap.size ≤ b) A Z.length (u8s Z) ∧ BA w' g m (readS s Z.length) ∧ Chg (of2 g m) w w' :=
  (cRead h 200 Z.length (by unfold readK; rw [gapZ h.ok hB, hr, Nat.sub_zero]; exact Nat.min_eq_right hl)).mono (by
    rintro e w' ⟨A, c, rfl, h1, h2, h3, h4⟩
    rw [hB, hr, bytesZ Z 0 _ (by omega), List.drop_zero, List.take_length] at h2
    exact ⟨A, c, rfl, h2, h3, h4⟩)
end

theorem BA.own {w w' : World} {g m base : Nat} {s : Rb} {v : Value} {l : List Nat} (h : BA w g m s) (hc : Chg (fun b => v.ownBlock = some b) w w') (ho : Owned w base v l) : BA w' g m s :=
  h.chg hc (fun e => own_far ho h.at_.row (by decide) _ e rfl) (fun e => own_map ho h.at_.map _ e rfl)
theorem wview {w w' : World} {g m base : Nat} {s : Rb} {v : Value} {l : List Nat} {A : Option Addr} {n c : Nat} (ho : Owned w base v l) (h : BA w g m s) (hc : Chg (of2 g m) w w') (hv : v = .slice A n c := by rfl) : View w' (fun _ => True) A l.length (u8s l) := by
  subst hv
  have := ho.chg' hc (fun b hb e => by
    rcases e with e | e
    · exact own_far ho h.at_.row (by decide) _ hb e
    · exact own_map ho h.at_.map _ hb e)
  exact this.slice.2.2.mono (fun _ _ _ => trivial)
theorem size5 : (Try.prog.info? 5).map (·.size) = some 1 := by kernel_rfl

set_option maxRecDepth 100000 in
set_option maxHeartbeats 4000000 in
theorem walk_ReasmFirst (A : Option Addr) (len cap : Nat) (zs : List Int) (A' : Option Addr) (len' cap' : Nat) (zs' : List Int) (W : World) (hz : IsRow .u8 W A len cap zs) (hz' : IsRow .u8 W A' len' cap' zs') :
    Calls Try.prog 5 #[.slice A len cap, .slice A' len' cap'] W fun e w' => e = .returned (.bool true) ∧ Chg none_ W w' := by
  obtain ⟨xs, hxl, hcap, hmx, hb, hv⟩ := hz.u8
  obtain ⟨ys, hyl, hcap', hmx', hb', hv'⟩ := hz'.u8
  have HAL := Lib.hid (alive_any W)
  have HV : Hid (∀ w', Chg none_ W w' → View w' (fun b => b < W.heap.size) A len (u8s xs)) := Lib.hid (fun w' h => by have := (row_ahead hv).chg h (fun _ _ h => h); rwa [hxl] at this)
  have HV' : Hid (∀ w', Chg none_ W w' → View w' (fun b => b < W.heap.size) A' len' (u8s ys)) := Lib.hid (fun w' h => by have := (row_ahead hv').chg h (fun _ _ h => h); rwa [hyl] at this)
  have HXL := Lib.hid hxl
  have HYL := Lib.hid hyl
  have HB := Lib.hid (And.intro hb hb')
  clear hz hz' hv hv' hb hb' hmx hmx' hxl hyl
  by_cases hl : len ≤ 100
  · have l1 : (len : Int) ≤ 100 := by omega
    by_cases hl' : len' ≤ 100
    · have l2 : (len' : Int) ≤ 100 := by omega
      have HP1 : Hid (∀ w g m s, FS s [] → BA w g m s → Chg none_ W w → W.heap.size ≤ g → W.heap.size ≤ m → Calls Try.prog 10 #[.pointer (some ⟨g, 0, none⟩), .int .u64 0, .slice A len cap, .bool false] w fun e w' => e = .returned (.int .i64 0) ∧ ∃ t, FS t xs ∧ BA w' g m t ∧ Chg none_ W w') := Lib.hid (fun w g m s hf h hc hg hm => by
        have hvw := HV.out w hc
        have e := HXL.out
        subst e
        exact fPut hf h HB.out.1 hvw hl hc hg hm)
      have HP2 : Hid (∀ w g m s, FS s xs → BA w g m s → Chg none_ W w → W.heap.size ≤ g → W.heap.size ≤ m → Calls Try.prog 10 #[.pointer (some ⟨g, 0, none⟩), .int .u64 0, .slice A' len' cap', .bool false] w fun e w' => e = .returned (.int .i64 0) ∧ ∃ t, FS t (xs ++ ys.drop len) ∧ BA w' g m t ∧ Chg none_ W w') := Lib.hid (fun w g m s hf h hc hg hm => by
        have hvw := HV'.out w hc
        have e := HYL.out
        subst e
        have := fPut (cap := cap') hf h HB.out.2 hvw hl' hc hg hm
        rwa [HXL.out] at this)
      have HPP := @fNew
      have HNW := Lib.hid HPP
      clear HPP
      obtain ⟨Z, hZ⟩ : ∃ Z, Z = xs ++ ys.drop len := ⟨_, rfl⟩
      have HZL : Hid (Z.length = max len len') := Lib.hid (by rw [hZ, List.length_append, List.length_drop, HXL.out, HYL.out]; omega)
      rw [← hZ] at HP2
      have HZ := Lib.hid hZ
      clear hZ
      by_cases hgt : len < len'
      · have g1 : (len : Int) < (len' : Int) := by omega
        have HZ2 : Hid (Z.length = len') := Lib.hid (by rw [HZL.out]; omega)
        have HZN := HZ2
        have HSM : Hid (∀ w (T T' : Nat → Prop) (A A' : Option Addr) (c c' : Nat), View w T A Z.length (u8s Z) → View w T' A' Z.length (u8s Z) → Calls Try.prog 13 #[.slice A Z.length c, .slice A' len' c'] w fun e w' => e = .returned (.bool true) ∧ ∃ k, w' = w.drewN k) := Lib.hid (fun w T T' A A' c c' h h' => by
          rw [← HZN.out]
          have := same_any w T T' A A' c c' Z Z h h' (by rw [HZL.out]; omega)
          rw [decide_eq_true rfl] at this
          exact this)
        have HVD : Hid (∀ w', Chg none_ W w' → View w' (fun b => b < W.heap.size) (dropA A' cap' len) (len' - len) (u8s (ys.drop len))) := Lib.hid (fun w' h => by have := (HV'.out w' h).dropA (k := len) (cap := cap') (by omega); rwa [show (u8s ys).drop len = u8s (ys.drop len) by simp [u8s, List.map_drop]] at this)
        go_enter Try.func5, Try.ntmps5
        go_wp2_with (first | (go_at_call 8; refine HAL.out.mono ?_; rintro e w0 ⟨rfl, hc⟩; have HC := Lib.hid hc; clear hc) | (go_at_call 9; refine (HNW.out _).mono ?_; rintro e w1 ⟨g, m, s1, rfl, hg, hm, hb, hf, hc⟩; have HG := Lib.hid (And.intro (Nat.le_trans HC.out.size hg) (Nat.le_trans HC.out.size hm)); have HB2 := Lib.hid hb; have HF := Lib.hid hf; have HC := Lib.hid (HC.out.trans hc); clear hg hm hb hf hc) | ((with_reducible show Calls _ 10 #[_, _, .slice A len cap, _] _ _); refine (HP1.out _ _ _ _ HF.out HB2.out HC.out HG.out.1 HG.out.2).mono ?_; rintro e w2 ⟨rfl, s2, hf, hb, hc⟩; have HB2 := Lib.hid hb; have HF := Lib.hid hf; have HC := Lib.hid hc; clear hf hb hc) | ((with_reducible show Calls _ 10 #[_, _, .slice A' len' cap', _] _ _); refine (HP2.out _ _ _ _ HF.out HB2.out HC.out HG.out.1 HG.out.2).mono ?_; rintro e w3 ⟨rfl, s3, hf, hb, hc⟩; have HB2 := Lib.hid hb; have HF := Lib.hid hf; have HC := Lib.hid hc; clear hf hb hc) | ((with_reducible show wpList _ _ _ (⟨some 28, _, _, _, _, _⟩ :: _) _ _); refine wpList_new_row (v := fun g => .slice (some ⟨g, 0, none⟩) 0 0) (e := 5) (cs := []) rfl (fun w_ => by go_simp) ?_; intro w4 hr hx hs; have HO := Lib.hid (Owned.row (base := W.heap.size) (l := []) hr HC.out.size rfl (Nat.zero_le _)); have HB2 := Lib.hid (HB2.out.chg hx (fun h => h) (fun h => h)); have HC := Lib.hid (HC.out.trans hx); clear hr hx hs) | ((with_reducible show wpList _ _ _ (⟨some 30, _, _, _, _, _⟩ :: _) _ _); refine wpList_append_own2 rfl _ _ 22 rfl Try.underlying22 (base := W.heap.size) (v := .slice (some ⟨w3.heap.size, 0, none⟩) 0 0) (L := ([] : List Nat)) (M := xs) (T := fun b => b < W.heap.size) (A := A) (m := len) (c := cap) ?q6_1 ?q6_2 ?q6_3 ?q6_4 ?q6_5 ?q6_6 ?q6_7; (case q6_1 => exact rfl); (case q6_2 => exact HO.out); (case q6_3 => exact rfl); (case q6_4 => exact HV.out _ HC.out); (case q6_5 => simp only [List.length_nil]; omega); (case q6_6 => exact HC.out.size); intro v_ w5 ho hc _; have HB2 := Lib.hid (HB2.out.own hc HO.out); have HC := Lib.hid (HC.out.andThen hc (fun b hb e => by have := (HO.out.lt e).2; omega)); have HO := Lib.hid ho; rw [List.nil_append] at HO; obtain ⟨A5, c5, hv5, _, _, _⟩ := HO.out.view; rw [HXL.out] at hv5; subst hv5; clear ho hc) | ((with_reducible show wpList _ _ _ (⟨some 40, _, _, _, _, _⟩ :: _) _ _); refine wpList_slice_low rfl 22 5 _ _ rfl A' len' cap' len rfl rfl Try.underlying22 size5 (by omega) ?_) | ((with_reducible show wpList _ _ _ (⟨some 41, _, _, _, _, _⟩ :: _) _ _); refine wpList_append_own2 rfl _ _ 22 rfl Try.underlying22 (base := W.heap.size) (v := .slice A5 len c5) (L := xs) (M := (ys.drop len)) (T := fun b => b < W.heap.size) (A := dropA A' cap' len) (m := len' - len) (c := cap' - len) ?q8_1 ?q8_2 ?q8_3 ?q8_4 ?q8_5 ?q8_6 ?q8_7; (case q8_1 => exact rfl); (case q8_2 => exact HO.out); (case q8_3 => exact rfl); (case q8_4 => exact (HVD.out _ HC.out)); (case q8_5 => rw [HXL.out]; omega); (case q8_6 => exact HC.out.size); intro v_ w6 ho hc _; have HB2 := Lib.hid (HB2.out.own hc HO.out); have HC := Lib.hid (HC.out.andThen hc (fun b hb e => by have := (HO.out.lt e).2; omega)); have HO := Lib.hid ho; rw [← HZ.out] at HO; obtain ⟨A6, c6, hv6, _, _, _⟩ := HO.out.view; rw [HZ2.out] at hv6; subst hv6; clear ho hc) | (go_at_call 11; refine (zRead HF.out.B HF.out.rd HB2.out (by rw [HZL.out]; omega)).mono ?_; rintro e w7 ⟨A7, c7, rfl, hv, hb, hc⟩; have HVR := Lib.hid hv; have HB3 := Lib.hid hb; have HVO := Lib.hid (wview HO.out HB2.out hc); have HC := Lib.hid (chg2 HC.out hc HG.out.1 HG.out.2); clear hv hb hc) | (go_at_call 13; refine (HSM.out _ _ _ _ _ _ _ HVR.out HVO.out).mono ?_; rintro e w8 ⟨rfl, k8, hw⟩; have HB3 := Lib.hid (by rw [hw]; exact HB3.out.drewN k8 : BA w8 g m _); have HC := Lib.hid (by rw [hw]; exact HC.out.drewN k8 : Chg none_ W w8); clear hw) | (go_at_call 17; have hT := bTop_any _ _ _ _ HB3.out.at_; rw [show (readS s3 Z.length).top = len' from HF.out.top.trans HZN.out] at hT; refine hT.mono ?_; rintro e w_ ⟨rfl, hw_⟩; have hw_ := hw_.symm; subst hw_; clear hT))
        go_ret
        exact ⟨rfl, HC.out⟩
      · have g1 : (len' : Int) ≤ (len : Int) := by omega
        have HZ2 : Hid (Z = xs) := Lib.hid (by rw [HZ.out, List.drop_eq_nil_of_le (by rw [HYL.out]; omega), List.append_nil])
        have HZN : Hid (Z.length = len) := Lib.hid (by rw [HZ2.out, HXL.out])
        have HSM : Hid (∀ w (T T' : Nat → Prop) (A A' : Option Addr) (c c' : Nat), View w T A Z.length (u8s Z) → View w T' A' Z.length (u8s Z) → Calls Try.prog 13 #[.slice A Z.length c, .slice A' len c'] w fun e w' => e = .returned (.bool true) ∧ ∃ k, w' = w.drewN k) := Lib.hid (fun w T T' A A' c c' h h' => by
          rw [← HZN.out]
          have := same_any w T T' A A' c c' Z Z h h' (by rw [HZL.out]; omega)
          rw [decide_eq_true rfl] at this
          exact this)
        go_enter Try.func5, Try.ntmps5
        go_wp2_with (first | (go_at_call 8; refine HAL.out.mono ?_; rintro e w0 ⟨rfl, hc⟩; have HC := Lib.hid hc; clear hc) | (go_at_call 9; refine (HNW.out _).mono ?_; rintro e w1 ⟨g, m, s1, rfl, hg, hm, hb, hf, hc⟩; have HG := Lib.hid (And.intro (Nat.le_trans HC.out.size hg) (Nat.le_trans HC.out.size hm)); have HB2 := Lib.hid hb; have HF := Lib.hid hf; have HC := Lib.hid (HC.out.trans hc); clear hg hm hb hf hc) | ((with_reducible show Calls _ 10 #[_, _, .slice A len cap, _] _ _); refine (HP1.out _ _ _ _ HF.out HB2.out HC.out HG.out.1 HG.out.2).mono ?_; rintro e w2 ⟨rfl, s2, hf, hb, hc⟩; have HB2 := Lib.hid hb; have HF := Lib.hid hf; have HC := Lib.hid hc; clear hf hb hc) | ((with_reducible show Calls _ 10 #[_, _, .slice A' len' cap', _] _ _); refine (HP2.out _ _ _ _ HF.out HB2.out HC.out HG.out.1 HG.out.2).mono ?_; rintro e w3 ⟨rfl, s3, hf, hb, hc⟩; have HB2 := Lib.hid hb; have HF := Lib.hid hf; have HC := Lib.hid hc; clear hf hb hc) | ((with_reducible show wpList _ _ _ (⟨some 28, _, _, _, _, _⟩ :: _) _ _); refine wpList_new_row (v := fun g => .slice (some ⟨g, 0, none⟩) 0 0) (e := 5) (cs := []) rfl (fun w_ => by go_simp) ?_; intro w4 hr hx hs; have HO := Lib.hid (Owned.row (base := W.heap.size) (l := []) hr HC.out.size rfl (Nat.zero_le _)); have HB2 := Lib.hid (HB2.out.chg hx (fun h => h) (fun h => h)); have HC := Lib.hid (HC.out.trans hx); clear hr hx hs) | ((with_reducible show wpList _ _ _ (⟨some 30, _, _, _, _, _⟩ :: _) _ _); refine wpList_append_own2 rfl _ _ 22 rfl Try.underlying22 (base := W.heap.size) (v := .slice (some ⟨w3.heap.size, 0, none⟩) 0 0) (L := ([] : List Nat)) (M := xs) (T := fun b => b < W.heap.size) (A := A) (m := len) (c := cap) ?q17_1 ?q17_2 ?q17_3 ?q17_4 ?q17_5 ?q17_6 ?q17_7; (case q17_1 => exact rfl); (case q17_2 => exact HO.out); (case q17_3 => exact rfl); (case q17_4 => exact HV.out _ HC.out); (case q17_5 => simp only [List.length_nil]; omega); (case q17_6 => exact HC.out.size); intro v_ w5 ho hc _; have HB2 := Lib.hid (HB2.out.own hc HO.out); have HC := Lib.hid (HC.out.andThen hc (fun b hb e => by have := (HO.out.lt e).2; omega)); have HO := Lib.hid ho; rw [List.nil_append] at HO; obtain ⟨A5, c5, hv5, _, _, _⟩ := HO.out.view; rw [HXL.out] at hv5; subst hv5; rw [← HZ2.out] at HO; clear ho hc) | (go_at_call 11; refine (zRead HF.out.B HF.out.rd HB2.out (by rw [HZL.out]; omega)).mono ?_; rintro e w7 ⟨A7, c7, rfl, hv, hb, hc⟩; have HVR := Lib.hid hv; have HB3 := Lib.hid hb; have HVO := Lib.hid (wview HO.out HB2.out hc); have HC := Lib.hid (chg2 HC.out hc HG.out.1 HG.out.2); clear hv hb hc) | (go_at_call 13; refine (HSM.out _ _ _ _ _ _ _ HVR.out HVO.out).mono ?_; rintro e w8 ⟨rfl, k8, hw⟩; have HB3 := Lib.hid (by rw [hw]; exact HB3.out.drewN k8 : BA w8 g m _); have HC := Lib.hid (by rw [hw]; exact HC.out.drewN k8 : Chg none_ W w8); clear hw) | (go_at_call 17; have hT := bTop_any _ _ _ _ HB3.out.at_; rw [show (readS s3 Z.length).top = len from HF.out.top.trans HZN.out] at hT; refine hT.mono ?_; rintro e w_ ⟨rfl, hw_⟩; have hw_ := hw_.symm; subst hw_; clear hT))
        go_ret
        exact ⟨rfl, HC.out⟩
    · have l2 : (100 : Int) < (len' : Int) := by omega
      go_enter Try.func5, Try.ntmps5
      go_wp2_with (go_at_call 8; refine HAL.out.mono ?_; rintro e w0 ⟨rfl, hc⟩; have HC := Lib.hid hc; clear hc)
      go_ret
      exact ⟨rfl, HC.out⟩
  · have l1 : (100 : Int) < (len : Int) := by omega
    go_enter Try.func5, Try.ntmps5
    go_wp2_with (go_at_call 8; refine HAL.out.mono ?_; rintro e w0 ⟨rfl, hc⟩; have HC := Lib.hid hc; clear hc)
    go_ret
    exact ⟨rfl, HC.out⟩
end Go.Proofs.Ytbmhoijdbhokaaa
