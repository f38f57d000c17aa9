/- Layer 16 (reasm): the document's example (alive). -/
import Derived.Test.YtbmhoijdbhokaaaV16Has
import Derived.Test.YtbmhoijdbhokaaaStrView
import Derived.Test.YtbmhoijdbhokaaaStr
namespace Go.Proofs.Ytbmhoijdbhokaaa
open Go.RowKit

/-- The example's buffer, once ab and cd came. -/
structure AS (s : Rb) (rd : Nat) : Prop where
  ok : s.Ok
  win : s.win = 10
  rd : s.rd = rd
  top : s.top = 4
  kn : s.kn = true
  B : s.B = fun q => [97, 98, 99, 100][q]?
theorem AS.gap {s : Rb} {rd : Nat} (h : AS s rd) : s.gap = 4 := h.ok.gap_eq (by rw [h.B]; rfl) (fun p hp => by
  rw [h.B]
  have : p < ([97, 98, 99, 100] : List Nat).length := hp
  exact ⟨_, List.getElem?_eq_getElem this⟩)
theorem AS.read {s : Rb} {rd : Nat} (h : AS s rd) (k : Nat) (hk : rd + k ≤ 4) : AS (readS s k) (rd + k) :=
  ⟨readS_ok h.ok (by rw [h.rd, h.gap]; exact hk), h.win, by show s.rd + k = rd + k; rw [h.rd], h.top, h.kn, h.B⟩
theorem AS.of {s t : Rb} (hs : PutS (newB 10) s 2 [99, 100] true) (ht : PutS s t 0 [97, 98] false) : AS t 0 := by
  refine ⟨ht.ok, ht.win.trans hs.win, ht.rd.trans hs.rd, ?_, ?_, ?_⟩
  · rw [ht.top, hs.top]; rfl
  · rw [ht.kn, hs.kn]; rfl
  · rw [ht.B, hs.B]
    funext q
    simp only [putB, newB]
    rcases q with _ | _ | _ | _ | q <;> simp

section
variable {w : World} {g m c : Nat} {s : Rb} {A : Option Addr} {T : Nat → Prop}
theorem aNew (w : World) : Calls Try.prog 9 #[.int .i64 10] w fun e w' => ∃ g m, e = .returned (.pointer (some ⟨g, 0, none⟩)) ∧ w.heap.size ≤ g ∧ w.heap.size ≤ m ∧ BA w' g m (newB 10) ∧ Chg none_ w w' :=
  (bNew_any 10 (by decide) w).mono (by rintro e w' ⟨g, m, h1, h2, h3, h4, h5⟩; exact ⟨g, m, h1, h2, h3, ⟨h4, newB_ok (by decide)⟩, h5⟩)
theorem aNo (w : World) : Calls Try.prog 9 #[.int .i64 (-1)] w fun e w' => e = .returned (.pointer none) ∧ w' = w := bNew_none (-1) (by decide) w
theorem aPut1 (h : BA w g m (newB 10)) (hT : ∀ b, T b → ¬ of2 g m b) (hv : View w T A 2 (u8s [99, 100])) : Calls Try.prog 10 #[.pointer (some ⟨g, 0, none⟩), .int .u64 2, .slice A 2 c, .bool true] w fun e w' => e = .returned (.int .i64 0) ∧ ∃ t, PutS (newB 10) t 2 [99, 100] true ∧ BA w' g m t ∧ Chg (of2 g m) w w' :=
  cPut0 (off := 2) (data := [99, 100]) h (by decide) hT hv (by decide)
theorem aPut2 (hs : PutS (newB 10) s 2 [99, 100] true) (h : BA w g m s) (hT : ∀ b, T b → ¬ of2 g m b) (hv : View w T A 2 (u8s [97, 98])) : Calls Try.prog 10 #[.pointer (some ⟨g, 0, none⟩), .int .u64 0, .slice A 2 c, .bool false] w fun e w' => e = .returned (.int .i64 0) ∧ ∃ t, AS t 0 ∧ BA w' g m t ∧ Chg (of2 g m) w w' :=
  (cPut0 (off := 0) (data := [97, 98]) h (by decide) hT hv (by unfold putE; rw [hs.rd, hs.win, hs.kn, hs.top]; decide)).mono (by
    rintro e w' ⟨rfl, t, h1, h2, h3⟩
    exact ⟨rfl, t, AS.of hs h1, h2, h3⟩)
theorem aPut3 (hs : AS s 0) (h : BA w g m s) : Calls Try.prog 10 #[.pointer (some ⟨g, 0, none⟩), .int .u64 4, .slice A 1 c, .bool false] w fun e w' => e = .returned (.int .i64 10) ∧ BA w' g m s ∧ Chg (of2 g m) w w' :=
  cPutE (off := 4) (data := [120]) h (by decide) (by decide) 10 (by unfold putE; rw [hs.rd, hs.win, hs.kn, hs.top]; decide) (by decide)
theorem aPut4 (hs : AS s 4) (h : BA w g m s) : Calls Try.prog 10 #[.pointer (some ⟨g, 0, none⟩), .int .u64 14, .slice A 1 c, .bool false] w fun e w' => e = .returned (.int .i64 9) ∧ BA w' g m s ∧ Chg (of2 g m) w w' :=
  cPutE (off := 14) (data := [120]) h (by decide) (by decide) 9 (by unfold putE; rw [hs.rd, hs.win, hs.kn, hs.top]; decide) (by decide)
theorem aReady (hs : AS s 0) (h : BA w g m s) : Calls Try.prog 14 #[.pointer (some ⟨g, 0, none⟩)] w fun e w' => e = .returned (.int .i64 4) ∧ ∃ k, w' = w.drewN k := by
  have := bReady_any g m s h.ok.core w h.at_
  rw [hs.gap, hs.rd] at this
  exact this
theorem aRead1 (hs : AS s 0) (h : BA w g m s) : Calls Try.prog 11 #[.pointer (some ⟨g, 0, none⟩), .int .i64 3] w fun e w' => ∃ A c, e = .returned (.slice A 3 c) ∧ View w' (fun b => w.heap.size ≤ b) A 3 (u8s [97, 98, 99]) ∧ ∃ t, AS t 3 ∧ BA w' g m t ∧ Chg (of2 g m) w w' :=
  (cRead h 3 3 (by unfold readK; rw [hs.gap, hs.rd]; decide)).mono (by
    rintro e w' ⟨A, c, rfl, h1, h2, h3, h4⟩
    rw [hs.B, hs.rd] at h2
    exact ⟨A, c, rfl, h2, _, hs.read 3 (by decide), h3, h4⟩)
theorem aRead2 (hs : AS s 3) (h : BA w g m s) : Calls Try.prog 11 #[.pointer (some ⟨g, 0, none⟩), .int .i64 9] w fun e w' => ∃ A c, e = .returned (.slice A 1 c) ∧ View w' (fun b => w.heap.size ≤ b) A 1 (u8s [100]) ∧ ∃ t, AS t 4 ∧ BA w' g m t ∧ Chg (of2 g m) w w' :=
  (cRead h 9 1 (by unfold readK; rw [hs.gap, hs.rd]; decide)).mono (by
    rintro e w' ⟨A, c, rfl, h1, h2, h3, h4⟩
    rw [hs.B, hs.rd] at h2
    exact ⟨A, c, rfl, h2, _, hs.read 1 (by decide), h3, h4⟩)
theorem aDone (hs : AS s 4) (h : BA w g m s) : Calls Try.prog 20 #[.pointer (some ⟨g, 0, none⟩)] w fun e w' => e = .returned (.bool true) ∧ ∃ k, w' = w.drewN k := by
  have := bDone_any g m s w h.at_
  rw [hs.kn, hs.rd, hs.top] at this
  exact this
theorem aLimit (hs : AS s 4) (h : BA w g m s) : Calls Try.prog 16 #[.pointer (some ⟨g, 0, none⟩)] w fun e w' => e = .returned (.int .u64 14) ∧ ∃ k, w' = w.drewN k := by
  have := bLimit_any g m s h.ok.core w h.at_
  rw [hs.rd, hs.win] at this
  exact this
theorem aTop (hs : AS s 4) (h : BA w g m s) : Calls Try.prog 17 #[.pointer (some ⟨g, 0, none⟩)] w fun e w' => e = .returned (.int .u64 4) ∧ w' = w := by
  have := bTop_any g m s w h.at_
  rw [hs.top] at this
  exact this
theorem aHas1 (hs : AS s 4) (h : BA w g m s) : Calls Try.prog 21 #[.pointer (some ⟨g, 0, none⟩), .int .u64 1, .int .u64 4] w fun e w' => e = .returned (.bool true) ∧ w' = w := by
  have := has_any g m 1 4 s h.ok (by decide) (by decide) w h.at_
  rw [show hasB s 1 4 = true by unfold hasB cameB; rw [hs.B]; decide] at this
  exact this
theorem aHas2 (hs : AS s 4) (h : BA w g m s) : Calls Try.prog 21 #[.pointer (some ⟨g, 0, none⟩), .int .u64 1, .int .u64 5] w fun e w' => e = .returned (.bool false) ∧ w' = w := by
  have := has_any g m 1 5 s h.ok (by decide) (by decide) w h.at_
  rw [show hasB s 1 5 = false by unfold hasB cameB; rw [hs.B]; decide] at this
  exact this
theorem aHeld (hs : AS s 4) (h : BA w g m s) : Calls Try.prog 12 #[.pointer (some ⟨g, 0, none⟩)] w fun e w' => e = .returned (.int .i64 0) ∧ w' = w := by
  have := bHeld_any g m s w h.at_
  rw [h.ok.core.none_held (fun p hp => by rw [hs.B]; show ([97, 98, 99, 100] : List Nat)[p]? = none; rw [hs.rd] at hp; exact List.getElem?_eq_none hp)] at this
  exact this
end
theorem BA.drewN {w : World} {g m : Nat} {s : Rb} (h : BA w g m s) (k : Nat) : BA (w.drewN k) g m s := ⟨h.at_.drewN k, h.ok⟩
theorem far2 {g m n : Nat} (h1 : g < n) (h2 : m < n) : ∀ b, b = n → ¬ of2 g m b := fun b e h => by rcases h with h | h <;> omega
/-- Nothing that lay ahead of the law has turned. -/
theorem chg2 {W w w' : World} {g m : Nat} (h : Chg none_ W w) (hc : Chg (of2 g m) w w') (hg : W.heap.size ≤ g) (hm : W.heap.size ≤ m) : Chg none_ W w' :=
  h.andThen hc (fun b hb e => by rcases e with e | e <;> omega)

set_option maxRecDepth 100000 in
set_option maxHeartbeats 8000000 in
theorem alive_any (W : World) : Calls Try.prog 8 #[] W fun e w' => e = .returned (.bool true) ∧ Chg none_ W w' := by
  have hs3 : Hid (∀ w (T : Nat → Prop) A c, View w T A 3 (u8s [97, 98, 99]) → (convert 22 9 (.slice A 3 c)).run Try.prog w = .ok (.string ⟨#[97, 98, 99]⟩) w) := Lib.hid (fun w T A c h => run_string_view w T A 3 c [97, 98, 99] h)
  have hs1 : Hid (∀ w (T : Nat → Prop) A c, View w T A 1 (u8s [100]) → (convert 22 9 (.slice A 1 c)).run Try.prog w = .ok (.string ⟨#[100]⟩) w) := Lib.hid (fun w T A c h => run_string_view w T A 1 c [100] h)
  go_enter Try.func8, Try.ntmps8
  go_wp2_with (first | ((with_reducible show Calls _ 9 #[.int .i64 10] _ _); refine (aNew W).mono ?_; rintro e w1 ⟨g, m, rfl, hg, hm, hb, hc⟩; have HG := Lib.hid (And.intro hg hm); have HB := Lib.hid hb; have HC := Lib.hid hc; have HC1 := HC; clear hg hm hb hc) | ((with_reducible show wpList _ _ _ (⟨some 9, _, _, _, _, _⟩ :: _) _ _); refine wpList_new_row (v := fun g => .slice (some ⟨g, 0, none⟩) 2 2) (e := 5) (cs := [.int .u8 99, .int .u8 100]) rfl (fun w_ => by go_simp) ?_; intro w2 hr hx hs; have HR := Lib.hid hr; have HF := Lib.hid (And.intro HB.out.at_.row.lt HB.out.at_.map.lt); have HB := Lib.hid (HB.out.chg hx (fun h => h) (fun h => h)); have HC := Lib.hid (HC.out.trans hx); clear hr hx hs) | ((with_reducible show wpList _ _ _ (⟨some 10, _, _, _, _, _⟩ :: _) _ _); refine wpList_bytes_mark rfl rfl (g := w1.heap.size) (n := 2) (c := 2) rfl Try.underlying22 Try.underlying5 HR.out ?_; intro w3 hv hx hs; have HV := Lib.hid (show View w3 (fun b => b = w1.heap.size) (some ⟨w1.heap.size, 0, none⟩) 2 (u8s [99, 100]) from hv); have HB := Lib.hid (HB.out.chg hx (fun e => Nat.ne_of_lt HF.out.1 e) (fun e => Nat.ne_of_lt HF.out.2 e)); have HT := Lib.hid (far2 HF.out.1 HF.out.2); have HC := Lib.hid (HC.out.andThen hx (fun b hb e => by have h1 : W.heap.size ≤ w1.heap.size := HC1.out.size; have h2 : b = w1.heap.size := e; omega)); clear hv hx hs) | ((with_reducible show Calls _ 10 #[_, .int .u64 2, _, _] _ _); refine (aPut1 HB.out HT.out HV.out).mono ?_; rintro e w4 ⟨rfl, s1, hp, hb, hc⟩; have HP1 := Lib.hid hp; have HB := Lib.hid hb; have HC := Lib.hid (chg2 HC.out hc HG.out.1 HG.out.2); have HC4 := HC; clear hp hb hc) | ((with_reducible show wpList _ _ _ (⟨some 13, _, _, _, _, _⟩ :: _) _ _); refine wpList_new_row (v := fun g => .slice (some ⟨g, 0, none⟩) 2 2) (e := 5) (cs := [.int .u8 97, .int .u8 98]) rfl (fun w_ => by go_simp) ?_; intro w5 hr hx hs; have HR := Lib.hid hr; have HF := Lib.hid (And.intro HB.out.at_.row.lt HB.out.at_.map.lt); have HB := Lib.hid (HB.out.chg hx (fun h => h) (fun h => h)); have HC := Lib.hid (HC.out.trans hx); clear hr hx hs) | ((with_reducible show wpList _ _ _ (⟨some 14, _, _, _, _, _⟩ :: _) _ _); refine wpList_bytes_mark rfl rfl (g := w4.heap.size) (n := 2) (c := 2) rfl Try.underlying22 Try.underlying5 HR.out ?_; intro w6 hv hx hs; have HV := Lib.hid (show View w6 (fun b => b = w4.heap.size) (some ⟨w4.heap.size, 0, none⟩) 2 (u8s [97, 98]) from hv); have HB := Lib.hid (HB.out.chg hx (fun e => Nat.ne_of_lt HF.out.1 e) (fun e => Nat.ne_of_lt HF.out.2 e)); have HT := Lib.hid (far2 HF.out.1 HF.out.2); have HC := Lib.hid (HC.out.andThen hx (fun b hb e => by have h1 : W.heap.size ≤ w4.heap.size := HC4.out.size; have h2 : b = w4.heap.size := e; omega)); clear hv hx hs) | ((with_reducible show Calls _ 10 #[_, .int .u64 0, _, _] _ _); refine (aPut2 HP1.out HB.out HT.out HV.out).mono ?_; rintro e w7 ⟨rfl, s2, ha, hb, hc⟩; have HA := Lib.hid ha; have HB := Lib.hid hb; have HC := Lib.hid (chg2 HC.out hc HG.out.1 HG.out.2); have HC7 := HC; clear ha hb hc) | ((with_reducible show wpList _ _ _ (⟨some 17, _, _, _, _, _⟩ :: _) _ _); refine wpList_new_row (v := fun g => .slice (some ⟨g, 0, none⟩) 1 1) (e := 5) (cs := [.int .u8 120]) rfl (fun w_ => by go_simp) ?_; intro w8 hr hx hs; have HR := Lib.hid hr; have HF := Lib.hid (And.intro HB.out.at_.row.lt HB.out.at_.map.lt); have HB := Lib.hid (HB.out.chg hx (fun h => h) (fun h => h)); have HC := Lib.hid (HC.out.trans hx); clear hr hx hs) | ((with_reducible show wpList _ _ _ (⟨some 18, _, _, _, _, _⟩ :: _) _ _); refine wpList_bytes_mark rfl rfl (g := w7.heap.size) (n := 1) (c := 1) rfl Try.underlying22 Try.underlying5 HR.out ?_; intro w9 hv hx hs; have HV := Lib.hid (show View w9 (fun b => b = w7.heap.size) (some ⟨w7.heap.size, 0, none⟩) 1 (u8s [120]) from hv); have HB := Lib.hid (HB.out.chg hx (fun e => Nat.ne_of_lt HF.out.1 e) (fun e => Nat.ne_of_lt HF.out.2 e)); have HT := Lib.hid (far2 HF.out.1 HF.out.2); have HC := Lib.hid (HC.out.andThen hx (fun b hb e => by have h1 : W.heap.size ≤ w7.heap.size := HC7.out.size; have h2 : b = w7.heap.size := e; omega)); clear hv hx hs) | ((with_reducible show Calls _ 10 #[_, .int .u64 4, _, _] _ _); refine (aPut3 HA.out HB.out).mono ?_; rintro e w10 ⟨rfl, hb, hc⟩; have HB := Lib.hid hb; have HC := Lib.hid (chg2 HC.out hc HG.out.1 HG.out.2); clear hb hc) | (go_at_call 14; refine (aReady HA.out HB.out).mono ?_; rintro e w11 ⟨rfl, k_w11, hw⟩; have HB := Lib.hid (by rw [hw]; exact HB.out.drewN k_w11 : BA w11 g m _); have HC := Lib.hid (by rw [hw]; exact HC.out.drewN k_w11 : Chg none_ W w11); clear hw) | ((with_reducible show Calls _ 11 #[_, .int .i64 3] _ _); refine (aRead1 HA.out HB.out).mono ?_; rintro e w12 ⟨A1, c1, rfl, hv, s3, ha, hb, hc⟩; have e40 := hs3.out _ _ _ c1 hv; have HA := Lib.hid ha; have HB := Lib.hid hb; have HC := Lib.hid (chg2 HC.out hc HG.out.1 HG.out.2); clear hv ha hb hc) | ((with_reducible show Calls _ 11 #[_, .int .i64 9] _ _); refine (aRead2 HA.out HB.out).mono ?_; rintro e w13 ⟨A2, c2, rfl, hv, s4, ha, hb, hc⟩; have e46 := hs1.out _ _ _ c2 hv; have HA := Lib.hid ha; have HB := Lib.hid hb; have HC := Lib.hid (chg2 HC.out hc HG.out.1 HG.out.2); clear hv ha hb hc) | (go_at_call 20; refine (aDone HA.out HB.out).mono ?_; rintro e w14 ⟨rfl, k_w14, hw⟩; have HB := Lib.hid (by rw [hw]; exact HB.out.drewN k_w14 : BA w14 g m _); have HC := Lib.hid (by rw [hw]; exact HC.out.drewN k_w14 : Chg none_ W w14); clear hw) | (go_at_call 16; refine (aLimit HA.out HB.out).mono ?_; rintro e w15 ⟨rfl, k_w15, hw⟩; have HB := Lib.hid (by rw [hw]; exact HB.out.drewN k_w15 : BA w15 g m _); have HC := Lib.hid (by rw [hw]; exact HC.out.drewN k_w15 : Chg none_ W w15); have HC15 := HC; clear hw) | (go_at_call 17; refine (aTop HA.out HB.out).mono ?_; rintro e w_ ⟨rfl, hw_⟩; have hw_ := hw_.symm; subst hw_) | ((with_reducible show Calls _ 21 #[_, _, .int .u64 4] _ _); refine (aHas1 HA.out HB.out).mono ?_; rintro e w_ ⟨rfl, hw_⟩; have hw_ := hw_.symm; subst hw_) | ((with_reducible show Calls _ 21 #[_, _, .int .u64 5] _ _); refine (aHas2 HA.out HB.out).mono ?_; rintro e w_ ⟨rfl, hw_⟩; have hw_ := hw_.symm; subst hw_) | (go_at_call 12; refine (aHeld HA.out HB.out).mono ?_; rintro e w_ ⟨rfl, hw_⟩; have hw_ := hw_.symm; subst hw_) | ((with_reducible show wpList _ _ _ (⟨some 79, _, _, _, _, _⟩ :: _) _ _); refine wpList_new_row (v := fun g => .slice (some ⟨g, 0, none⟩) 1 1) (e := 5) (cs := [.int .u8 120]) rfl (fun w_ => by go_simp) ?_; intro w16 hr hx hs; have HR := Lib.hid hr; have HF := Lib.hid (And.intro HB.out.at_.row.lt HB.out.at_.map.lt); have HB := Lib.hid (HB.out.chg hx (fun h => h) (fun h => h)); have HC := Lib.hid (HC.out.trans hx); clear hr hx hs) | ((with_reducible show wpList _ _ _ (⟨some 80, _, _, _, _, _⟩ :: _) _ _); refine wpList_bytes_mark rfl rfl (g := w15.heap.size) (n := 1) (c := 1) rfl Try.underlying22 Try.underlying5 HR.out ?_; intro w17 hv hx hs; have HV := Lib.hid (show View w17 (fun b => b = w15.heap.size) (some ⟨w15.heap.size, 0, none⟩) 1 (u8s [120]) from hv); have HB := Lib.hid (HB.out.chg hx (fun e => Nat.ne_of_lt HF.out.1 e) (fun e => Nat.ne_of_lt HF.out.2 e)); have HT := Lib.hid (far2 HF.out.1 HF.out.2); have HC := Lib.hid (HC.out.andThen hx (fun b hb e => by have h1 : W.heap.size ≤ w15.heap.size := HC15.out.size; have h2 : b = w15.heap.size := e; omega)); clear hv hx hs) | ((with_reducible show Calls _ 10 #[_, .int .u64 14, _, _] _ _); refine (aPut4 HA.out HB.out).mono ?_; rintro e w18 ⟨rfl, hb, hc⟩; have HB := Lib.hid hb; have HC := Lib.hid (chg2 HC.out hc HG.out.1 HG.out.2); clear hb hc) | ((with_reducible show Calls _ 9 #[.int .i64 (-1)] _ _); refine (aNo _).mono ?_; rintro e w_ ⟨rfl, hw_⟩; have hw_ := hw_.symm; subst hw_))
  go_ret
  exact ⟨rfl, HC.out⟩
end Go.Proofs.Ytbmhoijdbhokaaa
