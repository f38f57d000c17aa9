/- Layer 6 (hframe): the law HframeSettings. -/
import Derived.Test.YtcdnjeojgjakdaaDoorV6Alive
import Derived.Test.YtcdnjeojgjakdaaDoorV6Open
import Derived.Test.YtcdnjeojgjakdaaDoorV6Back
import Derived.Test.YtcdnjeojgjakdaaDoorAppN
import Derived.Deep.Draws
namespace Go.Proofs.YtcdnjeojgjakdaaDoor
open Go.RowKit

/-- Settings alone. -/
def fSet (l : List (Nat × Nat)) : Hf := { kind := 4, sets := l }
theorem fSet_ok {l : List (Nat × Nat)} (h : ∀ x ∈ l, x.1 < 18446744073709551616 ∧ x.2 < 18446744073709551616) : (fSet l).Ok :=
  ⟨show (-9223372036854775808 : Int) ≤ 4 by decide, show (4 : Int) < 9223372036854775808 by decide, show (0 : Nat) < 18446744073709551616 by decide, (fun x (hx : x ∈ ([] : List Nat)) => by cases hx), h⟩
theorem right_dup {l : List (Nat × Nat)} (h : l ≠ []) : rightH (fSet (l ++ [l.getD 0 (0, 0)])) = false := by
  have hs : setsB (l ++ [l.getD 0 (0, 0)]) = false := by
    unfold setsB
    rw [decide_eq_false_iff_not]
    rintro ⟨_, h2⟩
    have h3 := h2 l.length (by simp)
    unfold badAt at h3
    rw [Bool.or_eq_false_iff] at h3
    have h4 := h3.1
    have e : (l ++ [l.getD 0 (0, 0)]).take l.length = l := by simp
    have e2 : (l ++ [l.getD 0 (0, 0)]).getD l.length (0, 0) = l.getD 0 (0, 0) := by simp [List.getD_eq_getElem?_getD]
    rw [e, e2, List.any_eq_false] at h4
    cases l with
    | nil => exact h rfl
    | cons a t => exact h4 a (by simp) (by simp)
  unfold rightH
  rw [show kkM (keyM (fSet (l ++ [l.getD 0 (0, 0)])).kind) = some .sets from (show kkM (keyM 4) = some .sets by decide +kernel)]
  show (setsB (l ++ [l.getD 0 (0, 0)]) && _) = false
  rw [hs]; rfl
theorem sets_hd {w : World} {T : Nat → Prop} {A : Option Addr} {c : Nat} {l : List (Nat × Nat)} (h : View w T A (2 * l.length) (rcells l)) (hl : l.length ≤ 1000000) (hc : l.length ≤ c) : HfD w T (fSet l) (.slice A l.length c) (.slice none 0 0) :=
  ⟨⟨A, c, rfl, ⟨hl, hc⟩, h⟩, ⟨none, 0, rfl, ⟨Nat.zero_le _, Nat.zero_le _⟩, View.none_ _ _ _⟩⟩
theorem cells_set (l : List (Nat × Nat)) (A : Option Addr) (n c : Nat) : (cellsH (fSet l) (.slice A n c) (.slice none 0 0)).all (·.oneCell') = true := rfl

section
variable (l : List (Nat × Nat)) (A : Option Addr) (c : Nat) (W : World)

set_option maxRecDepth 100000 in
set_option maxHeartbeats 2000000 in
theorem sets_gr (hT : Tab W) (hg : 30 < l.length) :
    Calls Tryd.prog 9 #[.slice A l.length c] W fun e w' => e = .returned (.bool true) ∧ Chg none_ W w' := by
  have HAL := Lib.hid (alive_any W hT)
  have h1 : (30 : Int) < (l.length : Int) := by omega
  clear hT hg
  go_enter Tryd.func9, Tryd.ntmps9
  go_wp2_with (first | (go_at_call 10; refine (HAL.out).mono ?_; rintro e w1 ⟨rfl, c1⟩) | ((with_reducible show wpList _ _ _ (⟨_, .store 26 (.tmp 3) _, _, _, _, _⟩ :: _) _ _); refine wpList_store_Row (xs := cellsH (fSet l) (.slice A l.length c) (.slice none 0 0)) rfl rfl rfl (Row.new w1 26 zcH) rfl rfl sizeH (cells_set l _ _ _) ?_; intro w2 hr2 hch2 _; have c2 := hch2 none_ w1 ((Chg.refl none_ w1).alloc _) (fun h => absurd h (by omega)); clear hch2 hr2))
  go_ret
  exact ⟨rfl, c1.trans c2⟩

set_option maxRecDepth 100000 in
set_option maxHeartbeats 2000000 in
theorem sets_no (hvl : View W (fun _ => True) A (2 * l.length) (rcells l)) (hlc : l.length ≤ c) (_ : ∀ x ∈ l, x.1 < 18446744073709551616 ∧ x.2 < 18446744073709551616) (hT : Tab W) (hg : l.length ≤ 30) (qr : rightH (fSet l) = false) :
    Calls Tryd.prog 9 #[.slice A l.length c] W fun e w' => e = .returned (.bool true) ∧ Chg none_ W w' := by
  have HAL := Lib.hid (alive_any W hT)
  have h1 : ¬ (30 : Int) < (l.length : Int) := by omega
  have h1d : decide ((30 : Int) < (l.length : Int)) = false := decide_eq_false h1
  have HRT := Lib.hid (fun w' (hc : Chg none_ W w') => Right_any (fSet l) _ _ w' _ (sets_hd (hvl.chg hc (fun _ _ h => h)) (by omega) hlc))
  rw [qr] at HRT
  unfold aggH at HRT
  clear hvl hlc hT hg qr
  go_enter Tryd.func9, Tryd.ntmps9
  go_wp2_with (first | (go_at_call 10; refine (HAL.out).mono ?_; rintro e w1 ⟨rfl, c1⟩) | ((with_reducible show wpList _ _ _ (⟨_, .store 26 (.tmp 3) _, _, _, _, _⟩ :: _) _ _); refine wpList_store_Row (xs := cellsH (fSet l) (.slice A l.length c) (.slice none 0 0)) rfl rfl rfl (Row.new w1 26 zcH) rfl rfl sizeH (cells_set l _ _ _) ?_; intro w2 hr2 hch2 _; have c2 := hch2 none_ w1 ((Chg.refl none_ w1).alloc _) (fun h => absurd h (by omega)); have HX := Lib.hid (fun w' (hc : Chg none_ w2 w') => hr2.chg hc (fun h => h)); clear hch2 hr2; have k2 := Chg.refl none_ w2) | ((with_reducible show wpList _ _ _ (⟨_, .load 26 (.tmp 3), _, _, _, _⟩ :: _) _ _); refine wpList_load_Row rfl rfl rfl (HX.out _ (by assumption)) Tryd.underlying26 rfl sizeH ?_) | (go_at_call 12; refine (HRT.out _ (c1.trans c2)).mono ?_; rintro e w3 ⟨rfl, d3⟩))
  go_ret
  exact ⟨rfl, (c1.trans c2).trans d3⟩

set_option maxRecDepth 100000 in
set_option maxHeartbeats 4000000 in
theorem sets_nil (hvl : View W (fun _ => True) A (2 * l.length) (rcells l)) (hlc : l.length ≤ c) (hls : ∀ x ∈ l, x.1 < 18446744073709551616 ∧ x.2 < 18446744073709551616) (hT : Tab W) (hg : l.length ≤ 30) (qr : rightH (fSet l) = true) (qe : l = []) :
    Calls Tryd.prog 9 #[.slice A l.length c] W fun e w' => e = .returned (.bool true) ∧ Chg none_ W w' := by
  have HAL := Lib.hid (alive_any W hT)
  have h1 : ¬ (30 : Int) < (l.length : Int) := by omega
  have h1d : decide ((30 : Int) < (l.length : Int)) = false := decide_eq_false h1
  have hD := fun w' (hc : Chg none_ W w') => sets_hd (hvl.chg hc (fun _ _ h => h)) (by omega) hlc
  have HRT := Lib.hid (fun w' (hc : Chg none_ W w') => Right_any (fSet l) _ _ w' _ (hD w' hc))
  have HPU := Lib.hid (fun w' (hc : Chg none_ W w') => Put_any (fSet l) _ _ w' _ (hD w' hc) (hT.chg hc (fun h => h)))
  have HSA := Lib.hid (fun w' (hc : Chg none_ W w') ss' sd' T' (hd : HfD w' T' (fSet l) ss' sd') => sameH_any (fSet l) (fSet l) _ _ ss' sd' w' _ T' (hD w' hc) hd (fSet_ok hls).data (fSet_ok hls).data)
  have HNX := Lib.hid (fun w' T A' k (hv : View w' T A' (putH (fSet l)).length (u8s (putH (fSet l)))) (hk : (putH (fSet l)).length ≤ k) => by
    have h := next_any w' T A' k (putH (fSet l)) hv (by have := putH_len (fSet l); omega) hk (putH_lt (fSet l) (fSet_ok hls))
    have e := next_put (fSet l) (fSet_ok hls) qr []
    rw [List.append_nil] at e
    rw [e] at h
    exact h)
  rw [qr] at HRT
  rw [decide_eq_true rfl] at HSA

  have hl0 : (l.length : Int) = 0 := by rw [qe]; rfl

  clear hvl hT qr qe hls hD hlc
  unfold aggH at *
  go_enter Tryd.func9, Tryd.ntmps9
  go_wp2_with (first | (go_at_call 10; refine (HAL.out).mono ?_; rintro e w1 ⟨rfl, c1⟩) | ((with_reducible show wpList _ _ _ (⟨_, .store 26 (.tmp 3) _, _, _, _, _⟩ :: _) _ _); refine wpList_store_Row (xs := cellsH (fSet l) (.slice A l.length c) (.slice none 0 0)) rfl rfl rfl (Row.new w1 26 zcH) rfl rfl sizeH (cells_set l _ _ _) ?_; intro w2 hr2 hch2 _; have c2 := hch2 none_ w1 ((Chg.refl none_ w1).alloc _) (fun h => absurd h (by omega)); have HX := Lib.hid (fun w' (hc : Chg none_ w2 w') => hr2.chg hc (fun h => h)); clear hch2 hr2; have k2 := Chg.refl none_ w2) | ((with_reducible show wpList _ _ _ (⟨_, .load 26 (.tmp 3), _, _, _, _⟩ :: _) _ _); refine wpList_load_Row rfl rfl rfl (HX.out _ (by assumption)) Tryd.underlying26 rfl sizeH ?_) | (go_at_call 12; refine (HRT.out _ (c1.trans c2)).mono ?_; rintro e w3 ⟨rfl, d3⟩; have k3 := d3))
  refine (HPU.out _ ((c1.trans c2).trans d3)).mono ?_
  rintro e w4 ⟨A4, k4, rfl, s4, d4⟩
  obtain ⟨_, _, e4, hk4, _, _⟩ := View.own (T := fun _ => True) s4.own (fun _ _ => trivial)
  cases e4
  have HN := Lib.hid (HNX.out w4 _ A4 k4 s4.view hk4)
  clear HNX s4 hk4 HPU
  go_wp2_with fail
  refine HN.out.mono ?_
  rintro e w5 ⟨ss5, sd5, rfl, hd5, d5⟩
  have h15 := Lib.hid hd5.one
  have HD5 := Lib.hid hd5
  have c5 := (d3.trans d4).trans d5
  clear hd5 HN d5 d4 k3 k2
  unfold aggH
  simp only
  go_wp2_with (first | ((with_reducible show wpList _ _ _ (⟨_, .store 26 (.tmp 4) _, _, _, _, _⟩ :: _) _ _); refine wpList_store_Row (xs := cellsH (fSet l) ss5 sd5) rfl rfl rfl (Row.new w5 26 zcH) rfl rfl sizeH h15.out ?_; intro w6 hr6 hch6 _; have c6 := hch6 none_ w5 ((Chg.refl none_ w5).alloc _) (fun h => absurd h (by omega)); clear hch6) | ((with_reducible show wpList _ _ _ (⟨_, .load 26 (.tmp 3), _, _, _, _⟩ :: _) _ _); refine wpList_load_Row rfl rfl rfl (HX.out _ (c5.trans c6)) Tryd.underlying26 rfl sizeH ?_) | ((with_reducible show wpList _ _ _ (⟨_, .load 26 (.tmp 4), _, _, _, _⟩ :: _) _ _); refine wpList_load_Row rfl rfl rfl (hr6) Tryd.underlying26 rfl sizeH ?_) | (go_at_call 17; refine (HSA.out _ ((c1.trans c2).trans (c5.trans c6)) _ _ _ (HD5.out.chg c6 (fun _ _ h => h))).mono ?_; rintro e w7 ⟨rfl, d7⟩; have c7 := (c5.trans c6).trans d7))
  go_ret
  exact ⟨rfl, (c1.trans c2).trans c7⟩

set_option maxRecDepth 100000 in
set_option maxHeartbeats 4000000 in
theorem sets_dup (hvl : View W (fun _ => True) A (2 * l.length) (rcells l)) (hlc : l.length ≤ c) (hls : ∀ x ∈ l, x.1 < 18446744073709551616 ∧ x.2 < 18446744073709551616) (hT : Tab W) (hg : l.length ≤ 30) (qr : rightH (fSet l) = true) (qe : l ≠ []) :
    Calls Tryd.prog 9 #[.slice A l.length c] W fun e w' => e = .returned (.bool true) ∧ Chg none_ W w' := by
  have HAL := Lib.hid (alive_any W hT)
  have h1 : ¬ (30 : Int) < (l.length : Int) := by omega
  have h1d : decide ((30 : Int) < (l.length : Int)) = false := decide_eq_false h1
  have hD := fun w' (hc : Chg none_ W w') => sets_hd (hvl.chg hc (fun _ _ h => h)) (by omega) hlc
  have HRT := Lib.hid (fun w' (hc : Chg none_ W w') => Right_any (fSet l) _ _ w' _ (hD w' hc))
  have HPU := Lib.hid (fun w' (hc : Chg none_ W w') => Put_any (fSet l) _ _ w' _ (hD w' hc) (hT.chg hc (fun h => h)))
  have HSA := Lib.hid (fun w' (hc : Chg none_ W w') ss' sd' T' (hd : HfD w' T' (fSet l) ss' sd') => sameH_any (fSet l) (fSet l) _ _ ss' sd' w' _ T' (hD w' hc) hd (fSet_ok hls).data (fSet_ok hls).data)
  have HNX := Lib.hid (fun w' T A' k (hv : View w' T A' (putH (fSet l)).length (u8s (putH (fSet l)))) (hk : (putH (fSet l)).length ≤ k) => by
    have h := next_any w' T A' k (putH (fSet l)) hv (by have := putH_len (fSet l); omega) hk (putH_lt (fSet l) (fSet_ok hls))
    have e := next_put (fSet l) (fSet_ok hls) qr []
    rw [List.append_nil] at e
    rw [e] at h
    exact h)
  rw [qr] at HRT
  rw [decide_eq_true rfl] at HSA

  have hl0 : (l.length : Int) ≠ 0 := by
    intro e
    exact qe (List.eq_nil_of_length_eq_zero (by omega))
  have hl1 : 0 < l.length := by omega
  obtain ⟨b, o, rfl, hbW, _, hcl⟩ := hvl.pairs hl1
  have hcl0 := hcl 0 hl1
  simp only [Nat.zero_mul, Nat.add_zero] at hcl0
  have HCL := Lib.hid (fun w' (hc : Chg none_ W w') => (⟨(hc.cell o hbW (fun h => h)).trans hcl0.1, (hc.cell (o + 1) hbW (fun h => h)).trans hcl0.2⟩ : _ ∧ _))
  have HVL := Lib.hid (fun w' (hc : Chg none_ W w') => hvl.chg hc (fun _ _ h => h))
  have HTW := Lib.hid (fun w' (hc : Chg none_ W w') => hT.chg hc (fun h => h))
  have HTB := Lib.hid hT.1
  have HDU := Lib.hid (right_dup qe)
  have HPN := Lib.hid (putH_no (right_dup qe))
  obtain ⟨iS, hS, hS0, hS1, hS2⟩ := info_parts infoS

  clear hvl hT qr qe hls hD hlc
  unfold aggH at *
  go_enter Tryd.func9, Tryd.ntmps9
  go_wp2_with (first | (go_at_call 10; refine (HAL.out).mono ?_; rintro e w1 ⟨rfl, c1⟩) | ((with_reducible show wpList _ _ _ (⟨_, .store 26 (.tmp 3) _, _, _, _, _⟩ :: _) _ _); refine wpList_store_Row (xs := cellsH (fSet l) (.slice (some ⟨b, o, none⟩) l.length c) (.slice none 0 0)) rfl rfl rfl (Row.new w1 26 zcH) rfl rfl sizeH (cells_set l _ _ _) ?_; intro w2 hr2 hch2 _; have c2 := hch2 none_ w1 ((Chg.refl none_ w1).alloc _) (fun h => absurd h (by omega)); have HX := Lib.hid (fun w' (hc : Chg none_ w2 w') => hr2.chg hc (fun h => h)); clear hch2 hr2; have k2 := Chg.refl none_ w2) | ((with_reducible show wpList _ _ _ (⟨_, .load 26 (.tmp 3), _, _, _, _⟩ :: _) _ _); refine wpList_load_Row rfl rfl rfl (HX.out _ (by assumption)) Tryd.underlying26 rfl sizeH ?_) | (go_at_call 12; refine (HRT.out _ (c1.trans c2)).mono ?_; rintro e w3 ⟨rfl, d3⟩; have k3 := d3))
  refine (HPU.out _ ((c1.trans c2).trans d3)).mono ?_
  rintro e w4 ⟨A4, k4, rfl, s4, d4⟩
  obtain ⟨_, _, e4, hk4, _, _⟩ := View.own (T := fun _ => True) s4.own (fun _ _ => trivial)
  cases e4
  have HN := Lib.hid (HNX.out w4 _ A4 k4 s4.view hk4)
  clear HNX s4 hk4 HPU
  go_wp2_with fail
  refine HN.out.mono ?_
  rintro e w5 ⟨ss5, sd5, rfl, hd5, d5⟩
  have h15 := Lib.hid hd5.one
  have HD5 := Lib.hid hd5
  have c5 := (d3.trans d4).trans d5
  clear hd5 HN d5 d4 k3 k2
  unfold aggH
  simp only
  go_wp2_with (first | ((with_reducible show wpList _ _ _ (⟨_, .store 26 (.tmp 4) _, _, _, _, _⟩ :: _) _ _); refine wpList_store_Row (xs := cellsH (fSet l) ss5 sd5) rfl rfl rfl (Row.new w5 26 zcH) rfl rfl sizeH h15.out ?_; intro w6 hr6 hch6 _; have c6 := hch6 none_ w5 ((Chg.refl none_ w5).alloc _) (fun h => absurd h (by omega)); clear hch6) | ((with_reducible show wpList _ _ _ (⟨_, .load 26 (.tmp 3), _, _, _, _⟩ :: _) _ _); refine wpList_load_Row rfl rfl rfl (HX.out _ (c5.trans c6)) Tryd.underlying26 rfl sizeH ?_) | ((with_reducible show wpList _ _ _ (⟨_, .load 26 (.tmp 4), _, _, _, _⟩ :: _) _ _); refine wpList_load_Row rfl rfl rfl (hr6) Tryd.underlying26 rfl sizeH ?_) | (go_at_call 17; refine (HSA.out _ ((c1.trans c2).trans (c5.trans c6)) _ _ _ (HD5.out.chg c6 (fun _ _ h => h))).mono ?_; rintro e w7 ⟨rfl, d7⟩; have c7 := (c5.trans c6).trans d7))
  have hcW := (c1.trans c2).trans c7
  have hbg : b ≠ w1.heap.size := fun e => by have := c1.size; omega
  have hgW : w1.heap.size < w7.heap.size := (HX.out w7 c7).lt
  have HCW : Hid (∀ w', Chg (· = w1.heap.size) w7 w' → w'.cell? ⟨b, o, none⟩ = some (.int .u64 ((l.getD 0 (0, 0)).1 : Nat)) ∧ w'.cell? ⟨b, o + 1, none⟩ = some (.int .u64 ((l.getD 0 (0, 0)).2 : Nat))) := fun w' hc => by
    have hbw : b < w7.heap.size := Nat.lt_of_lt_of_le hbW hcW.size
    exact ⟨(hc.cell o hbw hbg).trans (HCL.out w7 hcW).1, (hc.cell (o + 1) hbw hbg).trans (HCL.out w7 hcW).2⟩
  have HVW : Hid (∀ w', Chg none_ w7 w' → View w' (fun _ => True) (some ⟨b, o, none⟩) (l.length * 2) (rcells l)) := fun w' hc => by rw [Nat.mul_comm]; exact HVL.out w' (hcW.trans hc)
  have HXW := Lib.hid (fun w' (hc : Chg none_ w7 w') => HX.out w' (c7.trans hc))
  have HTW7 := Lib.hid (fun w' (hc : Chg none_ w7 w') => HTW.out w' (hcW.trans hc))
  have HR1 : Hid (rcells [l.getD 0 (0, 0)] = [.int .u64 ((l.getD 0 (0, 0)).1 : Nat), .int .u64 ((l.getD 0 (0, 0)).2 : Nat)]) := rfl
  have HCC := Lib.hid hcW
  have HSZ1 := Lib.hid c1.size
  generalize l.getD 0 (0, 0) = x at *
  have hgg := Lib.hid hg
  have hch0 : Chg (· = w1.heap.size) w7 w7.drew := (Chg.refl _ _).drew
  have hcn0 : Chg none_ w7 w7.drew := (Chg.refl _ _).drew
  clear HX HCL HVL HTW HSA HD5 HRT HAL hr6 h15
  refine wp_region_held_drew (S := fun w' => Chg (· = w1.heap.size) w7 w') (by kernel_rfl) hch0 (fun _ => ?_)
  refine wpAnyH_take (i := 1) (v := .slice (some ⟨b, o, none⟩) l.length c) rfl (by kernel_rfl) (by kernel_rfl) (by kernel_rfl) (by first | exact fun _ _ _ h => h | exact fun _ _ _ h => nomatch h.1) (Or.inl ⟨by rfl, fun w' hw' => by go_simp⟩) hch0 ?_
  refine wpAnyH_take (i := 3) (v := .slice (some ⟨b, o, none⟩) l.length c) rfl (by kernel_rfl) (by kernel_rfl) (by kernel_rfl) (by first | exact fun _ _ _ h => h | exact fun _ _ _ h => nomatch h.1) (Or.inl ⟨by rfl, fun w' hw' => by go_simp⟩) hch0 ?_
  refine wpAnyH_take (i := 4) (v := .pointer (some ⟨b, o, none⟩)) rfl (by kernel_rfl) (by kernel_rfl) (by kernel_rfl) (by first | exact fun _ _ _ h => h | exact fun _ _ _ h => nomatch h.1) (Or.inl ⟨by rfl, fun w' hw' => by have hlp : (0 : Int) < (l.length : Int) := (by omega); go_simp⟩) hch0 ?_
  refine wpAnyH_take (i := 5) (v := .agg #[.int .u64 (x.1 : Nat), .int .u64 (x.2 : Nat)]) rfl (by kernel_rfl) (by kernel_rfl) (by kernel_rfl) (by first | exact fun _ _ _ h => h | exact fun _ _ _ h => nomatch h.1) (Or.inl ⟨by rfl, fun w' hw' => by obtain ⟨q1, q2⟩ := HCW.out w' hw'; go_simp⟩) hch0 ?_
  refine wpAnyH_ready (rs := [0, 6]) (by kernel_rfl) (by simp) ?_
  refine AllReadyH.cons rfl (fun K hK => ?_) (AllReadyH.cons rfl (fun K hK => ?_) AllReadyH.nil)
  · rw [if_pos (by rfl)]
    try simp only [List.getElem_toArray, List.getElem_cons_succ, List.getElem_cons_zero]
    go_simp
    obtain ⟨u1, hu1⟩ : ∃ u, u = (World.alloc w7 (.cells #[] 49)).drew := ⟨_, rfl⟩
    rw [← hu1]
    have stu1 : Chg none_ w7 u1 := by rw [hu1]; exact ((Chg.refl none_ _).alloc _).drew
    have hcu1 : Chg none_ w7 u1 := stu1
    have own0 : World.ownsRow u1 w7.heap.size 49 2 (.slice (some ⟨w7.heap.size, 0, none⟩) 0 0) 0 [] := by rw [hu1]; exact own_noneN w7 49 2
    have szu1 := Lib.hid (show u1.heap.size = w7.heap.size + 1 by rw [hu1]; simp)
    clear hu1
    refine hK.out _ _ (hcu1.mono (fun _ _ h => h.elim)) (fun _ => ?_)
    clear hK K
    try simp only [Act.put, List.setIfInBounds_toArray, List.set_cons_zero, List.set_cons_succ]
    refine wpAnyH_ready (rs := [2, 6]) (by kernel_rfl) (by simp) ?_
    refine AllReadyH.cons rfl (fun K hK => ?_) (AllReadyH.cons rfl (fun K hK => ?_) AllReadyH.nil)
    · rw [if_pos (by rfl)]
      try simp only [List.getElem_toArray, List.getElem_cons_succ, List.getElem_cons_zero]
      obtain ⟨v2, u2, hr2', own2, gr2⟩ := run_append_viewN (P := Tryd.prog) u1 23 23 49 iS _ 2 _ Tryd.underlying23 hS hS0 hS1 hS2 rfl (by decide) w7.heap.size (.slice (some ⟨w7.heap.size, 0, none⟩) 0 0) 0 [] own0 _ (some ⟨b, o, none⟩) l.length c (rcells l) (HVW.out _ hcu1) (rcells_one l) (by unfold maxLen; omega) (by omega) stu1.size
      refine Lib.wp_append_run (P := Tryd.prog) u1 _ _ 23 23 rfl _ _ rfl rfl _ u2 hr2' ?_
      have hcu2 : Chg none_ w7 u2 := hcu1.appendN (Nat.le_refl _) own0 gr2
      refine hK.out _ _ (hcu2.mono (fun _ _ h => h.elim)) (fun _ => ?_)
      clear hK K
      try simp only [Act.put, List.setIfInBounds_toArray, List.set_cons_zero, List.set_cons_succ]
      refine wpAnyH_ready (rs := [6]) (by kernel_rfl) (by simp) ?_
      refine AllReadyH.cons rfl (fun K hK => ?_) AllReadyH.nil
      rw [if_pos (by rfl)]
      try simp only [List.getElem_toArray, List.getElem_cons_succ, List.getElem_cons_zero]
      go_simp
      obtain ⟨u3, hu3⟩ : ∃ u, u = (World.alloc u2 (.cells [Value.int .u64 (x.1 : Nat), .int .u64 (x.2 : Nat)].toArray 49)) := ⟨_, rfl⟩
      rw [← hu3]
      have stu3 : Chg none_ u2 u3 := by rw [hu3]; exact (Chg.refl none_ _).alloc _
      have hcu3 : Chg none_ w7 u3 := hcu2.trans stu3
      have view6 : View u3 (· = u2.heap.size) (some ⟨u2.heap.size, 0, none⟩) (1 * 2) (rcells [x]) := by rw [hu3]; exact View.row (cs := rcells [x]) (Row.new u2 49 _) (n := 2) (by simp [rcells]) rfl
      have szu3 := Lib.hid (show u3.heap.size = u2.heap.size + 1 by rw [hu3]; simp)
      clear hu3
      have own2 := ownsRow_chg own2 stu3 (fun _ _ h => h)
      refine hK.out _ _ (hcu3.mono (fun _ _ h => h.elim)) (fun _ => ?_)
      clear hK K
      try simp only [Act.put, List.setIfInBounds_toArray, List.set_cons_zero, List.set_cons_succ]
      refine wpAnyH_ready (rs := [7]) (by kernel_rfl) (by simp) ?_
      refine AllReadyH.cons rfl (fun K hK => ?_) AllReadyH.nil
      rw [if_pos (by rfl)]
      try simp only [List.getElem_toArray, List.getElem_cons_succ, List.getElem_cons_zero]
      obtain ⟨v7, w8, hr7', own7, gr7⟩ := run_append_viewN (P := Tryd.prog) u3 23 23 49 iS _ 2 _ Tryd.underlying23 hS hS0 hS1 hS2 rfl (by decide) w7.heap.size v2 (0 + l.length) ([] ++ rcells l) own2 _ (some ⟨u2.heap.size, 0, none⟩) 1 1 (rcells [x]) view6 (rcells_one [x]) (by unfold maxLen; omega) (by omega) hcu3.size
      refine Lib.wp_append_run (P := Tryd.prog) u3 _ _ 23 23 rfl _ _ rfl rfl _ w8 hr7' ?_
      have hcw8 : Chg none_ w7 w8 := hcu3.appendN (Nat.le_refl _) own2 gr7
      refine hK.out _ _ (hcw8.mono (fun _ _ h => h.elim)) (fun _ => ?_)
      clear hK K
      try simp only [Act.put, List.setIfInBounds_toArray, List.set_cons_zero, List.set_cons_succ]
      have hrow := HXW.out _ hcw8
      obtain ⟨A9, k9, rfl, hk9, _, hv9⟩ := view_ownN own7
      have hv9' : View w8 (fun b => w7.heap.size ≤ b) A9 (2 * (l ++ [x]).length) (rcells (l ++ [x])) := by
        rw [List.nil_append, ← rcells_append, show (0 + l.length + 1) * 2 = 2 * (l ++ [x]).length by simp; omega] at hv9
        exact hv9.mono (fun k _ hk => Nat.le_trans (Nat.le_refl _) hk)
      have HV9 := Lib.hid hv9'
      have HK9 : Hid ((l ++ [x]).length ≤ k9) := by show _ ≤ _; simp; omega
      clear own7 gr7 hr7' own2 gr2 hr2' view6 own0 hv9 hv9' hk9
      refine wpAnyH_ready (rs := [8]) (by kernel_rfl) (by simp) ?_
      refine AllReadyH.cons rfl (fun K hK => ?_) AllReadyH.nil
      rw [if_pos (by rfl)]
      try simp only [List.getElem_toArray, List.getElem_cons_succ, List.getElem_cons_zero]
      go_simp
      refine hK.out _ _ (hcw8.mono (fun _ _ h => h.elim)) (fun _ => ?_)
      clear hK K
      try simp only [Act.put, List.setIfInBounds_toArray, List.set_cons_zero, List.set_cons_succ]
      refine wpAnyH_ready (rs := [9]) (by kernel_rfl) (by simp) ?_
      refine AllReadyH.cons rfl (fun K hK => ?_) AllReadyH.nil
      rw [if_pos (by rfl)]
      try simp only [List.getElem_toArray, List.getElem_cons_succ, List.getElem_cons_zero]
      have q1 : w8.cell? ⟨w1.heap.size, 2, none⟩ = some (.slice (some ⟨b, o, none⟩) l.length c) := hrow.cell 2
      have q2 := hrow.frozen 2
      go_simp
      obtain ⟨w9, hw9⟩ : ∃ u, u = w8.setCell ⟨w1.heap.size, 2, none⟩ (.slice A9 (l.length + 1) k9) := ⟨_, rfl⟩
      rw [← hw9]
      have hr9 : Row w9 w1.heap.size 26 (cellsH (fSet (l ++ [x])) (.slice A9 (l.length + 1) k9) (.slice none 0 0)) := by rw [hw9]; exact hrow.set 2 _
      have hc9 : Chg (· = w1.heap.size) w7 w9 := by rw [hw9]; exact Chg.setCell (S := (· = w1.heap.size)) (hcw8.mono (fun _ _ h => h.elim)) (p := ⟨w1.heap.size, 2, none⟩) (fun _ => rfl) _
      have hv9 : View w9 (fun b => w7.heap.size ≤ b) A9 (2 * (l ++ [x]).length) (rcells (l ++ [x])) := by rw [hw9]; exact HV9.out.setCell _ (by show ¬ w7.heap.size ≤ w1.heap.size; omega) _
      clear hw9 q1 q2
      refine hK.out _ _ hc9 (fun _ => ?_)
      clear hK K
      try simp only [Act.put, List.setIfInBounds_toArray, List.set_cons_zero, List.set_cons_succ]
      refine wpAnyH_done (by kernel_rfl) ?_ _
      try simp only [Act.put, List.setIfInBounds_toArray, List.set_cons_zero, List.set_cons_succ]
      have hlen : (l ++ [x]).length = l.length + 1 := by simp
      have hD9 := sets_hd hv9 (by rw [hlen]; omega) HK9.out
      rw [hlen] at hD9
      have hT9 := (HTW7.out w7 (Chg.refl _ _)).chg hc9 (fun e => by have h1 := HTB.out; have h2 := HSZ1.out; have e' : _ = w1.heap.size := e; omega)
      have HX9 := Lib.hid (fun w' (hc : Chg none_ w9 w') => hr9.chg hc (fun h => h))
      have HRT9 := Lib.hid (fun w' (hc : Chg none_ w9 w') => Right_any (fSet (l ++ [x])) _ _ w' _ (hD9.chg hc (fun _ _ h => h)))
      have HPU9 := Lib.hid (fun w' (hc : Chg none_ w9 w') => Put_any (fSet (l ++ [x])) _ _ w' _ (hD9.chg hc (fun _ _ h => h)) (hT9.chg hc (fun h => h)))
      rw [HDU.out] at HRT9
      rw [HPN.out] at HPU9
      unfold aggH at HRT9 HPU9
      have HCE := Lib.hid (HCC.out.andThen hc9 (fun k hk e => by have h2 := HSZ1.out; omega))
      have k9r := Chg.refl none_ w9
      clear hr9 hc9 hv9 hD9 hT9 HV9 HK9 hrow hcw8
      go_wp2_with (first | ((with_reducible show wpList _ _ _ (⟨_, .load 26 (.tmp 3), _, _, _, _⟩ :: _) _ _); refine wpList_load_Row rfl rfl rfl (HX9.out _ (by assumption)) Tryd.underlying26 rfl sizeH ?_) | (go_at_call 12; refine (HRT9.out _ k9r).mono ?_; rintro e w10 ⟨rfl, k10⟩) | (go_at_call 15; refine (HPU9.out _ k10).mono ?_; rintro e w11 ⟨A11, k11, rfl, s11, d11⟩))
      go_ret
      exact ⟨rfl, HCE.out.trans (k10.trans d11)⟩
    · rw [if_pos (by rfl)]
      try simp only [List.getElem_toArray, List.getElem_cons_succ, List.getElem_cons_zero]
      go_simp
      obtain ⟨u2, hu2⟩ : ∃ u, u = (World.alloc u1 (.cells [Value.int .u64 (x.1 : Nat), .int .u64 (x.2 : Nat)].toArray 49)) := ⟨_, rfl⟩
      rw [← hu2]
      have stu2 : Chg none_ u1 u2 := by rw [hu2]; exact (Chg.refl none_ _).alloc _
      have hcu2 : Chg none_ w7 u2 := hcu1.trans stu2
      have view6 : View u2 (· = u1.heap.size) (some ⟨u1.heap.size, 0, none⟩) (1 * 2) (rcells [x]) := by rw [hu2]; exact View.row (cs := rcells [x]) (Row.new u1 49 _) (n := 2) (by simp [rcells]) rfl
      have szu2 := Lib.hid (show u2.heap.size = u1.heap.size + 1 by rw [hu2]; simp)
      clear hu2
      have own0 := ownsRow_chg own0 stu2 (fun _ _ h => h)
      refine hK.out _ _ (hcu2.mono (fun _ _ h => h.elim)) (fun _ => ?_)
      clear hK K
      try simp only [Act.put, List.setIfInBounds_toArray, List.set_cons_zero, List.set_cons_succ]
      refine wpAnyH_ready (rs := [2]) (by kernel_rfl) (by simp) ?_
      refine AllReadyH.cons rfl (fun K hK => ?_) AllReadyH.nil
      rw [if_pos (by rfl)]
      try simp only [List.getElem_toArray, List.getElem_cons_succ, List.getElem_cons_zero]
      obtain ⟨v2, u3, hr2', own2, gr2⟩ := run_append_viewN (P := Tryd.prog) u2 23 23 49 iS _ 2 _ Tryd.underlying23 hS hS0 hS1 hS2 rfl (by decide) w7.heap.size (.slice (some ⟨w7.heap.size, 0, none⟩) 0 0) 0 [] own0 _ (some ⟨b, o, none⟩) l.length c (rcells l) (HVW.out _ hcu2) (rcells_one l) (by unfold maxLen; omega) (by omega) hcu2.size
      refine Lib.wp_append_run (P := Tryd.prog) u2 _ _ 23 23 rfl _ _ rfl rfl _ u3 hr2' ?_
      have hcu3 : Chg none_ w7 u3 := hcu2.appendN (Nat.le_refl _) own0 gr2
      have hne : u1.heap.size ≠ w7.heap.size := fun e => by have := szu1.out; omega
      have view6 := view6.chg (Chg.of_grown gr2) (fun k hk e => by subst hk; exact hne (Option.some.inj e).symm)
      refine hK.out _ _ (hcu3.mono (fun _ _ h => h.elim)) (fun _ => ?_)
      clear hK K
      try simp only [Act.put, List.setIfInBounds_toArray, List.set_cons_zero, List.set_cons_succ]
      refine wpAnyH_ready (rs := [7]) (by kernel_rfl) (by simp) ?_
      refine AllReadyH.cons rfl (fun K hK => ?_) AllReadyH.nil
      rw [if_pos (by rfl)]
      try simp only [List.getElem_toArray, List.getElem_cons_succ, List.getElem_cons_zero]
      obtain ⟨v7, w8, hr7', own7, gr7⟩ := run_append_viewN (P := Tryd.prog) u3 23 23 49 iS _ 2 _ Tryd.underlying23 hS hS0 hS1 hS2 rfl (by decide) w7.heap.size v2 (0 + l.length) ([] ++ rcells l) own2 _ (some ⟨u1.heap.size, 0, none⟩) 1 1 (rcells [x]) view6 (rcells_one [x]) (by unfold maxLen; omega) (by omega) hcu3.size
      refine Lib.wp_append_run (P := Tryd.prog) u3 _ _ 23 23 rfl _ _ rfl rfl _ w8 hr7' ?_
      have hcw8 : Chg none_ w7 w8 := hcu3.appendN (Nat.le_refl _) own2 gr7
      refine hK.out _ _ (hcw8.mono (fun _ _ h => h.elim)) (fun _ => ?_)
      clear hK K
      try simp only [Act.put, List.setIfInBounds_toArray, List.set_cons_zero, List.set_cons_succ]
      have hrow := HXW.out _ hcw8
      obtain ⟨A9, k9, rfl, hk9, _, hv9⟩ := view_ownN own7
      have hv9' : View w8 (fun b => w7.heap.size ≤ b) A9 (2 * (l ++ [x]).length) (rcells (l ++ [x])) := by
        rw [List.nil_append, ← rcells_append, show (0 + l.length + 1) * 2 = 2 * (l ++ [x]).length by simp; omega] at hv9
        exact hv9.mono (fun k _ hk => Nat.le_trans (Nat.le_refl _) hk)
      have HV9 := Lib.hid hv9'
      have HK9 : Hid ((l ++ [x]).length ≤ k9) := by show _ ≤ _; simp; omega
      clear own7 gr7 hr7' own2 gr2 hr2' view6 own0 hv9 hv9' hk9
      refine wpAnyH_ready (rs := [8]) (by kernel_rfl) (by simp) ?_
      refine AllReadyH.cons rfl (fun K hK => ?_) AllReadyH.nil
      rw [if_pos (by rfl)]
      try simp only [List.getElem_toArray, List.getElem_cons_succ, List.getElem_cons_zero]
      go_simp
      refine hK.out _ _ (hcw8.mono (fun _ _ h => h.elim)) (fun _ => ?_)
      clear hK K
      try simp only [Act.put, List.setIfInBounds_toArray, List.set_cons_zero, List.set_cons_succ]
      refine wpAnyH_ready (rs := [9]) (by kernel_rfl) (by simp) ?_
      refine AllReadyH.cons rfl (fun K hK => ?_) AllReadyH.nil
      rw [if_pos (by rfl)]
      try simp only [List.getElem_toArray, List.getElem_cons_succ, List.getElem_cons_zero]
      have q1 : w8.cell? ⟨w1.heap.size, 2, none⟩ = some (.slice (some ⟨b, o, none⟩) l.length c) := hrow.cell 2
      have q2 := hrow.frozen 2
      go_simp
      obtain ⟨w9, hw9⟩ : ∃ u, u = w8.setCell ⟨w1.heap.size, 2, none⟩ (.slice A9 (l.length + 1) k9) := ⟨_, rfl⟩
      rw [← hw9]
      have hr9 : Row w9 w1.heap.size 26 (cellsH (fSet (l ++ [x])) (.slice A9 (l.length + 1) k9) (.slice none 0 0)) := by rw [hw9]; exact hrow.set 2 _
      have hc9 : Chg (· = w1.heap.size) w7 w9 := by rw [hw9]; exact Chg.setCell (S := (· = w1.heap.size)) (hcw8.mono (fun _ _ h => h.elim)) (p := ⟨w1.heap.size, 2, none⟩) (fun _ => rfl) _
      have hv9 : View w9 (fun b => w7.heap.size ≤ b) A9 (2 * (l ++ [x]).length) (rcells (l ++ [x])) := by rw [hw9]; exact HV9.out.setCell _ (by show ¬ w7.heap.size ≤ w1.heap.size; omega) _
      clear hw9 q1 q2
      refine hK.out _ _ hc9 (fun _ => ?_)
      clear hK K
      try simp only [Act.put, List.setIfInBounds_toArray, List.set_cons_zero, List.set_cons_succ]
      refine wpAnyH_done (by kernel_rfl) ?_ _
      try simp only [Act.put, List.setIfInBounds_toArray, List.set_cons_zero, List.set_cons_succ]
      have hlen : (l ++ [x]).length = l.length + 1 := by simp
      have hD9 := sets_hd hv9 (by rw [hlen]; omega) HK9.out
      rw [hlen] at hD9
      have hT9 := (HTW7.out w7 (Chg.refl _ _)).chg hc9 (fun e => by have h1 := HTB.out; have h2 := HSZ1.out; have e' : _ = w1.heap.size := e; omega)
      have HX9 := Lib.hid (fun w' (hc : Chg none_ w9 w') => hr9.chg hc (fun h => h))
      have HRT9 := Lib.hid (fun w' (hc : Chg none_ w9 w') => Right_any (fSet (l ++ [x])) _ _ w' _ (hD9.chg hc (fun _ _ h => h)))
      have HPU9 := Lib.hid (fun w' (hc : Chg none_ w9 w') => Put_any (fSet (l ++ [x])) _ _ w' _ (hD9.chg hc (fun _ _ h => h)) (hT9.chg hc (fun h => h)))
      rw [HDU.out] at HRT9
      rw [HPN.out] at HPU9
      unfold aggH at HRT9 HPU9
      have HCE := Lib.hid (HCC.out.andThen hc9 (fun k hk e => by have h2 := HSZ1.out; omega))
      have k9r := Chg.refl none_ w9
      clear hr9 hc9 hv9 hD9 hT9 HV9 HK9 hrow hcw8
      go_wp2_with (first | ((with_reducible show wpList _ _ _ (⟨_, .load 26 (.tmp 3), _, _, _, _⟩ :: _) _ _); refine wpList_load_Row rfl rfl rfl (HX9.out _ (by assumption)) Tryd.underlying26 rfl sizeH ?_) | (go_at_call 12; refine (HRT9.out _ k9r).mono ?_; rintro e w10 ⟨rfl, k10⟩) | (go_at_call 15; refine (HPU9.out _ k10).mono ?_; rintro e w11 ⟨A11, k11, rfl, s11, d11⟩))
      go_ret
      exact ⟨rfl, HCE.out.trans (k10.trans d11)⟩
  · rw [if_pos (by rfl)]
    try simp only [List.getElem_toArray, List.getElem_cons_succ, List.getElem_cons_zero]
    go_simp
    obtain ⟨u1, hu1⟩ : ∃ u, u = (World.alloc w7 (.cells [Value.int .u64 (x.1 : Nat), .int .u64 (x.2 : Nat)].toArray 49)).drew := ⟨_, rfl⟩
    rw [← hu1]
    have stu1 : Chg none_ w7 u1 := by rw [hu1]; exact ((Chg.refl none_ _).alloc _).drew
    have hcu1 : Chg none_ w7 u1 := stu1
    have view6 : View u1 (· = w7.heap.size) (some ⟨w7.heap.size, 0, none⟩) (1 * 2) (rcells [x]) := by rw [hu1]; exact View.row (cs := rcells [x]) (Row.new w7 49 _) (n := 2) (by simp [rcells]) rfl
    have szu1 := Lib.hid (show u1.heap.size = w7.heap.size + 1 by rw [hu1]; simp)
    clear hu1
    refine hK.out _ _ (hcu1.mono (fun _ _ h => h.elim)) (fun _ => ?_)
    clear hK K
    try simp only [Act.put, List.setIfInBounds_toArray, List.set_cons_zero, List.set_cons_succ]
    refine wpAnyH_ready (rs := [0]) (by kernel_rfl) (by simp) ?_
    refine AllReadyH.cons rfl (fun K hK => ?_) AllReadyH.nil
    rw [if_pos (by rfl)]
    try simp only [List.getElem_toArray, List.getElem_cons_zero]
    go_simp
    obtain ⟨u2, hu2⟩ : ∃ u, u = (World.alloc u1 (.cells #[] 49)) := ⟨_, rfl⟩
    rw [← hu2]
    have stu2 : Chg none_ u1 u2 := by rw [hu2]; exact (Chg.refl none_ _).alloc _
    have hcu2 : Chg none_ w7 u2 := hcu1.trans stu2
    have own0 : World.ownsRow u2 u1.heap.size 49 2 (.slice (some ⟨u1.heap.size, 0, none⟩) 0 0) 0 [] := by rw [hu2]; exact own_noneN u1 49 2
    have szu2 := Lib.hid (show u2.heap.size = u1.heap.size + 1 by rw [hu2]; simp)
    clear hu2
    have view6 := view6.chg stu2 (fun _ _ h => h)
    refine hK.out _ _ (hcu2.mono (fun _ _ h => h.elim)) (fun _ => ?_)
    clear hK K
    try simp only [Act.put, List.setIfInBounds_toArray, List.set_cons_zero, List.set_cons_succ]
    refine wpAnyH_ready (rs := [2]) (by kernel_rfl) (by simp) ?_
    refine AllReadyH.cons rfl (fun K hK => ?_) AllReadyH.nil
    rw [if_pos (by rfl)]
    try simp only [List.getElem_toArray, List.getElem_cons_succ, List.getElem_cons_zero]
    obtain ⟨v2, u3, hr2', own2, gr2⟩ := run_append_viewN (P := Tryd.prog) u2 23 23 49 iS _ 2 _ Tryd.underlying23 hS hS0 hS1 hS2 rfl (by decide) u1.heap.size (.slice (some ⟨u1.heap.size, 0, none⟩) 0 0) 0 [] own0 _ (some ⟨b, o, none⟩) l.length c (rcells l) (HVW.out _ hcu2) (rcells_one l) (by unfold maxLen; omega) (by omega) stu2.size
    refine Lib.wp_append_run (P := Tryd.prog) u2 _ _ 23 23 rfl _ _ rfl rfl _ u3 hr2' ?_
    have hcu3 : Chg none_ w7 u3 := hcu2.appendN hcu1.size own0 gr2
    have hne : w7.heap.size ≠ u1.heap.size := fun e => by have := szu1.out; omega
    have view6 := view6.chg (Chg.of_grown gr2) (fun k hk e => by subst hk; exact hne (Option.some.inj e).symm)
    have st13 := stu2.size
    have st23 := gr2.size
    refine hK.out _ _ (hcu3.mono (fun _ _ h => h.elim)) (fun _ => ?_)
    clear hK K
    try simp only [Act.put, List.setIfInBounds_toArray, List.set_cons_zero, List.set_cons_succ]
    refine wpAnyH_ready (rs := [7]) (by kernel_rfl) (by simp) ?_
    refine AllReadyH.cons rfl (fun K hK => ?_) AllReadyH.nil
    rw [if_pos (by rfl)]
    try simp only [List.getElem_toArray, List.getElem_cons_succ, List.getElem_cons_zero]
    obtain ⟨v7, w8, hr7', own7, gr7⟩ := run_append_viewN (P := Tryd.prog) u3 23 23 49 iS _ 2 _ Tryd.underlying23 hS hS0 hS1 hS2 rfl (by decide) u1.heap.size v2 (0 + l.length) ([] ++ rcells l) own2 _ (some ⟨w7.heap.size, 0, none⟩) 1 1 (rcells [x]) view6 (rcells_one [x]) (by unfold maxLen; omega) (by omega) (Nat.le_trans st13 st23)
    refine Lib.wp_append_run (P := Tryd.prog) u3 _ _ 23 23 rfl _ _ rfl rfl _ w8 hr7' ?_
    have hcw8 : Chg none_ w7 w8 := hcu3.appendN hcu1.size own2 gr7
    refine hK.out _ _ (hcw8.mono (fun _ _ h => h.elim)) (fun _ => ?_)
    clear hK K
    try simp only [Act.put, List.setIfInBounds_toArray, List.set_cons_zero, List.set_cons_succ]
    have hrow := HXW.out _ hcw8
    obtain ⟨A9, k9, rfl, hk9, _, hv9⟩ := view_ownN own7
    have hv9' : View w8 (fun b => w7.heap.size ≤ b) A9 (2 * (l ++ [x]).length) (rcells (l ++ [x])) := by
      rw [List.nil_append, ← rcells_append, show (0 + l.length + 1) * 2 = 2 * (l ++ [x]).length by simp; omega] at hv9
      exact hv9.mono (fun k _ hk => Nat.le_trans (hcu1.size) hk)
    have HV9 := Lib.hid hv9'
    have HK9 : Hid ((l ++ [x]).length ≤ k9) := by show _ ≤ _; simp; omega
    clear own7 gr7 hr7' own2 gr2 hr2' view6 own0 hv9 hv9' hk9
    refine wpAnyH_ready (rs := [8]) (by kernel_rfl) (by simp) ?_
    refine AllReadyH.cons rfl (fun K hK => ?_) AllReadyH.nil
    rw [if_pos (by rfl)]
    try simp only [List.getElem_toArray, List.getElem_cons_succ, List.getElem_cons_zero]
    go_simp
    refine hK.out _ _ (hcw8.mono (fun _ _ h => h.elim)) (fun _ => ?_)
    clear hK K
    try simp only [Act.put, List.setIfInBounds_toArray, List.set_cons_zero, List.set_cons_succ]
    refine wpAnyH_ready (rs := [9]) (by kernel_rfl) (by simp) ?_
    refine AllReadyH.cons rfl (fun K hK => ?_) AllReadyH.nil
    rw [if_pos (by rfl)]
    try simp only [List.getElem_toArray, List.getElem_cons_succ, List.getElem_cons_zero]
    have q1 : w8.cell? ⟨w1.heap.size, 2, none⟩ = some (.slice (some ⟨b, o, none⟩) l.length c) := hrow.cell 2
    have q2 := hrow.frozen 2
    go_simp
    obtain ⟨w9, hw9⟩ : ∃ u, u = w8.setCell ⟨w1.heap.size, 2, none⟩ (.slice A9 (l.length + 1) k9) := ⟨_, rfl⟩
    rw [← hw9]
    have hr9 : Row w9 w1.heap.size 26 (cellsH (fSet (l ++ [x])) (.slice A9 (l.length + 1) k9) (.slice none 0 0)) := by rw [hw9]; exact hrow.set 2 _
    have hc9 : Chg (· = w1.heap.size) w7 w9 := by rw [hw9]; exact Chg.setCell (S := (· = w1.heap.size)) (hcw8.mono (fun _ _ h => h.elim)) (p := ⟨w1.heap.size, 2, none⟩) (fun _ => rfl) _
    have hv9 : View w9 (fun b => w7.heap.size ≤ b) A9 (2 * (l ++ [x]).length) (rcells (l ++ [x])) := by rw [hw9]; exact HV9.out.setCell _ (by show ¬ w7.heap.size ≤ w1.heap.size; omega) _
    clear hw9 q1 q2
    refine hK.out _ _ hc9 (fun _ => ?_)
    clear hK K
    try simp only [Act.put, List.setIfInBounds_toArray, List.set_cons_zero, List.set_cons_succ]
    refine wpAnyH_done (by kernel_rfl) ?_ _
    try simp only [Act.put, List.setIfInBounds_toArray, List.set_cons_zero, List.set_cons_succ]
    have hlen : (l ++ [x]).length = l.length + 1 := by simp
    have hD9 := sets_hd hv9 (by rw [hlen]; omega) HK9.out
    rw [hlen] at hD9
    have hT9 := (HTW7.out w7 (Chg.refl _ _)).chg hc9 (fun e => by have h1 := HTB.out; have h2 := HSZ1.out; have e' : _ = w1.heap.size := e; omega)
    have HX9 := Lib.hid (fun w' (hc : Chg none_ w9 w') => hr9.chg hc (fun h => h))
    have HRT9 := Lib.hid (fun w' (hc : Chg none_ w9 w') => Right_any (fSet (l ++ [x])) _ _ w' _ (hD9.chg hc (fun _ _ h => h)))
    have HPU9 := Lib.hid (fun w' (hc : Chg none_ w9 w') => Put_any (fSet (l ++ [x])) _ _ w' _ (hD9.chg hc (fun _ _ h => h)) (hT9.chg hc (fun h => h)))
    rw [HDU.out] at HRT9
    rw [HPN.out] at HPU9
    unfold aggH at HRT9 HPU9
    have HCE := Lib.hid (HCC.out.andThen hc9 (fun k hk e => by have h2 := HSZ1.out; omega))
    have k9r := Chg.refl none_ w9
    clear hr9 hc9 hv9 hD9 hT9 HV9 HK9 hrow hcw8
    go_wp2_with (first | ((with_reducible show wpList _ _ _ (⟨_, .load 26 (.tmp 3), _, _, _, _⟩ :: _) _ _); refine wpList_load_Row rfl rfl rfl (HX9.out _ (by assumption)) Tryd.underlying26 rfl sizeH ?_) | (go_at_call 12; refine (HRT9.out _ k9r).mono ?_; rintro e w10 ⟨rfl, k10⟩) | (go_at_call 15; refine (HPU9.out _ k10).mono ?_; rintro e w11 ⟨A11, k11, rfl, s11, d11⟩))
    go_ret
    exact ⟨rfl, HCE.out.trans (k10.trans d11)⟩
end

theorem walk_HframeSettings (l : List (Nat × Nat)) (A : Option Addr) (c : Nat) (W : World) (hb : l.length ≤ c ∧ c ≤ maxLen) (hvl : View W (fun _ => True) A (2 * l.length) (rcells l)) (hls : ∀ x ∈ l, x.1 < 18446744073709551616 ∧ x.2 < 18446744073709551616) (hT : Tab W) :
    Calls Tryd.prog 9 #[.slice A l.length c] W fun e w' => e = .returned (.bool true) ∧ Chg none_ W w' := by
  by_cases hg : 30 < l.length
  · exact sets_gr l A c W hT hg
  · cases qr : rightH (fSet l) with
    | false => exact sets_no l A c W hvl hb.1 hls hT (by omega) qr
    | true =>
      by_cases qe : l = []
      · exact sets_nil l A c W hvl hb.1 hls hT (by omega) qr qe
      · exact sets_dup l A c W hvl hb.1 hls hT (by omega) qr qe
end Go.Proofs.YtcdnjeojgjakdaaDoor
