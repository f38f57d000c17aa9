/- Layer 6 (hframe): the law HframeBack. -/
import Derived.Test.YtcdnjeojgjakdaaDoorV6Alive
import Derived.Test.YtcdnjeojgjakdaaDoorV6Open
import Derived.Test.YtcdnjeojgjakdaaDoorV6RSame
namespace Go.Proofs.YtcdnjeojgjakdaaDoor
open Go.RowKit

theorem putH_pos (f : Hf) (o : f.Ok) (h : rightH f = true) : ∃ n, (putH f).length = n + 1 := by
  rcases hk : kkM (keyM f.kind) with _ | k
  · unfold rightH at h; rw [hk] at h; cases h
  · have hh : hasK k f = true := by unfold rightH at h; rw [hk] at h; exact h
    obtain ⟨_, h13, _⟩ := key_kind o hk
    have h1 := encI_pos (keyM f.kind) (by omega)
    rw [putH_yes hk hh]
    cases he : encI (keyM f.kind) with
    | nil => exact absurd he h1
    | cons a t => exact ⟨(t ++ (encI (ownK k f).length ++ ownK k f)).length, rfl⟩
theorem HfD.one {w : World} {T : Nat → Prop} {f : Hf} {ss sd : Value} (h : HfD w T f ss sd) : (cellsH f ss sd).all (·.oneCell') = true := by
  obtain ⟨⟨_, _, rfl, _⟩, ⟨_, _, rfl, _⟩⟩ := h; rfl
theorem great_le {f : Hf} (h : greatB f = false) : f.data.length ≤ 1500 ∧ f.sets.length ≤ 40 := by
  unfold greatB at h
  simp only [decide_eq_false_iff_not, not_or] at h
  omega
theorem next_cut_any (f : Hf) (of : f.Ok) (qr : rightH f = true) (nb : Nat) (hnb : (putH f).length = nb + 1) (w' : World) (T : Nat → Prop) (A' : Option Addr) (k : Nat) (hv : View w' T A' nb ((u8s (putH f)).take nb)) (hk : nb ≤ k) :
    Calls Tryd.prog 19 #[.slice A' nb k] w' (NextPost ({}, 0, 2) w') := by
  have hL : ((putH f).take ((putH f).length - 1)).length = nb := by rw [List.length_take]; omega
  have hu : u8s ((putH f).take ((putH f).length - 1)) = (u8s (putH f)).take nb := by rw [hnb]; simp [u8s, List.map_take]
  have hl := putH_len f
  have h := next_any w' T A' k ((putH f).take ((putH f).length - 1)) (by rw [hL, hu]; exact hv) (by rw [hL]; omega) (by rw [hL]; exact hk) (fun x hx => putH_lt f of x (List.mem_of_mem_take hx))
  rw [next_cut f of qr, hL] at h
  exact h
theorem own_none (w : World) (t : TypeId) : (w.alloc (.cells #[] t)).ownsRow w.heap.size t 1 (.slice (some ⟨w.heap.size, 0, none⟩) 0 0) 0 (u8s []) := own_of_row (Row.new w t []) (Nat.le_refl _) rfl (Nat.zero_le _)

section
variable (f : Hf) (ss sd : Value) (A : Option Addr) (c : Nat) (m : List Nat) (B : Option Addr) (d : Nat) (l : List Fld) (W : World)

set_option maxRecDepth 100000 in
set_option maxHeartbeats 2000000 in
theorem back_gr (hf : HfIn W f ss sd) (_of : f.Ok) (_hvm : View W (fun _ => True) A m.length (u8s m)) (_hmb : ∀ x ∈ m, x < 256) (hvl : View W (fun _ => True) B (2 * l.length) (fcells l)) (hT : Tab W) (qg : greatB f = true) :
    Calls Tryd.prog 5 #[aggH f ss sd, .slice A m.length c, .slice B l.length d] W fun e w' => e = .returned (.bool true) ∧ Chg none_ W w' := by
  have HB := boxed W f ss sd
  have HX : Hid (∀ w', Chg none_ (W.alloc (.cells (cellsH f ss sd).toArray 26)) w' → Row w' W.heap.size 26 (cellsH f ss sd)) := fun w' hc => HB.row.chg hc (fun h => h)
  have HC0 := Lib.hid HB.chg
  have HAL := Lib.hid (alive_any _ (hT.chg HB.chg (fun h => h)))
  have HGR := Lib.hid (fun w' => Great_any f ss sd w' hf.shape)
  have HGL := Lib.hid (fun w' (hc : Chg none_ W w') => great_flds l B d w' _ (hvl.chg hc (fun _ _ h => h)))
  rw [qg] at HGR
  clear HB hf _of _hvm _hmb hvl hT HGL
  unfold aggH at HGR ⊢
  go_enter Tryd.func5, Tryd.ntmps5
  go_wp2_with (first | ((with_reducible show wpList _ _ _ (⟨_, .load 26 (.tmp 3), _, _, _, _⟩ :: _) _ _); refine wpList_load_Row rfl rfl rfl (HX.out _ (by assumption)) Tryd.underlying26 rfl sizeH ?_) | (go_at_call 10; refine (HAL.out).mono ?_; rintro e w1 ⟨rfl, c1⟩) | (go_at_call 11; refine (HGR.out _).mono ?_; rintro e w2 ⟨rfl, d2⟩; have c2 := c1.trans d2))
  go_ret
  exact ⟨rfl, HC0.out.trans c2⟩

set_option maxRecDepth 100000 in
set_option maxHeartbeats 2000000 in
theorem back_mo (hf : HfIn W f ss sd) (_of : f.Ok) (_hvm : View W (fun _ => True) A m.length (u8s m)) (_hmb : ∀ x ∈ m, x < 256) (hvl : View W (fun _ => True) B (2 * l.length) (fcells l)) (hT : Tab W) (qg : greatB f = false) (qm : 100 < m.length) :
    Calls Tryd.prog 5 #[aggH f ss sd, .slice A m.length c, .slice B l.length d] W fun e w' => e = .returned (.bool true) ∧ Chg none_ W w' := by
  have HB := boxed W f ss sd
  have HX : Hid (∀ w', Chg none_ (W.alloc (.cells (cellsH f ss sd).toArray 26)) w' → Row w' W.heap.size 26 (cellsH f ss sd)) := fun w' hc => HB.row.chg hc (fun h => h)
  have HC0 := Lib.hid HB.chg
  have HAL := Lib.hid (alive_any _ (hT.chg HB.chg (fun h => h)))
  have HGR := Lib.hid (fun w' => Great_any f ss sd w' hf.shape)
  have HGL := Lib.hid (fun w' (hc : Chg none_ W w') => great_flds l B d w' _ (hvl.chg hc (fun _ _ h => h)))
  rw [qg] at HGR
  have h1 : (100 : Int) < (m.length : Int) := by omega
  clear HB hf _of _hvm _hmb hvl hT HGL qm
  unfold aggH at HGR ⊢
  go_enter Tryd.func5, Tryd.ntmps5
  go_wp2_with (first | ((with_reducible show wpList _ _ _ (⟨_, .load 26 (.tmp 3), _, _, _, _⟩ :: _) _ _); refine wpList_load_Row rfl rfl rfl (HX.out _ (by assumption)) Tryd.underlying26 rfl sizeH ?_) | (go_at_call 10; refine (HAL.out).mono ?_; rintro e w1 ⟨rfl, c1⟩) | (go_at_call 11; refine (HGR.out _).mono ?_; rintro e w2 ⟨rfl, d2⟩; have c2 := c1.trans d2))
  go_ret
  exact ⟨rfl, HC0.out.trans c2⟩

set_option maxRecDepth 100000 in
set_option maxHeartbeats 4000000 in
theorem back_11 (hf : HfIn W f ss sd) (of : f.Ok) (hvm : View W (fun _ => True) A m.length (u8s m)) (hmb : ∀ x ∈ m, x < 256) (hvl : View W (fun _ => True) B (2 * l.length) (fcells l)) (hT : Tab W) (qg : greatB f = false) (qm : m.length ≤ 100) (qr : rightH f = true) (qf : fieldsB l = true) :
    Calls Tryd.prog 5 #[aggH f ss sd, .slice A m.length c, .slice B l.length d] W fun e w' => e = .returned (.bool true) ∧ Chg none_ W w' := by
  have HB := boxed W f ss sd
  have HX : Hid (∀ w', Chg none_ (W.alloc (.cells (cellsH f ss sd).toArray 26)) w' → Row w' W.heap.size 26 (cellsH f ss sd)) := fun w' hc => HB.row.chg hc (fun h => h)
  have HC0 := Lib.hid HB.chg
  have HAL := Lib.hid (alive_any _ (hT.chg HB.chg (fun h => h)))
  have HGR := Lib.hid (fun w' => Great_any f ss sd w' hf.shape)
  have HGL := Lib.hid (fun w' (hc : Chg none_ W w') => great_flds l B d w' _ (hvl.chg hc (fun _ _ h => h)))
  rw [qg] at HGR
  have h1 : ¬ (100 : Int) < (m.length : Int) := by omega
  obtain ⟨g1, g2⟩ := great_le qg
  have hD := hf.hd (by omega) (by omega)
  have HRT := Lib.hid (fun w' (hc : Chg none_ W w') => Right_any f ss sd w' _ (hD.chg hc (fun _ _ h => h)))
  have HPU := Lib.hid (fun w' (hc : Chg none_ W w') => Put_any f ss sd w' _ (hD.chg hc (fun _ _ h => h)) (hT.chg hc (fun h => h)))
  have HSA := Lib.hid (fun w' (hc : Chg none_ W w') ss' sd' T' (hd : HfD w' T' f ss' sd') => sameH_any f f ss sd ss' sd' w' _ T' (hD.chg hc (fun _ _ h => h)) hd of.data of.data)
  have HFL := Lib.hid (fun w' (hc : Chg none_ W w') => fields_any w' _ B d l (hvl.chg hc (fun _ _ h => h)))
  have HPK := Lib.hid (fun w' (hc : Chg none_ W w') => pack_any l w' _ B d (hvl.chg hc (fun _ _ h => h)) (hT.chg hc (fun h => h)))
  have HVL := Lib.hid (fun w' (hc : Chg none_ W w') => hvl.chg hc (fun _ _ h => h))
  have HVM := Lib.hid (fun w' (hc : Chg none_ W w') => hvm.chg hc (fun _ _ h => h))
  rw [qr] at HRT
  rw [qf] at HFL
  rw [decide_eq_true rfl] at HSA

  have HNX := Lib.hid (fun w' T A' k (hv : View w' T A' (putH f ++ m).length (u8s (putH f ++ m))) (hk : (putH f ++ m).length ≤ k) => by
    have h := next_any w' T A' k (putH f ++ m) hv (by have := putH_len f; rw [List.length_append]; omega) hk (fun x hx => (List.mem_append.1 hx).elim (putH_lt f of x) (hmb x))
    rw [next_put f of qr m] at h
    exact h)
  obtain ⟨nb, hnb'⟩ := putH_pos f of qr
  have HNB := Lib.hid hnb'
  have HNC := Lib.hid (next_cut_any f of qr nb hnb')
  clear hnb'
  have hle := putH_len f
  generalize hP : putH f = P at *
  clear hP

  have hall := fields_all qf
  have hpe : packH l = packE l := by unfold packH; rw [qf, if_pos rfl]
  have HUP := Lib.hid (fun w' T A' k (hv : View w' T A' (packH l).length (u8s (packH l))) => by
    have h := unpack_any w' T A' k (packH l) hv (by rw [hpe]; have := packE_len l hall.2; omega) (by rw [hpe]; exact packE_lt l)
    rw [hpe, unpack_pack l hall.2, if_pos hall.1, ← hpe] at h
    exact h)
  have hl6 : l.length ≤ 1000000 := by omega
  generalize hQ : packH l = Q at *
  clear hQ hpe hall

  have HC1 : Hid (∀ w', Chg none_ (W.alloc (.cells (cellsH f ss sd).toArray 26)) w' → Chg none_ W w') := fun w' hc => HB.chg.trans hc
  obtain ⟨i0, hi, hz0, hz1, hz2⟩ := info_parts info5
  clear HB hf of hvm hmb hvl hT g1 g2 hD qr qg qf
  unfold aggH at *
  go_enter Tryd.func5, Tryd.ntmps5
  go_wp2_with (first | ((with_reducible show wpList _ _ _ (⟨_, .load 26 (.tmp 3), _, _, _, _⟩ :: _) _ _); refine wpList_load_Row rfl rfl rfl (HX.out _ (by assumption)) Tryd.underlying26 rfl sizeH ?_) | (go_at_call 10; refine (HAL.out).mono ?_; rintro e w1 ⟨rfl, c1⟩) | (go_at_call 11; refine (HGR.out _).mono ?_; rintro e w2 ⟨rfl, d2⟩; have c2 := c1.trans d2))
  refine (HGL.out _ (HC0.out.trans c2)).mono ?_
  rintro e w3 ⟨⟨b, rfl, _⟩, k3, rfl⟩
  have c3 := c2.drewN k3
  generalize w2.drewN k3 = w3 at c3 ⊢
  clear HGL HGR HAL
  cases b
  case true =>
    go_wp2
    go_ret
    exact ⟨rfl, HC0.out.trans c3⟩
  case false =>
    go_wp2_with (first | ((with_reducible show wpList _ _ _ (⟨_, .load 26 (.tmp 3), _, _, _, _⟩ :: _) _ _); refine wpList_load_Row rfl rfl rfl (HX.out _ (by assumption)) Tryd.underlying26 rfl sizeH ?_) | (go_at_call 12; refine (HRT.out _ (HC1.out _ c3)).mono ?_; rintro e w4 ⟨rfl, d4⟩; have c4 := c3.trans d4) | (go_at_call 15; refine (HPU.out _ (HC1.out _ c4)).mono ?_; rintro e w5 ⟨A5, k5, rfl, s5, d5⟩; have c5 := c4.trans d5; have HO0 := Lib.hid (own_none w5 5); have e5 := (Chg.refl none_ w5).alloc (.cells #[] 5)) | (at_builtin; refine wpList_append_view rfl _ _ 24 rfl 5 i0 _ 1 Tryd.underlying24 hi hz0 hz1 hz2 rfl w5.heap.size (.slice (some ⟨w5.heap.size, 0, none⟩) 0 0) (0) (u8s ([])) rfl HO0.out _ A5 _ k5 (u8s P) rfl (s5.view.chg e5 (fun _ _ h => h)) (u8s_one _) (by unfold maxLen; omega) (by omega) e5.size ?_; intro v6 w6 hown6 hgrow6 _; have e6 := e5.append (Nat.le_refl _) HO0.out hgrow6; rw [u8s_append] at hown6; have HO6 := Lib.hid hown6; clear hown6 hgrow6) | (at_builtin; refine wpList_append_view rfl _ _ 24 rfl 5 i0 _ 1 Tryd.underlying24 hi hz0 hz1 hz2 rfl w5.heap.size v6 (0 + P.length) (u8s ([] ++ P)) rfl HO6.out _ A _ c (u8s m) rfl (HVM.out _ (HC1.out _ (c5.trans e6))) (u8s_one _) (by unfold maxLen; omega) (by omega) e6.size ?_; intro v7 w7 hown7 hgrow7 _; have e7 := e6.append (Nat.le_refl _) HO6.out hgrow7; rw [u8s_append] at hown7; have HO7 := Lib.hid hown7; clear hown7 hgrow7))
    have hL : ([] ++ P ++ m).length = 0 + P.length + m.length := by simp
    obtain ⟨A7, k7, rfl, hk7, _, hv7⟩ := View.own (T := fun _ => True) HO7.out (fun _ _ => trivial)
    have HN := Lib.hid (HNX.out w7 (fun _ => True) A7 k7 (by have h := hv7; rw [← hL] at h; exact h) (by have h := hk7; rw [← hL] at h; exact h))
    rw [show (P ++ m).length = 0 + P.length + m.length by simp] at HN
    clear hv7 hL HNX
    refine HN.out.mono ?_
    rintro e w8 ⟨ss8, sd8, rfl, hd8, d8⟩
    have c8 := (c5.trans e7).trans d8
    have dd8 := Lib.hid d8
    have h18 := Lib.hid hd8.one
    have HD8 := Lib.hid hd8
    clear HN d8 hd8
    unfold aggH
    simp only

    have hnb := HNB.out
    have hn15 : nb ≤ 1015 := by omega
    obtain ⟨b5, o5, rfl, hb5, _, _⟩ := s5.view.2 (by omega)
    obtain ⟨_, _, e5', hk5, _, _⟩ := View.own (T := fun _ => True) s5.own (fun _ _ => trivial)
    cases e5'
    have HVC := Lib.hid (fun w' (hc : Chg none_ w5 w') => (s5.view.chg hc (fun _ _ h => h)).take (k := nb) (by omega))
    have HE7 := Lib.hid e7
    clear s5 e7 e6 e5
    have hnb0 : (0 : Int) ≤ (nb : Int) := by omega
    have hnbk : (nb : Int) ≤ (k5 : Int) := by omega
    go_wp2_with (first | ((with_reducible show wpList _ _ _ (⟨_, .store 26 (.tmp 8) _, _, _, _, _⟩ :: _) _ _); refine wpList_store_Row (xs := cellsH f ss8 sd8) rfl rfl rfl (Row.new w8 26 zcH) rfl rfl sizeH h18.out ?_; intro w9 hr9 hch9 _; have c9 := hch9 none_ w8 ((Chg.refl none_ w8).alloc _) (fun h => absurd h (by omega)); clear hch9) | ((with_reducible show wpList _ _ _ (⟨_, .load 26 (.tmp 3), _, _, _, _⟩ :: _) _ _); refine wpList_load_Row rfl rfl rfl (HX.out _ (c8.trans c9)) Tryd.underlying26 rfl sizeH ?_) | ((with_reducible show wpList _ _ _ (⟨_, .load 26 (.tmp 8), _, _, _, _⟩ :: _) _ _); refine wpList_load_Row rfl rfl rfl (hr9) Tryd.underlying26 rfl sizeH ?_) | (go_at_call 17; refine (HSA.out _ (HC1.out _ (c8.trans c9)) _ _ _ (HD8.out.chg c9 (fun _ _ h => h))).mono ?_; rintro e w10 ⟨rfl, d10⟩; have dd10 := Lib.hid d10; have c10 := (c8.trans c9).trans d10))
    refine (HNC.out w10 _ _ k5 (HVC.out _ ((HE7.out.trans dd8.out).trans (c9.trans dd10.out))) (by omega)).mono ?_
    rintro e w11 ⟨ss11, sd11, rfl, hd11, d11⟩
    have c11 := c10.trans d11
    have h11 := Lib.hid hd11.one
    clear hd11 d11 HNC
    unfold aggH
    simp only
    go_wp2_with (first | ((with_reducible show wpList _ _ _ (⟨_, .store 26 (.tmp 11) _, _, _, _, _⟩ :: _) _ _); refine wpList_store_Row (xs := cellsH {} ss11 sd11) rfl rfl rfl (Row.new w11 26 zcH) rfl rfl sizeH h11.out ?_; intro w12 hr12 hch12 _; have c12 := hch12 none_ w11 ((Chg.refl none_ w11).alloc _) (fun h => absurd h (by omega)); clear hch12))
    have HCZ := Lib.hid (HC0.out.trans (c11.trans c12))

    go_wp2_with fail
    refine (HFL.out _ HCZ.out).mono ?_
    rintro e wf ⟨rfl, hcf⟩
    have HCF := Lib.hid (HCZ.out.trans hcf)
    clear hcf HCZ HFL
    go_wp2_with fail
    refine (HPK.out _ HCF.out).mono ?_
    rintro e wp ⟨Ap, kp, rfl, sp, hcp⟩
    have HCP := Lib.hid (HCF.out.trans hcp)
    clear hcp HPK HCF
    have HU := Lib.hid (HUP.out wp _ Ap kp sp.view)
    clear sp HUP
    go_wp2_with fail
    refine HU.out.mono ?_
    rintro e wu ⟨Au, ku, rfl, hvu, hcu⟩
    have HCU := Lib.hid (HCP.out.trans hcu)
    have HLI := Lib.hid (List_any wu _ _ Au B ku d l l hvu (HVL.out _ HCU.out) hl6)
    rw [decide_eq_true rfl] at HLI
    clear hcu hvu HU HCP
    simp only
    go_wp2_with (go_at_call 25; refine HLI.out.mono ?_; rintro e wl ⟨rfl, kl, rfl⟩)
    go_ret
    exact ⟨rfl, HCU.out.drewN kl⟩

set_option maxRecDepth 100000 in
set_option maxHeartbeats 4000000 in
theorem back_10 (hf : HfIn W f ss sd) (of : f.Ok) (hvm : View W (fun _ => True) A m.length (u8s m)) (hmb : ∀ x ∈ m, x < 256) (hvl : View W (fun _ => True) B (2 * l.length) (fcells l)) (hT : Tab W) (qg : greatB f = false) (qm : m.length ≤ 100) (qr : rightH f = true) (qf : fieldsB l = false) :
    Calls Tryd.prog 5 #[aggH f ss sd, .slice A m.length c, .slice B l.length d] W fun e w' => e = .returned (.bool true) ∧ Chg none_ W w' := by
  have HB := boxed W f ss sd
  have HX : Hid (∀ w', Chg none_ (W.alloc (.cells (cellsH f ss sd).toArray 26)) w' → Row w' W.heap.size 26 (cellsH f ss sd)) := fun w' hc => HB.row.chg hc (fun h => h)
  have HC0 := Lib.hid HB.chg
  have HAL := Lib.hid (alive_any _ (hT.chg HB.chg (fun h => h)))
  have HGR := Lib.hid (fun w' => Great_any f ss sd w' hf.shape)
  have HGL := Lib.hid (fun w' (hc : Chg none_ W w') => great_flds l B d w' _ (hvl.chg hc (fun _ _ h => h)))
  rw [qg] at HGR
  have h1 : ¬ (100 : Int) < (m.length : Int) := by omega
  obtain ⟨g1, g2⟩ := great_le qg
  have hD := hf.hd (by omega) (by omega)
  have HRT := Lib.hid (fun w' (hc : Chg none_ W w') => Right_any f ss sd w' _ (hD.chg hc (fun _ _ h => h)))
  have HPU := Lib.hid (fun w' (hc : Chg none_ W w') => Put_any f ss sd w' _ (hD.chg hc (fun _ _ h => h)) (hT.chg hc (fun h => h)))
  have HSA := Lib.hid (fun w' (hc : Chg none_ W w') ss' sd' T' (hd : HfD w' T' f ss' sd') => sameH_any f f ss sd ss' sd' w' _ T' (hD.chg hc (fun _ _ h => h)) hd of.data of.data)
  have HFL := Lib.hid (fun w' (hc : Chg none_ W w') => fields_any w' _ B d l (hvl.chg hc (fun _ _ h => h)))
  have HPK := Lib.hid (fun w' (hc : Chg none_ W w') => pack_any l w' _ B d (hvl.chg hc (fun _ _ h => h)) (hT.chg hc (fun h => h)))
  have HVL := Lib.hid (fun w' (hc : Chg none_ W w') => hvl.chg hc (fun _ _ h => h))
  have HVM := Lib.hid (fun w' (hc : Chg none_ W w') => hvm.chg hc (fun _ _ h => h))
  rw [qr] at HRT
  rw [qf] at HFL
  rw [decide_eq_true rfl] at HSA

  have HNX := Lib.hid (fun w' T A' k (hv : View w' T A' (putH f ++ m).length (u8s (putH f ++ m))) (hk : (putH f ++ m).length ≤ k) => by
    have h := next_any w' T A' k (putH f ++ m) hv (by have := putH_len f; rw [List.length_append]; omega) hk (fun x hx => (List.mem_append.1 hx).elim (putH_lt f of x) (hmb x))
    rw [next_put f of qr m] at h
    exact h)
  obtain ⟨nb, hnb'⟩ := putH_pos f of qr
  have HNB := Lib.hid hnb'
  have HNC := Lib.hid (next_cut_any f of qr nb hnb')
  clear hnb'
  have hle := putH_len f
  generalize hP : putH f = P at *
  clear hP

  have hpe : packH l = [] := by unfold packH; rw [qf]; rfl
  rw [hpe] at HPK
  clear hpe

  have HC1 : Hid (∀ w', Chg none_ (W.alloc (.cells (cellsH f ss sd).toArray 26)) w' → Chg none_ W w') := fun w' hc => HB.chg.trans hc
  obtain ⟨i0, hi, hz0, hz1, hz2⟩ := info_parts info5
  clear HB hf of hvm hmb hvl hT g1 g2 hD qr qg qf
  unfold aggH at *
  go_enter Tryd.func5, Tryd.ntmps5
  go_wp2_with (first | ((with_reducible show wpList _ _ _ (⟨_, .load 26 (.tmp 3), _, _, _, _⟩ :: _) _ _); refine wpList_load_Row rfl rfl rfl (HX.out _ (by assumption)) Tryd.underlying26 rfl sizeH ?_) | (go_at_call 10; refine (HAL.out).mono ?_; rintro e w1 ⟨rfl, c1⟩) | (go_at_call 11; refine (HGR.out _).mono ?_; rintro e w2 ⟨rfl, d2⟩; have c2 := c1.trans d2))
  refine (HGL.out _ (HC0.out.trans c2)).mono ?_
  rintro e w3 ⟨⟨b, rfl, _⟩, k3, rfl⟩
  have c3 := c2.drewN k3
  generalize w2.drewN k3 = w3 at c3 ⊢
  clear HGL HGR HAL
  cases b
  case true =>
    go_wp2
    go_ret
    exact ⟨rfl, HC0.out.trans c3⟩
  case false =>
    go_wp2_with (first | ((with_reducible show wpList _ _ _ (⟨_, .load 26 (.tmp 3), _, _, _, _⟩ :: _) _ _); refine wpList_load_Row rfl rfl rfl (HX.out _ (by assumption)) Tryd.underlying26 rfl sizeH ?_) | (go_at_call 12; refine (HRT.out _ (HC1.out _ c3)).mono ?_; rintro e w4 ⟨rfl, d4⟩; have c4 := c3.trans d4) | (go_at_call 15; refine (HPU.out _ (HC1.out _ c4)).mono ?_; rintro e w5 ⟨A5, k5, rfl, s5, d5⟩; have c5 := c4.trans d5; have HO0 := Lib.hid (own_none w5 5); have e5 := (Chg.refl none_ w5).alloc (.cells #[] 5)) | (at_builtin; refine wpList_append_view rfl _ _ 24 rfl 5 i0 _ 1 Tryd.underlying24 hi hz0 hz1 hz2 rfl w5.heap.size (.slice (some ⟨w5.heap.size, 0, none⟩) 0 0) (0) (u8s ([])) rfl HO0.out _ A5 _ k5 (u8s P) rfl (s5.view.chg e5 (fun _ _ h => h)) (u8s_one _) (by unfold maxLen; omega) (by omega) e5.size ?_; intro v6 w6 hown6 hgrow6 _; have e6 := e5.append (Nat.le_refl _) HO0.out hgrow6; rw [u8s_append] at hown6; have HO6 := Lib.hid hown6; clear hown6 hgrow6) | (at_builtin; refine wpList_append_view rfl _ _ 24 rfl 5 i0 _ 1 Tryd.underlying24 hi hz0 hz1 hz2 rfl w5.heap.size v6 (0 + P.length) (u8s ([] ++ P)) rfl HO6.out _ A _ c (u8s m) rfl (HVM.out _ (HC1.out _ (c5.trans e6))) (u8s_one _) (by unfold maxLen; omega) (by omega) e6.size ?_; intro v7 w7 hown7 hgrow7 _; have e7 := e6.append (Nat.le_refl _) HO6.out hgrow7; rw [u8s_append] at hown7; have HO7 := Lib.hid hown7; clear hown7 hgrow7))
    have hL : ([] ++ P ++ m).length = 0 + P.length + m.length := by simp
    obtain ⟨A7, k7, rfl, hk7, _, hv7⟩ := View.own (T := fun _ => True) HO7.out (fun _ _ => trivial)
    have HN := Lib.hid (HNX.out w7 (fun _ => True) A7 k7 (by have h := hv7; rw [← hL] at h; exact h) (by have h := hk7; rw [← hL] at h; exact h))
    rw [show (P ++ m).length = 0 + P.length + m.length by simp] at HN
    clear hv7 hL HNX
    refine HN.out.mono ?_
    rintro e w8 ⟨ss8, sd8, rfl, hd8, d8⟩
    have c8 := (c5.trans e7).trans d8
    have dd8 := Lib.hid d8
    have h18 := Lib.hid hd8.one
    have HD8 := Lib.hid hd8
    clear HN d8 hd8
    unfold aggH
    simp only

    have hnb := HNB.out
    have hn15 : nb ≤ 1015 := by omega
    obtain ⟨b5, o5, rfl, hb5, _, _⟩ := s5.view.2 (by omega)
    obtain ⟨_, _, e5', hk5, _, _⟩ := View.own (T := fun _ => True) s5.own (fun _ _ => trivial)
    cases e5'
    have HVC := Lib.hid (fun w' (hc : Chg none_ w5 w') => (s5.view.chg hc (fun _ _ h => h)).take (k := nb) (by omega))
    have HE7 := Lib.hid e7
    clear s5 e7 e6 e5
    have hnb0 : (0 : Int) ≤ (nb : Int) := by omega
    have hnbk : (nb : Int) ≤ (k5 : Int) := by omega
    go_wp2_with (first | ((with_reducible show wpList _ _ _ (⟨_, .store 26 (.tmp 8) _, _, _, _, _⟩ :: _) _ _); refine wpList_store_Row (xs := cellsH f ss8 sd8) rfl rfl rfl (Row.new w8 26 zcH) rfl rfl sizeH h18.out ?_; intro w9 hr9 hch9 _; have c9 := hch9 none_ w8 ((Chg.refl none_ w8).alloc _) (fun h => absurd h (by omega)); clear hch9) | ((with_reducible show wpList _ _ _ (⟨_, .load 26 (.tmp 3), _, _, _, _⟩ :: _) _ _); refine wpList_load_Row rfl rfl rfl (HX.out _ (c8.trans c9)) Tryd.underlying26 rfl sizeH ?_) | ((with_reducible show wpList _ _ _ (⟨_, .load 26 (.tmp 8), _, _, _, _⟩ :: _) _ _); refine wpList_load_Row rfl rfl rfl (hr9) Tryd.underlying26 rfl sizeH ?_) | (go_at_call 17; refine (HSA.out _ (HC1.out _ (c8.trans c9)) _ _ _ (HD8.out.chg c9 (fun _ _ h => h))).mono ?_; rintro e w10 ⟨rfl, d10⟩; have dd10 := Lib.hid d10; have c10 := (c8.trans c9).trans d10))
    refine (HNC.out w10 _ _ k5 (HVC.out _ ((HE7.out.trans dd8.out).trans (c9.trans dd10.out))) (by omega)).mono ?_
    rintro e w11 ⟨ss11, sd11, rfl, hd11, d11⟩
    have c11 := c10.trans d11
    have h11 := Lib.hid hd11.one
    clear hd11 d11 HNC
    unfold aggH
    simp only
    go_wp2_with (first | ((with_reducible show wpList _ _ _ (⟨_, .store 26 (.tmp 11) _, _, _, _, _⟩ :: _) _ _); refine wpList_store_Row (xs := cellsH {} ss11 sd11) rfl rfl rfl (Row.new w11 26 zcH) rfl rfl sizeH h11.out ?_; intro w12 hr12 hch12 _; have c12 := hch12 none_ w11 ((Chg.refl none_ w11).alloc _) (fun h => absurd h (by omega)); clear hch12))
    have HCZ := Lib.hid (HC0.out.trans (c11.trans c12))

    go_wp2_with fail
    refine (HFL.out _ HCZ.out).mono ?_
    rintro e wf ⟨rfl, hcf⟩
    have HCF := Lib.hid (HCZ.out.trans hcf)
    clear hcf HCZ HFL
    go_wp2_with fail
    refine (HPK.out _ HCF.out).mono ?_
    rintro e wp ⟨Ap, kp, rfl, sp, hcp⟩
    have HCP := Lib.hid (HCF.out.trans hcp)
    clear hcp HPK HCF
    clear sp
    go_wp2
    go_ret
    exact ⟨rfl, HCP.out⟩

set_option maxRecDepth 100000 in
set_option maxHeartbeats 4000000 in
theorem back_01 (hf : HfIn W f ss sd) (of : f.Ok) (hvm : View W (fun _ => True) A m.length (u8s m)) (_hmb : ∀ x ∈ m, x < 256) (hvl : View W (fun _ => True) B (2 * l.length) (fcells l)) (hT : Tab W) (qg : greatB f = false) (qm : m.length ≤ 100) (qr : rightH f = false) (qf : fieldsB l = true) :
    Calls Tryd.prog 5 #[aggH f ss sd, .slice A m.length c, .slice B l.length d] W fun e w' => e = .returned (.bool true) ∧ Chg none_ W w' := by
  have HB := boxed W f ss sd
  have HX : Hid (∀ w', Chg none_ (W.alloc (.cells (cellsH f ss sd).toArray 26)) w' → Row w' W.heap.size 26 (cellsH f ss sd)) := fun w' hc => HB.row.chg hc (fun h => h)
  have HC0 := Lib.hid HB.chg
  have HAL := Lib.hid (alive_any _ (hT.chg HB.chg (fun h => h)))
  have HGR := Lib.hid (fun w' => Great_any f ss sd w' hf.shape)
  have HGL := Lib.hid (fun w' (hc : Chg none_ W w') => great_flds l B d w' _ (hvl.chg hc (fun _ _ h => h)))
  rw [qg] at HGR
  have h1 : ¬ (100 : Int) < (m.length : Int) := by omega
  obtain ⟨g1, g2⟩ := great_le qg
  have hD := hf.hd (by omega) (by omega)
  have HRT := Lib.hid (fun w' (hc : Chg none_ W w') => Right_any f ss sd w' _ (hD.chg hc (fun _ _ h => h)))
  have HPU := Lib.hid (fun w' (hc : Chg none_ W w') => Put_any f ss sd w' _ (hD.chg hc (fun _ _ h => h)) (hT.chg hc (fun h => h)))
  have HSA := Lib.hid (fun w' (hc : Chg none_ W w') ss' sd' T' (hd : HfD w' T' f ss' sd') => sameH_any f f ss sd ss' sd' w' _ T' (hD.chg hc (fun _ _ h => h)) hd of.data of.data)
  have HFL := Lib.hid (fun w' (hc : Chg none_ W w') => fields_any w' _ B d l (hvl.chg hc (fun _ _ h => h)))
  have HPK := Lib.hid (fun w' (hc : Chg none_ W w') => pack_any l w' _ B d (hvl.chg hc (fun _ _ h => h)) (hT.chg hc (fun h => h)))
  have HVL := Lib.hid (fun w' (hc : Chg none_ W w') => hvl.chg hc (fun _ _ h => h))
  have HVM := Lib.hid (fun w' (hc : Chg none_ W w') => hvm.chg hc (fun _ _ h => h))
  rw [qr] at HRT
  rw [qf] at HFL
  rw [decide_eq_true rfl] at HSA

  clear HSA

  have hall := fields_all qf
  have hpe : packH l = packE l := by unfold packH; rw [qf, if_pos rfl]
  have HUP := Lib.hid (fun w' T A' k (hv : View w' T A' (packH l).length (u8s (packH l))) => by
    have h := unpack_any w' T A' k (packH l) hv (by rw [hpe]; have := packE_len l hall.2; omega) (by rw [hpe]; exact packE_lt l)
    rw [hpe, unpack_pack l hall.2, if_pos hall.1, ← hpe] at h
    exact h)
  have hl6 : l.length ≤ 1000000 := by omega
  generalize hQ : packH l = Q at *
  clear hQ hpe hall

  have HC1 : Hid (∀ w', Chg none_ (W.alloc (.cells (cellsH f ss sd).toArray 26)) w' → Chg none_ W w') := fun w' hc => HB.chg.trans hc
  obtain ⟨i0, hi, hz0, hz1, hz2⟩ := info_parts info5
  clear HB hf of hvm _hmb hvl hT g1 g2 hD qr qg qf
  unfold aggH at *
  go_enter Tryd.func5, Tryd.ntmps5
  go_wp2_with (first | ((with_reducible show wpList _ _ _ (⟨_, .load 26 (.tmp 3), _, _, _, _⟩ :: _) _ _); refine wpList_load_Row rfl rfl rfl (HX.out _ (by assumption)) Tryd.underlying26 rfl sizeH ?_) | (go_at_call 10; refine (HAL.out).mono ?_; rintro e w1 ⟨rfl, c1⟩) | (go_at_call 11; refine (HGR.out _).mono ?_; rintro e w2 ⟨rfl, d2⟩; have c2 := c1.trans d2))
  refine (HGL.out _ (HC0.out.trans c2)).mono ?_
  rintro e w3 ⟨⟨b, rfl, _⟩, k3, rfl⟩
  have c3 := c2.drewN k3
  generalize w2.drewN k3 = w3 at c3 ⊢
  clear HGL HGR HAL
  cases b
  case true =>
    go_wp2
    go_ret
    exact ⟨rfl, HC0.out.trans c3⟩
  case false =>
    go_wp2_with (first | ((with_reducible show wpList _ _ _ (⟨_, .load 26 (.tmp 3), _, _, _, _⟩ :: _) _ _); refine wpList_load_Row rfl rfl rfl (HX.out _ (by assumption)) Tryd.underlying26 rfl sizeH ?_) | (go_at_call 12; refine (HRT.out _ (HC1.out _ c3)).mono ?_; rintro e w4 ⟨rfl, d4⟩; have c4 := c3.trans d4))
    have HCZ := Lib.hid (HC0.out.trans c4)

    go_wp2_with fail
    refine (HFL.out _ HCZ.out).mono ?_
    rintro e wf ⟨rfl, hcf⟩
    have HCF := Lib.hid (HCZ.out.trans hcf)
    clear hcf HCZ HFL
    go_wp2_with fail
    refine (HPK.out _ HCF.out).mono ?_
    rintro e wp ⟨Ap, kp, rfl, sp, hcp⟩
    have HCP := Lib.hid (HCF.out.trans hcp)
    clear hcp HPK HCF
    have HU := Lib.hid (HUP.out wp _ Ap kp sp.view)
    clear sp HUP
    go_wp2_with fail
    refine HU.out.mono ?_
    rintro e wu ⟨Au, ku, rfl, hvu, hcu⟩
    have HCU := Lib.hid (HCP.out.trans hcu)
    have HLI := Lib.hid (List_any wu _ _ Au B ku d l l hvu (HVL.out _ HCU.out) hl6)
    rw [decide_eq_true rfl] at HLI
    clear hcu hvu HU HCP
    simp only
    go_wp2_with (go_at_call 25; refine HLI.out.mono ?_; rintro e wl ⟨rfl, kl, rfl⟩)
    go_ret
    exact ⟨rfl, HCU.out.drewN kl⟩

set_option maxRecDepth 100000 in
set_option maxHeartbeats 4000000 in
theorem back_00 (hf : HfIn W f ss sd) (of : f.Ok) (hvm : View W (fun _ => True) A m.length (u8s m)) (_hmb : ∀ x ∈ m, x < 256) (hvl : View W (fun _ => True) B (2 * l.length) (fcells l)) (hT : Tab W) (qg : greatB f = false) (qm : m.length ≤ 100) (qr : rightH f = false) (qf : fieldsB l = false) :
    Calls Tryd.prog 5 #[aggH f ss sd, .slice A m.length c, .slice B l.length d] W fun e w' => e = .returned (.bool true) ∧ Chg none_ W w' := by
  have HB := boxed W f ss sd
  have HX : Hid (∀ w', Chg none_ (W.alloc (.cells (cellsH f ss sd).toArray 26)) w' → Row w' W.heap.size 26 (cellsH f ss sd)) := fun w' hc => HB.row.chg hc (fun h => h)
  have HC0 := Lib.hid HB.chg
  have HAL := Lib.hid (alive_any _ (hT.chg HB.chg (fun h => h)))
  have HGR := Lib.hid (fun w' => Great_any f ss sd w' hf.shape)
  have HGL := Lib.hid (fun w' (hc : Chg none_ W w') => great_flds l B d w' _ (hvl.chg hc (fun _ _ h => h)))
  rw [qg] at HGR
  have h1 : ¬ (100 : Int) < (m.length : Int) := by omega
  obtain ⟨g1, g2⟩ := great_le qg
  have hD := hf.hd (by omega) (by omega)
  have HRT := Lib.hid (fun w' (hc : Chg none_ W w') => Right_any f ss sd w' _ (hD.chg hc (fun _ _ h => h)))
  have HPU := Lib.hid (fun w' (hc : Chg none_ W w') => Put_any f ss sd w' _ (hD.chg hc (fun _ _ h => h)) (hT.chg hc (fun h => h)))
  have HSA := Lib.hid (fun w' (hc : Chg none_ W w') ss' sd' T' (hd : HfD w' T' f ss' sd') => sameH_any f f ss sd ss' sd' w' _ T' (hD.chg hc (fun _ _ h => h)) hd of.data of.data)
  have HFL := Lib.hid (fun w' (hc : Chg none_ W w') => fields_any w' _ B d l (hvl.chg hc (fun _ _ h => h)))
  have HPK := Lib.hid (fun w' (hc : Chg none_ W w') => pack_any l w' _ B d (hvl.chg hc (fun _ _ h => h)) (hT.chg hc (fun h => h)))
  have HVL := Lib.hid (fun w' (hc : Chg none_ W w') => hvl.chg hc (fun _ _ h => h))
  have HVM := Lib.hid (fun w' (hc : Chg none_ W w') => hvm.chg hc (fun _ _ h => h))
  rw [qr] at HRT
  rw [qf] at HFL
  rw [decide_eq_true rfl] at HSA

  clear HSA

  have hpe : packH l = [] := by unfold packH; rw [qf]; rfl
  rw [hpe] at HPK
  clear hpe

  have HC1 : Hid (∀ w', Chg none_ (W.alloc (.cells (cellsH f ss sd).toArray 26)) w' → Chg none_ W w') := fun w' hc => HB.chg.trans hc
  obtain ⟨i0, hi, hz0, hz1, hz2⟩ := info_parts info5
  clear HB hf of hvm _hmb hvl hT g1 g2 hD qr qg qf
  unfold aggH at *
  go_enter Tryd.func5, Tryd.ntmps5
  go_wp2_with (first | ((with_reducible show wpList _ _ _ (⟨_, .load 26 (.tmp 3), _, _, _, _⟩ :: _) _ _); refine wpList_load_Row rfl rfl rfl (HX.out _ (by assumption)) Tryd.underlying26 rfl sizeH ?_) | (go_at_call 10; refine (HAL.out).mono ?_; rintro e w1 ⟨rfl, c1⟩) | (go_at_call 11; refine (HGR.out _).mono ?_; rintro e w2 ⟨rfl, d2⟩; have c2 := c1.trans d2))
  refine (HGL.out _ (HC0.out.trans c2)).mono ?_
  rintro e w3 ⟨⟨b, rfl, _⟩, k3, rfl⟩
  have c3 := c2.drewN k3
  generalize w2.drewN k3 = w3 at c3 ⊢
  clear HGL HGR HAL
  cases b
  case true =>
    go_wp2
    go_ret
    exact ⟨rfl, HC0.out.trans c3⟩
  case false =>
    go_wp2_with (first | ((with_reducible show wpList _ _ _ (⟨_, .load 26 (.tmp 3), _, _, _, _⟩ :: _) _ _); refine wpList_load_Row rfl rfl rfl (HX.out _ (by assumption)) Tryd.underlying26 rfl sizeH ?_) | (go_at_call 12; refine (HRT.out _ (HC1.out _ c3)).mono ?_; rintro e w4 ⟨rfl, d4⟩; have c4 := c3.trans d4))
    have HCZ := Lib.hid (HC0.out.trans c4)

    go_wp2_with fail
    refine (HFL.out _ HCZ.out).mono ?_
    rintro e wf ⟨rfl, hcf⟩
    have HCF := Lib.hid (HCZ.out.trans hcf)
    clear hcf HCZ HFL
    go_wp2_with fail
    refine (HPK.out _ HCF.out).mono ?_
    rintro e wp ⟨Ap, kp, rfl, sp, hcp⟩
    have HCP := Lib.hid (HCF.out.trans hcp)
    clear hcp HPK HCF
    clear sp
    go_wp2
    go_ret
    exact ⟨rfl, HCP.out⟩

theorem back_all (hf : HfIn W f ss sd) (of : f.Ok) (hvm : View W (fun _ => True) A m.length (u8s m)) (hmb : ∀ x ∈ m, x < 256) (hvl : View W (fun _ => True) B (2 * l.length) (fcells l)) (hT : Tab W) :
    Calls Tryd.prog 5 #[aggH f ss sd, .slice A m.length c, .slice B l.length d] W fun e w' => e = .returned (.bool true) ∧ Chg none_ W w' := by
  cases qg : greatB f with
  | true => exact back_gr f ss sd A c m B d l W hf of hvm hmb hvl hT qg
  | false =>
    by_cases qm : 100 < m.length
    · exact back_mo f ss sd A c m B d l W hf of hvm hmb hvl hT qg qm
    · cases qr : rightH f <;> cases qf : fieldsB l
      · exact back_00 f ss sd A c m B d l W hf of hvm hmb hvl hT qg (by omega) qr qf
      · exact back_01 f ss sd A c m B d l W hf of hvm hmb hvl hT qg (by omega) qr qf
      · exact back_10 f ss sd A c m B d l W hf of hvm hmb hvl hT qg (by omega) qr qf
      · exact back_11 f ss sd A c m B d l W hf of hvm hmb hvl hT qg (by omega) qr qf
end

theorem walk_HframeBack (f : Hf) (ss sd : Value) (A : Option Addr) (len c : Nat) (zs : List Int) (l : List Fld) (B : Option Addr) (d : Nat) (W : World) (hf : HfIn W f ss sd) (of : f.Ok) (hz : IsRow .u8 W A len c zs) (_ : l.length ≤ d ∧ d ≤ maxLen) (hvl : View W (fun _ => True) B (2 * l.length) (fcells l)) (hT : Tab W) :
    Calls Tryd.prog 5 #[aggH f ss sd, .slice A len c, .slice B l.length d] W fun e w' => e = .returned (.bool true) ∧ Chg none_ W w' := by
  obtain ⟨m, rfl, _, _, hmb, hvm⟩ := hz.u8
  exact back_all f ss sd A c m B d l W hf of hvm hmb hvl hT
end Go.Proofs.YtcdnjeojgjakdaaDoor
