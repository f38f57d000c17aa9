/- Layer 4 (header): the law HeaderPeeks. -/
import Derived.Test.YtfecmloaopbogaaDoorV4Apart
namespace Go.Proofs.YtfecmloaopbogaaDoor
open Go.RowKit

theorem arr_lt (n s k : Nat) : ∀ x ∈ arr n s k, x < 256 := by
  intro x hx
  unfold arr at hx
  simp only [List.mem_map, List.mem_range] at hx
  obtain ⟨j, _, rfl⟩ := hx
  split
  · exact Nat.mod_lt _ (by decide)
  · decide
theorem bytesH_lt (h : Hd) (F : RightF h) (oh : h.Ok) : ∀ x ∈ bytesH h, x < 256 := by
  have h1 := (first_may F).2.2.1
  have h2 := wideB_lt h.token.length
  have h3 := wideB_lt (h.cut.length + h.rest.toNat)
  have h4 := arr_lt h.version 4 4
  have h5 := F.d
  have h6 := F.s
  have h7 : ∀ x ∈ aheadH h, x < 256 := by
    intro x hx
    unfold aheadH at hx
    simp only [List.mem_append, List.mem_cons, List.not_mem_nil, or_false] at hx
    rcases hx with rfl | hx | (rfl | hx) | (rfl | hx)
    · exact h1
    · exact h4 x hx
    · omega
    · exact oh.dst x hx
    · omega
    · exact oh.src x hx
  intro x hx
  unfold bytesH enI at hx
  split at hx
  · split at hx
    · simp only [List.mem_append] at hx
      rcases hx with hx | hx | hx | hx | hx
      · exact h7 x hx
      · exact h2 x hx
      · exact oh.token x hx
      · exact h3 x hx
      · exact oh.cut x hx
    · simp only [List.mem_append] at hx
      rcases hx with hx | hx | hx
      · exact h7 x hx
      · exact h3 x hx
      · exact oh.cut x hx
  · simp only [List.mem_append, List.mem_cons, List.not_mem_nil, or_false] at hx
    rcases hx with rfl | hx | hx
    · exact h1
    · exact oh.dst x hx
    · exact oh.cut x hx
theorem putH_lt (h : Hd) (oh : h.Ok) : ∀ x ∈ putH h, x < 256 := by
  unfold putH
  cases hr : rightH h with
  | false => simp
  | true => exact bytesH_lt h (rightF hr) oh

set_option maxRecDepth 100000 in
set_option maxHeartbeats 2000000 in
theorem peeks_gh (h : Hd) (v : Four) (A : Option Addr) (c : Nat) (m : List Nat) (W : World) (xh : HdIn W h v) (_oh : h.Ok) (_hvm : View W (fun _ => True) A m.length (u8s m)) (_hmb : ∀ x ∈ m, x < 256) (hT : Tab W) (qa : greatH h = true) :
    Calls Tryd.prog 7 #[aggH h v, .slice A m.length c] W fun e w' => e = .returned (.bool true) ∧ Chg none_ W w' := by
  have HGH := Lib.hid (fun w => great_any h v w xh.shape)
  have HRH := Lib.hid (fun w => right_sh h v w xh.shape)
  have HAL := Lib.hid (fun w h => alive_any w h)
  have HTB := Lib.hid hT
  simp only [qa] at HGH
  clear xh _oh _hvm _hmb hT qa
  unfold aggH at *
  generalize hcs : cellsH h v = cs at HGH HRH ⊢
  have hl9 : cs.length = 9 := by rw [← hcs]; rfl
  have HC2 := Lib.hid ((Chg.refl none_ W).alloc (.cells cs.toArray 25))
  have HX : Hid (∀ w', Chg none_ (W.alloc (.cells cs.toArray 25)) w' → Row w' W.heap.size 25 cs) := fun w' hc => (Row.new W _ cs).chg hc (fun h => h)
  clear hcs
  go_enter Tryd.func7, Tryd.ntmps7
  go_wp2_with (first | ((with_reducible show wpList _ _ _ (⟨_, .load 25 (.tmp 2), _, _, _, _⟩ :: _) _ _); refine wlH rfl rfl rfl (HX.out _ (by assumption)) hl9 ?_) | (go_at_call 10; refine (HAL.out _ (HTB.out.chg HC2.out (fun h => h))).mono ?_; rintro e w3 ⟨rfl, c3⟩) | (go_at_call 11; refine (HGH.out _).mono ?_; rintro e w4 ⟨rfl, hc4⟩; have c4 := c3.trans hc4) | (go_at_call 12; refine (HRH.out _).mono ?_; rintro e w6 ⟨rfl, hc6⟩; have c6 := c4.trans hc6))
  go_ret
  exact ⟨rfl, HC2.out.trans c4⟩

set_option maxRecDepth 100000 in
set_option maxHeartbeats 2000000 in
theorem peeks_mo (h : Hd) (v : Four) (A : Option Addr) (c : Nat) (m : List Nat) (W : World) (xh : HdIn W h v) (_oh : h.Ok) (_hvm : View W (fun _ => True) A m.length (u8s m)) (_hmb : ∀ x ∈ m, x < 256) (hT : Tab W) (qa : greatH h = false) (qm : 100 < m.length) :
    Calls Tryd.prog 7 #[aggH h v, .slice A m.length c] W fun e w' => e = .returned (.bool true) ∧ Chg none_ W w' := by
  have HGH := Lib.hid (fun w => great_any h v w xh.shape)
  have HRH := Lib.hid (fun w => right_sh h v w xh.shape)
  have HAL := Lib.hid (fun w h => alive_any w h)
  have HTB := Lib.hid hT
  simp only [qa] at HGH
  clear xh _oh _hvm _hmb hT qa
  unfold aggH at *
  generalize hcs : cellsH h v = cs at HGH HRH ⊢
  have hl9 : cs.length = 9 := by rw [← hcs]; rfl
  have HC2 := Lib.hid ((Chg.refl none_ W).alloc (.cells cs.toArray 25))
  have HX : Hid (∀ w', Chg none_ (W.alloc (.cells cs.toArray 25)) w' → Row w' W.heap.size 25 cs) := fun w' hc => (Row.new W _ cs).chg hc (fun h => h)
  clear hcs
  go_enter Tryd.func7, Tryd.ntmps7
  go_wp2_with (first | ((with_reducible show wpList _ _ _ (⟨_, .load 25 (.tmp 2), _, _, _, _⟩ :: _) _ _); refine wlH rfl rfl rfl (HX.out _ (by assumption)) hl9 ?_) | (go_at_call 10; refine (HAL.out _ (HTB.out.chg HC2.out (fun h => h))).mono ?_; rintro e w3 ⟨rfl, c3⟩) | (go_at_call 11; refine (HGH.out _).mono ?_; rintro e w4 ⟨rfl, hc4⟩; have c4 := c3.trans hc4) | (go_at_call 12; refine (HRH.out _).mono ?_; rintro e w6 ⟨rfl, hc6⟩; have c6 := c4.trans hc6))
  go_ret
  exact ⟨rfl, HC2.out.trans c4⟩

set_option maxRecDepth 100000 in
set_option maxHeartbeats 2000000 in
theorem peeks_rh (h : Hd) (v : Four) (A : Option Addr) (c : Nat) (m : List Nat) (W : World) (xh : HdIn W h v) (_oh : h.Ok) (_hvm : View W (fun _ => True) A m.length (u8s m)) (_hmb : ∀ x ∈ m, x < 256) (hT : Tab W) (qa : greatH h = false) (qm : m.length ≤ 100) (qc : rightH h = false) :
    Calls Tryd.prog 7 #[aggH h v, .slice A m.length c] W fun e w' => e = .returned (.bool true) ∧ Chg none_ W w' := by
  have HGH := Lib.hid (fun w => great_any h v w xh.shape)
  have HRH := Lib.hid (fun w => right_sh h v w xh.shape)
  have HAL := Lib.hid (fun w h => alive_any w h)
  have HTB := Lib.hid hT
  simp only [qa] at HGH
  simp only [qc] at HRH
  have qmn : ¬ (100 < m.length) := by omega
  have qmi : ¬ ((100 : Int) < (m.length : Int)) := by omega
  have qmd : decide ((100 : Int) < (m.length : Int)) = false := decide_eq_false qmi
  have qme : decide (100 < m.length) = false := decide_eq_false qmn
  clear xh _oh _hvm _hmb hT qa qc
  unfold aggH at *
  generalize hcs : cellsH h v = cs at HGH HRH ⊢
  have hl9 : cs.length = 9 := by rw [← hcs]; rfl
  have HC2 := Lib.hid ((Chg.refl none_ W).alloc (.cells cs.toArray 25))
  have HX : Hid (∀ w', Chg none_ (W.alloc (.cells cs.toArray 25)) w' → Row w' W.heap.size 25 cs) := fun w' hc => (Row.new W _ cs).chg hc (fun h => h)
  clear hcs
  go_enter Tryd.func7, Tryd.ntmps7
  go_wp2_with (first | ((with_reducible show wpList _ _ _ (⟨_, .load 25 (.tmp 2), _, _, _, _⟩ :: _) _ _); refine wlH rfl rfl rfl (HX.out _ (by assumption)) hl9 ?_) | (go_at_call 10; refine (HAL.out _ (HTB.out.chg HC2.out (fun h => h))).mono ?_; rintro e w3 ⟨rfl, c3⟩) | (go_at_call 11; refine (HGH.out _).mono ?_; rintro e w4 ⟨rfl, hc4⟩; have c4 := c3.trans hc4) | (go_at_call 12; refine (HRH.out _).mono ?_; rintro e w6 ⟨rfl, hc6⟩; have c6 := c4.trans hc6))
  go_ret
  exact ⟨rfl, HC2.out.trans c6⟩

set_option maxRecDepth 100000 in
set_option maxHeartbeats 2000000 in
theorem peeks_ok (h : Hd) (v : Four) (A : Option Addr) (c : Nat) (m : List Nat) (W : World) (xh : HdIn W h v) (oh : h.Ok) (hvm : View W (fun _ => True) A m.length (u8s m)) (hmb : ∀ x ∈ m, x < 256) (hT : Tab W) (qa : greatH h = false) (qm : m.length ≤ 100) (qc : rightH h = true) :
    Calls Tryd.prog 7 #[aggH h v, .slice A m.length c] W fun e w' => e = .returned (.bool true) ∧ Chg none_ W w' := by
  have HGH := Lib.hid (fun w => great_any h v w xh.shape)
  have HRH := Lib.hid (fun w => right_sh h v w xh.shape)
  have HAL := Lib.hid (fun w h => alive_any w h)
  have HTB := Lib.hid hT
  simp only [qa] at HGH
  simp only [qc] at HRH
  have FH := rightF qc
  have HDH := Lib.hid (FH.hd xh)
  have HV1 : Hid (h.version < 4294967296) := oh.v1
  have HPE : Hid (putH h = bytesH h) := by show _ = _; unfold putH; rw [qc]; rfl
  have HPK : Hid (∀ w' (T : Nat → Prop) (B : Option Addr) (k : Nat) (more : List Nat), View w' T B (putH h ++ more).length (u8s (putH h ++ more)) → more.length ≤ 100 → (∀ x ∈ more, x < 256) → Calls Tryd.prog 21 #[.slice B (putH h ++ more).length k] w' (PeekPost w' h.dst h.long true)) := fun w' T B k more hv hm hb => by
    have e := peek_back qc oh more
    rw [← HPE.out] at e
    have p := peek_any w' T B k (putH h ++ more) hv (by have := putH_len h; rw [List.length_append]; omega) (fun x hx => by
      rcases List.mem_append.1 hx with q | q
      · exact putH_lt h oh x q
      · exact hb x q)
    rw [e] at p
    exact p
  have HPL := Lib.hid (putH_len h)
  have HDL : Hid (h.dst.length ≤ 1000000) := by have := FH.d; show _ ≤ _; omega
  have HM := Lib.hid hvm
  have HMB := Lib.hid hmb
  obtain ⟨i0, hi, hz0, hz1, hz2⟩ := info_parts info5
  have h0 := cH_0 h v
  have qmn : ¬ (100 < m.length) := by omega
  have qmi : ¬ ((100 : Int) < (m.length : Int)) := by omega
  have qmd : decide ((100 : Int) < (m.length : Int)) = false := decide_eq_false qmi
  have qme : decide (100 < m.length) = false := decide_eq_false qmn
  clear xh oh hvm hmb hT qa qc FH
  unfold aggH at *
  generalize hcs : cellsH h v = cs at HGH HRH h0 ⊢
  have hl9 : cs.length = 9 := by rw [← hcs]; rfl
  have HC2 := Lib.hid ((Chg.refl none_ W).alloc (.cells cs.toArray 25))
  have HX : Hid (∀ w', Chg none_ (W.alloc (.cells cs.toArray 25)) w' → Row w' W.heap.size 25 cs) := fun w' hc => (Row.new W _ cs).chg hc (fun h => h)
  have HPUT : Hid (∀ w', Chg none_ W w' → Calls Tryd.prog 15 #[.agg cs.toArray] w' (GotBytes w' (putH h))) := fun w' hc => by
    have p := put_hd h v w' _ (HDH.out.chg hc (fun _ _ h => h)) HV1.out (HTB.out.chg hc (fun h => h))
    unfold aggH at p
    rwa [hcs] at p
  clear hcs
  generalize putH h = B at *
  go_enter Tryd.func7, Tryd.ntmps7
  go_wp2_with (first | ((with_reducible show wpList _ _ _ (⟨_, .load 25 (.tmp 2), _, _, _, _⟩ :: _) _ _); refine wlH rfl rfl rfl (HX.out _ (by assumption)) hl9 ?_) | (go_at_call 10; refine (HAL.out _ (HTB.out.chg HC2.out (fun h => h))).mono ?_; rintro e w3 ⟨rfl, c3⟩) | (go_at_call 11; refine (HGH.out _).mono ?_; rintro e w4 ⟨rfl, hc4⟩; have c4 := c3.trans hc4) | (go_at_call 12; refine (HRH.out _).mono ?_; rintro e w6 ⟨rfl, hc6⟩; have c6 := c4.trans hc6))
  refine (HPUT.out _ (HC2.out.trans c6)).mono ?_
  rintro e w7 ⟨A7, k7, rfl, f7, hc7⟩
  have c7 := c6.trans hc7
  go_wp2_with fail
  have p7 := HPK.out w7 _ A7 k7 [] (by simpa using f7.view) (by simp) (by simp)
  rw [List.append_nil] at p7
  refine p7.mono ?_
  clear p7 f7 hc7
  rintro e w8 ⟨A8, k8, rfl, v8, _, hc8⟩
  have c8 := c7.trans hc8
  go_wp2_with (first | ((with_reducible show wpList _ _ _ (⟨_, .load 25 (.tmp 2), _, _, _, _⟩ :: _) _ _); refine wlH rfl rfl rfl (HX.out _ (by assumption)) hl9 ?_))
  refine (HPUT.out _ (HC2.out.trans c8)).mono ?_
  rintro e w9 ⟨A9, k9, rfl, f9, hc9⟩
  have c9 := c8.trans hc9
  have hsz := hc9.size
  go_wp2_with (at_builtin; refine wpList_append_view rfl _ _ 23 rfl 5 i0 _ 1 Tryd.underlying23 hi hz0 hz1 hz2 rfl w8.heap.size (.slice A9 B.length k9) B.length (u8s B) rfl f9.own (fun _ => True) A m.length c (u8s m) rfl (HM.out.chg (HC2.out.trans c9) (fun _ _ h => h)) (u8s_one _) (by have := HPL.out; unfold maxLen; omega) (by have := HPL.out; omega) hsz ?_; intro v10 w10 hown10 hgrow10 hob10)
  have c10' : Chg none_ w8 w10 := hc9.append (Nat.le_refl _) f9.own hgrow10
  have c10 := c8.trans c10'
  obtain ⟨A10, k10, rfl, _, _, hv10⟩ := View.own (T := fun _ => True) hown10 (fun _ _ => trivial)
  have p10 := HPK.out w10 (fun _ => True) A10 k10 m (by rw [u8s_append] at hv10; rw [List.length_append]; exact hv10) qm HMB.out
  rw [List.length_append] at p10
  refine p10.mono ?_
  clear p10 hown10 hgrow10 hob10 f9 hc9 hsz
  rintro e w11 ⟨A11, k11, rfl, v11, _, hc11⟩
  have c11 := c10.trans hc11
  have hk0 := ((HX.out _ c11).cell 0).trans h0
  have hsm := same_any w11 _ _ A8 A11 k8 k11 h.dst h.dst (v8.chg (c10'.trans hc11) (fun _ _ h => h)) v11 HDL.out
  rw [decide_eq_true rfl] at hsm
  have HSM := Lib.hid hsm
  have HC11 := Lib.hid c11
  clear hsm v8 v11 c10' hc11 c10 c9 c8 c7 hv10 hc8
  generalize h.long = lo at *
  cases lo
  · go_wp2_with (go_at_call 14; refine HSM.out.mono ?_; rintro e w12 ⟨rfl, nk, rfl⟩)
    go_ret
    exact ⟨rfl, (HC2.out.trans HC11.out).drewN nk⟩
  · go_wp2_with (go_at_call 14; refine HSM.out.mono ?_; rintro e w12 ⟨rfl, nk, rfl⟩)
    go_ret
    exact ⟨rfl, (HC2.out.trans HC11.out).drewN nk⟩

theorem walk_HeaderPeeks (h : Hd) (v : Four) (a : Option Addr) (len c : Nat) (zs : List Int) (W : World) (xh : HdIn W h v) (oh : h.Ok) (hz : IsRow .u8 W a len c zs) (hT : Tab W) :
    Calls Tryd.prog 7 #[aggH h v, .slice a len c] W fun e w' => e = .returned (.bool true) ∧ Chg none_ W w' := by
  obtain ⟨m, rfl, _, _, hmb, hvm⟩ := hz.u8
  cases qa : greatH h with
  | true => exact peeks_gh h v a c m W xh oh hvm hmb hT qa
  | false =>
    by_cases qm : 100 < m.length
    · exact peeks_mo h v a c m W xh oh hvm hmb hT qa qm
    · cases qc : rightH h with
      | false => exact peeks_rh h v a c m W xh oh hvm hmb hT qa (by omega) qc
      | true => exact peeks_ok h v a c m W xh oh hvm hmb hT qa (by omega) qc
end Go.Proofs.YtfecmloaopbogaaDoor
