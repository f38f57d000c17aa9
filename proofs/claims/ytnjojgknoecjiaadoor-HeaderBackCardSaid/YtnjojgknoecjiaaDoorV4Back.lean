/- Layer 4 (header): the law HeaderBack. -/
import Derived.Test.YtnjojgknoecjiaaDoorV4Rest
namespace Go.Proofs.YtnjojgknoecjiaaDoor
open Go.RowKit

set_option maxRecDepth 100000 in
set_option maxHeartbeats 2000000 in
theorem back_gh (h : Hd) (v : Four) (A : Option Addr) (c : Nat) (m : List Nat) (W : World) (xh : HdIn W h v) (_oh : h.Ok) (_hvm : View W (fun _ => True) A m.length (u8s m)) (_hmb : ∀ x ∈ m, x < 256) (hT : Tab W) (qa : greatH h = true) :
    Calls Tryd.prog 5 #[aggH h v, .slice A m.length c] W fun e w' => e = .returned (.bool true) ∧ Chg none_ W w' := by
  have HGH := Lib.hid (fun w => great_any h v w xh.shape)
  have HRH := Lib.hid (fun w => right_sh h v w xh.shape)
  have HAL := Lib.hid (fun w h => alive_any w h)
  have HTB := Lib.hid hT
  simp only [qa] at HGH
  clear xh _oh _hvm _hmb hT qa
  unfold aggH at *
  generalize hcs : cellsH h v = cs at HGH HRH ⊢
  have hl9 : cs.length = 9 := by rw [← hcs]; rfl
  have HC2 := Lib.hid ((Chg.refl none_ W).alloc (.cells cs.toArray 25))
  have HX : Hid (∀ w', Chg none_ (W.alloc (.cells cs.toArray 25)) w' → Row w' W.heap.size 25 cs) := fun w' hc => (Row.new W _ cs).chg hc (fun h => h)
  clear hcs
  go_enter Tryd.func5, Tryd.ntmps5
  go_wp2_with (first | ((with_reducible show wpList _ _ _ (⟨_, .load 25 (.tmp 2), _, _, _, _⟩ :: _) _ _); refine wlH rfl rfl rfl (HX.out _ (by assumption)) hl9 ?_) | (go_at_call 10; refine (HAL.out _ (HTB.out.chg HC2.out (fun h => h))).mono ?_; rintro e w3 ⟨rfl, c3⟩) | (go_at_call 11; refine (HGH.out _).mono ?_; rintro e w4 ⟨rfl, hc4⟩; have c4 := c3.trans hc4) | (go_at_call 12; refine (HRH.out _).mono ?_; rintro e w6 ⟨rfl, hc6⟩; have c6 := c4.trans hc6))
  go_ret
  exact ⟨rfl, HC2.out.trans c4⟩

set_option maxRecDepth 100000 in
set_option maxHeartbeats 2000000 in
theorem back_mo (h : Hd) (v : Four) (A : Option Addr) (c : Nat) (m : List Nat) (W : World) (xh : HdIn W h v) (_oh : h.Ok) (_hvm : View W (fun _ => True) A m.length (u8s m)) (_hmb : ∀ x ∈ m, x < 256) (hT : Tab W) (qa : greatH h = false) (qm : 100 < m.length) :
    Calls Tryd.prog 5 #[aggH h v, .slice A m.length c] W fun e w' => e = .returned (.bool true) ∧ Chg none_ W w' := by
  have HGH := Lib.hid (fun w => great_any h v w xh.shape)
  have HRH := Lib.hid (fun w => right_sh h v w xh.shape)
  have HAL := Lib.hid (fun w h => alive_any w h)
  have HTB := Lib.hid hT
  simp only [qa] at HGH
  clear xh _oh _hvm _hmb hT qa
  unfold aggH at *
  generalize hcs : cellsH h v = cs at HGH HRH ⊢
  have hl9 : cs.length = 9 := by rw [← hcs]; rfl
  have HC2 := Lib.hid ((Chg.refl none_ W).alloc (.cells cs.toArray 25))
  have HX : Hid (∀ w', Chg none_ (W.alloc (.cells cs.toArray 25)) w' → Row w' W.heap.size 25 cs) := fun w' hc => (Row.new W _ cs).chg hc (fun h => h)
  clear hcs
  go_enter Tryd.func5, Tryd.ntmps5
  go_wp2_with (first | ((with_reducible show wpList _ _ _ (⟨_, .load 25 (.tmp 2), _, _, _, _⟩ :: _) _ _); refine wlH rfl rfl rfl (HX.out _ (by assumption)) hl9 ?_) | (go_at_call 10; refine (HAL.out _ (HTB.out.chg HC2.out (fun h => h))).mono ?_; rintro e w3 ⟨rfl, c3⟩) | (go_at_call 11; refine (HGH.out _).mono ?_; rintro e w4 ⟨rfl, hc4⟩; have c4 := c3.trans hc4) | (go_at_call 12; refine (HRH.out _).mono ?_; rintro e w6 ⟨rfl, hc6⟩; have c6 := c4.trans hc6))
  go_ret
  exact ⟨rfl, HC2.out.trans c4⟩

set_option maxRecDepth 100000 in
set_option maxHeartbeats 2000000 in
theorem back_rh (h : Hd) (v : Four) (A : Option Addr) (c : Nat) (m : List Nat) (W : World) (xh : HdIn W h v) (_oh : h.Ok) (_hvm : View W (fun _ => True) A m.length (u8s m)) (_hmb : ∀ x ∈ m, x < 256) (hT : Tab W) (qa : greatH h = false) (qm : m.length ≤ 100) (qc : rightH h = false) :
    Calls Tryd.prog 5 #[aggH h v, .slice A m.length c] W fun e w' => e = .returned (.bool true) ∧ Chg none_ W w' := by
  have HGH := Lib.hid (fun w => great_any h v w xh.shape)
  have HRH := Lib.hid (fun w => right_sh h v w xh.shape)
  have HAL := Lib.hid (fun w h => alive_any w h)
  have HTB := Lib.hid hT
  simp only [qa] at HGH
  simp only [qc] at HRH
  have qmn : ¬ (100 < m.length) := by omega
  have qmi : ¬ ((100 : Int) < (m.length : Int)) := by omega
  have qmd : decide ((100 : Int) < (m.length : Int)) = false := decide_eq_false qmi
  have qme : decide (100 < m.length) = false := decide_eq_false qmn
  clear xh _oh _hvm _hmb hT qa qc
  unfold aggH at *
  generalize hcs : cellsH h v = cs at HGH HRH ⊢
  have hl9 : cs.length = 9 := by rw [← hcs]; rfl
  have HC2 := Lib.hid ((Chg.refl none_ W).alloc (.cells cs.toArray 25))
  have HX : Hid (∀ w', Chg none_ (W.alloc (.cells cs.toArray 25)) w' → Row w' W.heap.size 25 cs) := fun w' hc => (Row.new W _ cs).chg hc (fun h => h)
  clear hcs
  go_enter Tryd.func5, Tryd.ntmps5
  go_wp2_with (first | ((with_reducible show wpList _ _ _ (⟨_, .load 25 (.tmp 2), _, _, _, _⟩ :: _) _ _); refine wlH rfl rfl rfl (HX.out _ (by assumption)) hl9 ?_) | (go_at_call 10; refine (HAL.out _ (HTB.out.chg HC2.out (fun h => h))).mono ?_; rintro e w3 ⟨rfl, c3⟩) | (go_at_call 11; refine (HGH.out _).mono ?_; rintro e w4 ⟨rfl, hc4⟩; have c4 := c3.trans hc4) | (go_at_call 12; refine (HRH.out _).mono ?_; rintro e w6 ⟨rfl, hc6⟩; have c6 := c4.trans hc6))
  go_ret
  exact ⟨rfl, HC2.out.trans c6⟩

set_option maxRecDepth 100000 in
set_option maxHeartbeats 2000000 in
theorem back_true (h : Hd) (v : Four) (A : Option Addr) (c : Nat) (m : List Nat) (W : World) (xh : HdIn W h v) (oh : h.Ok) (hvm : View W (fun _ => True) A m.length (u8s m)) (hmb : ∀ x ∈ m, x < 256) (hT : Tab W) (qa : greatH h = false) (qm : m.length ≤ 100) (qc : rightH h = true) (ql : h.long = true) :
    Calls Tryd.prog 5 #[aggH h v, .slice A m.length c] W fun e w' => e = .returned (.bool true) ∧ Chg none_ W w' := by
  have HGH := Lib.hid (fun w => great_any h v w xh.shape)
  have HRH := Lib.hid (fun w => right_sh h v w xh.shape)
  have HAL := Lib.hid (fun w h => alive_any w h)
  have HTB := Lib.hid hT
  simp only [qa] at HGH
  simp only [qc] at HRH
  have FH := rightF qc
  have HDH := Lib.hid (FH.hd xh)
  have HV1 : Hid (h.version < 4294967296) := oh.v1
  have HPE : Hid (putH h = bytesH h) := by show _ = _; unfold putH; rw [qc]; rfl
  obtain ⟨ρ, hρ⟩ : ∃ ρ : Nat, h.rest = (ρ : Int) := ⟨h.rest.toNat, by have := FH.r0; omega⟩
  have hρ1 : ρ ≤ 1200 := by have := FH.r1; omega
  have hXlt : ∀ x ∈ ((putH h ++ List.replicate ρ 0) ++ m), x < 256 := fun x hx => by
    rcases List.mem_append.1 hx with q | q
    · rcases List.mem_append.1 q with q | q
      · exact putH_lt h oh x q
      · exact rep_lt ρ x q
    · exact hmb x q
  have hXl : ((putH h ++ List.replicate ρ 0) ++ m).length ≤ 1000000 := by have := putH_len h; rw [List.length_append, List.length_append, List.length_replicate]; omega
  have e1 : parseM ((putH h ++ List.replicate ρ 0) ++ m) = (h, ((putH h).length : Int), 0) := by
    have e := back_long qc oh ql (List.replicate ρ 0 ++ m) (by rw [hρ, List.length_append, List.length_replicate]; omega)
    rwa [← HPE.out, ← List.append_assoc] at e
  have e2 : peekM ((putH h ++ List.replicate ρ 0) ++ m) = (h.dst, h.long, true) := by
    have e := peek_back qc oh (List.replicate ρ 0 ++ m)
    rwa [← HPE.out, ← List.append_assoc] at e
  have HPA : Hid (∀ w' (T : Nat → Prop) (D : Option Addr) (k : Nat), View w' T D ((putH h ++ List.replicate ρ 0) ++ m).length (u8s ((putH h ++ List.replicate ρ 0) ++ m)) → Calls Tryd.prog 19 #[.slice D ((putH h ++ List.replicate ρ 0) ++ m).length k] w' (ParsePost w' h ((putH h).length : Int) 0)) := fun w' T D k hv => by
    have p := parse_any w' T D k ((putH h ++ List.replicate ρ 0) ++ m) hv hXl hXlt
    rwa [e1] at p
  have HPK : Hid (∀ w' (T : Nat → Prop) (D : Option Addr) (k : Nat), View w' T D ((putH h ++ List.replicate ρ 0) ++ m).length (u8s ((putH h ++ List.replicate ρ 0) ++ m)) → Calls Tryd.prog 21 #[.slice D ((putH h ++ List.replicate ρ 0) ++ m).length k] w' (PeekPost w' h.dst h.long true)) := fun w' T D k hv => by
    have p := peek_any w' T D k ((putH h ++ List.replicate ρ 0) ++ m) hv hXl hXlt
    rwa [e2] at p
  have HPL := Lib.hid (putH_len h)
  have HM := Lib.hid hvm
  have HOK := Lib.hid oh
  have HDL : Hid (h.dst.length ≤ 1000000) := by have := FH.d; show _ ≤ _; omega
  obtain ⟨i0, hi, hz0, hz1, hz2⟩ := info_parts info5
  obtain ⟨D4, d4, e4⟩ := xh.shape.d
  have h0 := cH_0 h v
  have h4 := cH_4 h v
  have h8 := cH_8 h v
  rw [ql] at h0
  rw [e4] at h4
  rw [hρ] at h8
  have HSD : Hid (View W (fun _ => True) D4 h.dst.length (u8s h.dst)) := by
    obtain ⟨A', c', q1, _, q3⟩ := xh.d
    rw [e4] at q1
    injection q1 with q1
    subst q1
    exact q3
  have qmn : ¬ (100 < m.length) := by omega
  have qmi : ¬ ((100 : Int) < (m.length : Int)) := by omega
  have qmd : decide ((100 : Int) < (m.length : Int)) = false := decide_eq_false qmi
  have qme : decide (100 < m.length) = false := decide_eq_false qmn
  clear e1 e2 hXl hXlt xh oh hvm hmb hT qa qc FH hρ
  have HQL := Lib.hid ql
  clear ql
  unfold aggH at *
  generalize hcs : cellsH h v = cs at HGH HRH h0 h4 h8 ⊢
  have hl9 : cs.length = 9 := by rw [← hcs]; rfl
  have HC2 := Lib.hid ((Chg.refl none_ W).alloc (.cells cs.toArray 25))
  have HX : Hid (∀ w', Chg none_ (W.alloc (.cells cs.toArray 25)) w' → Row w' W.heap.size 25 cs) := fun w' hc => (Row.new W _ cs).chg hc (fun h => h)
  have HL9 := Lib.hid hl9
  have HAGG : Hid (.agg cs.toArray = aggH h v) := by show _ = _; unfold aggH; rw [hcs]
  have HPUT : Hid (∀ w', Chg none_ W w' → Calls Tryd.prog 15 #[.agg cs.toArray] w' (GotBytes w' (putH h))) := fun w' hc => by
    have p := put_hd h v w' _ (HDH.out.chg hc (fun _ _ h => h)) HV1.out (HTB.out.chg hc (fun h => h))
    rwa [← HAGG.out] at p
  clear hcs
  generalize hB : putH h = B at *
  clear hB
  go_enter Tryd.func5, Tryd.ntmps5
  go_wp2_with (first | ((with_reducible show wpList _ _ _ (⟨_, .load 25 (.tmp 2), _, _, _, _⟩ :: _) _ _); refine wlH rfl rfl rfl (HX.out _ (by assumption)) hl9 ?_) | (go_at_call 10; refine (HAL.out _ (HTB.out.chg HC2.out (fun h => h))).mono ?_; rintro e w3 ⟨rfl, c3⟩) | (go_at_call 11; refine (HGH.out _).mono ?_; rintro e w4 ⟨rfl, hc4⟩; have c4 := c3.trans hc4) | (go_at_call 12; refine (HRH.out _).mono ?_; rintro e w6 ⟨rfl, hc6⟩; have c6 := c4.trans hc6))
  refine (HPUT.out _ (HC2.out.trans c6)).mono ?_
  rintro e w7 ⟨A7, k7, rfl, f7, hc7⟩
  have c7 := c6.trans hc7
  have HX7 : Hid (∀ w', Chg none_ w7 w' → Row w' W.heap.size 25 cs) := fun w' hc => HX.out w' (c7.trans hc)
  have HC7 := Lib.hid (HC2.out.trans c7)
  have HF7 := Lib.hid f7
  clear HX c7 c6 c4 c3 hc6 hc4 hc7 f7 HPUT
  go_wp2_with fail
  have hch0 : Chg none_ w7 w7.drew := (Chg.refl _ _).drew
  refine wp_region_held_drew (S := fun w' => Chg none_ w7 w') (by kernel_rfl) hch0 (fun _ => ?_)
  refine wpAnyH_take (i := 1) (v := .slice A7 B.length k7) rfl (by kernel_rfl) (by kernel_rfl) (by kernel_rfl) (by first | exact fun _ _ _ h => h | exact fun _ _ _ h => nomatch h.1) (Or.inl ⟨by rfl, fun w' hw' => by go_simp⟩) hch0 ?_
  refine wpAnyH_take (i := 3) (v := .pointer (some ⟨W.heap.size, 8, none⟩)) rfl (by kernel_rfl) (by kernel_rfl) (by kernel_rfl) (by first | exact fun _ _ _ h => h | exact fun _ _ _ h => nomatch h.1) (Or.inl ⟨by rfl, fun w' hw' => by go_simp⟩) hch0 ?_
  refine wpAnyH_take (i := 4) (v := .int .i64 (ρ : Nat)) rfl (by kernel_rfl) (by kernel_rfl) (by kernel_rfl) (by first | exact fun _ _ _ h => h | exact fun _ _ _ h => nomatch h.1) (Or.inl ⟨by rfl, fun w' hw' => by have hh := ((HX7.out w' hw').cell 8).trans h8; go_simp⟩) hch0 ?_
  refine wpAnyH_ready (rs := [0]) (by kernel_rfl) (by simp) ?_
  refine AllReadyH.cons rfl (fun K hK => ?_) AllReadyH.nil
  rw [if_pos (by rfl)]
  try simp only [List.getElem_toArray, List.getElem_cons_succ, List.getElem_cons_zero]
  go_simp
  have hchA : Chg none_ w7 (w7.drew.alloc (.cells #[] 5)) := hch0.alloc _
  refine hK.out _ _ hchA (fun _ => ?_)
  clear hK K
  try simp only [Act.put, List.setIfInBounds_toArray, List.set_cons_zero, List.set_cons_succ, List.getElem_toArray, List.getElem_cons_succ, List.getElem_cons_zero]
  refine wpAnyH_ready (rs := [2]) (by kernel_rfl) (by simp) ?_
  refine AllReadyH.cons rfl (fun K hK => ?_) AllReadyH.nil
  rw [if_pos (by rfl)]
  try simp only [List.getElem_toArray, List.getElem_cons_succ, List.getElem_cons_zero]
  refine wp_append_view _ _ 23 rfl 5 i0 _ 1 Tryd.underlying23 hi hz0 hz1 hz2 rfl w7.heap.size _ 0 [] rfl (World.ownsRow_lit w7.drew #[] 0 (Nat.le_refl _) (Nat.zero_le _) rfl) _ A7 B.length k7 (u8s B) rfl (HF7.out.view.chg hchA (fun _ _ h => h)) (u8s_one _) (by have := HPL.out; unfold maxLen; omega) (by have := HPL.out; omega) hchA.size ?_
  intro v8 w8 hown8 hgrow8 hob8
  have hchB : Chg none_ w7 w8 := hchA.append (Nat.le_refl _) (World.ownsRow_lit w7.drew #[] 0 (Nat.le_refl _) (Nat.zero_le _) rfl) hgrow8
  rw [Nat.zero_add, List.nil_append] at hown8
  obtain ⟨A8, k8, rfl, _, _, _⟩ := View.own (T := fun _ => True) hown8 (fun _ _ => trivial)
  refine hK.out _ _ hchB (fun _ => ?_)
  clear hK K
  try simp only [Act.put, List.setIfInBounds_toArray, List.set_cons_zero, List.set_cons_succ]
  refine wpAnyH_ready (rs := [5]) (by kernel_rfl) (by simp) ?_
  refine AllReadyH.cons rfl (fun K hK => ?_) AllReadyH.nil
  rw [if_pos (by rfl)]
  try simp only [List.getElem_toArray, List.getElem_cons_succ, List.getElem_cons_zero]
  obtain ⟨A9, k9, w9, hr9, own9, v9, g9⟩ := zeros_on w8 w7.heap.size 23 A8 k8 B hown8 ρ (by have := HPL.out; omega) hchB.size
  refine Lib.wp_append_run (P := Tryd.prog) w8 _ _ 23 3 rfl _ _ rfl rfl _ w9 hr9 ?_
  have hch2 : Chg none_ w7 w9 := hchB.append (Nat.le_refl _) hown8 g9
  refine hK.out _ _ hch2 (fun _ => ?_)
  clear hK K
  try simp only [Act.put, List.setIfInBounds_toArray, List.set_cons_zero, List.set_cons_succ]
  refine wpAnyH_ready (rs := [6]) (by kernel_rfl) (by simp) ?_
  refine AllReadyH.cons rfl (fun K hK => ?_) AllReadyH.nil
  rw [if_pos (by rfl)]
  try simp only [List.getElem_toArray, List.getElem_cons_succ, List.getElem_cons_zero]
  go_simp
  refine hK.out _ _ hch2 (fun _ => ?_)
  clear hK K
  try simp only [Act.put, List.setIfInBounds_toArray, List.set_cons_zero, List.set_cons_succ, List.getElem_toArray, List.getElem_cons_succ, List.getElem_cons_zero]
  refine wpAnyH_done (by kernel_rfl) ?_ _
  have HOW9 := Lib.hid own9
  have HV9 := Lib.hid v9
  have HC9 := Lib.hid hch2
  clear own9 v9 hch2 hchB hchA hch0 hr9 g9 hgrow8 hob8 hown8
  have hk0 := ((HX7.out w9 HC9.out).cell 0).trans h0
  have hsz9 := HC9.out.size
  go_wp2_with (at_builtin; refine wpList_append_view rfl _ _ 23 rfl 5 i0 _ 1 Tryd.underlying23 hi hz0 hz1 hz2 rfl w7.heap.size (.slice A9 (B.length + ρ) k9) (B.length + ρ) (u8s (B ++ List.replicate ρ 0)) rfl HOW9.out (fun _ => True) A m.length c (u8s m) rfl (HM.out.chg (HC7.out.trans HC9.out) (fun _ _ h => h)) (u8s_one _) (by have := HPL.out; unfold maxLen; omega) (by have := HPL.out; omega) hsz9 ?_; intro v10 w10 hown10 hgrow10 hob10)
  have HC10 := Lib.hid (HC9.out.append (Nat.le_refl _) HOW9.out hgrow10)
  obtain ⟨A10, k10, rfl, _, _, v10⟩ := View.own (T := fun _ => True) hown10 (fun _ _ => trivial)
  rw [u8s_append] at v10
  have HV10 := Lib.hid v10
  clear v10 hown10 hgrow10 hob10
  have p10 := HPA.out w10 (fun _ => True) A10 k10 (by rw [List.length_append, List.length_append, List.length_replicate]; exact HV10.out)
  rw [List.length_append, List.length_append, List.length_replicate] at p10
  refine p10.mono ?_
  clear p10 hk0
  rintro e w11 ⟨⟨dv, sv, tv, cv⟩, rfl, d11, hc11⟩
  have HD11 := Lib.hid d11
  obtain ⟨⟨A11d, k11d, rfl, _, _⟩, ⟨A11s, k11s, rfl, _, _⟩, ⟨A11t, k11t, rfl, _, _⟩, ⟨A11c, k11c, rfl, _, _⟩⟩ := d11
  simp only [aggH, cellsH]
  go_wp2_with fail
  have r12 := Row.new w11 25 (cellsH h ⟨.slice A11d h.dst.length k11d, .slice A11s h.src.length k11s, .slice A11t h.token.length k11t, .slice A11c h.cut.length k11c⟩)
  have c12 : Chg none_ w11 (w11.alloc (.cells (cellsH h ⟨.slice A11d h.dst.length k11d, .slice A11s h.src.length k11s, .slice A11t h.token.length k11t, .slice A11c h.cut.length k11c⟩).toArray 25)) := (Chg.refl _ _).alloc _
  have p12 := HPK.out (w11.alloc (.cells (cellsH h ⟨.slice A11d h.dst.length k11d, .slice A11s h.src.length k11s, .slice A11t h.token.length k11t, .slice A11c h.cut.length k11c⟩).toArray 25)) (fun _ => True) A10 k10 (by rw [List.length_append, List.length_append, List.length_replicate]; exact HV10.out.chg (hc11.trans c12) (fun _ _ h => h))
  rw [List.length_append, List.length_append, List.length_replicate, HQL.out] at p12
  refine p12.mono ?_
  clear p12
  rintro e w13 ⟨A13, k13, rfl, v13, _, hc13⟩
  have HC713 := Lib.hid (HC10.out.trans ((hc11.trans c12).trans hc13))
  have rb13 := HX7.out w13 HC713.out
  have rg13 := r12.chg hc13 (fun h => h)
  have HSH := Lib.hid (sameH_any h h v _ w13 _ _ (HDH.out.chg (HC7.out.trans HC713.out) (fun _ _ h => h)) (HD11.out.chg (c12.trans hc13) (fun _ _ h => h)) HOK.out HOK.out)
  rw [decide_eq_true rfl, ← HAGG.out] at HSH
  have HSM : Hid (∀ w', Chg none_ w13 w' → Calls Tryd.prog 14 #[.slice A13 h.dst.length k13, .slice D4 h.dst.length d4] w' fun e w'' => e = .returned (.bool true) ∧ ∃ k, w'' = w'.drewN k) := fun w' hc => by
    have p := same_any w' _ _ A13 D4 k13 d4 h.dst h.dst (v13.chg hc (fun _ _ h => h)) (HSD.out.chg ((HC7.out.trans HC713.out).trans hc) (fun _ _ h => h)) HDL.out
    rwa [decide_eq_true rfl] at p
  clear hc11 c12 r12 hc13 v13
  go_wp2_with (first | ((with_reducible show wpList _ _ _ (⟨_, .load 25 (.tmp 2), _, _, _, _⟩ :: _) _ _); refine wlH rfl rfl rfl rb13 hl9 ?_) | ((with_reducible show wpList _ _ _ (⟨_, .load 25 (.tmp 7), _, _, _, _⟩ :: _) _ _); refine wlH rfl rfl rfl rg13 rfl ?_) | (go_at_call 17; refine HSH.out.mono ?_; rintro e w14 ⟨rfl, hc14⟩; have hkb0 := ((rb13.chg hc14 (fun h => h)).cell 0).trans h0; have hkb4 := ((rb13.chg hc14 (fun h => h)).cell 4).trans h4) | (go_at_call 14; refine (HSM.out _ hc14).mono ?_; rintro e w15 ⟨rfl, nk, rfl⟩))
  go_ret
  exact ⟨rfl, ((HC7.out.trans HC713.out).trans hc14).drewN nk⟩

set_option maxRecDepth 100000 in
set_option maxHeartbeats 2000000 in
theorem back_false (h : Hd) (v : Four) (A : Option Addr) (c : Nat) (m : List Nat) (W : World) (xh : HdIn W h v) (oh : h.Ok) (_hvm : View W (fun _ => True) A m.length (u8s m)) (_hmb : ∀ x ∈ m, x < 256) (hT : Tab W) (qa : greatH h = false) (qm : m.length ≤ 100) (qc : rightH h = true) (ql : h.long = false) :
    Calls Tryd.prog 5 #[aggH h v, .slice A m.length c] W fun e w' => e = .returned (.bool true) ∧ Chg none_ W w' := by
  have HGH := Lib.hid (fun w => great_any h v w xh.shape)
  have HRH := Lib.hid (fun w => right_sh h v w xh.shape)
  have HAL := Lib.hid (fun w h => alive_any w h)
  have HTB := Lib.hid hT
  simp only [qa] at HGH
  simp only [qc] at HRH
  have FH := rightF qc
  have HDH := Lib.hid (FH.hd xh)
  have HV1 : Hid (h.version < 4294967296) := oh.v1
  have HPE : Hid (putH h = bytesH h) := by show _ = _; unfold putH; rw [qc]; rfl
  obtain ⟨ρ, hρ⟩ : ∃ ρ : Nat, h.rest = (ρ : Int) := ⟨h.rest.toNat, by have := FH.r0; omega⟩
  have hρ1 : ρ ≤ 1200 := by have := FH.r1; omega
  have hXlt : ∀ x ∈ (putH h ++ List.replicate ρ 0), x < 256 := fun x hx => by
    rcases List.mem_append.1 hx with q | q
    · exact putH_lt h oh x q
    · exact rep_lt ρ x q
  have hXl : (putH h ++ List.replicate ρ 0).length ≤ 1000000 := by have := putH_len h; rw [List.length_append, List.length_replicate]; omega
  have e1 : parseM (putH h ++ List.replicate ρ 0) = (h, ((putH h).length : Int), 0) := by
    have e := back_short qc ql (List.replicate ρ 0) (by rw [hρ, List.length_replicate])
    rwa [← HPE.out] at e
  have e2 : peekM (putH h ++ List.replicate ρ 0) = (h.dst, h.long, true) := by
    have e := peek_back qc oh (List.replicate ρ 0)
    rwa [← HPE.out] at e
  have HPA : Hid (∀ w' (T : Nat → Prop) (D : Option Addr) (k : Nat), View w' T D (putH h ++ List.replicate ρ 0).length (u8s (putH h ++ List.replicate ρ 0)) → Calls Tryd.prog 19 #[.slice D (putH h ++ List.replicate ρ 0).length k] w' (ParsePost w' h ((putH h).length : Int) 0)) := fun w' T D k hv => by
    have p := parse_any w' T D k (putH h ++ List.replicate ρ 0) hv hXl hXlt
    rwa [e1] at p
  have HPK : Hid (∀ w' (T : Nat → Prop) (D : Option Addr) (k : Nat), View w' T D (putH h ++ List.replicate ρ 0).length (u8s (putH h ++ List.replicate ρ 0)) → Calls Tryd.prog 21 #[.slice D (putH h ++ List.replicate ρ 0).length k] w' (PeekPost w' h.dst h.long true)) := fun w' T D k hv => by
    have p := peek_any w' T D k (putH h ++ List.replicate ρ 0) hv hXl hXlt
    rwa [e2] at p
  have HPL := Lib.hid (putH_len h)
  have HOK := Lib.hid oh
  have HDL : Hid (h.dst.length ≤ 1000000) := by have := FH.d; show _ ≤ _; omega
  obtain ⟨i0, hi, hz0, hz1, hz2⟩ := info_parts info5
  obtain ⟨D4, d4, e4⟩ := xh.shape.d
  have h0 := cH_0 h v
  have h4 := cH_4 h v
  have h8 := cH_8 h v
  rw [ql] at h0
  rw [e4] at h4
  rw [hρ] at h8
  have HSD : Hid (View W (fun _ => True) D4 h.dst.length (u8s h.dst)) := by
    obtain ⟨A', c', q1, _, q3⟩ := xh.d
    rw [e4] at q1
    injection q1 with q1
    subst q1
    exact q3
  have qmn : ¬ (100 < m.length) := by omega
  have qmi : ¬ ((100 : Int) < (m.length : Int)) := by omega
  have qmd : decide ((100 : Int) < (m.length : Int)) = false := decide_eq_false qmi
  have qme : decide (100 < m.length) = false := decide_eq_false qmn
  clear e1 e2 hXl hXlt xh oh _hvm _hmb hT qa qc FH hρ
  have HQL := Lib.hid ql
  clear ql
  unfold aggH at *
  generalize hcs : cellsH h v = cs at HGH HRH h0 h4 h8 ⊢
  have hl9 : cs.length = 9 := by rw [← hcs]; rfl
  have HC2 := Lib.hid ((Chg.refl none_ W).alloc (.cells cs.toArray 25))
  have HX : Hid (∀ w', Chg none_ (W.alloc (.cells cs.toArray 25)) w' → Row w' W.heap.size 25 cs) := fun w' hc => (Row.new W _ cs).chg hc (fun h => h)
  have HL9 := Lib.hid hl9
  have HAGG : Hid (.agg cs.toArray = aggH h v) := by show _ = _; unfold aggH; rw [hcs]
  have HPUT : Hid (∀ w', Chg none_ W w' → Calls Tryd.prog 15 #[.agg cs.toArray] w' (GotBytes w' (putH h))) := fun w' hc => by
    have p := put_hd h v w' _ (HDH.out.chg hc (fun _ _ h => h)) HV1.out (HTB.out.chg hc (fun h => h))
    rwa [← HAGG.out] at p
  clear hcs
  generalize hB : putH h = B at *
  clear hB
  go_enter Tryd.func5, Tryd.ntmps5
  go_wp2_with (first | ((with_reducible show wpList _ _ _ (⟨_, .load 25 (.tmp 2), _, _, _, _⟩ :: _) _ _); refine wlH rfl rfl rfl (HX.out _ (by assumption)) hl9 ?_) | (go_at_call 10; refine (HAL.out _ (HTB.out.chg HC2.out (fun h => h))).mono ?_; rintro e w3 ⟨rfl, c3⟩) | (go_at_call 11; refine (HGH.out _).mono ?_; rintro e w4 ⟨rfl, hc4⟩; have c4 := c3.trans hc4) | (go_at_call 12; refine (HRH.out _).mono ?_; rintro e w6 ⟨rfl, hc6⟩; have c6 := c4.trans hc6))
  refine (HPUT.out _ (HC2.out.trans c6)).mono ?_
  rintro e w7 ⟨A7, k7, rfl, f7, hc7⟩
  have c7 := c6.trans hc7
  have HX7 : Hid (∀ w', Chg none_ w7 w' → Row w' W.heap.size 25 cs) := fun w' hc => HX.out w' (c7.trans hc)
  have HC7 := Lib.hid (HC2.out.trans c7)
  have HF7 := Lib.hid f7
  clear HX c7 c6 c4 c3 hc6 hc4 hc7 f7 HPUT
  go_wp2_with fail
  have hch0 : Chg none_ w7 w7.drew := (Chg.refl _ _).drew
  refine wp_region_held_drew (S := fun w' => Chg none_ w7 w') (by kernel_rfl) hch0 (fun _ => ?_)
  refine wpAnyH_take (i := 1) (v := .slice A7 B.length k7) rfl (by kernel_rfl) (by kernel_rfl) (by kernel_rfl) (by first | exact fun _ _ _ h => h | exact fun _ _ _ h => nomatch h.1) (Or.inl ⟨by rfl, fun w' hw' => by go_simp⟩) hch0 ?_
  refine wpAnyH_take (i := 3) (v := .pointer (some ⟨W.heap.size, 8, none⟩)) rfl (by kernel_rfl) (by kernel_rfl) (by kernel_rfl) (by first | exact fun _ _ _ h => h | exact fun _ _ _ h => nomatch h.1) (Or.inl ⟨by rfl, fun w' hw' => by go_simp⟩) hch0 ?_
  refine wpAnyH_take (i := 4) (v := .int .i64 (ρ : Nat)) rfl (by kernel_rfl) (by kernel_rfl) (by kernel_rfl) (by first | exact fun _ _ _ h => h | exact fun _ _ _ h => nomatch h.1) (Or.inl ⟨by rfl, fun w' hw' => by have hh := ((HX7.out w' hw').cell 8).trans h8; go_simp⟩) hch0 ?_
  refine wpAnyH_ready (rs := [0]) (by kernel_rfl) (by simp) ?_
  refine AllReadyH.cons rfl (fun K hK => ?_) AllReadyH.nil
  rw [if_pos (by rfl)]
  try simp only [List.getElem_toArray, List.getElem_cons_succ, List.getElem_cons_zero]
  go_simp
  have hchA : Chg none_ w7 (w7.drew.alloc (.cells #[] 5)) := hch0.alloc _
  refine hK.out _ _ hchA (fun _ => ?_)
  clear hK K
  try simp only [Act.put, List.setIfInBounds_toArray, List.set_cons_zero, List.set_cons_succ, List.getElem_toArray, List.getElem_cons_succ, List.getElem_cons_zero]
  refine wpAnyH_ready (rs := [2]) (by kernel_rfl) (by simp) ?_
  refine AllReadyH.cons rfl (fun K hK => ?_) AllReadyH.nil
  rw [if_pos (by rfl)]
  try simp only [List.getElem_toArray, List.getElem_cons_succ, List.getElem_cons_zero]
  refine wp_append_view _ _ 23 rfl 5 i0 _ 1 Tryd.underlying23 hi hz0 hz1 hz2 rfl w7.heap.size _ 0 [] rfl (World.ownsRow_lit w7.drew #[] 0 (Nat.le_refl _) (Nat.zero_le _) rfl) _ A7 B.length k7 (u8s B) rfl (HF7.out.view.chg hchA (fun _ _ h => h)) (u8s_one _) (by have := HPL.out; unfold maxLen; omega) (by have := HPL.out; omega) hchA.size ?_
  intro v8 w8 hown8 hgrow8 hob8
  have hchB : Chg none_ w7 w8 := hchA.append (Nat.le_refl _) (World.ownsRow_lit w7.drew #[] 0 (Nat.le_refl _) (Nat.zero_le _) rfl) hgrow8
  rw [Nat.zero_add, List.nil_append] at hown8
  obtain ⟨A8, k8, rfl, _, _, _⟩ := View.own (T := fun _ => True) hown8 (fun _ _ => trivial)
  refine hK.out _ _ hchB (fun _ => ?_)
  clear hK K
  try simp only [Act.put, List.setIfInBounds_toArray, List.set_cons_zero, List.set_cons_succ]
  refine wpAnyH_ready (rs := [5]) (by kernel_rfl) (by simp) ?_
  refine AllReadyH.cons rfl (fun K hK => ?_) AllReadyH.nil
  rw [if_pos (by rfl)]
  try simp only [List.getElem_toArray, List.getElem_cons_succ, List.getElem_cons_zero]
  obtain ⟨A9, k9, w9, hr9, own9, v9, g9⟩ := zeros_on w8 w7.heap.size 23 A8 k8 B hown8 ρ (by have := HPL.out; omega) hchB.size
  refine Lib.wp_append_run (P := Tryd.prog) w8 _ _ 23 3 rfl _ _ rfl rfl _ w9 hr9 ?_
  have hch2 : Chg none_ w7 w9 := hchB.append (Nat.le_refl _) hown8 g9
  refine hK.out _ _ hch2 (fun _ => ?_)
  clear hK K
  try simp only [Act.put, List.setIfInBounds_toArray, List.set_cons_zero, List.set_cons_succ]
  refine wpAnyH_ready (rs := [6]) (by kernel_rfl) (by simp) ?_
  refine AllReadyH.cons rfl (fun K hK => ?_) AllReadyH.nil
  rw [if_pos (by rfl)]
  try simp only [List.getElem_toArray, List.getElem_cons_succ, List.getElem_cons_zero]
  go_simp
  refine hK.out _ _ hch2 (fun _ => ?_)
  clear hK K
  try simp only [Act.put, List.setIfInBounds_toArray, List.set_cons_zero, List.set_cons_succ, List.getElem_toArray, List.getElem_cons_succ, List.getElem_cons_zero]
  refine wpAnyH_done (by kernel_rfl) ?_ _
  have HOW9 := Lib.hid own9
  have HV9 := Lib.hid v9
  have HC9 := Lib.hid hch2
  clear own9 v9 hch2 hchB hchA hch0 hr9 g9 hgrow8 hob8 hown8
  have hk0 := ((HX7.out w9 HC9.out).cell 0).trans h0
  go_wp2_with fail
  have HV10 := HV9
  have HC10 := HC9
  have p10 := HPA.out w9 _ A9 k9 (by rw [List.length_append, List.length_replicate]; exact HV10.out)
  rw [List.length_append, List.length_replicate] at p10
  refine p10.mono ?_
  clear p10 hk0
  rintro e w11 ⟨⟨dv, sv, tv, cv⟩, rfl, d11, hc11⟩
  have HD11 := Lib.hid d11
  obtain ⟨⟨A11d, k11d, rfl, _, _⟩, ⟨A11s, k11s, rfl, _, _⟩, ⟨A11t, k11t, rfl, _, _⟩, ⟨A11c, k11c, rfl, _, _⟩⟩ := d11
  simp only [aggH, cellsH]
  go_wp2_with fail
  have r12 := Row.new w11 25 (cellsH h ⟨.slice A11d h.dst.length k11d, .slice A11s h.src.length k11s, .slice A11t h.token.length k11t, .slice A11c h.cut.length k11c⟩)
  have c12 : Chg none_ w11 (w11.alloc (.cells (cellsH h ⟨.slice A11d h.dst.length k11d, .slice A11s h.src.length k11s, .slice A11t h.token.length k11t, .slice A11c h.cut.length k11c⟩).toArray 25)) := (Chg.refl _ _).alloc _
  have p12 := HPK.out (w11.alloc (.cells (cellsH h ⟨.slice A11d h.dst.length k11d, .slice A11s h.src.length k11s, .slice A11t h.token.length k11t, .slice A11c h.cut.length k11c⟩).toArray 25)) _ A9 k9 (by rw [List.length_append, List.length_replicate]; exact HV10.out.chg (hc11.trans c12) (fun _ _ h => h))
  rw [List.length_append, List.length_replicate, HQL.out] at p12
  refine p12.mono ?_
  clear p12
  rintro e w13 ⟨A13, k13, rfl, v13, _, hc13⟩
  have HC713 := Lib.hid (HC10.out.trans ((hc11.trans c12).trans hc13))
  have rb13 := HX7.out w13 HC713.out
  have rg13 := r12.chg hc13 (fun h => h)
  have HSH := Lib.hid (sameH_any h h v _ w13 _ _ (HDH.out.chg (HC7.out.trans HC713.out) (fun _ _ h => h)) (HD11.out.chg (c12.trans hc13) (fun _ _ h => h)) HOK.out HOK.out)
  rw [decide_eq_true rfl, ← HAGG.out] at HSH
  have HSM : Hid (∀ w', Chg none_ w13 w' → Calls Tryd.prog 14 #[.slice A13 h.dst.length k13, .slice D4 h.dst.length d4] w' fun e w'' => e = .returned (.bool true) ∧ ∃ k, w'' = w'.drewN k) := fun w' hc => by
    have p := same_any w' _ _ A13 D4 k13 d4 h.dst h.dst (v13.chg hc (fun _ _ h => h)) (HSD.out.chg ((HC7.out.trans HC713.out).trans hc) (fun _ _ h => h)) HDL.out
    rwa [decide_eq_true rfl] at p
  clear hc11 c12 r12 hc13 v13
  go_wp2_with (first | ((with_reducible show wpList _ _ _ (⟨_, .load 25 (.tmp 2), _, _, _, _⟩ :: _) _ _); refine wlH rfl rfl rfl rb13 hl9 ?_) | ((with_reducible show wpList _ _ _ (⟨_, .load 25 (.tmp 7), _, _, _, _⟩ :: _) _ _); refine wlH rfl rfl rfl rg13 rfl ?_) | (go_at_call 17; refine HSH.out.mono ?_; rintro e w14 ⟨rfl, hc14⟩; have hkb0 := ((rb13.chg hc14 (fun h => h)).cell 0).trans h0; have hkb4 := ((rb13.chg hc14 (fun h => h)).cell 4).trans h4) | (go_at_call 14; refine (HSM.out _ hc14).mono ?_; rintro e w15 ⟨rfl, nk, rfl⟩))
  go_ret
  exact ⟨rfl, ((HC7.out.trans HC713.out).trans hc14).drewN nk⟩

theorem walk_HeaderBack (h : Hd) (v : Four) (a : Option Addr) (len c : Nat) (zs : List Int) (W : World) (xh : HdIn W h v) (oh : h.Ok) (hz : IsRow .u8 W a len c zs) (hT : Tab W) :
    Calls Tryd.prog 5 #[aggH h v, .slice a len c] W fun e w' => e = .returned (.bool true) ∧ Chg none_ W w' := by
  obtain ⟨m, rfl, _, _, hmb, hvm⟩ := hz.u8
  cases qa : greatH h with
  | true => exact back_gh h v a c m W xh oh hvm hmb hT qa
  | false =>
    by_cases qm : 100 < m.length
    · exact back_mo h v a c m W xh oh hvm hmb hT qa qm
    · cases qc : rightH h with
      | false => exact back_rh h v a c m W xh oh hvm hmb hT qa (by omega) qc
      | true =>
        cases ql : h.long with
        | false => exact back_false h v a c m W xh oh hvm hmb hT qa (by omega) qc ql
        | true => exact back_true h v a c m W xh oh hvm hmb hT qa (by omega) qc ql
end Go.Proofs.YtnjojgknoecjiaaDoor
