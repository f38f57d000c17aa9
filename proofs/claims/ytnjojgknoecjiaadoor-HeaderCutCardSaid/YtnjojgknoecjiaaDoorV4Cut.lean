/- Layer 4 (header): the law HeaderCut. -/
import Derived.Test.YtnjojgknoecjiaaDoorV4CutMath
namespace Go.Proofs.YtnjojgknoecjiaaDoor
open Go.RowKit

set_option maxRecDepth 100000 in
set_option maxHeartbeats 2000000 in
theorem cut_gh (h : Hd) (v : Four) (n : Nat) (W : World) (xh : HdIn W h v) (_oh : h.Ok) (_hn : n < 65536) (hT : Tab W) (qa : greatH h = true) :
    Calls Tryd.prog 6 #[aggH h v, .int .u16 n] W fun e w' => e = .returned (.bool true) ∧ Chg none_ W w' := by
  have HGH := Lib.hid (fun w => great_any h v w xh.shape)
  have HRH := Lib.hid (fun w => right_sh h v w xh.shape)
  have HAL := Lib.hid (fun w h => alive_any w h)
  have HTB := Lib.hid hT
  simp only [qa] at HGH
  clear xh _oh hT qa
  unfold aggH at *
  generalize hcs : cellsH h v = cs at HGH HRH ⊢
  have hl9 : cs.length = 9 := by rw [← hcs]; rfl
  have HC2 := Lib.hid ((Chg.refl none_ W).alloc (.cells cs.toArray 25))
  have HX : Hid (∀ w', Chg none_ (W.alloc (.cells cs.toArray 25)) w' → Row w' W.heap.size 25 cs) := fun w' hc => (Row.new W _ cs).chg hc (fun h => h)
  clear hcs
  go_enter Tryd.func6, Tryd.ntmps6
  go_wp2_with (first | ((with_reducible show wpList _ _ _ (⟨_, .load 25 (.tmp 2), _, _, _, _⟩ :: _) _ _); refine wlH rfl rfl rfl (HX.out _ (by assumption)) hl9 ?_) | (go_at_call 10; refine (HAL.out _ (HTB.out.chg HC2.out (fun h => h))).mono ?_; rintro e w3 ⟨rfl, c3⟩) | (go_at_call 11; refine (HGH.out _).mono ?_; rintro e w4 ⟨rfl, hc4⟩; have c4 := c3.trans hc4) | (go_at_call 12; refine (HRH.out _).mono ?_; rintro e w6 ⟨rfl, hc6⟩; have c6 := c4.trans hc6))
  go_ret
  exact ⟨rfl, HC2.out.trans c4⟩

set_option maxRecDepth 100000 in
set_option maxHeartbeats 2000000 in
theorem cut_rh (h : Hd) (v : Four) (n : Nat) (W : World) (xh : HdIn W h v) (_oh : h.Ok) (_hn : n < 65536) (hT : Tab W) (qa : greatH h = false) (qc : rightH h = false) :
    Calls Tryd.prog 6 #[aggH h v, .int .u16 n] W fun e w' => e = .returned (.bool true) ∧ Chg none_ W w' := by
  have HGH := Lib.hid (fun w => great_any h v w xh.shape)
  have HRH := Lib.hid (fun w => right_sh h v w xh.shape)
  have HAL := Lib.hid (fun w h => alive_any w h)
  have HTB := Lib.hid hT
  simp only [qa] at HGH
  simp only [qc] at HRH
  clear xh _oh hT qa qc
  unfold aggH at *
  generalize hcs : cellsH h v = cs at HGH HRH ⊢
  have hl9 : cs.length = 9 := by rw [← hcs]; rfl
  have HC2 := Lib.hid ((Chg.refl none_ W).alloc (.cells cs.toArray 25))
  have HX : Hid (∀ w', Chg none_ (W.alloc (.cells cs.toArray 25)) w' → Row w' W.heap.size 25 cs) := fun w' hc => (Row.new W _ cs).chg hc (fun h => h)
  clear hcs
  go_enter Tryd.func6, Tryd.ntmps6
  go_wp2_with (first | ((with_reducible show wpList _ _ _ (⟨_, .load 25 (.tmp 2), _, _, _, _⟩ :: _) _ _); refine wlH rfl rfl rfl (HX.out _ (by assumption)) hl9 ?_) | (go_at_call 10; refine (HAL.out _ (HTB.out.chg HC2.out (fun h => h))).mono ?_; rintro e w3 ⟨rfl, c3⟩) | (go_at_call 11; refine (HGH.out _).mono ?_; rintro e w4 ⟨rfl, hc4⟩; have c4 := c3.trans hc4) | (go_at_call 12; refine (HRH.out _).mono ?_; rintro e w6 ⟨rfl, hc6⟩; have c6 := c4.trans hc6))
  go_ret
  exact ⟨rfl, HC2.out.trans c6⟩

set_option maxRecDepth 100000 in
set_option maxHeartbeats 2000000 in
theorem cut_true (h : Hd) (v : Four) (n : Nat) (W : World) (xh : HdIn W h v) (oh : h.Ok) (hn : n < 65536) (hT : Tab W) (qa : greatH h = false) (qc : rightH h = true) (ql : h.long = true) :
    Calls Tryd.prog 6 #[aggH h v, .int .u16 n] W fun e w' => e = .returned (.bool true) ∧ Chg none_ W w' := by
  have HGH := Lib.hid (fun w => great_any h v w xh.shape)
  have HRH := Lib.hid (fun w => right_sh h v w xh.shape)
  have HAL := Lib.hid (fun w h => alive_any w h)
  have HTB := Lib.hid hT
  simp only [qa] at HGH
  simp only [qc] at HRH
  have FH := rightF qc
  have HDH := Lib.hid (FH.hd xh)
  have HV1 : Hid (h.version < 4294967296) := oh.v1
  have HPE : Hid (putH h = bytesH h) := by show _ = _; unfold putH; rw [qc]; rfl
  obtain ⟨ρ, hρ⟩ : ∃ ρ : Nat, h.rest = (ρ : Int) := ⟨h.rest.toNat, by have := FH.r0; omega⟩
  have hρ1 : ρ ≤ 1200 := by have := FH.r1; omega
  have hXlt : ∀ x ∈ (putH h ++ List.replicate ρ 0), x < 256 := fun x hx => by
    rcases List.mem_append.1 hx with q | q
    · exact putH_lt h oh x q
    · exact rep_lt ρ x q
  have hbl : ∃ r, bytesH h = firstM h :: r := by
    unfold bytesH aheadH
    (repeat' split) <;> exact ⟨_, rfl⟩
  obtain ⟨hbr, hbl⟩ := hbl
  have hB1 : 1 ≤ (putH h).length := by
    rw [HPE.out]
    rw [hbl]
    simp
  have e1 : ∀ k, k < (putH h).length + ρ → parseM ((putH h ++ List.replicate ρ 0).take k) = ({}, 0, 2) := fun k hk => by
    have e := cut_long qc oh ql k (by rw [← HPE.out, hρ]; simpa using hk)
    rw [← HPE.out, hρ] at e
    simpa using e
  have hXl : (putH h ++ List.replicate ρ 0).length = (putH h).length + ρ := by simp
  have hPL := putH_len h
  have HPA : Hid (∀ w' (T : Nat → Prop) (D : Option Addr) (c k : Nat), View w' T D (putH h ++ List.replicate ρ 0).length (u8s (putH h ++ List.replicate ρ 0)) → k < ((putH h).length + ρ) → Calls Tryd.prog 19 #[.slice D k c] w' (ParsePost w' {} 0 2)) := fun w' T D c k hv hk => by
    have hlk : ((putH h ++ List.replicate ρ 0).take k).length = k := by rw [List.length_take, hXl]; omega
    have hv2 := hv.take (k := k) (by rw [hXl]; omega)
    rw [u8s_take] at hv2
    have p := parse_any w' T D c ((putH h ++ List.replicate ρ 0).take k) (by rw [hlk]; exact hv2) (by rw [hlk]; omega) (fun x hx => hXlt x (List.mem_of_mem_take hx))
    rw [hlk, e1 k hk] at p
    exact p
  have h0 := cH_0 h v
  have h8 := cH_8 h v
  rw [ql] at h0
  rw [hρ] at h8
  clear e1 hXlt xh oh hT qa qc FH hρ ql HPE
  unfold aggH at *
  generalize hcs : cellsH h v = cs at HGH HRH h0 h8 ⊢
  have hl9 : cs.length = 9 := by rw [← hcs]; rfl
  have HC2 := Lib.hid ((Chg.refl none_ W).alloc (.cells cs.toArray 25))
  have HX : Hid (∀ w', Chg none_ (W.alloc (.cells cs.toArray 25)) w' → Row w' W.heap.size 25 cs) := fun w' hc => (Row.new W _ cs).chg hc (fun h => h)
  have HPUT : Hid (∀ w', Chg none_ W w' → Calls Tryd.prog 15 #[.agg cs.toArray] w' (GotBytes w' (putH h))) := fun w' hc => by
    have p := put_hd h v w' _ (HDH.out.chg hc (fun _ _ h => h)) HV1.out (HTB.out.chg hc (fun h => h))
    unfold aggH at p
    rwa [hcs] at p
  clear hcs
  generalize hB : putH h = B at *
  clear hB
  go_enter Tryd.func6, Tryd.ntmps6
  go_wp2_with (first | ((with_reducible show wpList _ _ _ (⟨_, .load 25 (.tmp 2), _, _, _, _⟩ :: _) _ _); refine wlH rfl rfl rfl (HX.out _ (by assumption)) hl9 ?_) | (go_at_call 10; refine (HAL.out _ (HTB.out.chg HC2.out (fun h => h))).mono ?_; rintro e w3 ⟨rfl, c3⟩) | (go_at_call 11; refine (HGH.out _).mono ?_; rintro e w4 ⟨rfl, hc4⟩; have c4 := c3.trans hc4) | (go_at_call 12; refine (HRH.out _).mono ?_; rintro e w6 ⟨rfl, hc6⟩; have c6 := c4.trans hc6))
  refine (HPUT.out _ (HC2.out.trans c6)).mono ?_
  rintro e w7 ⟨A7, k7, rfl, f7, hc7⟩
  have c7 := c6.trans hc7
  have hk0 := ((HX.out _ c7).cell 0).trans h0
  have hk8 := ((HX.out _ c7).cell 8).trans h8
  have HC7 := Lib.hid (HC2.out.trans c7)
  have hs67 := hc7.size
  obtain ⟨A8, k8, w8, hr8, own8, v8, g8⟩ := zeros_on w7 w6.heap.size 23 A7 k7 B f7.own ρ (by omega) hs67
  have HC8 := Lib.hid (HC7.out.append (by have := (HC2.out.trans c6).size; omega) f7.own g8)
  have HV8 := Lib.hid v8
  have hcap : B.length + ρ ≤ k8 := by
    obtain ⟨A', c', q, q2, _⟩ := View.own (T := fun _ => True) own8 (fun _ _ => trivial)
    injection q with _ _ q
    omega
  clear v8 own8 g8
  have hL0 : 0 < (B.length + ρ) := by omega
  obtain ⟨q, hqe⟩ : ∃ q, n % (B.length + ρ) = q := ⟨_, rfl⟩
  have hq : q < (B.length + ρ) := by rw [← hqe]; exact Nat.mod_lt _ hL0
  have hqi : ((n : Int) % ((B.length : Int) + (ρ : Int))) = (q : Int) := by rw [← hqe]; simp
  have hqc : q ≤ k8 := by omega
  have hq0 : (0 : Int) ≤ (q : Int) := by omega
  have hqk : (q : Int) ≤ (k8 : Int) := by omega
  have HPQ := Lib.hid (HPA.out w8 _ A8 k8 q (by rw [hXl]; exact HV8.out) hq)
  obtain ⟨b8, o8, hA8, _, _, _⟩ := HV8.out.2 (by omega)
  subst hA8
  clear hqe hq HPA
  go_wp2_with (at_builtin; refine Lib.wpList_append_run (P := Tryd.prog) w7 rfl _ _ 23 3 rfl _ _ rfl rfl _ w8 hr8 ?_)
  refine HPQ.out.mono ?_
  rintro e w9 ⟨⟨dv, sv, tv, cv⟩, rfl, ⟨⟨B1, j1, q1, _, _⟩, ⟨B2, j2, q2, _, _⟩, ⟨B3, j3, q3, _, _⟩, ⟨B4, j4, q4, _, _⟩⟩, hc9⟩
  simp only at q1 q2 q3 q4
  subst q1; subst q2; subst q3; subst q4
  simp only [aggH, cellsH]
  go_wp2_with fail
  go_ret
  exact ⟨rfl, (HC8.out.trans hc9).alloc _⟩

set_option maxRecDepth 100000 in
set_option maxHeartbeats 2000000 in
theorem cut_false (h : Hd) (v : Four) (n : Nat) (W : World) (xh : HdIn W h v) (oh : h.Ok) (hn : n < 65536) (hT : Tab W) (qa : greatH h = false) (qc : rightH h = true) (ql : h.long = false) :
    Calls Tryd.prog 6 #[aggH h v, .int .u16 n] W fun e w' => e = .returned (.bool true) ∧ Chg none_ W w' := by
  have HGH := Lib.hid (fun w => great_any h v w xh.shape)
  have HRH := Lib.hid (fun w => right_sh h v w xh.shape)
  have HAL := Lib.hid (fun w h => alive_any w h)
  have HTB := Lib.hid hT
  simp only [qa] at HGH
  simp only [qc] at HRH
  have FH := rightF qc
  have HDH := Lib.hid (FH.hd xh)
  have HV1 : Hid (h.version < 4294967296) := oh.v1
  have HPE : Hid (putH h = bytesH h) := by show _ = _; unfold putH; rw [qc]; rfl
  obtain ⟨ρ, hρ⟩ : ∃ ρ : Nat, h.rest = (ρ : Int) := ⟨h.rest.toNat, by have := FH.r0; omega⟩
  have hρ1 : ρ ≤ 1200 := by have := FH.r1; omega
  have hXlt : ∀ x ∈ (putH h), x < 256 := fun x hx => by
    exact putH_lt h oh x hx
  have hbl : ∃ r, bytesH h = firstM h :: r := by
    unfold bytesH aheadH
    (repeat' split) <;> exact ⟨_, rfl⟩
  obtain ⟨hbr, hbl⟩ := hbl
  have hB1 : 1 ≤ (putH h).length := by
    rw [HPE.out]
    rw [hbl]
    simp
  have e1 : ∀ k, k < (putH h).length → parseM ((putH h).take k) = ({}, 0, 2) := fun k hk => by
    have e := cut_short qc ql k (by rw [← HPE.out]; exact hk)
    rwa [← HPE.out] at e
  have hXl : (putH h).length = (putH h).length := rfl
  have hPL := putH_len h
  have HPA : Hid (∀ w' (T : Nat → Prop) (D : Option Addr) (c k : Nat), View w' T D (putH h).length (u8s (putH h)) → k < (putH h).length → Calls Tryd.prog 19 #[.slice D k c] w' (ParsePost w' {} 0 2)) := fun w' T D c k hv hk => by
    have hlk : ((putH h).take k).length = k := by rw [List.length_take, hXl]; omega
    have hv2 := hv.take (k := k) (by rw [hXl]; omega)
    rw [u8s_take] at hv2
    have p := parse_any w' T D c ((putH h).take k) (by rw [hlk]; exact hv2) (by rw [hlk]; omega) (fun x hx => hXlt x (List.mem_of_mem_take hx))
    rw [hlk, e1 k hk] at p
    exact p
  have h0 := cH_0 h v
  have h8 := cH_8 h v
  rw [ql] at h0
  rw [hρ] at h8
  clear e1 hXlt xh oh hT qa qc FH hρ ql HPE
  unfold aggH at *
  generalize hcs : cellsH h v = cs at HGH HRH h0 h8 ⊢
  have hl9 : cs.length = 9 := by rw [← hcs]; rfl
  have HC2 := Lib.hid ((Chg.refl none_ W).alloc (.cells cs.toArray 25))
  have HX : Hid (∀ w', Chg none_ (W.alloc (.cells cs.toArray 25)) w' → Row w' W.heap.size 25 cs) := fun w' hc => (Row.new W _ cs).chg hc (fun h => h)
  have HPUT : Hid (∀ w', Chg none_ W w' → Calls Tryd.prog 15 #[.agg cs.toArray] w' (GotBytes w' (putH h))) := fun w' hc => by
    have p := put_hd h v w' _ (HDH.out.chg hc (fun _ _ h => h)) HV1.out (HTB.out.chg hc (fun h => h))
    unfold aggH at p
    rwa [hcs] at p
  clear hcs
  generalize hB : putH h = B at *
  clear hB
  go_enter Tryd.func6, Tryd.ntmps6
  go_wp2_with (first | ((with_reducible show wpList _ _ _ (⟨_, .load 25 (.tmp 2), _, _, _, _⟩ :: _) _ _); refine wlH rfl rfl rfl (HX.out _ (by assumption)) hl9 ?_) | (go_at_call 10; refine (HAL.out _ (HTB.out.chg HC2.out (fun h => h))).mono ?_; rintro e w3 ⟨rfl, c3⟩) | (go_at_call 11; refine (HGH.out _).mono ?_; rintro e w4 ⟨rfl, hc4⟩; have c4 := c3.trans hc4) | (go_at_call 12; refine (HRH.out _).mono ?_; rintro e w6 ⟨rfl, hc6⟩; have c6 := c4.trans hc6))
  refine (HPUT.out _ (HC2.out.trans c6)).mono ?_
  rintro e w7 ⟨A7, k7, rfl, f7, hc7⟩
  have c7 := c6.trans hc7
  have hk0 := ((HX.out _ c7).cell 0).trans h0
  have hk8 := ((HX.out _ c7).cell 8).trans h8
  have HC7 := Lib.hid (HC2.out.trans c7)
  have hs67 := hc7.size
  have HV8 := Lib.hid f7.view
  have hcap : B.length ≤ k7 := by
    obtain ⟨A', c', q, q2, _⟩ := View.own (T := fun _ => True) f7.own (fun _ _ => trivial)
    injection q with _ _ q
    omega
  have hL0 : 0 < B.length := by omega
  obtain ⟨q, hqe⟩ : ∃ q, n % B.length = q := ⟨_, rfl⟩
  have hq : q < B.length := by rw [← hqe]; exact Nat.mod_lt _ hL0
  have hqi : ((n : Int) % ((B.length : Int))) = (q : Int) := by rw [← hqe]; simp
  have hqc : q ≤ k7 := by omega
  have hq0 : (0 : Int) ≤ (q : Int) := by omega
  have hqk : (q : Int) ≤ (k7 : Int) := by omega
  have HPQ := Lib.hid (HPA.out w7 _ A7 k7 q (by exact HV8.out) hq)
  obtain ⟨b8, o8, hA8, _, _, _⟩ := HV8.out.2 (by omega)
  subst hA8
  clear hqe hq HPA
  go_wp2_with fail
  refine HPQ.out.mono ?_
  rintro e w9 ⟨⟨dv, sv, tv, cv⟩, rfl, ⟨⟨B1, j1, q1, _, _⟩, ⟨B2, j2, q2, _, _⟩, ⟨B3, j3, q3, _, _⟩, ⟨B4, j4, q4, _, _⟩⟩, hc9⟩
  simp only at q1 q2 q3 q4
  subst q1; subst q2; subst q3; subst q4
  simp only [aggH, cellsH]
  go_wp2_with fail
  go_ret
  exact ⟨rfl, (HC7.out.trans hc9).alloc _⟩

theorem walk_HeaderCut (h : Hd) (v : Four) (a : Int) (W : World) (xh : HdIn W h v) (oh : h.Ok) (hw : (Lit.int .u16 a).wf = true) (hT : Tab W) :
    Calls Tryd.prog 6 #[aggH h v, .int .u16 a] W fun e w' => e = .returned (.bool true) ∧ Chg none_ W w' := by
  have hw2 : 0 ≤ a ∧ a ≤ 65535 := by
    have h2 : (decide (0 ≤ a) && decide (a ≤ 65535)) = true := hw
    simpa using h2
  obtain ⟨n, rfl⟩ : ∃ n : Nat, a = (n : Int) := ⟨a.toNat, by omega⟩
  have hn : n < 65536 := by omega
  cases qa : greatH h with
  | true => exact cut_gh h v n W xh oh hn hT qa
  | false =>
    cases qc : rightH h with
    | false => exact cut_rh h v n W xh oh hn hT qa qc
    | true =>
      cases ql : h.long with
      | false => exact cut_false h v n W xh oh hn hT qa qc ql
      | true => exact cut_true h v n W xh oh hn hT qa qc ql
end Go.Proofs.YtnjojgknoecjiaaDoor
