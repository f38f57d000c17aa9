/- Layer 4 (header): the law HeaderRest. -/
import Derived.Test.YtfecmloaopbogaaDoorV4Peeks
import Derived.Test.YtfecmloaopbogaaDoorZerosOn
namespace Go.Proofs.YtfecmloaopbogaaDoor
open Go.RowKit

theorem u8s_zeros (l : List Nat) (k : Nat) : u8s l ++ List.replicate k (Value.int .u8 0) = u8s (l ++ List.replicate k 0) := by simp [u8s]
theorem rep_lt (k : Nat) : ∀ x ∈ List.replicate k 0, x < 256 := fun x hx => by rw [List.eq_of_mem_replicate hx]; decide
theorem underInt : Tryd.prog.underlying 3 = some (.int .i64) := Tryd.underlying3

/-- Zeros are put behind bytes of one's own. -/
theorem zeros_on (w : World) (base : Nat) (ty : TypeId) (A : Option Addr) (k : Nat) (l : List Nat) (hown : w.ownsRow base 5 1 (.slice A l.length k) l.length (u8s l)) (n : Nat) (hn : l.length + n ≤ 1000000) (hbase : base ≤ w.heap.size) :
    ∃ A' k' w', (Builtin.append_ #[23, 3] ty #[.slice A l.length k, .int .i64 n]).run Tryd.prog w = .ok (.slice A' (l.length + n) k') w' ∧ w'.ownsRow base 5 1 (.slice A' (l.length + n) k') (l.length + n) (u8s (l ++ List.replicate n 0)) ∧
      View w' (fun b => base ≤ b) A' (l.length + n) (u8s (l ++ List.replicate n 0)) ∧ w.grownBy w' (Value.slice A l.length k).ownBlock := by
  obtain ⟨i0, hi, hz0, hz1, hz2⟩ := info_parts info5
  obtain ⟨v', w', hr, h2, h3⟩ := run_append_zeros (P := Tryd.prog) w base 23 3 ty 5 i0 (.int .u8 0) .i64 .i64 Tryd.underlying23 underInt hi hz0 hz1 hz2 rfl rfl _ _ _ hown n hn hbase
  rw [u8s_zeros] at h2
  obtain ⟨A', k', rfl, _, _, hv⟩ := View.own (T := fun b => base ≤ b) h2 (fun _ h => h)
  exact ⟨A', k', w', hr, h2, hv, h3⟩

set_option maxRecDepth 100000 in
set_option maxHeartbeats 2000000 in
theorem rest_gh (h : Hd) (v : Four) (A : Option Addr) (c : Nat) (m : List Nat) (W : World) (xh : HdIn W h v) (_oh : h.Ok) (_hvm : View W (fun _ => True) A m.length (u8s m)) (_hmb : ∀ x ∈ m, x < 256) (hT : Tab W) (qa : greatH h = true) :
    Calls Tryd.prog 9 #[aggH h v, .slice A m.length c] W fun e w' => e = .returned (.bool true) ∧ Chg none_ W w' := by
  have HGH := Lib.hid (fun w => great_any h v w xh.shape)
  have HRH := Lib.hid (fun w => right_sh h v w xh.shape)
  have HAL := Lib.hid (fun w h => alive_any w h)
  have HTB := Lib.hid hT
  simp only [qa] at HGH
  clear xh _oh _hvm _hmb hT qa
  unfold aggH at *
  generalize hcs : cellsH h v = cs at HGH HRH ⊢
  have hl9 : cs.length = 9 := by rw [← hcs]; rfl
  have HC2 := Lib.hid ((Chg.refl none_ W).alloc (.cells cs.toArray 25))
  have HX : Hid (∀ w', Chg none_ (W.alloc (.cells cs.toArray 25)) w' → Row w' W.heap.size 25 cs) := fun w' hc => (Row.new W _ cs).chg hc (fun h => h)
  clear hcs
  go_enter Tryd.func9, Tryd.ntmps9
  go_wp2_with (first | ((with_reducible show wpList _ _ _ (⟨_, .load 25 (.tmp 2), _, _, _, _⟩ :: _) _ _); refine wlH rfl rfl rfl (HX.out _ (by assumption)) hl9 ?_) | (go_at_call 10; refine (HAL.out _ (HTB.out.chg HC2.out (fun h => h))).mono ?_; rintro e w3 ⟨rfl, c3⟩) | (go_at_call 11; refine (HGH.out _).mono ?_; rintro e w4 ⟨rfl, hc4⟩; have c4 := c3.trans hc4) | (go_at_call 12; refine (HRH.out _).mono ?_; rintro e w6 ⟨rfl, hc6⟩; have c6 := c4.trans hc6))
  go_ret
  exact ⟨rfl, HC2.out.trans c4⟩

set_option maxRecDepth 100000 in
set_option maxHeartbeats 2000000 in
theorem rest_mo (h : Hd) (v : Four) (A : Option Addr) (c : Nat) (m : List Nat) (W : World) (xh : HdIn W h v) (_oh : h.Ok) (_hvm : View W (fun _ => True) A m.length (u8s m)) (_hmb : ∀ x ∈ m, x < 256) (hT : Tab W) (qa : greatH h = false) (qm : 100 < m.length) :
    Calls Tryd.prog 9 #[aggH h v, .slice A m.length c] W fun e w' => e = .returned (.bool true) ∧ Chg none_ W w' := by
  have HGH := Lib.hid (fun w => great_any h v w xh.shape)
  have HRH := Lib.hid (fun w => right_sh h v w xh.shape)
  have HAL := Lib.hid (fun w h => alive_any w h)
  have HTB := Lib.hid hT
  simp only [qa] at HGH
  clear xh _oh _hvm _hmb hT qa
  unfold aggH at *
  generalize hcs : cellsH h v = cs at HGH HRH ⊢
  have hl9 : cs.length = 9 := by rw [← hcs]; rfl
  have HC2 := Lib.hid ((Chg.refl none_ W).alloc (.cells cs.toArray 25))
  have HX : Hid (∀ w', Chg none_ (W.alloc (.cells cs.toArray 25)) w' → Row w' W.heap.size 25 cs) := fun w' hc => (Row.new W _ cs).chg hc (fun h => h)
  clear hcs
  go_enter Tryd.func9, Tryd.ntmps9
  go_wp2_with (first | ((with_reducible show wpList _ _ _ (⟨_, .load 25 (.tmp 2), _, _, _, _⟩ :: _) _ _); refine wlH rfl rfl rfl (HX.out _ (by assumption)) hl9 ?_) | (go_at_call 10; refine (HAL.out _ (HTB.out.chg HC2.out (fun h => h))).mono ?_; rintro e w3 ⟨rfl, c3⟩) | (go_at_call 11; refine (HGH.out _).mono ?_; rintro e w4 ⟨rfl, hc4⟩; have c4 := c3.trans hc4) | (go_at_call 12; refine (HRH.out _).mono ?_; rintro e w6 ⟨rfl, hc6⟩; have c6 := c4.trans hc6))
  go_ret
  exact ⟨rfl, HC2.out.trans c4⟩

set_option maxRecDepth 100000 in
set_option maxHeartbeats 2000000 in
theorem rest_rh (h : Hd) (v : Four) (A : Option Addr) (c : Nat) (m : List Nat) (W : World) (xh : HdIn W h v) (_oh : h.Ok) (_hvm : View W (fun _ => True) A m.length (u8s m)) (_hmb : ∀ x ∈ m, x < 256) (hT : Tab W) (qa : greatH h = false) (qm : m.length ≤ 100) (qc : rightH h = false) :
    Calls Tryd.prog 9 #[aggH h v, .slice A m.length c] W fun e w' => e = .returned (.bool true) ∧ Chg none_ W w' := by
  have HGH := Lib.hid (fun w => great_any h v w xh.shape)
  have HRH := Lib.hid (fun w => right_sh h v w xh.shape)
  have HAL := Lib.hid (fun w h => alive_any w h)
  have HTB := Lib.hid hT
  simp only [qa] at HGH
  simp only [qc] at HRH
  have qmn : ¬ (100 < m.length) := by omega
  have qmi : ¬ ((100 : Int) < (m.length : Int)) := by omega
  have qmd : decide ((100 : Int) < (m.length : Int)) = false := decide_eq_false qmi
  have qme : decide (100 < m.length) = false := decide_eq_false qmn
  clear xh _oh _hvm _hmb hT qa qc
  unfold aggH at *
  generalize hcs : cellsH h v = cs at HGH HRH ⊢
  have hl9 : cs.length = 9 := by rw [← hcs]; rfl
  have HC2 := Lib.hid ((Chg.refl none_ W).alloc (.cells cs.toArray 25))
  have HX : Hid (∀ w', Chg none_ (W.alloc (.cells cs.toArray 25)) w' → Row w' W.heap.size 25 cs) := fun w' hc => (Row.new W _ cs).chg hc (fun h => h)
  clear hcs
  go_enter Tryd.func9, Tryd.ntmps9
  go_wp2_with (first | ((with_reducible show wpList _ _ _ (⟨_, .load 25 (.tmp 2), _, _, _, _⟩ :: _) _ _); refine wlH rfl rfl rfl (HX.out _ (by assumption)) hl9 ?_) | (go_at_call 10; refine (HAL.out _ (HTB.out.chg HC2.out (fun h => h))).mono ?_; rintro e w3 ⟨rfl, c3⟩) | (go_at_call 11; refine (HGH.out _).mono ?_; rintro e w4 ⟨rfl, hc4⟩; have c4 := c3.trans hc4) | (go_at_call 12; refine (HRH.out _).mono ?_; rintro e w6 ⟨rfl, hc6⟩; have c6 := c4.trans hc6))
  go_ret
  exact ⟨rfl, HC2.out.trans c6⟩

set_option maxRecDepth 100000 in
set_option maxHeartbeats 2000000 in
theorem rest_sh (h : Hd) (v : Four) (A : Option Addr) (c : Nat) (m : List Nat) (W : World) (xh : HdIn W h v) (_oh : h.Ok) (_hvm : View W (fun _ => True) A m.length (u8s m)) (_hmb : ∀ x ∈ m, x < 256) (hT : Tab W) (qa : greatH h = false) (qm : m.length ≤ 100) (qc : rightH h = true) (ql : h.long = false) :
    Calls Tryd.prog 9 #[aggH h v, .slice A m.length c] W fun e w' => e = .returned (.bool true) ∧ Chg none_ W w' := by
  have HGH := Lib.hid (fun w => great_any h v w xh.shape)
  have HRH := Lib.hid (fun w => right_sh h v w xh.shape)
  have HAL := Lib.hid (fun w h => alive_any w h)
  have HTB := Lib.hid hT
  simp only [qa] at HGH
  simp only [qc] at HRH
  have h0 := cH_0 h v
  rw [ql] at h0
  have qmn : ¬ (100 < m.length) := by omega
  have qmi : ¬ ((100 : Int) < (m.length : Int)) := by omega
  have qmd : decide ((100 : Int) < (m.length : Int)) = false := decide_eq_false qmi
  have qme : decide (100 < m.length) = false := decide_eq_false qmn
  clear xh _oh _hvm _hmb hT qa qc ql
  unfold aggH at *
  generalize hcs : cellsH h v = cs at HGH HRH h0 ⊢
  have hl9 : cs.length = 9 := by rw [← hcs]; rfl
  have HC2 := Lib.hid ((Chg.refl none_ W).alloc (.cells cs.toArray 25))
  have HX : Hid (∀ w', Chg none_ (W.alloc (.cells cs.toArray 25)) w' → Row w' W.heap.size 25 cs) := fun w' hc => (Row.new W _ cs).chg hc (fun h => h)
  clear hcs
  go_enter Tryd.func9, Tryd.ntmps9
  go_wp2_with (first | ((with_reducible show wpList _ _ _ (⟨_, .load 25 (.tmp 2), _, _, _, _⟩ :: _) _ _); refine wlH rfl rfl rfl (HX.out _ (by assumption)) hl9 ?_) | (go_at_call 10; refine (HAL.out _ (HTB.out.chg HC2.out (fun h => h))).mono ?_; rintro e w3 ⟨rfl, c3⟩) | (go_at_call 11; refine (HGH.out _).mono ?_; rintro e w4 ⟨rfl, hc4⟩; have c4 := c3.trans hc4) | (go_at_call 12; refine (HRH.out _).mono ?_; rintro e w6 ⟨rfl, hc6⟩; have c6 := c4.trans hc6; have kh0 := ((HX.out _ c6).cell 0).trans h0))
  go_ret
  exact ⟨rfl, HC2.out.trans c6⟩

set_option maxRecDepth 100000 in
set_option maxHeartbeats 2000000 in
theorem rest_ok (h : Hd) (v : Four) (A : Option Addr) (c : Nat) (m : List Nat) (W : World) (xh : HdIn W h v) (oh : h.Ok) (hvm : View W (fun _ => True) A m.length (u8s m)) (hmb : ∀ x ∈ m, x < 256) (hT : Tab W) (qa : greatH h = false) (qm : m.length ≤ 100) (qc : rightH h = true) (ql : h.long = true) :
    Calls Tryd.prog 9 #[aggH h v, .slice A m.length c] W fun e w' => e = .returned (.bool true) ∧ Chg none_ W w' := by
  have HGH := Lib.hid (fun w => great_any h v w xh.shape)
  have HRH := Lib.hid (fun w => right_sh h v w xh.shape)
  have HAL := Lib.hid (fun w h => alive_any w h)
  have HTB := Lib.hid hT
  simp only [qa] at HGH
  simp only [qc] at HRH
  have FH := rightF qc
  have HDH := Lib.hid (FH.hd xh)
  have HV1 : Hid (h.version < 4294967296) := oh.v1
  have HPE : Hid (putH h = bytesH h) := by show _ = _; unfold putH; rw [qc]; rfl
  obtain ⟨ρ, hρ⟩ : ∃ ρ : Nat, h.rest = (ρ : Int) := ⟨h.rest.toNat, by have := FH.r0; omega⟩
  have hρ1 : ρ ≤ 1200 := by have := FH.r1; omega
  have HPA : Hid (∀ w' (T : Nat → Prop) (B : Option Addr) (k : Nat) (more : List Nat), View w' T B ((putH h ++ List.replicate ρ 0) ++ more).length (u8s ((putH h ++ List.replicate ρ 0) ++ more)) → more.length ≤ 100 → (∀ x ∈ more, x < 256) → Calls Tryd.prog 19 #[.slice B ((putH h ++ List.replicate ρ 0) ++ more).length k] w' (ParsePost w' h ((putH h).length : Int) 0)) := fun w' T B k more hv hm hb => by
    have e := back_long qc oh ql (List.replicate ρ 0 ++ more) (by rw [hρ, List.length_append, List.length_replicate]; omega)
    rw [← HPE.out, ← List.append_assoc] at e
    have p := parse_any w' T B k ((putH h ++ List.replicate ρ 0) ++ more) hv (by have := putH_len h; rw [List.length_append, List.length_append, List.length_replicate]; omega) (fun x hx => by
      rcases List.mem_append.1 hx with q | q
      · rcases List.mem_append.1 q with q | q
        · exact putH_lt h oh x q
        · exact rep_lt ρ x q
      · exact hb x q)
    rw [e] at p
    exact p
  have HPL := Lib.hid (putH_len h)
  have HM := Lib.hid hvm
  have HMB := Lib.hid hmb
  have HOK := Lib.hid oh
  obtain ⟨i0, hi, hz0, hz1, hz2⟩ := info_parts info5
  have h0 := cH_0 h v
  have h8 := cH_8 h v
  rw [ql] at h0
  rw [hρ] at h8
  have HRS : Hid (h.rest = (ρ : Int)) := hρ
  have qmn : ¬ (100 < m.length) := by omega
  have qmi : ¬ ((100 : Int) < (m.length : Int)) := by omega
  have qmd : decide ((100 : Int) < (m.length : Int)) = false := decide_eq_false qmi
  have qme : decide (100 < m.length) = false := decide_eq_false qmn
  clear xh oh hvm hmb hT qa qc FH ql hρ
  unfold aggH at *
  generalize hcs : cellsH h v = cs at HGH HRH h0 h8 ⊢
  have hl9 : cs.length = 9 := by rw [← hcs]; rfl
  have HC2 := Lib.hid ((Chg.refl none_ W).alloc (.cells cs.toArray 25))
  have HX : Hid (∀ w', Chg none_ (W.alloc (.cells cs.toArray 25)) w' → Row w' W.heap.size 25 cs) := fun w' hc => (Row.new W _ cs).chg hc (fun h => h)
  have HL9 := Lib.hid hl9
  have HPUT : Hid (∀ w', Chg none_ W w' → Calls Tryd.prog 15 #[.agg cs.toArray] w' (GotBytes w' (putH h))) := fun w' hc => by
    have p := put_hd h v w' _ (HDH.out.chg hc (fun _ _ h => h)) HV1.out (HTB.out.chg hc (fun h => h))
    unfold aggH at p
    rwa [hcs] at p
  clear hcs
  generalize hB : putH h = B at *
  clear hB
  go_enter Tryd.func9, Tryd.ntmps9
  go_wp2_with (first | ((with_reducible show wpList _ _ _ (⟨_, .load 25 (.tmp 2), _, _, _, _⟩ :: _) _ _); refine wlH rfl rfl rfl (HX.out _ (by assumption)) hl9 ?_) | (go_at_call 10; refine (HAL.out _ (HTB.out.chg HC2.out (fun h => h))).mono ?_; rintro e w3 ⟨rfl, c3⟩) | (go_at_call 11; refine (HGH.out _).mono ?_; rintro e w4 ⟨rfl, hc4⟩; have c4 := c3.trans hc4) | (go_at_call 12; refine (HRH.out _).mono ?_; rintro e w6 ⟨rfl, hc6⟩; have c6 := c4.trans hc6; have kh0 := ((HX.out _ c6).cell 0).trans h0))
  have hch0 : Chg none_ w6 w6.drew := (Chg.refl _ _).drew
  have HX6 : Hid (∀ w', Chg none_ w6 w' → Row w' W.heap.size 25 cs) := fun w' hc => HX.out w' (c6.trans hc)
  have HC6 := Lib.hid (HC2.out.trans c6)
  clear HX c6 c4 c3 kh0 hc6 hc4
  refine wp_region_held_drew (S := fun w' => Chg none_ w6 w') (by kernel_rfl) hch0 (fun _ => ?_)
  refine wpAnyH_take (i := 0) (v := .agg cs.toArray) rfl (by kernel_rfl) (by kernel_rfl) (by kernel_rfl) (by first | exact fun _ _ _ h => h | exact fun _ _ _ h => nomatch h.1) (yieldsIf_load_mid (by rfl) 25 _ rfl W.heap.size 0 rfl cs _ (fun w' hw' => (HX6.out w' hw').range) Tryd.underlying25 rfl (by rw [HL9.out]; exact sizeH)) hch0 ?_
  refine wpAnyH_take (i := 2) (v := .pointer (some ⟨W.heap.size, 8, none⟩)) rfl (by kernel_rfl) (by kernel_rfl) (by kernel_rfl) (by first | exact fun _ _ _ h => h | exact fun _ _ _ h => nomatch h.1) (Or.inl ⟨by rfl, fun w' hw' => by go_simp⟩) hch0 ?_
  refine wpAnyH_take (i := 3) (v := .int .i64 (ρ : Nat)) rfl (by kernel_rfl) (by kernel_rfl) (by kernel_rfl) (by first | exact fun _ _ _ h => h | exact fun _ _ _ h => nomatch h.1) (Or.inl ⟨by rfl, fun w' hw' => by have hh := ((HX6.out w' hw').cell 8).trans h8; go_simp⟩) hch0 ?_
  refine wpAnyH_ready (rs := [1]) (by kernel_rfl) (by simp) ?_
  refine AllReadyH.cons rfl (fun K hK => ?_) AllReadyH.nil
  rw [if_pos (by rfl)]
  try simp only [List.getElem_toArray, List.getElem_cons_succ, List.getElem_cons_zero]
  go_simp
  refine (HPUT.out _ (HC6.out.trans hch0)).mono ?_
  rintro e w7 ⟨A7, k7, rfl, f7, hc7⟩
  have hch1 : Chg none_ w6 w7 := hch0.trans hc7
  refine hK.out _ _ hch1 (fun _ => ?_)
  clear hK K
  try simp only [Act.put, List.setIfInBounds_toArray, List.set_cons_zero, List.set_cons_succ, List.getElem_toArray, List.getElem_cons_succ, List.getElem_cons_zero]
  refine wpAnyH_ready (rs := [4]) (by kernel_rfl) (by simp) ?_
  refine AllReadyH.cons rfl (fun K hK => ?_) AllReadyH.nil
  rw [if_pos (by rfl)]
  try simp only [List.getElem_toArray, List.getElem_cons_succ, List.getElem_cons_zero]
  obtain ⟨A8, k8, w8, hr8, own8, v8, g8⟩ := zeros_on w7 w6.heap.size 23 A7 k7 B f7.own ρ (by have := HPL.out; omega) hch1.size
  refine Lib.wp_append_run (P := Tryd.prog) w7 _ _ 23 3 rfl _ _ rfl rfl _ w8 hr8 ?_
  have hch2 : Chg none_ w6 w8 := hch1.append (Nat.le_refl _) f7.own g8
  refine hK.out _ _ hch2 (fun _ => ?_)
  clear hK K
  try simp only [Act.put, List.setIfInBounds_toArray, List.set_cons_zero, List.set_cons_succ]
  refine wpAnyH_ready (rs := [5]) (by kernel_rfl) (by simp) ?_
  refine AllReadyH.cons rfl (fun K hK => ?_) AllReadyH.nil
  rw [if_pos (by rfl)]
  try simp only [List.getElem_toArray, List.getElem_cons_succ, List.getElem_cons_zero]
  go_simp
  refine hK.out _ _ hch2 (fun _ => ?_)
  clear hK K
  try simp only [Act.put, List.setIfInBounds_toArray, List.set_cons_zero, List.set_cons_succ, List.getElem_toArray, List.getElem_cons_succ, List.getElem_cons_zero]
  refine wpAnyH_done (by kernel_rfl) ?_ _
  have HOW8 := Lib.hid own8
  have HV8 := Lib.hid v8
  have HC8 := Lib.hid hch2
  have HX8 : Hid (∀ w', Chg none_ w8 w' → Row w' W.heap.size 25 cs) := fun w' hc => HX6.out w' (HC8.out.trans hc)
  clear own8 v8 hch2 hch1 hch0 hr8 g8 f7 hc7 HPUT
  go_wp2_with fail
  have p8 := HPA.out w8 _ A8 k8 [] (by rw [List.append_nil, List.length_append, List.length_replicate]; exact HV8.out) (by simp) (by simp)
  rw [List.append_nil, List.length_append, List.length_replicate] at p8
  refine p8.mono ?_
  clear p8
  rintro e w9 ⟨⟨dv, sv, tv, cv⟩, rfl, d9, hc9⟩
  have HD9 := Lib.hid d9
  obtain ⟨⟨A9d, k9d, rfl, _, _⟩, ⟨A9s, k9s, rfl, _, _⟩, ⟨A9t, k9t, rfl, _, _⟩, ⟨A9c, k9c, rfl, _, _⟩⟩ := d9
  simp only [aggH, cellsH]
  have r10 := Row.new w9 25 (cellsH h ⟨.slice A9d h.dst.length k9d, .slice A9s h.src.length k9s, .slice A9t h.token.length k9t, .slice A9c h.cut.length k9c⟩)
  have c10 : Chg none_ w9 (w9.alloc (.cells (cellsH h ⟨.slice A9d h.dst.length k9d, .slice A9s h.src.length k9s, .slice A9t h.token.length k9t, .slice A9c h.cut.length k9c⟩).toArray 25)) := (Chg.refl _ _).alloc _
  have own10 := own_chg HOW8.out (hc9.trans c10) (fun _ _ h => h)
  have vm10 := HM.out.chg (HC6.out.trans (HC8.out.trans (hc9.trans c10))) (fun _ _ h => h)
  have hs10 := (HC8.out.trans (hc9.trans c10)).size
  have HD10 := Lib.hid (HD9.out.chg c10 (fun _ _ h => h))
  have hXL : B.length + ρ ≤ 2300 := by have := HPL.out; omega
  go_wp2_with (at_builtin; refine wpList_append_view rfl _ _ 23 rfl 5 i0 _ 1 Tryd.underlying23 hi hz0 hz1 hz2 rfl w6.heap.size (.slice A8 (B.length + ρ) k8) (B.length + ρ) (u8s (B ++ List.replicate ρ 0)) rfl own10 (fun _ => True) A m.length c (u8s m) rfl vm10 (u8s_one _) (by unfold maxLen; omega) (by omega) hs10 ?_; intro v11 w11 hown11 hgrow11 hob11)
  have hlt8 : ∀ b, (Value.slice A8 (B.length + ρ) k8).ownBlock = some b → b < w8.heap.size := fun b hb => (HOW8.out.lt b hb).2
  have cg11 := Chg.of_grown hgrow11
  have hs89 := hc9.size
  have r11 := r10.chg cg11 (fun e => by have := hlt8 _ e; omega)
  have HD11 := Lib.hid (HD10.out.chg cg11 (fun b hb e => by have := hlt8 b e; omega))
  have c11 : Chg none_ w6 w11 := (HC8.out.trans (hc9.trans c10)).append (Nat.le_refl _) own10 hgrow11
  have rb11 := HX6.out w11 c11
  obtain ⟨A11, k11, rfl, _, _, v11⟩ := View.own (T := fun _ => True) hown11 (fun _ _ => trivial)
  have p11 := HPA.out w11 (fun _ => True) A11 k11 m (by rw [u8s_append] at v11; rw [List.length_append, List.length_append, List.length_replicate]; exact v11) qm HMB.out
  rw [List.length_append, List.length_append, List.length_replicate] at p11
  refine p11.mono ?_
  clear p11 hown11 hgrow11 hob11 hlt8 own10 vm10 hs10 cg11 v11 r10 HD10
  rintro e w12 ⟨⟨dv, sv, tv, cv⟩, rfl, d12, hc12⟩
  have HD12 := Lib.hid d12
  obtain ⟨⟨A12d, k12d, rfl, _, _⟩, ⟨A12s, k12s, rfl, _, _⟩, ⟨A12t, k12t, rfl, _, _⟩, ⟨A12c, k12c, rfl, _, _⟩⟩ := d12
  simp only [aggH, cellsH]
  have r13b := Row.new w12 25 (cellsH h ⟨.slice A12d h.dst.length k12d, .slice A12s h.src.length k12s, .slice A12t h.token.length k12t, .slice A12c h.cut.length k12c⟩)
  have c13 : Chg none_ w12 (w12.alloc (.cells (cellsH h ⟨.slice A12d h.dst.length k12d, .slice A12s h.src.length k12s, .slice A12t h.token.length k12t, .slice A12c h.cut.length k12c⟩).toArray 25)) := (Chg.refl _ _).alloc _
  have r13a := r11.chg (hc12.trans c13) (fun h => h)
  have HSM := Lib.hid (sameH_any h h _ _ _ _ _ (HD11.out.chg (hc12.trans c13) (fun _ _ h => h)) (HD12.out.chg c13 (fun _ _ h => h)) HOK.out HOK.out)
  rw [decide_eq_true rfl] at HSM
  have rb13 := rb11.chg (hc12.trans c13) (fun h => h)
  have HC13 := Lib.hid ((HC6.out.trans c11).trans (hc12.trans c13))
  have hrs : (h.rest == (ρ : Int)) = true := by rw [HRS.out]; simp
  clear hc12 rb11 r11 c11 c10 hc9
  go_wp2_with (first | ((with_reducible show wpList _ _ _ (⟨_, .load 25 (.tmp 6), _, _, _, _⟩ :: _) _ _); refine wlH rfl rfl rfl r13a rfl ?_) | ((with_reducible show wpList _ _ _ (⟨_, .load 25 (.tmp 9), _, _, _, _⟩ :: _) _ _); refine wlH rfl rfl rfl r13b rfl ?_) | (go_at_call 17; refine HSM.out.mono ?_; rintro e w14 ⟨rfl, hc14⟩; have hk6 := (r13a.chg hc14 (fun h => h)).cell 8; rw [cH_8] at hk6; have hkb := ((rb13.chg hc14 (fun h => h)).cell 8).trans h8))
  go_ret
  exact ⟨rfl, HC13.out.trans hc14⟩

theorem walk_HeaderRest (h : Hd) (v : Four) (a : Option Addr) (len c : Nat) (zs : List Int) (W : World) (xh : HdIn W h v) (oh : h.Ok) (hz : IsRow .u8 W a len c zs) (hT : Tab W) :
    Calls Tryd.prog 9 #[aggH h v, .slice a len c] W fun e w' => e = .returned (.bool true) ∧ Chg none_ W w' := by
  obtain ⟨m, rfl, _, _, hmb, hvm⟩ := hz.u8
  cases qa : greatH h with
  | true => exact rest_gh h v a c m W xh oh hvm hmb hT qa
  | false =>
    by_cases qm : 100 < m.length
    · exact rest_mo h v a c m W xh oh hvm hmb hT qa qm
    · cases qc : rightH h with
      | false => exact rest_rh h v a c m W xh oh hvm hmb hT qa (by omega) qc
      | true =>
        cases ql : h.long with
        | false => exact rest_sh h v a c m W xh oh hvm hmb hT qa (by omega) qc ql
        | true => exact rest_ok h v a c m W xh oh hvm hmb hT qa (by omega) qc ql
end Go.Proofs.YtfecmloaopbogaaDoor
