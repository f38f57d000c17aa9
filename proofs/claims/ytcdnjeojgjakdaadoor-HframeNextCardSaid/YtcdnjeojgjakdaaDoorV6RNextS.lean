/- Layer 6 (hframe), the document's words: the frame that bytes begin with: settings. -/
import Derived.Test.YtcdnjeojgjakdaaDoorV6RNext
namespace Go.Proofs.YtcdnjeojgjakdaaDoor
open Go.RowKit

section
variable (w : World) (A : Option Addr) (c : Nat) (b : List Nat)

set_option maxRecDepth 100000 in
set_option maxHeartbeats 4000000 in
theorem rnext_sets_ok (hv : View w (fun _ => True) A b.length (u8s b)) (hm : b.length ≤ 1000000) (hcap : b.length ≤ c) (hb : ∀ x ∈ b, x < 256) (tag n : Nat) (s1 s2 : St) (own : List Nat) (s3 : St) (e1 : rdInt (b, 0) = (tag, s1)) (hf : ¬ (tag = 2 ∨ tag = 6 ∨ tag = 8 ∨ tag = 9)) (e2 : rdInt s1 = (n, s2)) (e3 : rdBytes n s2 = (own, s3)) (hz1 : s1.2 = 0) (hz3 : s3.2 = 0) (L : List (Nat × Nat)) (st : St) (e5 : takeS 17 [] (own, 0) = (L, st)) (hk : tag = 4) (hst : st = ([], 0)) (hr : rightH { kind := (tag : Int), sets := L } = true) :
    Calls Tryd.prog 20 #[.slice A b.length c] w (RNextPost ({ kind := tag, sets := L }, b.length - s3.1.length, 0) w) := by
  have E5 := Lib.hid e5
  have HTK := Lib.hid hk
  clear e5 hk
  have E1 := Lib.hid e1
  have E2 := Lib.hid e2
  have E3 := Lib.hid e3
  clear e1 e2 e3
  have HV := Lib.hid hv
  have HB := Lib.hid hb
  clear hv hb
  go_enter Tryd.func20, Tryd.ntmps20
  go_wp2_with fail
  have HM0 := Lib.hid (rmade w A c b HV.out hm hcap HB.out _ rfl)
  refine (rint_st HM0.out.rd (by omega)).mono ?_
  rw [E1.out]
  simp only
  rintro e w2 ⟨rfl, x2, d2⟩
  have HM := Lib.hid (HM0.out.read x2 d2)
  have hbad := HM.out.bad
  rw [hz1] at hbad
  clear x2 d2 HM0 E1 hz1
  have n2 : ((tag : Int) == 2) = false := by rw [beq_eq_false_iff_ne]; omega
  have n6 : ((tag : Int) == 6) = false := by rw [beq_eq_false_iff_ne]; omega
  have n8 : ((tag : Int) == 8) = false := by rw [beq_eq_false_iff_ne]; omega
  have n9 : ((tag : Int) == 9) = false := by rw [beq_eq_false_iff_ne]; omega
  go_wp2_with fail
  refine (rint_st HM.out.rd (by omega)).mono ?_
  rw [E2.out]
  simp only
  rintro e w3 ⟨rfl, x3, d3⟩
  have HM3 := Lib.hid (HM.out.read x3 d3)
  clear x3 d3 HM hbad n2 n6 n8 n9
  go_wp2_with fail
  refine (rbytes_stc n HM3.out.rd (by omega)).mono ?_
  rw [E3.out]
  simp only
  rintro e w4 ⟨A4, k4, rfl, hk4, hv4, x4, d4⟩
  have HM := Lib.hid (HM3.out.read x4 d4)
  have hbad := HM.out.bad
  rw [hz3] at hbad
  obtain ⟨Ar, cr, hrow⟩ := HM.out.rd.place hz3
  have hol : own.length ≤ 1000000 := by
    have q := congrArg (fun x => x.1.length) E3.out
    have h3 := HM3.out.rd.len
    have h4 := rdBytes_le2 n s2 h3
    simp only at q
    omega
  have hob : ∀ x ∈ own, x < 256 := by
    have q := rdBytes_mem n s2 HM3.out.rd.mem
    rw [E3.out] at q
    exact q.1
  have HROW := Lib.hid hrow
  have hlt3 := HM3.out.rd.lt
  have HV4 := Lib.hid (hv4.mono (T' := fun k => w.heap.size + 1 + 1 < k ∧ k < w4.heap.size) (fun k hk q => ⟨Nat.lt_of_lt_of_le hlt3 q, hk⟩))
  have HK4 := Lib.hid hk4
  have HOB := Lib.hid hob
  clear x4 d4 HM3 hv4 hrow hk4 hob E2 E3
  have HX := Lib.hid (fun w' (hc : Chg none_ w4 w') => (⟨(HM.out.box.chg hc (fun h => h)), (HROW.out.chg hc (fun h => h)), (HM.out.res.chg hc (fun h => h))⟩ : _ ∧ _ ∧ _))
  have hlt4 := HM.out.rd.lt
  obtain ⟨iS, hS0, hS1, hS2, hS3⟩ := info_parts infoS
  obtain ⟨w5, hw5⟩ : ∃ u, u = (w4.alloc (.cells [Value.slice A4 own.length k4, .int .i64 0, .int .i64 0].toArray 67)) := ⟨_, rfl⟩
  have hC5 : Chg none_ w4 w5 := by rw [hw5]; exact (Chg.refl none_ w4).alloc _
  have HC5 := Lib.hid hC5
  have hT5 : RS w5 w4.heap.size (fun k => w.heap.size + 1 + 1 < k ∧ k < w4.heap.size) own (own, 0) := by
    rw [hw5]
    exact ⟨0, ⟨A4, k4, Row.new w4 67 [Value.slice A4 own.length k4, .int .i64 0, .int .i64 0], HK4.out, Nat.zero_le _, hol, HV4.out.chg ((Chg.refl none_ w4).alloc _) (fun _ _ h => h)⟩, fun _ => rfl, fun q => absurd rfl q, HOB.out⟩
  have HLT5 : Hid (w4.heap.size < w5.heap.size) := by show _ < _; rw [hw5]; simp
  have HW5 := Lib.hid hw5
  clear hw5
  have S0 : SetsAt w5 (w.heap.size + 1) w5.heap.size 0 [] := ⟨.slice none 0 0, (HX.out w5 hC5).1, World.ownsRow_nil _ _ _ _⟩
  have hk := HTK.out
  have t0 : ((tag : Int) == 0) = false := by rw [beq_eq_false_iff_ne]; omega
  have t1 : ((tag : Int) == 1) = false := by rw [beq_eq_false_iff_ne]; omega
  have t3 : ((tag : Int) == 3) = false := by rw [beq_eq_false_iff_ne]; omega
  have t7 : ((tag : Int) == 7) = false := by rw [beq_eq_false_iff_ne]; omega
  have t13 : ((tag : Int) == 13) = false := by rw [beq_eq_false_iff_ne]; omega
  have t4 : ((tag : Int) == 4) = true := by rw [beq_iff_eq]; omega
  have htw : IntKind.i64.wrap (tag : Int) = (tag : Int) := IntWalk.i64_in _ (by omega)
  clear hk
  go_wp2_with fail
  rw [← HW5.out]
  go_loopw [11, 12] (fun _ _ wr => ∃ (l : List (Nat × Nat)) (s : St), l.length ≤ 17 ∧ SetsAt wr (w.heap.size + 1) w5.heap.size 0 l ∧ RS wr w4.heap.size (fun k => w.heap.size + 1 + 1 < k ∧ k < w4.heap.size) own s ∧ Chg (fun k => k = w.heap.size + 1 ∨ k = w4.heap.size) w5 wr ∧ Hid (takeS 17 [] (own, 0) = takeS (17 - l.length) l s)) (fun _ _ wr => 17 - setsLen wr (w.heap.size + 1))
  case atStart => exact ⟨[], (own, 0), by simp, S0, hT5, Chg.refl _ _, rfl⟩
  case round =>
    obtain ⟨l, s, hll, hsa, hrd, hch, heq⟩ := hrel
    clear S0 hT5
    have hlen := hsa.len
    obtain ⟨ss, hrow, hown⟩ := hsa
    obtain ⟨A1, cap1, rfl, hnc, hmc, hvw⟩ := view_ownN hown
    have k2 : wr.cell? ⟨w.heap.size + 1, 2, none⟩ = some (.slice A1 l.length cap1) := hrow.cell 2
    have HROWB := Lib.hid hrow
    have HOWN := Lib.hid hown
    have HVW := Lib.hid hvw
    have HLEN := Lib.hid hlen
    have HCH := Lib.hid hch
    have HRDS := Lib.hid hrd
    clear hrow hown hvw hlen hch hrd
    by_cases hgo : s.1 ≠ [] ∧ l.length < 17
    · have hz1 : (0 : Int) < (s.1.length : Int) := by have := List.length_pos_iff.2 hgo.1; omega
      have hz2 := decide_eq_true hz1
      have h17 : (l.length : Int) < 17 := by omega
      have HE : Hid (takeS 17 [] (own, 0) = takeS (17 - (l.length + 1)) (l ++ [((rdInt s).1, (rdInt (rdInt s).2).1)]) (rdInt (rdInt s).2).2) := by
        have h1 := heq.out
        rw [show 17 - l.length = (17 - (l.length + 1)) + 1 from by omega, takeS_on _ l s hgo.1] at h1
        exact h1
      have hl16 : l.length ≤ 16 := by omega
      clear heq hgo
      go_wp2_with fail
      refine (rleft_st HRDS.out).mono ?_
      rintro e w6 ⟨rfl, kk, rfl⟩
      have d6 := (Chg.refl none_ wr).drewN kk
      have k6 : (wr.drewN kk).cell? ⟨w.heap.size + 1, 2, none⟩ = some (.slice A1 l.length cap1) := k2
      generalize wr.drewN kk = w6 at d6 k6 ⊢
      generalize s.1.length = sl at hz1 hz2 ⊢
      go_wp2_with fail
      refine (rint_st (HRDS.out.chg d6 (fun h => h) (fun _ _ h => h)) (by omega)).mono ?_
      rintro e w7 ⟨rfl, x7, d7⟩
      have HX7 := Lib.hid x7
      clear x7
      go_wp2_with fail
      refine (rint_st HX7.out (by omega)).mono ?_
      rintro e w8 ⟨rfl, x8, d8⟩
      have d78 := d7.trans d8
      have hrow8 := (HROWB.out.chg d6 (fun h => h)).chg d78 (fun e => by omega)
      have k8 : w8.cell? ⟨w.heap.size + 1, 2, none⟩ = some (.slice A1 l.length cap1) := hrow8.cell 2
      have f8 := hrow8.frozen 2
      have HOWN8 := Lib.hid (ownsRow_chg (ownsRow_chg HOWN.out d6 (fun _ _ h => h)) d78 (fun k hk e => by have := HLT5.out; omega))
      have HROW8 := Lib.hid hrow8
      have HX8 := Lib.hid x8
      have HC8 := Lib.hid ((HCH.out.andThen d6 (fun k hk e => e.elim)).andThen d78 (fun k hk e => Or.inr e))
      have hs8 := HC8.out.size
      clear d6 d7 d8 d78 x8 hrow8 k2 k6 HX7
      have HX8' := HX8
      generalize (rdInt (rdInt s).2).2 = s8 at *
      generalize (rdInt (rdInt s).2).1 = x2 at *
      generalize (rdInt s).1 = x1 at *
      go_wp2_with (at_builtin; refine wpList_append_viewN rfl _ _ 23 rfl 49 iS _ 2 _ Tryd.underlying23 hS0 hS1 hS2 hS3 rfl (by decide) w5.heap.size (.slice A1 l.length cap1) l.length (rcells l) rfl (ownsRow_chg HOWN8.out ((Chg.refl none_ w8).alloc (.cells [Value.int .u64 (x1 : Nat), .int .u64 (x2 : Nat)].toArray 49)) (fun _ _ h => h)) (fun _ => True) (some ⟨w8.heap.size, 0, none⟩) 1 1 (rcells [(x1, x2)]) rfl (View.row (cs := rcells [(x1, x2)]) (Row.new w8 49 _) (n := 2) (by simp [rcells]) trivial) (rcells_one _) (by unfold maxLen; omega) (by omega) (by simp; omega) ?_; intro v9 w9 hown9 hgrow9; obtain ⟨A9, cap9, rfl, _, _, _⟩ := view_ownN hown9; have hc9 : Chg (fun k => w5.heap.size ≤ k) w8 w9 := ((Chg.refl none_ w8).alloc (.cells [Value.int .u64 (x1 : Nat), .int .u64 (x2 : Nat)].toArray 49)).mono (fun _ _ h => h.elim) |>.grown hgrow9 (fun k hk _ => ((ownsRow_chg HOWN8.out ((Chg.refl none_ w8).alloc (.cells [Value.int .u64 (x1 : Nat), .int .u64 (x2 : Nat)].toArray 49)) (fun _ _ h => h)).lt k hk).1); have hrow9 := HROW8.out.chg hc9 (fun h => by have h5 : w5.heap.size ≤ w.heap.size + 1 := h; have := HLT5.out; omega); have k9 : w9.cell? ⟨w.heap.size + 1, 2, none⟩ = some (.slice A1 l.length cap1) := hrow9.cell 2; have f9 := hrow9.frozen 2)
      have hch5 : Chg (· = w.heap.size + 1) w9 (w9.setCell ⟨w.heap.size + 1, 2, none⟩ (.slice A9 (l.length + 1) cap9)) := Chg.setCell (S := (· = w.heap.size + 1)) (Chg.refl _ _) (p := ⟨w.heap.size + 1, 2, none⟩) (fun _ => rfl) _
      have hrow5 := hrow9.set 2 (.slice A9 (l.length + 1) cap9)
      have hown5 := ownsRow_chg hown9 hch5 (fun k hk e => by have h5 : k = w.heap.size + 1 := e; have := HLT5.out; omega)
      have hrd5 := (HX8.out.chg hc9 (fun h => by have h5 : w5.heap.size ≤ w4.heap.size := h; have := HLT5.out; omega) (fun k hk h => by have h5 : w5.heap.size ≤ k := h; have := hk.2; have := HLT5.out; omega)).chg hch5 (fun e => by have h5 : w4.heap.size = w.heap.size + 1 := e; omega) (fun k hk e => by have h5 : k = w.heap.size + 1 := e; have := hk.1; omega)
      have hsa5 : SetsAt (w9.setCell ⟨w.heap.size + 1, 2, none⟩ (.slice A9 (l.length + 1) cap9)) (w.heap.size + 1) w5.heap.size 0 (l ++ [(x1, x2)]) := by
        refine ⟨.slice A9 (l.length + 1) cap9, hrow5, ?_⟩
        rw [rcells_append, List.length_append]
        exact hown5
      have hch6 : Chg (fun k => k = w.heap.size + 1 ∨ k = w4.heap.size) w5 (w9.setCell ⟨w.heap.size + 1, 2, none⟩ (.slice A9 (l.length + 1) cap9)) := (HC8.out.andThen hc9 (fun k hk h => by have h5 : w5.heap.size ≤ k := h; omega)).trans (hch5.mono (fun _ _ h => Or.inl h))
      go_roundw
      case rel =>
        refine ⟨l ++ [(x1, x2)], s8, by simp; omega, hsa5, hrd5, hch6, ?_⟩
        rw [List.length_append]
        exact HE.out
      case measure =>
        rw [hsa5.len, HLEN.out]
        simp
        omega
    · have hE : (l, s) = (L, st) := by
        rw [← E5.out, heq.out]
        by_cases h1 : s.1 = []
        · exact (takeS_stop _ l s h1).symm
        · have h2 : l.length = 17 := by
            rcases Nat.lt_or_ge l.length 17 with q | q
            · exact absurd ⟨h1, q⟩ hgo
            · omega
          rw [h2]; rfl
      have hEl : l = L := (Prod.mk.inj hE).1
      have hEs : s = st := (Prod.mk.inj hE).2
      subst hEl
      subst hEs
      clear hE heq
      have hcond : ¬ ((0 : Int) < (s.1.length : Int)) ∨ ((0 : Int) < (s.1.length : Int) ∧ ¬ (l.length : Int) < 17) := by
        by_cases h1 : s.1 = []
        · left; rw [h1]; simp
        · right
          have := List.length_pos_iff.2 h1
          refine ⟨by omega, fun q => hgo ⟨h1, by omega⟩⟩
      clear hgo
      rcases hcond with hz1 | ⟨hz1, h17⟩
      · have hz2 := decide_eq_false hz1
        go_wp2_with fail
        refine (rleft_st HRDS.out).mono ?_
        rintro e w6 ⟨rfl, kk, rfl⟩
        have d6 := (Chg.refl none_ wr).drewN kk
        have k6 : (wr.drewN kk).cell? ⟨w.heap.size + 1, 2, none⟩ = some (.slice A1 l.length cap1) := k2
        generalize wr.drewN kk = w6 at d6 k6 ⊢
        obtain ⟨y1, y2, y3⟩ := HX.out _ HC5.out
        have d56 := HCH.out.andThen d6 (fun k hk e => e.elim)
        have x1 := HROWB.out.chg d6 (fun h => h)
        have x2 := y2.chg d56 (fun e => by omega)
        have x3 := y3.chg d56 (fun e => by omega)
        have x6 := HRDS.out.chg d6 (fun h => h) (fun _ _ h => h)
        have b0 : w6.cell? ⟨w.heap.size + 1, 0, none⟩ = some (.int .i64 0) := x1.cell 0
        have z0 := x1.frozen 0
        have hb6 : w6.cell? ⟨w4.heap.size, 2, none⟩ = some (.int .i64 s.2) := by
          obtain ⟨_, _, _, q⟩ := x6.bad
          exact q.cell 2
        have n1 : ¬ w4.heap.size = w.heap.size + 1 := by omega
        have n2 : ¬ w.heap.size + 1 = w4.heap.size := by omega
        have hS : Chg (· = w.heap.size + 1) w6 (World.setCell w6 ⟨w.heap.size + 1, 0, none⟩ (.int .i64 (tag : Nat))) := Chg.setCell (S := (· = w.heap.size + 1)) (Chg.refl _ _) (p := ⟨w.heap.size + 1, 0, none⟩) (fun _ => rfl) _
        have HE : Hid (Row (World.setCell w6 ⟨w.heap.size + 1, 0, none⟩ (.int .i64 (tag : Nat))) w.heap.size 26 zcH ∧ Chg none_ w (World.setCell w6 ⟨w.heap.size + 1, 0, none⟩ (.int .i64 (tag : Nat)))) := ⟨x3.chg hS (fun e => by omega), ((HM.out.chg.trans HC5.out).andThen d56 (fun k hk e => by omega)).andThen hS (fun k hk e => by omega)⟩
        have HBX0 : Hid (Row (World.setCell w6 ⟨w.heap.size + 1, 0, none⟩ (.int .i64 (tag : Nat))) (w.heap.size + 1) 26 (cellsH { kind := (tag : Int), sets := l } (.slice A1 l.length cap1) (.slice none 0 0))) := x1.set 0 _
        have HRR0 := Lib.hid (x2.chg hS (fun e => by omega))
        have HTR0 := Lib.hid (x6.chg hS (fun e => by omega) (fun k hk e => by omega))
        have HVV0 := Lib.hid ((HVW.out.chg d6 (fun _ _ h => h)).chg hS (fun k hk e => by have h5 : k = w.heap.size + 1 := e; have := HLT5.out; omega))
        clear hS x1 x2 x3 y1 y2 y3 x6 d56 d6 k2
        have hs2 : s.2 = 0 := by rw [hst]
        rw [hs2] at hb6
        go_wp2_with fail
        have HBX0' := HBX0.out
        have HE' := HE.out
        have HRR0' := HRR0.out
        have HTR0' := HTR0.out
        have HVV0' := HVV0.out
        obtain ⟨w8, hw8⟩ : ∃ u, u = (World.setCell w6 ⟨w.heap.size + 1, 0, none⟩ (.int .i64 (tag : Nat))) := ⟨_, rfl⟩
        rw [← hw8] at HBX0' HE' HRR0' HTR0' HVV0' ⊢
        have HBX := Lib.hid HBX0'
        have HRES := Lib.hid HE'.1
        have HC8 := Lib.hid HE'.2
        have HRR := Lib.hid HRR0'
        have HTR := Lib.hid HTR0'
        have HD8 : Hid (HfD w8 (fun k => w.heap.size < k) { kind := (tag : Int), sets := l } (.slice A1 l.length cap1) (.slice none 0 0)) := ⟨⟨A1, cap1, rfl, ⟨by show l.length ≤ _; omega, hnc⟩, by rw [Nat.mul_comm]; exact HVV0'.mono (fun k _ h => by have h5 : w5.heap.size ≤ k := h; have := HLT5.out; omega)⟩, ⟨none, 0, rfl, ⟨Nat.zero_le _, Nat.zero_le _⟩, View.none_ _ _ _⟩⟩
        clear hw8 HBX0' HE' HRR0' HTR0' HVV0' HBX0 HE HRR0 HTR0 HVV0 b0 z0 hb6 k6
        have hs1 : s.1.length = 0 := by rw [hst]; rfl
        refine (rleft_st HTR.out).mono ?_
        rintro e w9 ⟨rfl, k9, rfl⟩
        have c9 := (Chg.refl none_ w8).drewN k9
        generalize w8.drewN k9 = w9 at c9 ⊢
        have HBX9 := Lib.hid (HBX.out.chg c9 (fun h => h))
        have HRES9 := Lib.hid (HRES.out.chg c9 (fun h => h))
        have HRR9 := Lib.hid (HRR.out.chg c9 (fun h => h))
        have HC9 := Lib.hid (HC8.out.trans c9)
        have HD9 := Lib.hid (HD8.out.chg c9 (fun _ _ h => h))
        clear hz1 hz2
        rw [hs1]
        have HRT9 := Lib.hid (rright_four ({ kind := (tag : Int), sets := l }) (.slice A1 l.length cap1) (.slice none 0 0) w9 _ HD9.out (by show (tag : Int) = 4; have := HTK.out; omega))
        rw [hr] at HRT9
        unfold aggH at HRT9
        go_wp2_with (first | ((with_reducible show wpList _ _ _ (⟨_, .load 26 (.tmp 5), _, _, _, _⟩ :: _) _ _); refine wpList_load_Row rfl rfl rfl HBX9.out Tryd.underlying26 rfl sizeH ?_) | (go_at_call 13; refine (HRT9.out).mono ?_; rintro e w10 ⟨rfl, d10⟩; have HRES10 := Lib.hid (HRES9.out.chg d10 (fun h => h)); have HC10 := Lib.hid (HC9.out.trans d10)))
        have HK : Hid (∀ w', Chg none_ w10 w' → w'.cell? ⟨w.heap.size + 1, 0, none⟩ = some (.int .i64 (tag : Nat)) ∧ w'.cell? ⟨w.heap.size + 1, 1, none⟩ = some (.int .u64 0) ∧ w'.cell? ⟨w.heap.size + 1, 2, none⟩ = some (.slice A1 l.length cap1) ∧ w'.cell? ⟨w.heap.size + 1, 3, none⟩ = some (.slice none 0 0) ∧ w'.cell? ⟨w.heap.size + 1 + 1, 1, none⟩ = some (.int .i64 ((b.length : Int) - (s3.1.length : Int)))) := fun w' hc => by
          have q1 := HBX9.out.chg (d10.trans hc) (fun h => h)
          have q2 := HRR9.out.chg (d10.trans hc) (fun h => h)
          exact ⟨q1.cell 0, q1.cell 1, q1.cell 2, q1.cell 3, q2.cell 1⟩
        have r2 := HRES10.out
        have g0 : w10.cell? ⟨w.heap.size, 0, none⟩ = some (.int .i64 0) := r2.cell 0
        have g1 : w10.cell? ⟨w.heap.size, 1, none⟩ = some (.int .u64 0) := r2.cell 1
        have g2 : w10.cell? ⟨w.heap.size, 2, none⟩ = some (.slice none 0 0) := r2.cell 2
        have g3 : w10.cell? ⟨w.heap.size, 3, none⟩ = some (.slice none 0 0) := r2.cell 3
        have z0 := r2.frozen 0
        have z1 := r2.frozen 1
        have z2 := r2.frozen 2
        have z3 := r2.frozen 3
        obtain ⟨p1, p2, p3, p4, p5⟩ := HK.out w10 (Chg.refl _ _)
        have ne1 : ¬ w.heap.size + 1 + 1 = w.heap.size := by omega
        have ne2 : ¬ w.heap.size = w.heap.size + 1 + 1 := by omega
        have hch0 : Chg none_ w10 w10.drew := (Chg.refl _ _).drew
        go_region_held3 (fun w' => w'.cell? ⟨w.heap.size + 1, 0, none⟩ = some (.int .i64 (tag : Nat)) ∧ w'.cell? ⟨w.heap.size + 1, 1, none⟩ = some (.int .u64 0) ∧ w'.cell? ⟨w.heap.size + 1, 2, none⟩ = some (.slice A1 l.length cap1) ∧ w'.cell? ⟨w.heap.size + 1, 3, none⟩ = some (.slice none 0 0) ∧ w'.cell? ⟨w.heap.size + 1 + 1, 1, none⟩ = some (.int .i64 ((b.length : Int) - (s3.1.length : Int)))) (first | exact HK.out _ (by assumption) | go_keep) (fail)
        have hrE := ((((r2.set 0 (.int .i64 (tag : Nat))).set 1 (.int .u64 0)).set 2 (.slice A1 l.length cap1)).set 3 (.slice none 0 0)).drew
        have hcE := (set4 HC10.out (.int .i64 (tag : Nat)) (.int .u64 0) (.slice A1 l.length cap1) (.slice none 0 0)).drew
        have HDE := ((HD9.out.chg d10 (fun _ _ h => h)).chg (set4s w10 w.heap.size (.int .i64 (tag : Nat)) (.int .u64 0) (.slice A1 l.length cap1) (.slice none 0 0)) (fun k hk e => by omega)).mono (T' := fun _ => True) (fun _ _ _ => trivial)
        have hcast : ((b.length - s3.1.length : Nat) : Int) = (b.length : Int) - (s3.1.length : Int) := by have := HM.out.rd.le; omega
        go_wp2_with fail
        refine ret_row3 rfl rfl hrE Tryd.underlying26 rfl sizeH rfl ?_
        refine ⟨(.slice A1 l.length cap1), (.slice none 0 0), ?_, HDE, hcE⟩
        simp only [hcast]
        rfl
      · have hz2 := decide_eq_true hz1
        go_wp2_with fail
        refine (rleft_st HRDS.out).mono ?_
        rintro e w6 ⟨rfl, kk, rfl⟩
        have d6 := (Chg.refl none_ wr).drewN kk
        have k6 : (wr.drewN kk).cell? ⟨w.heap.size + 1, 2, none⟩ = some (.slice A1 l.length cap1) := k2
        generalize wr.drewN kk = w6 at d6 k6 ⊢
        obtain ⟨y1, y2, y3⟩ := HX.out _ HC5.out
        have d56 := HCH.out.andThen d6 (fun k hk e => e.elim)
        have x1 := HROWB.out.chg d6 (fun h => h)
        have x2 := y2.chg d56 (fun e => by omega)
        have x3 := y3.chg d56 (fun e => by omega)
        have x6 := HRDS.out.chg d6 (fun h => h) (fun _ _ h => h)
        have b0 : w6.cell? ⟨w.heap.size + 1, 0, none⟩ = some (.int .i64 0) := x1.cell 0
        have z0 := x1.frozen 0
        have hb6 : w6.cell? ⟨w4.heap.size, 2, none⟩ = some (.int .i64 s.2) := by
          obtain ⟨_, _, _, q⟩ := x6.bad
          exact q.cell 2
        have n1 : ¬ w4.heap.size = w.heap.size + 1 := by omega
        have n2 : ¬ w.heap.size + 1 = w4.heap.size := by omega
        have hS : Chg (· = w.heap.size + 1) w6 (World.setCell w6 ⟨w.heap.size + 1, 0, none⟩ (.int .i64 (tag : Nat))) := Chg.setCell (S := (· = w.heap.size + 1)) (Chg.refl _ _) (p := ⟨w.heap.size + 1, 0, none⟩) (fun _ => rfl) _
        have HE : Hid (Row (World.setCell w6 ⟨w.heap.size + 1, 0, none⟩ (.int .i64 (tag : Nat))) w.heap.size 26 zcH ∧ Chg none_ w (World.setCell w6 ⟨w.heap.size + 1, 0, none⟩ (.int .i64 (tag : Nat)))) := ⟨x3.chg hS (fun e => by omega), ((HM.out.chg.trans HC5.out).andThen d56 (fun k hk e => by omega)).andThen hS (fun k hk e => by omega)⟩
        have HBX0 : Hid (Row (World.setCell w6 ⟨w.heap.size + 1, 0, none⟩ (.int .i64 (tag : Nat))) (w.heap.size + 1) 26 (cellsH { kind := (tag : Int), sets := l } (.slice A1 l.length cap1) (.slice none 0 0))) := x1.set 0 _
        have HRR0 := Lib.hid (x2.chg hS (fun e => by omega))
        have HTR0 := Lib.hid (x6.chg hS (fun e => by omega) (fun k hk e => by omega))
        have HVV0 := Lib.hid ((HVW.out.chg d6 (fun _ _ h => h)).chg hS (fun k hk e => by have h5 : k = w.heap.size + 1 := e; have := HLT5.out; omega))
        clear hS x1 x2 x3 y1 y2 y3 x6 d56 d6 k2
        have hs2 : s.2 = 0 := by rw [hst]
        rw [hs2] at hb6
        go_wp2_with fail
        have HBX0' := HBX0.out
        have HE' := HE.out
        have HRR0' := HRR0.out
        have HTR0' := HTR0.out
        have HVV0' := HVV0.out
        obtain ⟨w8, hw8⟩ : ∃ u, u = (World.setCell w6 ⟨w.heap.size + 1, 0, none⟩ (.int .i64 (tag : Nat))) := ⟨_, rfl⟩
        rw [← hw8] at HBX0' HE' HRR0' HTR0' HVV0' ⊢
        have HBX := Lib.hid HBX0'
        have HRES := Lib.hid HE'.1
        have HC8 := Lib.hid HE'.2
        have HRR := Lib.hid HRR0'
        have HTR := Lib.hid HTR0'
        have HD8 : Hid (HfD w8 (fun k => w.heap.size < k) { kind := (tag : Int), sets := l } (.slice A1 l.length cap1) (.slice none 0 0)) := ⟨⟨A1, cap1, rfl, ⟨by show l.length ≤ _; omega, hnc⟩, by rw [Nat.mul_comm]; exact HVV0'.mono (fun k _ h => by have h5 : w5.heap.size ≤ k := h; have := HLT5.out; omega)⟩, ⟨none, 0, rfl, ⟨Nat.zero_le _, Nat.zero_le _⟩, View.none_ _ _ _⟩⟩
        clear hw8 HBX0' HE' HRR0' HTR0' HVV0' HBX0 HE HRR0 HTR0 HVV0 b0 z0 hb6 k6
        have hs1 : s.1.length = 0 := by rw [hst]; rfl
        refine (rleft_st HTR.out).mono ?_
        rintro e w9 ⟨rfl, k9, rfl⟩
        have c9 := (Chg.refl none_ w8).drewN k9
        generalize w8.drewN k9 = w9 at c9 ⊢
        have HBX9 := Lib.hid (HBX.out.chg c9 (fun h => h))
        have HRES9 := Lib.hid (HRES.out.chg c9 (fun h => h))
        have HRR9 := Lib.hid (HRR.out.chg c9 (fun h => h))
        have HC9 := Lib.hid (HC8.out.trans c9)
        have HD9 := Lib.hid (HD8.out.chg c9 (fun _ _ h => h))
        clear hz1 hz2
        rw [hs1]
        have HRT9 := Lib.hid (rright_four ({ kind := (tag : Int), sets := l }) (.slice A1 l.length cap1) (.slice none 0 0) w9 _ HD9.out (by show (tag : Int) = 4; have := HTK.out; omega))
        rw [hr] at HRT9
        unfold aggH at HRT9
        go_wp2_with (first | ((with_reducible show wpList _ _ _ (⟨_, .load 26 (.tmp 5), _, _, _, _⟩ :: _) _ _); refine wpList_load_Row rfl rfl rfl HBX9.out Tryd.underlying26 rfl sizeH ?_) | (go_at_call 13; refine (HRT9.out).mono ?_; rintro e w10 ⟨rfl, d10⟩; have HRES10 := Lib.hid (HRES9.out.chg d10 (fun h => h)); have HC10 := Lib.hid (HC9.out.trans d10)))
        have HK : Hid (∀ w', Chg none_ w10 w' → w'.cell? ⟨w.heap.size + 1, 0, none⟩ = some (.int .i64 (tag : Nat)) ∧ w'.cell? ⟨w.heap.size + 1, 1, none⟩ = some (.int .u64 0) ∧ w'.cell? ⟨w.heap.size + 1, 2, none⟩ = some (.slice A1 l.length cap1) ∧ w'.cell? ⟨w.heap.size + 1, 3, none⟩ = some (.slice none 0 0) ∧ w'.cell? ⟨w.heap.size + 1 + 1, 1, none⟩ = some (.int .i64 ((b.length : Int) - (s3.1.length : Int)))) := fun w' hc => by
          have q1 := HBX9.out.chg (d10.trans hc) (fun h => h)
          have q2 := HRR9.out.chg (d10.trans hc) (fun h => h)
          exact ⟨q1.cell 0, q1.cell 1, q1.cell 2, q1.cell 3, q2.cell 1⟩
        have r2 := HRES10.out
        have g0 : w10.cell? ⟨w.heap.size, 0, none⟩ = some (.int .i64 0) := r2.cell 0
        have g1 : w10.cell? ⟨w.heap.size, 1, none⟩ = some (.int .u64 0) := r2.cell 1
        have g2 : w10.cell? ⟨w.heap.size, 2, none⟩ = some (.slice none 0 0) := r2.cell 2
        have g3 : w10.cell? ⟨w.heap.size, 3, none⟩ = some (.slice none 0 0) := r2.cell 3
        have z0 := r2.frozen 0
        have z1 := r2.frozen 1
        have z2 := r2.frozen 2
        have z3 := r2.frozen 3
        obtain ⟨p1, p2, p3, p4, p5⟩ := HK.out w10 (Chg.refl _ _)
        have ne1 : ¬ w.heap.size + 1 + 1 = w.heap.size := by omega
        have ne2 : ¬ w.heap.size = w.heap.size + 1 + 1 := by omega
        have hch0 : Chg none_ w10 w10.drew := (Chg.refl _ _).drew
        go_region_held3 (fun w' => w'.cell? ⟨w.heap.size + 1, 0, none⟩ = some (.int .i64 (tag : Nat)) ∧ w'.cell? ⟨w.heap.size + 1, 1, none⟩ = some (.int .u64 0) ∧ w'.cell? ⟨w.heap.size + 1, 2, none⟩ = some (.slice A1 l.length cap1) ∧ w'.cell? ⟨w.heap.size + 1, 3, none⟩ = some (.slice none 0 0) ∧ w'.cell? ⟨w.heap.size + 1 + 1, 1, none⟩ = some (.int .i64 ((b.length : Int) - (s3.1.length : Int)))) (first | exact HK.out _ (by assumption) | go_keep) (fail)
        have hrE := ((((r2.set 0 (.int .i64 (tag : Nat))).set 1 (.int .u64 0)).set 2 (.slice A1 l.length cap1)).set 3 (.slice none 0 0)).drew
        have hcE := (set4 HC10.out (.int .i64 (tag : Nat)) (.int .u64 0) (.slice A1 l.length cap1) (.slice none 0 0)).drew
        have HDE := ((HD9.out.chg d10 (fun _ _ h => h)).chg (set4s w10 w.heap.size (.int .i64 (tag : Nat)) (.int .u64 0) (.slice A1 l.length cap1) (.slice none 0 0)) (fun k hk e => by omega)).mono (T' := fun _ => True) (fun _ _ _ => trivial)
        have hcast : ((b.length - s3.1.length : Nat) : Int) = (b.length : Int) - (s3.1.length : Int) := by have := HM.out.rd.le; omega
        go_wp2_with fail
        refine ret_row3 rfl rfl hrE Tryd.underlying26 rfl sizeH rfl ?_
        refine ⟨(.slice A1 l.length cap1), (.slice none 0 0), ?_, HDE, hcE⟩
        simp only [hcast]
        rfl

set_option maxRecDepth 100000 in
set_option maxHeartbeats 4000000 in
theorem rnext_sets_no (hv : View w (fun _ => True) A b.length (u8s b)) (hm : b.length ≤ 1000000) (hcap : b.length ≤ c) (hb : ∀ x ∈ b, x < 256) (tag n : Nat) (s1 s2 : St) (own : List Nat) (s3 : St) (e1 : rdInt (b, 0) = (tag, s1)) (hf : ¬ (tag = 2 ∨ tag = 6 ∨ tag = 8 ∨ tag = 9)) (e2 : rdInt s1 = (n, s2)) (e3 : rdBytes n s2 = (own, s3)) (hz1 : s1.2 = 0) (hz3 : s3.2 = 0) (L : List (Nat × Nat)) (st : St) (e5 : takeS 17 [] (own, 0) = (L, st)) (hk : tag = 4) (hst : st = ([], 0)) (hr : rightH { kind := (tag : Int), sets := L } = false) :
    Calls Tryd.prog 20 #[.slice A b.length c] w (RNextPost ({}, 0, 3) w) := by
  have E5 := Lib.hid e5
  have HTK := Lib.hid hk
  clear e5 hk
  have E1 := Lib.hid e1
  have E2 := Lib.hid e2
  have E3 := Lib.hid e3
  clear e1 e2 e3
  have HV := Lib.hid hv
  have HB := Lib.hid hb
  clear hv hb
  go_enter Tryd.func20, Tryd.ntmps20
  go_wp2_with fail
  have HM0 := Lib.hid (rmade w A c b HV.out hm hcap HB.out _ rfl)
  refine (rint_st HM0.out.rd (by omega)).mono ?_
  rw [E1.out]
  simp only
  rintro e w2 ⟨rfl, x2, d2⟩
  have HM := Lib.hid (HM0.out.read x2 d2)
  have hbad := HM.out.bad
  rw [hz1] at hbad
  clear x2 d2 HM0 E1 hz1
  have n2 : ((tag : Int) == 2) = false := by rw [beq_eq_false_iff_ne]; omega
  have n6 : ((tag : Int) == 6) = false := by rw [beq_eq_false_iff_ne]; omega
  have n8 : ((tag : Int) == 8) = false := by rw [beq_eq_false_iff_ne]; omega
  have n9 : ((tag : Int) == 9) = false := by rw [beq_eq_false_iff_ne]; omega
  go_wp2_with fail
  refine (rint_st HM.out.rd (by omega)).mono ?_
  rw [E2.out]
  simp only
  rintro e w3 ⟨rfl, x3, d3⟩
  have HM3 := Lib.hid (HM.out.read x3 d3)
  clear x3 d3 HM hbad n2 n6 n8 n9
  go_wp2_with fail
  refine (rbytes_stc n HM3.out.rd (by omega)).mono ?_
  rw [E3.out]
  simp only
  rintro e w4 ⟨A4, k4, rfl, hk4, hv4, x4, d4⟩
  have HM := Lib.hid (HM3.out.read x4 d4)
  have hbad := HM.out.bad
  rw [hz3] at hbad
  obtain ⟨Ar, cr, hrow⟩ := HM.out.rd.place hz3
  have hol : own.length ≤ 1000000 := by
    have q := congrArg (fun x => x.1.length) E3.out
    have h3 := HM3.out.rd.len
    have h4 := rdBytes_le2 n s2 h3
    simp only at q
    omega
  have hob : ∀ x ∈ own, x < 256 := by
    have q := rdBytes_mem n s2 HM3.out.rd.mem
    rw [E3.out] at q
    exact q.1
  have HROW := Lib.hid hrow
  have hlt3 := HM3.out.rd.lt
  have HV4 := Lib.hid (hv4.mono (T' := fun k => w.heap.size + 1 + 1 < k ∧ k < w4.heap.size) (fun k hk q => ⟨Nat.lt_of_lt_of_le hlt3 q, hk⟩))
  have HK4 := Lib.hid hk4
  have HOB := Lib.hid hob
  clear x4 d4 HM3 hv4 hrow hk4 hob E2 E3
  have HX := Lib.hid (fun w' (hc : Chg none_ w4 w') => (⟨(HM.out.box.chg hc (fun h => h)), (HROW.out.chg hc (fun h => h)), (HM.out.res.chg hc (fun h => h))⟩ : _ ∧ _ ∧ _))
  have hlt4 := HM.out.rd.lt
  obtain ⟨iS, hS0, hS1, hS2, hS3⟩ := info_parts infoS
  obtain ⟨w5, hw5⟩ : ∃ u, u = (w4.alloc (.cells [Value.slice A4 own.length k4, .int .i64 0, .int .i64 0].toArray 67)) := ⟨_, rfl⟩
  have hC5 : Chg none_ w4 w5 := by rw [hw5]; exact (Chg.refl none_ w4).alloc _
  have HC5 := Lib.hid hC5
  have hT5 : RS w5 w4.heap.size (fun k => w.heap.size + 1 + 1 < k ∧ k < w4.heap.size) own (own, 0) := by
    rw [hw5]
    exact ⟨0, ⟨A4, k4, Row.new w4 67 [Value.slice A4 own.length k4, .int .i64 0, .int .i64 0], HK4.out, Nat.zero_le _, hol, HV4.out.chg ((Chg.refl none_ w4).alloc _) (fun _ _ h => h)⟩, fun _ => rfl, fun q => absurd rfl q, HOB.out⟩
  have HLT5 : Hid (w4.heap.size < w5.heap.size) := by show _ < _; rw [hw5]; simp
  have HW5 := Lib.hid hw5
  clear hw5
  have S0 : SetsAt w5 (w.heap.size + 1) w5.heap.size 0 [] := ⟨.slice none 0 0, (HX.out w5 hC5).1, World.ownsRow_nil _ _ _ _⟩
  have hk := HTK.out
  have t0 : ((tag : Int) == 0) = false := by rw [beq_eq_false_iff_ne]; omega
  have t1 : ((tag : Int) == 1) = false := by rw [beq_eq_false_iff_ne]; omega
  have t3 : ((tag : Int) == 3) = false := by rw [beq_eq_false_iff_ne]; omega
  have t7 : ((tag : Int) == 7) = false := by rw [beq_eq_false_iff_ne]; omega
  have t13 : ((tag : Int) == 13) = false := by rw [beq_eq_false_iff_ne]; omega
  have t4 : ((tag : Int) == 4) = true := by rw [beq_iff_eq]; omega
  have htw : IntKind.i64.wrap (tag : Int) = (tag : Int) := IntWalk.i64_in _ (by omega)
  clear hk
  go_wp2_with fail
  rw [← HW5.out]
  go_loopw [11, 12] (fun _ _ wr => ∃ (l : List (Nat × Nat)) (s : St), l.length ≤ 17 ∧ SetsAt wr (w.heap.size + 1) w5.heap.size 0 l ∧ RS wr w4.heap.size (fun k => w.heap.size + 1 + 1 < k ∧ k < w4.heap.size) own s ∧ Chg (fun k => k = w.heap.size + 1 ∨ k = w4.heap.size) w5 wr ∧ Hid (takeS 17 [] (own, 0) = takeS (17 - l.length) l s)) (fun _ _ wr => 17 - setsLen wr (w.heap.size + 1))
  case atStart => exact ⟨[], (own, 0), by simp, S0, hT5, Chg.refl _ _, rfl⟩
  case round =>
    obtain ⟨l, s, hll, hsa, hrd, hch, heq⟩ := hrel
    clear S0 hT5
    have hlen := hsa.len
    obtain ⟨ss, hrow, hown⟩ := hsa
    obtain ⟨A1, cap1, rfl, hnc, hmc, hvw⟩ := view_ownN hown
    have k2 : wr.cell? ⟨w.heap.size + 1, 2, none⟩ = some (.slice A1 l.length cap1) := hrow.cell 2
    have HROWB := Lib.hid hrow
    have HOWN := Lib.hid hown
    have HVW := Lib.hid hvw
    have HLEN := Lib.hid hlen
    have HCH := Lib.hid hch
    have HRDS := Lib.hid hrd
    clear hrow hown hvw hlen hch hrd
    by_cases hgo : s.1 ≠ [] ∧ l.length < 17
    · have hz1 : (0 : Int) < (s.1.length : Int) := by have := List.length_pos_iff.2 hgo.1; omega
      have hz2 := decide_eq_true hz1
      have h17 : (l.length : Int) < 17 := by omega
      have HE : Hid (takeS 17 [] (own, 0) = takeS (17 - (l.length + 1)) (l ++ [((rdInt s).1, (rdInt (rdInt s).2).1)]) (rdInt (rdInt s).2).2) := by
        have h1 := heq.out
        rw [show 17 - l.length = (17 - (l.length + 1)) + 1 from by omega, takeS_on _ l s hgo.1] at h1
        exact h1
      have hl16 : l.length ≤ 16 := by omega
      clear heq hgo
      go_wp2_with fail
      refine (rleft_st HRDS.out).mono ?_
      rintro e w6 ⟨rfl, kk, rfl⟩
      have d6 := (Chg.refl none_ wr).drewN kk
      have k6 : (wr.drewN kk).cell? ⟨w.heap.size + 1, 2, none⟩ = some (.slice A1 l.length cap1) := k2
      generalize wr.drewN kk = w6 at d6 k6 ⊢
      generalize s.1.length = sl at hz1 hz2 ⊢
      go_wp2_with fail
      refine (rint_st (HRDS.out.chg d6 (fun h => h) (fun _ _ h => h)) (by omega)).mono ?_
      rintro e w7 ⟨rfl, x7, d7⟩
      have HX7 := Lib.hid x7
      clear x7
      go_wp2_with fail
      refine (rint_st HX7.out (by omega)).mono ?_
      rintro e w8 ⟨rfl, x8, d8⟩
      have d78 := d7.trans d8
      have hrow8 := (HROWB.out.chg d6 (fun h => h)).chg d78 (fun e => by omega)
      have k8 : w8.cell? ⟨w.heap.size + 1, 2, none⟩ = some (.slice A1 l.length cap1) := hrow8.cell 2
      have f8 := hrow8.frozen 2
      have HOWN8 := Lib.hid (ownsRow_chg (ownsRow_chg HOWN.out d6 (fun _ _ h => h)) d78 (fun k hk e => by have := HLT5.out; omega))
      have HROW8 := Lib.hid hrow8
      have HX8 := Lib.hid x8
      have HC8 := Lib.hid ((HCH.out.andThen d6 (fun k hk e => e.elim)).andThen d78 (fun k hk e => Or.inr e))
      have hs8 := HC8.out.size
      clear d6 d7 d8 d78 x8 hrow8 k2 k6 HX7
      have HX8' := HX8
      generalize (rdInt (rdInt s).2).2 = s8 at *
      generalize (rdInt (rdInt s).2).1 = x2 at *
      generalize (rdInt s).1 = x1 at *
      go_wp2_with (at_builtin; refine wpList_append_viewN rfl _ _ 23 rfl 49 iS _ 2 _ Tryd.underlying23 hS0 hS1 hS2 hS3 rfl (by decide) w5.heap.size (.slice A1 l.length cap1) l.length (rcells l) rfl (ownsRow_chg HOWN8.out ((Chg.refl none_ w8).alloc (.cells [Value.int .u64 (x1 : Nat), .int .u64 (x2 : Nat)].toArray 49)) (fun _ _ h => h)) (fun _ => True) (some ⟨w8.heap.size, 0, none⟩) 1 1 (rcells [(x1, x2)]) rfl (View.row (cs := rcells [(x1, x2)]) (Row.new w8 49 _) (n := 2) (by simp [rcells]) trivial) (rcells_one _) (by unfold maxLen; omega) (by omega) (by simp; omega) ?_; intro v9 w9 hown9 hgrow9; obtain ⟨A9, cap9, rfl, _, _, _⟩ := view_ownN hown9; have hc9 : Chg (fun k => w5.heap.size ≤ k) w8 w9 := ((Chg.refl none_ w8).alloc (.cells [Value.int .u64 (x1 : Nat), .int .u64 (x2 : Nat)].toArray 49)).mono (fun _ _ h => h.elim) |>.grown hgrow9 (fun k hk _ => ((ownsRow_chg HOWN8.out ((Chg.refl none_ w8).alloc (.cells [Value.int .u64 (x1 : Nat), .int .u64 (x2 : Nat)].toArray 49)) (fun _ _ h => h)).lt k hk).1); have hrow9 := HROW8.out.chg hc9 (fun h => by have h5 : w5.heap.size ≤ w.heap.size + 1 := h; have := HLT5.out; omega); have k9 : w9.cell? ⟨w.heap.size + 1, 2, none⟩ = some (.slice A1 l.length cap1) := hrow9.cell 2; have f9 := hrow9.frozen 2)
      have hch5 : Chg (· = w.heap.size + 1) w9 (w9.setCell ⟨w.heap.size + 1, 2, none⟩ (.slice A9 (l.length + 1) cap9)) := Chg.setCell (S := (· = w.heap.size + 1)) (Chg.refl _ _) (p := ⟨w.heap.size + 1, 2, none⟩) (fun _ => rfl) _
      have hrow5 := hrow9.set 2 (.slice A9 (l.length + 1) cap9)
      have hown5 := ownsRow_chg hown9 hch5 (fun k hk e => by have h5 : k = w.heap.size + 1 := e; have := HLT5.out; omega)
      have hrd5 := (HX8.out.chg hc9 (fun h => by have h5 : w5.heap.size ≤ w4.heap.size := h; have := HLT5.out; omega) (fun k hk h => by have h5 : w5.heap.size ≤ k := h; have := hk.2; have := HLT5.out; omega)).chg hch5 (fun e => by have h5 : w4.heap.size = w.heap.size + 1 := e; omega) (fun k hk e => by have h5 : k = w.heap.size + 1 := e; have := hk.1; omega)
      have hsa5 : SetsAt (w9.setCell ⟨w.heap.size + 1, 2, none⟩ (.slice A9 (l.length + 1) cap9)) (w.heap.size + 1) w5.heap.size 0 (l ++ [(x1, x2)]) := by
        refine ⟨.slice A9 (l.length + 1) cap9, hrow5, ?_⟩
        rw [rcells_append, List.length_append]
        exact hown5
      have hch6 : Chg (fun k => k = w.heap.size + 1 ∨ k = w4.heap.size) w5 (w9.setCell ⟨w.heap.size + 1, 2, none⟩ (.slice A9 (l.length + 1) cap9)) := (HC8.out.andThen hc9 (fun k hk h => by have h5 : w5.heap.size ≤ k := h; omega)).trans (hch5.mono (fun _ _ h => Or.inl h))
      go_roundw
      case rel =>
        refine ⟨l ++ [(x1, x2)], s8, by simp; omega, hsa5, hrd5, hch6, ?_⟩
        rw [List.length_append]
        exact HE.out
      case measure =>
        rw [hsa5.len, HLEN.out]
        simp
        omega
    · have hE : (l, s) = (L, st) := by
        rw [← E5.out, heq.out]
        by_cases h1 : s.1 = []
        · exact (takeS_stop _ l s h1).symm
        · have h2 : l.length = 17 := by
            rcases Nat.lt_or_ge l.length 17 with q | q
            · exact absurd ⟨h1, q⟩ hgo
            · omega
          rw [h2]; rfl
      have hEl : l = L := (Prod.mk.inj hE).1
      have hEs : s = st := (Prod.mk.inj hE).2
      subst hEl
      subst hEs
      clear hE heq
      have hcond : ¬ ((0 : Int) < (s.1.length : Int)) ∨ ((0 : Int) < (s.1.length : Int) ∧ ¬ (l.length : Int) < 17) := by
        by_cases h1 : s.1 = []
        · left; rw [h1]; simp
        · right
          have := List.length_pos_iff.2 h1
          refine ⟨by omega, fun q => hgo ⟨h1, by omega⟩⟩
      clear hgo
      rcases hcond with hz1 | ⟨hz1, h17⟩
      · have hz2 := decide_eq_false hz1
        go_wp2_with fail
        refine (rleft_st HRDS.out).mono ?_
        rintro e w6 ⟨rfl, kk, rfl⟩
        have d6 := (Chg.refl none_ wr).drewN kk
        have k6 : (wr.drewN kk).cell? ⟨w.heap.size + 1, 2, none⟩ = some (.slice A1 l.length cap1) := k2
        generalize wr.drewN kk = w6 at d6 k6 ⊢
        obtain ⟨y1, y2, y3⟩ := HX.out _ HC5.out
        have d56 := HCH.out.andThen d6 (fun k hk e => e.elim)
        have x1 := HROWB.out.chg d6 (fun h => h)
        have x2 := y2.chg d56 (fun e => by omega)
        have x3 := y3.chg d56 (fun e => by omega)
        have x6 := HRDS.out.chg d6 (fun h => h) (fun _ _ h => h)
        have b0 : w6.cell? ⟨w.heap.size + 1, 0, none⟩ = some (.int .i64 0) := x1.cell 0
        have z0 := x1.frozen 0
        have hb6 : w6.cell? ⟨w4.heap.size, 2, none⟩ = some (.int .i64 s.2) := by
          obtain ⟨_, _, _, q⟩ := x6.bad
          exact q.cell 2
        have n1 : ¬ w4.heap.size = w.heap.size + 1 := by omega
        have n2 : ¬ w.heap.size + 1 = w4.heap.size := by omega
        have hS : Chg (· = w.heap.size + 1) w6 (World.setCell w6 ⟨w.heap.size + 1, 0, none⟩ (.int .i64 (tag : Nat))) := Chg.setCell (S := (· = w.heap.size + 1)) (Chg.refl _ _) (p := ⟨w.heap.size + 1, 0, none⟩) (fun _ => rfl) _
        have HE : Hid (Row (World.setCell w6 ⟨w.heap.size + 1, 0, none⟩ (.int .i64 (tag : Nat))) w.heap.size 26 zcH ∧ Chg none_ w (World.setCell w6 ⟨w.heap.size + 1, 0, none⟩ (.int .i64 (tag : Nat)))) := ⟨x3.chg hS (fun e => by omega), ((HM.out.chg.trans HC5.out).andThen d56 (fun k hk e => by omega)).andThen hS (fun k hk e => by omega)⟩
        have HBX0 : Hid (Row (World.setCell w6 ⟨w.heap.size + 1, 0, none⟩ (.int .i64 (tag : Nat))) (w.heap.size + 1) 26 (cellsH { kind := (tag : Int), sets := l } (.slice A1 l.length cap1) (.slice none 0 0))) := x1.set 0 _
        have HRR0 := Lib.hid (x2.chg hS (fun e => by omega))
        have HTR0 := Lib.hid (x6.chg hS (fun e => by omega) (fun k hk e => by omega))
        have HVV0 := Lib.hid ((HVW.out.chg d6 (fun _ _ h => h)).chg hS (fun k hk e => by have h5 : k = w.heap.size + 1 := e; have := HLT5.out; omega))
        clear hS x1 x2 x3 y1 y2 y3 x6 d56 d6 k2
        have hs2 : s.2 = 0 := by rw [hst]
        rw [hs2] at hb6
        go_wp2_with fail
        have HBX0' := HBX0.out
        have HE' := HE.out
        have HRR0' := HRR0.out
        have HTR0' := HTR0.out
        have HVV0' := HVV0.out
        obtain ⟨w8, hw8⟩ : ∃ u, u = (World.setCell w6 ⟨w.heap.size + 1, 0, none⟩ (.int .i64 (tag : Nat))) := ⟨_, rfl⟩
        rw [← hw8] at HBX0' HE' HRR0' HTR0' HVV0' ⊢
        have HBX := Lib.hid HBX0'
        have HRES := Lib.hid HE'.1
        have HC8 := Lib.hid HE'.2
        have HRR := Lib.hid HRR0'
        have HTR := Lib.hid HTR0'
        have HD8 : Hid (HfD w8 (fun k => w.heap.size < k) { kind := (tag : Int), sets := l } (.slice A1 l.length cap1) (.slice none 0 0)) := ⟨⟨A1, cap1, rfl, ⟨by show l.length ≤ _; omega, hnc⟩, by rw [Nat.mul_comm]; exact HVV0'.mono (fun k _ h => by have h5 : w5.heap.size ≤ k := h; have := HLT5.out; omega)⟩, ⟨none, 0, rfl, ⟨Nat.zero_le _, Nat.zero_le _⟩, View.none_ _ _ _⟩⟩
        clear hw8 HBX0' HE' HRR0' HTR0' HVV0' HBX0 HE HRR0 HTR0 HVV0 b0 z0 hb6 k6
        have hs1 : s.1.length = 0 := by rw [hst]; rfl
        refine (rleft_st HTR.out).mono ?_
        rintro e w9 ⟨rfl, k9, rfl⟩
        have c9 := (Chg.refl none_ w8).drewN k9
        generalize w8.drewN k9 = w9 at c9 ⊢
        have HBX9 := Lib.hid (HBX.out.chg c9 (fun h => h))
        have HRES9 := Lib.hid (HRES.out.chg c9 (fun h => h))
        have HRR9 := Lib.hid (HRR.out.chg c9 (fun h => h))
        have HC9 := Lib.hid (HC8.out.trans c9)
        have HD9 := Lib.hid (HD8.out.chg c9 (fun _ _ h => h))
        clear hz1 hz2
        rw [hs1]
        have HRT9 := Lib.hid (rright_four ({ kind := (tag : Int), sets := l }) (.slice A1 l.length cap1) (.slice none 0 0) w9 _ HD9.out (by show (tag : Int) = 4; have := HTK.out; omega))
        rw [hr] at HRT9
        unfold aggH at HRT9
        go_wp2_with (first | ((with_reducible show wpList _ _ _ (⟨_, .load 26 (.tmp 5), _, _, _, _⟩ :: _) _ _); refine wpList_load_Row rfl rfl rfl HBX9.out Tryd.underlying26 rfl sizeH ?_) | (go_at_call 13; refine (HRT9.out).mono ?_; rintro e w10 ⟨rfl, d10⟩; have HRES10 := Lib.hid (HRES9.out.chg d10 (fun h => h)); have HC10 := Lib.hid (HC9.out.trans d10)) | ((with_reducible show wpList _ _ _ (⟨_, .store 26 (.tmp 2) _, _, _, _, _⟩ :: _) _ _); refine wpList_store_Row (xs := zcH) rfl rfl rfl HRES10.out rfl rfl sizeH rfl ?_; intro w11 hr11 hch11 _; have c11 := hch11 none_ w HC10.out (fun h => absurd h (Nat.lt_irrefl _))))
        refine ret_row3 rfl rfl hr11 Tryd.underlying26 rfl sizeH rfl ?_
        exact ⟨_, _, rfl, zeroD _ _, c11⟩
      · have hz2 := decide_eq_true hz1
        go_wp2_with fail
        refine (rleft_st HRDS.out).mono ?_
        rintro e w6 ⟨rfl, kk, rfl⟩
        have d6 := (Chg.refl none_ wr).drewN kk
        have k6 : (wr.drewN kk).cell? ⟨w.heap.size + 1, 2, none⟩ = some (.slice A1 l.length cap1) := k2
        generalize wr.drewN kk = w6 at d6 k6 ⊢
        obtain ⟨y1, y2, y3⟩ := HX.out _ HC5.out
        have d56 := HCH.out.andThen d6 (fun k hk e => e.elim)
        have x1 := HROWB.out.chg d6 (fun h => h)
        have x2 := y2.chg d56 (fun e => by omega)
        have x3 := y3.chg d56 (fun e => by omega)
        have x6 := HRDS.out.chg d6 (fun h => h) (fun _ _ h => h)
        have b0 : w6.cell? ⟨w.heap.size + 1, 0, none⟩ = some (.int .i64 0) := x1.cell 0
        have z0 := x1.frozen 0
        have hb6 : w6.cell? ⟨w4.heap.size, 2, none⟩ = some (.int .i64 s.2) := by
          obtain ⟨_, _, _, q⟩ := x6.bad
          exact q.cell 2
        have n1 : ¬ w4.heap.size = w.heap.size + 1 := by omega
        have n2 : ¬ w.heap.size + 1 = w4.heap.size := by omega
        have hS : Chg (· = w.heap.size + 1) w6 (World.setCell w6 ⟨w.heap.size + 1, 0, none⟩ (.int .i64 (tag : Nat))) := Chg.setCell (S := (· = w.heap.size + 1)) (Chg.refl _ _) (p := ⟨w.heap.size + 1, 0, none⟩) (fun _ => rfl) _
        have HE : Hid (Row (World.setCell w6 ⟨w.heap.size + 1, 0, none⟩ (.int .i64 (tag : Nat))) w.heap.size 26 zcH ∧ Chg none_ w (World.setCell w6 ⟨w.heap.size + 1, 0, none⟩ (.int .i64 (tag : Nat)))) := ⟨x3.chg hS (fun e => by omega), ((HM.out.chg.trans HC5.out).andThen d56 (fun k hk e => by omega)).andThen hS (fun k hk e => by omega)⟩
        have HBX0 : Hid (Row (World.setCell w6 ⟨w.heap.size + 1, 0, none⟩ (.int .i64 (tag : Nat))) (w.heap.size + 1) 26 (cellsH { kind := (tag : Int), sets := l } (.slice A1 l.length cap1) (.slice none 0 0))) := x1.set 0 _
        have HRR0 := Lib.hid (x2.chg hS (fun e => by omega))
        have HTR0 := Lib.hid (x6.chg hS (fun e => by omega) (fun k hk e => by omega))
        have HVV0 := Lib.hid ((HVW.out.chg d6 (fun _ _ h => h)).chg hS (fun k hk e => by have h5 : k = w.heap.size + 1 := e; have := HLT5.out; omega))
        clear hS x1 x2 x3 y1 y2 y3 x6 d56 d6 k2
        have hs2 : s.2 = 0 := by rw [hst]
        rw [hs2] at hb6
        go_wp2_with fail
        have HBX0' := HBX0.out
        have HE' := HE.out
        have HRR0' := HRR0.out
        have HTR0' := HTR0.out
        have HVV0' := HVV0.out
        obtain ⟨w8, hw8⟩ : ∃ u, u = (World.setCell w6 ⟨w.heap.size + 1, 0, none⟩ (.int .i64 (tag : Nat))) := ⟨_, rfl⟩
        rw [← hw8] at HBX0' HE' HRR0' HTR0' HVV0' ⊢
        have HBX := Lib.hid HBX0'
        have HRES := Lib.hid HE'.1
        have HC8 := Lib.hid HE'.2
        have HRR := Lib.hid HRR0'
        have HTR := Lib.hid HTR0'
        have HD8 : Hid (HfD w8 (fun k => w.heap.size < k) { kind := (tag : Int), sets := l } (.slice A1 l.length cap1) (.slice none 0 0)) := ⟨⟨A1, cap1, rfl, ⟨by show l.length ≤ _; omega, hnc⟩, by rw [Nat.mul_comm]; exact HVV0'.mono (fun k _ h => by have h5 : w5.heap.size ≤ k := h; have := HLT5.out; omega)⟩, ⟨none, 0, rfl, ⟨Nat.zero_le _, Nat.zero_le _⟩, View.none_ _ _ _⟩⟩
        clear hw8 HBX0' HE' HRR0' HTR0' HVV0' HBX0 HE HRR0 HTR0 HVV0 b0 z0 hb6 k6
        have hs1 : s.1.length = 0 := by rw [hst]; rfl
        refine (rleft_st HTR.out).mono ?_
        rintro e w9 ⟨rfl, k9, rfl⟩
        have c9 := (Chg.refl none_ w8).drewN k9
        generalize w8.drewN k9 = w9 at c9 ⊢
        have HBX9 := Lib.hid (HBX.out.chg c9 (fun h => h))
        have HRES9 := Lib.hid (HRES.out.chg c9 (fun h => h))
        have HRR9 := Lib.hid (HRR.out.chg c9 (fun h => h))
        have HC9 := Lib.hid (HC8.out.trans c9)
        have HD9 := Lib.hid (HD8.out.chg c9 (fun _ _ h => h))
        clear hz1 hz2
        rw [hs1]
        have HRT9 := Lib.hid (rright_four ({ kind := (tag : Int), sets := l }) (.slice A1 l.length cap1) (.slice none 0 0) w9 _ HD9.out (by show (tag : Int) = 4; have := HTK.out; omega))
        rw [hr] at HRT9
        unfold aggH at HRT9
        go_wp2_with (first | ((with_reducible show wpList _ _ _ (⟨_, .load 26 (.tmp 5), _, _, _, _⟩ :: _) _ _); refine wpList_load_Row rfl rfl rfl HBX9.out Tryd.underlying26 rfl sizeH ?_) | (go_at_call 13; refine (HRT9.out).mono ?_; rintro e w10 ⟨rfl, d10⟩; have HRES10 := Lib.hid (HRES9.out.chg d10 (fun h => h)); have HC10 := Lib.hid (HC9.out.trans d10)) | ((with_reducible show wpList _ _ _ (⟨_, .store 26 (.tmp 2) _, _, _, _, _⟩ :: _) _ _); refine wpList_store_Row (xs := zcH) rfl rfl rfl HRES10.out rfl rfl sizeH rfl ?_; intro w11 hr11 hch11 _; have c11 := hch11 none_ w HC10.out (fun h => absurd h (Nat.lt_irrefl _))))
        refine ret_row3 rfl rfl hr11 Tryd.underlying26 rfl sizeH rfl ?_
        exact ⟨_, _, rfl, zeroD _ _, c11⟩

set_option maxRecDepth 100000 in
set_option maxHeartbeats 4000000 in
theorem rnext_sets_left (hv : View w (fun _ => True) A b.length (u8s b)) (hm : b.length ≤ 1000000) (hcap : b.length ≤ c) (hb : ∀ x ∈ b, x < 256) (tag n : Nat) (s1 s2 : St) (own : List Nat) (s3 : St) (e1 : rdInt (b, 0) = (tag, s1)) (hf : ¬ (tag = 2 ∨ tag = 6 ∨ tag = 8 ∨ tag = 9)) (e2 : rdInt s1 = (n, s2)) (e3 : rdBytes n s2 = (own, s3)) (hz1 : s1.2 = 0) (hz3 : s3.2 = 0) (L : List (Nat × Nat)) (st : St) (e5 : takeS 17 [] (own, 0) = (L, st)) (hk : tag = 4) (hst0 : st.2 = 0) (hst1 : st.1 ≠ []) :
    Calls Tryd.prog 20 #[.slice A b.length c] w (RNextPost ({}, 0, 3) w) := by
  have E5 := Lib.hid e5
  have HTK := Lib.hid hk
  clear e5 hk
  have E1 := Lib.hid e1
  have E2 := Lib.hid e2
  have E3 := Lib.hid e3
  clear e1 e2 e3
  have HV := Lib.hid hv
  have HB := Lib.hid hb
  clear hv hb
  go_enter Tryd.func20, Tryd.ntmps20
  go_wp2_with fail
  have HM0 := Lib.hid (rmade w A c b HV.out hm hcap HB.out _ rfl)
  refine (rint_st HM0.out.rd (by omega)).mono ?_
  rw [E1.out]
  simp only
  rintro e w2 ⟨rfl, x2, d2⟩
  have HM := Lib.hid (HM0.out.read x2 d2)
  have hbad := HM.out.bad
  rw [hz1] at hbad
  clear x2 d2 HM0 E1 hz1
  have n2 : ((tag : Int) == 2) = false := by rw [beq_eq_false_iff_ne]; omega
  have n6 : ((tag : Int) == 6) = false := by rw [beq_eq_false_iff_ne]; omega
  have n8 : ((tag : Int) == 8) = false := by rw [beq_eq_false_iff_ne]; omega
  have n9 : ((tag : Int) == 9) = false := by rw [beq_eq_false_iff_ne]; omega
  go_wp2_with fail
  refine (rint_st HM.out.rd (by omega)).mono ?_
  rw [E2.out]
  simp only
  rintro e w3 ⟨rfl, x3, d3⟩
  have HM3 := Lib.hid (HM.out.read x3 d3)
  clear x3 d3 HM hbad n2 n6 n8 n9
  go_wp2_with fail
  refine (rbytes_stc n HM3.out.rd (by omega)).mono ?_
  rw [E3.out]
  simp only
  rintro e w4 ⟨A4, k4, rfl, hk4, hv4, x4, d4⟩
  have HM := Lib.hid (HM3.out.read x4 d4)
  have hbad := HM.out.bad
  rw [hz3] at hbad
  obtain ⟨Ar, cr, hrow⟩ := HM.out.rd.place hz3
  have hol : own.length ≤ 1000000 := by
    have q := congrArg (fun x => x.1.length) E3.out
    have h3 := HM3.out.rd.len
    have h4 := rdBytes_le2 n s2 h3
    simp only at q
    omega
  have hob : ∀ x ∈ own, x < 256 := by
    have q := rdBytes_mem n s2 HM3.out.rd.mem
    rw [E3.out] at q
    exact q.1
  have HROW := Lib.hid hrow
  have hlt3 := HM3.out.rd.lt
  have HV4 := Lib.hid (hv4.mono (T' := fun k => w.heap.size + 1 + 1 < k ∧ k < w4.heap.size) (fun k hk q => ⟨Nat.lt_of_lt_of_le hlt3 q, hk⟩))
  have HK4 := Lib.hid hk4
  have HOB := Lib.hid hob
  clear x4 d4 HM3 hv4 hrow hk4 hob E2 E3
  have HX := Lib.hid (fun w' (hc : Chg none_ w4 w') => (⟨(HM.out.box.chg hc (fun h => h)), (HROW.out.chg hc (fun h => h)), (HM.out.res.chg hc (fun h => h))⟩ : _ ∧ _ ∧ _))
  have hlt4 := HM.out.rd.lt
  obtain ⟨iS, hS0, hS1, hS2, hS3⟩ := info_parts infoS
  obtain ⟨w5, hw5⟩ : ∃ u, u = (w4.alloc (.cells [Value.slice A4 own.length k4, .int .i64 0, .int .i64 0].toArray 67)) := ⟨_, rfl⟩
  have hC5 : Chg none_ w4 w5 := by rw [hw5]; exact (Chg.refl none_ w4).alloc _
  have HC5 := Lib.hid hC5
  have hT5 : RS w5 w4.heap.size (fun k => w.heap.size + 1 + 1 < k ∧ k < w4.heap.size) own (own, 0) := by
    rw [hw5]
    exact ⟨0, ⟨A4, k4, Row.new w4 67 [Value.slice A4 own.length k4, .int .i64 0, .int .i64 0], HK4.out, Nat.zero_le _, hol, HV4.out.chg ((Chg.refl none_ w4).alloc _) (fun _ _ h => h)⟩, fun _ => rfl, fun q => absurd rfl q, HOB.out⟩
  have HLT5 : Hid (w4.heap.size < w5.heap.size) := by show _ < _; rw [hw5]; simp
  have HW5 := Lib.hid hw5
  clear hw5
  have S0 : SetsAt w5 (w.heap.size + 1) w5.heap.size 0 [] := ⟨.slice none 0 0, (HX.out w5 hC5).1, World.ownsRow_nil _ _ _ _⟩
  have hk := HTK.out
  have t0 : ((tag : Int) == 0) = false := by rw [beq_eq_false_iff_ne]; omega
  have t1 : ((tag : Int) == 1) = false := by rw [beq_eq_false_iff_ne]; omega
  have t3 : ((tag : Int) == 3) = false := by rw [beq_eq_false_iff_ne]; omega
  have t7 : ((tag : Int) == 7) = false := by rw [beq_eq_false_iff_ne]; omega
  have t13 : ((tag : Int) == 13) = false := by rw [beq_eq_false_iff_ne]; omega
  have t4 : ((tag : Int) == 4) = true := by rw [beq_iff_eq]; omega
  have htw : IntKind.i64.wrap (tag : Int) = (tag : Int) := IntWalk.i64_in _ (by omega)
  clear hk
  go_wp2_with fail
  rw [← HW5.out]
  go_loopw [11, 12] (fun _ _ wr => ∃ (l : List (Nat × Nat)) (s : St), l.length ≤ 17 ∧ SetsAt wr (w.heap.size + 1) w5.heap.size 0 l ∧ RS wr w4.heap.size (fun k => w.heap.size + 1 + 1 < k ∧ k < w4.heap.size) own s ∧ Chg (fun k => k = w.heap.size + 1 ∨ k = w4.heap.size) w5 wr ∧ Hid (takeS 17 [] (own, 0) = takeS (17 - l.length) l s)) (fun _ _ wr => 17 - setsLen wr (w.heap.size + 1))
  case atStart => exact ⟨[], (own, 0), by simp, S0, hT5, Chg.refl _ _, rfl⟩
  case round =>
    obtain ⟨l, s, hll, hsa, hrd, hch, heq⟩ := hrel
    clear S0 hT5
    have hlen := hsa.len
    obtain ⟨ss, hrow, hown⟩ := hsa
    obtain ⟨A1, cap1, rfl, hnc, hmc, hvw⟩ := view_ownN hown
    have k2 : wr.cell? ⟨w.heap.size + 1, 2, none⟩ = some (.slice A1 l.length cap1) := hrow.cell 2
    have HROWB := Lib.hid hrow
    have HOWN := Lib.hid hown
    have HVW := Lib.hid hvw
    have HLEN := Lib.hid hlen
    have HCH := Lib.hid hch
    have HRDS := Lib.hid hrd
    clear hrow hown hvw hlen hch hrd
    by_cases hgo : s.1 ≠ [] ∧ l.length < 17
    · have hz1 : (0 : Int) < (s.1.length : Int) := by have := List.length_pos_iff.2 hgo.1; omega
      have hz2 := decide_eq_true hz1
      have h17 : (l.length : Int) < 17 := by omega
      have HE : Hid (takeS 17 [] (own, 0) = takeS (17 - (l.length + 1)) (l ++ [((rdInt s).1, (rdInt (rdInt s).2).1)]) (rdInt (rdInt s).2).2) := by
        have h1 := heq.out
        rw [show 17 - l.length = (17 - (l.length + 1)) + 1 from by omega, takeS_on _ l s hgo.1] at h1
        exact h1
      have hl16 : l.length ≤ 16 := by omega
      clear heq hgo
      go_wp2_with fail
      refine (rleft_st HRDS.out).mono ?_
      rintro e w6 ⟨rfl, kk, rfl⟩
      have d6 := (Chg.refl none_ wr).drewN kk
      have k6 : (wr.drewN kk).cell? ⟨w.heap.size + 1, 2, none⟩ = some (.slice A1 l.length cap1) := k2
      generalize wr.drewN kk = w6 at d6 k6 ⊢
      generalize s.1.length = sl at hz1 hz2 ⊢
      go_wp2_with fail
      refine (rint_st (HRDS.out.chg d6 (fun h => h) (fun _ _ h => h)) (by omega)).mono ?_
      rintro e w7 ⟨rfl, x7, d7⟩
      have HX7 := Lib.hid x7
      clear x7
      go_wp2_with fail
      refine (rint_st HX7.out (by omega)).mono ?_
      rintro e w8 ⟨rfl, x8, d8⟩
      have d78 := d7.trans d8
      have hrow8 := (HROWB.out.chg d6 (fun h => h)).chg d78 (fun e => by omega)
      have k8 : w8.cell? ⟨w.heap.size + 1, 2, none⟩ = some (.slice A1 l.length cap1) := hrow8.cell 2
      have f8 := hrow8.frozen 2
      have HOWN8 := Lib.hid (ownsRow_chg (ownsRow_chg HOWN.out d6 (fun _ _ h => h)) d78 (fun k hk e => by have := HLT5.out; omega))
      have HROW8 := Lib.hid hrow8
      have HX8 := Lib.hid x8
      have HC8 := Lib.hid ((HCH.out.andThen d6 (fun k hk e => e.elim)).andThen d78 (fun k hk e => Or.inr e))
      have hs8 := HC8.out.size
      clear d6 d7 d8 d78 x8 hrow8 k2 k6 HX7
      have HX8' := HX8
      generalize (rdInt (rdInt s).2).2 = s8 at *
      generalize (rdInt (rdInt s).2).1 = x2 at *
      generalize (rdInt s).1 = x1 at *
      go_wp2_with (at_builtin; refine wpList_append_viewN rfl _ _ 23 rfl 49 iS _ 2 _ Tryd.underlying23 hS0 hS1 hS2 hS3 rfl (by decide) w5.heap.size (.slice A1 l.length cap1) l.length (rcells l) rfl (ownsRow_chg HOWN8.out ((Chg.refl none_ w8).alloc (.cells [Value.int .u64 (x1 : Nat), .int .u64 (x2 : Nat)].toArray 49)) (fun _ _ h => h)) (fun _ => True) (some ⟨w8.heap.size, 0, none⟩) 1 1 (rcells [(x1, x2)]) rfl (View.row (cs := rcells [(x1, x2)]) (Row.new w8 49 _) (n := 2) (by simp [rcells]) trivial) (rcells_one _) (by unfold maxLen; omega) (by omega) (by simp; omega) ?_; intro v9 w9 hown9 hgrow9; obtain ⟨A9, cap9, rfl, _, _, _⟩ := view_ownN hown9; have hc9 : Chg (fun k => w5.heap.size ≤ k) w8 w9 := ((Chg.refl none_ w8).alloc (.cells [Value.int .u64 (x1 : Nat), .int .u64 (x2 : Nat)].toArray 49)).mono (fun _ _ h => h.elim) |>.grown hgrow9 (fun k hk _ => ((ownsRow_chg HOWN8.out ((Chg.refl none_ w8).alloc (.cells [Value.int .u64 (x1 : Nat), .int .u64 (x2 : Nat)].toArray 49)) (fun _ _ h => h)).lt k hk).1); have hrow9 := HROW8.out.chg hc9 (fun h => by have h5 : w5.heap.size ≤ w.heap.size + 1 := h; have := HLT5.out; omega); have k9 : w9.cell? ⟨w.heap.size + 1, 2, none⟩ = some (.slice A1 l.length cap1) := hrow9.cell 2; have f9 := hrow9.frozen 2)
      have hch5 : Chg (· = w.heap.size + 1) w9 (w9.setCell ⟨w.heap.size + 1, 2, none⟩ (.slice A9 (l.length + 1) cap9)) := Chg.setCell (S := (· = w.heap.size + 1)) (Chg.refl _ _) (p := ⟨w.heap.size + 1, 2, none⟩) (fun _ => rfl) _
      have hrow5 := hrow9.set 2 (.slice A9 (l.length + 1) cap9)
      have hown5 := ownsRow_chg hown9 hch5 (fun k hk e => by have h5 : k = w.heap.size + 1 := e; have := HLT5.out; omega)
      have hrd5 := (HX8.out.chg hc9 (fun h => by have h5 : w5.heap.size ≤ w4.heap.size := h; have := HLT5.out; omega) (fun k hk h => by have h5 : w5.heap.size ≤ k := h; have := hk.2; have := HLT5.out; omega)).chg hch5 (fun e => by have h5 : w4.heap.size = w.heap.size + 1 := e; omega) (fun k hk e => by have h5 : k = w.heap.size + 1 := e; have := hk.1; omega)
      have hsa5 : SetsAt (w9.setCell ⟨w.heap.size + 1, 2, none⟩ (.slice A9 (l.length + 1) cap9)) (w.heap.size + 1) w5.heap.size 0 (l ++ [(x1, x2)]) := by
        refine ⟨.slice A9 (l.length + 1) cap9, hrow5, ?_⟩
        rw [rcells_append, List.length_append]
        exact hown5
      have hch6 : Chg (fun k => k = w.heap.size + 1 ∨ k = w4.heap.size) w5 (w9.setCell ⟨w.heap.size + 1, 2, none⟩ (.slice A9 (l.length + 1) cap9)) := (HC8.out.andThen hc9 (fun k hk h => by have h5 : w5.heap.size ≤ k := h; omega)).trans (hch5.mono (fun _ _ h => Or.inl h))
      go_roundw
      case rel =>
        refine ⟨l ++ [(x1, x2)], s8, by simp; omega, hsa5, hrd5, hch6, ?_⟩
        rw [List.length_append]
        exact HE.out
      case measure =>
        rw [hsa5.len, HLEN.out]
        simp
        omega
    · have hE : (l, s) = (L, st) := by
        rw [← E5.out, heq.out]
        by_cases h1 : s.1 = []
        · exact (takeS_stop _ l s h1).symm
        · have h2 : l.length = 17 := by
            rcases Nat.lt_or_ge l.length 17 with q | q
            · exact absurd ⟨h1, q⟩ hgo
            · omega
          rw [h2]; rfl
      have hEl : l = L := (Prod.mk.inj hE).1
      have hEs : s = st := (Prod.mk.inj hE).2
      subst hEl
      subst hEs
      clear hE heq
      have hcond : ¬ ((0 : Int) < (s.1.length : Int)) ∨ ((0 : Int) < (s.1.length : Int) ∧ ¬ (l.length : Int) < 17) := by
        by_cases h1 : s.1 = []
        · left; rw [h1]; simp
        · right
          have := List.length_pos_iff.2 h1
          refine ⟨by omega, fun q => hgo ⟨h1, by omega⟩⟩
      clear hgo
      rcases hcond with hz1 | ⟨hz1, h17⟩
      · exact absurd (show (0 : Int) < (s.1.length : Int) by have := List.length_pos_iff.2 hst1; omega) hz1
      · have hz2 := decide_eq_true hz1
        go_wp2_with fail
        refine (rleft_st HRDS.out).mono ?_
        rintro e w6 ⟨rfl, kk, rfl⟩
        have d6 := (Chg.refl none_ wr).drewN kk
        have k6 : (wr.drewN kk).cell? ⟨w.heap.size + 1, 2, none⟩ = some (.slice A1 l.length cap1) := k2
        generalize wr.drewN kk = w6 at d6 k6 ⊢
        obtain ⟨y1, y2, y3⟩ := HX.out _ HC5.out
        have d56 := HCH.out.andThen d6 (fun k hk e => e.elim)
        have x1 := HROWB.out.chg d6 (fun h => h)
        have x2 := y2.chg d56 (fun e => by omega)
        have x3 := y3.chg d56 (fun e => by omega)
        have x6 := HRDS.out.chg d6 (fun h => h) (fun _ _ h => h)
        have b0 : w6.cell? ⟨w.heap.size + 1, 0, none⟩ = some (.int .i64 0) := x1.cell 0
        have z0 := x1.frozen 0
        have hb6 : w6.cell? ⟨w4.heap.size, 2, none⟩ = some (.int .i64 s.2) := by
          obtain ⟨_, _, _, q⟩ := x6.bad
          exact q.cell 2
        have n1 : ¬ w4.heap.size = w.heap.size + 1 := by omega
        have n2 : ¬ w.heap.size + 1 = w4.heap.size := by omega
        have hS : Chg (· = w.heap.size + 1) w6 (World.setCell w6 ⟨w.heap.size + 1, 0, none⟩ (.int .i64 (tag : Nat))) := Chg.setCell (S := (· = w.heap.size + 1)) (Chg.refl _ _) (p := ⟨w.heap.size + 1, 0, none⟩) (fun _ => rfl) _
        have HE : Hid (Row (World.setCell w6 ⟨w.heap.size + 1, 0, none⟩ (.int .i64 (tag : Nat))) w.heap.size 26 zcH ∧ Chg none_ w (World.setCell w6 ⟨w.heap.size + 1, 0, none⟩ (.int .i64 (tag : Nat)))) := ⟨x3.chg hS (fun e => by omega), ((HM.out.chg.trans HC5.out).andThen d56 (fun k hk e => by omega)).andThen hS (fun k hk e => by omega)⟩
        have HBX0 : Hid (Row (World.setCell w6 ⟨w.heap.size + 1, 0, none⟩ (.int .i64 (tag : Nat))) (w.heap.size + 1) 26 (cellsH { kind := (tag : Int), sets := l } (.slice A1 l.length cap1) (.slice none 0 0))) := x1.set 0 _
        have HRR0 := Lib.hid (x2.chg hS (fun e => by omega))
        have HTR0 := Lib.hid (x6.chg hS (fun e => by omega) (fun k hk e => by omega))
        have HVV0 := Lib.hid ((HVW.out.chg d6 (fun _ _ h => h)).chg hS (fun k hk e => by have h5 : k = w.heap.size + 1 := e; have := HLT5.out; omega))
        clear hS x1 x2 x3 y1 y2 y3 x6 d56 d6 k2
        rw [hst0] at hb6
        go_wp2_with fail
        have HBX0' := HBX0.out
        have HE' := HE.out
        have HRR0' := HRR0.out
        have HTR0' := HTR0.out
        have HVV0' := HVV0.out
        obtain ⟨w8, hw8⟩ : ∃ u, u = (World.setCell w6 ⟨w.heap.size + 1, 0, none⟩ (.int .i64 (tag : Nat))) := ⟨_, rfl⟩
        rw [← hw8] at HBX0' HE' HRR0' HTR0' HVV0' ⊢
        have HBX := Lib.hid HBX0'
        have HRES := Lib.hid HE'.1
        have HC8 := Lib.hid HE'.2
        have HRR := Lib.hid HRR0'
        have HTR := Lib.hid HTR0'
        have HD8 : Hid (HfD w8 (fun k => w.heap.size < k) { kind := (tag : Int), sets := l } (.slice A1 l.length cap1) (.slice none 0 0)) := ⟨⟨A1, cap1, rfl, ⟨by show l.length ≤ _; omega, hnc⟩, by rw [Nat.mul_comm]; exact HVV0'.mono (fun k _ h => by have h5 : w5.heap.size ≤ k := h; have := HLT5.out; omega)⟩, ⟨none, 0, rfl, ⟨Nat.zero_le _, Nat.zero_le _⟩, View.none_ _ _ _⟩⟩
        clear hw8 HBX0' HE' HRR0' HTR0' HVV0' HBX0 HE HRR0 HTR0 HVV0 b0 z0 hb6 k6
        refine (rleft_st HTR.out).mono ?_
        rintro e w9 ⟨rfl, k9, rfl⟩
        have c9 := (Chg.refl none_ w8).drewN k9
        generalize w8.drewN k9 = w9 at c9 ⊢
        have HBX9 := Lib.hid (HBX.out.chg c9 (fun h => h))
        have HRES9 := Lib.hid (HRES.out.chg c9 (fun h => h))
        have HRR9 := Lib.hid (HRR.out.chg c9 (fun h => h))
        have HC9 := Lib.hid (HC8.out.trans c9)
        have HD9 := Lib.hid (HD8.out.chg c9 (fun _ _ h => h))
        have hll2 : (0 : Int) < (s.1.length : Int) := by
          have q := List.length_pos_iff.2 hst1
          omega
        clear hz1 hz2
        generalize s.1.length = sl at *
        go_wp2_with (first | ((with_reducible show wpList _ _ _ (⟨_, .store 26 (.tmp 2) _, _, _, _, _⟩ :: _) _ _); refine wpList_store_Row (xs := zcH) rfl rfl rfl HRES9.out rfl rfl sizeH rfl ?_; intro w11 hr11 hch11 _; have c11 := hch11 none_ w HC9.out (fun h => absurd h (Nat.lt_irrefl _))))
        refine ret_row3 rfl rfl hr11 Tryd.underlying26 rfl sizeH rfl ?_
        exact ⟨_, _, rfl, zeroD _ _, c11⟩

set_option maxRecDepth 100000 in
set_option maxHeartbeats 4000000 in
theorem rnext_sets_bad (hv : View w (fun _ => True) A b.length (u8s b)) (hm : b.length ≤ 1000000) (hcap : b.length ≤ c) (hb : ∀ x ∈ b, x < 256) (tag n : Nat) (s1 s2 : St) (own : List Nat) (s3 : St) (e1 : rdInt (b, 0) = (tag, s1)) (hf : ¬ (tag = 2 ∨ tag = 6 ∨ tag = 8 ∨ tag = 9)) (e2 : rdInt s1 = (n, s2)) (e3 : rdBytes n s2 = (own, s3)) (hz1 : s1.2 = 0) (hz3 : s3.2 = 0) (L : List (Nat × Nat)) (st : St) (e5 : takeS 17 [] (own, 0) = (L, st)) (hk : tag = 4) (hst0 : st.2 ≠ 0) :
    Calls Tryd.prog 20 #[.slice A b.length c] w (RNextPost ({}, 0, 3) w) := by
  have E5 := Lib.hid e5
  have HTK := Lib.hid hk
  clear e5 hk
  have E1 := Lib.hid e1
  have E2 := Lib.hid e2
  have E3 := Lib.hid e3
  clear e1 e2 e3
  have HV := Lib.hid hv
  have HB := Lib.hid hb
  clear hv hb
  go_enter Tryd.func20, Tryd.ntmps20
  go_wp2_with fail
  have HM0 := Lib.hid (rmade w A c b HV.out hm hcap HB.out _ rfl)
  refine (rint_st HM0.out.rd (by omega)).mono ?_
  rw [E1.out]
  simp only
  rintro e w2 ⟨rfl, x2, d2⟩
  have HM := Lib.hid (HM0.out.read x2 d2)
  have hbad := HM.out.bad
  rw [hz1] at hbad
  clear x2 d2 HM0 E1 hz1
  have n2 : ((tag : Int) == 2) = false := by rw [beq_eq_false_iff_ne]; omega
  have n6 : ((tag : Int) == 6) = false := by rw [beq_eq_false_iff_ne]; omega
  have n8 : ((tag : Int) == 8) = false := by rw [beq_eq_false_iff_ne]; omega
  have n9 : ((tag : Int) == 9) = false := by rw [beq_eq_false_iff_ne]; omega
  go_wp2_with fail
  refine (rint_st HM.out.rd (by omega)).mono ?_
  rw [E2.out]
  simp only
  rintro e w3 ⟨rfl, x3, d3⟩
  have HM3 := Lib.hid (HM.out.read x3 d3)
  clear x3 d3 HM hbad n2 n6 n8 n9
  go_wp2_with fail
  refine (rbytes_stc n HM3.out.rd (by omega)).mono ?_
  rw [E3.out]
  simp only
  rintro e w4 ⟨A4, k4, rfl, hk4, hv4, x4, d4⟩
  have HM := Lib.hid (HM3.out.read x4 d4)
  have hbad := HM.out.bad
  rw [hz3] at hbad
  obtain ⟨Ar, cr, hrow⟩ := HM.out.rd.place hz3
  have hol : own.length ≤ 1000000 := by
    have q := congrArg (fun x => x.1.length) E3.out
    have h3 := HM3.out.rd.len
    have h4 := rdBytes_le2 n s2 h3
    simp only at q
    omega
  have hob : ∀ x ∈ own, x < 256 := by
    have q := rdBytes_mem n s2 HM3.out.rd.mem
    rw [E3.out] at q
    exact q.1
  have HROW := Lib.hid hrow
  have hlt3 := HM3.out.rd.lt
  have HV4 := Lib.hid (hv4.mono (T' := fun k => w.heap.size + 1 + 1 < k ∧ k < w4.heap.size) (fun k hk q => ⟨Nat.lt_of_lt_of_le hlt3 q, hk⟩))
  have HK4 := Lib.hid hk4
  have HOB := Lib.hid hob
  clear x4 d4 HM3 hv4 hrow hk4 hob E2 E3
  have HX := Lib.hid (fun w' (hc : Chg none_ w4 w') => (⟨(HM.out.box.chg hc (fun h => h)), (HROW.out.chg hc (fun h => h)), (HM.out.res.chg hc (fun h => h))⟩ : _ ∧ _ ∧ _))
  have hlt4 := HM.out.rd.lt
  obtain ⟨iS, hS0, hS1, hS2, hS3⟩ := info_parts infoS
  obtain ⟨w5, hw5⟩ : ∃ u, u = (w4.alloc (.cells [Value.slice A4 own.length k4, .int .i64 0, .int .i64 0].toArray 67)) := ⟨_, rfl⟩
  have hC5 : Chg none_ w4 w5 := by rw [hw5]; exact (Chg.refl none_ w4).alloc _
  have HC5 := Lib.hid hC5
  have hT5 : RS w5 w4.heap.size (fun k => w.heap.size + 1 + 1 < k ∧ k < w4.heap.size) own (own, 0) := by
    rw [hw5]
    exact ⟨0, ⟨A4, k4, Row.new w4 67 [Value.slice A4 own.length k4, .int .i64 0, .int .i64 0], HK4.out, Nat.zero_le _, hol, HV4.out.chg ((Chg.refl none_ w4).alloc _) (fun _ _ h => h)⟩, fun _ => rfl, fun q => absurd rfl q, HOB.out⟩
  have HLT5 : Hid (w4.heap.size < w5.heap.size) := by show _ < _; rw [hw5]; simp
  have HW5 := Lib.hid hw5
  clear hw5
  have S0 : SetsAt w5 (w.heap.size + 1) w5.heap.size 0 [] := ⟨.slice none 0 0, (HX.out w5 hC5).1, World.ownsRow_nil _ _ _ _⟩
  have hk := HTK.out
  have t0 : ((tag : Int) == 0) = false := by rw [beq_eq_false_iff_ne]; omega
  have t1 : ((tag : Int) == 1) = false := by rw [beq_eq_false_iff_ne]; omega
  have t3 : ((tag : Int) == 3) = false := by rw [beq_eq_false_iff_ne]; omega
  have t7 : ((tag : Int) == 7) = false := by rw [beq_eq_false_iff_ne]; omega
  have t13 : ((tag : Int) == 13) = false := by rw [beq_eq_false_iff_ne]; omega
  have t4 : ((tag : Int) == 4) = true := by rw [beq_iff_eq]; omega
  have htw : IntKind.i64.wrap (tag : Int) = (tag : Int) := IntWalk.i64_in _ (by omega)
  clear hk
  go_wp2_with fail
  rw [← HW5.out]
  go_loopw [11, 12] (fun _ _ wr => ∃ (l : List (Nat × Nat)) (s : St), l.length ≤ 17 ∧ SetsAt wr (w.heap.size + 1) w5.heap.size 0 l ∧ RS wr w4.heap.size (fun k => w.heap.size + 1 + 1 < k ∧ k < w4.heap.size) own s ∧ Chg (fun k => k = w.heap.size + 1 ∨ k = w4.heap.size) w5 wr ∧ Hid (takeS 17 [] (own, 0) = takeS (17 - l.length) l s)) (fun _ _ wr => 17 - setsLen wr (w.heap.size + 1))
  case atStart => exact ⟨[], (own, 0), by simp, S0, hT5, Chg.refl _ _, rfl⟩
  case round =>
    obtain ⟨l, s, hll, hsa, hrd, hch, heq⟩ := hrel
    clear S0 hT5
    have hlen := hsa.len
    obtain ⟨ss, hrow, hown⟩ := hsa
    obtain ⟨A1, cap1, rfl, hnc, hmc, hvw⟩ := view_ownN hown
    have k2 : wr.cell? ⟨w.heap.size + 1, 2, none⟩ = some (.slice A1 l.length cap1) := hrow.cell 2
    have HROWB := Lib.hid hrow
    have HOWN := Lib.hid hown
    have HVW := Lib.hid hvw
    have HLEN := Lib.hid hlen
    have HCH := Lib.hid hch
    have HRDS := Lib.hid hrd
    clear hrow hown hvw hlen hch hrd
    by_cases hgo : s.1 ≠ [] ∧ l.length < 17
    · have hz1 : (0 : Int) < (s.1.length : Int) := by have := List.length_pos_iff.2 hgo.1; omega
      have hz2 := decide_eq_true hz1
      have h17 : (l.length : Int) < 17 := by omega
      have HE : Hid (takeS 17 [] (own, 0) = takeS (17 - (l.length + 1)) (l ++ [((rdInt s).1, (rdInt (rdInt s).2).1)]) (rdInt (rdInt s).2).2) := by
        have h1 := heq.out
        rw [show 17 - l.length = (17 - (l.length + 1)) + 1 from by omega, takeS_on _ l s hgo.1] at h1
        exact h1
      have hl16 : l.length ≤ 16 := by omega
      clear heq hgo
      go_wp2_with fail
      refine (rleft_st HRDS.out).mono ?_
      rintro e w6 ⟨rfl, kk, rfl⟩
      have d6 := (Chg.refl none_ wr).drewN kk
      have k6 : (wr.drewN kk).cell? ⟨w.heap.size + 1, 2, none⟩ = some (.slice A1 l.length cap1) := k2
      generalize wr.drewN kk = w6 at d6 k6 ⊢
      generalize s.1.length = sl at hz1 hz2 ⊢
      go_wp2_with fail
      refine (rint_st (HRDS.out.chg d6 (fun h => h) (fun _ _ h => h)) (by omega)).mono ?_
      rintro e w7 ⟨rfl, x7, d7⟩
      have HX7 := Lib.hid x7
      clear x7
      go_wp2_with fail
      refine (rint_st HX7.out (by omega)).mono ?_
      rintro e w8 ⟨rfl, x8, d8⟩
      have d78 := d7.trans d8
      have hrow8 := (HROWB.out.chg d6 (fun h => h)).chg d78 (fun e => by omega)
      have k8 : w8.cell? ⟨w.heap.size + 1, 2, none⟩ = some (.slice A1 l.length cap1) := hrow8.cell 2
      have f8 := hrow8.frozen 2
      have HOWN8 := Lib.hid (ownsRow_chg (ownsRow_chg HOWN.out d6 (fun _ _ h => h)) d78 (fun k hk e => by have := HLT5.out; omega))
      have HROW8 := Lib.hid hrow8
      have HX8 := Lib.hid x8
      have HC8 := Lib.hid ((HCH.out.andThen d6 (fun k hk e => e.elim)).andThen d78 (fun k hk e => Or.inr e))
      have hs8 := HC8.out.size
      clear d6 d7 d8 d78 x8 hrow8 k2 k6 HX7
      have HX8' := HX8
      generalize (rdInt (rdInt s).2).2 = s8 at *
      generalize (rdInt (rdInt s).2).1 = x2 at *
      generalize (rdInt s).1 = x1 at *
      go_wp2_with (at_builtin; refine wpList_append_viewN rfl _ _ 23 rfl 49 iS _ 2 _ Tryd.underlying23 hS0 hS1 hS2 hS3 rfl (by decide) w5.heap.size (.slice A1 l.length cap1) l.length (rcells l) rfl (ownsRow_chg HOWN8.out ((Chg.refl none_ w8).alloc (.cells [Value.int .u64 (x1 : Nat), .int .u64 (x2 : Nat)].toArray 49)) (fun _ _ h => h)) (fun _ => True) (some ⟨w8.heap.size, 0, none⟩) 1 1 (rcells [(x1, x2)]) rfl (View.row (cs := rcells [(x1, x2)]) (Row.new w8 49 _) (n := 2) (by simp [rcells]) trivial) (rcells_one _) (by unfold maxLen; omega) (by omega) (by simp; omega) ?_; intro v9 w9 hown9 hgrow9; obtain ⟨A9, cap9, rfl, _, _, _⟩ := view_ownN hown9; have hc9 : Chg (fun k => w5.heap.size ≤ k) w8 w9 := ((Chg.refl none_ w8).alloc (.cells [Value.int .u64 (x1 : Nat), .int .u64 (x2 : Nat)].toArray 49)).mono (fun _ _ h => h.elim) |>.grown hgrow9 (fun k hk _ => ((ownsRow_chg HOWN8.out ((Chg.refl none_ w8).alloc (.cells [Value.int .u64 (x1 : Nat), .int .u64 (x2 : Nat)].toArray 49)) (fun _ _ h => h)).lt k hk).1); have hrow9 := HROW8.out.chg hc9 (fun h => by have h5 : w5.heap.size ≤ w.heap.size + 1 := h; have := HLT5.out; omega); have k9 : w9.cell? ⟨w.heap.size + 1, 2, none⟩ = some (.slice A1 l.length cap1) := hrow9.cell 2; have f9 := hrow9.frozen 2)
      have hch5 : Chg (· = w.heap.size + 1) w9 (w9.setCell ⟨w.heap.size + 1, 2, none⟩ (.slice A9 (l.length + 1) cap9)) := Chg.setCell (S := (· = w.heap.size + 1)) (Chg.refl _ _) (p := ⟨w.heap.size + 1, 2, none⟩) (fun _ => rfl) _
      have hrow5 := hrow9.set 2 (.slice A9 (l.length + 1) cap9)
      have hown5 := ownsRow_chg hown9 hch5 (fun k hk e => by have h5 : k = w.heap.size + 1 := e; have := HLT5.out; omega)
      have hrd5 := (HX8.out.chg hc9 (fun h => by have h5 : w5.heap.size ≤ w4.heap.size := h; have := HLT5.out; omega) (fun k hk h => by have h5 : w5.heap.size ≤ k := h; have := hk.2; have := HLT5.out; omega)).chg hch5 (fun e => by have h5 : w4.heap.size = w.heap.size + 1 := e; omega) (fun k hk e => by have h5 : k = w.heap.size + 1 := e; have := hk.1; omega)
      have hsa5 : SetsAt (w9.setCell ⟨w.heap.size + 1, 2, none⟩ (.slice A9 (l.length + 1) cap9)) (w.heap.size + 1) w5.heap.size 0 (l ++ [(x1, x2)]) := by
        refine ⟨.slice A9 (l.length + 1) cap9, hrow5, ?_⟩
        rw [rcells_append, List.length_append]
        exact hown5
      have hch6 : Chg (fun k => k = w.heap.size + 1 ∨ k = w4.heap.size) w5 (w9.setCell ⟨w.heap.size + 1, 2, none⟩ (.slice A9 (l.length + 1) cap9)) := (HC8.out.andThen hc9 (fun k hk h => by have h5 : w5.heap.size ≤ k := h; omega)).trans (hch5.mono (fun _ _ h => Or.inl h))
      go_roundw
      case rel =>
        refine ⟨l ++ [(x1, x2)], s8, by simp; omega, hsa5, hrd5, hch6, ?_⟩
        rw [List.length_append]
        exact HE.out
      case measure =>
        rw [hsa5.len, HLEN.out]
        simp
        omega
    · have hE : (l, s) = (L, st) := by
        rw [← E5.out, heq.out]
        by_cases h1 : s.1 = []
        · exact (takeS_stop _ l s h1).symm
        · have h2 : l.length = 17 := by
            rcases Nat.lt_or_ge l.length 17 with q | q
            · exact absurd ⟨h1, q⟩ hgo
            · omega
          rw [h2]; rfl
      have hEl : l = L := (Prod.mk.inj hE).1
      have hEs : s = st := (Prod.mk.inj hE).2
      subst hEl
      subst hEs
      clear hE heq
      have hcond : ¬ ((0 : Int) < (s.1.length : Int)) ∨ ((0 : Int) < (s.1.length : Int) ∧ ¬ (l.length : Int) < 17) := by
        by_cases h1 : s.1 = []
        · left; rw [h1]; simp
        · right
          have := List.length_pos_iff.2 h1
          refine ⟨by omega, fun q => hgo ⟨h1, by omega⟩⟩
      clear hgo
      rcases hcond with hz1 | ⟨hz1, h17⟩
      · have hz2 := decide_eq_false hz1
        go_wp2_with fail
        refine (rleft_st HRDS.out).mono ?_
        rintro e w6 ⟨rfl, kk, rfl⟩
        have d6 := (Chg.refl none_ wr).drewN kk
        have k6 : (wr.drewN kk).cell? ⟨w.heap.size + 1, 2, none⟩ = some (.slice A1 l.length cap1) := k2
        generalize wr.drewN kk = w6 at d6 k6 ⊢
        obtain ⟨y1, y2, y3⟩ := HX.out _ HC5.out
        have d56 := HCH.out.andThen d6 (fun k hk e => e.elim)
        have x1 := HROWB.out.chg d6 (fun h => h)
        have x2 := y2.chg d56 (fun e => by omega)
        have x3 := y3.chg d56 (fun e => by omega)
        have x6 := HRDS.out.chg d6 (fun h => h) (fun _ _ h => h)
        have b0 : w6.cell? ⟨w.heap.size + 1, 0, none⟩ = some (.int .i64 0) := x1.cell 0
        have z0 := x1.frozen 0
        have hb6 : w6.cell? ⟨w4.heap.size, 2, none⟩ = some (.int .i64 s.2) := by
          obtain ⟨_, _, _, q⟩ := x6.bad
          exact q.cell 2
        have n1 : ¬ w4.heap.size = w.heap.size + 1 := by omega
        have n2 : ¬ w.heap.size + 1 = w4.heap.size := by omega
        have hS : Chg (· = w.heap.size + 1) w6 (World.setCell w6 ⟨w.heap.size + 1, 0, none⟩ (.int .i64 (tag : Nat))) := Chg.setCell (S := (· = w.heap.size + 1)) (Chg.refl _ _) (p := ⟨w.heap.size + 1, 0, none⟩) (fun _ => rfl) _
        have HE : Hid (Row (World.setCell w6 ⟨w.heap.size + 1, 0, none⟩ (.int .i64 (tag : Nat))) w.heap.size 26 zcH ∧ Chg none_ w (World.setCell w6 ⟨w.heap.size + 1, 0, none⟩ (.int .i64 (tag : Nat)))) := ⟨x3.chg hS (fun e => by omega), ((HM.out.chg.trans HC5.out).andThen d56 (fun k hk e => by omega)).andThen hS (fun k hk e => by omega)⟩
        have HBX0 : Hid (Row (World.setCell w6 ⟨w.heap.size + 1, 0, none⟩ (.int .i64 (tag : Nat))) (w.heap.size + 1) 26 (cellsH { kind := (tag : Int), sets := l } (.slice A1 l.length cap1) (.slice none 0 0))) := x1.set 0 _
        have HRR0 := Lib.hid (x2.chg hS (fun e => by omega))
        have HTR0 := Lib.hid (x6.chg hS (fun e => by omega) (fun k hk e => by omega))
        have HVV0 := Lib.hid ((HVW.out.chg d6 (fun _ _ h => h)).chg hS (fun k hk e => by have h5 : k = w.heap.size + 1 := e; have := HLT5.out; omega))
        clear hS x1 x2 x3 y1 y2 y3 x6 d56 d6 k2
        have nz : (s.2 != 0) = true := by rw [bne_iff_ne]; exact hst0
        go_wp2_with (first | ((with_reducible show wpList _ _ _ (⟨_, .store 26 (.tmp 2) _, _, _, _, _⟩ :: _) _ _); refine wpList_store_Row (xs := zcH) rfl rfl rfl HE.out.1 rfl rfl sizeH rfl ?_; intro w11 hr11 hch11 _; have c11 := hch11 none_ w HE.out.2 (fun h => absurd h (Nat.lt_irrefl _))))
        refine ret_row3 rfl rfl hr11 Tryd.underlying26 rfl sizeH rfl ?_
        exact ⟨_, _, rfl, zeroD _ _, c11⟩
      · have hz2 := decide_eq_true hz1
        go_wp2_with fail
        refine (rleft_st HRDS.out).mono ?_
        rintro e w6 ⟨rfl, kk, rfl⟩
        have d6 := (Chg.refl none_ wr).drewN kk
        have k6 : (wr.drewN kk).cell? ⟨w.heap.size + 1, 2, none⟩ = some (.slice A1 l.length cap1) := k2
        generalize wr.drewN kk = w6 at d6 k6 ⊢
        obtain ⟨y1, y2, y3⟩ := HX.out _ HC5.out
        have d56 := HCH.out.andThen d6 (fun k hk e => e.elim)
        have x1 := HROWB.out.chg d6 (fun h => h)
        have x2 := y2.chg d56 (fun e => by omega)
        have x3 := y3.chg d56 (fun e => by omega)
        have x6 := HRDS.out.chg d6 (fun h => h) (fun _ _ h => h)
        have b0 : w6.cell? ⟨w.heap.size + 1, 0, none⟩ = some (.int .i64 0) := x1.cell 0
        have z0 := x1.frozen 0
        have hb6 : w6.cell? ⟨w4.heap.size, 2, none⟩ = some (.int .i64 s.2) := by
          obtain ⟨_, _, _, q⟩ := x6.bad
          exact q.cell 2
        have n1 : ¬ w4.heap.size = w.heap.size + 1 := by omega
        have n2 : ¬ w.heap.size + 1 = w4.heap.size := by omega
        have hS : Chg (· = w.heap.size + 1) w6 (World.setCell w6 ⟨w.heap.size + 1, 0, none⟩ (.int .i64 (tag : Nat))) := Chg.setCell (S := (· = w.heap.size + 1)) (Chg.refl _ _) (p := ⟨w.heap.size + 1, 0, none⟩) (fun _ => rfl) _
        have HE : Hid (Row (World.setCell w6 ⟨w.heap.size + 1, 0, none⟩ (.int .i64 (tag : Nat))) w.heap.size 26 zcH ∧ Chg none_ w (World.setCell w6 ⟨w.heap.size + 1, 0, none⟩ (.int .i64 (tag : Nat)))) := ⟨x3.chg hS (fun e => by omega), ((HM.out.chg.trans HC5.out).andThen d56 (fun k hk e => by omega)).andThen hS (fun k hk e => by omega)⟩
        have HBX0 : Hid (Row (World.setCell w6 ⟨w.heap.size + 1, 0, none⟩ (.int .i64 (tag : Nat))) (w.heap.size + 1) 26 (cellsH { kind := (tag : Int), sets := l } (.slice A1 l.length cap1) (.slice none 0 0))) := x1.set 0 _
        have HRR0 := Lib.hid (x2.chg hS (fun e => by omega))
        have HTR0 := Lib.hid (x6.chg hS (fun e => by omega) (fun k hk e => by omega))
        have HVV0 := Lib.hid ((HVW.out.chg d6 (fun _ _ h => h)).chg hS (fun k hk e => by have h5 : k = w.heap.size + 1 := e; have := HLT5.out; omega))
        clear hS x1 x2 x3 y1 y2 y3 x6 d56 d6 k2
        have nz : (s.2 != 0) = true := by rw [bne_iff_ne]; exact hst0
        go_wp2_with (first | ((with_reducible show wpList _ _ _ (⟨_, .store 26 (.tmp 2) _, _, _, _, _⟩ :: _) _ _); refine wpList_store_Row (xs := zcH) rfl rfl rfl HE.out.1 rfl rfl sizeH rfl ?_; intro w11 hr11 hch11 _; have c11 := hch11 none_ w HE.out.2 (fun h => absurd h (Nat.lt_irrefl _))))
        refine ret_row3 rfl rfl hr11 Tryd.underlying26 rfl sizeH rfl ?_
        exact ⟨_, _, rfl, zeroD _ _, c11⟩

end
end Go.Proofs.YtcdnjeojgjakdaaDoor
