/- Layer 6 (hframe), the document's words: the frame that bytes begin with: data, an Id. -/
import Derived.Test.YtcdnjeojgjakdaaDoorV6RNext
namespace Go.Proofs.YtcdnjeojgjakdaaDoor
open Go.RowKit

section
variable (w : World) (A : Option Addr) (c : Nat) (b : List Nat)

set_option maxRecDepth 100000 in
set_option maxHeartbeats 4000000 in
theorem rnext_data_ok (hv : View w (fun _ => True) A b.length (u8s b)) (hm : b.length ≤ 1000000) (hcap : b.length ≤ c) (hb : ∀ x ∈ b, x < 256) (tag n : Nat) (s1 s2 : St) (own : List Nat) (s3 : St) (e1 : rdInt (b, 0) = (tag, s1)) (hf : ¬ (tag = 2 ∨ tag = 6 ∨ tag = 8 ∨ tag = 9)) (e2 : rdInt s1 = (n, s2)) (e3 : rdBytes n s2 = (own, s3)) (hz1 : s1.2 = 0) (hz3 : s3.2 = 0) (hk : tag = 0 ∨ tag = 1) (hr : rightH { kind := (tag : Int), data := own } = true) :
    Calls Tryd.prog 20 #[.slice A b.length c] w (RNextPost ({ kind := tag, data := own }, b.length - s3.1.length, 0) w) := by
  have E1 := Lib.hid e1
  have E2 := Lib.hid e2
  have E3 := Lib.hid e3
  clear e1 e2 e3
  have HV := Lib.hid hv
  have HB := Lib.hid hb
  clear hv hb
  go_enter Tryd.func20, Tryd.ntmps20
  go_wp2_with fail
  have HM0 := Lib.hid (rmade w A c b HV.out hm hcap HB.out _ rfl)
  refine (rint_st HM0.out.rd (by omega)).mono ?_
  rw [E1.out]
  simp only
  rintro e w2 ⟨rfl, x2, d2⟩
  have HM := Lib.hid (HM0.out.read x2 d2)
  have hbad := HM.out.bad
  rw [hz1] at hbad
  clear x2 d2 HM0 E1 hz1
  have n2 : ((tag : Int) == 2) = false := by rw [beq_eq_false_iff_ne]; omega
  have n6 : ((tag : Int) == 6) = false := by rw [beq_eq_false_iff_ne]; omega
  have n8 : ((tag : Int) == 8) = false := by rw [beq_eq_false_iff_ne]; omega
  have n9 : ((tag : Int) == 9) = false := by rw [beq_eq_false_iff_ne]; omega
  go_wp2_with fail
  refine (rint_st HM.out.rd (by omega)).mono ?_
  rw [E2.out]
  simp only
  rintro e w3 ⟨rfl, x3, d3⟩
  have HM3 := Lib.hid (HM.out.read x3 d3)
  clear x3 d3 HM hbad n2 n6 n8 n9
  go_wp2_with fail
  refine (rbytes_stc n HM3.out.rd (by omega)).mono ?_
  rw [E3.out]
  simp only
  rintro e w4 ⟨A4, k4, rfl, hk4, hv4, x4, d4⟩
  have HM := Lib.hid (HM3.out.read x4 d4)
  have hbad := HM.out.bad
  rw [hz3] at hbad
  obtain ⟨Ar, cr, hrow⟩ := HM.out.rd.place hz3
  have hol : own.length ≤ 1000000 := by
    have q := congrArg (fun x => x.1.length) E3.out
    have h3 := HM3.out.rd.len
    have h4 := rdBytes_le2 n s2 h3
    simp only at q
    omega
  have hob : ∀ x ∈ own, x < 256 := by
    have q := rdBytes_mem n s2 HM3.out.rd.mem
    rw [E3.out] at q
    exact q.1
  have HROW := Lib.hid hrow
  have hlt3 := HM3.out.rd.lt
  have HV4 := Lib.hid (hv4.mono (T' := fun k => w.heap.size + 1 + 1 < k ∧ k < w4.heap.size) (fun k hk q => ⟨Nat.lt_of_lt_of_le hlt3 q, hk⟩))
  have HK4 := Lib.hid hk4
  have HOB := Lib.hid hob
  clear x4 d4 HM3 hv4 hrow hk4 hob E2 E3
  have HX := Lib.hid (fun w' (hc : Chg none_ w4 w') => (⟨(HM.out.box.chg hc (fun h => h)), (HROW.out.chg hc (fun h => h)), (HM.out.res.chg hc (fun h => h))⟩ : _ ∧ _ ∧ _))
  have hlt4 := HM.out.rd.lt
  have hC5 : Chg none_ w4 (w4.alloc (.cells [Value.slice A4 own.length k4, .int .i64 0, .int .i64 0].toArray 67)) := (Chg.refl none_ w4).alloc _
  obtain ⟨x1, x2, x3⟩ := HX.out _ hC5
  have x4 := Row.new w4 67 [Value.slice A4 own.length k4, .int .i64 0, .int .i64 0]
  have b0 : World.cell? _ ⟨w.heap.size + 1, 0, none⟩ = some (.int .i64 0) := x1.cell 0
  have b1 : World.cell? _ ⟨w.heap.size + 1, 1, none⟩ = some (.int .u64 0) := x1.cell 1
  have b2 : World.cell? _ ⟨w.heap.size + 1, 2, none⟩ = some (.slice none 0 0) := x1.cell 2
  have b3 : World.cell? _ ⟨w.heap.size + 1, 3, none⟩ = some (.slice none 0 0) := x1.cell 3
  have y0 := x1.frozen 0
  have y1 := x1.frozen 1
  have y2 := x1.frozen 2
  have y3 := x1.frozen 3
  have u0 : World.cell? _ ⟨w4.heap.size, 0, none⟩ = some (.slice A4 own.length k4) := x4.cell 0
  have u1 : World.cell? _ ⟨w4.heap.size, 1, none⟩ = some (.int .i64 0) := x4.cell 1
  have u2 : World.cell? _ ⟨w4.heap.size, 2, none⟩ = some (.int .i64 0) := x4.cell 2
  have v0 := x4.frozen 0
  have v1 := x4.frozen 1
  have n1 : ¬ w4.heap.size = w.heap.size + 1 := by omega
  have n2 : ¬ w.heap.size + 1 = w4.heap.size := by omega
  have okF : Hf.Ok { kind := (tag : Int), data := own } := ⟨by show (-9223372036854775808 : Int) ≤ (tag : Int); omega, by show (tag : Int) < 9223372036854775808; omega, by show (0 : Nat) < _; omega, HOB.out, fun x hx => by cases hx⟩
  have hq : ((tag : Int) == 0) = true ∨ (((tag : Int) == 0) = false ∧ ((tag : Int) == 1) = true) := by rcases hk with rfl | rfl <;> decide
  have htw : IntKind.i64.wrap (tag : Int) = (tag : Int) := IntWalk.i64_in _ (by omega)
  have HXS := Lib.hid (And.intro x1 (And.intro x2 (And.intro x3 x4)))
  have HC5 := Lib.hid hC5
  clear hk x1 x2 x3 x4 HX hC5
  rcases hq with q0 | ⟨q0, q1⟩
  all_goals
    go_wp2_with fail
    clear b0 b1 b2 b3 y0 y1 y2 y3 u0 u1 u2 v0 v1
    obtain ⟨w8, hw8⟩ : ∃ u, u = ((((w4.alloc (.cells [Value.slice A4 own.length k4, .int .i64 0, .int .i64 0].toArray 67)).setCell ⟨w.heap.size + 1, 3, none⟩ (.slice A4 own.length k4)).setCell ⟨w4.heap.size, 1, none⟩ (.int .i64 (own.length : Nat))).setCell ⟨w.heap.size + 1, 0, none⟩ (.int .i64 (tag : Nat))) := ⟨_, rfl⟩
    rw [← hw8]
    obtain ⟨x1, x2, x3, x4⟩ := HXS.out
    have hS : Chg (fun k => k = w.heap.size + 1 ∨ k = w4.heap.size) (w4.alloc (.cells [Value.slice A4 own.length k4, .int .i64 0, .int .i64 0].toArray 67)) w8 := by
      rw [hw8]
      exact Chg.setCell (S := fun k => k = w.heap.size + 1 ∨ k = w4.heap.size) (Chg.setCell (S := fun k => k = w.heap.size + 1 ∨ k = w4.heap.size) (Chg.setCell (S := fun k => k = w.heap.size + 1 ∨ k = w4.heap.size) (Chg.refl _ _) (p := ⟨w.heap.size + 1, 3, none⟩) (fun _ => .inl rfl) _) (p := ⟨w4.heap.size, 1, none⟩) (fun _ => .inr rfl) _) (p := ⟨w.heap.size + 1, 0, none⟩) (fun _ => .inl rfl) _
    have HBX : Hid (Row w8 (w.heap.size + 1) 26 (cellsH { kind := (tag : Int), data := own } (.slice none 0 0) (.slice A4 own.length k4))) := by
      show Row _ _ _ _
      rw [hw8]
      exact ((x1.set 3 _).far (p := ⟨w4.heap.size, 1, none⟩) (fun e => n2 e) _).set 0 _
    have hT : Row w8 w4.heap.size 67 [.slice A4 own.length k4, .int .i64 (own.length : Nat), .int .i64 0] := by
      rw [hw8]
      exact ((x4.far (p := ⟨w.heap.size + 1, 3, none⟩) (fun e => n1 e) _).set 1 _).far (p := ⟨w.heap.size + 1, 0, none⟩) (fun e => n1 e) _
    clear hw8
    have hV : View w8 (fun k => w.heap.size + 1 + 1 < k ∧ k < w4.heap.size) A4 own.length (u8s own) := (HV4.out.chg HC5.out (fun _ _ h => h)).chg hS (fun k hk e => by omega)
    have HTR : Hid (RS w8 w4.heap.size (fun k => w.heap.size + 1 + 1 < k ∧ k < w4.heap.size) own ([], 0)) := ⟨own.length, ⟨A4, k4, hT, HK4.out, Nat.le_refl _, hol, hV⟩, fun _ => by rw [List.drop_length], fun q => absurd rfl q, HOB.out⟩
    have HRR := Lib.hid (x2.chg hS (fun e => by omega))
    have HRES := Lib.hid (x3.chg hS (fun e => by omega))
    have HD8 : Hid (HfD w8 (fun k => w.heap.size < k) { kind := (tag : Int), data := own } (.slice none 0 0) (.slice A4 own.length k4)) := ⟨⟨none, 0, rfl, ⟨Nat.zero_le _, Nat.zero_le _⟩, View.none_ _ _ _⟩, ⟨A4, k4, rfl, ⟨hol, HK4.out⟩, hV.mono (fun k _ q => by omega)⟩⟩
    have HC8 := Lib.hid ((HM.out.chg.trans HC5.out).andThen hS (fun k hk e => by omega))
    clear hS hT hV x1 x2 x3 x4
    refine (rleft_st HTR.out).mono ?_
    rintro e w9 ⟨rfl, k9, rfl⟩
    have c9 := (Chg.refl none_ w8).drewN k9
    generalize w8.drewN k9 = w9 at c9 ⊢
    have HBX9 := Lib.hid (HBX.out.chg c9 (fun h => h))
    have HRES9 := Lib.hid (HRES.out.chg c9 (fun h => h))
    have HRR9 := Lib.hid (HRR.out.chg c9 (fun h => h))
    have HC9 := Lib.hid (HC8.out.trans c9)
    have HD9 := Lib.hid (HD8.out.chg c9 (fun _ _ h => h))
    have HRT9 := Lib.hid (rright_any ({ kind := (tag : Int), data := own }) (.slice none 0 0) (.slice A4 own.length k4) w9 _ HD9.out okF)
    rw [hr] at HRT9
    unfold aggH at HRT9
    go_wp2_with (first | ((with_reducible show wpList _ _ _ (⟨_, .load 26 (.tmp 5), _, _, _, _⟩ :: _) _ _); refine wpList_load_Row rfl rfl rfl HBX9.out Tryd.underlying26 rfl sizeH ?_) | (go_at_call 13; refine (HRT9.out).mono ?_; rintro e w10 ⟨rfl, d10⟩; have HRES10 := Lib.hid (HRES9.out.chg d10 (fun h => h)); have HC10 := Lib.hid (HC9.out.trans d10)))
    have HK : Hid (∀ w', Chg none_ w10 w' → w'.cell? ⟨w.heap.size + 1, 0, none⟩ = some (.int .i64 (tag : Nat)) ∧ w'.cell? ⟨w.heap.size + 1, 1, none⟩ = some (.int .u64 0) ∧ w'.cell? ⟨w.heap.size + 1, 2, none⟩ = some (.slice none 0 0) ∧ w'.cell? ⟨w.heap.size + 1, 3, none⟩ = some (.slice A4 own.length k4) ∧ w'.cell? ⟨w.heap.size + 1 + 1, 1, none⟩ = some (.int .i64 ((b.length : Int) - (s3.1.length : Int)))) := fun w' hc => by
      have q1 := HBX9.out.chg (d10.trans hc) (fun h => h)
      have q2 := HRR9.out.chg (d10.trans hc) (fun h => h)
      exact ⟨q1.cell 0, q1.cell 1, q1.cell 2, q1.cell 3, q2.cell 1⟩
    have r2 := HRES10.out
    have g0 : w10.cell? ⟨w.heap.size, 0, none⟩ = some (.int .i64 0) := r2.cell 0
    have g1 : w10.cell? ⟨w.heap.size, 1, none⟩ = some (.int .u64 0) := r2.cell 1
    have g2 : w10.cell? ⟨w.heap.size, 2, none⟩ = some (.slice none 0 0) := r2.cell 2
    have g3 : w10.cell? ⟨w.heap.size, 3, none⟩ = some (.slice none 0 0) := r2.cell 3
    have z0 := r2.frozen 0
    have z1 := r2.frozen 1
    have z2 := r2.frozen 2
    have z3 := r2.frozen 3
    obtain ⟨p1, p2, p3, p4, p5⟩ := HK.out w10 (Chg.refl _ _)
    have ne1 : ¬ w.heap.size + 1 + 1 = w.heap.size := by omega
    have ne2 : ¬ w.heap.size = w.heap.size + 1 + 1 := by omega
    have hch0 : Chg none_ w10 w10.drew := (Chg.refl _ _).drew
    go_region_held3 (fun w' => w'.cell? ⟨w.heap.size + 1, 0, none⟩ = some (.int .i64 (tag : Nat)) ∧ w'.cell? ⟨w.heap.size + 1, 1, none⟩ = some (.int .u64 0) ∧ w'.cell? ⟨w.heap.size + 1, 2, none⟩ = some (.slice none 0 0) ∧ w'.cell? ⟨w.heap.size + 1, 3, none⟩ = some (.slice A4 own.length k4) ∧ w'.cell? ⟨w.heap.size + 1 + 1, 1, none⟩ = some (.int .i64 ((b.length : Int) - (s3.1.length : Int)))) (first | exact HK.out _ (by assumption) | go_keep) (fail)
    have hrE := ((((r2.set 0 (.int .i64 (tag : Nat))).set 1 (.int .u64 0)).set 2 (.slice none 0 0)).set 3 (.slice A4 own.length k4)).drew
    have hcE := (set4 HC10.out (.int .i64 (tag : Nat)) (.int .u64 0) (.slice none 0 0) (.slice A4 own.length k4)).drew
    have HDE := ((HD9.out.chg d10 (fun _ _ h => h)).chg (set4s w10 w.heap.size (.int .i64 (tag : Nat)) (.int .u64 0) (.slice none 0 0) (.slice A4 own.length k4)) (fun k hk e => by omega)).mono (T' := fun _ => True) (fun _ _ _ => trivial)
    have hcast : ((b.length - s3.1.length : Nat) : Int) = (b.length : Int) - (s3.1.length : Int) := by have := HM.out.rd.le; omega
    go_wp2_with fail
    refine ret_row3 rfl rfl hrE Tryd.underlying26 rfl sizeH rfl ?_
    refine ⟨(.slice none 0 0), (.slice A4 own.length k4), ?_, HDE, hcE⟩
    simp only [hcast]
    rfl

set_option maxRecDepth 100000 in
set_option maxHeartbeats 4000000 in
theorem rnext_data_no (hv : View w (fun _ => True) A b.length (u8s b)) (hm : b.length ≤ 1000000) (hcap : b.length ≤ c) (hb : ∀ x ∈ b, x < 256) (tag n : Nat) (s1 s2 : St) (own : List Nat) (s3 : St) (e1 : rdInt (b, 0) = (tag, s1)) (hf : ¬ (tag = 2 ∨ tag = 6 ∨ tag = 8 ∨ tag = 9)) (e2 : rdInt s1 = (n, s2)) (e3 : rdBytes n s2 = (own, s3)) (hz1 : s1.2 = 0) (hz3 : s3.2 = 0) (hk : tag = 0 ∨ tag = 1) (hr : rightH { kind := (tag : Int), data := own } = false) :
    Calls Tryd.prog 20 #[.slice A b.length c] w (RNextPost ({}, 0, 3) w) := by
  have E1 := Lib.hid e1
  have E2 := Lib.hid e2
  have E3 := Lib.hid e3
  clear e1 e2 e3
  have HV := Lib.hid hv
  have HB := Lib.hid hb
  clear hv hb
  go_enter Tryd.func20, Tryd.ntmps20
  go_wp2_with fail
  have HM0 := Lib.hid (rmade w A c b HV.out hm hcap HB.out _ rfl)
  refine (rint_st HM0.out.rd (by omega)).mono ?_
  rw [E1.out]
  simp only
  rintro e w2 ⟨rfl, x2, d2⟩
  have HM := Lib.hid (HM0.out.read x2 d2)
  have hbad := HM.out.bad
  rw [hz1] at hbad
  clear x2 d2 HM0 E1 hz1
  have n2 : ((tag : Int) == 2) = false := by rw [beq_eq_false_iff_ne]; omega
  have n6 : ((tag : Int) == 6) = false := by rw [beq_eq_false_iff_ne]; omega
  have n8 : ((tag : Int) == 8) = false := by rw [beq_eq_false_iff_ne]; omega
  have n9 : ((tag : Int) == 9) = false := by rw [beq_eq_false_iff_ne]; omega
  go_wp2_with fail
  refine (rint_st HM.out.rd (by omega)).mono ?_
  rw [E2.out]
  simp only
  rintro e w3 ⟨rfl, x3, d3⟩
  have HM3 := Lib.hid (HM.out.read x3 d3)
  clear x3 d3 HM hbad n2 n6 n8 n9
  go_wp2_with fail
  refine (rbytes_stc n HM3.out.rd (by omega)).mono ?_
  rw [E3.out]
  simp only
  rintro e w4 ⟨A4, k4, rfl, hk4, hv4, x4, d4⟩
  have HM := Lib.hid (HM3.out.read x4 d4)
  have hbad := HM.out.bad
  rw [hz3] at hbad
  obtain ⟨Ar, cr, hrow⟩ := HM.out.rd.place hz3
  have hol : own.length ≤ 1000000 := by
    have q := congrArg (fun x => x.1.length) E3.out
    have h3 := HM3.out.rd.len
    have h4 := rdBytes_le2 n s2 h3
    simp only at q
    omega
  have hob : ∀ x ∈ own, x < 256 := by
    have q := rdBytes_mem n s2 HM3.out.rd.mem
    rw [E3.out] at q
    exact q.1
  have HROW := Lib.hid hrow
  have hlt3 := HM3.out.rd.lt
  have HV4 := Lib.hid (hv4.mono (T' := fun k => w.heap.size + 1 + 1 < k ∧ k < w4.heap.size) (fun k hk q => ⟨Nat.lt_of_lt_of_le hlt3 q, hk⟩))
  have HK4 := Lib.hid hk4
  have HOB := Lib.hid hob
  clear x4 d4 HM3 hv4 hrow hk4 hob E2 E3
  have HX := Lib.hid (fun w' (hc : Chg none_ w4 w') => (⟨(HM.out.box.chg hc (fun h => h)), (HROW.out.chg hc (fun h => h)), (HM.out.res.chg hc (fun h => h))⟩ : _ ∧ _ ∧ _))
  have hlt4 := HM.out.rd.lt
  have hC5 : Chg none_ w4 (w4.alloc (.cells [Value.slice A4 own.length k4, .int .i64 0, .int .i64 0].toArray 67)) := (Chg.refl none_ w4).alloc _
  obtain ⟨x1, x2, x3⟩ := HX.out _ hC5
  have x4 := Row.new w4 67 [Value.slice A4 own.length k4, .int .i64 0, .int .i64 0]
  have b0 : World.cell? _ ⟨w.heap.size + 1, 0, none⟩ = some (.int .i64 0) := x1.cell 0
  have b1 : World.cell? _ ⟨w.heap.size + 1, 1, none⟩ = some (.int .u64 0) := x1.cell 1
  have b2 : World.cell? _ ⟨w.heap.size + 1, 2, none⟩ = some (.slice none 0 0) := x1.cell 2
  have b3 : World.cell? _ ⟨w.heap.size + 1, 3, none⟩ = some (.slice none 0 0) := x1.cell 3
  have y0 := x1.frozen 0
  have y1 := x1.frozen 1
  have y2 := x1.frozen 2
  have y3 := x1.frozen 3
  have u0 : World.cell? _ ⟨w4.heap.size, 0, none⟩ = some (.slice A4 own.length k4) := x4.cell 0
  have u1 : World.cell? _ ⟨w4.heap.size, 1, none⟩ = some (.int .i64 0) := x4.cell 1
  have u2 : World.cell? _ ⟨w4.heap.size, 2, none⟩ = some (.int .i64 0) := x4.cell 2
  have v0 := x4.frozen 0
  have v1 := x4.frozen 1
  have n1 : ¬ w4.heap.size = w.heap.size + 1 := by omega
  have n2 : ¬ w.heap.size + 1 = w4.heap.size := by omega
  have okF : Hf.Ok { kind := (tag : Int), data := own } := ⟨by show (-9223372036854775808 : Int) ≤ (tag : Int); omega, by show (tag : Int) < 9223372036854775808; omega, by show (0 : Nat) < _; omega, HOB.out, fun x hx => by cases hx⟩
  have hq : ((tag : Int) == 0) = true ∨ (((tag : Int) == 0) = false ∧ ((tag : Int) == 1) = true) := by rcases hk with rfl | rfl <;> decide
  have htw : IntKind.i64.wrap (tag : Int) = (tag : Int) := IntWalk.i64_in _ (by omega)
  have HXS := Lib.hid (And.intro x1 (And.intro x2 (And.intro x3 x4)))
  have HC5 := Lib.hid hC5
  clear hk x1 x2 x3 x4 HX hC5
  rcases hq with q0 | ⟨q0, q1⟩
  all_goals
    go_wp2_with fail
    clear b0 b1 b2 b3 y0 y1 y2 y3 u0 u1 u2 v0 v1
    obtain ⟨w8, hw8⟩ : ∃ u, u = ((((w4.alloc (.cells [Value.slice A4 own.length k4, .int .i64 0, .int .i64 0].toArray 67)).setCell ⟨w.heap.size + 1, 3, none⟩ (.slice A4 own.length k4)).setCell ⟨w4.heap.size, 1, none⟩ (.int .i64 (own.length : Nat))).setCell ⟨w.heap.size + 1, 0, none⟩ (.int .i64 (tag : Nat))) := ⟨_, rfl⟩
    rw [← hw8]
    obtain ⟨x1, x2, x3, x4⟩ := HXS.out
    have hS : Chg (fun k => k = w.heap.size + 1 ∨ k = w4.heap.size) (w4.alloc (.cells [Value.slice A4 own.length k4, .int .i64 0, .int .i64 0].toArray 67)) w8 := by
      rw [hw8]
      exact Chg.setCell (S := fun k => k = w.heap.size + 1 ∨ k = w4.heap.size) (Chg.setCell (S := fun k => k = w.heap.size + 1 ∨ k = w4.heap.size) (Chg.setCell (S := fun k => k = w.heap.size + 1 ∨ k = w4.heap.size) (Chg.refl _ _) (p := ⟨w.heap.size + 1, 3, none⟩) (fun _ => .inl rfl) _) (p := ⟨w4.heap.size, 1, none⟩) (fun _ => .inr rfl) _) (p := ⟨w.heap.size + 1, 0, none⟩) (fun _ => .inl rfl) _
    have HBX : Hid (Row w8 (w.heap.size + 1) 26 (cellsH { kind := (tag : Int), data := own } (.slice none 0 0) (.slice A4 own.length k4))) := by
      show Row _ _ _ _
      rw [hw8]
      exact ((x1.set 3 _).far (p := ⟨w4.heap.size, 1, none⟩) (fun e => n2 e) _).set 0 _
    have hT : Row w8 w4.heap.size 67 [.slice A4 own.length k4, .int .i64 (own.length : Nat), .int .i64 0] := by
      rw [hw8]
      exact ((x4.far (p := ⟨w.heap.size + 1, 3, none⟩) (fun e => n1 e) _).set 1 _).far (p := ⟨w.heap.size + 1, 0, none⟩) (fun e => n1 e) _
    clear hw8
    have hV : View w8 (fun k => w.heap.size + 1 + 1 < k ∧ k < w4.heap.size) A4 own.length (u8s own) := (HV4.out.chg HC5.out (fun _ _ h => h)).chg hS (fun k hk e => by omega)
    have HTR : Hid (RS w8 w4.heap.size (fun k => w.heap.size + 1 + 1 < k ∧ k < w4.heap.size) own ([], 0)) := ⟨own.length, ⟨A4, k4, hT, HK4.out, Nat.le_refl _, hol, hV⟩, fun _ => by rw [List.drop_length], fun q => absurd rfl q, HOB.out⟩
    have HRR := Lib.hid (x2.chg hS (fun e => by omega))
    have HRES := Lib.hid (x3.chg hS (fun e => by omega))
    have HD8 : Hid (HfD w8 (fun k => w.heap.size < k) { kind := (tag : Int), data := own } (.slice none 0 0) (.slice A4 own.length k4)) := ⟨⟨none, 0, rfl, ⟨Nat.zero_le _, Nat.zero_le _⟩, View.none_ _ _ _⟩, ⟨A4, k4, rfl, ⟨hol, HK4.out⟩, hV.mono (fun k _ q => by omega)⟩⟩
    have HC8 := Lib.hid ((HM.out.chg.trans HC5.out).andThen hS (fun k hk e => by omega))
    clear hS hT hV x1 x2 x3 x4
    refine (rleft_st HTR.out).mono ?_
    rintro e w9 ⟨rfl, k9, rfl⟩
    have c9 := (Chg.refl none_ w8).drewN k9
    generalize w8.drewN k9 = w9 at c9 ⊢
    have HBX9 := Lib.hid (HBX.out.chg c9 (fun h => h))
    have HRES9 := Lib.hid (HRES.out.chg c9 (fun h => h))
    have HRR9 := Lib.hid (HRR.out.chg c9 (fun h => h))
    have HC9 := Lib.hid (HC8.out.trans c9)
    have HD9 := Lib.hid (HD8.out.chg c9 (fun _ _ h => h))
    have HRT9 := Lib.hid (rright_any ({ kind := (tag : Int), data := own }) (.slice none 0 0) (.slice A4 own.length k4) w9 _ HD9.out okF)
    rw [hr] at HRT9
    unfold aggH at HRT9
    go_wp2_with (first | ((with_reducible show wpList _ _ _ (⟨_, .load 26 (.tmp 5), _, _, _, _⟩ :: _) _ _); refine wpList_load_Row rfl rfl rfl HBX9.out Tryd.underlying26 rfl sizeH ?_) | (go_at_call 13; refine (HRT9.out).mono ?_; rintro e w10 ⟨rfl, d10⟩; have HRES10 := Lib.hid (HRES9.out.chg d10 (fun h => h)); have HC10 := Lib.hid (HC9.out.trans d10)) | ((with_reducible show wpList _ _ _ (⟨_, .store 26 (.tmp 2) _, _, _, _, _⟩ :: _) _ _); refine wpList_store_Row (xs := zcH) rfl rfl rfl HRES10.out rfl rfl sizeH rfl ?_; intro w11 hr11 hch11 _; have c11 := hch11 none_ w HC10.out (fun h => absurd h (Nat.lt_irrefl _))))
    refine ret_row3 rfl rfl hr11 Tryd.underlying26 rfl sizeH rfl ?_
    exact ⟨_, _, rfl, zeroD _ _, c11⟩

set_option maxRecDepth 100000 in
set_option maxHeartbeats 4000000 in
theorem rnext_id_ok (hv : View w (fun _ => True) A b.length (u8s b)) (hm : b.length ≤ 1000000) (hcap : b.length ≤ c) (hb : ∀ x ∈ b, x < 256) (tag n : Nat) (s1 s2 : St) (own : List Nat) (s3 : St) (e1 : rdInt (b, 0) = (tag, s1)) (hf : ¬ (tag = 2 ∨ tag = 6 ∨ tag = 8 ∨ tag = 9)) (e2 : rdInt s1 = (n, s2)) (e3 : rdBytes n s2 = (own, s3)) (hz1 : s1.2 = 0) (hz3 : s3.2 = 0) (id : Nat) (st : St) (e5 : rdInt (own, 0) = (id, st)) (hk : tag = 3 ∨ tag = 7 ∨ tag = 13) (hst : st = ([], 0)) (hr : rightH { kind := (tag : Int), id := id } = true) :
    Calls Tryd.prog 20 #[.slice A b.length c] w (RNextPost ({ kind := tag, id := id }, b.length - s3.1.length, 0) w) := by
  have E5 := Lib.hid e5
  clear e5
  have E1 := Lib.hid e1
  have E2 := Lib.hid e2
  have E3 := Lib.hid e3
  clear e1 e2 e3
  have HV := Lib.hid hv
  have HB := Lib.hid hb
  clear hv hb
  go_enter Tryd.func20, Tryd.ntmps20
  go_wp2_with fail
  have HM0 := Lib.hid (rmade w A c b HV.out hm hcap HB.out _ rfl)
  refine (rint_st HM0.out.rd (by omega)).mono ?_
  rw [E1.out]
  simp only
  rintro e w2 ⟨rfl, x2, d2⟩
  have HM := Lib.hid (HM0.out.read x2 d2)
  have hbad := HM.out.bad
  rw [hz1] at hbad
  clear x2 d2 HM0 E1 hz1
  have n2 : ((tag : Int) == 2) = false := by rw [beq_eq_false_iff_ne]; omega
  have n6 : ((tag : Int) == 6) = false := by rw [beq_eq_false_iff_ne]; omega
  have n8 : ((tag : Int) == 8) = false := by rw [beq_eq_false_iff_ne]; omega
  have n9 : ((tag : Int) == 9) = false := by rw [beq_eq_false_iff_ne]; omega
  go_wp2_with fail
  refine (rint_st HM.out.rd (by omega)).mono ?_
  rw [E2.out]
  simp only
  rintro e w3 ⟨rfl, x3, d3⟩
  have HM3 := Lib.hid (HM.out.read x3 d3)
  clear x3 d3 HM hbad n2 n6 n8 n9
  go_wp2_with fail
  refine (rbytes_stc n HM3.out.rd (by omega)).mono ?_
  rw [E3.out]
  simp only
  rintro e w4 ⟨A4, k4, rfl, hk4, hv4, x4, d4⟩
  have HM := Lib.hid (HM3.out.read x4 d4)
  have hbad := HM.out.bad
  rw [hz3] at hbad
  obtain ⟨Ar, cr, hrow⟩ := HM.out.rd.place hz3
  have hol : own.length ≤ 1000000 := by
    have q := congrArg (fun x => x.1.length) E3.out
    have h3 := HM3.out.rd.len
    have h4 := rdBytes_le2 n s2 h3
    simp only at q
    omega
  have hob : ∀ x ∈ own, x < 256 := by
    have q := rdBytes_mem n s2 HM3.out.rd.mem
    rw [E3.out] at q
    exact q.1
  have HROW := Lib.hid hrow
  have hlt3 := HM3.out.rd.lt
  have HV4 := Lib.hid (hv4.mono (T' := fun k => w.heap.size + 1 + 1 < k ∧ k < w4.heap.size) (fun k hk q => ⟨Nat.lt_of_lt_of_le hlt3 q, hk⟩))
  have HK4 := Lib.hid hk4
  have HOB := Lib.hid hob
  clear x4 d4 HM3 hv4 hrow hk4 hob E2 E3
  have HX := Lib.hid (fun w' (hc : Chg none_ w4 w') => (⟨(HM.out.box.chg hc (fun h => h)), (HROW.out.chg hc (fun h => h)), (HM.out.res.chg hc (fun h => h))⟩ : _ ∧ _ ∧ _))
  have hlt4 := HM.out.rd.lt
  have hC5 : Chg none_ w4 (w4.alloc (.cells [Value.slice A4 own.length k4, .int .i64 0, .int .i64 0].toArray 67)) := (Chg.refl none_ w4).alloc _
  have HC5 := Lib.hid hC5
  have hT5 : RS (w4.alloc (.cells [Value.slice A4 own.length k4, .int .i64 0, .int .i64 0].toArray 67)) w4.heap.size (fun k => w.heap.size + 1 + 1 < k ∧ k < w4.heap.size) own (own, 0) := ⟨0, ⟨A4, k4, Row.new w4 67 [Value.slice A4 own.length k4, .int .i64 0, .int .i64 0], HK4.out, Nat.zero_le _, hol, HV4.out.chg hC5 (fun _ _ h => h)⟩, fun _ => rfl, fun q => absurd rfl q, HOB.out⟩
  have HT5 := Lib.hid hT5
  have hq : (((tag : Int) == 3) = true) ∨ (((tag : Int) == 3) = false ∧ ((tag : Int) == 7) = true) ∨ (((tag : Int) == 3) = false ∧ ((tag : Int) == 7) = false ∧ ((tag : Int) == 13) = true) := by rcases hk with rfl | rfl | rfl <;> decide
  have t0 : ((tag : Int) == 0) = false := by rw [beq_eq_false_iff_ne]; omega
  have t1 : ((tag : Int) == 1) = false := by rw [beq_eq_false_iff_ne]; omega
  have htw : IntKind.i64.wrap (tag : Int) = (tag : Int) := IntWalk.i64_in _ (by omega)
  have htg : tag < 14 := by omega
  clear hk hC5 hT5
  rcases hq with q0 | ⟨q0, q1⟩ | ⟨q0, q1, q2⟩
  all_goals
    go_wp2_with fail
    refine (rint_st HT5.out (by omega)).mono ?_
    rw [E5.out]
    simp only
    rintro e w6 ⟨rfl, x6, d6⟩
    have idl : id < 4611686018427387904 := by
      have q := rdInt_lt (own, 0) HOB.out
      rw [E5.out] at q; exact q
    obtain ⟨y1, y2, y3⟩ := HX.out _ HC5.out
    have x1 := y1.chg d6 (fun e => by omega)
    have x2 := y2.chg d6 (fun e => by omega)
    have x3 := y3.chg d6 (fun e => by omega)
    have b0 : w6.cell? ⟨w.heap.size + 1, 0, none⟩ = some (.int .i64 0) := x1.cell 0
    have b1 : w6.cell? ⟨w.heap.size + 1, 1, none⟩ = some (.int .u64 0) := x1.cell 1
    have z0 := x1.frozen 0
    have z1 := x1.frozen 1
    have hb6 : w6.cell? ⟨w4.heap.size, 2, none⟩ = some (.int .i64 st.2) := by
      obtain ⟨_, _, _, q⟩ := x6.bad
      exact q.cell 2
    have n1 : ¬ w4.heap.size = w.heap.size + 1 := by omega
    have n2 : ¬ w.heap.size + 1 = w4.heap.size := by omega
    have hS : Chg (· = w.heap.size + 1) w6 (World.setCell (World.setCell w6 ⟨w.heap.size + 1, 1, none⟩ (.int .u64 (id : Nat))) ⟨w.heap.size + 1, 0, none⟩ (.int .i64 (tag : Nat))) :=
      Chg.setCell (S := (· = w.heap.size + 1)) (Chg.setCell (S := (· = w.heap.size + 1)) (Chg.refl _ _) (p := ⟨w.heap.size + 1, 1, none⟩) (fun _ => rfl) _) (p := ⟨w.heap.size + 1, 0, none⟩) (fun _ => rfl) _
    have HS := Lib.hid hS
    have HE : Hid (Row (World.setCell (World.setCell w6 ⟨w.heap.size + 1, 1, none⟩ (.int .u64 (id : Nat))) ⟨w.heap.size + 1, 0, none⟩ (.int .i64 (tag : Nat))) w.heap.size 26 zcH ∧ Chg none_ w (World.setCell (World.setCell w6 ⟨w.heap.size + 1, 1, none⟩ (.int .u64 (id : Nat))) ⟨w.heap.size + 1, 0, none⟩ (.int .i64 (tag : Nat)))) := ⟨x3.chg hS (fun e => by omega), ((HM.out.chg.trans HC5.out).andThen d6 (fun k hk e => by omega)).andThen hS (fun k hk e => by omega)⟩
    have HBX0 : Hid (Row (World.setCell (World.setCell w6 ⟨w.heap.size + 1, 1, none⟩ (.int .u64 (id : Nat))) ⟨w.heap.size + 1, 0, none⟩ (.int .i64 (tag : Nat))) (w.heap.size + 1) 26 (cellsH { kind := (tag : Int), id := id } (.slice none 0 0) (.slice none 0 0))) := (x1.set 1 _).set 0 _
    have HRR0 := Lib.hid (x2.chg hS (fun e => by omega))
    have HTR0 := Lib.hid (x6.chg hS (fun e => by omega) (fun k hk e => by omega))
    clear hS x1 x2 x3 y1 y2 y3 x6 d6
    subst hst
    go_wp2_with fail
    have HBX0' := HBX0.out
    have HE' := HE.out
    have HRR0' := HRR0.out
    have HTR0' := HTR0.out
    obtain ⟨w8, hw8⟩ : ∃ u, u = (World.setCell (World.setCell w6 ⟨w.heap.size + 1, 1, none⟩ (.int .u64 (id : Nat))) ⟨w.heap.size + 1, 0, none⟩ (.int .i64 (tag : Nat))) := ⟨_, rfl⟩
    rw [← hw8] at HBX0' HE' HRR0' HTR0' ⊢
    have HBX := Lib.hid HBX0'
    have HRES := Lib.hid HE'.1
    have HC8 := Lib.hid HE'.2
    have HRR := Lib.hid HRR0'
    have HTR := Lib.hid HTR0'
    have HD8 : Hid (HfD w8 (fun k => w.heap.size < k) { kind := (tag : Int), id := id } (.slice none 0 0) (.slice none 0 0)) := ⟨⟨none, 0, rfl, ⟨Nat.zero_le _, Nat.zero_le _⟩, View.none_ _ _ _⟩, ⟨none, 0, rfl, ⟨Nat.zero_le _, Nat.zero_le _⟩, View.none_ _ _ _⟩⟩
    clear hw8 HBX0' HE' HRR0' HTR0' HBX0 HE HRR0 HTR0 HS b0 b1 z0 z1 hb6
    refine (rleft_st HTR.out).mono ?_
    rintro e w9 ⟨rfl, k9, rfl⟩
    have c9 := (Chg.refl none_ w8).drewN k9
    generalize w8.drewN k9 = w9 at c9 ⊢
    have HBX9 := Lib.hid (HBX.out.chg c9 (fun h => h))
    have HRES9 := Lib.hid (HRES.out.chg c9 (fun h => h))
    have HRR9 := Lib.hid (HRR.out.chg c9 (fun h => h))
    have HC9 := Lib.hid (HC8.out.trans c9)
    have HD9 := Lib.hid (HD8.out.chg c9 (fun _ _ h => h))
    have okF : Hf.Ok { kind := (tag : Int), id := id } := ⟨by show (-9223372036854775808 : Int) ≤ (tag : Int); omega, by show (tag : Int) < 9223372036854775808; omega, by show id < 18446744073709551616; exact Nat.lt_of_lt_of_le idl (by decide), fun x hx => (by cases hx), fun x hx => by cases hx⟩
    have HRT9 := Lib.hid (rright_any ({ kind := (tag : Int), id := id }) (.slice none 0 0) (.slice none 0 0) w9 _ HD9.out okF)
    rw [hr] at HRT9
    unfold aggH at HRT9
    go_wp2_with (first | ((with_reducible show wpList _ _ _ (⟨_, .load 26 (.tmp 5), _, _, _, _⟩ :: _) _ _); refine wpList_load_Row rfl rfl rfl HBX9.out Tryd.underlying26 rfl sizeH ?_) | (go_at_call 13; refine (HRT9.out).mono ?_; rintro e w10 ⟨rfl, d10⟩; have HRES10 := Lib.hid (HRES9.out.chg d10 (fun h => h)); have HC10 := Lib.hid (HC9.out.trans d10)))
    have HK : Hid (∀ w', Chg none_ w10 w' → w'.cell? ⟨w.heap.size + 1, 0, none⟩ = some (.int .i64 (tag : Nat)) ∧ w'.cell? ⟨w.heap.size + 1, 1, none⟩ = some (.int .u64 (id : Nat)) ∧ w'.cell? ⟨w.heap.size + 1, 2, none⟩ = some (.slice none 0 0) ∧ w'.cell? ⟨w.heap.size + 1, 3, none⟩ = some (.slice none 0 0) ∧ w'.cell? ⟨w.heap.size + 1 + 1, 1, none⟩ = some (.int .i64 ((b.length : Int) - (s3.1.length : Int)))) := fun w' hc => by
      have q1 := HBX9.out.chg (d10.trans hc) (fun h => h)
      have q2 := HRR9.out.chg (d10.trans hc) (fun h => h)
      exact ⟨q1.cell 0, q1.cell 1, q1.cell 2, q1.cell 3, q2.cell 1⟩
    have r2 := HRES10.out
    have g0 : w10.cell? ⟨w.heap.size, 0, none⟩ = some (.int .i64 0) := r2.cell 0
    have g1 : w10.cell? ⟨w.heap.size, 1, none⟩ = some (.int .u64 0) := r2.cell 1
    have g2 : w10.cell? ⟨w.heap.size, 2, none⟩ = some (.slice none 0 0) := r2.cell 2
    have g3 : w10.cell? ⟨w.heap.size, 3, none⟩ = some (.slice none 0 0) := r2.cell 3
    have z0 := r2.frozen 0
    have z1 := r2.frozen 1
    have z2 := r2.frozen 2
    have z3 := r2.frozen 3
    obtain ⟨p1, p2, p3, p4, p5⟩ := HK.out w10 (Chg.refl _ _)
    have ne1 : ¬ w.heap.size + 1 + 1 = w.heap.size := by omega
    have ne2 : ¬ w.heap.size = w.heap.size + 1 + 1 := by omega
    have hch0 : Chg none_ w10 w10.drew := (Chg.refl _ _).drew
    go_region_held3 (fun w' => w'.cell? ⟨w.heap.size + 1, 0, none⟩ = some (.int .i64 (tag : Nat)) ∧ w'.cell? ⟨w.heap.size + 1, 1, none⟩ = some (.int .u64 (id : Nat)) ∧ w'.cell? ⟨w.heap.size + 1, 2, none⟩ = some (.slice none 0 0) ∧ w'.cell? ⟨w.heap.size + 1, 3, none⟩ = some (.slice none 0 0) ∧ w'.cell? ⟨w.heap.size + 1 + 1, 1, none⟩ = some (.int .i64 ((b.length : Int) - (s3.1.length : Int)))) (first | exact HK.out _ (by assumption) | go_keep) (fail)
    have hrE := ((((r2.set 0 (.int .i64 (tag : Nat))).set 1 (.int .u64 (id : Nat))).set 2 (.slice none 0 0)).set 3 (.slice none 0 0)).drew
    have hcE := (set4 HC10.out (.int .i64 (tag : Nat)) (.int .u64 (id : Nat)) (.slice none 0 0) (.slice none 0 0)).drew
    have HDE := ((HD9.out.chg d10 (fun _ _ h => h)).chg (set4s w10 w.heap.size (.int .i64 (tag : Nat)) (.int .u64 (id : Nat)) (.slice none 0 0) (.slice none 0 0)) (fun k hk e => by omega)).mono (T' := fun _ => True) (fun _ _ _ => trivial)
    have hcast : ((b.length - s3.1.length : Nat) : Int) = (b.length : Int) - (s3.1.length : Int) := by have := HM.out.rd.le; omega
    go_wp2_with fail
    refine ret_row3 rfl rfl hrE Tryd.underlying26 rfl sizeH rfl ?_
    refine ⟨(.slice none 0 0), (.slice none 0 0), ?_, HDE, hcE⟩
    simp only [hcast]
    rfl

set_option maxRecDepth 100000 in
set_option maxHeartbeats 4000000 in
theorem rnext_id_no (hv : View w (fun _ => True) A b.length (u8s b)) (hm : b.length ≤ 1000000) (hcap : b.length ≤ c) (hb : ∀ x ∈ b, x < 256) (tag n : Nat) (s1 s2 : St) (own : List Nat) (s3 : St) (e1 : rdInt (b, 0) = (tag, s1)) (hf : ¬ (tag = 2 ∨ tag = 6 ∨ tag = 8 ∨ tag = 9)) (e2 : rdInt s1 = (n, s2)) (e3 : rdBytes n s2 = (own, s3)) (hz1 : s1.2 = 0) (hz3 : s3.2 = 0) (id : Nat) (st : St) (e5 : rdInt (own, 0) = (id, st)) (hk : tag = 3 ∨ tag = 7 ∨ tag = 13) (hst : st = ([], 0)) (hr : rightH { kind := (tag : Int), id := id } = false) :
    Calls Tryd.prog 20 #[.slice A b.length c] w (RNextPost ({}, 0, 3) w) := by
  have E5 := Lib.hid e5
  clear e5
  have E1 := Lib.hid e1
  have E2 := Lib.hid e2
  have E3 := Lib.hid e3
  clear e1 e2 e3
  have HV := Lib.hid hv
  have HB := Lib.hid hb
  clear hv hb
  go_enter Tryd.func20, Tryd.ntmps20
  go_wp2_with fail
  have HM0 := Lib.hid (rmade w A c b HV.out hm hcap HB.out _ rfl)
  refine (rint_st HM0.out.rd (by omega)).mono ?_
  rw [E1.out]
  simp only
  rintro e w2 ⟨rfl, x2, d2⟩
  have HM := Lib.hid (HM0.out.read x2 d2)
  have hbad := HM.out.bad
  rw [hz1] at hbad
  clear x2 d2 HM0 E1 hz1
  have n2 : ((tag : Int) == 2) = false := by rw [beq_eq_false_iff_ne]; omega
  have n6 : ((tag : Int) == 6) = false := by rw [beq_eq_false_iff_ne]; omega
  have n8 : ((tag : Int) == 8) = false := by rw [beq_eq_false_iff_ne]; omega
  have n9 : ((tag : Int) == 9) = false := by rw [beq_eq_false_iff_ne]; omega
  go_wp2_with fail
  refine (rint_st HM.out.rd (by omega)).mono ?_
  rw [E2.out]
  simp only
  rintro e w3 ⟨rfl, x3, d3⟩
  have HM3 := Lib.hid (HM.out.read x3 d3)
  clear x3 d3 HM hbad n2 n6 n8 n9
  go_wp2_with fail
  refine (rbytes_stc n HM3.out.rd (by omega)).mono ?_
  rw [E3.out]
  simp only
  rintro e w4 ⟨A4, k4, rfl, hk4, hv4, x4, d4⟩
  have HM := Lib.hid (HM3.out.read x4 d4)
  have hbad := HM.out.bad
  rw [hz3] at hbad
  obtain ⟨Ar, cr, hrow⟩ := HM.out.rd.place hz3
  have hol : own.length ≤ 1000000 := by
    have q := congrArg (fun x => x.1.length) E3.out
    have h3 := HM3.out.rd.len
    have h4 := rdBytes_le2 n s2 h3
    simp only at q
    omega
  have hob : ∀ x ∈ own, x < 256 := by
    have q := rdBytes_mem n s2 HM3.out.rd.mem
    rw [E3.out] at q
    exact q.1
  have HROW := Lib.hid hrow
  have hlt3 := HM3.out.rd.lt
  have HV4 := Lib.hid (hv4.mono (T' := fun k => w.heap.size + 1 + 1 < k ∧ k < w4.heap.size) (fun k hk q => ⟨Nat.lt_of_lt_of_le hlt3 q, hk⟩))
  have HK4 := Lib.hid hk4
  have HOB := Lib.hid hob
  clear x4 d4 HM3 hv4 hrow hk4 hob E2 E3
  have HX := Lib.hid (fun w' (hc : Chg none_ w4 w') => (⟨(HM.out.box.chg hc (fun h => h)), (HROW.out.chg hc (fun h => h)), (HM.out.res.chg hc (fun h => h))⟩ : _ ∧ _ ∧ _))
  have hlt4 := HM.out.rd.lt
  have hC5 : Chg none_ w4 (w4.alloc (.cells [Value.slice A4 own.length k4, .int .i64 0, .int .i64 0].toArray 67)) := (Chg.refl none_ w4).alloc _
  have HC5 := Lib.hid hC5
  have hT5 : RS (w4.alloc (.cells [Value.slice A4 own.length k4, .int .i64 0, .int .i64 0].toArray 67)) w4.heap.size (fun k => w.heap.size + 1 + 1 < k ∧ k < w4.heap.size) own (own, 0) := ⟨0, ⟨A4, k4, Row.new w4 67 [Value.slice A4 own.length k4, .int .i64 0, .int .i64 0], HK4.out, Nat.zero_le _, hol, HV4.out.chg hC5 (fun _ _ h => h)⟩, fun _ => rfl, fun q => absurd rfl q, HOB.out⟩
  have HT5 := Lib.hid hT5
  have hq : (((tag : Int) == 3) = true) ∨ (((tag : Int) == 3) = false ∧ ((tag : Int) == 7) = true) ∨ (((tag : Int) == 3) = false ∧ ((tag : Int) == 7) = false ∧ ((tag : Int) == 13) = true) := by rcases hk with rfl | rfl | rfl <;> decide
  have t0 : ((tag : Int) == 0) = false := by rw [beq_eq_false_iff_ne]; omega
  have t1 : ((tag : Int) == 1) = false := by rw [beq_eq_false_iff_ne]; omega
  have htw : IntKind.i64.wrap (tag : Int) = (tag : Int) := IntWalk.i64_in _ (by omega)
  have htg : tag < 14 := by omega
  clear hk hC5 hT5
  rcases hq with q0 | ⟨q0, q1⟩ | ⟨q0, q1, q2⟩
  all_goals
    go_wp2_with fail
    refine (rint_st HT5.out (by omega)).mono ?_
    rw [E5.out]
    simp only
    rintro e w6 ⟨rfl, x6, d6⟩
    have idl : id < 4611686018427387904 := by
      have q := rdInt_lt (own, 0) HOB.out
      rw [E5.out] at q; exact q
    obtain ⟨y1, y2, y3⟩ := HX.out _ HC5.out
    have x1 := y1.chg d6 (fun e => by omega)
    have x2 := y2.chg d6 (fun e => by omega)
    have x3 := y3.chg d6 (fun e => by omega)
    have b0 : w6.cell? ⟨w.heap.size + 1, 0, none⟩ = some (.int .i64 0) := x1.cell 0
    have b1 : w6.cell? ⟨w.heap.size + 1, 1, none⟩ = some (.int .u64 0) := x1.cell 1
    have z0 := x1.frozen 0
    have z1 := x1.frozen 1
    have hb6 : w6.cell? ⟨w4.heap.size, 2, none⟩ = some (.int .i64 st.2) := by
      obtain ⟨_, _, _, q⟩ := x6.bad
      exact q.cell 2
    have n1 : ¬ w4.heap.size = w.heap.size + 1 := by omega
    have n2 : ¬ w.heap.size + 1 = w4.heap.size := by omega
    have hS : Chg (· = w.heap.size + 1) w6 (World.setCell (World.setCell w6 ⟨w.heap.size + 1, 1, none⟩ (.int .u64 (id : Nat))) ⟨w.heap.size + 1, 0, none⟩ (.int .i64 (tag : Nat))) :=
      Chg.setCell (S := (· = w.heap.size + 1)) (Chg.setCell (S := (· = w.heap.size + 1)) (Chg.refl _ _) (p := ⟨w.heap.size + 1, 1, none⟩) (fun _ => rfl) _) (p := ⟨w.heap.size + 1, 0, none⟩) (fun _ => rfl) _
    have HS := Lib.hid hS
    have HE : Hid (Row (World.setCell (World.setCell w6 ⟨w.heap.size + 1, 1, none⟩ (.int .u64 (id : Nat))) ⟨w.heap.size + 1, 0, none⟩ (.int .i64 (tag : Nat))) w.heap.size 26 zcH ∧ Chg none_ w (World.setCell (World.setCell w6 ⟨w.heap.size + 1, 1, none⟩ (.int .u64 (id : Nat))) ⟨w.heap.size + 1, 0, none⟩ (.int .i64 (tag : Nat)))) := ⟨x3.chg hS (fun e => by omega), ((HM.out.chg.trans HC5.out).andThen d6 (fun k hk e => by omega)).andThen hS (fun k hk e => by omega)⟩
    have HBX0 : Hid (Row (World.setCell (World.setCell w6 ⟨w.heap.size + 1, 1, none⟩ (.int .u64 (id : Nat))) ⟨w.heap.size + 1, 0, none⟩ (.int .i64 (tag : Nat))) (w.heap.size + 1) 26 (cellsH { kind := (tag : Int), id := id } (.slice none 0 0) (.slice none 0 0))) := (x1.set 1 _).set 0 _
    have HRR0 := Lib.hid (x2.chg hS (fun e => by omega))
    have HTR0 := Lib.hid (x6.chg hS (fun e => by omega) (fun k hk e => by omega))
    clear hS x1 x2 x3 y1 y2 y3 x6 d6
    subst hst
    go_wp2_with fail
    have HBX0' := HBX0.out
    have HE' := HE.out
    have HRR0' := HRR0.out
    have HTR0' := HTR0.out
    obtain ⟨w8, hw8⟩ : ∃ u, u = (World.setCell (World.setCell w6 ⟨w.heap.size + 1, 1, none⟩ (.int .u64 (id : Nat))) ⟨w.heap.size + 1, 0, none⟩ (.int .i64 (tag : Nat))) := ⟨_, rfl⟩
    rw [← hw8] at HBX0' HE' HRR0' HTR0' ⊢
    have HBX := Lib.hid HBX0'
    have HRES := Lib.hid HE'.1
    have HC8 := Lib.hid HE'.2
    have HRR := Lib.hid HRR0'
    have HTR := Lib.hid HTR0'
    have HD8 : Hid (HfD w8 (fun k => w.heap.size < k) { kind := (tag : Int), id := id } (.slice none 0 0) (.slice none 0 0)) := ⟨⟨none, 0, rfl, ⟨Nat.zero_le _, Nat.zero_le _⟩, View.none_ _ _ _⟩, ⟨none, 0, rfl, ⟨Nat.zero_le _, Nat.zero_le _⟩, View.none_ _ _ _⟩⟩
    clear hw8 HBX0' HE' HRR0' HTR0' HBX0 HE HRR0 HTR0 HS b0 b1 z0 z1 hb6
    refine (rleft_st HTR.out).mono ?_
    rintro e w9 ⟨rfl, k9, rfl⟩
    have c9 := (Chg.refl none_ w8).drewN k9
    generalize w8.drewN k9 = w9 at c9 ⊢
    have HBX9 := Lib.hid (HBX.out.chg c9 (fun h => h))
    have HRES9 := Lib.hid (HRES.out.chg c9 (fun h => h))
    have HRR9 := Lib.hid (HRR.out.chg c9 (fun h => h))
    have HC9 := Lib.hid (HC8.out.trans c9)
    have HD9 := Lib.hid (HD8.out.chg c9 (fun _ _ h => h))
    have okF : Hf.Ok { kind := (tag : Int), id := id } := ⟨by show (-9223372036854775808 : Int) ≤ (tag : Int); omega, by show (tag : Int) < 9223372036854775808; omega, by show id < 18446744073709551616; exact Nat.lt_of_lt_of_le idl (by decide), fun x hx => (by cases hx), fun x hx => by cases hx⟩
    have HRT9 := Lib.hid (rright_any ({ kind := (tag : Int), id := id }) (.slice none 0 0) (.slice none 0 0) w9 _ HD9.out okF)
    rw [hr] at HRT9
    unfold aggH at HRT9
    go_wp2_with (first | ((with_reducible show wpList _ _ _ (⟨_, .load 26 (.tmp 5), _, _, _, _⟩ :: _) _ _); refine wpList_load_Row rfl rfl rfl HBX9.out Tryd.underlying26 rfl sizeH ?_) | (go_at_call 13; refine (HRT9.out).mono ?_; rintro e w10 ⟨rfl, d10⟩; have HRES10 := Lib.hid (HRES9.out.chg d10 (fun h => h)); have HC10 := Lib.hid (HC9.out.trans d10)) | ((with_reducible show wpList _ _ _ (⟨_, .store 26 (.tmp 2) _, _, _, _, _⟩ :: _) _ _); refine wpList_store_Row (xs := zcH) rfl rfl rfl HRES10.out rfl rfl sizeH rfl ?_; intro w11 hr11 hch11 _; have c11 := hch11 none_ w HC10.out (fun h => absurd h (Nat.lt_irrefl _))))
    refine ret_row3 rfl rfl hr11 Tryd.underlying26 rfl sizeH rfl ?_
    exact ⟨_, _, rfl, zeroD _ _, c11⟩

set_option maxRecDepth 100000 in
set_option maxHeartbeats 4000000 in
theorem rnext_id_left (hv : View w (fun _ => True) A b.length (u8s b)) (hm : b.length ≤ 1000000) (hcap : b.length ≤ c) (hb : ∀ x ∈ b, x < 256) (tag n : Nat) (s1 s2 : St) (own : List Nat) (s3 : St) (e1 : rdInt (b, 0) = (tag, s1)) (hf : ¬ (tag = 2 ∨ tag = 6 ∨ tag = 8 ∨ tag = 9)) (e2 : rdInt s1 = (n, s2)) (e3 : rdBytes n s2 = (own, s3)) (hz1 : s1.2 = 0) (hz3 : s3.2 = 0) (id : Nat) (st : St) (e5 : rdInt (own, 0) = (id, st)) (hk : tag = 3 ∨ tag = 7 ∨ tag = 13) (hst0 : st.2 = 0) (hst1 : st.1 ≠ []) :
    Calls Tryd.prog 20 #[.slice A b.length c] w (RNextPost ({}, 0, 3) w) := by
  have E5 := Lib.hid e5
  clear e5
  have E1 := Lib.hid e1
  have E2 := Lib.hid e2
  have E3 := Lib.hid e3
  clear e1 e2 e3
  have HV := Lib.hid hv
  have HB := Lib.hid hb
  clear hv hb
  go_enter Tryd.func20, Tryd.ntmps20
  go_wp2_with fail
  have HM0 := Lib.hid (rmade w A c b HV.out hm hcap HB.out _ rfl)
  refine (rint_st HM0.out.rd (by omega)).mono ?_
  rw [E1.out]
  simp only
  rintro e w2 ⟨rfl, x2, d2⟩
  have HM := Lib.hid (HM0.out.read x2 d2)
  have hbad := HM.out.bad
  rw [hz1] at hbad
  clear x2 d2 HM0 E1 hz1
  have n2 : ((tag : Int) == 2) = false := by rw [beq_eq_false_iff_ne]; omega
  have n6 : ((tag : Int) == 6) = false := by rw [beq_eq_false_iff_ne]; omega
  have n8 : ((tag : Int) == 8) = false := by rw [beq_eq_false_iff_ne]; omega
  have n9 : ((tag : Int) == 9) = false := by rw [beq_eq_false_iff_ne]; omega
  go_wp2_with fail
  refine (rint_st HM.out.rd (by omega)).mono ?_
  rw [E2.out]
  simp only
  rintro e w3 ⟨rfl, x3, d3⟩
  have HM3 := Lib.hid (HM.out.read x3 d3)
  clear x3 d3 HM hbad n2 n6 n8 n9
  go_wp2_with fail
  refine (rbytes_stc n HM3.out.rd (by omega)).mono ?_
  rw [E3.out]
  simp only
  rintro e w4 ⟨A4, k4, rfl, hk4, hv4, x4, d4⟩
  have HM := Lib.hid (HM3.out.read x4 d4)
  have hbad := HM.out.bad
  rw [hz3] at hbad
  obtain ⟨Ar, cr, hrow⟩ := HM.out.rd.place hz3
  have hol : own.length ≤ 1000000 := by
    have q := congrArg (fun x => x.1.length) E3.out
    have h3 := HM3.out.rd.len
    have h4 := rdBytes_le2 n s2 h3
    simp only at q
    omega
  have hob : ∀ x ∈ own, x < 256 := by
    have q := rdBytes_mem n s2 HM3.out.rd.mem
    rw [E3.out] at q
    exact q.1
  have HROW := Lib.hid hrow
  have hlt3 := HM3.out.rd.lt
  have HV4 := Lib.hid (hv4.mono (T' := fun k => w.heap.size + 1 + 1 < k ∧ k < w4.heap.size) (fun k hk q => ⟨Nat.lt_of_lt_of_le hlt3 q, hk⟩))
  have HK4 := Lib.hid hk4
  have HOB := Lib.hid hob
  clear x4 d4 HM3 hv4 hrow hk4 hob E2 E3
  have HX := Lib.hid (fun w' (hc : Chg none_ w4 w') => (⟨(HM.out.box.chg hc (fun h => h)), (HROW.out.chg hc (fun h => h)), (HM.out.res.chg hc (fun h => h))⟩ : _ ∧ _ ∧ _))
  have hlt4 := HM.out.rd.lt
  have hC5 : Chg none_ w4 (w4.alloc (.cells [Value.slice A4 own.length k4, .int .i64 0, .int .i64 0].toArray 67)) := (Chg.refl none_ w4).alloc _
  have HC5 := Lib.hid hC5
  have hT5 : RS (w4.alloc (.cells [Value.slice A4 own.length k4, .int .i64 0, .int .i64 0].toArray 67)) w4.heap.size (fun k => w.heap.size + 1 + 1 < k ∧ k < w4.heap.size) own (own, 0) := ⟨0, ⟨A4, k4, Row.new w4 67 [Value.slice A4 own.length k4, .int .i64 0, .int .i64 0], HK4.out, Nat.zero_le _, hol, HV4.out.chg hC5 (fun _ _ h => h)⟩, fun _ => rfl, fun q => absurd rfl q, HOB.out⟩
  have HT5 := Lib.hid hT5
  have hq : (((tag : Int) == 3) = true) ∨ (((tag : Int) == 3) = false ∧ ((tag : Int) == 7) = true) ∨ (((tag : Int) == 3) = false ∧ ((tag : Int) == 7) = false ∧ ((tag : Int) == 13) = true) := by rcases hk with rfl | rfl | rfl <;> decide
  have t0 : ((tag : Int) == 0) = false := by rw [beq_eq_false_iff_ne]; omega
  have t1 : ((tag : Int) == 1) = false := by rw [beq_eq_false_iff_ne]; omega
  have htw : IntKind.i64.wrap (tag : Int) = (tag : Int) := IntWalk.i64_in _ (by omega)
  have htg : tag < 14 := by omega
  clear hk hC5 hT5
  rcases hq with q0 | ⟨q0, q1⟩ | ⟨q0, q1, q2⟩
  all_goals
    go_wp2_with fail
    refine (rint_st HT5.out (by omega)).mono ?_
    rw [E5.out]
    simp only
    rintro e w6 ⟨rfl, x6, d6⟩
    have idl : id < 4611686018427387904 := by
      have q := rdInt_lt (own, 0) HOB.out
      rw [E5.out] at q; exact q
    obtain ⟨y1, y2, y3⟩ := HX.out _ HC5.out
    have x1 := y1.chg d6 (fun e => by omega)
    have x2 := y2.chg d6 (fun e => by omega)
    have x3 := y3.chg d6 (fun e => by omega)
    have b0 : w6.cell? ⟨w.heap.size + 1, 0, none⟩ = some (.int .i64 0) := x1.cell 0
    have b1 : w6.cell? ⟨w.heap.size + 1, 1, none⟩ = some (.int .u64 0) := x1.cell 1
    have z0 := x1.frozen 0
    have z1 := x1.frozen 1
    have hb6 : w6.cell? ⟨w4.heap.size, 2, none⟩ = some (.int .i64 st.2) := by
      obtain ⟨_, _, _, q⟩ := x6.bad
      exact q.cell 2
    have n1 : ¬ w4.heap.size = w.heap.size + 1 := by omega
    have n2 : ¬ w.heap.size + 1 = w4.heap.size := by omega
    have hS : Chg (· = w.heap.size + 1) w6 (World.setCell (World.setCell w6 ⟨w.heap.size + 1, 1, none⟩ (.int .u64 (id : Nat))) ⟨w.heap.size + 1, 0, none⟩ (.int .i64 (tag : Nat))) :=
      Chg.setCell (S := (· = w.heap.size + 1)) (Chg.setCell (S := (· = w.heap.size + 1)) (Chg.refl _ _) (p := ⟨w.heap.size + 1, 1, none⟩) (fun _ => rfl) _) (p := ⟨w.heap.size + 1, 0, none⟩) (fun _ => rfl) _
    have HS := Lib.hid hS
    have HE : Hid (Row (World.setCell (World.setCell w6 ⟨w.heap.size + 1, 1, none⟩ (.int .u64 (id : Nat))) ⟨w.heap.size + 1, 0, none⟩ (.int .i64 (tag : Nat))) w.heap.size 26 zcH ∧ Chg none_ w (World.setCell (World.setCell w6 ⟨w.heap.size + 1, 1, none⟩ (.int .u64 (id : Nat))) ⟨w.heap.size + 1, 0, none⟩ (.int .i64 (tag : Nat)))) := ⟨x3.chg hS (fun e => by omega), ((HM.out.chg.trans HC5.out).andThen d6 (fun k hk e => by omega)).andThen hS (fun k hk e => by omega)⟩
    have HBX0 : Hid (Row (World.setCell (World.setCell w6 ⟨w.heap.size + 1, 1, none⟩ (.int .u64 (id : Nat))) ⟨w.heap.size + 1, 0, none⟩ (.int .i64 (tag : Nat))) (w.heap.size + 1) 26 (cellsH { kind := (tag : Int), id := id } (.slice none 0 0) (.slice none 0 0))) := (x1.set 1 _).set 0 _
    have HRR0 := Lib.hid (x2.chg hS (fun e => by omega))
    have HTR0 := Lib.hid (x6.chg hS (fun e => by omega) (fun k hk e => by omega))
    clear hS x1 x2 x3 y1 y2 y3 x6 d6
    rw [hst0] at hb6
    go_wp2_with fail
    have HBX0' := HBX0.out
    have HE' := HE.out
    have HRR0' := HRR0.out
    have HTR0' := HTR0.out
    obtain ⟨w8, hw8⟩ : ∃ u, u = (World.setCell (World.setCell w6 ⟨w.heap.size + 1, 1, none⟩ (.int .u64 (id : Nat))) ⟨w.heap.size + 1, 0, none⟩ (.int .i64 (tag : Nat))) := ⟨_, rfl⟩
    rw [← hw8] at HBX0' HE' HRR0' HTR0' ⊢
    have HBX := Lib.hid HBX0'
    have HRES := Lib.hid HE'.1
    have HC8 := Lib.hid HE'.2
    have HRR := Lib.hid HRR0'
    have HTR := Lib.hid HTR0'
    have HD8 : Hid (HfD w8 (fun k => w.heap.size < k) { kind := (tag : Int), id := id } (.slice none 0 0) (.slice none 0 0)) := ⟨⟨none, 0, rfl, ⟨Nat.zero_le _, Nat.zero_le _⟩, View.none_ _ _ _⟩, ⟨none, 0, rfl, ⟨Nat.zero_le _, Nat.zero_le _⟩, View.none_ _ _ _⟩⟩
    clear hw8 HBX0' HE' HRR0' HTR0' HBX0 HE HRR0 HTR0 HS b0 b1 z0 z1 hb6
    refine (rleft_st HTR.out).mono ?_
    rintro e w9 ⟨rfl, k9, rfl⟩
    have c9 := (Chg.refl none_ w8).drewN k9
    generalize w8.drewN k9 = w9 at c9 ⊢
    have HBX9 := Lib.hid (HBX.out.chg c9 (fun h => h))
    have HRES9 := Lib.hid (HRES.out.chg c9 (fun h => h))
    have HRR9 := Lib.hid (HRR.out.chg c9 (fun h => h))
    have HC9 := Lib.hid (HC8.out.trans c9)
    have HD9 := Lib.hid (HD8.out.chg c9 (fun _ _ h => h))
    have hll : (0 : Int) < (st.1.length : Int) := by
      have q := List.length_pos_iff.2 hst1
      omega
    generalize st.1.length = sl at *
    go_wp2_with (first | ((with_reducible show wpList _ _ _ (⟨_, .store 26 (.tmp 2) _, _, _, _, _⟩ :: _) _ _); refine wpList_store_Row (xs := zcH) rfl rfl rfl HRES9.out rfl rfl sizeH rfl ?_; intro w11 hr11 hch11 _; have c11 := hch11 none_ w HC9.out (fun h => absurd h (Nat.lt_irrefl _))))
    refine ret_row3 rfl rfl hr11 Tryd.underlying26 rfl sizeH rfl ?_
    exact ⟨_, _, rfl, zeroD _ _, c11⟩

set_option maxRecDepth 100000 in
set_option maxHeartbeats 4000000 in
theorem rnext_id_bad (hv : View w (fun _ => True) A b.length (u8s b)) (hm : b.length ≤ 1000000) (hcap : b.length ≤ c) (hb : ∀ x ∈ b, x < 256) (tag n : Nat) (s1 s2 : St) (own : List Nat) (s3 : St) (e1 : rdInt (b, 0) = (tag, s1)) (hf : ¬ (tag = 2 ∨ tag = 6 ∨ tag = 8 ∨ tag = 9)) (e2 : rdInt s1 = (n, s2)) (e3 : rdBytes n s2 = (own, s3)) (hz1 : s1.2 = 0) (hz3 : s3.2 = 0) (id : Nat) (st : St) (e5 : rdInt (own, 0) = (id, st)) (hk : tag = 3 ∨ tag = 7 ∨ tag = 13) (hst0 : st.2 ≠ 0) :
    Calls Tryd.prog 20 #[.slice A b.length c] w (RNextPost ({}, 0, 3) w) := by
  have E5 := Lib.hid e5
  clear e5
  have E1 := Lib.hid e1
  have E2 := Lib.hid e2
  have E3 := Lib.hid e3
  clear e1 e2 e3
  have HV := Lib.hid hv
  have HB := Lib.hid hb
  clear hv hb
  go_enter Tryd.func20, Tryd.ntmps20
  go_wp2_with fail
  have HM0 := Lib.hid (rmade w A c b HV.out hm hcap HB.out _ rfl)
  refine (rint_st HM0.out.rd (by omega)).mono ?_
  rw [E1.out]
  simp only
  rintro e w2 ⟨rfl, x2, d2⟩
  have HM := Lib.hid (HM0.out.read x2 d2)
  have hbad := HM.out.bad
  rw [hz1] at hbad
  clear x2 d2 HM0 E1 hz1
  have n2 : ((tag : Int) == 2) = false := by rw [beq_eq_false_iff_ne]; omega
  have n6 : ((tag : Int) == 6) = false := by rw [beq_eq_false_iff_ne]; omega
  have n8 : ((tag : Int) == 8) = false := by rw [beq_eq_false_iff_ne]; omega
  have n9 : ((tag : Int) == 9) = false := by rw [beq_eq_false_iff_ne]; omega
  go_wp2_with fail
  refine (rint_st HM.out.rd (by omega)).mono ?_
  rw [E2.out]
  simp only
  rintro e w3 ⟨rfl, x3, d3⟩
  have HM3 := Lib.hid (HM.out.read x3 d3)
  clear x3 d3 HM hbad n2 n6 n8 n9
  go_wp2_with fail
  refine (rbytes_stc n HM3.out.rd (by omega)).mono ?_
  rw [E3.out]
  simp only
  rintro e w4 ⟨A4, k4, rfl, hk4, hv4, x4, d4⟩
  have HM := Lib.hid (HM3.out.read x4 d4)
  have hbad := HM.out.bad
  rw [hz3] at hbad
  obtain ⟨Ar, cr, hrow⟩ := HM.out.rd.place hz3
  have hol : own.length ≤ 1000000 := by
    have q := congrArg (fun x => x.1.length) E3.out
    have h3 := HM3.out.rd.len
    have h4 := rdBytes_le2 n s2 h3
    simp only at q
    omega
  have hob : ∀ x ∈ own, x < 256 := by
    have q := rdBytes_mem n s2 HM3.out.rd.mem
    rw [E3.out] at q
    exact q.1
  have HROW := Lib.hid hrow
  have hlt3 := HM3.out.rd.lt
  have HV4 := Lib.hid (hv4.mono (T' := fun k => w.heap.size + 1 + 1 < k ∧ k < w4.heap.size) (fun k hk q => ⟨Nat.lt_of_lt_of_le hlt3 q, hk⟩))
  have HK4 := Lib.hid hk4
  have HOB := Lib.hid hob
  clear x4 d4 HM3 hv4 hrow hk4 hob E2 E3
  have HX := Lib.hid (fun w' (hc : Chg none_ w4 w') => (⟨(HM.out.box.chg hc (fun h => h)), (HROW.out.chg hc (fun h => h)), (HM.out.res.chg hc (fun h => h))⟩ : _ ∧ _ ∧ _))
  have hlt4 := HM.out.rd.lt
  have hC5 : Chg none_ w4 (w4.alloc (.cells [Value.slice A4 own.length k4, .int .i64 0, .int .i64 0].toArray 67)) := (Chg.refl none_ w4).alloc _
  have HC5 := Lib.hid hC5
  have hT5 : RS (w4.alloc (.cells [Value.slice A4 own.length k4, .int .i64 0, .int .i64 0].toArray 67)) w4.heap.size (fun k => w.heap.size + 1 + 1 < k ∧ k < w4.heap.size) own (own, 0) := ⟨0, ⟨A4, k4, Row.new w4 67 [Value.slice A4 own.length k4, .int .i64 0, .int .i64 0], HK4.out, Nat.zero_le _, hol, HV4.out.chg hC5 (fun _ _ h => h)⟩, fun _ => rfl, fun q => absurd rfl q, HOB.out⟩
  have HT5 := Lib.hid hT5
  have hq : (((tag : Int) == 3) = true) ∨ (((tag : Int) == 3) = false ∧ ((tag : Int) == 7) = true) ∨ (((tag : Int) == 3) = false ∧ ((tag : Int) == 7) = false ∧ ((tag : Int) == 13) = true) := by rcases hk with rfl | rfl | rfl <;> decide
  have t0 : ((tag : Int) == 0) = false := by rw [beq_eq_false_iff_ne]; omega
  have t1 : ((tag : Int) == 1) = false := by rw [beq_eq_false_iff_ne]; omega
  have htw : IntKind.i64.wrap (tag : Int) = (tag : Int) := IntWalk.i64_in _ (by omega)
  have htg : tag < 14 := by omega
  clear hk hC5 hT5
  rcases hq with q0 | ⟨q0, q1⟩ | ⟨q0, q1, q2⟩
  all_goals
    go_wp2_with fail
    refine (rint_st HT5.out (by omega)).mono ?_
    rw [E5.out]
    simp only
    rintro e w6 ⟨rfl, x6, d6⟩
    have idl : id < 4611686018427387904 := by
      have q := rdInt_lt (own, 0) HOB.out
      rw [E5.out] at q; exact q
    obtain ⟨y1, y2, y3⟩ := HX.out _ HC5.out
    have x1 := y1.chg d6 (fun e => by omega)
    have x2 := y2.chg d6 (fun e => by omega)
    have x3 := y3.chg d6 (fun e => by omega)
    have b0 : w6.cell? ⟨w.heap.size + 1, 0, none⟩ = some (.int .i64 0) := x1.cell 0
    have b1 : w6.cell? ⟨w.heap.size + 1, 1, none⟩ = some (.int .u64 0) := x1.cell 1
    have z0 := x1.frozen 0
    have z1 := x1.frozen 1
    have hb6 : w6.cell? ⟨w4.heap.size, 2, none⟩ = some (.int .i64 st.2) := by
      obtain ⟨_, _, _, q⟩ := x6.bad
      exact q.cell 2
    have n1 : ¬ w4.heap.size = w.heap.size + 1 := by omega
    have n2 : ¬ w.heap.size + 1 = w4.heap.size := by omega
    have hS : Chg (· = w.heap.size + 1) w6 (World.setCell (World.setCell w6 ⟨w.heap.size + 1, 1, none⟩ (.int .u64 (id : Nat))) ⟨w.heap.size + 1, 0, none⟩ (.int .i64 (tag : Nat))) :=
      Chg.setCell (S := (· = w.heap.size + 1)) (Chg.setCell (S := (· = w.heap.size + 1)) (Chg.refl _ _) (p := ⟨w.heap.size + 1, 1, none⟩) (fun _ => rfl) _) (p := ⟨w.heap.size + 1, 0, none⟩) (fun _ => rfl) _
    have HS := Lib.hid hS
    have HE : Hid (Row (World.setCell (World.setCell w6 ⟨w.heap.size + 1, 1, none⟩ (.int .u64 (id : Nat))) ⟨w.heap.size + 1, 0, none⟩ (.int .i64 (tag : Nat))) w.heap.size 26 zcH ∧ Chg none_ w (World.setCell (World.setCell w6 ⟨w.heap.size + 1, 1, none⟩ (.int .u64 (id : Nat))) ⟨w.heap.size + 1, 0, none⟩ (.int .i64 (tag : Nat)))) := ⟨x3.chg hS (fun e => by omega), ((HM.out.chg.trans HC5.out).andThen d6 (fun k hk e => by omega)).andThen hS (fun k hk e => by omega)⟩
    have HBX0 : Hid (Row (World.setCell (World.setCell w6 ⟨w.heap.size + 1, 1, none⟩ (.int .u64 (id : Nat))) ⟨w.heap.size + 1, 0, none⟩ (.int .i64 (tag : Nat))) (w.heap.size + 1) 26 (cellsH { kind := (tag : Int), id := id } (.slice none 0 0) (.slice none 0 0))) := (x1.set 1 _).set 0 _
    have HRR0 := Lib.hid (x2.chg hS (fun e => by omega))
    have HTR0 := Lib.hid (x6.chg hS (fun e => by omega) (fun k hk e => by omega))
    clear hS x1 x2 x3 y1 y2 y3 x6 d6
    have nz : (st.2 != 0) = true := by rw [bne_iff_ne]; exact hst0
    go_wp2_with (first | ((with_reducible show wpList _ _ _ (⟨_, .store 26 (.tmp 2) _, _, _, _, _⟩ :: _) _ _); refine wpList_store_Row (xs := zcH) rfl rfl rfl HE.out.1 rfl rfl sizeH rfl ?_; intro w11 hr11 hch11 _; have c11 := hch11 none_ w HE.out.2 (fun h => absurd h (Nat.lt_irrefl _))))
    refine ret_row3 rfl rfl hr11 Tryd.underlying26 rfl sizeH rfl ?_
    exact ⟨_, _, rfl, zeroD _ _, c11⟩

end
end Go.Proofs.YtcdnjeojgjakdaaDoor
