/- Layer 14 (rtt): the program's estimator. -/
import Derived.Test.YtipfpocnapholaaV14Math
import Derived.Test.YtipfpocnapholaaV11Back
import Derived.Test.YtipfpocnapholaaAloc
import Derived.Deep.RegionHeld3
import Derived.StillTailTactics
namespace Go.Proofs.Ytipfpocnapholaa
open Go.RowKit

theorem held_rtt (n : Nat) (w : World) : Calls Try.prog 21 #[.int .u64 (n : Int)] w fun e w' => e = .returned (.int .u64 (heldN n : Nat)) ∧ w' = w := by
  by_cases h : (n : Int) ≤ 1099511627776
  · have e1 : heldN n = n := heldN_of n (by unfold MT; omega)
    rw [e1]
    go_enter Try.func21, Try.ntmps21
    go_wp2
    go_ret
    exact ⟨rfl, rfl⟩
  · have e1 : heldN n = 1099511627776 := by unfold heldN MT; omega
    rw [e1]
    have h2 : (1099511627776 : Int) < (n : Int) := by omega
    go_enter Try.func21, Try.ntmps21
    go_wp2
    go_ret
    exact ⟨rfl, rfl⟩

theorem apart_any (a b : Nat) (ha : a < 18446744073709551616) (hb : b < 18446744073709551616) (w : World) : Calls Try.prog 23 #[.int .u64 (a : Int), .int .u64 (b : Int)] w fun e w' => e = .returned (.int .u64 (farN a b : Nat)) ∧ w' = w := by
  by_cases h : (a : Int) < (b : Int)
  · have e1 : (farN a b : Int) = (b : Int) - (a : Int) := by unfold farN; omega
    have h2 : ¬ (b : Int) ≤ (a : Int) := by omega
    rw [e1]
    go_enter Try.func23, Try.ntmps23
    go_wp2
    all_goals (first | (exfalso; omega) | (go_ret; exact ⟨rfl, rfl⟩))
  · have e1 : (farN a b : Int) = (a : Int) - (b : Int) := by unfold farN; omega
    have h2 : (b : Int) ≤ (a : Int) := by omega
    rw [e1]
    go_enter Try.func23, Try.ntmps23
    go_wp2
    all_goals (first | (exfalso; omega) | (go_ret; exact ⟨rfl, rfl⟩) | (go_ret; exact ⟨ret_u64 (by omega), rfl⟩))

theorem blend_any (k a b : Nat) (h : k * a + b < 18446744073709551616) (hk : k < 99) (w : World) : Calls Try.prog 22 #[.int .u64 (k : Int), .int .u64 (a : Int), .int .u64 (b : Int)] w fun e w' => e = .returned (.int .u64 ((k * a + b) / (k + 1) : Nat)) ∧ w' = w := by
  have h1 : IntKind.u64.wrap ((k : Int) * (a : Int)) = ((k * a : Nat) : Int) := wrapN (k * a) (by omega)
  generalize k * a = ka at *
  have h2 : IntKind.u64.wrap ((ka : Int) + (b : Int)) = ((ka + b : Nat) : Int) := wrapN (ka + b) (by omega)
  have h3 : IntKind.u64.wrap ((k : Int) + 1) = ((k + 1 : Nat) : Int) := wrapN (k + 1) (by omega)
  have h4 : (((k + 1 : Nat) : Int) == 0) = false := by rw [beq_eq_false_iff_ne]; omega
  have h5 : 0 < ((k + 1 : Nat) : Int) := by omega
  have h6 : ((ka : Int) + (b : Int)) / ((k : Int) + 1) = (((ka + b) / (k + 1) : Nat) : Int) := by simp
  generalize (ka + b) / (k + 1) = q at *
  go_enter Try.func22, Try.ntmps22
  go_wp2
  go_ret
  exact ⟨ret_u64 h6, rfl⟩

/-- An estimator's cells. -/
def es (e : Est) : List Value := [.int .u64 (e.sm : Nat), .int .u64 (e.vr : Nat), .int .u64 (e.le : Nat), .int .u64 (e.la : Nat), .bool e.an]
theorem Row.newAt' (W : World) (e : TypeId) (cs : List Value) (b : Nat) (hb : W.heap.size = b) : Row (W.alloc (.cells cs.toArray e)) b e cs := hb ▸ Row.new W e cs
/-- The estimator lies in block g. -/
abbrev EstAt (w : World) (g : Nat) (e : Est) : Prop := Row w g 48 (es e)

set_option maxRecDepth 100000 in
set_option maxHeartbeats 1000000 in
theorem rNew_any (g : Nat) (w : World) : Calls Try.prog 17 #[.int .u64 (g : Int)] w fun e w' =>
    e = .returned (.pointer (some ⟨w.heap.size, 0, none⟩)) ∧ EstAt w' w.heap.size (newE g) ∧ Chg none_ w w' ∧ w'.heap.size = w.heap.size + 1 := by
  have HH := Lib.hid (fun n w => held_rtt n w)
  by_cases h : (1 : Int) ≤ (g : Int)
  · have e1 : newE g = ⟨heldN g, heldN g / 2, 0, 0, false⟩ := by unfold newE; rw [Nat.max_eq_left (by omega)]
    have HG := Lib.hid (fun w => held_rtt g w)
    rw [e1]
    have hb := heldN_le g
    unfold MT at hb
    generalize heldN g = t at *
    obtain ⟨q, hq⟩ : ∃ q, q = t / 2 := ⟨_, rfl⟩
    have h2 : ((t : Int) / 2) = (q : Int) := by omega
    rw [← hq]
    have hq3 : q < 18446744073709551616 := by omega
    clear hq
    go_enter Try.func17, Try.ntmps17
    go_wp2_with (go_at_call 21; refine (HG.out _).mono ?_; rintro e w9 ⟨rfl, rfl⟩)
    all_goals (first | (exfalso; omega) | skip)
    go_ret
    exact ⟨rfl, Row.newAt' _ _ (es ⟨t, q, 0, 0, false⟩) _ rfl, (Chg.refl none_ _).alloc _, by simp⟩
  · have h0 : g = 0 := by omega
    subst h0
    have e1 : newE 0 = ⟨1, 0, 0, 0, false⟩ := by unfold newE heldN MT; simp
    have HG : Hid (∀ w, Calls Try.prog 21 #[.int .u64 1] w fun e w' => e = .returned (.int .u64 1) ∧ w' = w) := Lib.hid (fun w => held_rtt 1 w)
    rw [e1]
    go_enter Try.func17, Try.ntmps17
    go_wp2_with (go_at_call 21; refine (HG.out _).mono ?_; rintro e w9 ⟨rfl, rfl⟩)
    all_goals (first | (exfalso; omega) | skip)
    go_ret
    exact ⟨rfl, Row.newAt' _ _ (es ⟨1, 0, 0, 0, false⟩) _ rfl, (Chg.refl none_ _).alloc _, by simp⟩

theorem rSmooth_any (g : Nat) (s : Est) (w : World) (hr : EstAt w g s) : Calls Try.prog 11 #[.pointer (some ⟨g, 0, none⟩)] w fun e w' => e = .returned (.int .u64 (s.sm : Nat)) ∧ w' = w := by
  have hc : w.cell? ⟨g, 0, none⟩ = some (.int .u64 (s.sm : Nat)) := hr.cell 0
  clear hr
  go_enter Try.func11, Try.ntmps11
  go_wp2
  go_ret
  exact ⟨rfl, rfl⟩
theorem rSmooth_nil (w : World) : Calls Try.prog 11 #[.pointer none] w fun e w' => e = .returned (.int .u64 0) ∧ w' = w := by
  go_enter Try.func11, Try.ntmps11
  go_wp2
  go_ret
  exact ⟨rfl, rfl⟩
theorem rVar_any (g : Nat) (s : Est) (w : World) (hr : EstAt w g s) : Calls Try.prog 12 #[.pointer (some ⟨g, 0, none⟩)] w fun e w' => e = .returned (.int .u64 (s.vr : Nat)) ∧ w' = w := by
  have hc : w.cell? ⟨g, 1, none⟩ = some (.int .u64 (s.vr : Nat)) := hr.cell 1
  clear hr
  go_enter Try.func12, Try.ntmps12
  go_wp2
  go_ret
  exact ⟨rfl, rfl⟩
theorem rVar_nil (w : World) : Calls Try.prog 12 #[.pointer none] w fun e w' => e = .returned (.int .u64 0) ∧ w' = w := by
  go_enter Try.func12, Try.ntmps12
  go_wp2
  go_ret
  exact ⟨rfl, rfl⟩
theorem rLeast_any (g : Nat) (s : Est) (w : World) (hr : EstAt w g s) : Calls Try.prog 13 #[.pointer (some ⟨g, 0, none⟩)] w fun e w' => e = .returned (.int .u64 (s.le : Nat)) ∧ w' = w := by
  have hc : w.cell? ⟨g, 2, none⟩ = some (.int .u64 (s.le : Nat)) := hr.cell 2
  clear hr
  go_enter Try.func13, Try.ntmps13
  go_wp2
  go_ret
  exact ⟨rfl, rfl⟩
theorem rLeast_nil (w : World) : Calls Try.prog 13 #[.pointer none] w fun e w' => e = .returned (.int .u64 0) ∧ w' = w := by
  go_enter Try.func13, Try.ntmps13
  go_wp2
  go_ret
  exact ⟨rfl, rfl⟩
theorem rLatest_any (g : Nat) (s : Est) (w : World) (hr : EstAt w g s) : Calls Try.prog 14 #[.pointer (some ⟨g, 0, none⟩)] w fun e w' => e = .returned (.int .u64 (s.la : Nat)) ∧ w' = w := by
  have hc : w.cell? ⟨g, 3, none⟩ = some (.int .u64 (s.la : Nat)) := hr.cell 3
  clear hr
  go_enter Try.func14, Try.ntmps14
  go_wp2
  go_ret
  exact ⟨rfl, rfl⟩
theorem rLatest_nil (w : World) : Calls Try.prog 14 #[.pointer none] w fun e w' => e = .returned (.int .u64 0) ∧ w' = w := by
  go_enter Try.func14, Try.ntmps14
  go_wp2
  go_ret
  exact ⟨rfl, rfl⟩

theorem rTake_nil (t d : Int) (w : World) : Calls Try.prog 10 #[.pointer none, .int .u64 t, .int .u64 d] w fun e w' => e = .returned (.tuple #[]) ∧ w' = w := by
  go_enter Try.func10, Try.ntmps10
  go_wp2
  refine bodyPost_ret (results_none rfl _ _ _) rfl ?_
  exact ⟨rfl, rfl⟩
theorem rProbe_nil (d c : Int) (w : World) : Calls Try.prog 15 #[.pointer none, .int .u64 d, .int .i64 c] w fun e w' => e = .returned (.int .u64 0) ∧ w' = w := by
  go_enter Try.func15, Try.ntmps15
  go_wp2
  go_ret
  exact ⟨rfl, rfl⟩
theorem rLoss_nil (w : World) : Calls Try.prog 16 #[.pointer none] w fun e w' => e = .returned (.int .u64 0) ∧ w' = w := by
  go_enter Try.func16, Try.ntmps16
  go_wp2
  go_ret
  exact ⟨rfl, rfl⟩

set_option maxRecDepth 100000 in
set_option maxHeartbeats 1000000 in
theorem rTake_first (g : Nat) (s : Est) (t0 d0 : Nat) (hf : s.an = false) (w : World) (hr : EstAt w g s) :
    Calls Try.prog 10 #[.pointer (some ⟨g, 0, none⟩), .int .u64 (t0 : Int), .int .u64 (d0 : Int)] w fun e w' => e = .returned (.tuple #[]) ∧ EstAt w' g (takeE s t0 d0) ∧ Chg (· = g) w w' := by
  have e1 : takeE s t0 d0 = ⟨heldN t0, heldN t0 / 2, heldN t0, heldN t0, true⟩ := by unfold takeE takeH; rw [if_pos hf]
  rw [e1]
  have HT := Lib.hid (fun w => held_rtt t0 w)
  have HD := Lib.hid (fun w => held_rtt d0 w)
  have hb := heldN_le t0
  unfold MT at hb
  generalize heldN t0 = t at *
  generalize heldN d0 = d at *
  obtain ⟨q, hq⟩ : ∃ q, q = t / 2 := ⟨_, rfl⟩
  have h2 : ((t : Int) / 2) = (q : Int) := by omega
  rw [← hq]
  have hq3 : q < 18446744073709551616 := by omega
  clear hq
  have hc0 := hr.cell 0
  have hc1 := hr.cell 1
  have hc2 := hr.cell 2
  have hc3 := hr.cell 3
  have hc4 := hr.cell 4
  simp only [es, hf, List.getElem?_cons_succ, List.getElem?_cons_zero] at hc0 hc1 hc2 hc3 hc4
  have hz := hr.frozen
  have hlt := hr.lt
  have HR := Lib.hid (((((hr.set 3 (.int .u64 (t : Int))).set 4 (.bool true)).set 0 (.int .u64 (t : Int))).set 1 (.int .u64 (q : Int))).set 2 (.int .u64 (t : Int)))
  have HC := Lib.hid ((((((Chg.refl (· = g) w).setCell (p := ⟨g, 3, none⟩) (fun _ => rfl) (.int .u64 (t : Int))).setCell (p := ⟨g, 4, none⟩) (fun _ => rfl) (.bool true)).setCell (p := ⟨g, 0, none⟩) (fun _ => rfl) (.int .u64 (t : Int))).setCell (p := ⟨g, 1, none⟩) (fun _ => rfl) (.int .u64 (q : Int))).setCell (p := ⟨g, 2, none⟩) (fun _ => rfl) (.int .u64 (t : Int)))
  clear hr
  go_enter Try.func10, Try.ntmps10
  go_wp2_with (first | ((with_reducible show Calls _ _ #[.int .u64 (t0 : Int)] _ _); refine (HT.out _).mono ?_; rintro e w9 ⟨rfl, rfl⟩) | ((with_reducible show Calls _ _ #[.int .u64 (d0 : Int)] _ _); refine (HD.out _).mono ?_; rintro e w9 ⟨rfl, rfl⟩))
  refine bodyPost_ret (results_none rfl _ _ _) rfl ?_
  exact ⟨rfl, HR.out, HC.out⟩

theorem EstAt.cells {w : World} {g : Nat} {s : Est} (hr : EstAt w g s) : w.cell? ⟨g, 0, none⟩ = some (.int .u64 (s.sm : Nat)) ∧ w.cell? ⟨g, 1, none⟩ = some (.int .u64 (s.vr : Nat)) ∧ w.cell? ⟨g, 2, none⟩ = some (.int .u64 (s.le : Nat)) ∧ w.cell? ⟨g, 3, none⟩ = some (.int .u64 (s.la : Nat)) ∧ w.cell? ⟨g, 4, none⟩ = some (.bool s.an) :=
  ⟨hr.cell 0, hr.cell 1, hr.cell 2, hr.cell 3, hr.cell 4⟩

/-- The world behind an answer's second store, and what it holds. -/
theorem take_mid {w : World} {g : Nat} {s : Est} (hr : EstAt w g s) (t l : Nat) :
    EstAt ((w.setCell ⟨g, 3, none⟩ (.int .u64 (t : Int))).setCell ⟨g, 2, none⟩ (.int .u64 (l : Int))) g ⟨s.sm, s.vr, l, t, s.an⟩ ∧ Chg (· = g) w ((w.setCell ⟨g, 3, none⟩ (.int .u64 (t : Int))).setCell ⟨g, 2, none⟩ (.int .u64 (l : Int))) :=
  ⟨(hr.set 3 (.int .u64 (t : Int))).set 2 (.int .u64 (l : Int)), ((Chg.refl (· = g) w).setCell (p := ⟨g, 3, none⟩) (fun _ => rfl) _).setCell (p := ⟨g, 2, none⟩) (fun _ => rfl) _⟩
theorem EstAt.setVr {w : World} {g : Nat} {s : Est} (hr : EstAt w g s) (v : Nat) : EstAt (w.setCell ⟨g, 1, none⟩ (.int .u64 (v : Int))).drew g { s with vr := v } := hr.set 1 _
theorem EstAt.setSm {w : World} {g : Nat} {s : Est} (hr : EstAt w g s) (v : Nat) : EstAt (w.setCell ⟨g, 0, none⟩ (.int .u64 (v : Int))) g { s with sm := v } := hr.set 0 _

set_option maxRecDepth 100000 in
set_option maxHeartbeats 4000000 in
theorem rTake_next (g : Nat) (s : Est) (t0 d0 : Nat) (hf : s.an = true) (hok : s.Ok) (w : World) (hr : EstAt w g s) :
    Calls Try.prog 10 #[.pointer (some ⟨g, 0, none⟩), .int .u64 (t0 : Int), .int .u64 (d0 : Int)] w fun e w' => e = .returned (.tuple #[]) ∧ EstAt w' g (takeE s t0 d0) ∧ Chg (· = g) w w' := by
  obtain ⟨l, hl⟩ : ∃ l, l = min s.le (heldN t0) := ⟨_, rfl⟩
  obtain ⟨ad, had⟩ : ∃ ad, ad = adjN (heldN t0) (heldN d0) l := ⟨_, rfl⟩
  obtain ⟨fr, hfr⟩ : ∃ fr, fr = farN s.sm ad := ⟨_, rfl⟩
  obtain ⟨vr', hvr⟩ : ∃ v, v = (3 * s.vr + fr) / (3 + 1) := ⟨_, rfl⟩
  obtain ⟨sm', hsm⟩ : ∃ v, v = (7 * s.sm + ad) / (7 + 1) := ⟨_, rfl⟩
  have e1 : takeE s t0 d0 = ⟨sm', vr', l, heldN t0, true⟩ := by
    unfold takeE takeH; rw [if_neg (by rw [hf]; decide), ← hl, ← had, ← hfr, hvr, hsm]
  rw [e1]
  have HT := Lib.hid (fun w => held_rtt t0 w)
  have HD := Lib.hid (fun w => held_rtt d0 w)
  have hb := heldN_le t0
  have hb2 := heldN_le d0
  obtain ⟨o1, o2, o3, o4⟩ := hok
  have hadl : ad ≤ MT := by rw [had]; have := adjN_le (heldN t0) (heldN d0) l; omega
  have hfl : fr ≤ MT := by rw [hfr]; exact farN_le _ _ _ o1 hadl
  have HA := Lib.hid (fun w => apart_any s.sm ad (by unfold MT at *; omega) (by unfold MT at *; omega) w)
  rw [← hfr] at HA
  have HB1 : Hid (∀ w, Calls Try.prog 22 #[.int .u64 3, .int .u64 (s.vr : Int), .int .u64 (fr : Int)] w fun e w' => e = .returned (.int .u64 (vr' : Int)) ∧ w' = w) := Lib.hid (fun w => by rw [hvr]; exact blend_any 3 s.vr fr (by unfold MT at *; omega) (by omega) w)
  have HB2 : Hid (∀ w, Calls Try.prog 22 #[.int .u64 7, .int .u64 (s.sm : Int), .int .u64 (ad : Int)] w fun e w' => e = .returned (.int .u64 (sm' : Int)) ∧ w' = w) := Lib.hid (fun w => by rw [hsm]; exact blend_any 7 s.sm ad (by unfold MT at *; omega) (by omega) w)
  generalize heldN t0 = t at *
  generalize heldN d0 = d at *
  have HADJ := Lib.hid had
  clear hfr hvr hsm had
  obtain ⟨c0, c1, c2, c3, c4⟩ := hr.cells
  rw [hf] at c4
  have hz := hr.frozen
  have hlt := hr.lt
  have HM := Lib.hid (take_mid hr t l)
  have HLE : Hid (l ≤ MT) := Lib.hid (by omega)
  unfold MT at hb hb2 o1 o2 o3 o4 hadl hfl
  generalize hsl : s.le = le at *
  generalize hss : s.sm = sm at *
  generalize hsv : s.vr = vr at *
  clear hr
  by_cases hm : (t : Int) < (le : Int)
  · have h1 : l = t := by omega
    clear hl
    subst h1
    by_cases ha : (l : Int) + (d : Int) ≤ (l : Int)
    · have hd : (l : Int) - (d : Int) = (ad : Int) := by rw [HADJ.out]; unfold adjN; rw [if_pos (by omega)]; omega
      go_enter Try.func10, Try.ntmps10
      go_wp2_with (first | ((with_reducible show Calls _ _ #[.int .u64 (t0 : Int)] _ _); refine (HT.out _).mono ?_; rintro e w9 ⟨rfl, rfl⟩) | ((with_reducible show Calls _ _ #[.int .u64 (d0 : Int)] _ _); refine (HD.out _).mono ?_; rintro e w9 ⟨rfl, rfl⟩))
      obtain ⟨x, hx⟩ : ∃ x : World, x = (w9.setCell ⟨g, 3, none⟩ (.int .u64 (l : Int))).setCell ⟨g, 2, none⟩ (.int .u64 (l : Int)) := ⟨_, rfl⟩
      rw [← hx] at HM ⊢
      clear hx c0 c1 c2 c3 c4 hz hlt
      obtain ⟨c0, c1, _, _, _⟩ := HM.out.1.cells
      have hz := HM.out.1.frozen
      have hlt := HM.out.1.lt
      refine wp_region_still_tail 14 (by kernel_rfl) (by kernel_rfl) ?_
      simp only [List.take_succ_cons, List.take_zero, List.drop_succ_cons, List.drop_zero]
      iterate 10 still_step
      still_call (HA.out _)
      still_call (HB1.out _)
      iterate 2 still_step
      refine wpStill_nil ?_
      change wpList _ _ _ _ _ (World.drew _)
      have HM2 := Lib.hid ((HM.out.1.set 1 (.int .u64 (vr' : Int))).set 0 (.int .u64 (sm' : Int)))
      have HC2 := Lib.hid ((HM.out.2.setCell (p := ⟨g, 1, none⟩) (fun _ => rfl) (.int .u64 (vr' : Int))).setCell (p := ⟨g, 0, none⟩) (fun _ => rfl) (.int .u64 (sm' : Int)))
      go_wp2_with (go_at_call 22; refine (HB2.out _).mono ?_; rintro e w8 ⟨rfl, rfl⟩)
      refine bodyPost_end (results_none rfl _ _ _) rfl ?_
      refine ⟨rfl, ?_, HC2.out.drew⟩
      have := HM2.out.drew
      simp [es, hf] at this
      exact this
    · have hd : l = ad := by rw [HADJ.out]; unfold adjN; rw [if_neg (by omega)]
      subst hd
      go_enter Try.func10, Try.ntmps10
      go_wp2_with (first | ((with_reducible show Calls _ _ #[.int .u64 (t0 : Int)] _ _); refine (HT.out _).mono ?_; rintro e w9 ⟨rfl, rfl⟩) | ((with_reducible show Calls _ _ #[.int .u64 (d0 : Int)] _ _); refine (HD.out _).mono ?_; rintro e w9 ⟨rfl, rfl⟩))
      obtain ⟨x, hx⟩ : ∃ x : World, x = (w9.setCell ⟨g, 3, none⟩ (.int .u64 (l : Int))).setCell ⟨g, 2, none⟩ (.int .u64 (l : Int)) := ⟨_, rfl⟩
      rw [← hx] at HM ⊢
      clear hx c0 c1 c2 c3 c4 hz hlt
      obtain ⟨c0, c1, _, _, _⟩ := HM.out.1.cells
      have hz := HM.out.1.frozen
      have hlt := HM.out.1.lt
      refine wp_region_still_tail 14 (by kernel_rfl) (by kernel_rfl) ?_
      simp only [List.take_succ_cons, List.take_zero, List.drop_succ_cons, List.drop_zero]
      iterate 10 still_step
      still_call (HA.out _)
      still_call (HB1.out _)
      iterate 2 still_step
      refine wpStill_nil ?_
      change wpList _ _ _ _ _ (World.drew _)
      have HM2 := Lib.hid ((HM.out.1.set 1 (.int .u64 (vr' : Int))).set 0 (.int .u64 (sm' : Int)))
      have HC2 := Lib.hid ((HM.out.2.setCell (p := ⟨g, 1, none⟩) (fun _ => rfl) (.int .u64 (vr' : Int))).setCell (p := ⟨g, 0, none⟩) (fun _ => rfl) (.int .u64 (sm' : Int)))
      go_wp2_with (go_at_call 22; refine (HB2.out _).mono ?_; rintro e w8 ⟨rfl, rfl⟩)
      refine bodyPost_end (results_none rfl _ _ _) rfl ?_
      refine ⟨rfl, ?_, HC2.out.drew⟩
      have := HM2.out.drew
      simp [es, hf] at this
      exact this
  · have h1 : l = le := by omega
    clear hl
    subst h1
    by_cases ha : (l : Int) + (d : Int) ≤ (t : Int)
    · have hd : (t : Int) - (d : Int) = (ad : Int) := by rw [HADJ.out]; unfold adjN; rw [if_pos (by omega)]; omega
      go_enter Try.func10, Try.ntmps10
      go_wp2_with (first | ((with_reducible show Calls _ _ #[.int .u64 (t0 : Int)] _ _); refine (HT.out _).mono ?_; rintro e w9 ⟨rfl, rfl⟩) | ((with_reducible show Calls _ _ #[.int .u64 (d0 : Int)] _ _); refine (HD.out _).mono ?_; rintro e w9 ⟨rfl, rfl⟩))
      obtain ⟨x, hx⟩ : ∃ x : World, x = (w9.setCell ⟨g, 3, none⟩ (.int .u64 (t : Int))).setCell ⟨g, 2, none⟩ (.int .u64 (l : Int)) := ⟨_, rfl⟩
      rw [← hx] at HM ⊢
      clear hx c0 c1 c2 c3 c4 hz hlt
      obtain ⟨c0, c1, _, _, _⟩ := HM.out.1.cells
      have hz := HM.out.1.frozen
      have hlt := HM.out.1.lt
      refine wp_region_still_tail 14 (by kernel_rfl) (by kernel_rfl) ?_
      simp only [List.take_succ_cons, List.take_zero, List.drop_succ_cons, List.drop_zero]
      iterate 10 still_step
      still_call (HA.out _)
      still_call (HB1.out _)
      iterate 2 still_step
      refine wpStill_nil ?_
      change wpList _ _ _ _ _ (World.drew _)
      have HM2 := Lib.hid ((HM.out.1.set 1 (.int .u64 (vr' : Int))).set 0 (.int .u64 (sm' : Int)))
      have HC2 := Lib.hid ((HM.out.2.setCell (p := ⟨g, 1, none⟩) (fun _ => rfl) (.int .u64 (vr' : Int))).setCell (p := ⟨g, 0, none⟩) (fun _ => rfl) (.int .u64 (sm' : Int)))
      go_wp2_with (go_at_call 22; refine (HB2.out _).mono ?_; rintro e w8 ⟨rfl, rfl⟩)
      refine bodyPost_end (results_none rfl _ _ _) rfl ?_
      refine ⟨rfl, ?_, HC2.out.drew⟩
      have := HM2.out.drew
      simp [es, hf] at this
      exact this
    · have hd : t = ad := by rw [HADJ.out]; unfold adjN; rw [if_neg (by omega)]
      subst hd
      go_enter Try.func10, Try.ntmps10
      go_wp2_with (first | ((with_reducible show Calls _ _ #[.int .u64 (t0 : Int)] _ _); refine (HT.out _).mono ?_; rintro e w9 ⟨rfl, rfl⟩) | ((with_reducible show Calls _ _ #[.int .u64 (d0 : Int)] _ _); refine (HD.out _).mono ?_; rintro e w9 ⟨rfl, rfl⟩))
      obtain ⟨x, hx⟩ : ∃ x : World, x = (w9.setCell ⟨g, 3, none⟩ (.int .u64 (t : Int))).setCell ⟨g, 2, none⟩ (.int .u64 (l : Int)) := ⟨_, rfl⟩
      rw [← hx] at HM ⊢
      clear hx c0 c1 c2 c3 c4 hz hlt
      obtain ⟨c0, c1, _, _, _⟩ := HM.out.1.cells
      have hz := HM.out.1.frozen
      have hlt := HM.out.1.lt
      refine wp_region_still_tail 14 (by kernel_rfl) (by kernel_rfl) ?_
      simp only [List.take_succ_cons, List.take_zero, List.drop_succ_cons, List.drop_zero]
      iterate 10 still_step
      still_call (HA.out _)
      still_call (HB1.out _)
      iterate 2 still_step
      refine wpStill_nil ?_
      change wpList _ _ _ _ _ (World.drew _)
      have HM2 := Lib.hid ((HM.out.1.set 1 (.int .u64 (vr' : Int))).set 0 (.int .u64 (sm' : Int)))
      have HC2 := Lib.hid ((HM.out.2.setCell (p := ⟨g, 1, none⟩) (fun _ => rfl) (.int .u64 (vr' : Int))).setCell (p := ⟨g, 0, none⟩) (fun _ => rfl) (.int .u64 (sm' : Int)))
      go_wp2_with (go_at_call 22; refine (HB2.out _).mono ?_; rintro e w8 ⟨rfl, rfl⟩)
      refine bodyPost_end (results_none rfl _ _ _) rfl ?_
      refine ⟨rfl, ?_, HC2.out.drew⟩
      have := HM2.out.drew
      simp [es, hf] at this
      exact this
end Go.Proofs.Ytipfpocnapholaa
