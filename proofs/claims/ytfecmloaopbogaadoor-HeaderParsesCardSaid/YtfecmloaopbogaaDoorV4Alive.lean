/- Layer 4 (header): the laws' own look that the program answers at all. -/
import Derived.Test.YtfecmloaopbogaaDoorV4Put
import Derived.Test.YtfecmloaopbogaaDoorV4Parse
import Derived.Test.YtfecmloaopbogaaDoorV4Peek
import Derived.Test.YtfecmloaopbogaaDoorV4Same
import Derived.Lib.SmallJoins
namespace Go.Proofs.YtfecmloaopbogaaDoor
open Go.RowKit

def sH : Hd := { dst := [7, 7, 7, 7, 7, 7, 7, 7], cut := [9] }
def lH : Hd := { long := true, version := 1, dst := [97, 98], src := [99], token := [116], cut := [1, 2], rest := 3 }
def sB : List Nat := [64, 7, 7, 7, 7, 7, 7, 7, 7, 9]
def lB : List Nat := [193, 0, 0, 0, 1, 2, 97, 98, 1, 99, 1, 116, 5, 1, 2]
theorem put_sH : putH sH = sB := by decide +kernel
theorem put_lH : putH lH = lB := by decide +kernel
theorem parse_lH : parseM (lB ++ [1, 2, 3, 4]) = (lH, 15, 0) := by decide +kernel
theorem parse_nil : parseM [] = ({}, 0, 2) := by decide +kernel
theorem peek_lH : peekM (lB ++ [1, 2, 3, 4]) = ([97, 98], true, true) := by decide +kernel
theorem right_sH : rightH sH = true := by decide +kernel
theorem right_zero : rightH {} = false := by decide +kernel
theorem sH_ok : sH.Ok := by constructor <;> decide
theorem lH_ok : lH.Ok := by constructor <;> decide

def vS (n : Nat) : Four := ⟨.slice (some ⟨n, 0, none⟩) 8 8, .slice none 0 0, .slice none 0 0, .slice (some ⟨n + 1, 0, none⟩) 1 1⟩
noncomputable def sW (w : World) : World := ((w.alloc (.cells (u8s sH.dst).toArray 5)).alloc (.cells (u8s sH.cut).toArray 5)).alloc (.cells (cellsH sH (vS w.heap.size)).toArray 25)
def vL (n : Nat) : Four := ⟨.slice (some ⟨n, 0, none⟩) 2 2, .slice (some ⟨n + 1, 0, none⟩) 1 1, .slice (some ⟨n + 2, 0, none⟩) 1 1, .slice (some ⟨n + 3, 0, none⟩) 2 2⟩
noncomputable def lW1 (w : World) : World := w.alloc (.cells (u8s lH.dst).toArray 5 (2, 3))
noncomputable def lW2 (w : World) : World := (lW1 w).alloc (.cells (u8s lH.src).toArray 5 (1, 2))
noncomputable def lW3 (w : World) : World := (lW2 w).alloc (.cells (u8s lH.token).toArray 5 (1, 2))
noncomputable def lW (w : World) : World := ((lW3 w).alloc (.cells (u8s lH.cut).toArray 5)).alloc (.cells (cellsH lH (vL w.heap.size)).toArray 25)
theorem lW1_size (w : World) : (lW1 w).heap.size = w.heap.size + 1 := by simp [lW1]
theorem lW2_size (w : World) : (lW2 w).heap.size = w.heap.size + 1 + 1 := by simp [lW2, lW1_size]
theorem lW3_size (w : World) : (lW3 w).heap.size = w.heap.size + 1 + 1 + 1 := by simp [lW3, lW2_size]

/-- A literal's bytes, marked. -/
theorem mark_sl (w : World) (T : Nat → Prop) (e : TypeId) (fr : Nat × Nat) (l : List Nat) (hl : l.length ≤ 1000000) (g : Nat) (hg : g = w.heap.size) (hT : T g) (n : Nat) (hn : n = l.length) : Sl (w.alloc (.cells (u8s l).toArray e fr)) T (.slice (some ⟨g, 0, none⟩) n n) l := by
  subst hn
  refine ⟨_, _, rfl, hl, by simp, fun _ => ⟨g, 0, rfl, by subst hg; simp, hT, fun j _ => ?_⟩⟩
  rw [Go.Joins.cell_alloc_mark_at w _ _ _ g _ hg]
  simp

theorem row_sl {w : World} {T : Nat → Prop} {g : Nat} {l : List Nat} (h : Row w g 5 (u8s l)) (hl : l.length ≤ 1000000) (hT : T g) (n : Nat) (hn : n = l.length) : Sl w T (.slice (some ⟨g, 0, none⟩) n n) l := by
  subst hn
  have := View.row (T := T) h (n := l.length) (by simp) hT
  rw [List.take_of_length_le (by simp)] at this
  exact ⟨_, _, rfl, hl, this⟩
theorem Row.at (w : World) (e : TypeId) (cs : List Value) (n : Nat) (hn : n = w.heap.size) : Row (w.alloc (.cells cs.toArray e)) n e cs := hn ▸ Row.new w e cs

theorem sW_facts (w : World) : Chg none_ w (sW w) ∧ Row (sW w) (w.heap.size + 1 + 1) 25 (cellsH sH (vS w.heap.size)) ∧ HdD (sW w) (fun b => w.heap.size ≤ b) sH (vS w.heap.size) :=
  ⟨(((Chg.refl none_ w).alloc _).alloc _).alloc _, Row.at _ _ _ _ (by simp), row_sl (((Row.at _ _ _ _ rfl).alloc _).alloc _) (by decide) (Nat.le_refl _) _ rfl, Sl.nil _ _ _ _, Sl.nil _ _ _ _, row_sl ((Row.at _ _ _ _ (by simp)).alloc _) (by decide) (Nat.le_add_right _ _) _ rfl⟩
theorem Sl.alloc {w : World} {T : Nat → Prop} {v : Value} {l : List Nat} (h : Sl w T v l) (o : Obj) : Sl (w.alloc o) T v l := h.chg ((Chg.refl none_ w).alloc o) (fun _ _ h => h)
theorem lW_facts (w : World) : Chg none_ w (lW w) ∧ Row (lW w) (w.heap.size + 1 + 1 + 1 + 1) 25 (cellsH lH (vL w.heap.size)) ∧ HdD (lW w) (fun b => w.heap.size ≤ b) lH (vL w.heap.size) :=
  ⟨(((((Chg.refl none_ w).alloc _).alloc _).alloc _).alloc _).alloc _, Row.at _ _ _ _ (by simp [lW3_size]),
    (((((mark_sl w _ _ _ lH.dst (by decide) _ rfl (Nat.le_refl _) _ rfl).alloc _).alloc _).alloc _).alloc _),
    ((((mark_sl (lW1 w) _ _ _ lH.src (by decide) (w.heap.size + 1) (lW1_size w).symm (by omega) _ rfl).alloc _).alloc _).alloc _),
    (((mark_sl (lW2 w) _ _ _ lH.token (by decide) (w.heap.size + 2) (lW2_size w).symm (by omega) _ rfl).alloc _).alloc _),
    row_sl ((Row.at _ _ _ _ (by simp [lW3_size])).alloc _) (by decide) (by omega) _ rfl⟩

set_option maxRecDepth 100000 in
set_option maxHeartbeats 2000000 in
theorem alive_any (w : World) (hT : Tab w) : Calls Tryd.prog 10 #[] w fun e w' => e = .returned (.bool true) ∧ Chg none_ w w' := by
  obtain ⟨i0, hi, hz0, hz1, hz2⟩ := info_parts info5
  have HT := Lib.hid hT
  clear hT
  go_enter Tryd.func10, Tryd.ntmps10
  go_wp2_with fail
  change Calls _ _ #[aggH sH (vS w.heap.size)] (sW w) _
  obtain ⟨c1, r1, d1⟩ := sW_facts w
  generalize sW w = W1 at *
  have HC1 := Lib.hid c1
  have HR1 := Lib.hid r1
  have HD1 := Lib.hid d1
  have HP1 := Lib.hid (put_hd sH (vS w.heap.size) W1 _ d1 (by decide) (HT.out.chg c1 (fun h => h)))
  rw [put_sH] at HP1
  clear c1 r1 d1
  refine HP1.out.mono ?_
  rintro e w2 ⟨A2, k2, rfl, f2, hc2⟩
  rw [show sB.length = 10 from rfl]
  have HF2 := Lib.hid f2
  have HC2 := Lib.hid (HC1.out.trans hc2)
  have HC12 := Lib.hid hc2
  clear f2 hc2 HP1
  have q1 := Go.Joins.run_convert_bytes_const_at (P := Tryd.prog) w2 23 5 #[.int .u8 97, .int .u8 98] 2 2 w2.heap.size rfl Tryd.underlying23 Tryd.underlying5
  have q2 := Go.Joins.run_convert_bytes_const_at (P := Tryd.prog) (w2.alloc (.cells #[.int .u8 97, .int .u8 98] 5 (2, 3))) 23 5 #[.int .u8 99] 1 1 (w2.heap.size + 1) (by simp) Tryd.underlying23 Tryd.underlying5
  have q3 := Go.Joins.run_convert_bytes_const_at (P := Tryd.prog) ((w2.alloc (.cells #[.int .u8 97, .int .u8 98] 5 (2, 3))).alloc (.cells #[.int .u8 99] 5 (1, 2))) 23 5 #[.int .u8 116] 1 1 (w2.heap.size + 1 + 1) (by simp) Tryd.underlying23 Tryd.underlying5
  simp at q1 q2 q3
  go_wp2_with fail
  clear q1 q2 q3
  change Calls _ _ #[aggH lH (vL w2.heap.size)] (lW w2) _
  obtain ⟨c3, r3, d3⟩ := lW_facts w2
  have hs23 : w2.heap.size < (lW w2).heap.size := by have := r3.lt; omega
  generalize lW w2 = W3 at *
  have HC23 := Lib.hid c3
  have HC3 := Lib.hid (HC2.out.trans c3)
  have HR3 := Lib.hid r3
  have HD3 := Lib.hid d3
  have HP3 := Lib.hid (put_hd lH (vL w2.heap.size) W3 _ d3 (by decide) (HT.out.chg HC3.out (fun h => h)))
  rw [put_lH] at HP3
  clear c3 r3 d3
  refine HP3.out.mono ?_
  rintro e w4 ⟨A4, k4, rfl, f4, hc4⟩
  have HF4 := Lib.hid f4
  have HC34 := Lib.hid hc4
  have HC4 := Lib.hid (HC3.out.trans hc4)
  have HC24 := Lib.hid (HC23.out.trans hc4)
  clear f4 hc4 HP3
  have hbl := HC34.out.size
  have HOW4 : Hid ((w4.alloc (.cells (u8s [1, 2, 3, 4]).toArray 5)).ownsRow W3.heap.size 5 1 (.slice A4 15 k4) 15 (u8s lB)) := own_chg HF4.out.own ((Chg.refl none_ w4).alloc _) (fun _ _ h => h)
  have HN4 : Hid (Chg none_ w (w4.alloc (.cells (u8s [1, 2, 3, 4]).toArray 5))) := HC4.out.alloc _
  have HV4 := Lib.hid (Sl.new w4 (fun _ => True) [1, 2, 3, 4] (by decide) trivial)
  go_wp2_with (at_builtin; refine wpList_append_view rfl _ _ 23 rfl 5 i0 _ 1 Tryd.underlying23 hi hz0 hz1 hz2 rfl W3.heap.size (.slice A4 15 k4) 15 (u8s lB) rfl HOW4.out (fun _ => True) (some ⟨w4.heap.size, 0, none⟩) 4 4 (u8s [1, 2, 3, 4]) rfl (by obtain ⟨_, _, e, _, h⟩ := HV4.out; injection e with e1 e2 e3; subst e1; exact h) (u8s_one _) (by unfold maxLen; omega) (by omega) (by simp; omega) ?_; intro v5 w5 hown5 hgrow5 hob5)
  have HC5 := Lib.hid (HN4.out.append (by have := HC3.out.size; omega) HOW4.out hgrow5)
  have HC35 : Hid (Chg none_ W3 w5) := (HC34.out.alloc _).append (Nat.le_refl _) HOW4.out hgrow5
  have HC25 : Hid (Chg none_ w2 w5) := (HC24.out.alloc _).append (by have := HC23.out.size; omega) HOW4.out hgrow5
  obtain ⟨A5, k5, rfl, _, _, hv5⟩ := View.own (T := fun _ => True) hown5 (fun _ _ => trivial)
  have HV5 : Hid (View w5 (fun _ => True) A5 (lB ++ [1, 2, 3, 4]).length (u8s (lB ++ [1, 2, 3, 4]))) := by
    have h := hv5
    rw [u8s_append] at h
    exact h
  clear hown5 hgrow5 hob5 hv5
  have HPA := Lib.hid (parse_any w5 (fun _ => True) A5 k5 (lB ++ [1, 2, 3, 4]) HV5.out (by decide) (by decide))
  rw [parse_lH] at HPA
  have HPK : Hid (∀ w', Chg none_ w5 w' → Calls Tryd.prog 21 #[.slice A5 (15 + 4) k5] w' (PeekPost w' [97, 98] true true)) := fun w' hc => by
    have h := peek_any w' (fun _ => True) A5 k5 (lB ++ [1, 2, 3, 4]) (HV5.out.chg hc (fun _ _ h => h)) (by decide) (by decide)
    rw [peek_lH] at h
    exact h
  refine HPA.out.mono ?_
  rintro e w6 ⟨⟨dv, sv, tv, cv⟩, rfl, d6, hc6⟩
  have HD6 := Lib.hid d6
  obtain ⟨⟨A6d, k6d, rfl, _, _⟩, ⟨A6s, k6s, rfl, _, _⟩, ⟨A6t, k6t, rfl, _, _⟩, ⟨A6c, k6c, rfl, _, _⟩⟩ := d6
  have HC6 := Lib.hid (HC5.out.trans hc6)
  have HC56 := Lib.hid hc6
  have HC36 := Lib.hid (HC35.out.trans hc6)
  clear hc6 HPA
  simp only [aggH, cellsH, lH]
  go_wp2_with fail
  change Calls _ _ _ (w6.alloc (.cells (cellsH lH ⟨.slice A6d lH.dst.length k6d, .slice A6s lH.src.length k6s, .slice A6t lH.token.length k6t, .slice A6c lH.cut.length k6c⟩).toArray 25)) _
  have r7 := Row.new w6 25 (cellsH lH ⟨.slice A6d lH.dst.length k6d, .slice A6s lH.src.length k6s, .slice A6t lH.token.length k6t, .slice A6c lH.cut.length k6c⟩)
  have c7 : Chg none_ w6 (w6.alloc (.cells (cellsH lH ⟨.slice A6d lH.dst.length k6d, .slice A6s lH.src.length k6s, .slice A6t lH.token.length k6t, .slice A6c lH.cut.length k6c⟩).toArray 25)) := (Chg.refl _ _).alloc _
  generalize w6.alloc (.cells (cellsH lH ⟨.slice A6d lH.dst.length k6d, .slice A6s lH.src.length k6s, .slice A6t lH.token.length k6t, .slice A6c lH.cut.length k6c⟩).toArray 25) = W7 at *
  have HR7 := Lib.hid r7
  have HC67 := Lib.hid c7
  clear r7 c7
  refine (HPK.out W7 (HC56.out.trans HC67.out)).mono ?_
  rintro e w8 ⟨A8, k8, rfl, v8, _, hc8⟩
  have HV8 := Lib.hid v8
  have HC78 := Lib.hid hc8
  clear v8 hc8 HPK
  go_wp2_with fail
  have HPN := Lib.hid (parse_any w8 (fun _ => True) none 0 [] (View.none_ _ _ _) (by decide) (by decide))
  rw [parse_nil] at HPN
  refine HPN.out.mono ?_
  rintro e w9 ⟨⟨dv, sv, tv, cv⟩, rfl, ⟨⟨B1, j1, e1, _, _⟩, ⟨B2, j2, e2, _, _⟩, ⟨B3, j3, e3, _, _⟩, ⟨B4, j4, e4, _, _⟩⟩, hc9⟩
  simp only at e1 e2 e3 e4
  subst e1; subst e2; subst e3; subst e4
  have HC89 := Lib.hid hc9
  clear hc9 HPN
  simp only [aggH, cellsH]
  go_wp2_with fail
  change Calls _ _ #[.slice A2 sB.length k2, .slice _ sB.length 10] ((w9.alloc (.cells (cellsH {} ⟨.slice B1 0 j1, .slice B2 0 j2, .slice B3 0 j3, .slice B4 0 j4⟩).toArray 25)).alloc (.cells (u8s sB).toArray 5)) _
  have c10 : Chg none_ w9 ((w9.alloc (.cells (cellsH {} ⟨.slice B1 0 j1, .slice B2 0 j2, .slice B3 0 j3, .slice B4 0 j4⟩).toArray 25)).alloc (.cells (u8s sB).toArray 5)) := ((Chg.refl _ _).alloc _).alloc _
  have r10 := Row.new2 w9 (.cells (cellsH {} ⟨.slice B1 0 j1, .slice B2 0 j2, .slice B3 0 j3, .slice B4 0 j4⟩).toArray 25) 5 (u8s sB)
  generalize (w9.alloc (.cells (cellsH {} ⟨.slice B1 0 j1, .slice B2 0 j2, .slice B3 0 j3, .slice B4 0 j4⟩).toArray 25)).alloc (.cells (u8s sB).toArray 5) = W10 at *
  have HC710 := Lib.hid ((HC78.out.trans HC89.out).trans c10)
  have HC610 := Lib.hid (HC67.out.trans HC710.out)
  have HC210 := Lib.hid ((HC25.out.trans HC56.out).trans HC610.out)
  have HC10 := Lib.hid (HC2.out.trans HC210.out)
  have hvl : View W10 (fun _ => True) (some ⟨w9.heap.size + 1, 0, none⟩) sB.length (u8s sB) := by
    have := View.row (T := fun _ => True) r10 (n := sB.length) (by simp) trivial
    rwa [List.take_of_length_le (by simp)] at this
  have HRA : Hid (∀ w', Chg none_ W10 w' → Row w' w6.heap.size 25 _) := fun w' hc => (HR7.out.chg HC710.out (fun h => h)).chg hc (fun h => h)
  have HRB : Hid (∀ w', Chg none_ W10 w' → Row w' (w2.heap.size + 1 + 1 + 1 + 1) 25 _) := fun w' hc => (HR3.out.chg (HC36.out.trans HC610.out) (fun h => h)).chg hc (fun h => h)
  have HRC : Hid (∀ w', Chg none_ W10 w' → Row w' (w.heap.size + 1 + 1) 25 _) := fun w' hc => (HR1.out.chg ((HC12.out.trans HC210.out)) (fun h => h)).chg hc (fun h => h)
  have HSA := Lib.hid (same_any W10 (fun _ => True) (fun _ => True) A2 (some ⟨w9.heap.size + 1, 0, none⟩) k2 10 sB sB ((HF2.out.view.mono (fun _ _ _ => trivial)).chg HC210.out (fun _ _ h => h)) hvl (by decide))
  refine HSA.out.mono ?_
  rintro e w11 ⟨rfl, nk, rfl⟩
  have hcd : Chg none_ W10 (W10.drewN nk) := (Chg.refl _ _).drewN nk
  rw [decide_eq_true rfl]
  have HSH : Hid (∀ w', Chg none_ W10 w' → Calls Tryd.prog 17 #[aggH lH ⟨.slice A6d lH.dst.length k6d, .slice A6s lH.src.length k6s, .slice A6t lH.token.length k6t, .slice A6c lH.cut.length k6c⟩, aggH lH (vL w2.heap.size)] w' fun e w'' => e = .returned (.bool true) ∧ Chg none_ w' w'') := fun w' hc => by
    have h := sameH_any lH lH _ _ w' _ _ (HD6.out.chg (HC610.out.trans hc) (fun _ _ h => h)) (HD3.out.chg ((HC36.out.trans HC610.out).trans hc) (fun _ _ h => h)) lH_ok lH_ok
    rwa [decide_eq_true rfl] at h
  have HCV : Hid (∀ w', Chg none_ W10 w' → (convert 23 9 (.slice A8 2 k8)).run Tryd.prog w' = .ok (.string ⟨#[97, 98]⟩) w') := fun w' hc => by
    have h := run_string_view w' (fun _ => True) A8 2 k8 [97, 98] (HV8.out.chg ((HC89.out.trans c10).trans hc) (fun _ _ h => h))
    exact h
  have HRI1 : Hid (∀ w', Chg none_ W10 w' → Calls Tryd.prog 12 #[aggH sH (vS w.heap.size)] w' fun e w'' => e = .returned (.bool true) ∧ Chg none_ w' w'') := fun w' hc => by
    have h := right_any sH (vS w.heap.size) w' W1 _ HD1.out
    rwa [right_sH] at h
  have HRI2 : Hid (∀ w', Calls Tryd.prog 12 #[aggH {} nil4] w' fun e w'' => e = .returned (.bool false) ∧ Chg none_ w' w'') := fun w' => by
    have h := right_any {} nil4 w' w' _ (nil4_d w' (fun _ => True))
    rwa [right_zero] at h
  clear c10 r10 hvl HSA HT hi hz0 hz1 hz2
  go_wp2_with (first | ((with_reducible show wpList _ _ _ (⟨_, .load 25 (.tmp 5), _, _, _, _⟩ :: _) _ _); refine wlH rfl (by kernel_rfl) rfl (HRA.out _ hcd) rfl ?_) | ((with_reducible show wpList _ _ _ (⟨_, .load 25 (.tmp 3), _, _, _, _⟩ :: _) _ _); refine wlH rfl (by kernel_rfl) rfl (HRB.out _ hcd) rfl ?_) | ((with_reducible show wpList _ _ _ (⟨_, .load 25 (.tmp 1), _, _, _, _⟩ :: _) _ _); refine wlH rfl (by kernel_rfl) rfl (HRC.out _ hcd12) rfl ?_) | (go_at_call 17; refine (HSH.out _ hcd).mono ?_; rintro e w12 ⟨rfl, hc12⟩; have hcd12 := hcd.trans hc12; have hcv := HCV.out _ hcd12))
  refine (HRI1.out _ hcd12).mono ?_
  rintro e w13 ⟨rfl, hc13⟩
  go_wp2_with fail
  refine (HRI2.out _).mono ?_
  rintro e w14 ⟨rfl, hc14⟩
  go_wp2_with fail
  go_ret
  exact ⟨rfl, HC10.out.trans ((hcd12.trans hc13).trans hc14)⟩
end Go.Proofs.YtfecmloaopbogaaDoor
