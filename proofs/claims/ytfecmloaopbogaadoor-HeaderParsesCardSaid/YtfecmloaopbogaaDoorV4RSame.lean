/- Layer 4 (header): which headers are the same, by the document's answer. -/
import Derived.Test.YtfecmloaopbogaaDoorV4Same
namespace Go.Proofs.YtfecmloaopbogaaDoor
open Go.RowKit

set_option maxRecDepth 100000 in
set_option maxHeartbeats 1000000 in
theorem rsameH_any (f g : Hd) (v u : Four) (w : World) (Tf Tg : Nat → Prop) (hf : HdD w Tf f v) (hg : HdD w Tg g u) :
    Calls Tryd.prog 18 #[aggH f v, aggH g u] w fun e w' => e = .returned (.bool (decide (f = g))) ∧ Chg none_ w w' := by
  unfold aggH
  have a0 := cH_0 f v
  have a1 := cH_1 f v
  have a2 := cH_2 f v
  have a3 := cH_3 f v
  have a4 := cH_4 f v
  have a5 := cH_5 f v
  have a6 := cH_6 f v
  have a7 := cH_7 f v
  have a8 := cH_8 f v
  have b0 := cH_0 g u
  have b1 := cH_1 g u
  have b2 := cH_2 g u
  have b3 := cH_3 g u
  have b4 := cH_4 g u
  have b5 := cH_5 g u
  have b6 := cH_6 g u
  have b7 := cH_7 g u
  have b8 := cH_8 g u
  obtain ⟨⟨D, d, e4, hdl, vd⟩, ⟨S, s, e5, hsl, vs⟩, ⟨T, t, e6, htl, vt⟩, ⟨C, c, e7, hcl, vc⟩⟩ := hf
  obtain ⟨⟨D', d', f4, hdl', ud⟩, ⟨S', s', f5, hsl', us⟩, ⟨T', t', f6, htl', ut⟩, ⟨C', c', f7, hcl', uc⟩⟩ := hg
  rw [e4] at a4; rw [e5] at a5; rw [e6] at a6; rw [e7] at a7
  rw [f4] at b4; rw [f5] at b5; rw [f6] at b6; rw [f7] at b7
  clear e4 e5 e6 e7 f4 f5 f6 f7
  generalize cellsH f v = cs at *
  generalize cellsH g u = cs' at *
  have hC : Chg none_ w ((w.alloc (.cells cs.toArray 25)).alloc (.cells cs'.toArray 25)) := ((Chg.refl none_ w).alloc _).alloc _
  have HC := Lib.hid hC
  have HD := Lib.hid (fun w' (hc : Chg none_ ((w.alloc (.cells cs.toArray 25)).alloc (.cells cs'.toArray 25)) w') => same_any w' Tf Tg D D' d d' f.dst g.dst (vd.chg (hC.trans hc) (fun _ _ h => h)) (ud.chg (hC.trans hc) (fun _ _ h => h)) hdl)
  have HS := Lib.hid (fun w' (hc : Chg none_ ((w.alloc (.cells cs.toArray 25)).alloc (.cells cs'.toArray 25)) w') => same_any w' Tf Tg S S' s s' f.src g.src (vs.chg (hC.trans hc) (fun _ _ h => h)) (us.chg (hC.trans hc) (fun _ _ h => h)) hsl)
  have HT := Lib.hid (fun w' (hc : Chg none_ ((w.alloc (.cells cs.toArray 25)).alloc (.cells cs'.toArray 25)) w') => same_any w' Tf Tg T T' t t' f.token g.token (vt.chg (hC.trans hc) (fun _ _ h => h)) (ut.chg (hC.trans hc) (fun _ _ h => h)) htl)
  have HU := Lib.hid (fun w' (hc : Chg none_ ((w.alloc (.cells cs.toArray 25)).alloc (.cells cs'.toArray 25)) w') => same_any w' Tf Tg C C' c c' f.cut g.cut (vc.chg (hC.trans hc) (fun _ _ h => h)) (uc.chg (hC.trans hc) (fun _ _ h => h)) hcl)
  have HEQ := Lib.hid (f.eq_iff g)
  clear hC vd vs vt vc ud us ut uc
  go_enter Tryd.func18, Tryd.ntmps18
  go_wp2_with (first | (go_at_call 14; first | (with_reducible refine (HD.out _ (Chg.refl _ _)).mono ?_; rintro e w' ⟨rfl, n1, rfl⟩) | (with_reducible refine (HS.out _ ((Chg.refl _ _).drewN _)).mono ?_; rintro e w' ⟨rfl, n2, rfl⟩) | (with_reducible refine (HT.out _ ((Chg.refl _ _).drewN _)).mono ?_; rintro e w' ⟨rfl, n3, rfl⟩) | (with_reducible refine (HU.out _ ((Chg.refl _ _).drewN _)).mono ?_; rintro e w' ⟨rfl, n4, rfl⟩)))
  all_goals
    go_ret
    refine ⟨ret_bool ?_, by first | exact HC.out | exact HC.out.drewN _⟩
    have heq := HEQ.out
    clear HC HD HS HT HU HEQ a0 a1 a2 a3 a4 a5 a6 a7 a8 b0 b1 b2 b3 b4 b5 b6 b7 b8
    rw [Bool.eq_iff_iff]
    first
    | (refine ⟨fun h => absurd h (by decide), fun h => ?_⟩
       have h := of_decide_eq_true h
       subst h
       simp at *)
    | (simp only [decide_eq_true_eq, heq]
       clear heq
       refine ⟨fun h => ⟨?_, ?_, ?_, ?_, ?_, ?_, ?_, ?_, h⟩, fun h => h.2.2.2.2.2.2.2.2⟩
       all_goals first | assumption | omega | simp_all)
end Go.Proofs.YtfecmloaopbogaaDoor
