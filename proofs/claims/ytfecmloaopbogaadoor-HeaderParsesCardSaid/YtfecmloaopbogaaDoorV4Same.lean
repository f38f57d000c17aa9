/- Layer 4 (header): which headers are the same, by the program and by the document. -/
import Derived.Test.YtfecmloaopbogaaDoorV4Hd
import Derived.Test.YtfecmloaopbogaaDoorEqual
import Derived.Test.YtfecmloaopbogaaDoorSame
namespace Go.Proofs.YtfecmloaopbogaaDoor
open Go.RowKit

theorem Hd.eq_iff (f g : Hd) : f = g ↔ f.long = g.long ∧ f.phase = g.phase ∧ f.kind = g.kind ∧ f.version = g.version ∧ f.rest = g.rest ∧ f.dst = g.dst ∧ f.src = g.src ∧ f.token = g.token ∧ f.cut = g.cut := by
  cases f; cases g
  constructor
  · intro h; injection h with h1 h2 h3 h4 h5 h6 h7 h8 h9; exact ⟨h1, h2, h3, h4, h9, h5, h6, h7, h8⟩
  · rintro ⟨h1, h2, h3, h4, h9, h5, h6, h7, h8⟩; dsimp only at *; subst_vars; rfl

set_option maxRecDepth 100000 in
set_option maxHeartbeats 1000000 in
theorem sameH_any (f g : Hd) (v u : Four) (w : World) (Tf Tg : Nat → Prop) (hf : HdD w Tf f v) (hg : HdD w Tg g u) (of : f.Ok) (og : g.Ok) :
    Calls Tryd.prog 17 #[aggH f v, aggH g u] w fun e w' => e = .returned (.bool (decide (f = g))) ∧ Chg none_ w w' := by
  unfold aggH
  have a0 := cH_0 f v
  have a1 := cH_1 f v
  have a2 := cH_2 f v
  have a3 := cH_3 f v
  have a4 := cH_4 f v
  have a5 := cH_5 f v
  have a6 := cH_6 f v
  have a7 := cH_7 f v
  have a8 := cH_8 f v
  have b0 := cH_0 g u
  have b1 := cH_1 g u
  have b2 := cH_2 g u
  have b3 := cH_3 g u
  have b4 := cH_4 g u
  have b5 := cH_5 g u
  have b6 := cH_6 g u
  have b7 := cH_7 g u
  have b8 := cH_8 g u
  obtain ⟨⟨D, d, e4, hdl, vd⟩, ⟨S, s, e5, hsl, vs⟩, ⟨T, t, e6, htl, vt⟩, ⟨C, c, e7, hcl, vc⟩⟩ := hf
  obtain ⟨⟨D', d', f4, hdl', ud⟩, ⟨S', s', f5, hsl', us⟩, ⟨T', t', f6, htl', ut⟩, ⟨C', c', f7, hcl', uc⟩⟩ := hg
  rw [e4] at a4; rw [e5] at a5; rw [e6] at a6; rw [e7] at a7
  rw [f4] at b4; rw [f5] at b5; rw [f6] at b6; rw [f7] at b7
  clear e4 e5 e6 e7 f4 f5 f6 f7
  generalize cellsH f v = cs at *
  generalize cellsH g u = cs' at *
  have hC : Chg none_ w ((w.alloc (.cells cs.toArray 25)).alloc (.cells cs'.toArray 25)) := ((Chg.refl none_ w).alloc _).alloc _
  have HC := Lib.hid hC
  have HD := Lib.hid (bytesEqual_any _ Tf Tg D D' d d' f.dst g.dst (vd.chg hC (fun _ _ h => h)) (ud.chg hC (fun _ _ h => h)) of.dst og.dst)
  have HS := Lib.hid (bytesEqual_any _ Tf Tg S S' s s' f.src g.src (vs.chg hC (fun _ _ h => h)) (us.chg hC (fun _ _ h => h)) of.src og.src)
  have HT := Lib.hid (bytesEqual_any _ Tf Tg T T' t t' f.token g.token (vt.chg hC (fun _ _ h => h)) (ut.chg hC (fun _ _ h => h)) of.token og.token)
  have HU := Lib.hid (bytesEqual_any _ Tf Tg C C' c c' f.cut g.cut (vc.chg hC (fun _ _ h => h)) (uc.chg hC (fun _ _ h => h)) of.cut og.cut)
  have HEQ := Lib.hid (f.eq_iff g)
  clear hC vd vs vt vc ud us ut uc of og
  go_enter Tryd.func17, Tryd.ntmps17
  go_wp2_with (first | (go_at_call 31; (with_reducible first | refine HD.out.mono ?_ | refine HS.out.mono ?_ | refine HT.out.mono ?_ | refine HU.out.mono ?_); rintro e w' ⟨rfl, rfl⟩))
  all_goals
    go_ret
    refine ⟨ret_bool ?_, HC.out⟩
    have heq := HEQ.out
    clear HC HD HS HT HU HEQ a0 a1 a2 a3 a4 a5 a6 a7 a8 b0 b1 b2 b3 b4 b5 b6 b7 b8
    rw [Bool.eq_iff_iff]
    first
    | (refine ⟨fun h => absurd h (by decide), fun h => ?_⟩
       have h := of_decide_eq_true h
       subst h
       simp at *)
    | (simp only [decide_eq_true_eq, heq]
       clear heq
       refine ⟨fun h => ⟨?_, ?_, ?_, ?_, ?_, ?_, ?_, ?_, h⟩, fun h => h.2.2.2.2.2.2.2.2⟩
       all_goals first | assumption | omega | simp_all)
end Go.Proofs.YtfecmloaopbogaaDoor
