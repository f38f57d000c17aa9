/- Layer 4 (header): Right, the program's and the document's. -/
import Derived.Test.YtfecmloaopbogaaDoorV4Hd
namespace Go.Proofs.YtfecmloaopbogaaDoor
open Go.RowKit

set_option maxRecDepth 100000 in
set_option maxHeartbeats 2000000 in
theorem right_sh (h : Hd) (v : Four) (w : World) (hd : Shape h v) :
    Calls Tryd.prog 12 #[aggH h v] w fun e w' => e = .returned (.bool (rightH h)) ∧ Chg none_ w w' := by
  unfold aggH rightH
  obtain ⟨⟨D, d', e4⟩, ⟨S, s', e5⟩, ⟨T, t', e6⟩, ⟨C, c', e7⟩⟩ := hd
  have h0 := cH_0 h v
  have h1 := cH_1 h v
  have h2 := cH_2 h v
  have h3 := cH_3 h v
  have h4 := cH_4 h v
  have h5 := cH_5 h v
  have h6 := cH_6 h v
  have h7 := cH_7 h v
  have h8 := cH_8 h v
  have h9 := cH_len h v
  rw [e4] at h4; rw [e5] at h5; rw [e6] at h6; rw [e7] at h7
  clear e4 e5 e6 e7
  generalize cellsH h v = cs at *
  have HR := Lib.hid ((Chg.refl none_ w).alloc (.cells cs.toArray 25))
  have H9 := Lib.hid h9
  have HRow := Lib.hid (Row.new w 25 cs)
  generalize h.dst.length = d at *
  generalize h.src.length = s at *
  generalize h.token.length = t at *
  generalize h.cut.length = c at *
  generalize h.long = long at *
  generalize h.phase = phase at *
  generalize h.kind = kind at *
  generalize h.version = version at *
  generalize h.rest = rest at *
  have HL := Lib.hid (fun w => isLong_any cs w phase kind t t' T h1 h2 h6)
  have HS := Lib.hid (fun w => isShort_any cs w kind version d s t d' s' t' D S T h2 h3 h4 h5 h6)
  have hm : max (d : Int) (s : Int) ≤ 20 ↔ d ≤ 20 ∧ s ≤ 20 := by omega
  have HM := Lib.hid hm
  clear h9 hm h1 h2 h3 h6
  unfold rightN
  generalize hq : decide (1 ≤ c ∧ c ≤ 4 ∧ d ≤ 20 ∧ s ≤ 20 ∧ 0 ≤ rest ∧ rest ≤ 1200) = q
  have HQ := Lib.hid hq
  clear hq
  cases long
  all_goals
    go_enter Tryd.func12, Tryd.ntmps12
    go_wp2_with (first | ((with_reducible show wpList _ _ _ (⟨_, .load 25 _, _, _, _, _⟩ :: _) _ _); refine wlH rfl rfl rfl HRow.out H9.out ?_) | (go_at_call 23; refine (HL.out _).mono ?_; rintro e w' ⟨rfl, hc⟩) | (go_at_call 24; refine (HS.out _).mono ?_; rintro e w' ⟨rfl, hc⟩))
    all_goals go_ret
    all_goals clear HL HS HM H9 HRow
    all_goals have hq := HQ.out
    all_goals clear HQ
    all_goals first | (refine ⟨ret_bool ?_, HR.out.trans hc⟩; rw [decide_eq_true (by omega)] at hq; subst hq; rfl) | (refine ⟨ret_bool ?_, HR.out⟩; rw [decide_eq_false (by omega)] at hq; subst hq; rfl)

set_option maxRecDepth 100000 in
set_option maxHeartbeats 2000000 in
theorem rright_sh (h : Hd) (v : Four) (w : World) (hd : Shape h v) (hn : h.src.length ≤ 140737488355328 ∧ h.token.length ≤ 140737488355328) :
    Calls Tryd.prog 13 #[aggH h v] w fun e w' => e = .returned (.bool (rightH h)) ∧ Chg none_ w w' := by
  unfold aggH rightH
  obtain ⟨⟨D, d', e4⟩, ⟨S, s', e5⟩, ⟨T, t', e6⟩, ⟨C, c', e7⟩⟩ := hd
  have h0 := cH_0 h v
  have h1 := cH_1 h v
  have h2 := cH_2 h v
  have h3 := cH_3 h v
  have h4 := cH_4 h v
  have h5 := cH_5 h v
  have h6 := cH_6 h v
  have h7 := cH_7 h v
  have h8 := cH_8 h v
  rw [e4] at h4; rw [e5] at h5; rw [e6] at h6; rw [e7] at h7
  clear e4 e5 e6 e7
  generalize cellsH h v = cs at *
  have HR := Lib.hid ((Chg.refl none_ w).alloc (.cells cs.toArray 25))
  generalize h.dst.length = d at *
  generalize h.src.length = s at *
  generalize h.token.length = t at *
  generalize h.cut.length = c at *
  generalize h.long = long at *
  generalize h.phase = phase at *
  generalize h.kind = kind at *
  generalize h.version = version at *
  generalize h.rest = rest at *
  have HQ : Hid (rightN long phase kind version d s t c rest = (decide (1 ≤ c ∧ c ≤ 4 ∧ d ≤ 20 ∧ s ≤ 20 ∧ 0 ≤ rest ∧ rest ≤ 1200) && (if long then decide ((kind = 0 ∧ phase = false ∧ t ≤ 200) ∨ (kind = 2 ∧ phase = false ∧ t = 0)) else decide (kind = 0 ∧ version = 0 ∧ s = 0 ∧ t = 0 ∧ d = 8)))) := rfl
  generalize rightN long phase kind version d s t c rest = R at *
  go_enter Tryd.func13, Tryd.ntmps13
  go_wp2
  all_goals go_ret
  all_goals
    have hq := HQ.out
    clear HQ h0 h1 h2 h3 h4 h5 h6 h7 h8
    refine ⟨ret_bool ?_, HR.out⟩
    rw [hq]
    clear hq HR
    cases long <;> cases phase
    all_goals first
      | exact absurd (by assumption : (!true) = true) (by decide)
      | exact absurd (by assumption : (!false) = false) (by decide)
      | exact absurd (rfl : (!false) = true) (by assumption)
      | (refine Bool.eq_iff_iff.2 ?_
         simp only [Bool.and_eq_true, decide_eq_true_eq, beq_iff_eq, if_true, Bool.false_eq_true, if_false, reduceCtorEq, false_and, and_false, true_and, true_iff, false_iff, or_self, not_false_eq_true] at *
         try omega)

theorem right_any (h : Hd) (v : Four) (w w0 : World) (Tv : Nat → Prop) (hd : HdD w0 Tv h v) :
    Calls Tryd.prog 12 #[aggH h v] w fun e w' => e = .returned (.bool (rightH h)) ∧ Chg none_ w w' := right_sh h v w hd.shape
end Go.Proofs.YtfecmloaopbogaaDoor
