/- Layer 6 (hframe), the document's words: which frames are the same. -/
import Derived.Test.YtcdnjeojgjakdaaDoorV6RSame
namespace Go.Proofs.YtcdnjeojgjakdaaDoor
open Go.RowKit


set_option maxRecDepth 100000 in
set_option maxHeartbeats 1000000 in
theorem rsame_no (f g : Hf) (ss sd ss' sd' : Value) (w : World) (T T' : Nat → Prop) (hf : HfD w T f ss sd) (hg : HfD w T' g ss' sd') (hne : ¬ (f.kind = g.kind ∧ f.id = g.id ∧ f.sets.length = g.sets.length ∧ f.data = g.data)) :
    Calls Tryd.prog 18 #[aggH f ss sd, aggH g ss' sd'] w fun e w' => e = .returned (.bool false) ∧ Chg none_ w w' := by
  unfold aggH
  obtain ⟨⟨B, d, rfl, hrl, hvr⟩, ⟨A, c, rfl, hdl, hvd⟩⟩ := hf
  obtain ⟨⟨B', d', rfl, hrl', hvr'⟩, ⟨A', c', rfl, hdl', hvd'⟩⟩ := hg
  have a0 : (cellsH f (.slice B f.sets.length d) (.slice A f.data.length c))[0]? = some (.int .i64 f.kind) := rfl
  have a1 : (cellsH f (.slice B f.sets.length d) (.slice A f.data.length c))[1]? = some (.int .u64 (f.id : Nat)) := rfl
  have a2 : (cellsH f (.slice B f.sets.length d) (.slice A f.data.length c))[2]? = some (.slice B f.sets.length d) := rfl
  have a3 : (cellsH f (.slice B f.sets.length d) (.slice A f.data.length c))[3]? = some (.slice A f.data.length c) := rfl
  have b0 : (cellsH g (.slice B' g.sets.length d') (.slice A' g.data.length c'))[0]? = some (.int .i64 g.kind) := rfl
  have b1 : (cellsH g (.slice B' g.sets.length d') (.slice A' g.data.length c'))[1]? = some (.int .u64 (g.id : Nat)) := rfl
  have b2 : (cellsH g (.slice B' g.sets.length d') (.slice A' g.data.length c'))[2]? = some (.slice B' g.sets.length d') := rfl
  have b3 : (cellsH g (.slice B' g.sets.length d') (.slice A' g.data.length c'))[3]? = some (.slice A' g.data.length c') := rfl
  generalize (cellsH f (.slice B f.sets.length d) (.slice A f.data.length c)) = cs at *
  generalize (cellsH g (.slice B' g.sets.length d') (.slice A' g.data.length c')) = cs' at *
  have hC : Chg none_ w ((w.alloc (.cells cs.toArray 26)).alloc (.cells cs'.toArray 26)) := ((Chg.refl none_ w).alloc _).alloc _
  have HC := Lib.hid hC
  have HB := Lib.hid (same_any _ T T' A A' c c' f.data g.data (hvd.chg hC (fun _ _ h => h)) (hvd'.chg hC (fun _ _ h => h)) hdl.1)
  clear hC hvd hvd' hvr hvr'
  by_cases h0 : f.kind = g.kind
  · have e0 : (f.kind != g.kind) = false := by simp [h0]
    by_cases h1 : f.id = g.id
    · have e1 : ((f.id : Int) != (g.id : Int)) = false := by simp [h1]
      by_cases h2 : f.sets.length = g.sets.length
      · have e2 : ((f.sets.length : Int) != (g.sets.length : Int)) = false := by simp [h2]
        have h3 : decide (f.data = g.data) = false := decide_eq_false (fun h => hne ⟨h0, h1, h2, h⟩)
        rw [h3] at HB
        clear hne h0 h1 h2 h3
        go_enter Tryd.func18, Tryd.ntmps18
        go_wp2_with ((go_at_call 14; refine HB.out.mono ?_; rintro e w1 ⟨rfl, nk, rfl⟩))
        go_ret
        exact ⟨rfl, HC.out.drewN nk⟩
      · have e2 : ((f.sets.length : Int) != (g.sets.length : Int)) = true := by simp; omega
        clear hne h0 h1 h2
        go_enter Tryd.func18, Tryd.ntmps18
        go_wp2
        go_ret
        exact ⟨rfl, HC.out⟩
    · have e1 : ((f.id : Int) != (g.id : Int)) = true := by simp; omega
      clear hne h0 h1
      go_enter Tryd.func18, Tryd.ntmps18
      go_wp2
      go_ret
      exact ⟨rfl, HC.out⟩
  · have e0 : (f.kind != g.kind) = true := by simp [h0]
    clear hne h0
    go_enter Tryd.func18, Tryd.ntmps18
    go_wp2
    go_ret
    exact ⟨rfl, HC.out⟩

set_option maxRecDepth 100000 in
set_option maxHeartbeats 2000000 in
theorem rsame_yes (f g : Hf) (ss sd ss' sd' : Value) (w : World) (T T' : Nat → Prop) (hf : HfD w T f ss sd) (hg : HfD w T' g ss' sd') (h0 : f.kind = g.kind) (h1 : f.id = g.id) (h2 : f.sets.length = g.sets.length) (h3 : f.data = g.data) :
    Calls Tryd.prog 18 #[aggH f ss sd, aggH g ss' sd'] w fun e w' => e = .returned (.bool (decide (f.sets = g.sets))) ∧ Chg none_ w w' := by
  unfold aggH
  obtain ⟨⟨B, d, rfl, hrl, hvr⟩, ⟨A, c, rfl, hdl, hvd⟩⟩ := hf
  obtain ⟨⟨B', d', rfl, hrl', hvr'⟩, ⟨A', c', rfl, hdl', hvd'⟩⟩ := hg
  have a0 : (cellsH f (.slice B f.sets.length d) (.slice A f.data.length c))[0]? = some (.int .i64 f.kind) := rfl
  have a1 : (cellsH f (.slice B f.sets.length d) (.slice A f.data.length c))[1]? = some (.int .u64 (f.id : Nat)) := rfl
  have a2 : (cellsH f (.slice B f.sets.length d) (.slice A f.data.length c))[2]? = some (.slice B f.sets.length d) := rfl
  have a3 : (cellsH f (.slice B f.sets.length d) (.slice A f.data.length c))[3]? = some (.slice A f.data.length c) := rfl
  have b0 : (cellsH g (.slice B' g.sets.length d') (.slice A' g.data.length c'))[0]? = some (.int .i64 g.kind) := rfl
  have b1 : (cellsH g (.slice B' g.sets.length d') (.slice A' g.data.length c'))[1]? = some (.int .u64 (g.id : Nat)) := rfl
  have b2 : (cellsH g (.slice B' g.sets.length d') (.slice A' g.data.length c'))[2]? = some (.slice B' g.sets.length d') := rfl
  have b3 : (cellsH g (.slice B' g.sets.length d') (.slice A' g.data.length c'))[3]? = some (.slice A' g.data.length c') := rfl
  generalize (cellsH f (.slice B f.sets.length d) (.slice A f.data.length c)) = cs at *
  generalize (cellsH g (.slice B' g.sets.length d') (.slice A' g.data.length c')) = cs' at *
  have hC : Chg none_ w ((w.alloc (.cells cs.toArray 26)).alloc (.cells cs'.toArray 26)) := ((Chg.refl none_ w).alloc _).alloc _
  have HC := Lib.hid hC
  have HB := Lib.hid (same_any _ T T' A A' c c' f.data g.data (hvd.chg hC (fun _ _ h => h)) (hvd'.chg hC (fun _ _ h => h)) hdl.1)
  have e0 : (f.kind != g.kind) = false := by simp [h0]
  have e1 : ((f.id : Int) != (g.id : Int)) = false := by simp [h1]
  have e2 : ((f.sets.length : Int) != (g.sets.length : Int)) = false := by simp [h2]
  rw [decide_eq_true h3] at HB
  have hp := fun (q : 0 < f.sets.length) => (hvr.chg hC (fun _ _ h => h)).pairs q
  have hp' := fun (q : 0 < g.sets.length) => (hvr'.chg hC (fun _ _ h => h)).pairs q
  generalize hl : f.sets = l at *
  generalize hl' : g.sets = l' at *
  have hll : l.length ≤ 1000000 := hrl.1
  have hll' : l'.length ≤ 1000000 := hrl'.1
  have H2 := Lib.hid h2
  clear h0 h1 h2 h3 hC hvd hvd' hvr hvr' hrl hrl' hl hl'
  by_cases hz : l.length = 0
  · have z1 : l = [] := List.eq_nil_of_length_eq_zero hz
    have z2 : l' = [] := List.eq_nil_of_length_eq_zero (by have := H2.out; omega)
    subst z1; subst z2
    clear hp hp' hz
    go_enter Tryd.func18, Tryd.ntmps18
    go_wp2_with ((go_at_call 14; refine HB.out.mono ?_; rintro e w1 ⟨rfl, nk, rfl⟩))
    refine wp_loop_rounds 1 ?_
    rw [rounds_succ]
    go_wp2
    go_ret
    exact ⟨rfl, HC.out.drewN nk⟩
  · obtain ⟨b, o, rfl, _, _, hc⟩ := hp (by omega)
    obtain ⟨b', o', rfl, _, _, hc'⟩ := hp' (by have := H2.out; omega)
    have HP := Lib.hid hc
    have HP' := Lib.hid hc'
    clear hp hp' hc hc'
    go_enter Tryd.func18, Tryd.ntmps18
    go_wp2_with ((go_at_call 14; refine HB.out.mono ?_; rintro e w1 ⟨rfl, nk, rfl⟩))
    go_loopw [5] (fun i wr => ∃ k m : Nat, k ≤ l.length ∧ i = .int .i64 k ∧ wr = ((w.alloc (.cells cs.toArray 26)).alloc (.cells cs'.toArray 26)).drewN m ∧ Hid (∀ j, j < k → l.getD j (0, 0) = l'.getD j (0, 0))) (fun i _ => l.length - (intOf i).toNat)
    case atStart => exact ⟨0, nk, Nat.zero_le _, rfl, rfl, fun j hj => absurd hj (by omega)⟩
    case round =>
      obtain ⟨k, m, hk, rfl, rfl, hpre⟩ := hrel
      by_cases hlt : k < l.length
      · have hlt' : k < l'.length := by have := H2.out; omega
        obtain ⟨c1, c2⟩ := HP.out k hlt
        obtain ⟨c3, c4⟩ := HP'.out k hlt'
        have hk0 : (0 : Int) ≤ (k : Int) := by omega
        have hk1 : (k : Int) < (l.length : Int) := by omega
        have hk2 : (k : Int) < (l'.length : Int) := by omega
        generalize hx : l.getD k (0, 0) = x at c1 c2
        generalize hy : l'.getD k (0, 0) = y at c3 c4
        have HX := Lib.hid hx
        have HY := Lib.hid hy
        clear hx hy
        obtain ⟨x1, x2⟩ := x
        obtain ⟨y1, y2⟩ := y
        simp only at c1 c2 c3 c4
        by_cases hxy : x1 = y1 ∧ x2 = y2
        · obtain ⟨rfl, rfl⟩ := hxy
          go_wp2
          go_quiet (fail)
          go_wp2
          go_roundw
          case rel =>
            refine ⟨k + 1, m + nq, by omega, by go_num, rfl, ?_⟩
            intro j hj
            rcases Nat.lt_or_ge j k with hjk | hjk
            · exact hpre.out j hjk
            · have : j = k := by omega
              subst this
              rw [HX.out, HY.out]
          case measure => simp [intOf]; omega
        · have hxl : decide (l = l') = false := by
            rw [decide_eq_false_iff_not]
            intro e
            apply hxy
            have q1 := HX.out
            rw [e, HY.out] at q1
            simpa [eq_comm] using q1
          have HXL := Lib.hid hxl
          clear hxl
          by_cases q1 : x1 = y1
          · subst q1
            have q2 : ((x2 : Int) == (y2 : Int)) = false := by simp; omega
            clear hxy
            go_wp2
            go_quiet (fail)
            go_wp2
            go_ret
            exact ⟨ret_bool HXL.out.symm, (HC.out.drewN m).drewN nq⟩
          · have q2 : ((x1 : Int) == (y1 : Int)) = false := by simp; omega
            clear hxy q1
            go_wp2
            go_quiet (fail)
            go_wp2
            go_ret
            exact ⟨ret_bool HXL.out.symm, (HC.out.drewN m).drewN nq⟩
      · have hkl : k = l.length := by omega
        have HK := Lib.hid hkl
        clear hkl
        have : ¬ (k : Int) < (l.length : Int) := by omega
        go_wp2
        go_ret
        refine ⟨ret_bool ?_, HC.out.drewN m⟩
        symm
        rw [decide_eq_true_eq]
        apply List.ext_getElem H2.out
        intro j h1 h2
        have := hpre.out j (by rw [HK.out]; exact h1)
        simpa [List.getD_eq_getElem?_getD, h1, h2] using this

theorem rsame_any (f g : Hf) (ss sd ss' sd' : Value) (w : World) (T T' : Nat → Prop) (hf : HfD w T f ss sd) (hg : HfD w T' g ss' sd') :
    Calls Tryd.prog 18 #[aggH f ss sd, aggH g ss' sd'] w fun e w' => e = .returned (.bool (decide (f = g))) ∧ Chg none_ w w' := by
  by_cases h : f.kind = g.kind ∧ f.id = g.id ∧ f.sets.length = g.sets.length ∧ f.data = g.data
  · have e : decide (f = g) = decide (f.sets = g.sets) := by
      rw [decide_eq_decide, f.eq_iff g]
      exact ⟨fun q => q.2.2.1, fun q => ⟨h.1, h.2.1, q, h.2.2.2⟩⟩
    rw [e]
    exact rsame_yes f g ss sd ss' sd' w T T' hf hg h.1 h.2.1 h.2.2.1 h.2.2.2
  · have e : decide (f = g) = false := by
      rw [decide_eq_false_iff_not]
      rintro rfl
      exact h ⟨rfl, rfl, rfl, rfl⟩
    rw [e]
    exact rsame_no f g ss sd ss' sd' w T T' hf hg h
end Go.Proofs.YtcdnjeojgjakdaaDoor
