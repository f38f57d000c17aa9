/- Layer 3 (frames): which frames are the same, and which lists of them, the document's. -/
import Derived.Test.YtakoeamfmmbdiaaV3SameB
import Derived.Test.YtakoeamfmmbdiaaSame
namespace Go.Proofs.Ytakoeamfmmbdiaa
open Go.RowKit

set_option maxRecDepth 100000 in
set_option maxHeartbeats 4000000 in
theorem rsameF_any (f g : Fr) (sd sr sd' sr' : Value) (w : World) (T T' : Nat → Prop) (hf : FrD w T f sd sr) (hg : FrD w T' g sd' sr') :
    Calls Try.prog 45 #[aggF f sd sr, aggF g sd' sr'] w fun e w' => e = .returned (.bool (decide (f = g))) ∧ Chg none_ w w' := by
  unfold aggF
  obtain ⟨ht, ⟨A, c, rfl, hdl, hvd⟩, ⟨B, d, rfl, hrl, hvr⟩⟩ := hf
  obtain ⟨ht', ⟨A', c', rfl, hdl', hvd'⟩, ⟨B', d', rfl, hrl', hvr'⟩⟩ := hg
  have a0 := cF_0 f (.slice A f.data.length c) (.slice B f.ranges.length d)
  have a1 := cF_1 f (.slice A f.data.length c) (.slice B f.ranges.length d)
  have a2 := cF_2 f (.slice A f.data.length c) (.slice B f.ranges.length d)
  have a3 := cF_3 f (.slice A f.data.length c) (.slice B f.ranges.length d)
  have a4 := cF_4 f (.slice A f.data.length c) (.slice B f.ranges.length d)
  have a5 := cF_5 f (.slice A f.data.length c) (.slice B f.ranges.length d)
  have a6 := cF_6 f (.slice A f.data.length c) (.slice B f.ranges.length d)
  have a7 := cF_7 f (.slice A f.data.length c) (.slice B f.ranges.length d)
  have b0 := cF_0 g (.slice A' g.data.length c') (.slice B' g.ranges.length d')
  have b1 := cF_1 g (.slice A' g.data.length c') (.slice B' g.ranges.length d')
  have b2 := cF_2 g (.slice A' g.data.length c') (.slice B' g.ranges.length d')
  have b3 := cF_3 g (.slice A' g.data.length c') (.slice B' g.ranges.length d')
  have b4 := cF_4 g (.slice A' g.data.length c') (.slice B' g.ranges.length d')
  have b5 := cF_5 g (.slice A' g.data.length c') (.slice B' g.ranges.length d')
  have b6 := cF_6 g (.slice A' g.data.length c') (.slice B' g.ranges.length d')
  have b7 := cF_7 g (.slice A' g.data.length c') (.slice B' g.ranges.length d')
  have hR1 : ∀ (w' : World) (_ : w'.heap = ((w.alloc (.cells (cellsF f (.slice A f.data.length c) (.slice B f.ranges.length d)).toArray 70)).alloc (.cells (cellsF g (.slice A' g.data.length c') (.slice B' g.ranges.length d')).toArray 70)).heap), w'.rangeAt w.heap.size 8 (u8s f.tok) := fun w' hw => by
    have := tok_range ((Row.new w 70 (cellsF f (.slice A f.data.length c) (.slice B f.ranges.length d))).alloc (.cells (cellsF g (.slice A' g.data.length c') (.slice B' g.ranges.length d')).toArray 70))
    intro j v hv
    have := this j v hv
    simpa [World.cell?, hw] using this
  have hR2 : ∀ (w' : World) (_ : w'.heap = ((w.alloc (.cells (cellsF f (.slice A f.data.length c) (.slice B f.ranges.length d)).toArray 70)).alloc (.cells (cellsF g (.slice A' g.data.length c') (.slice B' g.ranges.length d')).toArray 70)).heap), w'.rangeAt (w.heap.size + 1) 8 (u8s g.tok) := fun w' hw => by
    have := tok_range (Row.new (w.alloc (.cells (cellsF f (.slice A f.data.length c) (.slice B f.ranges.length d)).toArray 70)) 70 (cellsF g (.slice A' g.data.length c') (.slice B' g.ranges.length d')))
    intro j v hv
    have := this j v hv
    simpa [World.cell?, hw] using this
  generalize cellsF f (.slice A f.data.length c) (.slice B f.ranges.length d) = cs at *
  generalize cellsF g (.slice A' g.data.length c') (.slice B' g.ranges.length d') = cs' at *
  have hC : Chg none_ w ((w.alloc (.cells cs.toArray 70)).alloc (.cells cs'.toArray 70)) := ((Chg.refl none_ w).alloc _).alloc _
  have HC := Lib.hid hC
  have HB := Lib.hid (same_any _ T T' A A' c c' f.data g.data (hvd.chg hC (fun _ _ h => h)) (hvd'.chg hC (fun _ _ h => h)) hdl)
  have HVR := Lib.hid (hvr.chg hC (fun _ _ h => h))
  have HVR' := Lib.hid (hvr'.chg hC (fun _ _ h => h))
  have hrm := hrl.1
  have HR1 := Lib.hid hR1
  have HR2 := Lib.hid hR2
  have HT := Lib.hid ht
  have HT' := Lib.hid ht'
  have hte := tok_eql f.tok g.tok ht ht'
  have HEQ := Lib.hid (f.eq_iff g)
  clear hC hvd hvd' hvr hvr' hR1 hR2 ht ht' hdl hdl' hrl hrl'
  go_enter Try.func45, Try.ntmps45
  go_wp2_with (first | ((with_reducible show wpList _ _ _ (⟨_, .load 68 _, _, _, _, _⟩ :: _) _ _); first | refine wl25 rfl rfl rfl (HR1.out _ rfl) HT.out ?_ | refine wl25 rfl rfl rfl (HR2.out _ rfl) HT'.out ?_) | (go_at_call 46; refine HB.out.mono ?_; rintro e w' ⟨rfl, nk, rfl⟩))
  all_goals try
    go_ret
    refine ⟨ret_bool ?_, by first | exact HC.out | exact HC.out.drewN _⟩
    have heq := HEQ.out
    clear HC HB HVR HVR' HR1 HR2 HT HT' HEQ a0 a1 a2 a3 a4 a5 a6 a7 b0 b1 b2 b3 b4 b5 b6 b7
    clear hte
    symm
    rw [decide_eq_false_iff_not]
    intro hfg
    obtain ⟨x1, x2, x3, x4, x5, x6, x7, x8, x9⟩ := heq.1 hfg
    have x8' := congrArg List.length x8
    first | (exfalso; omega) | (clear x8'; simp_all; done)
  rename_i e0 e1 e2 e3 e4 e5 e8 e7 e6 K0 KA0
  have HRE : Hid (decide (f = g) = decide (f.ranges = g.ranges)) := Lib.hid (decide_eq_decide.2 (by
    rw [HEQ.out]
    simp only [Bool.not_eq_false', decide_eq_true_eq] at e6
    refine ⟨fun h => h.2.2.2.2.2.2.2.1, fun h => ⟨e0, by omega, by omega, by omega, by omega, e5, e6, h, e8⟩⟩))
  obtain ⟨W, hW⟩ : ∃ W : World, W = (w.alloc (.cells cs.toArray 70)).alloc (.cells cs'.toArray 70) := ⟨_, rfl⟩
  have r7 : W.cell? ⟨w.heap.size, 7, none⟩ = some (.slice B f.ranges.length d) := by rw [hW]; exact ((Row.new1 w _ 70 cs).cell 7).trans a7
  have s7 : W.cell? ⟨w.heap.size + 1, 7, none⟩ = some (.slice B' g.ranges.length d') := by rw [hW]; exact ((Row.new2 w _ 70 cs').cell 7).trans b7
  rw [← hW] at HVR HVR' HC ⊢
  have hlen : f.ranges.length = g.ranges.length := by omega
  have HLE := Lib.hid hlen
  clear hW HB HR1 HR2 HT HT' HEQ hlen
  clear a0 a1 a2 a3 a4 a5 a6 a7 b0 b1 b2 b3 b4 b5 b6 b7 hte e0 e1 e2 e3 e4 e5 e6 e7 e8
  generalize w.heap.size + 1 = gs1 at *
  generalize w.heap.size = gs0 at *
  generalize hfr : f.ranges = l at *
  generalize hgr : g.ranges = l' at *
  clear hfr hgr
  go_loopw [5] (fun i wr => ∃ k m : Nat, k ≤ l.length ∧ i = .int .i64 (k : Int) ∧ wr = W.drewN m ∧ Hid (∀ j, j < k → l.getD j (0, 0) = l'.getD j (0, 0))) (fun i _ => l.length - (intOf i).toNat)
  case atStart => exact ⟨0, nk, Nat.zero_le _, rfl, rfl, Lib.hid (fun j hj => absurd hj (by omega))⟩
  case round =>
    obtain ⟨k, m, hk, rfl, rfl, hpre⟩ := hrel
    by_cases hlt : k < l.length
    · have hlt' : k < l'.length := by have := HLE.out; omega
      obtain ⟨b, o, rfl, hb, _, hc⟩ := HVR.out.ranges (by omega)
      obtain ⟨b', o', rfl, hb', _, hc'⟩ := HVR'.out.ranges (by omega)
      obtain ⟨c1, c2⟩ := hc k hlt
      obtain ⟨c3, c4⟩ := hc' k hlt'
      clear hc hc' hb hb'
      have hk0 : (0 : Int) ≤ (k : Int) := by omega
      have hk1 : (k : Int) < (l.length : Int) := by omega
      have hk2 : (k : Int) < (l'.length : Int) := by omega
      generalize hx : l.getD k (0, 0) = x at c1 c2
      generalize hy : l'.getD k (0, 0) = y at c3 c4
      have HX := Lib.hid hx
      have HY := Lib.hid hy
      clear hx hy
      obtain ⟨x1, x2⟩ := x
      obtain ⟨y1, y2⟩ := y
      simp only at c1 c2 c3 c4
      by_cases hxy : x1 = y1 ∧ x2 = y2
      · obtain ⟨rfl, rfl⟩ := hxy
        go_wp2
        go_quiet (fail)
        go_wp2
        go_roundw
        case rel =>
          refine ⟨k + 1, m + nq, by omega, by go_num, by first | rfl | rw [World.drewN_drewN], Lib.hid ?_⟩
          intro j hj
          rcases Nat.lt_or_ge j k with hjk | hjk
          · exact hpre.out j hjk
          · have : j = k := by omega
            subst this
            rw [HX.out, HY.out]
        case measure => simp [intOf]; omega
      · have HXY := Lib.hid hxy
        have hne : l ≠ l' := fun e => HXY.out (by
          have h1 := HX.out
          rw [e, HY.out] at h1
          simpa [eq_comm] using h1)
        have HNE := Lib.hid hne
        clear hne
        by_cases h1 : x1 = y1
        · subst h1
          have h2 : ((x2 : Int) == (y2 : Int)) = false := by simp; omega
          clear hxy
          go_wp2
          go_quiet (fail)
          go_wp2
          go_ret
          refine ⟨ret_bool ?_, (HC.out.drewN _).drewN _⟩
          rw [HRE.out, decide_eq_false HNE.out]
        · have h2 : ((x1 : Int) == (y1 : Int)) = false := by simp; omega
          clear hxy h1
          go_wp2
          go_quiet (fail)
          go_wp2
          go_ret
          refine ⟨ret_bool ?_, (HC.out.drewN _).drewN _⟩
          rw [HRE.out, decide_eq_false HNE.out]
    · have hkl : k = l.length := by omega
      have HK := Lib.hid hkl
      clear hkl
      have hn : ¬ (k : Int) < (l.length : Int) := by omega
      go_wp2
      go_ret
      refine ⟨ret_bool ?_, HC.out.drewN _⟩
      rw [HRE.out]
      symm
      rw [decide_eq_true_eq]
      apply List.ext_getElem HLE.out
      intro j h1 h2
      have := hpre.out j (by rw [HK.out]; exact h1)
      simpa [List.getD_eq_getElem?_getD, h1, h2] using this
end Go.Proofs.Ytakoeamfmmbdiaa
