/- Layer 6 (hframe): which frames are the same. -/
import Derived.Test.YtcdnjeojgjakdaaDoorV6Has
import Derived.Test.YtcdnjeojgjakdaaDoorEqual
import Derived.ChangeKeysEq
namespace Go.Proofs.YtcdnjeojgjakdaaDoor
open Go.RowKit

set_option maxHeartbeats 400000 in
theorem settingsEqual_any (w : World) (T T' : Nat → Prop) (A A' : Option Addr) (c c' : Nat) (l l' : List (Nat × Nat)) (h : View w T A (2 * l.length) (rcells l)) (h' : View w T' A' (2 * l'.length) (rcells l')) (hl : l.length ≤ 1000000) :
    Calls Tryd.prog 30 #[.slice A l.length c, .slice A' l'.length c'] w fun e w' => e = .returned (.bool (decide (l = l'))) ∧ ∃ k, w' = w.drewN k := by
  by_cases hlen : l.length = l'.length
  · by_cases hz : l.length = 0
    · have e1 : l = [] := List.eq_nil_of_length_eq_zero hz
      have e2 : l' = [] := List.eq_nil_of_length_eq_zero (by omega)
      subst e1; subst e2
      clear h h'
      go_enter Tryd.func30, Tryd.ntmps30
      go_wp2
      refine wp_loop_rounds 1 ?_
      rw [rounds_succ]
      go_wp2
      go_ret
      exact ⟨rfl, 0, rfl⟩
    · obtain ⟨b, o, rfl, hb, _, hc⟩ := h.pairs (by omega)
      obtain ⟨b', o', rfl, hb', _, hc'⟩ := h'.pairs (by omega)
      have hne : (((l.length : Nat) : Int) != (l'.length : Int)) = false := by rw [bne_eq_false_iff_eq]; omega
      have hlen' : l'.length ≤ 1000000 := by omega
      have HL := Lib.hid hlen
      have HC := Lib.hid hc
      have HC' := Lib.hid hc'
      clear hlen h h' hc hc'
      go_enter Tryd.func30, Tryd.ntmps30
      go_wp2
      go_loopw [13] (fun i wr => ∃ k m : Nat, k ≤ l.length ∧ i = .int .i64 k ∧ wr = w.drewN m ∧ Hid (∀ j, j < k → l.getD j (0, 0) = l'.getD j (0, 0))) (fun i _ => l.length - (intOf i).toNat)
      case atStart => exact ⟨0, 0, Nat.zero_le _, rfl, rfl, fun j hj => absurd hj (by omega)⟩
      case round =>
        obtain ⟨k, m, hk, rfl, rfl, hpre⟩ := hrel
        by_cases hlt : k < l.length
        · have hlt' : k < l'.length := by have := HL.out; omega
          obtain ⟨c1, c2⟩ := HC.out k hlt
          obtain ⟨c3, c4⟩ := HC'.out k hlt'
          have hk0 : (0 : Int) ≤ (k : Int) := by omega
          have hk1 : (k : Int) < (l.length : Int) := by omega
          have hk2 : (k : Int) < (l'.length : Int) := by omega
          generalize hx : l.getD k (0, 0) = x at c1 c2
          generalize hy : l'.getD k (0, 0) = y at c3 c4
          have HX := Lib.hid hx
          have HY := Lib.hid hy
          clear hx hy
          obtain ⟨x1, x2⟩ := x
          obtain ⟨y1, y2⟩ := y
          simp only at c1 c2 c3 c4
          by_cases hxy : x1 = y1 ∧ x2 = y2
          · obtain ⟨rfl, rfl⟩ := hxy
            go_wp2
            go_quiet (fail)
            go_wp2
            go_roundw
            case rel =>
              refine ⟨k + 1, m + nq, by omega, by go_num, rfl, ?_⟩
              intro j hj
              rcases Nat.lt_or_ge j k with hjk | hjk
              · exact hpre.out j hjk
              · have : j = k := by omega
                subst this
                rw [HX.out, HY.out]
            case measure => simp [intOf]; omega
          · have HXY := Lib.hid hxy
            by_cases h1 : x1 = y1
            · subst h1
              have h2 : ((x2 : Int) == (y2 : Int)) = false := by simp; omega
              clear hxy
              go_wp2
              go_quiet (fail)
              go_wp2
              go_ret
              refine ⟨ret_bool ?_, m + nq, by simp only [World.drewN, Nat.add_assoc]⟩
              symm
              rw [decide_eq_false_iff_not]
              intro e
              apply HXY.out
              have h1 := HX.out
              rw [e, HY.out] at h1
              simpa [eq_comm] using h1
            · have h2 : ((x1 : Int) == (y1 : Int)) = false := by simp; omega
              clear hxy h1
              go_wp2
              go_quiet (fail)
              go_wp2
              go_ret
              refine ⟨ret_bool ?_, m + nq, by simp only [World.drewN, Nat.add_assoc]⟩
              symm
              rw [decide_eq_false_iff_not]
              intro e
              apply HXY.out
              have h1 := HX.out
              rw [e, HY.out] at h1
              simpa [eq_comm] using h1
        · have hkl : k = l.length := by omega
          have HK := Lib.hid hkl
          clear hkl
          have : ¬ (k : Int) < (l.length : Int) := by omega
          go_wp2
          go_ret
          refine ⟨ret_bool ?_, m, rfl⟩
          symm
          rw [decide_eq_true_eq]
          apply List.ext_getElem HL.out
          intro j h1 h2
          have := hpre.out j (by rw [HK.out]; exact h1)
          simpa [List.getD_eq_getElem?_getD, h1, h2] using this
  · have hne : (((l.length : Nat) : Int) != (l'.length : Int)) = true := by simp; omega
    have hd : decide (l = l') = false := by simp; intro e; exact hlen (by rw [e])
    rw [hd]
    clear h h'
    go_enter Tryd.func30, Tryd.ntmps30
    go_wp2
    go_ret
    exact ⟨rfl, 0, rfl⟩

theorem Hf.eq_iff (f g : Hf) : f = g ↔ f.kind = g.kind ∧ f.id = g.id ∧ f.sets = g.sets ∧ f.data = g.data := by
  cases f; cases g; simp

set_option maxRecDepth 100000 in
set_option maxHeartbeats 1000000 in
theorem sameH_any (f g : Hf) (ss sd ss' sd' : Value) (w : World) (T T' : Nat → Prop) (hf : HfD w T f ss sd) (hg : HfD w T' g ss' sd') (of : ∀ x ∈ f.data, x < 256) (og : ∀ x ∈ g.data, x < 256) :
    Calls Tryd.prog 17 #[aggH f ss sd, aggH g ss' sd'] w fun e w' => e = .returned (.bool (decide (f = g))) ∧ Chg none_ w w' := by
  unfold aggH
  obtain ⟨⟨B, d, rfl, hrl, hvr⟩, ⟨A, c, rfl, hdl, hvd⟩⟩ := hf
  obtain ⟨⟨B', d', rfl, hrl', hvr'⟩, ⟨A', c', rfl, hdl', hvd'⟩⟩ := hg
  have r1 := (Row.new w 26 (cellsH f (.slice B f.sets.length d) (.slice A f.data.length c))).alloc (.cells (cellsH g (.slice B' g.sets.length d') (.slice A' g.data.length c')).toArray 26)
  have r2 := Row.new2 w (.cells (cellsH f (.slice B f.sets.length d) (.slice A f.data.length c)).toArray 26) 26 (cellsH g (.slice B' g.sets.length d') (.slice A' g.data.length c'))
  have a0 : (cellsH f (.slice B f.sets.length d) (.slice A f.data.length c))[0]? = some (.int .i64 f.kind) := rfl
  have a1 : (cellsH f (.slice B f.sets.length d) (.slice A f.data.length c))[1]? = some (.int .u64 (f.id : Nat)) := rfl
  have a2 : (cellsH f (.slice B f.sets.length d) (.slice A f.data.length c))[2]? = some (.slice B f.sets.length d) := rfl
  have a3 : (cellsH f (.slice B f.sets.length d) (.slice A f.data.length c))[3]? = some (.slice A f.data.length c) := rfl
  have b0 : (cellsH g (.slice B' g.sets.length d') (.slice A' g.data.length c'))[0]? = some (.int .i64 g.kind) := rfl
  have b1 : (cellsH g (.slice B' g.sets.length d') (.slice A' g.data.length c'))[1]? = some (.int .u64 (g.id : Nat)) := rfl
  have b2 : (cellsH g (.slice B' g.sets.length d') (.slice A' g.data.length c'))[2]? = some (.slice B' g.sets.length d') := rfl
  have b3 : (cellsH g (.slice B' g.sets.length d') (.slice A' g.data.length c'))[3]? = some (.slice A' g.data.length c') := rfl
  generalize cellsH f (.slice B f.sets.length d) (.slice A f.data.length c) = cs at *
  generalize cellsH g (.slice B' g.sets.length d') (.slice A' g.data.length c') = cs' at *
  have hC : Chg none_ w ((w.alloc (.cells cs.toArray 26)).alloc (.cells cs'.toArray 26)) := ((Chg.refl none_ w).alloc _).alloc _
  have HC := Lib.hid hC
  have HB := Lib.hid (fun w' (hc : Chg none_ w w') => bytesEqual_any w' T T' A A' c c' f.data g.data (hvd.chg hc (fun _ _ h => h)) (hvd'.chg hc (fun _ _ h => h)) of og)
  have HE := Lib.hid (settingsEqual_any _ T T' B B' d d' f.sets g.sets (hvr.chg hC (fun _ _ h => h)) (hvr'.chg hC (fun _ _ h => h)) hrl.1)
  have HEQ := Lib.hid (f.eq_iff g)
  clear hC hvd hvd' hvr hvr' of og r1 r2
  go_enter Tryd.func17, Tryd.ntmps17
  go_wp2_with (first | (go_at_call 31; refine (HB.out _ (by first | exact HC.out.drewN _ | exact HC.out)).mono ?_; rintro e w' ⟨rfl, rfl⟩) | (go_at_call 30; refine HE.out.mono ?_; rintro e w' ⟨rfl, nk, rfl⟩))
  all_goals
    go_ret
    refine ⟨ret_bool ?_, by first | exact HC.out | exact HC.out.drewN _⟩
    have heq := HEQ.out
    clear HC HB HE HEQ a0 a1 a2 a3 b0 b1 b2 b3
    rw [Bool.eq_iff_iff]
    simp only [decide_eq_true_eq, heq]
    clear heq
    try simp only [Int.ofNat_inj] at *
    simp_all
end Go.Proofs.YtcdnjeojgjakdaaDoor
