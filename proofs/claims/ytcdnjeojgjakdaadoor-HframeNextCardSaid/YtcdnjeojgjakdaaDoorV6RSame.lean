/- Layer 6 (hframe), the document's words: great frames, great fields; which frames, and which fields, are the same. -/
import Derived.Test.YtcdnjeojgjakdaaDoorV6Same
import Derived.Test.YtcdnjeojgjakdaaDoorV6Fd
import Derived.Test.YtcdnjeojgjakdaaDoorSame
namespace Go.Proofs.YtcdnjeojgjakdaaDoor
open Go.RowKit

def greatB (f : Hf) : Bool := decide (1500 < f.data.length ∨ 40 < f.sets.length)
set_option maxRecDepth 100000 in
theorem Great_any (f : Hf) (ss sd : Value) (w : World) (x : ∃ A c B d, ss = .slice A f.sets.length c ∧ sd = .slice B f.data.length d) :
    Calls Tryd.prog 11 #[aggH f ss sd] w fun e w' => e = .returned (.bool (greatB f)) ∧ Chg none_ w w' := by
  have HG : Hid (greatB f = decide (1500 < f.data.length ∨ 40 < f.sets.length)) := rfl
  obtain ⟨A, c, B, d, rfl, rfl⟩ := x
  have hbx := boxed w f (.slice A f.sets.length c) (.slice B f.data.length d)
  have k2 := hbx.k2
  have k3 := hbx.k3
  have HC := Lib.hid hbx.chg
  unfold aggH
  generalize hcs : cellsH f (.slice A f.sets.length c) (.slice B f.data.length d) = cs at *
  clear hbx hcs
  go_enter Tryd.func11, Tryd.ntmps11
  go_wp2
  all_goals
    go_ret
    refine ⟨ret_bool ?_, HC.out⟩
    rw [HG.out, Bool.eq_iff_iff]
    simp only [decide_eq_true_eq]
    first | omega | (simp_all <;> omega)

/-- The laws' own bound of fields: where it lets them through, they are fewer than 500. -/
def GreatPost (n : Nat) (e : Ending) : Prop := ∃ b : Bool, e = .returned (.bool b) ∧ (b = false → n < 500)
set_option maxRecDepth 100000 in
theorem great_flds (l : List Fld) (A : Option Addr) (c : Nat) (w : World) (T : Nat → Prop) (h : View w T A (2 * l.length) (fcells l)) :
    Calls Tryd.prog 21 #[.slice A l.length c] w fun e w' => GreatPost l.length e ∧ ∃ k, w' = w.drewN k := by
  by_cases h5 : l.length < 500
  · by_cases hz : l.length = 0
    · have e1 : l = [] := List.eq_nil_of_length_eq_zero hz
      subst e1
      clear h hz
      go_enter Tryd.func21, Tryd.ntmps21
      go_wp2
      refine wp_loop_rounds 1 ?_
      rw [rounds_succ]
      go_wp2
      go_ret
      exact ⟨⟨_, rfl, fun _ => h5⟩, 0, rfl⟩
    · obtain ⟨b, o, rfl, hb, _, hc⟩ := h.flds (by omega)
      have HC := Lib.hid hc
      have H5 := Lib.hid h5
      clear h hc
      go_enter Tryd.func21, Tryd.ntmps21
      go_wp2
      go_loopw [3, 4] (fun n i wr => ∃ (k m : Nat) (z : Int), k ≤ l.length ∧ i = .int .i64 k ∧ n = .int .i64 z ∧ wr = w.drewN m) (fun _ i _ => l.length - (intOf i).toNat)
      case atStart => exact ⟨0, 0, _, Nat.zero_le _, rfl, rfl, rfl⟩
      case round =>
        obtain ⟨k, m, z, hk, rfl, rfl, rfl⟩ := hrel
        by_cases hlt : k < l.length
        · by_cases hz5 : z < 500
          · obtain ⟨c1, c2⟩ := HC.out k hlt
            have hk0 : (0 : Int) ≤ (k : Int) := by omega
            have hk1 : (k : Int) < (l.length : Int) := by omega
            generalize l.getD k fld0 = x at c1 c2
            obtain ⟨x1, x2⟩ := x
            simp only at c1 c2
            go_wp2
            go_quiet (fail)
            go_wp2
            go_roundw
            case rel => exact ⟨k + 1, m + nq, _, by omega, by go_num, rfl, rfl⟩
            case measure => simp [intOf]; omega
          · have hk1 : (k : Int) < (l.length : Int) := by omega
            go_wp2
            go_ret
            exact ⟨⟨_, rfl, fun _ => H5.out⟩, m, rfl⟩
        · have hk1 : ¬ (k : Int) < (l.length : Int) := by omega
          go_wp2
          go_ret
          exact ⟨⟨_, rfl, fun _ => H5.out⟩, m, rfl⟩
  · have h1 : (0 : Int) < (l.length : Int) := by omega
    have h2 : ¬ (l.length : Int) < 500 := by omega
    have h3 : (200 : Int) < (l.length : Int) := by omega
    clear h h5
    go_enter Tryd.func21, Tryd.ntmps21
    go_wp2
    refine wp_loop_rounds 1 ?_
    rw [rounds_succ]
    go_wp2
    go_ret
    exact ⟨⟨true, rfl, fun h => by cases h⟩, 0, rfl⟩

theorem List_any (w : World) (T T' : Nat → Prop) (A A' : Option Addr) (c c' : Nat) (l l' : List Fld) (h : View w T A (2 * l.length) (fcells l)) (h' : View w T' A' (2 * l'.length) (fcells l')) (hl : l.length ≤ 1000000) :
    Calls Tryd.prog 25 #[.slice A l.length c, .slice A' l'.length c'] w fun e w' => e = .returned (.bool (decide (l = l'))) ∧ ∃ k, w' = w.drewN k := by
  by_cases hlen : l.length = l'.length
  · by_cases hz : l.length = 0
    · have e1 : l = [] := List.eq_nil_of_length_eq_zero hz
      have e2 : l' = [] := List.eq_nil_of_length_eq_zero (by omega)
      subst e1; subst e2
      clear h h'
      go_enter Tryd.func25, Tryd.ntmps25
      go_wp2
      refine wp_loop_rounds 1 ?_
      rw [rounds_succ]
      go_wp2
      go_ret
      exact ⟨rfl, 0, rfl⟩
    · obtain ⟨b, o, rfl, hb, _, hc⟩ := h.flds (by omega)
      obtain ⟨b', o', rfl, hb', _, hc'⟩ := h'.flds (by omega)
      have hne : (((l.length : Nat) : Int) != (l'.length : Int)) = false := by rw [bne_eq_false_iff_eq]; omega
      have hlen' : l'.length ≤ 1000000 := by omega
      have HL := Lib.hid hlen
      have HC := Lib.hid hc
      have HC' := Lib.hid hc'
      clear hlen h h' hc hc'
      go_enter Tryd.func25, Tryd.ntmps25
      go_wp2
      go_loopw [5] (fun i wr => ∃ k m : Nat, k ≤ l.length ∧ i = .int .i64 k ∧ wr = w.drewN m ∧ Hid (∀ j, j < k → l.getD j fld0 = l'.getD j fld0)) (fun i _ => l.length - (intOf i).toNat)
      case atStart => exact ⟨0, 0, Nat.zero_le _, rfl, rfl, fun j hj => absurd hj (by omega)⟩
      case round =>
        obtain ⟨k, m, hk, rfl, rfl, hpre⟩ := hrel
        by_cases hlt : k < l.length
        · have hlt' : k < l'.length := by have := HL.out; omega
          obtain ⟨c1, c2⟩ := HC.out k hlt
          obtain ⟨c3, c4⟩ := HC'.out k hlt'
          have hk0 : (0 : Int) ≤ (k : Int) := by omega
          have hk1 : (k : Int) < (l.length : Int) := by omega
          have hk2 : (k : Int) < (l'.length : Int) := by omega
          generalize hx : l.getD k fld0 = x at c1 c2
          generalize hy : l'.getD k fld0 = y at c3 c4
          have HX := Lib.hid hx
          have HY := Lib.hid hy
          clear hx hy
          obtain ⟨x1, x2⟩ := x
          obtain ⟨y1, y2⟩ := y
          simp only at c1 c2 c3 c4
          by_cases hxy : x1 = y1 ∧ x2 = y2
          · obtain ⟨rfl, rfl⟩ := hxy
            go_wp2
            go_quiet (fail)
            go_wp2
            go_roundw
            case rel =>
              refine ⟨k + 1, m + nq, by omega, by go_num, rfl, ?_⟩
              intro j hj
              rcases Nat.lt_or_ge j k with hjk | hjk
              · exact hpre.out j hjk
              · have : j = k := by omega
                subst this
                rw [HX.out, HY.out]
            case measure => simp [intOf]; omega
          · have HXY := Lib.hid hxy
            by_cases h1 : x1 = y1
            · subst h1
              have h2 : (x2.toList == y2.toList) = false := by
                rw [beq_eq_false_iff_ne, ByteArray.toList_eq, ByteArray.toList_eq]
                intro e
                exact hxy ⟨rfl, ByteArray.ext (Array.toList_inj.1 e)⟩
              clear hxy
              go_wp2
              go_quiet (fail)
              go_wp2
              go_ret
              refine ⟨ret_bool ?_, m + nq, by simp only [World.drewN, Nat.add_assoc]⟩
              symm
              rw [decide_eq_false_iff_not]
              intro e
              apply HXY.out
              have h1 := HX.out
              rw [e, HY.out] at h1
              simpa [eq_comm] using h1
            · have h2 : (x1.toList == y1.toList) = false := by
                rw [beq_eq_false_iff_ne, ByteArray.toList_eq, ByteArray.toList_eq]
                intro e
                exact h1 (ByteArray.ext (Array.toList_inj.1 e))
              clear hxy h1
              go_wp2
              go_quiet (fail)
              go_wp2
              go_ret
              refine ⟨ret_bool ?_, m + nq, by simp only [World.drewN, Nat.add_assoc]⟩
              symm
              rw [decide_eq_false_iff_not]
              intro e
              apply HXY.out
              have h1 := HX.out
              rw [e, HY.out] at h1
              simpa [eq_comm] using h1
        · have hkl : k = l.length := by omega
          have HK := Lib.hid hkl
          clear hkl
          have : ¬ (k : Int) < (l.length : Int) := by omega
          go_wp2
          go_ret
          refine ⟨ret_bool ?_, m, rfl⟩
          symm
          rw [decide_eq_true_eq]
          apply List.ext_getElem HL.out
          intro j h1 h2
          have := hpre.out j (by rw [HK.out]; exact h1)
          simpa [List.getD_eq_getElem?_getD, h1, h2] using this
  · have hne : (((l.length : Nat) : Int) != (l'.length : Int)) = true := by simp; omega
    have hd : decide (l = l') = false := by simp; intro e; exact hlen (by rw [e])
    rw [hd]
    clear h h'
    go_enter Tryd.func25, Tryd.ntmps25
    go_wp2
    go_ret
    exact ⟨rfl, 0, rfl⟩
end Go.Proofs.YtcdnjeojgjakdaaDoor
