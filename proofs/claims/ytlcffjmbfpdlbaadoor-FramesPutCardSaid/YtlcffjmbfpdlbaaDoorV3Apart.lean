/- Layer 3 (frames): ranges that may be acked. -/
import Derived.Test.YtlcffjmbfpdlbaaDoorV3Same
namespace Go.Proofs.YtlcffjmbfpdlbaaDoor
open Go.RowKit

/-- May these ranges be acked? -/
def apart (l : List (Nat × Nat)) : Prop := 1 ≤ l.length ∧ l.length ≤ 16 ∧ (l.getD 0 (0, 0)).2 ≤ 4611686018427387903 ∧
  ∀ i, i < l.length → (l.getD i (0, 0)).1 ≤ (l.getD i (0, 0)).2 ∧ (0 < i → 2 ≤ (l.getD (i - 1) (0, 0)).1 ∧ (l.getD i (0, 0)).2 + 2 ≤ (l.getD (i - 1) (0, 0)).1)
instance (l : List (Nat × Nat)) : Decidable (apart l) := by unfold apart; exact inferInstance

theorem size44 : (Tryd.prog.info? 34).map (·.size) = some 2 := by kernel_rfl

theorem rget_lt {l : List (Nat × Nat)} (h : ∀ x ∈ l, x.1 < 18446744073709551616 ∧ x.2 < 18446744073709551616) (i : Nat) : (l.getD i (0, 0)).1 < 18446744073709551616 ∧ (l.getD i (0, 0)).2 < 18446744073709551616 := by
  rcases Nat.lt_or_ge i l.length with hi | hi
  · rw [List.getD_eq_getElem?_getD, List.getElem?_eq_getElem hi]; exact h _ (List.getElem_mem hi)
  · rw [List.getD_eq_getElem?_getD, List.getElem?_eq_none hi]; decide

set_option maxRecDepth 100000 in
set_option maxHeartbeats 1000000 in
theorem areApart_any (w : World) (T : Nat → Prop) (A : Option Addr) (c : Nat) (l : List (Nat × Nat)) (h : View w T A (2 * l.length) (rcells l)) (hl : l.length ≤ 1000000) (hlt : ∀ x ∈ l, x.1 < 18446744073709551616 ∧ x.2 < 18446744073709551616) :
    Calls Tryd.prog 34 #[.slice A l.length c] w fun e w' => e = .returned (.bool (decide (apart l))) ∧ Chg none_ w w' := by
  have HA : Hid (apart l ↔ 1 ≤ l.length ∧ l.length ≤ 16 ∧ (l.getD 0 (0, 0)).2 ≤ 4611686018427387903 ∧
    ∀ i, i < l.length → (l.getD i (0, 0)).1 ≤ (l.getD i (0, 0)).2 ∧ (0 < i → 2 ≤ (l.getD (i - 1) (0, 0)).1 ∧ (l.getD i (0, 0)).2 + 2 ≤ (l.getD (i - 1) (0, 0)).1)) := Iff.rfl
  have HLT := Lib.hid (rget_lt hlt)
  clear hlt
  generalize hd : decide (apart l) = D
  have HD := Lib.hid hd
  clear hd
  by_cases hz : l.length < 1
  · clear h
    have hz' : (l.length : Int) < 1 := by omega
    go_enter Tryd.func34, Tryd.ntmps34
    go_wp2
    all_goals go_ret
    all_goals exact ⟨ret_bool (by rw [← HD.out]; symm; rw [decide_eq_false_iff_not, HA.out]; omega), Chg.refl _ _⟩
  by_cases h16 : 16 < l.length
  · clear h
    have hz' : ¬ (l.length : Int) < 1 := by omega
    have h16' : (16 : Int) < (l.length : Int) := by omega
    go_enter Tryd.func34, Tryd.ntmps34
    go_wp2
    all_goals go_ret
    all_goals exact ⟨ret_bool (by rw [← HD.out]; symm; rw [decide_eq_false_iff_not, HA.out]; omega), Chg.refl _ _⟩
  have h0 : 0 < l.length := by omega
  obtain ⟨b, o, rfl, hb, _, hc⟩ := h.ranges h0
  have HC := Lib.hid hc
  have hz' : ¬ (l.length : Int) < 1 := by omega
  have h16' : ¬ (16 : Int) < (l.length : Int) := by omega
  obtain ⟨c00, c01⟩ := hc 0 h0
  simp only [Nat.zero_mul, Nat.add_zero] at c00 c01
  clear hc h
  by_cases htop : 4611686018427387903 < (l.getD 0 (0, 0)).2
  · have htop' : (4611686018427387903 : Int) < ((l.getD 0 (0, 0)).2 : Nat) := by omega
    have HT := Lib.hid htop
    clear htop
    generalize hx : (l.getD 0 (0, 0)).2 = x at c01 htop'
    have HX := Lib.hid hx
    clear hx
    go_enter Tryd.func34, Tryd.ntmps34
    go_wp2
    all_goals go_ret
    all_goals exact ⟨ret_bool (by rw [← HD.out]; symm; rw [decide_eq_false_iff_not, HA.out]; have := HT.out; omega), Chg.refl _ _⟩
  have htop' : ¬ (4611686018427387903 : Int) < ((l.getD 0 (0, 0)).2 : Nat) := by omega
  have HT := Lib.hid htop
  clear htop
  generalize hx : (l.getD 0 (0, 0)).2 = x at c01 htop'
  have HX := Lib.hid hx
  clear hx
  go_enter Tryd.func34, Tryd.ntmps34
  go_wp2
  go_loopw [22] (fun i wr => ∃ k : Nat, k ≤ l.length ∧ i = .int .i64 k ∧ Chg none_ w wr ∧ Hid (∀ i, i < k → (l.getD i (0, 0)).1 ≤ (l.getD i (0, 0)).2 ∧ (0 < i → 2 ≤ (l.getD (i - 1) (0, 0)).1 ∧ (l.getD i (0, 0)).2 + 2 ≤ (l.getD (i - 1) (0, 0)).1))) (fun i _ => l.length - (intOf i).toNat)
  case atStart => exact ⟨0, Nat.zero_le _, rfl, Chg.refl _ _, fun j hj => absurd hj (by omega)⟩
  case round =>
    obtain ⟨k, hk, rfl, hch, hpre⟩ := hrel
    clear c00 c01
    by_cases hlt : k < l.length
    · obtain ⟨c1, c2⟩ := HC.out k hlt
      have c1 := (hch.cell (o + k * 2) hb (fun h => h)).trans c1
      have c2 := (hch.cell (o + k * 2 + 1) hb (fun h => h)).trans c2
      have hbr : b < wr.heap.size := Nat.lt_of_lt_of_le hb hch.size
      have hk0 : (0 : Int) ≤ (k : Int) := by omega
      have hk1 : (k : Int) < (l.length : Int) := by omega
      obtain ⟨hlo64, hhi64⟩ := HLT.out k
      generalize hx : l.getD k (0, 0) = x at c1 c2 hlo64 hhi64
      have HX := Lib.hid hx
      clear hx
      obtain ⟨x1, x2⟩ := x
      simp only at c1 c2 hlo64 hhi64
      have hCh := Lib.hid hch
      by_cases hle : x2 < x1
      · have hle' : (x2 : Int) < (x1 : Int) := by omega
        clear hch
        go_wp2
        all_goals go_ret
        exact ⟨ret_bool (by rw [← HD.out]; symm; rw [decide_eq_false_iff_not, HA.out]; intro hh; have := (hh.2.2.2 k hlt).1; rw [HX.out] at this; simp only at this; omega), hCh.out.alloc _⟩
      · have hle' : ¬ (x2 : Int) < (x1 : Int) := by omega
        by_cases hkz : k = 0
        · subst hkz
          clear hch
          simp only [Nat.zero_mul, Nat.add_zero, Int.natCast_zero] at c1 c2 ⊢
          go_wp2
          go_quiet (fail)
          go_wp2
          go_roundw
          case rel =>
            refine ⟨1, by omega, rfl, (hCh.out.alloc _).drewN _, ?_⟩
            intro j hj
            obtain rfl : j = 0 := by omega
            rw [HX.out]
            exact ⟨by simp only; omega, fun h => absurd h (by omega)⟩
          case measure => simp [intOf]; omega
        · obtain ⟨j, rfl⟩ : ∃ j, k = j + 1 := ⟨k - 1, by omega⟩
          obtain ⟨p1, p2⟩ := HC.out j (by omega)
          have p1 := (hch.cell (o + j * 2) hb (fun h => h)).trans p1
          clear p2
          obtain ⟨hplo64, _⟩ := HLT.out j
          generalize hp : (l.getD j (0, 0)) = p at p1 hplo64
          have HP := Lib.hid hp
          clear hp
          obtain ⟨p, q⟩ := p
          simp only at p1 hplo64
          clear hch
          have hw1 : IntKind.i64.wrap (((j + 1 : Nat) : Int) - 1) = (j : Int) := by rw [show ((j + 1 : Nat) : Int) - 1 = (j : Int) from by omega]; exact IntWalk.i64_in _ (by omega)
          have hkp : (0 : Int) < ((j + 1 : Nat) : Int) := by omega
          by_cases hp2 : p < 2
          · have hp2' : (p : Int) < 2 := by omega
            go_wp2
            go_quiet (fail)
            go_wp2
            all_goals go_ret
            exact ⟨ret_bool (by rw [← HD.out]; symm; rw [decide_eq_false_iff_not, HA.out]; intro hh; have := ((hh.2.2.2 (j + 1) hlt).2 (by omega)).1; rw [show j + 1 - 1 = j from rfl, HP.out] at this; simp only at this; omega), (hCh.out.alloc _).drewN _⟩
          · have hp2' : ¬ (p : Int) < 2 := by omega
            have hpd : decide ((p : Int) < 2) = false := by simp; omega
            have hw2 : IntKind.u64.wrap ((p : Int) - 2) = (p : Int) - 2 := IntWalk.u64_in _ (by omega)
            by_cases hq : p < x2 + 2
            · have hq' : (p : Int) - 2 < (x2 : Int) := by omega
              go_wp2
              go_quiet (fail)
              go_wp2
              all_goals go_ret
              exact ⟨ret_bool (by rw [← HD.out]; symm; rw [decide_eq_false_iff_not, HA.out]; intro hh; have := ((hh.2.2.2 (j + 1) hlt).2 (by omega)).2; rw [show j + 1 - 1 = j from rfl, HP.out, HX.out] at this; simp only at this; omega), (hCh.out.alloc _).drewN _⟩
            · have hq' : ¬ (p : Int) - 2 < (x2 : Int) := by omega
              have hqd : decide ((p : Int) - 2 < (x2 : Int)) = false := by simp; omega
              go_wp2
              go_quiet (fail)
              go_wp2
              go_roundw
              case rel =>
                refine ⟨j + 2, by omega, by go_num, (hCh.out.alloc _).drewN _, ?_⟩
                intro i hi
                rcases Nat.lt_or_ge i (j + 1) with h | h
                · exact hpre.out i h
                · obtain rfl : i = j + 1 := by omega
                  rw [show j + 1 - 1 = j from rfl, HX.out, HP.out]
                  exact ⟨by simp only; omega, fun _ => ⟨by simp only; omega, by simp only; omega⟩⟩
              case measure => simp [intOf]; omega
    · have hkl : k = l.length := by omega
      have : ¬ (k : Int) < (l.length : Int) := by omega
      have HK := Lib.hid hkl
      have hCh := Lib.hid hch
      clear hkl hch
      go_wp2
      all_goals go_ret
      refine ⟨ret_bool ?_, hCh.out⟩
      rw [← HD.out]
      symm
      rw [decide_eq_true_eq, HA.out]
      exact ⟨by omega, by omega, by have := HT.out; omega, fun i hi => hpre.out i (by rw [HK.out]; exact hi)⟩

set_option maxRecDepth 100000 in
theorem fits_ack (f : Fr) (sd sr : Value) (w : World) (T : Nat → Prop) (hf : FrD w T f sd sr) (of : f.Ok) :
    Calls Tryd.prog 33 #[aggF f sd sr] w fun e w' => e = .returned (.bool (decide (apart f.ranges))) ∧ Chg none_ w w' := by
  unfold aggF
  obtain ⟨_, _, ⟨B, d, rfl, hrl, hvr⟩⟩ := hf
  have h7 := cF_7 f sd (.slice B f.ranges.length d)
  generalize cellsF f sd (.slice B f.ranges.length d) = cs at h7 ⊢
  have HR := Lib.hid ((Chg.refl none_ w).alloc (.cells cs.toArray 27))
  have HC := Lib.hid (areApart_any _ T B d f.ranges (hvr.chg HR.out (fun _ _ h => h)) hrl.1 of.ranges)
  clear hvr of
  go_enter Tryd.func33, Tryd.ntmps33
  go_wp2_with (go_at_call 34; refine HC.out.mono ?_; rintro e w' ⟨rfl, hc⟩)
  go_ret
  exact ⟨rfl, HR.out.trans hc⟩
end Go.Proofs.YtlcffjmbfpdlbaaDoor
