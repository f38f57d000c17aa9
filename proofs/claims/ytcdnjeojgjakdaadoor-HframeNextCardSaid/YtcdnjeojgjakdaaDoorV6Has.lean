/- Layer 6 (hframe): what a frame of each kind has; its own bytes. -/
import Derived.Test.YtcdnjeojgjakdaaDoorV6Kinds
import Derived.Test.YtcdnjeojgjakdaaDoorV6Sets
import Derived.Test.YtcdnjeojgjakdaaDoorCatN
namespace Go.Proofs.YtcdnjeojgjakdaaDoor
open Go.RowKit

/-- A frame by value, boxed: what its cells read. -/
structure Boxed (w W : World) (f : Hf) (ss sd : Value) : Prop where
  row : Row W w.heap.size 26 (cellsH f ss sd)
  chg : Chg none_ w W
theorem boxed (w : World) (f : Hf) (ss sd : Value) : Boxed w (w.alloc (.cells (cellsH f ss sd).toArray 26)) f ss sd := ⟨Row.new _ _ _, (Chg.refl none_ w).alloc _⟩
section
variable {w W : World} {f : Hf} {ss sd : Value}
theorem Boxed.k0 (h : Boxed w W f ss sd) : W.cell? ⟨w.heap.size, 0, none⟩ = some (.int .i64 f.kind) := h.row.cell 0
theorem Boxed.k1 (h : Boxed w W f ss sd) : W.cell? ⟨w.heap.size, 1, none⟩ = some (.int .u64 (f.id : Int)) := h.row.cell 1
theorem Boxed.k2 (h : Boxed w W f ss sd) : W.cell? ⟨w.heap.size, 2, none⟩ = some ss := h.row.cell 2
theorem Boxed.k3 (h : Boxed w W f ss sd) : W.cell? ⟨w.heap.size, 3, none⟩ = some sd := h.row.cell 3
end

section
variable (f : Hf) (ss sd : Value) (w : World) (T : Nat → Prop)
set_option maxRecDepth 100000 in
theorem hasData_any (hf : HfD w T f ss sd) : Calls Tryd.prog 44 #[aggH f ss sd] w fun e w' => e = .returned (.bool (hasK .data f)) ∧ Chg none_ w w' := by
  have HK : Hid (hasK .data f = decide (f.data.length ≤ 1000 ∧ f.id = 0 ∧ f.sets.length = 0)) := rfl
  obtain ⟨⟨A, c, rfl, ha, hva⟩, ⟨B, d, rfl, hb, _⟩⟩ := hf
  have hbx := boxed w f (.slice A f.sets.length c) (.slice B f.data.length d)
  have k1 := hbx.k1
  have k2 := hbx.k2
  have k3 := hbx.k3
  have HC := Lib.hid hbx.chg
  clear ha hva
  unfold aggH
  generalize hcs : cellsH f (.slice A f.sets.length c) (.slice B f.data.length d) = cs at *
  clear hbx hcs
  go_enter Tryd.func44, Tryd.ntmps44
  go_wp2
  all_goals
    go_ret
    refine ⟨ret_bool ?_, HC.out⟩
    rw [HK.out, Bool.eq_iff_iff]
    simp only [beq_iff_eq, Bool.false_eq_true, decide_eq_true_eq, false_iff]
    first | omega | (simp_all <;> omega)
set_option maxRecDepth 100000 in
theorem hasId_any (hf : HfD w T f ss sd) : Calls Tryd.prog 47 #[aggH f ss sd] w fun e w' => e = .returned (.bool (hasK .id f)) ∧ Chg none_ w w' := by
  have HK : Hid (hasK .id f = decide (f.id ≤ 4611686018427387903 ∧ f.sets.length = 0 ∧ f.data.length = 0)) := rfl
  obtain ⟨⟨A, c, rfl, ha, hva⟩, ⟨B, d, rfl, hb, _⟩⟩ := hf
  have hbx := boxed w f (.slice A f.sets.length c) (.slice B f.data.length d)
  have k1 := hbx.k1
  have k2 := hbx.k2
  have k3 := hbx.k3
  have HC := Lib.hid hbx.chg
  clear hva
  unfold aggH
  generalize hcs : cellsH f (.slice A f.sets.length c) (.slice B f.data.length d) = cs at *
  clear hbx hcs
  go_enter Tryd.func47, Tryd.ntmps47
  go_wp2
  all_goals
    go_ret
    refine ⟨ret_bool ?_, HC.out⟩
    rw [HK.out, Bool.eq_iff_iff]
    simp only [beq_iff_eq, Bool.false_eq_true, decide_eq_true_eq, false_iff]
    first | omega | (simp_all <;> omega)
set_option maxRecDepth 100000 in
theorem hasSettings_any (hf : HfD w T f ss sd) : Calls Tryd.prog 50 #[aggH f ss sd] w fun e w' => e = .returned (.bool (hasK .sets f)) ∧ Chg none_ w w' := by
  have HK : Hid (hasK .sets f = (setsB f.sets && decide (f.id = 0 ∧ f.data.length = 0))) := rfl
  obtain ⟨⟨A, c, rfl, ha, hva⟩, ⟨B, d, rfl, hb, _⟩⟩ := hf
  have hbx := boxed w f (.slice A f.sets.length c) (.slice B f.data.length d)
  have k1 := hbx.k1
  have k2 := hbx.k2
  have k3 := hbx.k3
  have HC := Lib.hid hbx.chg
  have HS := Lib.hid (areS_any _ T A c f.sets (hva.chg HC.out (fun _ _ h => h)) ha.1 ha.2)
  clear hva
  unfold aggH
  generalize hcs : cellsH f (.slice A f.sets.length c) (.slice B f.data.length d) = cs at *
  have HK1 := Lib.hid k1
  have HK3 := Lib.hid k3
  have HL : Hid (w.heap.size < (w.alloc (.cells cs.toArray 26)).heap.size) := by show _ < _; simp
  clear hbx hcs k1 k3
  go_enter Tryd.func50, Tryd.ntmps50
  go_wp2_with fail
  refine HS.out.mono ?_
  rintro e w1 ⟨rfl, hc1⟩
  have k1 := (hc1.cell 1 HL.out (fun h => h)).trans HK1.out
  have k3 := (hc1.cell 3 HL.out (fun h => h)).trans HK3.out
  have HC1 := Lib.hid (HC.out.trans hc1)
  clear hc1
  cases hs : setsB f.sets
  all_goals
    rw [hs] at HK
    clear hs
    go_wp2
    all_goals
      go_ret
      refine ⟨ret_bool ?_, HC1.out⟩
      rw [HK.out, Bool.eq_iff_iff]
      simp only [beq_iff_eq, Bool.false_eq_true, decide_eq_true_eq, Bool.and_eq_true, true_and, false_and, false_iff]
      try first | omega | (simp_all <;> omega)
theorem has_any (k : KK) (hf : HfD w T f ss sd) : Calls Tryd.prog (hasFn k) #[aggH f ss sd] w fun e w' => e = .returned (.bool (hasK k f)) ∧ Chg none_ w w' := by
  cases k
  · exact hasData_any f ss sd w T hf
  · exact hasId_any f ss sd w T hf
  · exact hasSettings_any f ss sd w T hf
end
end Go.Proofs.YtcdnjeojgjakdaaDoor
