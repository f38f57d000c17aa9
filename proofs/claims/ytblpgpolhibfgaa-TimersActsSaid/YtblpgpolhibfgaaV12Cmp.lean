/- Layer 12 (timers): which timer comes ahead: the program's compare. -/
import Derived.Test.YtblpgpolhibfgaaProg
import Derived.Test.YtblpgpolhibfgaaMapS
import Derived.Test.YtblpgpolhibfgaaAloc
import Derived.Sort.Grow
import Derived.BigQuiet
import Derived.Deep.QuietTactic
import Derived.Lib.Hide
import Derived.StillTailTactics
namespace Go.Proofs.Ytblpgpolhibfgaa
open Go.RowKit

def cmp3 (x y : Int) : Int := if x < y then -1 else if y < x then 1 else 0
def or3 (x y z : Int) : Int := if x = 0 then (if y = 0 then z else y) else x
def cmpT (a b : Tm) : Int := or3 (cmp3 a.at_ b.at_) (cmp3 a.conn b.conn) (cmp3 a.kind b.kind)
theorem cmpT_lt (a b : Tm) : cmpT a b < 0 ↔ Ah a b := by
  unfold cmpT or3 cmp3 Ah
  repeat' split
  all_goals omega
theorem cmpT_gt (a b : Tm) : 0 < cmpT a b ↔ Ah b a := by
  unfold cmpT or3 cmp3 Ah
  repeat' split
  all_goals omega

def tcell (t : Tm) : List Value := [.int .u64 (t.at_ : Int), .int .i64 t.conn, .int .i64 t.kind]
theorem tcell_len (t : Tm) : (tcell t).length = 3 := rfl

theorem nanU (x : Int) (w : World) : Calls Try.prog 54 #[.int .u64 x] w fun e w' => e = .returned (.bool false) ∧ w' = w := by
  go_enter Try.func54, Try.ntmps54
  go_wp2
  go_ret
  exact ⟨rfl, rfl⟩
theorem nanI (x : Int) (w : World) : Calls Try.prog 55 #[.int .i64 x] w fun e w' => e = .returned (.bool false) ∧ w' = w := by
  go_enter Try.func55, Try.ntmps55
  go_wp2
  go_ret
  exact ⟨rfl, rfl⟩

theorem cmpU_any (x y : Int) (w : World) : Calls Try.prog 41 #[.int .u64 x, .int .u64 y] w fun e w' => e = .returned (.int .i64 (cmp3 x y)) ∧ w' = w := by
  unfold cmp3
  by_cases h1 : x < y
  · rw [if_pos h1]
    go_enter Try.func41, Try.ntmps41
    go_wp2_with (go_at_call 54; refine (nanU _ _).mono ?_; rintro e w9 ⟨rfl, rfl⟩)
    go_ret
    exact ⟨rfl, rfl⟩
  · rw [if_neg h1]
    by_cases h2 : y < x
    · rw [if_pos h2]
      go_enter Try.func41, Try.ntmps41
      go_wp2_with (go_at_call 54; refine (nanU _ _).mono ?_; rintro e w9 ⟨rfl, rfl⟩)
      go_ret
      exact ⟨rfl, rfl⟩
    · rw [if_neg h2]
      go_enter Try.func41, Try.ntmps41
      go_wp2_with (go_at_call 54; refine (nanU _ _).mono ?_; rintro e w9 ⟨rfl, rfl⟩)
      go_ret
      exact ⟨rfl, rfl⟩
theorem cmpI_any (x y : Int) (w : World) : Calls Try.prog 42 #[.int .i64 x, .int .i64 y] w fun e w' => e = .returned (.int .i64 (cmp3 x y)) ∧ w' = w := by
  unfold cmp3
  by_cases h1 : x < y
  · rw [if_pos h1]
    go_enter Try.func42, Try.ntmps42
    go_wp2_with (go_at_call 55; refine (nanI _ _).mono ?_; rintro e w9 ⟨rfl, rfl⟩)
    go_ret
    exact ⟨rfl, rfl⟩
  · rw [if_neg h1]
    by_cases h2 : y < x
    · rw [if_pos h2]
      go_enter Try.func42, Try.ntmps42
      go_wp2_with (go_at_call 55; refine (nanI _ _).mono ?_; rintro e w9 ⟨rfl, rfl⟩)
      go_ret
      exact ⟨rfl, rfl⟩
    · rw [if_neg h2]
      go_enter Try.func42, Try.ntmps42
      go_wp2_with (go_at_call 55; refine (nanI _ _).mono ?_; rintro e w9 ⟨rfl, rfl⟩)
      go_ret
      exact ⟨rfl, rfl⟩

set_option maxRecDepth 100000 in
theorem or_any (x y z : Int) (b : Nat) (w : World) (h0 : w.cell? ⟨b, 0, none⟩ = some (.int .i64 x)) (h1 : w.cell? ⟨b, 1, none⟩ = some (.int .i64 y)) (h2 : w.cell? ⟨b, 2, none⟩ = some (.int .i64 z)) :
    Calls Try.prog 40 #[.slice (some ⟨b, 0, none⟩) 3 3] w fun e w' => e = .returned (.int .i64 (or3 x y z)) ∧ w' = w := by
  unfold or3
  by_cases hx : x = 0
  · subst hx
    rw [if_pos rfl]
    by_cases hy : y = 0
    · subst hy
      rw [if_pos rfl]
      by_cases hz : z = 0
      · subst hz
        go_enter Try.func40, Try.ntmps40
        go_wp2
        refine wp_loop_rounds 4 ?_
        iterate 4 (rw [rounds_succ]; go_wp2)
        go_ret
        exact ⟨rfl, rfl⟩
      · have hz2 : (z == 0) = false := by simpa using hz
        go_enter Try.func40, Try.ntmps40
        go_wp2
        refine wp_loop_rounds 3 ?_
        iterate 3 (rw [rounds_succ]; go_wp2)
        go_ret
        exact ⟨rfl, rfl⟩
    · rw [if_neg hy]
      have hz2 : (y == 0) = false := by simpa using hy
      go_enter Try.func40, Try.ntmps40
      go_wp2
      refine wp_loop_rounds 2 ?_
      iterate 2 (rw [rounds_succ]; go_wp2)
      go_ret
      exact ⟨rfl, rfl⟩
  · rw [if_neg hx]
    have hz2 : (x == 0) = false := by simpa using hx
    go_enter Try.func40, Try.ntmps40
    go_wp2
    refine wp_loop_rounds 1 ?_
    iterate 1 (rw [rounds_succ]; go_wp2)
    go_ret
    exact ⟨rfl, rfl⟩

section
variable {P : Program} {ops : Array Oper} {rest : List Oper} {o : Oper} {a : Act} {w : World} {Q : Exit → Act → World → Prop}
/-- A value of a struct's type is boxed; the world behind is the one ahead and one block. -/
theorem wpList_box_Grow {ty : TypeId} {x : Operand} (ho : o.op = .box ty x) (hw : Region.wanted o (yielded ops a.tmps) = true) (zs : List Value) (hx : a.eval x = .agg zs.toArray)
    (k : ∀ w', Row w' w.heap.size ty zs → (∃ os, w' = Sort.grow w os) → w'.heap.size = w.heap.size + 1 → (∀ g e cs, Row w g e cs → Row w' g e cs) → wpList P ops Q rest (a.put o.dst (.pointer (some ⟨w.heap.size, 0, none⟩))) w') : wpList P ops Q (o :: rest) a w :=
  BigFrame.wpList_want hw fun _ hK => by
    have k' := hK _ _ (k (w.alloc (.cells zs.toArray ty)) (Row.new w ty zs) ⟨_, Sort.alloc_eq_grow _ _⟩ (by simp) (fun _ _ _ h => h.alloc _))
    unfold Oper.wp execOp
    simp [ho, Instr.box, newVar, newRow, Result.andThen_ok, hx, Value.cells]
    exact k'
end

set_option maxRecDepth 100000 in
set_option maxHeartbeats 1000000 in
theorem compare_grow (a b : Tm) (w : World) : Calls Try.prog 33 #[.agg (tcell a).toArray, .agg (tcell b).toArray] w fun e w' => e = .returned (.int .i64 (cmpT a b)) ∧ ∃ q os', w' = Sort.grow (w.drewN q) os' := by
  unfold cmpT
  have H1 := Lib.hid (fun w => cmpU_any a.at_ b.at_ w)
  have H2 := Lib.hid (fun w => cmpI_any a.conn b.conn w)
  have H3 := Lib.hid (fun w => cmpI_any a.kind b.kind w)
  generalize cmp3 a.at_ b.at_ = c1 at *
  generalize cmp3 a.conn b.conn = c2 at *
  generalize cmp3 a.kind b.kind = c3 at *
  go_enter Try.func33, Try.ntmps33
  go_wp2_with (first | ((with_reducible show wpList _ _ _ (⟨some 2, .box _ _, _, _, _, _⟩ :: _) _ _); refine wpList_box_Grow rfl rfl (tcell a) rfl ?_; intro w1 hr1 hg1 hs1 hk1; have HR1 := Lib.hid hr1; have HG1 := Lib.hid hg1; have HS1 := Lib.hid hs1; clear hr1 hg1 hs1 hk1) | ((with_reducible show wpList _ _ _ (⟨some 3, .box _ _, _, _, _, _⟩ :: _) _ _); refine wpList_box_Grow rfl rfl (tcell b) rfl ?_; intro w2 hr2 hg2 hs2 hk2; have a0 := (hk2 _ _ _ HR1.out).cell 0; have a1 := (hk2 _ _ _ HR1.out).cell 1; have a2 := (hk2 _ _ _ HR1.out).cell 2; have b0 := hr2.cell 0; have b1 := hr2.cell 1; have b2 := hr2.cell 2; simp only [tcell, List.getElem?_cons_zero, List.getElem?_cons_succ] at a0 a1 a2 b0 b1 b2; have HG2 := Lib.hid hg2; clear hr2 hg2 hs2 hk2))
  refine wp_region_still_tail 15 (by kernel_rfl) (by kernel_rfl) ?_
  simp only [List.take_succ_cons, List.take_zero, List.drop_succ_cons, List.drop_zero]
  iterate 4 still_step
  still_call ((H1.out _).mono fun _ _ h => h)
  iterate 4 still_step
  still_call ((H2.out _).mono fun _ _ h => h)
  iterate 4 still_step
  still_call ((H3.out _).mono fun _ _ h => h)
  refine wpStill_nil ?_
  change wpList _ _ _ _ _ (World.drew _)
  have HOR := Lib.hid (fun b w h0 h1 h2 => or_any c1 c2 c3 b w h0 h1 h2)
  clear H1 H2 H3 a0 a1 a2 b0 b1 b2 HR1 HS1
  go_wp2_with (go_at_call 40; refine (HOR.out _ _ (by go_simp) (by go_simp) (by go_simp)).mono ?_; rintro e w9 ⟨rfl, rfl⟩)
  go_ret
  obtain ⟨os1, rfl⟩ := HG1.out
  obtain ⟨os2, rfl⟩ := HG2.out
  refine ⟨rfl, 1, os1 ++ os2 ++ #[.cells #[.int .i64 c1, .int .i64 c2, .int .i64 c3] 3], ?_⟩
  rw [Sort.alloc_eq_grow, Sort.grow_grow, Sort.grow_grow, Sort.drew_grow, Array.append_assoc]
  rfl

theorem Chg.ofGrow {w : World} (q : Nat) (os : Array Obj) : Chg none_ w (Sort.grow (w.drewN q) os) :=
  ⟨rfl, rfl, rfl, by simp [Sort.grow, World.drewN], fun k hk _ => by
    show (w.heap ++ os)[k]? = w.heap[k]?
    rw [Array.getElem?_append_left hk]⟩
theorem compare_any (a b : Tm) (w : World) : Calls Try.prog 33 #[.agg (tcell a).toArray, .agg (tcell b).toArray] w fun e w' => e = .returned (.int .i64 (cmpT a b)) ∧ Chg none_ w w' :=
  (compare_grow a b w).mono fun _ _ ⟨h, q, os, hw⟩ => ⟨h, hw ▸ Chg.ofGrow q os⟩
end Go.Proofs.Ytblpgpolhibfgaa
