/- Layer 13 (ranges): what the closures say of a range, and what only reads a set. -/
import Derived.Test.YtlakhfbhbebojaaV13Set
import Derived.Test.YtlakhfbhbebojaaRegionLate
namespace Go.Proofs.Ytlakhfbhbebojaa
open Go.RowKit Go.Shelf Go.Sort

theorem wrap_small {x : Int} (h0 : 0 ≤ x) (h1 : x < 18446744073709551616) : IntKind.u64.wrap x = x := by
  unfold IntKind.wrap
  simp [IntKind.signed, IntKind.bits]
  omega
/-- A value of a struct's type is boxed: the world behind is one block more. -/
theorem wpList_box_is {P : Program} {ops : Array Oper} {rest : List Oper} {o : Oper} {a : Act} {w : World} {Q : Exit → Act → World → Prop} {ty : TypeId} {x : Operand} (ho : o.op = .box ty x) (hw : Region.wanted o (yielded ops a.tmps) = true) (zs : List Value) (hx : a.eval x = .agg zs.toArray)
    (k : ∀ w', (∃ os, w' = grow (w.drewN 0) os) → Row w' w.heap.size ty zs → Chg none_ w w' → w'.heap.size = w.heap.size + 1 → wpList P ops Q rest (a.put o.dst (.pointer (some ⟨w.heap.size, 0, none⟩))) w') : wpList P ops Q (o :: rest) a w :=
  BigFrame.wpList_want hw fun _ hK => by
    have k' := hK _ _ (k (w.alloc (.cells zs.toArray ty)) ⟨_, alloc_eq_grow _ _⟩ (Row.new w ty zs) ((Chg.refl none_ w).alloc _) (by simp))
    unfold Oper.wp execOp
    simp [ho, Instr.box, newVar, newRow, Result.andThen_ok, hx, Value.cells]
    exact k'

set_option maxRecDepth 100000 in
set_option maxHeartbeats 1000000 in
theorem says_has (n pn : Nat) (l : List (Nat × Nat)) (w : World) (h : w.cell? ⟨pn, 0, none⟩ = some (.int .u64 (n : Int))) : Says 25 #[.pointer (some ⟨pn, 0, none⟩)] (loLe n) l w := by
  refine ⟨Try.call25, fun W r hr hW => ?_⟩
  have h1 : W.cell? ⟨pn, 0, none⟩ = some (.int .u64 (n : Int)) := (hW.cell 0 (World.block_lt_of_cell? _ _ h) (fun h => h)).trans h
  obtain ⟨a, b⟩ := r
  show Calls _ _ #[.agg #[.int .u64 (a : Int), .int .u64 (b : Int)], .pointer (some ⟨pn, 0, none⟩)] W _
  have HQ : Hid ((loLe n) (a, b) = decide ((a : Int) ≤ (n : Int))) := Lib.hid (by
    simp only [loLe]
    exact decide_eq_decide.2 (by omega))
  clear h hr hW
  go_enter Try.func25, Try.ntmps25
  go_wp2_with ((with_reducible show wpList _ _ _ (⟨some 2, .box _ _, _, _, _, _⟩ :: _) _ _); refine wpList_box_is rfl rfl (rcell (a, b)) rfl ?_; intro w1 hi1 hr1 hc1 hs1; have HI := Lib.hid hi1; have c0 := hr1.cell 0; have c1 := hr1.cell 1; have h2 := (hc1.cell 0 (World.block_lt_of_cell? _ _ h1) (fun h => h)).trans h1; simp only [rcell, List.getElem?_cons_zero, List.getElem?_cons_succ] at c0 c1; clear hi1 hr1 hc1 hs1 h1)
  go_ret

  obtain ⟨os, hos⟩ := HI.out
  exact ⟨ret_bool (by rw [HQ.out]; exact decide_eq_decide.2 (by omega)), 0, os, hos⟩

set_option maxRecDepth 100000 in
set_option maxHeartbeats 1000000 in
theorem says_fg1 (n pn : Nat) (l : List (Nat × Nat)) (w : World) (h : w.cell? ⟨pn, 0, none⟩ = some (.int .u64 (n : Int))) : Says 26 #[.pointer (some ⟨pn, 0, none⟩)] (loLe n) l w := by
  refine ⟨Try.call26, fun W r hr hW => ?_⟩
  have h1 : W.cell? ⟨pn, 0, none⟩ = some (.int .u64 (n : Int)) := (hW.cell 0 (World.block_lt_of_cell? _ _ h) (fun h => h)).trans h
  obtain ⟨a, b⟩ := r
  show Calls _ _ #[.agg #[.int .u64 (a : Int), .int .u64 (b : Int)], .pointer (some ⟨pn, 0, none⟩)] W _
  have HQ : Hid ((loLe n) (a, b) = decide ((a : Int) ≤ (n : Int))) := Lib.hid (by
    simp only [loLe]
    exact decide_eq_decide.2 (by omega))
  clear h hr hW
  go_enter Try.func26, Try.ntmps26
  go_wp2_with ((with_reducible show wpList _ _ _ (⟨some 2, .box _ _, _, _, _, _⟩ :: _) _ _); refine wpList_box_is rfl rfl (rcell (a, b)) rfl ?_; intro w1 hi1 hr1 hc1 hs1; have HI := Lib.hid hi1; have c0 := hr1.cell 0; have c1 := hr1.cell 1; have h2 := (hc1.cell 0 (World.block_lt_of_cell? _ _ h1) (fun h => h)).trans h1; simp only [rcell, List.getElem?_cons_zero, List.getElem?_cons_succ] at c0 c1; clear hi1 hr1 hc1 hs1 h1)
  go_ret

  obtain ⟨os, hos⟩ := HI.out
  exact ⟨ret_bool (by rw [HQ.out]; exact decide_eq_decide.2 (by omega)), 0, os, hos⟩

set_option maxRecDepth 100000 in
set_option maxHeartbeats 1000000 in
theorem says_fg2 (n pn : Nat) (l : List (Nat × Nat)) (w : World) (h : w.cell? ⟨pn, 0, none⟩ = some (.int .u64 (n : Int))) : Says 27 #[.pointer (some ⟨pn, 0, none⟩)] (hiLe n) l w := by
  refine ⟨Try.call27, fun W r hr hW => ?_⟩
  have h1 : W.cell? ⟨pn, 0, none⟩ = some (.int .u64 (n : Int)) := (hW.cell 0 (World.block_lt_of_cell? _ _ h) (fun h => h)).trans h
  obtain ⟨a, b⟩ := r
  show Calls _ _ #[.agg #[.int .u64 (a : Int), .int .u64 (b : Int)], .pointer (some ⟨pn, 0, none⟩)] W _
  have HQ : Hid ((hiLe n) (a, b) = decide ((b : Int) ≤ (n : Int))) := Lib.hid (by
    simp only [hiLe]
    exact decide_eq_decide.2 (by omega))
  clear h hr hW
  go_enter Try.func27, Try.ntmps27
  go_wp2_with ((with_reducible show wpList _ _ _ (⟨some 2, .box _ _, _, _, _, _⟩ :: _) _ _); refine wpList_box_is rfl rfl (rcell (a, b)) rfl ?_; intro w1 hi1 hr1 hc1 hs1; have HI := Lib.hid hi1; have c0 := hr1.cell 0; have c1 := hr1.cell 1; have h2 := (hc1.cell 0 (World.block_lt_of_cell? _ _ h1) (fun h => h)).trans h1; simp only [rcell, List.getElem?_cons_zero, List.getElem?_cons_succ] at c0 c1; clear hi1 hr1 hc1 hs1 h1)
  go_ret

  obtain ⟨os, hos⟩ := HI.out
  exact ⟨ret_bool (by rw [HQ.out]; exact decide_eq_decide.2 (by omega)), 0, os, hos⟩

set_option maxRecDepth 100000 in
set_option maxHeartbeats 1000000 in
theorem says_add1 (n pn : Nat) (l : List (Nat × Nat)) (w : World) (h : w.cell? ⟨pn, 0, none⟩ = some (.int .u64 (n : Int))) (hn : n ≤ MX) : Says 22 #[.pointer (some ⟨pn, 0, none⟩)] (loLe (n + 1)) l w := by
  refine ⟨Try.call22, fun W r hr hW => ?_⟩
  have h1 : W.cell? ⟨pn, 0, none⟩ = some (.int .u64 (n : Int)) := (hW.cell 0 (World.block_lt_of_cell? _ _ h) (fun h => h)).trans h
  obtain ⟨a, b⟩ := r
  have HWR : Hid (IntKind.u64.wrap ((n : Int) + 1) = (n : Int) + 1) := Lib.hid (wrap_small (by omega) (by unfold MX at hn; omega))
  show Calls _ _ #[.agg #[.int .u64 (a : Int), .int .u64 (b : Int)], .pointer (some ⟨pn, 0, none⟩)] W _
  have HQ : Hid ((loLe (n + 1)) (a, b) = decide ((a : Int) ≤ (n : Int) + 1)) := Lib.hid (by
    simp only [loLe]
    exact decide_eq_decide.2 (by omega))
  clear h hr hW hn
  go_enter Try.func22, Try.ntmps22
  go_wp2_with ((with_reducible show wpList _ _ _ (⟨some 2, .box _ _, _, _, _, _⟩ :: _) _ _); refine wpList_box_is rfl rfl (rcell (a, b)) rfl ?_; intro w1 hi1 hr1 hc1 hs1; have HI := Lib.hid hi1; have c0 := hr1.cell 0; have c1 := hr1.cell 1; have h2 := (hc1.cell 0 (World.block_lt_of_cell? _ _ h1) (fun h => h)).trans h1; simp only [rcell, List.getElem?_cons_zero, List.getElem?_cons_succ] at c0 c1; clear hi1 hr1 hc1 hs1 h1)
  go_ret

  obtain ⟨os, hos⟩ := HI.out
  exact ⟨ret_bool (by rw [HQ.out]; rw [HWR.out]), 0, os, hos⟩

set_option maxRecDepth 100000 in
set_option maxHeartbeats 1000000 in
theorem says_add2 (n pn : Nat) (l : List (Nat × Nat)) (w : World) (h : w.cell? ⟨pn, 0, none⟩ = some (.int .u64 (n : Int))) (hB : ∀ r ∈ l, r.1 ≤ r.2 ∧ r.2 ≤ MX) : Says 23 #[.pointer (some ⟨pn, 0, none⟩)] (hiLt n) l w := by
  refine ⟨Try.call23, fun W r hr hW => ?_⟩
  have h1 : W.cell? ⟨pn, 0, none⟩ = some (.int .u64 (n : Int)) := (hW.cell 0 (World.block_lt_of_cell? _ _ h) (fun h => h)).trans h
  obtain ⟨a, b⟩ := r
  have HWR : Hid (IntKind.u64.wrap ((b : Int) + 1) = (b : Int) + 1) := Lib.hid (wrap_small (by omega) (by have := (hB _ hr).2; unfold MX at this; dsimp only at this; omega))
  show Calls _ _ #[.agg #[.int .u64 (a : Int), .int .u64 (b : Int)], .pointer (some ⟨pn, 0, none⟩)] W _
  have HQ : Hid ((hiLt n) (a, b) = decide ((b : Int) + 1 < (n : Int))) := Lib.hid (by
    simp only [hiLt]
    exact decide_eq_decide.2 (by omega))
  clear h hr hW hB
  go_enter Try.func23, Try.ntmps23
  go_wp2_with ((with_reducible show wpList _ _ _ (⟨some 2, .box _ _, _, _, _, _⟩ :: _) _ _); refine wpList_box_is rfl rfl (rcell (a, b)) rfl ?_; intro w1 hi1 hr1 hc1 hs1; have HI := Lib.hid hi1; have c0 := hr1.cell 0; have c1 := hr1.cell 1; have h2 := (hc1.cell 0 (World.block_lt_of_cell? _ _ h1) (fun h => h)).trans h1; simp only [rcell, List.getElem?_cons_zero, List.getElem?_cons_succ] at c0 c1; clear hi1 hr1 hc1 hs1 h1)
  go_ret

  obtain ⟨os, hos⟩ := HI.out
  exact ⟨ret_bool (by rw [HQ.out]; rw [HWR.out]), 0, os, hos⟩


/-- A set as it is to be: in memory, and its ranges as they may be. -/
def SetG (w : World) (B g : Nat) (l : List (Nat × Nat)) (y k : Nat) : Prop := SetAt w B g l y ∧ Good l y k
theorem SetG.quiet {w w' : World} {B g k : Nat} {l : List (Nat × Nat)} {y : Nat} (h : SetG w B g l y k) (hc : Chg none_ w w') : SetG w' B g l y k := ⟨h.1.quiet hc, h.2⟩
theorem Good.lohi {l : List (Nat × Nat)} {y k : Nat} (h : Good l y k) : ∀ r ∈ l, r.1 ≤ r.2 ∧ r.2 ≤ MX := fun r hr => ⟨h.sep.2 r hr, (h.all r hr).2⟩

set_option maxRecDepth 100000 in
set_option maxHeartbeats 1000000 in
theorem Old_any (g B y : Nat) (l : List (Nat × Nat)) (n : Nat) (w : World) (h : SetAt w B g l y) :
    Calls Try.prog 11 #[.pointer (some ⟨g, 0, none⟩), .int .u64 (n : Int)] w fun e w' => e = .returned (.bool (decide (n < y))) ∧ w' = w := by
  obtain ⟨A, cap, hr, _⟩ := h
  have c0 : w.cell? ⟨g, 1, none⟩ = some (.int .u64 (y : Int)) := hr.cell 1
  clear hr
  go_enter Try.func11, Try.ntmps11
  go_wp2
  go_ret
  exact ⟨rfl, rfl⟩
theorem Old_nil (n : Nat) (w : World) :
    Calls Try.prog 11 #[.pointer none, .int .u64 (n : Int)] w fun e w' => e = .returned (.bool false) ∧ w' = w := by
  go_enter Try.func11, Try.ntmps11
  go_wp2
  go_ret
  exact ⟨rfl, rfl⟩

set_option maxRecDepth 100000 in
set_option maxHeartbeats 1000000 in
theorem Largest_any (g B y : Nat) (l : List (Nat × Nat)) (w : World) (h : SetAt w B g l y) (hm : ∀ r ∈ l, r.2 ≤ MX) :
    Calls Try.prog 13 #[.pointer (some ⟨g, 0, none⟩)] w fun e w' => e = .returned (.int .i64 (largestL l)) ∧ w' = w := by
  obtain ⟨A, cap, hr, _, _, hv, _⟩ := h
  have c0 : w.cell? ⟨g, 0, none⟩ = some (.slice A l.length cap) := hr.cell 0
  clear hr
  rcases l with _ | ⟨r, l⟩
  · show Calls _ _ _ _ fun e w' => e = .returned (.int .i64 (-1)) ∧ _
    clear hv
    go_enter Try.func13, Try.ntmps13
    go_wp2
    go_ret
    exact ⟨rfl, rfl⟩
  · show Calls _ _ _ _ fun e w' => e = .returned (.int .i64 (r.2 : Int)) ∧ _
    obtain ⟨b, o, rfl, _, _, hk⟩ := hv.rAt (k := 0) (by simp)
    have a0 : w.cell? ⟨b, o + 1, none⟩ = some (.int .u64 (r.2 : Int)) := by
      have := hk 0 (by simp) 1 _ rfl
      simp only [Nat.zero_mul, Nat.add_zero] at this
      exact this
    have n1 : (((r :: l).length : Int) == 0) = false := by rw [beq_eq_false_iff_ne, List.length_cons]; omega
    have n2 : (0 : Int) < ((r :: l).length : Int) := by rw [List.length_cons]; omega
    have n3 : 0 < (r :: l).length := by rw [List.length_cons]; omega
    have HWR : Hid (wrap64 (r.2 : Int) = (r.2 : Int)) := Lib.hid (by
      have := hm r List.mem_cons_self
      unfold MX at this
      unfold wrap64
      omega)
    generalize (r :: l).length = n at *
    clear hv hk hm
    go_enter Try.func13, Try.ntmps13
    go_wp2
    go_ret
    exact ⟨ret_i64 HWR.out, rfl⟩
theorem Largest_nil (w : World) :
    Calls Try.prog 13 #[.pointer none] w fun e w' => e = .returned (.int .i64 (-1)) ∧ w' = w := by
  go_enter Try.func13, Try.ntmps13
  go_wp2
  go_ret
  exact ⟨rfl, rfl⟩

/-- Ranges in a row of the call's own. -/
def OwnedR (w : World) (base : Nat) (v : Value) (l : List (Nat × Nat)) : Prop := w.ownsRow base 41 2 v l.length (rcells l)
theorem OwnedR.chg {w w' : World} {S : Nat → Prop} {base : Nat} {v : Value} {l : List (Nat × Nat)} (h : OwnedR w base v l) (hc : Chg S w w') (hs : ∀ b, base ≤ b → ¬ S b) : OwnedR w' base v l := by
  refine ⟨h.1, ?_⟩
  rcases h.2 with h2 | ⟨g, cap, cur, h1, h2, h3, h4⟩
  · exact Or.inl h2
  · refine Or.inr ⟨g, cap, cur, h1, h2, ?_, h4⟩
    have hlt : g < w.heap.size := by
      rcases Nat.lt_or_ge g w.heap.size with hlt | hge
      · exact hlt
      · rw [Array.getElem?_eq_none hge] at h3; cases h3
    exact (hc.block g hlt (hs g h2)).trans h3
theorem OwnedR.nil (w : World) (base : Nat) : OwnedR w base (.slice none 0 0) [] := World.ownsRow_nil _ _ _ _
theorem OwnedR.view {w : World} {base : Nat} {v : Value} {l : List (Nat × Nat)} (h : OwnedR w base v l) : ∃ A cap, v = .slice A l.length cap ∧ l.length ≤ cap ∧ cap ≤ maxLen ∧ View w (fun b => base ≤ b) A (l.length * 2) (rcells l) := by
  rcases h.2 with ⟨rfl, hn⟩ | ⟨g, cap, cur, rfl, hb, hg, hn, hc, hs, ht⟩
  · obtain rfl : l = [] := List.length_eq_zero_iff.1 hn
    exact ⟨none, 0, rfl, Nat.le_refl _, Nat.zero_le _, View.none_ _ _ _⟩
  · refine ⟨some ⟨g, 0, none⟩, cap, rfl, hn, hc, ?_⟩
    have hR : Row w g 41 cur.toList := by unfold Row; rw [hg]
    have hcl : cur.toList.length = cap * 2 := by rw [Array.length_toList]; exact hs
    have := View.row (T := fun b => base ≤ b) (n := l.length * 2) hR (by rw [hcl]; exact Nat.mul_le_mul_right 2 hn) hb
    rwa [ht] at this
theorem zeroR : (Try.prog.info? 41).map (·.zero) = some (some (.agg (rcell (0, 0)).toArray)) := by kernel_rfl
theorem infoR : (Try.prog.info? 41).map (fun i => (i.zero, i.size, i.bytes)) = some (some (.agg (rcell (0, 0)).toArray), 2, 16) := by kernel_rfl
theorem infoR_parts : ∃ j, Try.prog.info? 41 = some j ∧ j.zero = some (.agg (rcell (0, 0)).toArray) ∧ j.size = 2 ∧ j.bytes = 16 := by
  have h := infoR
  cases hq : Try.prog.info? 41 with
  | none => rw [hq] at h; cases h
  | some j =>
    rw [hq] at h
    simp only [Option.map_some, Option.some.injEq, Prod.mk.injEq] at h
    exact ⟨j, rfl, h.1, h.2.1, h.2.2⟩

set_option maxRecDepth 100000 in
set_option maxHeartbeats 1000000 in
theorem Ranges_any (g B y : Nat) (l : List (Nat × Nat)) (w : World) (h : SetAt w B g l y) (hl : l.length ≤ 1000) :
    Calls Try.prog 12 #[.pointer (some ⟨g, 0, none⟩)] w fun e w' => ∃ v, e = .returned v ∧ OwnedR w' w.heap.size v l ∧ Chg none_ w w' := by
  obtain ⟨A, cap, hr, _, _, hv, _⟩ := h
  have c0 : w.cell? ⟨g, 0, none⟩ = some (.slice A l.length cap) := hr.cell 0
  have HV := Lib.hid hv
  have HL := Lib.hid hl
  have HO := Lib.hid (rcells_one l)
  obtain ⟨iR, hR0, hR1, hR2, hR3⟩ := infoR_parts
  clear hr hv hl
  go_enter Try.func12, Try.ntmps12
  go_wp2_with ((with_reducible show wpList _ _ _ (⟨some 9, _, _, _, _, _⟩ :: _) _ _); refine wpList_append_viewN rfl _ _ 27 rfl 41 iR _ 2 16 Try.underlying27 hR0 hR1 hR2 hR3 rfl (by decide) w.heap.size (.slice none 0 0) 0 [] rfl (World.ownsRow_nil _ _ _ _) _ A l.length cap (rcells l) rfl HV.out HO.out (by have := HL.out; unfold maxLen; omega) (by have := HL.out; omega) (Nat.le_refl _) ?_; intro v w9 ho hg; have HO9 := Lib.hid ho; have HG9 := Lib.hid ((Chg.refl none_ w).grown hg (fun k hk => by cases hk)); clear ho hg)
  go_ret
  refine ⟨v, rfl, ?_, HG9.out⟩
  have := HO9.out
  rw [Nat.zero_add, List.nil_append] at this
  exact this
theorem Ranges_nil (w : World) :
    Calls Try.prog 12 #[.pointer none] w fun e w' => e = .returned (.slice none 0 0) ∧ w' = w := by
  go_enter Try.func12, Try.ntmps12
  go_wp2
  go_ret
  exact ⟨rfl, rfl⟩
theorem Has_nil (n : Int) (w : World) :
    Calls Try.prog 10 #[.pointer none, .int .u64 n] w fun e w' => e = .returned (.bool false) ∧ Chg none_ w w' := by
  go_enter Try.func10, Try.ntmps10
  go_wp2
  go_ret
  exact ⟨rfl, (Chg.refl _ _).alloc _⟩
end Go.Proofs.Ytlakhfbhbebojaa
