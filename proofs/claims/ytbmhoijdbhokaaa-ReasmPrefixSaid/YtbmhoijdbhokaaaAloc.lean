/- Own words for new blocks: a variable of a row's type is laid, or boxed: the world behind is told by what lies in it, not written out. No program is named here. -/
import Derived.Test.YtbmhoijdbhokaaaFlat
namespace Go.Proofs.Ytbmhoijdbhokaaa
open Go.RowKit

section
variable {P : Program} {ops : Array Oper} {rest : List Oper} {o : Oper} {a : Act} {w : World} {Q : Exit → Act → World → Prop}
/-- A variable of an array's or a struct's type is laid. -/
theorem wpList_alloc_Row {ty : TypeId} (ho : o.op = .alloc ty) (hw : Region.wanted o (yielded ops a.tmps) = true) (zs : List Value) (hz : (P.info? ty).map (·.zero) = some (some (.agg zs.toArray)))
    (k : ∀ w', Row w' w.heap.size ty zs → Chg none_ w w' → w'.heap.size = w.heap.size + 1 → wpList P ops Q rest (a.put o.dst (.pointer (some ⟨w.heap.size, 0, none⟩))) w') : wpList P ops Q (o :: rest) a w :=
  BigFrame.wpList_want hw fun _ hK => by
    have k' := hK _ _ (k (w.alloc (.cells zs.toArray ty)) (Row.new w ty zs) ((Chg.refl none_ w).alloc _) (by simp))
    cases hq : P.info? ty with
    | none => rw [hq] at hz; cases hz
    | some i =>
      have hzero : i.zero = some (.agg zs.toArray) := by simpa [hq] using hz
      unfold Oper.wp execOp
      simp [ho, Instr.alloc, zeroValue, typeInfo, newVar, newRow, Sem.run_bind, Sem.run_pure, Result.andThen_ok, hq, hzero, Value.cells]
      exact k'
/-- A value of an array's or a struct's type is boxed. -/
theorem wpList_box_Row {ty : TypeId} {x : Operand} (ho : o.op = .box ty x) (hw : Region.wanted o (yielded ops a.tmps) = true) (zs : List Value) (hx : a.eval x = .agg zs.toArray)
    (k : ∀ w', Row w' w.heap.size ty zs → Chg none_ w w' → w'.heap.size = w.heap.size + 1 → wpList P ops Q rest (a.put o.dst (.pointer (some ⟨w.heap.size, 0, none⟩))) w') : wpList P ops Q (o :: rest) a w :=
  BigFrame.wpList_want hw fun _ hK => by
    have k' := hK _ _ (k (w.alloc (.cells zs.toArray ty)) (Row.new w ty zs) ((Chg.refl none_ w).alloc _) (by simp))
    unfold Oper.wp execOp
    simp [ho, Instr.box, newVar, newRow, Result.andThen_ok, hx, Value.cells]
    exact k'
/-- A variable of an array's or a struct's type is laid: at a bare operation. -/
theorem wp_alloc_row {K : Act → World → Prop} {ty : TypeId} (ho : o.op = .alloc ty) (zs : List Value) (hz : (P.info? ty).map (·.zero) = some (some (.agg zs.toArray)))
    (k : ∀ w', Row w' w.heap.size ty zs → Chg none_ w w' → w'.heap.size = w.heap.size + 1 → K (a.put o.dst (.pointer (some ⟨w.heap.size, 0, none⟩))) w') : Oper.wp P o a w K Q := by
  have k' := k (w.alloc (.cells zs.toArray ty)) (Row.new w ty zs) ((Chg.refl none_ w).alloc _) (by simp)
  cases hq : P.info? ty with
  | none => rw [hq] at hz; cases hz
  | some i =>
    have hzero : i.zero = some (.agg zs.toArray) := by simpa [hq] using hz
    unfold Oper.wp execOp
    simp [ho, Instr.alloc, zeroValue, typeInfo, newVar, newRow, Sem.run_bind, Sem.run_pure, Result.andThen_ok, hq, hzero, Value.cells]
    exact k'
/-- Any operation that lays one block. -/
theorem wp_new_row {K : Act → World → Prop} {v : Nat → Value} {e : TypeId} {cs : List Value} (hrun : ∀ w, (execOp a.eval o).run P w = .ok (.value (v w.heap.size)) (w.alloc (.cells cs.toArray e)))
    (k : ∀ w', Row w' w.heap.size e cs → Chg none_ w w' → w'.heap.size = w.heap.size + 1 → K (a.put o.dst (v w.heap.size)) w') : Oper.wp P o a w K Q := by
  unfold Oper.wp
  rw [hrun w]
  exact k (w.alloc (.cells cs.toArray e)) (Row.new w e cs) ((Chg.refl none_ w).alloc _) (by simp)
/-- A whole struct is read: at a bare operation. -/
theorem wp_load_row {K : Act → World → Prop} {ty : TypeId} {x : Operand} (ho : o.op = .load ty x) {g : Nat} {e : TypeId} {cs : List Value} {d : TypeDesc} (hx : a.eval x = .pointer (some ⟨g, 0, none⟩)) (h : Row w g e cs)
    (hu : P.underlying ty = some d) (hd : d.isRow = true) (hi : (P.info? ty).map (·.size) = some cs.length) (k : K (a.put o.dst (.agg cs.toArray)) w) : Oper.wp P o a w K Q :=
  wp_load_mid ty x ho g 0 hx cs d h.range hu hd hi k
/-- A whole struct is stored into a row: at a bare operation. -/
theorem wp_store_row {K : Act → World → Prop} {ty : TypeId} {x y : Operand} (ho : o.op = .store ty x y) {g : Nat} {e : TypeId} {cs xs : List Value} (hx : a.eval x = .pointer (some ⟨g, 0, none⟩)) (h : Row w g e cs)
    (hy : a.eval y = .agg xs.toArray) (hl : xs.length = cs.length) (hi : (P.info? ty).map (·.size) = some xs.length) (h1 : xs.all (·.oneCell') = true)
    (k : ∀ w', Row w' g e xs → (∀ S w0, Chg S w0 w → (g < w0.heap.size → S g) → Chg S w0 w') → w'.heap.size = w.heap.size → K (a.put o.dst undef) w') : Oper.wp P o a w K Q :=
  wp_store_mid ty x y ho g 0 xs.toArray hx hy (h.there 0 _ (by simp; omega)) (by simpa using hi) (by simpa using h1)
    (k _ (by simpa using h.store xs hl) (fun S w0 hc hg => by simpa using hc.setCells xs 0 hg) (setCells_size _ _ _ _))
end
end Go.Proofs.Ytbmhoijdbhokaaa
