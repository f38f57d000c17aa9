/- Own words for structs by value, over any program: a row's cells read and written all at once, in the middle of a row too. No program is named here. -/
import Derived.Test.YtbmhoijdbhokaaaBase
import Derived.Deep.MidRow
import Derived.BigFrame
namespace Go.Proofs.Ytbmhoijdbhokaaa
open Go.RowKit

section
variable {P : Program} {w w' : World} {g : Nat} {e : TypeId} {cs : List Value}

theorem Row.range (h : Row w g e cs) : w.rangeAt g 0 cs := fun j v hv => by rw [Nat.zero_add, h.cell]; exact hv
theorem Row.rangeMid (h : Row w g e cs) (o : Nat) (xs : List Value) (hx : ∀ j v, xs[j]? = some v → cs[o + j]? = some v) : w.rangeAt g o xs := fun j v hv => by rw [h.cell]; exact hx j v hv
theorem Row.there (h : Row w g e cs) (o n : Nat) (hn : o + n ≤ cs.length) : w.there g o n := fun j hj => ⟨by rw [h.cell]; simp; omega, h.frozen _⟩
theorem loadAt_row (h : Row w g e cs) {ty : TypeId} {d : TypeDesc} (hu : P.underlying ty = some d) (hd : d.isRow = true) (hi : (P.info? ty).map (·.size) = some cs.length) :
    (Instr.loadAt ty (.pointer (some ⟨g, 0, none⟩))).run P w = .ok (.agg cs.toArray) w := run_loadAt_mid w g 0 ty cs d h.range hu hd hi

theorem Row.setCells (xs : List Value) : ∀ {w : World} {cs : List Value} (o : Nat), Row w g e cs → Row (w.setCells g o xs) g e (xs.zipIdx.foldl (fun l x => l.set (o + x.2) x.1) cs) := by
  induction xs with
  | nil => intro w cs o h; exact h
  | cons v r ih =>
    intro w cs o h
    have := ih (o + 1) (h.set o v)
    simp only [World.setCells, List.zipIdx_cons, List.foldl_cons, Nat.add_zero]
    rw [List.zipIdx_succ, List.foldl_map]
    simpa [Nat.add_assoc, Nat.add_comm 1] using this

theorem setList_all (xs : List Value) : ∀ (ys : List Value) (pre : List Value), xs.length = ys.length → xs.zipIdx.foldl (fun l x => l.set (pre.length + x.2) x.1) (pre ++ ys) = pre ++ xs := by
  induction xs with
  | nil => intro ys pre h; have : ys = [] := List.eq_nil_of_length_eq_zero h.symm; subst this; simp
  | cons x r ih =>
    intro ys pre h
    cases ys with
    | nil => cases h
    | cons y ys =>
      have hl : r.length = ys.length := by simpa using h
      have := ih ys (pre ++ [x]) hl
      rw [List.zipIdx_cons, List.foldl_cons, List.zipIdx_succ, List.foldl_map]
      simp only [Nat.add_zero]
      have e1 : (pre ++ y :: ys).set pre.length x = pre ++ [x] ++ ys := by simp
      rw [e1]
      simp only [List.length_append, List.length_cons, List.length_nil, Nat.zero_add] at this
      simp only [List.append_assoc, List.cons_append, List.nil_append] at this ⊢
      rw [← this]
      congr 1
      funext l x
      rw [show pre.length + (x.2 + 1) = pre.length + 1 + x.2 from by omega]

/-- A whole struct is stored into the row that it is. -/
theorem Row.store (h : Row w g e cs) (xs : List Value) (hl : xs.length = cs.length) : Row (w.setCells g 0 xs) g e xs := by
  have := h.setCells xs 0
  have e1 := setList_all xs cs [] hl
  simp only [List.length_nil, List.nil_append] at e1
  rwa [e1] at this

/-- A part of a row is stored. -/
theorem Row.storeMid {pre ys post xs : List Value} (h : Row w g e (pre ++ ys ++ post)) (hl : xs.length = ys.length) : Row (w.setCells g pre.length xs) g e (pre ++ xs ++ post) := by
  have := h.setCells xs pre.length
  have e1 := setList_all xs ys pre hl
  have e2 : ∀ (zs : List (Value × Nat)) (l : List Value), (∀ x ∈ zs, pre.length + x.2 < l.length) → zs.foldl (fun l x => l.set (pre.length + x.2) x.1) (l ++ post) = zs.foldl (fun l x => l.set (pre.length + x.2) x.1) l ++ post := by
    intro zs
    induction zs with
    | nil => intro l _; rfl
    | cons z zs ih =>
      intro l hz
      simp only [List.foldl_cons]
      rw [List.set_append_left _ _ (hz z (by simp)), ih]
      intro x hx
      simpa using hz x (by simp [hx])
  rw [e2, e1] at this
  · exact this
  · intro x hx
    have := List.mem_zipIdx hx
    simp only [List.length_append]
    omega

theorem Chg.setCells {S : Nat → Prop} {w0 : World} (xs : List Value) : ∀ {w : World} (o : Nat), Chg S w0 w → (g < w0.heap.size → S g) → Chg S w0 (w.setCells g o xs) := by
  induction xs with
  | nil => intro w o h _; exact h
  | cons v r ih => intro w o h hg; exact ih (o + 1) (h.setCell (p := ⟨g, o, none⟩) hg v) hg

theorem Row.setCells_far {g' : Nat} (xs : List Value) : ∀ {w : World} (o : Nat), Row w g e cs → g ≠ g' → Row (w.setCells g' o xs) g e cs := by
  induction xs with
  | nil => intro w o h _; exact h
  | cons v r ih => intro w o h hg; exact ih (o + 1) (h.far (p := ⟨g', o, none⟩) hg v) hg
end

theorem setCells_size (g : Nat) (xs : List Value) : ∀ (o : Nat) (w : World), (w.setCells g o xs).heap.size = w.heap.size := by
  induction xs with
  | nil => intro o w; rfl
  | cons v r ih => intro o w; rw [World.setCells, ih]; simp [World.setCell]

section
variable {P : Program} {ops : Array Oper} {rest : List Oper} {o : Oper} {a : Act} {w : World} {Q : Exit → Act → World → Prop}
/-- A whole struct is read, guarded or not: at the list of a region's operations. -/
theorem wpList_load_Row {ty : TypeId} {x : Operand} (ho : o.op = .load ty x) (hw : Region.wanted o (yielded ops a.tmps) = true) {g : Nat} {e : TypeId} {cs : List Value} {d : TypeDesc} (hx : a.eval x = .pointer (some ⟨g, 0, none⟩)) (h : Row w g e cs)
    (hu : P.underlying ty = some d) (hd : d.isRow = true) (hi : (P.info? ty).map (·.size) = some cs.length)
    (k : wpList P ops Q rest (a.put o.dst (.agg cs.toArray)) w) : wpList P ops Q (o :: rest) a w :=
  BigFrame.wpList_want hw fun _ hK => wp_load_mid ty x ho g 0 hx cs d h.range hu hd hi (hK _ _ k)
theorem wpList_load_Mid {ty : TypeId} {x : Operand} (ho : o.op = .load ty x) (hw : Region.wanted o (yielded ops a.tmps) = true) {b off : Nat} {cs : List Value} {d : TypeDesc} (hx : a.eval x = .pointer (some ⟨b, off, none⟩)) (h : w.rangeAt b off cs)
    (hu : P.underlying ty = some d) (hd : d.isRow = true) (hi : (P.info? ty).map (·.size) = some cs.length)
    (k : wpList P ops Q rest (a.put o.dst (.agg cs.toArray)) w) : wpList P ops Q (o :: rest) a w :=
  BigFrame.wpList_want hw fun _ hK => wp_load_mid ty x ho b off hx cs d h hu hd hi (hK _ _ k)
/-- A whole struct is stored into a row. -/
theorem wpList_store_Row {ty : TypeId} {x y : Operand} (ho : o.op = .store ty x y) (hw : Region.wanted o (yielded ops a.tmps) = true) {g : Nat} {e : TypeId} {cs xs : List Value} (hx : a.eval x = .pointer (some ⟨g, 0, none⟩)) (h : Row w g e cs)
    (hy : a.eval y = .agg xs.toArray) (hl : xs.length = cs.length) (hi : (P.info? ty).map (·.size) = some xs.length) (h1 : xs.all (·.oneCell') = true)
    (k : ∀ w', Row w' g e xs → (∀ S w0, Chg S w0 w → (g < w0.heap.size → S g) → Chg S w0 w') → w'.heap.size = w.heap.size → wpList P ops Q rest (a.put o.dst undef) w') : wpList P ops Q (o :: rest) a w :=
  BigFrame.wpList_want hw fun _ hK => wp_store_mid ty x y ho g 0 xs.toArray hx hy (h.there 0 _ (by simp; omega)) (by simpa using hi) (by simpa using h1)
    (hK _ _ (k _ (by simpa using h.store xs hl) (fun S w0 hc hg => by simpa using hc.setCells xs 0 hg) (setCells_size _ _ _ _)))
end

theorem Row.new2 (w : World) (o : Obj) (e : TypeId) (cs : List Value) : Row ((w.alloc o).alloc (.cells cs.toArray e)) (w.heap.size + 1) e cs := heap_alloc2_new w _ _
theorem Row.new1 (w : World) (o : Obj) (e : TypeId) (cs : List Value) : Row ((w.alloc (.cells cs.toArray e)).alloc o) w.heap.size e cs := (Row.new w e cs).alloc o

/-- A struct is handed back out of its cell. -/
theorem ret_row {P : Program} {fn : Func} {p : Tmp} {ty : TypeId} (hres : fn.results = #[.cell p ty]) {a : Act} {w : World} {g : Nat} {e : TypeId} {cs : List Value} {d : TypeDesc} {R : Ending → World → Prop}
    (hp : a.tmps.getD p undef = .pointer (some ⟨g, 0, none⟩)) (hr : Row w g e cs) (hu : P.underlying ty = some d) (hd : d.isRow = true) (hi : (P.info? ty).map (·.size) = some cs.length) (hdef : a.defers = [])
    (h : R (.returned (.agg cs.toArray)) w) : bodyPost P fn R Exit.ret a w :=
  bodyPost_ret (results_cell_row hres a.tmps w g e cs.toArray (0, 0) d hp hr hu (by cases d <;> first | rfl | cases hd) (by simpa using hi)) hdef h

theorem setRow_eq (w : World) (g : Nat) (e : TypeId) (cs xs : List Value) (h : Row w g e cs) : Row (w.setRow g xs.toArray) g e xs := by
  unfold Row at h ⊢
  simp [World.setRow, Array.getElem?_modify, h]
end Go.Proofs.Ytbmhoijdbhokaaa
