/- Own words for a map by u64 keys whose elements are bytes: over any program. No program is named here. -/
import Derived.Test.YtbmhoijdbhokaaaMap
import Derived.Test.YtbmhoijdbhokaaaRound
import Derived.BigFrameIn
import Derived.OwnWalkIn
namespace Go.Proofs.Ytbmhoijdbhokaaa
open Go.RowKit Go.MapKept

/-- The byte that stands at a key. -/
def lookN (es : List (Nat × Nat)) (k : Nat) : Option Nat := (es.find? fun x => x.1 == k).map (·.2)
def bV (es : List (Nat × Nat)) : List (Nat × Value) := es.map fun x => (x.1, .int .u8 ((x.2 : Nat) : Int))
/-- Block g is a map of these places and bytes. -/
def MapB (w : World) (g : Nat) (es : List (Nat × Nat)) : Prop := MapOf w g (bV es)

theorem look_bV (es : List (Nat × Nat)) (k : Nat) : look (bV es) k = (lookN es k).map fun x => .int .u8 ((x : Nat) : Int) := by
  unfold look bV lookN
  rw [List.find?_map]
  simp only [Option.map_map]
  rfl

theorem lookN_nil (k : Nat) : lookN [] k = none := rfl
theorem lookN_snoc (es : List (Nat × Nat)) (k v q : Nat) (hn : lookN es k = none) : lookN (es ++ [(k, v)]) q = if q = k then some v else lookN es q := by
  unfold lookN at *
  rw [List.find?_append]
  by_cases h : q = k
  · subst h
    rw [if_pos rfl]
    cases hf : es.find? (fun x => x.1 == q) with
    | none => simp
    | some y => rw [hf] at hn; cases hn
  · rw [if_neg h]
    have : (k == q) = false := by simpa using fun e => h e.symm
    cases hf : es.find? (fun x => x.1 == q) <;> simp [this]
theorem lookN_none {es : List (Nat × Nat)} {k : Nat} (h : lookN es k = none) : k ∉ es.map (·.1) := by
  unfold lookN at h
  intro hm
  obtain ⟨x, hx, rfl⟩ := List.mem_map.1 hm
  rw [Option.map_eq_none_iff, List.find?_eq_none] at h
  exact h x hx (by simp)
theorem lookN_some {es : List (Nat × Nat)} {k v : Nat} (h : lookN es k = some v) : k ∈ es.map (·.1) := by
  unfold lookN at h
  rw [Option.map_eq_some_iff] at h
  obtain ⟨x, hx, _⟩ := h
  have h1 := List.find?_some hx
  have h2 := List.mem_of_find?_eq_some hx
  exact List.mem_map.2 ⟨x, h2, by simpa using h1⟩
theorem lookN_mem {es : List (Nat × Nat)} {k : Nat} (h : k ∈ es.map (·.1)) : ∃ v, lookN es k = some v := by
  cases hl : lookN es k with
  | none => exact absurd h (lookN_none hl)
  | some v => exact ⟨v, rfl⟩

/-- What is left when a key is struck out. -/
def without (es : List (Nat × Nat)) (k : Nat) : List (Nat × Nat) := es.eraseP fun x => x.1 == k
theorem without_nodup {es : List (Nat × Nat)} (h : (es.map (·.1)).Nodup) (k : Nat) : ((without es k).map (·.1)).Nodup := ((List.eraseP_sublist.map _).nodup h)
theorem lookN_without {es : List (Nat × Nat)} (h : (es.map (·.1)).Nodup) (k q : Nat) : lookN (without es k) q = if q = k then none else lookN es q := by
  induction es with
  | nil => simp [without, lookN]
  | cons x es ih =>
    simp only [List.map_cons, List.nodup_cons] at h
    by_cases hx : x.1 = k
    · have e : without (x :: es) k = es := by simp [without, hx]
      rw [e]
      by_cases hq : q = k
      · rw [if_pos hq, hq]
        cases hl : lookN es k with
        | none => rfl
        | some v => exact absurd (lookN_some hl) (hx ▸ h.1)
      · rw [if_neg hq]
        unfold lookN
        have : (x.1 == q) = false := by rw [hx]; simpa using fun e => hq e.symm
        simp [this]
    · have e : without (x :: es) k = x :: without es k := by simp [without, hx]
      rw [e]
      have := ih h.2
      by_cases hxq : x.1 = q
      · have hq : ¬ q = k := fun e => hx (hxq.trans e)
        rw [if_neg hq]
        simp [lookN, hxq]
      · have h5 : (x.1 == q) = false := by simpa using hxq
        simp only [lookN, List.find?_cons, h5] at this ⊢
        exact this

theorem findNow_at (k : Nat) : ∀ (l : List MapEntry) (es : List (Nat × Nat)) (i : Nat), l.map (fun e => (e.key, e.val)) = (bV es).map (fun x => (Value.int .u64 (x.1 : Nat), x.2)) →
    (lookN es k = none ∧ without es k = es ∧ Instr.findNow (.int .u64) (.int .u64 k) l i = some none) ∨ ∃ j v, Instr.findNow (.int .u64) (.int .u64 k) l i = some (some (i + j, v)) ∧ j < l.length ∧ (l.eraseIdx j).map (fun e => (e.key, e.val)) = (bV (without es k)).map (fun x => (Value.int .u64 (x.1 : Nat), x.2))
  | [], [], _, _ => .inl (by simp [Instr.findNow, lookN, without])
  | [], _ :: _, _, h => by cases h
  | _ :: _, [], _, h => by cases h
  | e :: l, x :: es, i, h => by
    simp only [bV, List.map_cons, List.cons.injEq, Prod.mk.injEq] at h
    obtain ⟨⟨h1, h2⟩, h3⟩ := h
    by_cases hk : x.1 = k
    · refine .inr ⟨0, e.val, ?_, by simp, ?_⟩
      · simp [Instr.findNow, Instr.sameNow, h1, hk]
      · have e1 : without (x :: es) k = es := by simp [without, hk]
        rw [e1, List.eraseIdx_cons_zero]
        exact h3
    · have h4 : ((k : Int) == (x.1 : Int)) = false := by simp; omega
      have h5 : (x.1 == k) = false := by simpa using hk
      have e1 : without (x :: es) k = x :: without es k := by simp [without, h5]
      rcases findNow_at k l es (i + 1) h3 with ⟨g1, g2, g3⟩ | ⟨j, v, g1, g2, g3⟩
      · left
        refine ⟨?_, by rw [e1, g2], ?_⟩
        · simp only [lookN, List.find?_cons, h5] at g1 ⊢
          exact g1
        · simp only [Instr.findNow, Instr.sameNow, h1, if_true, h4, g3]
      · right
        refine ⟨j + 1, v, ?_, by simpa using g2, ?_⟩
        · simp only [Instr.findNow, Instr.sameNow, h1, if_true, h4, g1]
          congr 3
          omega
        · rw [e1, List.eraseIdx_cons_succ]
          simp only [List.map_cons, h1, h2, bV] at g3 ⊢
          rw [g3]

section
variable {P : Program} {w w' : World} {g t kt et : Nat} {es : List (Nat × Nat)}
theorem MapB.made (w : World) : MapB (w.alloc (.map #[] 0)) w.heap.size [] := MapOf.made w
theorem MapB.chg {S : Nat → Prop} (h : MapB w g es) (hc : Chg S w w') (hs : ¬ S g) : MapB w' g es := MapOf.chg h hc hs
theorem MapB.lt (h : MapB w g es) : g < w.heap.size := MapOf.lt h
theorem MapB.drew (h : MapB w g es) : MapB w.drew g es := h
theorem MapB.grown {row : Option Nat} (h : MapB w g es) (hg : w.grownBy w' row) (hr : row ≠ some g) : MapB w' g es := by
  obtain ⟨l, c, h1, h2⟩ := h
  exact ⟨l, c, (hg.block g (Array.getElem?_eq_some_iff.1 h1).1 (fun e => hr e.symm)).trans h1, h2⟩

theorem run_lookupB (ht : P.underlying t = some (.map kt et)) (hk : P.underlying kt = some (.int .u64)) (hz : (zeroValue et).run P w = .ok (.int .u8 0) w) (h : MapB w g es) (k : Nat) :
    (Instr.lookup t (.map (some g)) (.int .u64 k) true).run P w = .ok (.tuple #[.int .u8 (((lookN es k).getD 0 : Nat) : Int), .bool (lookN es k).isSome]) w := by
  rw [run_lookup_ok ht hk h k hz, look_bV]
  cases lookN es k <;> rfl
theorem run_updateB (ht : P.underlying t = some (.map kt et)) (hk : P.underlying kt = some (.int .u64)) (h : MapB w g es) (k v : Nat) (hn : lookN es k = none) :
    ∃ w', (Instr.mapUpdate t (.map (some g)) (.int .u64 k) (.int .u8 (v : Int))).run P w = .ok () w' ∧ MapB w' g (es ++ [(k, v)]) ∧ Chg (· = g) w w' ∧ w'.heap.size = w.heap.size := by
  obtain ⟨l, c, h1, h2⟩ := h
  obtain ⟨j, hj⟩ := findNow_look k l.toList (bV es) 0 h2
  rw [look_bV, hn] at hj
  refine ⟨{ w with heap := w.heap.setIfInBounds g (.map (l.push { key := .int .u64 k, val := .int .u8 (v : Int), born := c }) (c + 1)) }, ?_, ⟨_, _, (heap_set h1).1, by simp [h2, bV]⟩, ⟨rfl, rfl, rfl, by simp, fun r _ hr => (heap_set h1).2 r hr⟩, by simp⟩
  simp only [Instr.mapUpdate, Sem.run_bind, run_underlying ht, Result.andThen_ok, MapKept.run_getObj_map h1, run_checkKey hk (show IsKey (.int .u64) (.int .u64 (k : Int)) from rfl), run_findKey hk hj, Option.map_none, MapKept.run_setObj_map _ h1]
theorem run_deleteB (ht : P.underlying t = some (.map kt et)) (hk : P.underlying kt = some (.int .u64)) (h : MapB w g es) (k : Nat) (ty : TypeId) :
    ∃ w', (Builtin.delete_ #[t, kt] ty #[.map (some g), .int .u64 (k : Int)]).run P w = .ok (.tuple #[]) w' ∧ MapB w' g (without es k) ∧ Chg (· = g) w w' ∧ w'.heap.size = w.heap.size := by
  obtain ⟨l, c, h1, h2⟩ := h
  rcases findNow_at k l.toList es 0 h2 with ⟨g1, g2, g3⟩ | ⟨j, v, g1, g2, g3⟩
  · refine ⟨{ w with heap := w.heap.setIfInBounds g (.map l c) }, ?_, ⟨_, _, (heap_set h1).1, by rw [g2]; exact h2⟩, ⟨rfl, rfl, rfl, by simp, fun r _ hr => (heap_set h1).2 r hr⟩, by simp⟩
    simp [Builtin.delete_, run_underlying ht, MapKept.run_getObj_map h1, run_checkKey hk (show IsKey (.int .u64) (.int .u64 (k : Int)) from rfl), run_findKey hk g3, MapKept.run_setObj_map _ h1, Result.andThen]
  · have hjs : j < l.size := by simpa using g2
    have hsub : (l.eraseIdxIfInBounds j).toList = l.toList.eraseIdx j := by
      unfold Array.eraseIdxIfInBounds
      rw [dif_pos hjs]
      simp
    rw [Nat.zero_add] at g1
    refine ⟨{ w with heap := w.heap.setIfInBounds g (.map (l.eraseIdxIfInBounds j) c) }, ?_, ⟨_, _, (heap_set h1).1, by rw [hsub]; exact g3⟩, ⟨rfl, rfl, rfl, by simp, fun r _ hr => (heap_set h1).2 r hr⟩, by simp⟩
    simp [Builtin.delete_, run_underlying ht, MapKept.run_getObj_map h1, run_checkKey hk (show IsKey (.int .u64) (.int .u64 (k : Int)) from rfl), run_findKey hk g1, MapKept.run_setObj_map _ h1, Result.andThen]
theorem run_lenB (ht : P.underlying t = some (.map kt et)) (h : MapB w g es) (ty : TypeId) : (Builtin.len_ #[t] ty #[.map (some g)]).run P w = .ok (.int .i64 (es.length : Int)) w := by
  obtain ⟨l, c, h1, h2⟩ := h
  have e : l.size = es.length := by
    have := congrArg List.length h2
    simpa [bV] using this
  simp [Builtin.len_, run_underlying ht, MapKept.run_getObj_map h1, Result.andThen, e, goInt]
end

section
variable {P : Program} {ops : Array Oper} {rest : List Oper} {o : Oper} {a : Act} {w : World} {Q : Exit → Act → World → Prop} {g t kt et : Nat} {es : List (Nat × Nat)}
/-- 'm[k] = v', k a new key. -/
theorem wpList_updateB {m kx x : Operand} (ho : o.op = .mapUpdate t m kx x) (hw : Region.wanted o (yielded ops a.tmps) = true) (k v : Nat) (hm : a.eval m = .map (some g)) (hkx : a.eval kx = .int .u64 (k : Int)) (hx : a.eval x = .int .u8 (v : Int))
    (ht : P.underlying t = some (.map kt et)) (hk : P.underlying kt = some (.int .u64)) (h : MapB w g es) (hnew : lookN es k = none)
    (hn : ∀ w', MapB w' g (es ++ [(k, v)]) → Chg (· = g) w w' → w'.heap.size = w.heap.size → wpList P ops Q rest (a.put o.dst undef) w') : wpList P ops Q (o :: rest) a w := by
  refine BigFrame.wpList_want hw fun K hK' => ?_
  obtain ⟨w', hr, h1, h2, h3⟩ := run_updateB (P := P) ht hk h k v hnew
  unfold Oper.wp execOp
  simp only [ho, hm, hkx, hx, hr, Sem.run_bind, Sem.run_pure, Result.andThen_ok]
  exact hK' _ _ (hn w' h1 h2 h3)
/-- 'v, ok := m[k]'. -/
theorem wpList_lookupB {m kx : Operand} (ho : o.op = .lookup t m kx true) (hw : Region.wanted o (yielded ops a.tmps) = true) (k : Nat) (hm : a.eval m = .map (some g)) (hkx : a.eval kx = .int .u64 (k : Int))
    (ht : P.underlying t = some (.map kt et)) (hk : P.underlying kt = some (.int .u64)) (hz : (zeroValue et).run P w = .ok (.int .u8 0) w) (h : MapB w g es)
    (hn : wpList P ops Q rest (a.put o.dst (.tuple #[.int .u8 (((lookN es k).getD 0 : Nat) : Int), .bool (lookN es k).isSome])) w) : wpList P ops Q (o :: rest) a w := by
  refine BigFrame.wpList_want hw fun K hK' => ?_
  have hr := run_lookupB (P := P) ht hk hz h k
  unfold Oper.wp execOp
  simp only [ho, hm, hkx, hr, Sem.run_bind, Sem.run_pure, Result.andThen_ok]
  exact hK' _ _ hn
theorem wpListIn_lookupB {F : Fence} {n : Nat} {m kx : Operand} (ho : o.op = .lookup t m kx true) (hw : Region.wanted o (yielded ops a.tmps) = true) (k : Nat) (hm : a.eval m = .map (some g)) (hkx : a.eval kx = .int .u64 (k : Int))
    (ht : P.underlying t = some (.map kt et)) (hk : P.underlying kt = some (.int .u64)) (hz : (zeroValue et).run P w = .ok (.int .u8 0) w) (h : MapB w g es)
    (hn : wpListIn F n P ops Q rest (a.put o.dst (.tuple #[.int .u8 (((lookN es k).getD 0 : Nat) : Int), .bool (lookN es k).isSome])) w) : wpListIn F n P ops Q (o :: rest) a w := by
  refine BigFrame.wpListIn_want hw fun K hK' => ?_
  have hr := run_lookupB (P := P) ht hk hz h k
  refine ⟨fun f hf => by simp [Oper.about, ho] at hf, ?_⟩
  rw [Oper.semAt_eq _ _ _ (by simp [ho])]
  unfold execOp
  simp only [ho, hm, hkx, hr, Sem.run_bind, Sem.run_pure, Result.andThen_ok]
  exact hK' _ _ hn
theorem wpListIn_updateB {F : Fence} {n : Nat} {m kx x : Operand} (ho : o.op = .mapUpdate t m kx x) (hw : Region.wanted o (yielded ops a.tmps) = true) (k v : Nat) (hm : a.eval m = .map (some g)) (hkx : a.eval kx = .int .u64 (k : Int)) (hx : a.eval x = .int .u8 (v : Int))
    (ht : P.underlying t = some (.map kt et)) (hk : P.underlying kt = some (.int .u64)) (h : MapB w g es) (hnew : lookN es k = none)
    (hn : ∀ w', MapB w' g (es ++ [(k, v)]) → Chg (· = g) w w' → w'.heap.size = w.heap.size → wpListIn F n P ops Q rest (a.put o.dst undef) w') : wpListIn F n P ops Q (o :: rest) a w := by
  refine BigFrame.wpListIn_want hw fun K hK' => ?_
  obtain ⟨w', hr, h1, h2, h3⟩ := run_updateB (P := P) ht hk h k v hnew
  refine ⟨fun f hf => by simp [Oper.about, ho] at hf, ?_⟩
  rw [Oper.semAt_eq _ _ _ (by simp [ho])]
  unfold execOp
  simp only [ho, hm, hkx, hx, hr, Sem.run_bind, Sem.run_pure, Result.andThen_ok]
  exact hK' _ _ (hn w' h1 h2 h3)
/-- 'len(m)'. -/
theorem wpList_lenB (m : Operand) (ho : o.op = Op.call { callee := Callee.builtin Builtin.len, args := #[m], argTypes := #[t] }) (hw : Region.wanted o (yielded ops a.tmps) = true) (hm : a.eval m = .map (some g))
    (ht : P.underlying t = some (.map kt et)) (h : MapB w g es)
    (hn : wpList P ops Q rest (a.put o.dst (.int .i64 (es.length : Int))) w) : wpList P ops Q (o :: rest) a w := by
  refine BigFrame.wpList_want hw fun K hK' => ?_
  have hr := run_lenB (P := P) ht h o.type
  unfold Oper.wp
  simp [execOp, ho, resolve, invoke, builtin, hm, hr, Result.andThen]
  exact hK' _ _ hn
/-- 'delete(m, k)', in a round of a range over a function. -/
theorem wpListIn_deleteB {l n : Nat} (m x : Operand) (ho : o.op = Op.call { callee := Callee.builtin Builtin.delete, args := #[m, x], argTypes := #[t, kt] }) (hw : Region.wanted o (yielded ops a.tmps) = true) (k : Nat) (hm : a.eval m = .map (some g)) (hkx : a.eval x = .int .u64 (k : Int))
    (ht : P.underlying t = some (.map kt et)) (hk : P.underlying kt = some (.int .u64)) (h : MapB w g es)
    (hn : ∀ w', MapB w' g (without es k) → Chg (· = g) w w' → w'.heap.size = w.heap.size → wpListIn (Fence.wide.inRound l) n P ops Q rest (a.put o.dst (.tuple #[])) w') : wpListIn (Fence.wide.inRound l) n P ops Q (o :: rest) a w := by
  refine BigFrame.wpListIn_want hw fun K hK' => ?_
  refine wpIn_round_op (by simp [ho]) ?_
  obtain ⟨w', hr, h1, h2, h3⟩ := run_deleteB (P := P) ht hk h k o.type
  unfold Oper.wp
  simp [execOp, ho, resolve, invoke, builtin, hm, hkx, hr, Result.andThen]
  exact hK' _ _ (hn w' h1 h2 h3)
end
end Go.Proofs.Ytbmhoijdbhokaaa
