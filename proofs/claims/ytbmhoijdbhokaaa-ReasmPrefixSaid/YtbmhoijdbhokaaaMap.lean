/- Own words for a map that the call itself makes, by u64 keys, whatever its elements are: over any program. -/
import Derived.Test.YtbmhoijdbhokaaaFlat
import Derived.MapKept
import Derived.Maps.Own
import Derived.Maps.OwnOps
namespace Go.Proofs.Ytbmhoijdbhokaaa
open Go.RowKit Go.MapKept

/-- Block g is a map of these keys and elements, in the order in which they were laid. -/
def MapOf (w : World) (g : Nat) (es : List (Nat × Value)) : Prop :=
  ∃ (l : Array MapEntry) (clock : Nat), w.heap[g]? = some (.map l clock) ∧ l.toList.map (fun e => (e.key, e.val)) = es.map fun x => (Value.int .u64 (x.1 : Nat), x.2)
def look (es : List (Nat × Value)) (k : Nat) : Option Value := (es.find? fun x => x.1 == k).map (·.2)

section
variable {P : Program} {w : World} {g t kt et : Nat} {es : List (Nat × Value)}

theorem findNow_look (k : Nat) : ∀ (l : List MapEntry) (es : List (Nat × Value)) (i : Nat), l.map (fun e => (e.key, e.val)) = es.map (fun x => (Value.int .u64 (x.1 : Nat), x.2)) →
    ∃ j, Instr.findNow (.int .u64) (.int .u64 k) l i = some ((look es k).map fun v => (j, v))
  | [], [], _, _ => ⟨0, by simp [Instr.findNow, look]⟩
  | [], _ :: _, _, h => by cases h
  | _ :: _, [], _, h => by cases h
  | e :: l, x :: es, i, h => by
    simp only [List.map_cons, List.cons.injEq, Prod.mk.injEq] at h
    obtain ⟨⟨h1, h2⟩, h3⟩ := h
    obtain ⟨j, hj⟩ := findNow_look k l es (i + 1) h3
    by_cases hk : x.1 = k
    · refine ⟨i, ?_⟩
      simp [Instr.findNow, Instr.sameNow, h1, hk, look, h2]
    · refine ⟨j, ?_⟩
      have h4 : ((k : Int) == (x.1 : Int)) = false := by simp; omega
      have h5 : (x.1 == k) = false := by simpa using hk
      simp only [Instr.findNow, Instr.sameNow, h1, if_true, h4, hj, look, List.find?_cons, h5]

theorem MapOf.made (w : World) : MapOf (w.alloc (.map #[] 0)) w.heap.size [] := ⟨#[], 0, heap_alloc_new w _, rfl⟩
theorem MapOf.chg {w' : World} {S : Nat → Prop} (h : MapOf w g es) (hc : Chg S w w') (hs : ¬ S g) : MapOf w' g es := by
  obtain ⟨l, c, h1, h2⟩ := h
  exact ⟨l, c, (hc.block g (Array.getElem?_eq_some_iff.1 h1).1 hs).trans h1, h2⟩
theorem MapOf.lt (h : MapOf w g es) : g < w.heap.size := by
  obtain ⟨l, c, h1, h2⟩ := h
  exact (Array.getElem?_eq_some_iff.1 h1).1

theorem run_mapUpdate_new (ht : P.underlying t = some (.map kt et)) (hk : P.underlying kt = some (.int .u64)) (h : MapOf w g es) (k : Nat) (hnew : look es k = none) (v : Value) :
    ∃ w', (Instr.mapUpdate t (.map (some g)) (.int .u64 k) v).run P w = .ok () w' ∧ MapOf w' g (es ++ [(k, v)]) ∧ Chg (· = g) w w' := by
  obtain ⟨l, c, h1, h2⟩ := h
  obtain ⟨j, hj⟩ := findNow_look k l.toList es 0 h2
  rw [hnew] at hj
  refine ⟨{ w with heap := w.heap.setIfInBounds g (.map (l.push { key := .int .u64 k, val := v, born := c }) (c + 1)) }, ?_, ⟨_, _, (heap_set h1).1, by simp [h2]⟩, rfl, rfl, rfl, by simp, fun r _ hr => (heap_set h1).2 r hr⟩
  simp only [Instr.mapUpdate, Sem.run_bind, run_underlying ht, Result.andThen_ok, MapKept.run_getObj_map h1, run_checkKey hk (show IsKey (.int .u64) (.int .u64 (k : Int)) from rfl), run_findKey hk hj, Option.map_none, MapKept.run_setObj_map _ h1]

theorem run_lookup_ok (ht : P.underlying t = some (.map kt et)) (hk : P.underlying kt = some (.int .u64)) (h : MapOf w g es) (k : Nat) {z : Value} (hz : (zeroValue et).run P w = .ok z w) :
    (Instr.lookup t (.map (some g)) (.int .u64 k) true).run P w = .ok (.tuple #[(look es k).getD z, .bool (look es k).isSome]) w := by
  obtain ⟨l, c, h1, h2⟩ := h
  obtain ⟨j, hj⟩ := findNow_look k l.toList es 0 h2
  cases hl : look es k with
  | none =>
    rw [hl] at hj
    simp [Instr.lookup, Sem.run_bind, run_underlying ht, Result.andThen_ok, MapKept.run_getObj_map h1, run_checkKey hk (show IsKey (.int .u64) (.int .u64 (k : Int)) from rfl), run_findKey hk hj, hz]
  | some v =>
    rw [hl] at hj
    simp [Instr.lookup, Sem.run_bind, run_underlying ht, Result.andThen_ok, MapKept.run_getObj_map h1, run_checkKey hk (show IsKey (.int .u64) (.int .u64 (k : Int)) from rfl), run_findKey hk hj]

variable {ops : Array Oper} {rest : List Oper} {o : Oper} {a : Act} {Q : Exit → Act → World → Prop}
/-- A new key is laid into a map that is being made. -/
theorem wpList_insert {m kx x : Operand} (ho : o.op = .insert t m kx x) (hw : Region.wanted o (yielded ops a.tmps) = true) {k : Nat} {v : Value} (hm : a.eval m = .map (some g)) (hkx : a.eval kx = .int .u64 (k : Nat)) (hx : a.eval x = v)
    (ht : P.underlying t = some (.map kt et)) (hk : P.underlying kt = some (.int .u64)) (h : MapOf w g es) (hnew : look es k = none)
    (hn : ∀ w', MapOf w' g (es ++ [(k, v)]) → Chg (· = g) w w' → wpList P ops Q rest (a.put o.dst undef) w') : wpList P ops Q (o :: rest) a w := by
  refine BigFrame.wpList_want hw fun K hK => ?_
  obtain ⟨w', hr, h1, h2⟩ := run_mapUpdate_new (P := P) ht hk h k hnew v
  unfold Oper.wp execOp
  simp only [ho, hm, hkx, hx, hr, Sem.run_bind, Sem.run_pure, Result.andThen_ok]
  exact hK _ _ (hn w' h1 h2)
/-- 'v, ok := m[k]'. -/
theorem wpList_lookup {m kx : Operand} (ho : o.op = .lookup t m kx true) (hw : Region.wanted o (yielded ops a.tmps) = true) {k : Nat} (hm : a.eval m = .map (some g)) (hkx : a.eval kx = .int .u64 (k : Nat))
    (ht : P.underlying t = some (.map kt et)) (hk : P.underlying kt = some (.int .u64)) (h : MapOf w g es) {z : Value} (hz : (zeroValue et).run P w = .ok z w)
    (hn : wpList P ops Q rest (a.put o.dst (.tuple #[(look es k).getD z, .bool (look es k).isSome])) w) : wpList P ops Q (o :: rest) a w := by
  refine BigFrame.wpList_want hw fun K hK => ?_
  have hr := run_lookup_ok (P := P) ht hk h k hz
  unfold Oper.wp execOp
  simp only [ho, hm, hkx, hr, Sem.run_bind, Sem.run_pure, Result.andThen_ok]
  exact hK _ _ hn
end
end Go.Proofs.Ytbmhoijdbhokaaa
