/- Own words for a map by structs of two ints, whose elements are ints: over any program whose key type has its law. No program is named here. -/
import Derived.Test.YtblpgpolhibfgaaFlat
import Derived.Test.YtblpgpolhibfgaaV12Math
import Derived.MapKept
import Derived.DeepKeys5
import Derived.Carry
import Derived.Maps.Keyed
namespace Go.Proofs.Ytblpgpolhibfgaa
open Go.RowKit Go.MapKept

def kV (k : Int × Int) : Value := .agg [Value.int .i64 k.1, .int .i64 k.2].toArray
def KOk (k : Int × Int) : Prop := (Lit.int .i64 k.1).wf = true ∧ (Lit.int .i64 k.2).wf = true
theorem kV_inj {a b : Int × Int} (h : kV a = kV b) : a = b := by
  obtain ⟨a1, a2⟩ := a
  obtain ⟨b1, b2⟩ := b
  simp [kV] at h
  simp [h]

structure Ents (l : List MapEntry) (M : Int × Int → Option Nat) : Prop where
  ok : ∀ x ∈ l, ∃ k v, x.key = kV k ∧ KOk k ∧ x.val = .int .i64 ((v : Nat) : Int) ∧ M k = some v
  all : ∀ k v, M k = some v → ∃ x ∈ l, x.key = kV k
  nod : (l.map (·.key)).Nodup

/-- Block g is a map that leads from whose to places. -/
def MapIn (w : World) (g : Nat) (M : Int × Int → Option Nat) : Prop := ∃ (l : Array MapEntry) (clock : Nat), w.heap[g]? = some (.map l clock) ∧ Ents l.toList M

/-- What is asked of the key's type. -/
structure KeyS (P : Program) (kt : TypeId) : Prop where
  law : WideMaps.KeyLaw P kt
  lit : ∀ k, KOk k → ∃ l, keyOf P kt (kV k) = some l

section
variable {P : Program} {w w' : World} {g t kt et : Nat} {M : Int × Int → Option Nat}

theorem MapIn.lt (h : MapIn w g M) : g < w.heap.size := by
  obtain ⟨l, c, h1, _⟩ := h
  exact (Array.getElem?_eq_some_iff.1 h1).1
theorem MapIn.chg {S : Nat → Prop} (h : MapIn w g M) (hc : Chg S w w') (hs : ¬ S g) : MapIn w' g M := by
  obtain ⟨l, c, h1, h2⟩ := h
  exact ⟨l, c, (hc.block g (Array.getElem?_eq_some_iff.1 h1).1 hs).trans h1, h2⟩
theorem MapIn.made (w : World) : MapIn (w.alloc (.map #[] 0)) w.heap.size (fun _ => none) := ⟨#[], 0, heap_alloc_new w _, by simp, by simp, by simp⟩
theorem MapIn.drew (h : MapIn w g M) : MapIn w.drew g M := h
theorem MapIn.keys {l : List MapEntry} (hK : KeyS P kt) (h : Ents l M) : ∀ e ∈ l, ∃ q, keyOf P kt e.key = some q := fun e he => by
  obtain ⟨k, v, h1, h2, _⟩ := h.ok e he
  rw [h1]
  exact hK.lit k h2

theorem run_lookup_S (ht : P.underlying t = some (.map kt et)) (hK : KeyS P kt) (h : MapIn w g M) {k : Int × Int} (hk : KOk k) (hz : (zeroValue et).run P w = .ok (.int .i64 0) w) :
    (Instr.lookup t (.map (some g)) (kV k) true).run P w = .ok (.tuple #[.int .i64 (((M k).getD 0 : Nat) : Int), .bool (M k).isSome]) w := by
  obtain ⟨l, c, h1, h2⟩ := h
  obtain ⟨q, hq⟩ := hK.lit k hk
  rcases hK.law.find w hq l.toList (MapIn.keys hK h2) with ⟨f1, f2⟩ | ⟨j, e0, f1, f2, f3⟩
  · have hM : M k = none := by
      cases hM : M k with
      | none => rfl
      | some v =>
        obtain ⟨x, hx, hkx⟩ := h2.all k v hM
        exact absurd hkx (f2 x hx)
    rw [hM]
    simp [Instr.lookup, run_underlying ht, MapKept.run_getObj_map h1, hK.law.check w _ hq, f1, hz, Result.andThen]
  · obtain ⟨k', v, g1, _, g3, g4⟩ := h2.ok e0 (List.mem_of_getElem? f2)
    have := kV_inj (g1.symm.trans f3)
    subst this
    rw [g4]
    simp [Instr.lookup, run_underlying ht, MapKept.run_getObj_map h1, hK.law.check w _ hq, f1, g3, Result.andThen]

theorem run_update_S (ht : P.underlying t = some (.map kt et)) (hK : KeyS P kt) (h : MapIn w g M) {k : Int × Int} (hk : KOk k) (v : Nat) :
    ∃ w', (Instr.mapUpdate t (.map (some g)) (kV k) (.int .i64 (v : Int))).run P w = .ok () w' ∧ MapIn w' g (upd M k (some v)) ∧ Chg (· = g) w w' ∧ w'.heap.size = w.heap.size := by
  obtain ⟨l, c, h1, h2⟩ := h
  obtain ⟨q, hq⟩ := hK.lit k hk
  rcases hK.law.find w hq l.toList (MapIn.keys hK h2) with ⟨f1, f2⟩ | ⟨j, e0, f1, f2, f3⟩
  · refine ⟨{ w with heap := w.heap.setIfInBounds g (.map (l.push { key := kV k, val := .int .i64 (v : Int), born := c }) (c + 1)) }, ?_, ⟨_, _, (heap_set h1).1, ?_⟩, ⟨rfl, rfl, rfl, by simp, fun r _ hr => (heap_set h1).2 r hr⟩, by simp⟩
    · simp [Instr.mapUpdate, run_underlying ht, MapKept.run_getObj_map h1, hK.law.check w false hq, f1, MapKept.run_setObj_map _ h1, Result.andThen]
    · constructor
      · intro x hx
        simp only [Array.toList_push, List.mem_append, List.mem_singleton] at hx
        rcases hx with hx | rfl
        · obtain ⟨k', v', g1, g2, g3, g4⟩ := h2.ok x hx
          refine ⟨k', v', g1, g2, g3, ?_⟩
          rw [upd_far _ _ _ _ (fun e => f2 x hx (by rw [g1, e]))]
          exact g4
        · exact ⟨k, v, rfl, hk, rfl, upd_self _ _ _⟩
      · intro k' v' hM
        by_cases he : k' = k
        · subst he
          exact ⟨{ key := kV k', val := .int .i64 (v : Int), born := c }, by simp, rfl⟩
        · rw [upd_far _ _ _ _ he] at hM
          obtain ⟨x, hx, hkx⟩ := h2.all k' v' hM
          exact ⟨x, by simp only [Array.toList_push, List.mem_append]; exact Or.inl hx, hkx⟩
      · simp only [Array.toList_push, List.map_append, List.map_cons, List.map_nil]
        refine List.nodup_append.2 ⟨h2.nod, by simp, ?_⟩
        intro a ha b hb
        simp only [List.mem_singleton] at hb
        subst hb
        obtain ⟨x, hx, rfl⟩ := List.mem_map.1 ha
        exact f2 x hx
  · have hjl : j < l.toList.length := (List.getElem?_eq_some_iff.1 f2).1
    have hjs : j < l.size := by simpa using hjl
    have hl : l[j]? = some e0 := by rw [← Array.getElem?_toList]; exact f2
    have hkeys : (l.modify j fun e => { e with key := kV k, val := .int .i64 (v : Int) }).toList.map (·.key) = l.toList.map (·.key) := modify_keys j _ (fun e he => by rw [hl] at he; cases he; exact f3.symm)
    have hget : ∀ i, (l.modify j fun e => { e with key := kV k, val := .int .i64 (v : Int) }).toList[i]? = if j = i then (l.toList[i]?).map (fun e => { e with key := kV k, val := .int .i64 (v : Int) }) else l.toList[i]? := by
      intro i
      simp only [Array.getElem?_toList, Array.getElem?_modify]
    refine ⟨{ w with heap := w.heap.setIfInBounds g (.map (l.modify j fun e => { e with key := kV k, val := .int .i64 (v : Int) }) c) }, ?_, ⟨_, _, (heap_set h1).1, ?_⟩, ⟨rfl, rfl, rfl, by simp, fun r _ hr => (heap_set h1).2 r hr⟩, by simp⟩
    · simp [Instr.mapUpdate, run_underlying ht, MapKept.run_getObj_map h1, hK.law.check w false hq, f1, hl, f3, hK.law.stays w hq, MapKept.run_setObj_map _ h1, Result.andThen]
    · constructor
      · intro x hx
        obtain ⟨i, hi⟩ := List.mem_iff_getElem?.1 hx
        rw [hget i] at hi
        by_cases hji : j = i
        · subst hji
          rw [if_pos rfl, f2] at hi
          cases hi
          exact ⟨k, v, rfl, hk, rfl, upd_self _ _ _⟩
        · rw [if_neg hji] at hi
          obtain ⟨k', v', g1, g2, g3, g4⟩ := h2.ok x (List.mem_of_getElem? hi)
          refine ⟨k', v', g1, g2, g3, ?_⟩
          rw [upd_far _ _ _ _ (fun e => ?_)]
          · exact g4
          · have a1 : (l.toList.map (·.key))[i]? = some (kV k) := by rw [List.getElem?_map, hi]; simp [g1, e]
            have a2 : (l.toList.map (·.key))[j]? = some (kV k) := by rw [List.getElem?_map, f2]; simp [f3]
            have a3 : i < (l.toList.map (·.key)).length := (List.getElem?_eq_some_iff.1 a1).1
            have a4 : j < (l.toList.map (·.key)).length := (List.getElem?_eq_some_iff.1 a2).1
            rw [List.getElem?_eq_getElem a3] at a1
            rw [List.getElem?_eq_getElem a4] at a2
            exact hji ((List.getElem_inj h2.nod).1 ((Option.some.inj a2).trans (Option.some.inj a1).symm))
      · intro k' v' hM
        have hx : ∃ x ∈ l.toList, x.key = kV k' := by
          by_cases he : k' = k
          · subst he; exact ⟨e0, List.mem_of_getElem? f2, f3⟩
          · rw [upd_far _ _ _ _ he] at hM
            exact h2.all k' v' hM
        obtain ⟨x, hx, hkx⟩ := hx
        have : kV k' ∈ (l.modify j fun e => { e with key := kV k, val := .int .i64 (v : Int) }).toList.map (·.key) := by rw [hkeys]; exact List.mem_map.2 ⟨x, hx, hkx⟩
        obtain ⟨y, hy, hky⟩ := List.mem_map.1 this
        exact ⟨y, hy, hky⟩
      · rw [hkeys]; exact h2.nod

theorem run_delete_S (ht : P.underlying t = some (.map kt et)) (hK : KeyS P kt) (h : MapIn w g M) {k : Int × Int} (hk : KOk k) (ty : TypeId) :
    ∃ w', (Builtin.delete_ #[t, kt] ty #[.map (some g), kV k]).run P w = .ok (.tuple #[]) w' ∧ MapIn w' g (upd M k none) ∧ Chg (· = g) w w' ∧ w'.heap.size = w.heap.size := by
  obtain ⟨l, c, h1, h2⟩ := h
  obtain ⟨q, hq⟩ := hK.lit k hk
  rcases hK.law.find w hq l.toList (MapIn.keys hK h2) with ⟨f1, f2⟩ | ⟨j, e0, f1, f2, f3⟩
  · refine ⟨{ w with heap := w.heap.setIfInBounds g (.map l c) }, ?_, ⟨_, _, (heap_set h1).1, ?_⟩, ⟨rfl, rfl, rfl, by simp, fun r _ hr => (heap_set h1).2 r hr⟩, by simp⟩
    · simp [Builtin.delete_, run_underlying ht, MapKept.run_getObj_map h1, hK.law.check w _ hq, f1, MapKept.run_setObj_map _ h1, Result.andThen]
    · refine ⟨fun x hx => ?_, fun k' v' hM => ?_, h2.nod⟩
      · obtain ⟨k', v', g1, g2, g3, g4⟩ := h2.ok x hx
        exact ⟨k', v', g1, g2, g3, by rw [upd_far _ _ _ _ (fun e => f2 x hx (by rw [g1, e]))]; exact g4⟩
      · by_cases he : k' = k
        · subst he; rw [upd_self] at hM; cases hM
        · rw [upd_far _ _ _ _ he] at hM
          exact h2.all k' v' hM
  · have hjl : j < l.toList.length := (List.getElem?_eq_some_iff.1 f2).1
    have hjs : j < l.size := by simpa using hjl
    have hsub : (l.eraseIdxIfInBounds j).toList = l.toList.eraseIdx j := by
      unfold Array.eraseIdxIfInBounds
      rw [dif_pos hjs]
      simp
    have hmemk : ∀ i x, l.toList[i]? = some x → x.key = kV k → i = j := fun i x hi hx => by
      have a1 : (l.toList.map (·.key))[i]? = some (kV k) := by rw [List.getElem?_map, hi]; simp [hx]
      have a2 : (l.toList.map (·.key))[j]? = some (kV k) := by rw [List.getElem?_map, f2]; simp [f3]
      have a3 : i < (l.toList.map (·.key)).length := (List.getElem?_eq_some_iff.1 a1).1
      have a4 : j < (l.toList.map (·.key)).length := (List.getElem?_eq_some_iff.1 a2).1
      rw [List.getElem?_eq_getElem a3] at a1
      rw [List.getElem?_eq_getElem a4] at a2
      exact (List.getElem_inj h2.nod).1 ((Option.some.inj a1).trans (Option.some.inj a2).symm)
    refine ⟨{ w with heap := w.heap.setIfInBounds g (.map (l.eraseIdxIfInBounds j) c) }, ?_, ⟨_, _, (heap_set h1).1, ?_⟩, ⟨rfl, rfl, rfl, by simp, fun r _ hr => (heap_set h1).2 r hr⟩, by simp⟩
    · simp [Builtin.delete_, run_underlying ht, MapKept.run_getObj_map h1, hK.law.check w _ hq, f1, MapKept.run_setObj_map _ h1, Result.andThen]
    · rw [hsub]
      refine ⟨fun x hx => ?_, fun k' v' hM => ?_, ?_⟩
      · rw [List.mem_eraseIdx_iff_getElem?] at hx
        obtain ⟨i, hi, hx⟩ := hx
        obtain ⟨k', v', g1, g2, g3, g4⟩ := h2.ok x (List.mem_of_getElem? hx)
        exact ⟨k', v', g1, g2, g3, by rw [upd_far _ _ _ _ (fun e => hi (hmemk i x hx (by rw [g1, e])))]; exact g4⟩
      · by_cases he : k' = k
        · subst he; rw [upd_self] at hM; cases hM
        · rw [upd_far _ _ _ _ he] at hM
          obtain ⟨x, hx, hkx⟩ := h2.all k' v' hM
          obtain ⟨i, hi⟩ := List.mem_iff_getElem?.1 hx
          refine ⟨x, ?_, hkx⟩
          rw [List.mem_eraseIdx_iff_getElem?]
          refine ⟨i, fun e => ?_, hi⟩
          subst e
          rw [f2] at hi
          cases hi
          exact he (kV_inj (hkx.symm.trans f3))
      · exact ((List.eraseIdx_sublist _ _).map _).nodup h2.nod

theorem run_lookup_nilS (ht : P.underlying t = some (.map kt et)) (hK : KeyS P kt) {k : Int × Int} (hk : KOk k) (hz : (zeroValue et).run P w = .ok (.int .i64 0) w) :
    (Instr.lookup t (.map none) (kV k) true).run P w = .ok (.tuple #[.int .i64 0, .bool false]) w := by
  obtain ⟨q, hq⟩ := hK.lit k hk
  rcases hK.law.find w hq [] (by simp) with ⟨f1, _⟩ | ⟨j, e0, _, f2, _⟩
  · simp [Instr.lookup, run_underlying ht, hK.law.check w _ hq, f1, hz, Result.andThen]
  · simp at f2
end

section
variable {P : Program} {ops : Array Oper} {rest : List Oper} {o : Oper} {a : Act} {w : World} {Q : Exit → Act → World → Prop} {g t kt et : Nat} {M : Int × Int → Option Nat}
/-- 'm[k] = v'. -/
theorem wpList_update_S {m kx x : Operand} (ho : o.op = .mapUpdate t m kx x) (hw : Region.wanted o (yielded ops a.tmps) = true) (k : Int × Int) (v : Nat) (hm : a.eval m = .map (some g)) (hkx : a.eval kx = kV k) (hx : a.eval x = .int .i64 (v : Int))
    (ht : P.underlying t = some (.map kt et)) (hK : KeyS P kt) (h : MapIn w g M) (hk : KOk k)
    (hn : ∀ w', MapIn w' g (upd M k (some v)) → Chg (· = g) w w' → w'.heap.size = w.heap.size → wpList P ops Q rest (a.put o.dst undef) w') : wpList P ops Q (o :: rest) a w := by
  refine BigFrame.wpList_want hw fun K hK' => ?_
  obtain ⟨w', hr, h1, h2, h3⟩ := run_update_S (P := P) ht hK h hk v
  unfold Oper.wp execOp
  simp only [ho, hm, hkx, hx, hr, Sem.run_bind, Sem.run_pure, Result.andThen_ok]
  exact hK' _ _ (hn w' h1 h2 h3)
/-- 'v, ok := m[k]'. -/
theorem wpList_lookup_S {m kx : Operand} (ho : o.op = .lookup t m kx true) (hw : Region.wanted o (yielded ops a.tmps) = true) (k : Int × Int) (hm : a.eval m = .map (some g)) (hkx : a.eval kx = kV k)
    (ht : P.underlying t = some (.map kt et)) (hK : KeyS P kt) (h : MapIn w g M) (hk : KOk k) (hz : (zeroValue et).run P w = .ok (.int .i64 0) w)
    (hn : wpList P ops Q rest (a.put o.dst (.tuple #[.int .i64 (((M k).getD 0 : Nat) : Int), .bool (M k).isSome])) w) : wpList P ops Q (o :: rest) a w := by
  refine BigFrame.wpList_want hw fun K hK' => ?_
  have hr := run_lookup_S (P := P) ht hK h hk hz
  unfold Oper.wp execOp
  simp only [ho, hm, hkx, hr, Sem.run_bind, Sem.run_pure, Result.andThen_ok]
  exact hK' _ _ hn
/-- 'v, ok := m[k]', m nil. -/
theorem wpList_lookup_nilS {m kx : Operand} (ho : o.op = .lookup t m kx true) (hw : Region.wanted o (yielded ops a.tmps) = true) (k : Int × Int) (hm : a.eval m = .map none) (hkx : a.eval kx = kV k)
    (ht : P.underlying t = some (.map kt et)) (hK : KeyS P kt) (hk : KOk k) (hz : (zeroValue et).run P w = .ok (.int .i64 0) w)
    (hn : wpList P ops Q rest (a.put o.dst (.tuple #[.int .i64 0, .bool false])) w) : wpList P ops Q (o :: rest) a w := by
  refine BigFrame.wpList_want hw fun K hK' => ?_
  have hr := run_lookup_nilS (P := P) ht hK hk hz
  unfold Oper.wp execOp
  simp only [ho, hm, hkx, hr, Sem.run_bind, Sem.run_pure, Result.andThen_ok]
  exact hK' _ _ hn
/-- 'delete(m, k)'. -/
theorem wpList_delete_S (m x : Operand) (ho : o.op = Op.call { callee := Callee.builtin Builtin.delete, args := #[m, x], argTypes := #[t, kt] }) (hw : Region.wanted o (yielded ops a.tmps) = true) (k : Int × Int) (hm : a.eval m = .map (some g)) (hkx : a.eval x = kV k)
    (ht : P.underlying t = some (.map kt et)) (hK : KeyS P kt) (h : MapIn w g M) (hk : KOk k)
    (hn : ∀ w', MapIn w' g (upd M k none) → Chg (· = g) w w' → w'.heap.size = w.heap.size → wpList P ops Q rest (a.put o.dst (.tuple #[])) w') : wpList P ops Q (o :: rest) a w := by
  refine BigFrame.wpList_want hw fun K hK' => ?_
  obtain ⟨w', hr, h1, h2, h3⟩ := run_delete_S (P := P) ht hK h hk o.type
  unfold Oper.wp
  simp [execOp, ho, resolve, invoke, builtin, hm, hkx, hr, Result.andThen]
  exact hK' _ _ (hn w' h1 h2 h3)
end
end Go.Proofs.Ytblpgpolhibfgaa
