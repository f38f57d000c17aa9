/- Own words, over any program: slices of structs, whatever an element's cells; what the call owns of them, and what is put behind it. -/
import Derived.Test.YtbmhoijdbhokaaaBase
import Derived.Test.YtbmhoijdbhokaaaFlat
import Derived.Maps.AppendAt
namespace Go.Proofs.Ytbmhoijdbhokaaa
open Go.RowKit

section
variable {X : Type} {c : X → List Value} {s : Nat}
theorem fm_len (hc : ∀ x, (c x).length = s) (l : List X) : (l.flatMap c).length = l.length * s := by
  induction l with
  | nil => simp
  | cons a l ih => rw [List.flatMap_cons, List.length_append, ih, hc, List.length_cons, Nat.add_mul]; omega
theorem fm_get (hc : ∀ x, (c x).length = s) (d : X) (l : List X) (i j : Nat) (h : i < l.length) (hj : j < s) : (l.flatMap c)[i * s + j]? = (c (l.getD i d))[j]? := by
  induction l generalizing i with
  | nil => cases h
  | cons a l ih =>
    cases i with
    | zero =>
      simp only [List.flatMap_cons, List.getD_cons_zero, Nat.zero_mul, Nat.zero_add]
      rw [List.getElem?_append_left (by rw [hc]; exact hj)]
    | succ i =>
      have := ih i (by simpa using h)
      simp only [List.flatMap_cons, List.getD_cons_succ] at this ⊢
      rw [List.getElem?_append_right (by rw [hc, Nat.add_mul]; omega), hc, show (i + 1) * s + j - s = i * s + j by rw [Nat.add_mul]; omega]
      exact this
theorem getD_mem {l : List X} {i : Nat} (d : X) (h : i < l.length) : l.getD i d ∈ l := by
  rw [List.getD_eq_getElem?_getD, List.getElem?_eq_getElem h]
  exact List.getElem_mem h
theorem getD_lt {l : List X} {i : Nat} (d : X) (h : i < l.length) : l.getD i d = l[i] := by
  rw [List.getD_eq_getElem?_getD, List.getElem?_eq_getElem h]
  rfl
theorem take_snoc {l : List X} {i : Nat} (d : X) (h : i < l.length) : l.take (i + 1) = l.take i ++ [l.getD i d] := by
  rw [List.take_add_one, List.getElem?_eq_getElem h, getD_lt d h]
  rfl
/-- An element of a slice in view. -/
theorem View.elemAt {w : World} {T : Nat → Prop} {A : Option Addr} {l : List X} {k : Nat} (hc : ∀ x, (c x).length = s) (hs : 0 < s) (d : X) (h : View w T A (l.length * s) (l.flatMap c)) (hk : k < l.length) :
    ∃ b o, A = some ⟨b, o, none⟩ ∧ b < w.heap.size ∧ T b ∧ ∀ i, i < l.length → w.rangeAt b (o + i * s) (c (l.getD i d)) := by
  obtain ⟨b, o, h1, h2, h3, h4⟩ := h.2 (Nat.mul_pos (by omega) hs)
  refine ⟨b, o, h1, h2, h3, fun i hi j v hv => ?_⟩
  have hj : j < s := by
    have := (List.getElem?_eq_some_iff.1 hv).1
    rwa [hc] at this
  have hlt : i * s + j < l.length * s := by
    have := Nat.mul_le_mul_right s (show i + 1 ≤ l.length from hi)
    rw [Nat.add_mul] at this
    omega
  rw [Nat.add_assoc, h4 _ hlt, fm_get hc d l i j hi hj]
  exact hv
theorem rangeAt_keep {w w' : World} {S : Nat → Prop} {b o : Nat} {cs : List Value} (h : w.rangeAt b o cs) (hc : Chg S w w') (hb : b < w.heap.size) (hs : ¬ S b) : w'.rangeAt b o cs := fun j v hv => (hc.cell _ hb hs).trans (h j v hv)

/-- A slice of the call's own that holds these. -/
def OwnN (c : X → List Value) (e : TypeId) (s : Nat) (w : World) (base : Nat) (v : Value) (L : List X) : Prop := w.ownsRow base e s v L.length (L.flatMap c)
variable {e : TypeId} {w w' : World} {base : Nat} {v : Value} {L : List X}
theorem OwnN.nil (c : X → List Value) (e : TypeId) (s : Nat) (w : World) (base : Nat) : OwnN c e s w base (.slice none 0 0) [] := World.ownsRow_nil _ _ _ _
theorem OwnN.chg {S : Nat → Prop} (h : OwnN c e s w base v L) (hc : Chg S w w') (hs : ∀ b, v.ownBlock = some b → ¬ S b) : OwnN c e s w' base v L := by
  refine ⟨h.1, ?_⟩
  rcases h.2 with h1 | ⟨g, cap, cur, h1, h2, h3, h4⟩
  · exact .inl h1
  · exact .inr ⟨g, cap, cur, h1, h2, (hc.block g (Array.getElem?_eq_some_iff.1 h3).1 (hs g (by rw [h1]; rfl))).trans h3, h4⟩
theorem OwnN.past {base' : Nat} (h : OwnN c e s w base v L) (hb : base' ≤ base) : OwnN c e s w base' v L := by
  refine ⟨h.1, ?_⟩
  rcases h.2 with h1 | ⟨g, cap, cur, h1, h2, h3⟩
  · exact .inl h1
  · exact .inr ⟨g, cap, cur, h1, by omega, h3⟩
theorem OwnN.lt (h : OwnN c e s w base v L) {b : Nat} (hb : v.ownBlock = some b) : base ≤ b ∧ b < w.heap.size := World.ownsRow.lt h b hb
theorem OwnN.view (h : OwnN c e s w base v L) : ∃ A cap, v = .slice A L.length cap ∧ L.length ≤ cap ∧ cap ≤ maxLen ∧ View w (fun b => v.ownBlock = some b) A (L.length * s) (L.flatMap c) := by
  rcases h.2 with ⟨rfl, hn⟩ | ⟨g, cap, cur, rfl, hb, hh, hnc, hm, hs, ht⟩
  · have hL : L = [] := List.eq_nil_of_length_eq_zero hn
    subst hL
    exact ⟨none, 0, rfl, Nat.le_refl _, Nat.zero_le _, by simpa using View.none_ w _ _⟩
  · refine ⟨_, _, rfl, hnc, hm, h.1, fun hn => ⟨g, 0, rfl, (Array.getElem?_eq_some_iff.1 hh).1, rfl, fun j hj => ?_⟩⟩
    rw [cell_of_row w g (0 + j) _ _ _ hh, ← ht, List.getElem?_take, if_pos hj]
    simp
theorem OwnN.lit1 {g : Nat} {x : X} (h : Row w g e (c x)) (hc : (c x).length = s) (hb : base ≤ g) : OwnN c e s w base (.slice (some ⟨g, 0, none⟩) 1 1) [x] := by
  refine ⟨by simp [hc], .inr ⟨g, 1, (c x).toArray, rfl, hb, h, Nat.le_refl _, by decide, by simp [hc], ?_⟩⟩
  simp
  rw [List.take_of_length_le (by omega)]

section
variable {P : Program} {ops : Array Oper} {rest : List Oper} {o : Oper} {a : Act} {K : Act → World → Prop} {Q : Exit → Act → World → Prop}
theorem run_append_N (w : World) (t ty : TypeId) {i : TypeInfo} {z : Value} (ht : P.underlying t = some (.slice e)) (hi : P.info? e = some i ∧ i.zero = some z ∧ i.size = s ∧ i.bytes ≤ 4096) (hzs : z.cells.size = s) (hpos : 0 < s)
    (h1c : ∀ x, ∀ u ∈ c x, u.oneCell' = true) (hc : ∀ x, (c x).length = s) {M : List X} {T : Nat → Prop} {A : Option Addr} {m cp : Nat} (hown : OwnN c e s w base v L) (hv : View w T A (m * s) (M.flatMap c)) (hlen : L.length + m ≤ 1000000) (hbase : base ≤ w.heap.size) :
    ∃ v' w', (Builtin.append_ #[t, t] ty #[v, .slice A m cp]).run P w = .ok v' w' ∧ OwnN c e s w' base v' (L ++ M) ∧ w.grownBy w' v.ownBlock ∧ ∀ b, v'.ownBlock = some b → v.ownBlock = some b ∨ w.heap.size ≤ b := by
  have hM : M.length = m := by
    have h := hv.1
    rw [fm_len hc] at h
    exact Nat.eq_of_mul_eq_mul_right hpos h
  have hby : (L.length + m) * i.bytes ≤ 140737488355328 := Nat.le_trans (Nat.mul_le_mul hlen hi.2.2.2) (by decide)
  rcases A with _ | ad
  · obtain ⟨hm, hx⟩ := hv.nil_len
    have hm0 : m = 0 := by
      rcases Nat.mul_eq_zero.1 hm with h | h
      · exact h
      · omega
    have hM0 : M = [] := List.eq_nil_of_length_eq_zero (by omega)
    subst hm0; subst hM0
    refine ⟨v, w, ?_, by rw [List.append_nil]; exact hown, ⟨rfl, rfl, rfl, Nat.le_refl _, fun _ _ _ => rfl⟩, fun _ h => .inl h⟩
    rcases hown.2 with ⟨rfl, hz⟩ | ⟨g, cap, cur, rfl, _, _, hnc, _⟩
    · simp [Builtin.append_, run_underlying ht, sizeOf, typeInfo, hi.1, Builtin.lenOf, Builtin.firstCells]
    · simp [Builtin.append_, run_underlying ht, sizeOf, typeInfo, hi.1, Builtin.lenOf, Builtin.firstCells, hnc, storeCells]
  · have hone : ∀ u ∈ M.flatMap c, u.oneCell' = true := fun u hu => by
      obtain ⟨x, _, hx⟩ := List.mem_flatMap.1 hu
      exact h1c x u hx
    obtain ⟨v', w', hr, h2, h3, _, h5⟩ := run_append_own_at (P := P) w base t ty e i z s i.bytes ht hi.1 hi.2.1 hi.2.2.1 rfl hzs hpos v L.length (L.flatMap c) hown ad m cp (M.flatMap c) hv.1 hv.cells hone (by unfold maxLen; omega) hby hbase
    refine ⟨v', w', hr, ?_, h3, fun b hb => ?_⟩
    · unfold OwnN
      rw [List.length_append, hM, List.flatMap_append]
      exact h2
    · rcases h5 with h5 | h5
      · exact .inl (h5 ▸ hb)
      · rw [h5] at hb; injection hb with hb; exact .inr (by omega)
theorem wp_append_N (x y : Operand) (t : TypeId) (ho : o.op = .call { callee := .builtin .append, args := #[x, y], argTypes := #[t, t] })
    {i : TypeInfo} {z : Value} (ht : P.underlying t = some (.slice e)) (hi : P.info? e = some i ∧ i.zero = some z ∧ i.size = s ∧ i.bytes ≤ 4096) (hzs : z.cells.size = s) (hpos : 0 < s)
    (h1c : ∀ x, ∀ u ∈ c x, u.oneCell' = true) (hc : ∀ x, (c x).length = s) {M : List X} {T : Nat → Prop} {A : Option Addr} {m cp : Nat} (hx : a.eval x = v) (hown : OwnN c e s w base v L) (hy : a.eval y = .slice A m cp) (hv : View w T A (m * s) (M.flatMap c))
    (hlen : L.length + m ≤ 1000000) (hbase : base ≤ w.heap.size)
    (k : ∀ v' w', OwnN c e s w' base v' (L ++ M) → Chg (fun b => v.ownBlock = some b) w w' → (∀ b, v'.ownBlock = some b → v.ownBlock = some b ∨ w.heap.size ≤ b) → K (a.put o.dst v') w') : Oper.wp P o a w K Q := by
  obtain ⟨v', w', hr, h2, h3, h4⟩ := run_append_N (P := P) w t o.type ht hi hzs hpos h1c hc (cp := cp) hown hv hlen hbase
  unfold Oper.wp execOp
  simp only [ho, resolve, invoke, builtin, Sem.run_bind, Sem.run_pure, Result.andThen_ok, List.map_toArray, List.map_cons, List.map_nil, hx, hy, hr]
  exact k v' w' h2 (Chg.of_grown h3) h4
theorem wpList_append_N (hgd : o.guard = none) (x y : Operand) (t : TypeId) (ho : o.op = .call { callee := .builtin .append, args := #[x, y], argTypes := #[t, t] })
    {i : TypeInfo} {z : Value} (ht : P.underlying t = some (.slice e)) (hi : P.info? e = some i ∧ i.zero = some z ∧ i.size = s ∧ i.bytes ≤ 4096) (hzs : z.cells.size = s) (hpos : 0 < s)
    (h1c : ∀ x, ∀ u ∈ c x, u.oneCell' = true) (hc : ∀ x, (c x).length = s) {M : List X} {T : Nat → Prop} {A : Option Addr} {m cp : Nat} (hx : a.eval x = v) (hown : OwnN c e s w base v L) (hy : a.eval y = .slice A m cp) (hv : View w T A (m * s) (M.flatMap c))
    (hlen : L.length + m ≤ 1000000) (hbase : base ≤ w.heap.size)
    (k : ∀ v' w', OwnN c e s w' base v' (L ++ M) → Chg (fun b => v.ownBlock = some b) w w' → (∀ b, v'.ownBlock = some b → v.ownBlock = some b ∨ w.heap.size ≤ b) → wpList P ops Q rest (a.put o.dst v') w') : wpList P ops Q (o :: rest) a w :=
  wpList_plain hgd fun _ hK => wp_append_N x y t ho ht hi hzs hpos h1c hc hx hown hy hv hlen hbase fun v' w' h2 h3 h4 => hK _ _ (k v' w' h2 h3 h4)
/-- Any operation that lays one block. -/
theorem wpList_newN {f : Nat → Value} {cs : List Value} (hw : Region.wanted o (yielded ops a.tmps) = true) (hrun : ∀ w, (execOp a.eval o).run P w = .ok (.value (f w.heap.size)) (w.alloc (.cells cs.toArray e)))
    (k : ∀ w', Row w' w.heap.size e cs → Chg none_ w w' → w'.heap.size = w.heap.size + 1 → wpList P ops Q rest (a.put o.dst (f w.heap.size)) w') : wpList P ops Q (o :: rest) a w :=
  BigFrame.wpList_want hw fun _ hK => by
    unfold Oper.wp
    rw [hrun]
    exact hK _ _ (k _ (Row.new w e cs) ((Chg.refl _ _).alloc _) (by simp))
end
end
end Go.Proofs.Ytbmhoijdbhokaaa
