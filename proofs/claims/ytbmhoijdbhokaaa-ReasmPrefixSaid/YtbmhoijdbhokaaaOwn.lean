/- Own words for slices of bytes that the call itself grows by append. -/
import Derived.Test.YtbmhoijdbhokaaaFresh
import Derived.Test.YtbmhoijdbhokaaaCopy
namespace Go.Proofs.Ytbmhoijdbhokaaa
open Go.RowKit

theorem View.all {w : World} {T : Nat → Prop} {g n : Nat} {e : TypeId} {cs : List Value} (h : Row w g e cs) (hn : cs.length = n) (hT : T g) : View w T (some ⟨g, 0, none⟩) n cs := by
  have hh := View.row (T := T) h (n := n) (by omega) hT
  rw [List.take_of_length_le (by omega)] at hh
  exact hh
/-- A slice of the call's own that holds just these bytes. -/
def Owned (w : World) (base : Nat) (v : Value) (l : List Nat) : Prop := w.ownsRow base 5 1 v l.length (u8s l)
theorem Owned.chg {w w' : World} {S : Nat → Prop} {base : Nat} {v : Value} {l : List Nat} (h : Owned w base v l) (hc : Chg S w w') (hs : ∀ b, base ≤ b → ¬ S b) : Owned w' base v l := own_chg h hc hs
theorem Owned.row {w : World} {g base n : Nat} {l : List Nat} (h : Row w g 5 (u8s l)) (hb : base ≤ g) (hn : l.length = n) (hm : n ≤ maxLen) : Owned w base (.slice (some ⟨g, 0, none⟩) n n) l := by
  subst hn
  exact own_of_row h hb (by simp) hm
theorem Owned.nil (w : World) (base : Nat) : Owned w base (.slice none 0 0) [] := World.ownsRow_nil _ _ _ _
theorem Owned.view {w : World} {base : Nat} {v : Value} {l : List Nat} (h : Owned w base v l) : ∃ A cap, v = .slice A l.length cap ∧ l.length ≤ cap ∧ cap ≤ maxLen ∧ View w (fun b => base ≤ b) A l.length (u8s l) := View.own h (fun _ h => h)
theorem Owned.slice {w : World} {base n cap : Nat} {A : Option Addr} {l : List Nat} (h : Owned w base (.slice A n cap) l) : n = l.length ∧ n ≤ cap ∧ View w (fun b => base ≤ b) A l.length (u8s l) := by
  obtain ⟨A', cap', e, h1, _, h3⟩ := h.view
  injection e with e1 e2 e3
  subst e1; subst e2; subst e3
  exact ⟨rfl, h1, h3⟩
theorem Owned.fresh {w : World} {base n cap : Nat} {A : Option Addr} {l : List Nat} (h : Owned w base (.slice A n cap) l) : n = l.length ∧ Fresh w base A cap l := by
  obtain ⟨h1, _, h3⟩ := h.slice
  subst h1
  exact ⟨rfl, h3, h⟩

section
variable {ops : Array Oper} {rest : List Oper} {o : Oper} {a : Act} {w w0 : World} {Q : Exit → Act → World → Prop}
theorem chg_grown {base n : Nat} {w' : World} {v : Value} {xs : List Value} {e : TypeId} (hc : Chg none_ w0 w) (hb0 : w0.heap.size ≤ base) (hown : w.ownsRow base e 1 v n xs) (hg : w.grownBy w' v.ownBlock) : Chg none_ w0 w' :=
  hc.andThen (Chg.of_grown hg) (fun b hb hs => by
    rcases hown.2 with ⟨rfl, _⟩ | ⟨g, cap, cur, rfl, hbg, _⟩
    · simp [Value.ownBlock] at hs
    · simp [Value.ownBlock] at hs; omega)
theorem wp_append_bytes {K : Act → World → Prop} (s x : Operand) (t : TypeId)
    (ho : o.op = .call { callee := .builtin .append, args := #[s, x], argTypes := #[t, t] }) (ht : Try.prog.underlying t = some (.slice 5)) {base : Nat} {v : Value} {L M : List Nat} {T : Nat → Prop} {A : Option Addr} {m c : Nat}
    (hs : a.eval s = v) (hown : Owned w base v L) (hx : a.eval x = .slice A m c) (hv : View w T A m (u8s M)) (hlen : L.length + m ≤ 1000000) (hbase : base ≤ w.heap.size) (hc0 : Chg none_ w0 w) (hb0 : w0.heap.size ≤ base)
    (k : ∀ v' w', Owned w' base v' (L ++ M) → Chg none_ w0 w' → K (a.put o.dst v') w') : Oper.wp Try.prog o a w K Q := by
  obtain ⟨i0, hi, hz0, hz1, hz2⟩ := info_parts info5
  have hm : M.length = m := by have := hv.1; simpa using this
  refine wp_append_view s x t ho 5 i0 _ 1 ht hi hz0 hz1 hz2 rfl base v L.length (u8s L) hs hown T A m c (u8s M) hx hv (u8s_one _) (by unfold maxLen; omega) (by omega) hbase fun v' w' h2 h3 _ => k v' w' ?_ (chg_grown hc0 hb0 hown h3)
  have e : u8s L ++ u8s M = u8s (L ++ M) := by simp [u8s]
  rw [e] at h2
  unfold Owned
  rw [List.length_append, hm]
  exact h2
theorem wpList_append_bytes (hgd : o.guard = none) (s x : Operand) (t : TypeId)
    (ho : o.op = .call { callee := .builtin .append, args := #[s, x], argTypes := #[t, t] }) (ht : Try.prog.underlying t = some (.slice 5)) {base : Nat} {v : Value} {L M : List Nat} {T : Nat → Prop} {A : Option Addr} {m c : Nat}
    (hs : a.eval s = v) (hown : Owned w base v L) (hx : a.eval x = .slice A m c) (hv : View w T A m (u8s M)) (hlen : L.length + m ≤ 1000000) (hbase : base ≤ w.heap.size) (hc0 : Chg none_ w0 w) (hb0 : w0.heap.size ≤ base)
    (k : ∀ v' w', Owned w' base v' (L ++ M) → Chg none_ w0 w' → wpList Try.prog ops Q rest (a.put o.dst v') w') : wpList Try.prog ops Q (o :: rest) a w :=
  wpList_plain hgd fun _ hK => wp_append_bytes s x t ho ht hs hown hx hv hlen hbase hc0 hb0 fun v' w' h1 h2 => hK _ _ (k v' w' h1 h2)
end

/-- What it owns is not turned. -/
theorem Owned.chg' {w w' : World} {S : Nat → Prop} {base : Nat} {v : Value} {l : List Nat} (h : Owned w base v l) (hc : Chg S w w') (hs : ∀ b, v.ownBlock = some b → ¬ S b) : Owned w' base v l := by
  refine ⟨h.1, ?_⟩
  rcases h.2 with h2 | ⟨g, cap, cur, h1, hb, h2, h3⟩
  · exact .inl h2
  · exact .inr ⟨g, cap, cur, h1, hb, (hc.block g (Array.getElem?_eq_some_iff.1 h2).1 (hs g (by subst h1; rfl))).trans h2, h3⟩
theorem Owned.lt {w : World} {base : Nat} {v : Value} {l : List Nat} (h : Owned w base v l) {b : Nat} (hb : v.ownBlock = some b) : b < w.heap.size ∧ base ≤ b := by
  rcases h.2 with ⟨rfl, _⟩ | ⟨g, cap, cur, rfl, hg, hh, _⟩
  · simp [Value.ownBlock] at hb
  · simp [Value.ownBlock] at hb
    subst hb
    exact ⟨(Array.getElem?_eq_some_iff.1 hh).1, hg⟩
/-- Its view, of the block that it owns alone. -/
theorem Owned.viewIn {w : World} {base : Nat} {v : Value} {l : List Nat} (h : Owned w base v l) : ∃ A cap, v = .slice A l.length cap ∧ l.length ≤ cap ∧ View w (fun b => v.ownBlock = some b) A l.length (u8s l) := by
  obtain ⟨A, cap, e, h1, _, h3⟩ := h.view
  refine ⟨A, cap, e, h1, h3.1, fun hn => ?_⟩
  obtain ⟨b, o, ha, hb, _, hc⟩ := h3.2 hn
  refine ⟨b, o, ha, hb, ?_, hc⟩
  subst e
  subst ha
  rfl
section
variable {ops : Array Oper} {rest : List Oper} {o : Oper} {a : Act} {w : World} {Q : Exit → Act → World → Prop}
theorem wpList_append_own2 (hgd : o.guard = none) (s x : Operand) (t : TypeId)
    (ho : o.op = .call { callee := .builtin .append, args := #[s, x], argTypes := #[t, t] }) (ht : Try.prog.underlying t = some (.slice 5)) {base : Nat} {v : Value} {L M : List Nat} {T : Nat → Prop} {A : Option Addr} {m c : Nat}
    (hs : a.eval s = v) (hown : Owned w base v L) (hx : a.eval x = .slice A m c) (hv : View w T A m (u8s M)) (hlen : L.length + m ≤ 1000000) (hbase : base ≤ w.heap.size)
    (k : ∀ v' w', Owned w' base v' (L ++ M) → Chg (fun b => v.ownBlock = some b) w w' → (v'.ownBlock = v.ownBlock ∨ v'.ownBlock = some w.heap.size) → wpList Try.prog ops Q rest (a.put o.dst v') w') : wpList Try.prog ops Q (o :: rest) a w :=
  wpList_plain hgd fun _ hK => by
    obtain ⟨i0, hi, hz0, hz1, hz2⟩ := info_parts info5
    have hm : M.length = m := by have := hv.1; simpa using this
    refine wp_append_view s x t ho 5 i0 _ 1 ht hi hz0 hz1 hz2 rfl base v L.length (u8s L) hs hown T A m c (u8s M) hx hv (u8s_one _) (by unfold maxLen; omega) (by omega) hbase fun v' w' h2 h3 h4 => hK _ _ (k v' w' ?_ (Chg.of_grown h3) h4)
    have e : u8s L ++ u8s M = u8s (L ++ M) := by simp [u8s]
    rw [e] at h2
    unfold Owned
    rw [List.length_append, hm]
    exact h2
end

section
variable {P : Program}
/-- s[i:j] -/
theorem run_slice_both (w : World) (t e : TypeId) (A : Option Addr) (n cap i j : Nat) (hu : P.underlying t = some (.slice e)) (hs : (P.info? e).map (·.size) = some 1) (hi : i ≤ j) (hj : j ≤ cap) :
    (Instr.slice t (.slice A n cap) (some (.int .i64 (i : Int))) (some (.int .i64 (j : Int))) none).run P w = .ok (.slice (dropA A cap i) (j - i) (cap - i)) w := by
  cases hq : P.info? e with
  | none => rw [hq] at hs; cases hs
  | some q =>
    have hsz : q.size = 1 := by simpa [hq] using hs
    simp [Instr.slice, run_underlying hu, Instr.sliceBounds, Instr.sliceBound, asIntOf, sizeOf, typeInfo, hq, hsz, hi, hj, dropA]
theorem yieldsIf_slice_both {ops : Array Oper} {S : World → Prop} {o : Oper} {a : Act} (hw : Region.wanted o (yielded ops a.tmps) = true) (t e : TypeId) (x y z : Operand) (ho : o.op = .slice t x (some y) (some z) none) (A : Option Addr) (n cap i j : Nat) (hx : a.eval x = .slice A n cap) (hy : a.eval y = .int .i64 (i : Int)) (hz : a.eval z = .int .i64 (j : Int))
    (hu : P.underlying t = some (.slice e)) (hs : (P.info? e).map (·.size) = some 1) (hi : i ≤ j) (hj : j ≤ cap) {A' : Option Addr} (hA : dropA A cap i = A') : YieldsIf P ops S o (.slice A' (j - i) (cap - i)) a :=
  .inl ⟨hw, fun w _ => by
    subst hA
    have := run_slice_both (P := P) w t e A n cap i j hu hs hi hj
    unfold execOp
    simp [ho, hx, hy, hz, Instr.sliceAt, run_underlying hu, this]⟩
end
end Go.Proofs.Ytbmhoijdbhokaaa
