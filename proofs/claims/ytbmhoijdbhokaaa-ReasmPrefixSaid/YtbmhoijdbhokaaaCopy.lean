/- Own words for copy and for s[k:], over views. No program is named here. -/
import Derived.Test.YtbmhoijdbhokaaaFlat
import Derived.Laws.CopyOwn
import Derived.Deep.RegionHeld3
namespace Go.Proofs.Ytbmhoijdbhokaaa
open Go.RowKit

/-- Where s[k:] lies. -/
def dropA (A : Option Addr) (cap k : Nat) : Option Addr := if cap = k then A else A.map (·.add k)
theorem View.dropA {w : World} {T : Nat → Prop} {A : Option Addr} {n k cap : Nat} {xs : List Value} (h : View w T A n xs) (hc : n ≤ cap) : View w T (dropA A cap k) (n - k) (xs.drop k) := by
  unfold Proofs.Ytbmhoijdbhokaaa.dropA
  split
  · have h0 : n - k = 0 := by omega
    have hx : xs.drop k = [] := List.drop_of_length_le (by rw [h.1]; omega)
    rw [h0, hx]
    exact View.none_ _ _ _
  · exact h.drop

section
variable {P : Program}
theorem run_slice_low (w : World) (t e : TypeId) (A : Option Addr) (n cap k : Nat) (hu : P.underlying t = some (.slice e)) (hs : (P.info? e).map (·.size) = some 1) (hk : k ≤ n) :
    (Instr.slice t (.slice A n cap) (some (.int .i64 (k : Int))) none none).run P w = .ok (.slice (dropA A cap k) (n - k) (cap - k)) w := by
  cases hq : P.info? e with
  | none => rw [hq] at hs; cases hs
  | some i =>
    have hsz : i.size = 1 := by simpa [hq] using hs
    have hb : (0 : Int) ≤ (k : Int) ∧ (k : Int) ≤ (n : Int) := by omega
    simp [Instr.slice, run_underlying hu, Instr.sliceBounds, Instr.sliceBound, asIntOf, sizeOf, typeInfo, hq, hsz, hk, dropA]

theorem yieldsIf_slice_low {ops : Array Oper} {S : World → Prop} {o : Oper} {a : Act} (hw : Region.wanted o (yielded ops a.tmps) = true) (t e : TypeId) (x y : Operand) (ho : o.op = .slice t x (some y) none none) (A : Option Addr) (n cap k : Nat) (hx : a.eval x = .slice A n cap) (hy : a.eval y = .int .i64 (k : Int))
    (hu : P.underlying t = some (.slice e)) (hs : (P.info? e).map (·.size) = some 1) (hk : k ≤ n) {A' : Option Addr} (hA : dropA A cap k = A') : YieldsIf P ops S o (.slice A' (n - k) (cap - k)) a :=
  .inl ⟨hw, fun w _ => by
    subst hA
    have := run_slice_low (P := P) w t e A n cap k hu hs hk
    unfold execOp
    simp [ho, hx, hy, Instr.sliceAt, run_underlying hu, this]⟩

theorem wpList_slice_low {ops : Array Oper} {rest : List Oper} {o : Oper} {a : Act} {w : World} {Q : Exit → Act → World → Prop} (hw : Region.wanted o (yielded ops a.tmps) = true) (t e : TypeId) (x y : Operand) (ho : o.op = .slice t x (some y) none none) (A : Option Addr) (n cap k : Nat) (hx : a.eval x = .slice A n cap) (hy : a.eval y = .int .i64 (k : Int))
    (hu : P.underlying t = some (.slice e)) (hs : (P.info? e).map (·.size) = some 1) (hk : k ≤ n) (h : wpList P ops Q rest (a.put o.dst (.slice (dropA A cap k) (n - k) (cap - k))) w) : wpList P ops Q (o :: rest) a w :=
  BigFrame.wpList_want hw fun _ hK => by
    have := run_slice_low (P := P) w t e A n cap k hu hs hk
    have k' := hK _ _ h
    unfold Oper.wp execOp
    simp [ho, hx, hy, Instr.sliceAt, run_underlying hu, this]
    exact k'

theorem yieldsIf_arrayAt {ops : Array Oper} {S : World → Prop} {o : Oper} {a : Act} (hw : Region.wanted o (yielded ops a.tmps) = true) (arr e : TypeId) (n : Nat) (x : Operand) (ho : o.op = .sliceToArrayPointer arr x) (A : Option Addr) (m c : Nat) (hx : a.eval x = .slice A m c)
    (hu : P.underlying arr = some (.array n e)) (hm : n ≤ m) : YieldsIf P ops S o (.pointer A) a :=
  .inl ⟨hw, fun w _ => by
    have hn : ¬ m < n := by omega
    unfold execOp
    simp [ho, hx, Instr.arrayAt, run_underlying hu, hn]⟩

/-- copy, of whatever is in view into a row known whole: as many go over as both have. -/
theorem run_copy_min {w : World} {dT sT ty elem : TypeId} {g n c m c' : Nat} {A : Option Addr} {T : Nat → Prop} {e : TypeId} {pre ys post xs : List Value} {D : Option Addr} (hD : 0 < min m n → D = some ⟨g, pre.length, none⟩) (hu : P.underlying dT = some (.slice elem)) (hsz : (P.info? elem).map (·.size) = some 1)
    (hrow : Row w g e (pre ++ ys ++ post)) (hn : ys.length = n) (hv : View w T A m xs) (h1 : ∀ v ∈ xs, v.oneCell' = true) :
    ∃ w', (Builtin.copy_ #[dT, sT] ty #[.slice D n c, .slice A m c']).run P w = .ok (goInt ((min m n : Nat) : Int)) w' ∧ Row w' g e (pre ++ (xs.take n ++ ys.drop m) ++ post) ∧ Chg (· = g) w w' := by
  rcases Nat.eq_zero_or_pos (min m n) with h0 | h0
  · refine ⟨w, by rw [h0]; exact run_copy_none w _ _ _ _ _ _ _ _ _ _ hu hsz (by simpa using h0), ?_, Chg.refl _ _⟩
    have : xs.take n ++ ys.drop m = ys := by
      rcases (by omega : m = 0 ∨ n = 0) with h | h
      · subst h
        have : xs = [] := List.eq_nil_of_length_eq_zero hv.1
        subst this; simp
      · have : ys = [] := List.eq_nil_of_length_eq_zero (hn.trans h)
        subst this; subst h; simp
    rw [this]; exact hrow
  · have hDe := hD h0
    subst hDe
    obtain ⟨b, o, rfl, _, _, hc⟩ := hv.2 (by omega)
    have hl := hv.1
    have htl : (xs.take n).length = min m n := by rw [List.length_take, hl]; omega
    refine ⟨w.setCells g pre.length (xs.take n), ?_, ?_, (Chg.refl (· = g) w).setCells _ pre.length (fun _ => rfl)⟩
    · rw [← htl]
      refine run_copy_cells w dT sT ty elem g pre.length n c ⟨b, o, none⟩ m c' (xs.take n) hu hsz htl (fun j v hj => ?_) (fun j hj => ?_) (fun j hj => hrow.frozen _) (fun v hv => h1 v (List.mem_of_mem_take hv))
      · have hjl : j < min m n := by
          rcases Nat.lt_or_ge j (xs.take n).length with h | h
          · omega
          · rw [List.getElem?_eq_none h] at hj; cases hj
        rw [List.getElem?_take, if_pos (by omega)] at hj
        rw [addr_add, hc j (by omega)]; exact hj
      · rw [hrow.cell]; simp; omega
    · have hd : ys.drop (min m n) = ys.drop m := by
        rcases Nat.le_total m n with h | h
        · rw [Nat.min_eq_left h]
        · rw [Nat.min_eq_right h, List.drop_of_length_le (by omega), List.drop_of_length_le (by omega)]
      have hr2 : Row w g e (pre ++ ys.take (min m n) ++ (ys.drop (min m n) ++ post)) := by
        have e : pre ++ ys.take (min m n) ++ (ys.drop (min m n) ++ post) = pre ++ ys ++ post := by
          rw [List.append_assoc, List.append_assoc, ← List.append_assoc (ys.take _), List.take_append_drop]
        rw [e]; exact hrow
      have := hr2.storeMid (xs := xs.take n) (by rw [htl, List.length_take]; omega)
      rw [hd] at this
      simpa [List.append_assoc] using this

theorem wp_copy_min {o : Oper} {a : Act} {w : World} {K : Act → World → Prop} {Q : Exit → Act → World → Prop} (d s : Operand) (dT sT : TypeId)
    (ho : o.op = .call { callee := .builtin .copy, args := #[d, s], argTypes := #[dT, sT] }) {elem : TypeId} {g n c m c' : Nat} {A D : Option Addr} {T : Nat → Prop} {e : TypeId} {pre ys post xs : List Value}
    (hd : a.eval d = .slice D n c) (hs : a.eval s = .slice A m c') (hD : 0 < min m n → D = some ⟨g, pre.length, none⟩) (hu : P.underlying dT = some (.slice elem)) (hsz : (P.info? elem).map (·.size) = some 1)
    (hrow : Row w g e (pre ++ ys ++ post)) (hn : ys.length = n) (hv : View w T A m xs) (h1 : ∀ v ∈ xs, v.oneCell' = true)
    (h : ∀ w', Row w' g e (pre ++ (xs.take n ++ ys.drop m) ++ post) → Chg (· = g) w w' → K (a.put o.dst (goInt ((min m n : Nat) : Int))) w') : Oper.wp P o a w K Q := by
  obtain ⟨w', hr, h2, h3⟩ := run_copy_min (P := P) (sT := sT) (ty := o.type) (c := c) (c' := c') hD hu hsz hrow hn hv h1
  unfold Oper.wp execOp
  simp only [ho, resolve, invoke, builtin, Sem.run_bind, Sem.run_pure, Result.andThen_ok, List.map_toArray, List.map_cons, List.map_nil, hd, hs, hr]
  exact h w' h2 h3

theorem wpList_copy_min {ops : Array Oper} {rest : List Oper} {o : Oper} {a : Act} {w : World} {Q : Exit → Act → World → Prop} (hgd : o.guard = none) (d s : Operand) (dT sT : TypeId)
    (ho : o.op = .call { callee := .builtin .copy, args := #[d, s], argTypes := #[dT, sT] }) {elem : TypeId} {g n c m c' : Nat} {A D : Option Addr} {T : Nat → Prop} {e : TypeId} {pre ys post xs : List Value}
    (hd : a.eval d = .slice D n c) (hs : a.eval s = .slice A m c') (hD : 0 < min m n → D = some ⟨g, pre.length, none⟩) (hu : P.underlying dT = some (.slice elem)) (hsz : (P.info? elem).map (·.size) = some 1)
    (hrow : Row w g e (pre ++ ys ++ post)) (hn : ys.length = n) (hv : View w T A m xs) (h1 : ∀ v ∈ xs, v.oneCell' = true)
    (h : ∀ w', Row w' g e (pre ++ (xs.take n ++ ys.drop m) ++ post) → Chg (· = g) w w' → wpList P ops Q rest (a.put o.dst (goInt ((min m n : Nat) : Int))) w') : wpList P ops Q (o :: rest) a w :=
  wpList_plain hgd fun _ hK => wp_copy_min d s dT sT ho hd hs hD hu hsz hrow hn hv h1 fun w' h2 h3 => hK _ _ (h w' h2 h3)
end
end Go.Proofs.Ytbmhoijdbhokaaa
