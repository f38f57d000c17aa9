/- Own words for arrays: filled from the front, read by value, sliced. No program is named here. -/
import Derived.Test.YtblpgpolhibfgaaAloc
import Derived.Test.YtblpgpolhibfgaaBytes
import Derived.Deep.RegionHeld3
namespace Go.Proofs.Ytblpgpolhibfgaa
open Go.RowKit

/-- An array of n numbers, the first k of which are laid. -/
def fillN (f : Nat → Nat) (n k : Nat) : List Nat := (List.range k).map f ++ List.replicate (n - k) 0
theorem fillN_len (f : Nat → Nat) (n k : Nat) (h : k ≤ n) : (fillN f n k).length = n := by simp [fillN]; omega
theorem fillN_0 (f : Nat → Nat) (n : Nat) : fillN f n 0 = List.replicate n 0 := by simp [fillN]
theorem fillN_all (f : Nat → Nat) (n : Nat) : fillN f n n = (List.range n).map f := by simp [fillN]
theorem fillN_get (f : Nat → Nat) (n k i : Nat) (h : i < k) : (fillN f n k).getD i 0 = f i := by
  rw [fillN, List.getD_eq_getElem?_getD, List.getElem?_append_left (by simpa using h)]
  simp [h]
theorem fillN_set (f : Nat → Nat) (n k : Nat) (h : k < n) : (fillN f n k).set k (f k) = fillN f n (k + 1) := by
  unfold fillN
  rw [List.set_append_right _ _ (by simp), List.range_succ, List.map_append, List.append_assoc, show n - k = (n - (k + 1)) + 1 from by omega, List.replicate_succ]
  simp
theorem map_range_get (f : Nat → Nat) (n i : Nat) (h : i < n) : ((List.range n).map f).getD i 0 = f i := by simp [List.getD_eq_getElem?_getD, h]
theorem list_eta (l : List Nat) (n : Nat) (h : l.length = n) : (List.range n).map (fun i => l.getD i 0) = l := by
  apply List.ext_getElem (by simp [h])
  intro i h1 h2
  simp [List.getD_eq_getElem?_getD, h2]

section
variable {P : Program} {ops : Array Oper} {rest : List Oper} {o : Oper} {a : Act} {w : World} {Q : Exit → Act → World → Prop}
/-- An operation that comes to one value in every world. -/
theorem wpList_val (hw : Region.wanted o (yielded ops a.tmps) = true) (v : Value) (hrun : ∀ w, (execOp a.eval o).run P w = .ok (.value v) w) (k : wpList P ops Q rest (a.put o.dst v) w) : wpList P ops Q (o :: rest) a w :=
  BigFrame.wpList_want hw fun _ hK => by
    unfold Oper.wp
    rw [hrun w]
    exact hK _ _ k
theorem run_index_u8s (w : World) (t e : TypeId) (n : Nat) (l : List Nat) (i : Nat) (hu : P.underlying t = some (.array n e)) (he : (P.info? e).map (·.size) = some 1) (hd : (P.underlying e).map (·.isRow) = some false) (hl : l.length = n) (hi : i < n) :
    (Instr.index t (.agg (u8s l).toArray) (.int .i64 (i : Int))).run P w = .ok (.int .u8 ((l.getD i 0 : Nat) : Int)) w := by
  cases hq : P.info? e with
  | none => rw [hq] at he; cases he
  | some j =>
    have hsz : j.size = 1 := by simpa [hq] using he
    cases hue : P.underlying e with
    | none => rw [hue] at hd; cases hd
    | some d =>
      have hr : d.isRow = false := by simpa [hue] using hd
      have hb : (0 : Int) ≤ (i : Int) ∧ (i : Int) < (n : Int) := by omega
      have hg : (u8s l)[i]? = some (.int .u8 ((l.getD i 0 : Nat) : Int)) := by
        rw [u8s_get, List.getElem?_eq_getElem (by omega)]
        simp [List.getD_eq_getElem?_getD, hl, hi]
      have hne : (match (some d) with | some d => d.isRow | none => false) = false := hr
      cases d <;> first | (cases hr; done) | simp [Instr.index, run_underlying hu, asIntOf, hb, sizeOf, typeInfo, hq, hsz, part, isAgg, run_underlying hue, hg, hi]
theorem wpList_index (hw : Region.wanted o (yielded ops a.tmps) = true) (t e : TypeId) (x y : Operand) (ho : o.op = .index t x y) (n : Nat) (l : List Nat) (i : Nat) (hx : a.eval x = .agg (u8s l).toArray) (hy : a.eval y = .int .i64 (i : Int)) (hu : P.underlying t = some (.array n e)) (he : (P.info? e).map (·.size) = some 1) (hd : (P.underlying e).map (·.isRow) = some false) (hl : l.length = n) (hi : i < n)
    (k : wpList P ops Q rest (a.put o.dst (.int .u8 ((l.getD i 0 : Nat) : Int))) w) : wpList P ops Q (o :: rest) a w :=
  wpList_val hw _ (fun w => by
    have := run_index_u8s (P := P) w t e n l i hu he hd hl hi
    unfold execOp
    simp [ho, hx, hy, this]) k
/-- x[k:] and x[:k] of an array at an address. -/
theorem run_slice_arr_low (w : World) (t e : TypeId) (n s k : Nat) (b off : Nat) (hu : P.underlying t = some (.array n e)) (hs : (P.info? e).map (·.size) = some s) (hk : k < n) :
    (Instr.sliceAt t (.pointer (some ⟨b, off, none⟩)) (some (.int .i64 (k : Int))) none none).run P w = .ok (.slice (some ⟨b, off + k * s, none⟩) (n - k) (n - k)) w := by
  cases hq : P.info? e with
  | none => rw [hq] at hs; cases hs
  | some i =>
    have hsz : i.size = s := by simpa [hq] using hs
    have hb : (0 : Int) ≤ (k : Int) ∧ (k : Int) ≤ (n : Int) := by omega
    have hkn : k ≤ n := by omega
    have hne : ¬ n = k := by omega
    simp [Instr.sliceAt, run_underlying hu, Instr.sureAddr, Instr.sliceBounds, Instr.sliceBound, asIntOf, sizeOf, typeInfo, hq, hsz, hkn, hne, addr_add]
theorem run_slice_arr_high (w : World) (t e : TypeId) (n s k : Nat) (b off : Nat) (hu : P.underlying t = some (.array n e)) (hs : (P.info? e).map (·.size) = some s) (hk : k ≤ n) :
    (Instr.sliceAt t (.pointer (some ⟨b, off, none⟩)) none (some (.int .i64 (k : Int))) none).run P w = .ok (.slice (some ⟨b, off, none⟩) k n) w := by
  cases hq : P.info? e with
  | none => rw [hq] at hs; cases hs
  | some i =>
    have hb : (0 : Int) ≤ (k : Int) ∧ (k : Int) ≤ (n : Int) := by omega
    simp [Instr.sliceAt, run_underlying hu, Instr.sureAddr, Instr.sliceBounds, Instr.sliceBound, asIntOf, sizeOf, typeInfo, hq, hk, addr_add]
theorem wpList_slice_arr_low (hw : Region.wanted o (yielded ops a.tmps) = true) (t e : TypeId) (x y : Operand) (ho : o.op = .slice t x (some y) none none) (n s k b off : Nat) (hx : a.eval x = .pointer (some ⟨b, off, none⟩)) (hy : a.eval y = .int .i64 (k : Int)) (hu : P.underlying t = some (.array n e)) (hs : (P.info? e).map (·.size) = some s) (hk : k < n)
    (h : wpList P ops Q rest (a.put o.dst (.slice (some ⟨b, off + k * s, none⟩) (n - k) (n - k))) w) : wpList P ops Q (o :: rest) a w :=
  wpList_val hw _ (fun w => by
    have := run_slice_arr_low (P := P) w t e n s k b off hu hs hk
    unfold execOp
    simp [ho, hx, hy, this]) h
theorem wpList_slice_arr_high (hw : Region.wanted o (yielded ops a.tmps) = true) (t e : TypeId) (x y : Operand) (ho : o.op = .slice t x none (some y) none) (n s k b off : Nat) (hx : a.eval x = .pointer (some ⟨b, off, none⟩)) (hy : a.eval y = .int .i64 (k : Int)) (hu : P.underlying t = some (.array n e)) (hs : (P.info? e).map (·.size) = some s) (hk : k ≤ n)
    (h : wpList P ops Q rest (a.put o.dst (.slice (some ⟨b, off, none⟩) k n)) w) : wpList P ops Q (o :: rest) a w :=
  wpList_val hw _ (fun w => by
    have := run_slice_arr_high (P := P) w t e n s k b off hu hs hk
    unfold execOp
    simp [ho, hx, hy, this]) h
theorem wpList_arrayAt (hw : Region.wanted o (yielded ops a.tmps) = true) (arr e : TypeId) (n : Nat) (x : Operand) (ho : o.op = .sliceToArrayPointer arr x) (A : Option Addr) (m c : Nat) (hx : a.eval x = .slice A m c)
    (hu : P.underlying arr = some (.array n e)) (hm : n ≤ m) (h : wpList P ops Q rest (a.put o.dst (.pointer A)) w) : wpList P ops Q (o :: rest) a w :=
  wpList_val hw _ (fun w => by
    have hn : ¬ m < n := by omega
    unfold execOp
    simp [ho, hx, Instr.arrayAt, run_underlying hu, hn]) h
end
end Go.Proofs.Ytblpgpolhibfgaa
