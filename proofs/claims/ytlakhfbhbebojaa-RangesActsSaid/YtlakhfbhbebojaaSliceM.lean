/- Own words: s[i:j] and s[:j:m] of slices of structs; append onto a slice that is full. No program is named here. -/
import Derived.Test.YtlakhfbhbebojaaSliceN
import Derived.Test.YtlakhfbhbebojaaAppN
namespace Go.Proofs.Ytlakhfbhbebojaa
open Go.RowKit

section
variable {P : Program} {ops : Array Oper} {rest : List Oper} {o : Oper} {a : Act} {w : World} {Q : Exit → Act → World → Prop}
theorem run_slice_bothN (w : World) (t e : TypeId) (A : Option Addr) (n cap i j s : Nat) (hu : P.underlying t = some (.slice e)) (hs : (P.info? e).map (·.size) = some s) (hi : i ≤ j) (hj : j ≤ cap) :
    (Instr.slice t (.slice A n cap) (some (.int .i64 (i : Int))) (some (.int .i64 (j : Int))) none).run P w = .ok (.slice (dropN A cap i s) (j - i) (cap - i)) w := by
  cases hq : P.info? e with
  | none => rw [hq] at hs; cases hs
  | some q =>
    have hsz : q.size = s := by simpa [hq] using hs
    simp [Instr.slice, run_underlying hu, Instr.sliceBounds, Instr.sliceBound, asIntOf, sizeOf, typeInfo, hq, hsz, hi, hj, dropN]
theorem run_slice_hmN (w : World) (t e : TypeId) (A : Option Addr) (n cap j s : Nat) (hu : P.underlying t = some (.slice e)) (hs : (P.info? e).map (·.size) = some s) (hj : j ≤ cap) :
    (Instr.slice t (.slice A n cap) none (some (.int .i64 (j : Int))) (some (.int .i64 (j : Int)))).run P w = .ok (.slice (highN A j) j j) w := by
  cases hq : P.info? e with
  | none => rw [hq] at hs; cases hs
  | some q =>
    have hsz : q.size = s := by simpa [hq] using hs
    simp [Instr.slice, run_underlying hu, Instr.sliceBounds, Instr.sliceBound, asIntOf, sizeOf, typeInfo, hq, hj, highN]
theorem yieldsIf_slice_bothN {S : World → Prop} (hw : Region.wanted o (yielded ops a.tmps) = true) (t e : TypeId) (x y z : Operand) (ho : o.op = .slice t x (some y) (some z) none) (A : Option Addr) (n cap i j s : Nat) (hx : a.eval x = .slice A n cap) (hy : a.eval y = .int .i64 (i : Int)) (hz : a.eval z = .int .i64 (j : Int))
    (hu : P.underlying t = some (.slice e)) (hs : (P.info? e).map (·.size) = some s) (hi : i ≤ j) (hj : j ≤ cap) : YieldsIf P ops S o (.slice (dropN A cap i s) (j - i) (cap - i)) a :=
  .inl ⟨hw, fun w _ => by
    have := run_slice_bothN (P := P) w t e A n cap i j s hu hs hi hj
    unfold execOp
    simp [ho, hx, hy, hz, Instr.sliceAt, run_underlying hu, this]⟩
theorem yieldsIf_slice_hmN {S : World → Prop} (hw : Region.wanted o (yielded ops a.tmps) = true) (t e : TypeId) (x y z : Operand) (ho : o.op = .slice t x none (some y) (some z)) (A : Option Addr) (n cap j s : Nat) (hx : a.eval x = .slice A n cap) (hy : a.eval y = .int .i64 (j : Int)) (hz : a.eval z = .int .i64 (j : Int))
    (hu : P.underlying t = some (.slice e)) (hs : (P.info? e).map (·.size) = some s) (hj : j ≤ cap) : YieldsIf P ops S o (.slice (highN A j) j j) a :=
  .inl ⟨hw, fun w _ => by
    have := run_slice_hmN (P := P) w t e A n cap j s hu hs hj
    unfold execOp
    simp [ho, hx, hy, hz, Instr.sliceAt, run_underlying hu, this]⟩
theorem wpList_slice_bothN (hw : Region.wanted o (yielded ops a.tmps) = true) (t e : TypeId) (x y z : Operand) (ho : o.op = .slice t x (some y) (some z) none) (A : Option Addr) (n cap i j s : Nat) (hx : a.eval x = .slice A n cap) (hy : a.eval y = .int .i64 (i : Int)) (hz : a.eval z = .int .i64 (j : Int))
    (hu : P.underlying t = some (.slice e)) (hs : (P.info? e).map (·.size) = some s) (hi : i ≤ j) (hj : j ≤ cap) (h : wpList P ops Q rest (a.put o.dst (.slice (dropN A cap i s) (j - i) (cap - i))) w) : wpList P ops Q (o :: rest) a w :=
  BigFrame.wpList_want hw fun _ hK => by
    have := run_slice_bothN (P := P) w t e A n cap i j s hu hs hi hj
    have k' := hK _ _ h
    unfold Oper.wp execOp
    simp [ho, hx, hy, hz, Instr.sliceAt, run_underlying hu, this]
    exact k'

/-- Append onto a slice that has no room: new memory, and nothing that was there is turned. -/
theorem run_append_fullN (w : World) (t ty e : TypeId) (i : TypeInfo) (z : Value) (size bytes : Nat) (ht : P.underlying t = some (.slice e)) (hi : P.info? e = some i) (hz : i.zero = some z)
    (hsize : i.size = size) (hby : i.bytes = bytes) (hzs : z.cells.size = size) (hpos : 0 < size) (A : Option Addr) (n : Nat) (T : Nat → Prop) (olds : List Value) (hvo : View w T A (n * size) olds)
    (T' : Nat → Prop) (B : Option Addr) (m c : Nat) (news : List Value) (hv : View w T' B (m * size) news) (hm : 0 < m) (h63 : n + m ≤ maxLen) (hbytes : (n + m) * bytes ≤ 140737488355328) :
    ∃ v' w', (Builtin.append_ #[t, t] ty #[.slice A n n, .slice B m c]).run P w = .ok v' w' ∧ w'.ownsRow w.heap.size e size v' (n + m) (olds ++ news) ∧ Chg none_ w w' := by
  subst hsize
  subst hby
  have hlen : (olds ++ news).length = (n + m) * i.size := by rw [List.length_append, hvo.1, hv.1, Nat.add_mul]
  have hsmall : n + m ≤ 9223372036854775807 := by simp only [maxLen] at h63; omega
  obtain ⟨bb, bo, rfl, _, _, _⟩ := hv.2 (Nat.mul_pos hm hpos)
  have grown : ∀ (old : Nat),
      (w.drew.alloc (.cells (olds.toArray ++ news.toArray ++ Builtin.zeroCells z.cells (grownCap w (n + m) old e - (n + m))) e)).ownsRow w.heap.size e i.size
        (.slice (some ⟨w.heap.size, 0, none⟩) (n + m) (grownCap w (n + m) old e)) (n + m) (olds ++ news) := by
    intro old
    have hge := grownCap_ge w (n + m) old e
    have hcm : grownCap w (n + m) old e ≤ maxLen := grownCap_le_maxLen w (n + m) old e h63
    refine ⟨hlen, .inr ⟨w.heap.size, _, _, rfl, Nat.le_refl _, heap_alloc_new w.drew _, hge, hcm, ?_, ?_⟩⟩
    · simp only [Array.size_append, List.size_toArray, size_zeroCells, hzs, hvo.1, hv.1, ← Nat.add_mul]
      congr 1
      omega
    · simp only [Array.toList_append, List.append_assoc]
      rw [← List.append_assoc, ← hlen]
      exact List.take_left
  rcases A with _ | ad
  · obtain ⟨hn, rfl⟩ := hvo.nil_len
    have hn0 : n = 0 := by
      rcases Nat.mul_eq_zero.1 hn with h | h
      · exact h
      · omega
    subst hn0
    have hr := run_append_nil (P := P) w t ty e i z ht hi hz ⟨bb, bo, none⟩ m c news hv.1 hv.cells (by omega) (by omega) (by have hb := hbytes; simp only [Nat.zero_add] at hb; omega)
    have hgr := grown 0
    simp only [Nat.zero_add, List.nil_append, Array.empty_append] at hgr ⊢
    exact ⟨_, _, hr, hgr, ((Chg.refl none_ w).drew).alloc _⟩
  · have hr := run_append_grow (P := P) w t ty e i z ht hi hz ad n n olds hvo.1 hvo.cells ⟨bb, bo, none⟩ m c news hv.1 hv.cells (by omega) (by omega) (growslice_fits (by omega) hbytes)
    exact ⟨_, _, hr, grown n, ((Chg.refl none_ w).drew).alloc _⟩
/-- Nothing is appended. -/
theorem run_append_noneN (w : World) (t ty e : TypeId) (i : TypeInfo) (ht : P.underlying t = some (.slice e)) (hi : P.info? e = some i) (A : Option Addr) (n cap : Nat) (hn : n ≤ cap) (T' : Nat → Prop) (B : Option Addr) (c : Nat) (_hv : View w T' B 0 []) (hA : A = none → cap = 0) :
    (Builtin.append_ #[t, t] ty #[.slice A n cap, .slice B 0 c]).run P w = .ok (.slice A n cap) w := by
  rcases A with _ | ad
  · obtain rfl := hA rfl
    obtain rfl : n = 0 := by omega
    rcases B with _ | bd <;> simp [Builtin.append_, run_underlying ht, sizeOf, typeInfo, hi, Builtin.lenOf, Builtin.firstCells, loadCells, loadCellsFrom]
  · rcases B with _ | bd <;> simp [Builtin.append_, run_underlying ht, sizeOf, typeInfo, hi, Builtin.lenOf, Builtin.firstCells, hn, storeCells, loadCells, loadCellsFrom]
end
end Go.Proofs.Ytlakhfbhbebojaa
