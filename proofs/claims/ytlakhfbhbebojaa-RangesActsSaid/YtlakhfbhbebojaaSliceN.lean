/- s[k:] and s[:k] of slices whose elements have several cells, over any program. -/
import Derived.Test.YtlakhfbhbebojaaFlat
import Derived.Deep.RegionHeld3
namespace Go.Proofs.Ytlakhfbhbebojaa
open Go.RowKit

def dropN (A : Option Addr) (cap k s : Nat) : Option Addr := if cap = k then A else A.map (·.add (k * s))
def highN (A : Option Addr) (cap : Nat) : Option Addr := if cap = 0 then A else A.map (·.add 0)
theorem View.dropN {w : World} {T : Nat → Prop} {A : Option Addr} {n k cap s : Nat} {xs : List Value} (h : View w T A (n * s) xs) (hc : n ≤ cap) : View w T (dropN A cap k s) ((n - k) * s) (xs.drop (k * s)) := by
  unfold Proofs.Ytlakhfbhbebojaa.dropN
  split
  · have h0 : n - k = 0 := by omega
    have hx : xs.drop (k * s) = [] := List.drop_of_length_le (by rw [h.1]; exact Nat.mul_le_mul_right s (by omega))
    rw [h0, hx, Nat.zero_mul]
    exact View.none_ _ _ _
  · rw [Nat.sub_mul]
    exact h.drop
theorem View.highN {w : World} {T : Nat → Prop} {A : Option Addr} {n : Nat} {xs : List Value} (h : View w T A n xs) (cap : Nat) : View w T (highN A cap) n xs := by
  unfold Proofs.Ytlakhfbhbebojaa.highN
  split
  · exact h
  · have := h.drop (k := 0)
    rw [List.drop_zero, Nat.sub_zero] at this
    exact this
section
variable {P : Program} {ops : Array Oper} {rest : List Oper} {o : Oper} {a : Act} {w : World} {Q : Exit → Act → World → Prop}
theorem run_slice_lowN (w : World) (t e : TypeId) (A : Option Addr) (n cap k s : Nat) (hu : P.underlying t = some (.slice e)) (hs : (P.info? e).map (·.size) = some s) (hk : k ≤ n) :
    (Instr.slice t (.slice A n cap) (some (.int .i64 (k : Int))) none none).run P w = .ok (.slice (dropN A cap k s) (n - k) (cap - k)) w := by
  cases hq : P.info? e with
  | none => rw [hq] at hs; cases hs
  | some i =>
    have hsz : i.size = s := by simpa [hq] using hs
    simp [Instr.slice, run_underlying hu, Instr.sliceBounds, Instr.sliceBound, asIntOf, sizeOf, typeInfo, hq, hsz, hk, dropN]
theorem run_slice_highN (w : World) (t e : TypeId) (A : Option Addr) (n cap k s : Nat) (hu : P.underlying t = some (.slice e)) (hs : (P.info? e).map (·.size) = some s) (hk : k ≤ cap) :
    (Instr.slice t (.slice A n cap) none (some (.int .i64 (k : Int))) none).run P w = .ok (.slice (highN A cap) k cap) w := by
  cases hq : P.info? e with
  | none => rw [hq] at hs; cases hs
  | some i =>
    have hsz : i.size = s := by simpa [hq] using hs
    simp [Instr.slice, run_underlying hu, Instr.sliceBounds, Instr.sliceBound, asIntOf, sizeOf, typeInfo, hq, hk, highN]
theorem yieldsIf_slice_lowN {S : World → Prop} (hw : Region.wanted o (yielded ops a.tmps) = true) (t e : TypeId) (x y : Operand) (ho : o.op = .slice t x (some y) none none) (A : Option Addr) (n cap k s : Nat) (hx : a.eval x = .slice A n cap) (hy : a.eval y = .int .i64 (k : Int))
    (hu : P.underlying t = some (.slice e)) (hs : (P.info? e).map (·.size) = some s) (hk : k ≤ n) : YieldsIf P ops S o (.slice (dropN A cap k s) (n - k) (cap - k)) a :=
  .inl ⟨hw, fun w _ => by
    have := run_slice_lowN (P := P) w t e A n cap k s hu hs hk
    unfold execOp
    simp [ho, hx, hy, Instr.sliceAt, run_underlying hu, this]⟩
theorem yieldsIf_slice_highN {S : World → Prop} (hw : Region.wanted o (yielded ops a.tmps) = true) (t e : TypeId) (x y : Operand) (ho : o.op = .slice t x none (some y) none) (A : Option Addr) (n cap k s : Nat) (hx : a.eval x = .slice A n cap) (hy : a.eval y = .int .i64 (k : Int))
    (hu : P.underlying t = some (.slice e)) (hs : (P.info? e).map (·.size) = some s) (hk : k ≤ cap) : YieldsIf P ops S o (.slice (highN A cap) k cap) a :=
  .inl ⟨hw, fun w _ => by
    have := run_slice_highN (P := P) w t e A n cap k s hu hs hk
    unfold execOp
    simp [ho, hx, hy, Instr.sliceAt, run_underlying hu, this]⟩
theorem wpList_slice_lowN (hw : Region.wanted o (yielded ops a.tmps) = true) (t e : TypeId) (x y : Operand) (ho : o.op = .slice t x (some y) none none) (A : Option Addr) (n cap k s : Nat) (hx : a.eval x = .slice A n cap) (hy : a.eval y = .int .i64 (k : Int))
    (hu : P.underlying t = some (.slice e)) (hs : (P.info? e).map (·.size) = some s) (hk : k ≤ n) (h : wpList P ops Q rest (a.put o.dst (.slice (dropN A cap k s) (n - k) (cap - k))) w) : wpList P ops Q (o :: rest) a w :=
  BigFrame.wpList_want hw fun _ hK => by
    have := run_slice_lowN (P := P) w t e A n cap k s hu hs hk
    have k' := hK _ _ h
    unfold Oper.wp execOp
    simp [ho, hx, hy, Instr.sliceAt, run_underlying hu, this]
    exact k'
end
end Go.Proofs.Ytlakhfbhbebojaa
