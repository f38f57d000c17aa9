/- Own words for s[:k], over views. No program is named here. -/
import Derived.Test.YtbmhoijdbhokaaaCopy
namespace Go.Proofs.Ytbmhoijdbhokaaa
open Go.RowKit

/-- Where s[:k] lies. -/
def highA (A : Option Addr) (cap : Nat) : Option Addr := if cap = 0 then A else A.map (·.add 0)
theorem run_slice_high {P : Program} (w : World) (t e : TypeId) (A : Option Addr) (n cap k : Nat) (hu : P.underlying t = some (.slice e)) (hs : (P.info? e).map (·.size) = some 1) (hk : k ≤ cap) :
    (Instr.slice t (.slice A n cap) none (some (.int .i64 (k : Int))) none).run P w = .ok (.slice (highA A cap) k cap) w := by
  cases hq : P.info? e with
  | none => rw [hq] at hs; cases hs
  | some i =>
    have hsz : i.size = 1 := by simpa [hq] using hs
    simp [Instr.slice, run_underlying hu, Instr.sliceBounds, Instr.sliceBound, asIntOf, sizeOf, typeInfo, hq, hk, highA]
theorem View.high {w : World} {T : Nat → Prop} {A : Option Addr} {n : Nat} {xs : List Value} (h : View w T A n xs) (cap : Nat) : View w T (highA A cap) n xs := by
  unfold highA
  split
  · exact h
  · have := h.drop (k := 0)
    rw [List.drop_zero, Nat.sub_zero] at this
    exact this
/-- s[:k] of a view. -/
theorem View.upto {w : World} {T : Nat → Prop} {A : Option Addr} {n k : Nat} {l : List Nat} (h : View w T A n (u8s l)) (cap : Nat) (hk : k ≤ n) : View w T (highA A cap) k (u8s (l.take k)) := by
  have h2 := (h.take hk).high cap
  rwa [show (u8s l).take k = u8s (l.take k) from by simp [u8s]] at h2
theorem yieldsIf_slice_high {P : Program} {ops : Array Oper} {S : World → Prop} {o : Oper} {a : Act} (hw : Region.wanted o (yielded ops a.tmps) = true) (t e : TypeId) (x y : Operand) (ho : o.op = .slice t x none (some y) none) (A : Option Addr) (n cap k : Nat) (hx : a.eval x = .slice A n cap) (hy : a.eval y = .int .i64 (k : Int))
    (hu : P.underlying t = some (.slice e)) (hs : (P.info? e).map (·.size) = some 1) (hk : k ≤ cap) : YieldsIf P ops S o (.slice (highA A cap) k cap) a :=
  .inl ⟨hw, fun w _ => by
    have := run_slice_high (P := P) w t e A n cap k hu hs hk
    unfold execOp
    simp [ho, hx, hy, Instr.sliceAt, run_underlying hu, this]⟩
end Go.Proofs.Ytbmhoijdbhokaaa
