/- '==' of two structs, at an operation that is taken ahead of others. -/
import Derived.Test.YtlakhfbhbebojaaFlat
import Derived.Deep.RegionHeld3
namespace Go.Proofs.Ytlakhfbhbebojaa
open Go.RowKit
theorem yieldsIf_eql {P : Program} {ops : Array Oper} {S : World → Prop} {op : Oper} {a : Act} (hw : Region.wanted op (yielded ops a.tmps) = true) (T R : TypeId) (x y : Operand) (ho : op.op = .binOp .eql T x y R) (u v : Array Value) (hx : a.eval x = .agg u) (hy : a.eval y = .agg v) (b : Bool)
    (hg : ∀ w, (eqGuard .eql T x y (.agg u) (.agg v)).run P w = .ok () w) (h : ∀ w, S w → (Op.equalIn 10000 T (.agg u) (.agg v)).run P w = .ok b w) : YieldsIf P ops S op (.bool b) a :=
  .inl ⟨hw, fun w hw' => by
    have hh : (Op.equal T (.agg u) (.agg v)).run P w = .ok b w := h w hw'
    unfold execOp
    simp only [ho, hx, hy, Sem.run_bind, Sem.run_pure, Result.andThen_ok, hg w, binOp, hh]⟩
end Go.Proofs.Ytlakhfbhbebojaa
