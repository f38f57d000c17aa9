/- Own words for make of truths: a row of false. No program is named here. -/
import Derived.Test.YtlakhfbhbebojaaAloc
import Derived.Deep.OwnRows
import Derived.OwnWalk
namespace Go.Proofs.Ytlakhfbhbebojaa
open Go.RowKit

section
variable {P : Program} {ops : Array Oper} {rest : List Oper} {o : Oper} {a : Act} {w : World} {Q : Exit → Act → World → Prop}
theorem wpList_make_bools (hg : o.guard = none) (l c : Operand) (t : TypeId) (hop : o.op = Op.makeSlice t l c)
    (e : TypeId) (ht : P.underlying t = some (.slice e)) (hinfo : (P.info? e).map (fun i => (i.zero, i.size, i.bytes)) = some (some (.bool false), 1, 1))
    (n : Nat) (hl : a.eval l = .int .i64 (n : Int)) (hc : a.eval c = .int .i64 (n : Int)) (hn : n ≤ 1000000)
    (k : ∀ w', Row w' w.heap.size e (List.replicate n (.bool false)) → Chg none_ w w' → wpList P ops Q rest (a.put o.dst (.slice (some ⟨w.heap.size, 0, none⟩) n n)) w') :
    wpList P ops Q (o :: rest) a w := by
  refine wpList_plain hg fun K hK' => ?_
  have hrun := run_make_row' (P := P) t e (.bool false) 1 ht hinfo rfl .i64 .i64 n (by omega) (by omega) w
  unfold Oper.wp
  simp [execOp, hop, hl, hc, hrun, Result.andThen]
  refine hK' _ _ (k _ ?_ ((Chg.refl _ _).alloc _))
  have := Row.new w e (List.replicate n (.bool false))
  have e2 : (List.replicate n (Value.bool false)).toArray = madeCells #[.bool false] n := by
    apply Array.toList_inj.1
    rw [toList_madeCells_one]
  rw [e2] at this
  exact this
end
end Go.Proofs.Ytlakhfbhbebojaa
