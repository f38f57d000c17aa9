/- Own words for make of bytes, at a bare operation. No program is named here. -/
import Derived.Test.YtbmhoijdbhokaaaAloc
import Derived.Deep.OwnRows
namespace Go.Proofs.Ytbmhoijdbhokaaa
open Go.RowKit

section
variable {P : Program} {o : Oper} {a : Act} {w : World} {K : Act → World → Prop} {Q : Exit → Act → World → Prop}
/-- make of bytes, at a bare operation. -/
theorem wp_make_bytes (l c : Operand) (t : TypeId) (hop : o.op = Op.makeSlice t l c)
    (e : TypeId) (ht : P.underlying t = some (.slice e)) (hinfo : (P.info? e).map (fun i => (i.zero, i.size, i.bytes)) = some (some (.int .u8 0), 1, 1))
    (n : Nat) (hl : a.eval l = .int .i64 (n : Int)) (hc : a.eval c = .int .i64 (n : Int)) (hn : n ≤ 1000000)
    (k : ∀ w', Row w' w.heap.size e (u8s (List.replicate n 0)) → Chg none_ w w' → K (a.put o.dst (.slice (some ⟨w.heap.size, 0, none⟩) n n)) w') :
    Oper.wp P o a w K Q := by
  have hrun := run_make_row' (P := P) t e (.int .u8 0) 1 ht hinfo rfl .i64 .i64 n (by omega) (by omega) w
  unfold Oper.wp
  simp [execOp, hop, hl, hc, hrun, Result.andThen]
  refine k _ ?_ ((Chg.refl _ _).alloc _)
  have := Row.new w e (u8s (List.replicate n 0))
  have e2 : (u8s (List.replicate n 0)).toArray = madeCells #[.int .u8 0] n := by
    apply Array.toList_inj.1
    rw [toList_madeCells_one]
    simp [u8s]
  rw [e2] at this
  exact this
end
end Go.Proofs.Ytbmhoijdbhokaaa
