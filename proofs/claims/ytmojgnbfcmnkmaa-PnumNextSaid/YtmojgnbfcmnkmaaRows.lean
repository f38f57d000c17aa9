/-
  No cell of these rows narrows 'for every input' (looked for: loops, veiled, ifaces, maps, wideKeys, modest, calm, conditions, laid).
  DERIVED. THE GIVEN ROWS OF THIS SEAT. 5 by the template 'for every input the law returns true; each argument reads behind the call as it read before'; 0 by the template 'total and deterministic' (their statements: YtmojgnbfcmnkmaaTotals.lean).
  GIVEN WITH THE SEED: the statements are not yours to turn. If you find one false, say at which input.
  Laid BY PROGRAM, IN A SANDBOX (cutbox-rows.mjs): the forced cells as the released guide's own fill.sh prints them over the translation 0f27f42a13c34fa9… (all of the seat's roots in one cut). By AI agents, Wed Nov 11 2026. No macro, syntax, notation, axiom, sorry.
-/
import Derived.Test.YtmojgnbfcmnkmaaChecked
import GoSem.Claim
import GoSem.ClaimJoined
import GoSem.ClaimMapViews
import Derived.JoinedTies
import Derived.KernelRfl
namespace Go.Proofs.Ytmojgnbfcmnkmaa
/- THE CELL 'sum', in the pinned program and in every row, IS THE sha256 OF THE DUMP (.gsa) THAT YtmojgnbfcmnkmaaProg.lean LOADS. Nothing in Lean hashes anything: it is a label: what it is worth is what the hold of that sum in a sandbox is worth. -/
noncomputable def Try.pinned : Pinned := { name := "ytmojgnbfcmnkmaa", sum := "0f27f42a13c34fa92bbbb5ad536907ee853cdf017fe945a54d6d9da455eb4f47", checked := Try.checked }
namespace Rows
def none {H : Type} : Left H := { results := [], args := [] }

/-- 'doorwardlaw02.PnumCuts': WHATEVER THE INPUT: true; the input reads as it did. -/
def pnumCutsSpec : ChangeSpec := { name := "pnumCuts", fn := fun _ => fun
  | [d1, d2, d3] => { results := [.lit (.bool true)], args := [d1, d2, d3] }
  | _ => none }
def pnumCutsRow : OpenClaim := { program := "ytmojgnbfcmnkmaa", sum := "0f27f42a13c34fa92bbbb5ad536907ee853cdf017fe945a54d6d9da455eb4f47", func := "doorward/doorwardlaw02.PnumCuts", spec := "pnumCuts", apart := false }
def PnumCutsSaid : Prop := pnumCutsRow.holds Try.pinned (OpenSpec.ofChange pnumCutsSpec)

/-- ITS FALSE NEIGHBOUR: 'it returns false'. Refute it at one input. -/
def pnumCutsWrong : ChangeSpec := { name := "pnumCuts", fn := fun _ => fun
  | [d1, d2, d3] => { results := [.lit (.bool false)], args := [d1, d2, d3] }
  | _ => none }
def PnumCutsWrongFalsely : Prop := pnumCutsRow.holds Try.pinned (OpenSpec.ofChange pnumCutsWrong)

/-- 'doorwardlaw02.PnumFull': WHATEVER THE INPUT: true; the input reads as it did. -/
def pnumFullSpec : ChangeSpec := { name := "pnumFull", fn := fun _ => fun
  | [d1, d2] => { results := [.lit (.bool true)], args := [d1, d2] }
  | _ => none }
def pnumFullRow : OpenClaim := { program := "ytmojgnbfcmnkmaa", sum := "0f27f42a13c34fa92bbbb5ad536907ee853cdf017fe945a54d6d9da455eb4f47", func := "doorward/doorwardlaw02.PnumFull", spec := "pnumFull", apart := false }
def PnumFullSaid : Prop := pnumFullRow.holds Try.pinned (OpenSpec.ofChange pnumFullSpec)

/-- ITS FALSE NEIGHBOUR: 'it returns false'. Refute it at one input. -/
def pnumFullWrong : ChangeSpec := { name := "pnumFull", fn := fun _ => fun
  | [d1, d2] => { results := [.lit (.bool false)], args := [d1, d2] }
  | _ => none }
def PnumFullWrongFalsely : Prop := pnumFullRow.holds Try.pinned (OpenSpec.ofChange pnumFullWrong)

/-- 'doorwardlaw02.PnumBack': WHATEVER THE INPUT: true; the input reads as it did. -/
def pnumBackSpec : ChangeSpec := { name := "pnumBack", fn := fun _ => fun
  | [d1, d2, d3] => { results := [.lit (.bool true)], args := [d1, d2, d3] }
  | _ => none }
def pnumBackRow : OpenClaim := { program := "ytmojgnbfcmnkmaa", sum := "0f27f42a13c34fa92bbbb5ad536907ee853cdf017fe945a54d6d9da455eb4f47", func := "doorward/doorwardlaw02.PnumBack", spec := "pnumBack", apart := false }
def PnumBackSaid : Prop := pnumBackRow.holds Try.pinned (OpenSpec.ofChange pnumBackSpec)

/-- ITS FALSE NEIGHBOUR: 'it returns false'. Refute it at one input. -/
def pnumBackWrong : ChangeSpec := { name := "pnumBack", fn := fun _ => fun
  | [d1, d2, d3] => { results := [.lit (.bool false)], args := [d1, d2, d3] }
  | _ => none }
def PnumBackWrongFalsely : Prop := pnumBackRow.holds Try.pinned (OpenSpec.ofChange pnumBackWrong)

/-- 'doorwardlaw02.PnumNear': WHATEVER THE INPUT: true; the input reads as it did. -/
def pnumNearSpec : ChangeSpec := { name := "pnumNear", fn := fun _ => fun
  | [d1, d2] => { results := [.lit (.bool true)], args := [d1, d2] }
  | _ => none }
def pnumNearRow : OpenClaim := { program := "ytmojgnbfcmnkmaa", sum := "0f27f42a13c34fa92bbbb5ad536907ee853cdf017fe945a54d6d9da455eb4f47", func := "doorward/doorwardlaw02.PnumNear", spec := "pnumNear", apart := false }
def PnumNearSaid : Prop := pnumNearRow.holds Try.pinned (OpenSpec.ofChange pnumNearSpec)

/-- ITS FALSE NEIGHBOUR: 'it returns false'. Refute it at one input. -/
def pnumNearWrong : ChangeSpec := { name := "pnumNear", fn := fun _ => fun
  | [d1, d2] => { results := [.lit (.bool false)], args := [d1, d2] }
  | _ => none }
def PnumNearWrongFalsely : Prop := pnumNearRow.holds Try.pinned (OpenSpec.ofChange pnumNearWrong)

/-- 'doorwardlaw02.PnumNext': WHATEVER THE INPUT: true; the input reads as it did. -/
def pnumNextSpec : ChangeSpec := { name := "pnumNext", fn := fun _ => fun
  | [d1, d2] => { results := [.lit (.bool true)], args := [d1, d2] }
  | _ => none }
def pnumNextRow : OpenClaim := { program := "ytmojgnbfcmnkmaa", sum := "0f27f42a13c34fa92bbbb5ad536907ee853cdf017fe945a54d6d9da455eb4f47", func := "doorward/doorwardlaw02.PnumNext", spec := "pnumNext", apart := false }
def PnumNextSaid : Prop := pnumNextRow.holds Try.pinned (OpenSpec.ofChange pnumNextSpec)

/-- ITS FALSE NEIGHBOUR: 'it returns false'. Refute it at one input. -/
def pnumNextWrong : ChangeSpec := { name := "pnumNext", fn := fun _ => fun
  | [d1, d2] => { results := [.lit (.bool false)], args := [d1, d2] }
  | _ => none }
def PnumNextWrongFalsely : Prop := pnumNextRow.holds Try.pinned (OpenSpec.ofChange pnumNextWrong)

/- THE SECOND FORM. 'bulk': how many values and letters a reading holds, each counted each time it is reached (what is shared counts as often as it is met; a slice's spare places count too). A statement '..UptoSaid' is the law's where the arguments, and the package variables that the reading takes, are together of bulk at most 1048576: NARROWER than '..Said'. Prove '..Said' where nothing that the law and all that it calls make is longer than what came in: it says more and counts as full. Else prove '..UptoSaid'. A law counts once. -/
mutual
def uptoBulk {H : Type} : DataW H → Nat
  | .lit (.string bytes) => bytes.length + 1
  | .lit _ => 1
  | .nil => 1
  | .ptr d => uptoBulk d + 1
  | .slice elems spare => uptoBulkAll elems + uptoBulkAll spare + 1
  | .agg parts => uptoBulkAll parts + 1
  | .iface _ d => uptoBulk d + 1
  | .map entries => uptoBulkEntries entries + 1
  | .held _ => 1
def uptoBulkAll {H : Type} : List (DataW H) → Nat
  | [] => 0
  | d :: r => uptoBulk d + uptoBulkAll r
def uptoBulkEntries {H : Type} : List (Lit × DataW H) → Nat
  | [] => 0
  | x :: r => uptoBulkEntry x + uptoBulkEntries r
def uptoBulkEntry {H : Type} : Lit × DataW H → Nat
  | (.string bytes, d) => bytes.length + uptoBulk d + 1
  | (_, d) => uptoBulk d + 1
 end
def uptoSmall : (H : Type) → List (DataW H) → Bool := fun _ ds => decide (uptoBulkAll ds ≤ 1048576)
def OpenSpec.upto (s : _root_.Go.ChangeSpec) : _root_.Go.OpenSpec := { _root_.Go.OpenSpec.ofChange s with cond := some uptoSmall }

/-- 'doorwardlaw02.PnumCuts', WHERE WHAT IT READS IS OF BULK AT MOST 1048576: true; the input reads as it did. -/
def pnumCutsUptoRow : OpenClaim := { program := "ytmojgnbfcmnkmaa", sum := "0f27f42a13c34fa92bbbb5ad536907ee853cdf017fe945a54d6d9da455eb4f47", func := "doorward/doorwardlaw02.PnumCuts", spec := "pnumCuts", apart := false, narrowed := true }
def PnumCutsUptoSaid : Prop := pnumCutsUptoRow.holds Try.pinned (OpenSpec.upto pnumCutsSpec)

/-- 'doorwardlaw02.PnumFull', WHERE WHAT IT READS IS OF BULK AT MOST 1048576: true; the input reads as it did. -/
def pnumFullUptoRow : OpenClaim := { program := "ytmojgnbfcmnkmaa", sum := "0f27f42a13c34fa92bbbb5ad536907ee853cdf017fe945a54d6d9da455eb4f47", func := "doorward/doorwardlaw02.PnumFull", spec := "pnumFull", apart := false, narrowed := true }
def PnumFullUptoSaid : Prop := pnumFullUptoRow.holds Try.pinned (OpenSpec.upto pnumFullSpec)

/-- 'doorwardlaw02.PnumBack', WHERE WHAT IT READS IS OF BULK AT MOST 1048576: true; the input reads as it did. -/
def pnumBackUptoRow : OpenClaim := { program := "ytmojgnbfcmnkmaa", sum := "0f27f42a13c34fa92bbbb5ad536907ee853cdf017fe945a54d6d9da455eb4f47", func := "doorward/doorwardlaw02.PnumBack", spec := "pnumBack", apart := false, narrowed := true }
def PnumBackUptoSaid : Prop := pnumBackUptoRow.holds Try.pinned (OpenSpec.upto pnumBackSpec)

/-- 'doorwardlaw02.PnumNear', WHERE WHAT IT READS IS OF BULK AT MOST 1048576: true; the input reads as it did. -/
def pnumNearUptoRow : OpenClaim := { program := "ytmojgnbfcmnkmaa", sum := "0f27f42a13c34fa92bbbb5ad536907ee853cdf017fe945a54d6d9da455eb4f47", func := "doorward/doorwardlaw02.PnumNear", spec := "pnumNear", apart := false, narrowed := true }
def PnumNearUptoSaid : Prop := pnumNearUptoRow.holds Try.pinned (OpenSpec.upto pnumNearSpec)

/-- 'doorwardlaw02.PnumNext', WHERE WHAT IT READS IS OF BULK AT MOST 1048576: true; the input reads as it did. -/
def pnumNextUptoRow : OpenClaim := { program := "ytmojgnbfcmnkmaa", sum := "0f27f42a13c34fa92bbbb5ad536907ee853cdf017fe945a54d6d9da455eb4f47", func := "doorward/doorwardlaw02.PnumNext", spec := "pnumNext", apart := false, narrowed := true }
def PnumNextUptoSaid : Prop := pnumNextUptoRow.holds Try.pinned (OpenSpec.upto pnumNextSpec)

end Rows
end Go.Proofs.Ytmojgnbfcmnkmaa
