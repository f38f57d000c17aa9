/-
  DERIVED. GIVEN WITH THE SEED: THE CARDS: each row of YtfpflhcabjcamaaDoorRows.lean that lists a variable, with what it lists TIED to the program's text (the seventh form; the later family's looks); each row that meets fmt, with fmt's text TOLD by the authors' own Lean function (tested against real Go, not proved from fmt's source: count such statements apart). THE CARD IS WHAT COUNTS. Prove the row's statement (the work); the ties are given (YtfpflhcabjcamaaDoorTie.lean); close each card by the builder's one call (the guide's Derived/Test/ToyasCard.lean, 'card_holds'). Laid BY PROGRAM, IN A SANDBOX (cutbox-door.mjs). By AI agents, Wed Nov 11 2026. No macro, syntax, notation, axiom, sorry.
-/
import Derived.Test.YtfpflhcabjcamaaDoorRows
import GoSem.ClaimSeven
namespace Go.Proofs.YtfpflhcabjcamaaDoor
namespace Rows

/-- THE TIED CARD OF 'doorwardlaw10.KeysAcross'. -/
def keysAcrossCard : Claim7 := { stood := { row := keysAcrossRow, standIns := [], harness := (true, "c1f4042a6dab944a70f3aef631c3f43beab2796ead50262eada6638512bf65dc"), looks := false }, kinds := [], alts := [], laidByText := true, laidKinds := [.data, .data, .data], laidTests := true, laidLooks := .later }
def KeysAcrossCardSaid : Prop := Claim7.holds Tryd.pinned (.plain (OpenSpec.ofChange keysAcrossSpec)) keysAcrossCard

/-- THE SECOND FORM's CARD OF 'doorwardlaw10.KeysAcross'. -/
def keysAcrossUptoCard : Claim7 := { stood := { row := keysAcrossUptoRow, standIns := [], harness := (true, "c1f4042a6dab944a70f3aef631c3f43beab2796ead50262eada6638512bf65dc"), looks := false }, kinds := [], alts := [], laidByText := true, laidKinds := [.data, .data, .data], laidTests := true, laidLooks := .later }
def KeysAcrossUptoCardSaid : Prop := Claim7.holds Tryd.pinned (.plain (OpenSpec.upto keysAcrossSpec)) keysAcrossUptoCard
end Rows
end Go.Proofs.YtfpflhcabjcamaaDoor
