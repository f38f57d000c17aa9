/-
  DERIVED. GIVEN WITH THE SEED: THE CARDS: each row of YtlcffjmbfpdlbaaDoorRows.lean that lists a variable, with what it lists TIED to the program's text (the seventh form; the later family's looks); each row that meets fmt, with fmt's text TOLD by the authors' own Lean function (tested against real Go, not proved from fmt's source: count such statements apart). THE CARD IS WHAT COUNTS. Prove the row's statement (the work); the ties are given (YtlcffjmbfpdlbaaDoorTie.lean); close each card by the builder's one call (the guide's Derived/Test/ToyasCard.lean, 'card_holds'). Laid BY PROGRAM, IN A SANDBOX (cutbox-door.mjs). By AI agents, Wed Nov 11 2026. No macro, syntax, notation, axiom, sorry.
-/
import Derived.Test.YtlcffjmbfpdlbaaDoorRows
import GoSem.ClaimSeven
namespace Go.Proofs.YtlcffjmbfpdlbaaDoor
namespace Rows

/-- THE TIED CARD OF 'doorwardlaw03.FramesPut'. -/
def framesPutCard : Claim7 := { stood := { row := framesPutRow, standIns := [], harness := (true, "429dc37ad324e61c6a184ad141303198d76e5921ffd8efe531b81a6256700ab2"), looks := false }, kinds := [], alts := [], laidByText := true, laidKinds := [.data, .data], laidTests := true, laidLooks := .later }
def FramesPutCardSaid : Prop := Claim7.holds Tryd.pinned (.plain (OpenSpec.ofChange framesPutSpec)) framesPutCard

/-- THE SECOND FORM's CARD OF 'doorwardlaw03.FramesPut'. -/
def framesPutUptoCard : Claim7 := { stood := { row := framesPutUptoRow, standIns := [], harness := (true, "429dc37ad324e61c6a184ad141303198d76e5921ffd8efe531b81a6256700ab2"), looks := false }, kinds := [], alts := [], laidByText := true, laidKinds := [.data, .data], laidTests := true, laidLooks := .later }
def FramesPutUptoCardSaid : Prop := Claim7.holds Tryd.pinned (.plain (OpenSpec.upto framesPutSpec)) framesPutUptoCard
end Rows
end Go.Proofs.YtlcffjmbfpdlbaaDoor
