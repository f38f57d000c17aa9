/-
  DERIVED. GIVEN WITH THE SEED: THE CARDS: each row of YtlkklfkfhebpgaaDoorRows.lean that lists a variable, with what it lists TIED to the program's text (the seventh form; the later family's looks); each row that meets fmt, with fmt's text TOLD by the authors' own Lean function (tested against real Go, not proved from fmt's source: count such statements apart). THE CARD IS WHAT COUNTS. Prove the row's statement (the work); the ties are given (YtlkklfkfhebpgaaDoorTie.lean); close each card by the builder's one call (the guide's Derived/Test/ToyasCard.lean, 'card_holds'). Laid BY PROGRAM, IN A SANDBOX (cutbox-door.mjs). By AI agents, Wed Nov 11 2026. No macro, syntax, notation, axiom, sorry.
-/
import Derived.Test.YtlkklfkfhebpgaaDoorRows
import GoSem.ClaimSeven
namespace Go.Proofs.YtlkklfkfhebpgaaDoor
namespace Rows

/-- THE TIED CARD OF 'doorwardlaw03.FramesPut'. -/
def framesPutCard : Claim7 := { stood := { row := framesPutRow, standIns := [], harness := (true, "a7500394050085e3fe6f6c702511293cae4425dd1573b7a36eee30a654d6e18f"), looks := false }, kinds := [], alts := [], laidByText := true, laidKinds := [.data, .data], laidTests := true, laidLooks := .later }
def FramesPutCardSaid : Prop := Claim7.holds Tryd.pinned (.plain (OpenSpec.ofChange framesPutSpec)) framesPutCard

/-- THE TIED CARD OF 'doorwardlaw03.FramesCut'. -/
def framesCutCard : Claim7 := { stood := { row := framesCutRow, standIns := [], harness := (true, "a7500394050085e3fe6f6c702511293cae4425dd1573b7a36eee30a654d6e18f"), looks := false }, kinds := [], alts := [], laidByText := true, laidKinds := [.data, .data], laidTests := true, laidLooks := .later }
def FramesCutCardSaid : Prop := Claim7.holds Tryd.pinned (.plain (OpenSpec.ofChange framesCutSpec)) framesCutCard

/-- THE TIED CARD OF 'doorwardlaw03.FramesList'. -/
def framesListCard : Claim7 := { stood := { row := framesListRow, standIns := [], harness := (true, "a7500394050085e3fe6f6c702511293cae4425dd1573b7a36eee30a654d6e18f"), looks := false }, kinds := [], alts := [], laidByText := true, laidKinds := [.data, .data], laidTests := true, laidLooks := .later }
def FramesListCardSaid : Prop := Claim7.holds Tryd.pinned (.plain (OpenSpec.ofChange framesListSpec)) framesListCard

/-- THE SECOND FORM's CARD OF 'doorwardlaw03.FramesPut'. -/
def framesPutUptoCard : Claim7 := { stood := { row := framesPutUptoRow, standIns := [], harness := (true, "a7500394050085e3fe6f6c702511293cae4425dd1573b7a36eee30a654d6e18f"), looks := false }, kinds := [], alts := [], laidByText := true, laidKinds := [.data, .data], laidTests := true, laidLooks := .later }
def FramesPutUptoCardSaid : Prop := Claim7.holds Tryd.pinned (.plain (OpenSpec.upto framesPutSpec)) framesPutUptoCard

/-- THE SECOND FORM's CARD OF 'doorwardlaw03.FramesCut'. -/
def framesCutUptoCard : Claim7 := { stood := { row := framesCutUptoRow, standIns := [], harness := (true, "a7500394050085e3fe6f6c702511293cae4425dd1573b7a36eee30a654d6e18f"), looks := false }, kinds := [], alts := [], laidByText := true, laidKinds := [.data, .data], laidTests := true, laidLooks := .later }
def FramesCutUptoCardSaid : Prop := Claim7.holds Tryd.pinned (.plain (OpenSpec.upto framesCutSpec)) framesCutUptoCard

/-- THE SECOND FORM's CARD OF 'doorwardlaw03.FramesList'. -/
def framesListUptoCard : Claim7 := { stood := { row := framesListUptoRow, standIns := [], harness := (true, "a7500394050085e3fe6f6c702511293cae4425dd1573b7a36eee30a654d6e18f"), looks := false }, kinds := [], alts := [], laidByText := true, laidKinds := [.data, .data], laidTests := true, laidLooks := .later }
def FramesListUptoCardSaid : Prop := Claim7.holds Tryd.pinned (.plain (OpenSpec.upto framesListSpec)) framesListUptoCard
end Rows
end Go.Proofs.YtlkklfkfhebpgaaDoor
