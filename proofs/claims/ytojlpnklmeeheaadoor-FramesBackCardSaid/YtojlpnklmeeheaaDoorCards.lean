/-
  DERIVED. GIVEN WITH THE SEED: THE CARDS: each row of YtojlpnklmeeheaaDoorRows.lean that lists a variable, with what it lists TIED to the program's text (the seventh form; the later family's looks); each row that meets fmt, with fmt's text TOLD by the authors' own Lean function (tested against real Go, not proved from fmt's source: count such statements apart). THE CARD IS WHAT COUNTS. Prove the row's statement (the work); the ties are given (YtojlpnklmeeheaaDoorTie.lean); close each card by the builder's one call (the guide's Derived/Test/ToyasCard.lean, 'card_holds'). Laid BY PROGRAM, IN A SANDBOX (cutbox-door.mjs). By AI agents, Wed Nov 11 2026. No macro, syntax, notation, axiom, sorry.
-/
import Derived.Test.YtojlpnklmeeheaaDoorRows
import GoSem.ClaimSeven
namespace Go.Proofs.YtojlpnklmeeheaaDoor
namespace Rows

/-- THE TIED CARD OF 'doorwardlaw03.FramesPut'. -/
def framesPutCard : Claim7 := { stood := { row := framesPutRow, standIns := [], harness := (true, "997963b1d69ef967379bc5fe21c4dc02051f11975a491647623d93911fbd687d"), looks := false }, kinds := [], alts := [], laidByText := true, laidKinds := [.data, .data], laidTests := true, laidLooks := .later }
def FramesPutCardSaid : Prop := Claim7.holds Tryd.pinned (.plain (OpenSpec.ofChange framesPutSpec)) framesPutCard

/-- THE TIED CARD OF 'doorwardlaw03.FramesBack'. -/
def framesBackCard : Claim7 := { stood := { row := framesBackRow, standIns := [], harness := (true, "997963b1d69ef967379bc5fe21c4dc02051f11975a491647623d93911fbd687d"), looks := false }, kinds := [], alts := [], laidByText := true, laidKinds := [.data, .data], laidTests := true, laidLooks := .later }
def FramesBackCardSaid : Prop := Claim7.holds Tryd.pinned (.plain (OpenSpec.ofChange framesBackSpec)) framesBackCard

/-- THE TIED CARD OF 'doorwardlaw03.FramesCut'. -/
def framesCutCard : Claim7 := { stood := { row := framesCutRow, standIns := [], harness := (true, "997963b1d69ef967379bc5fe21c4dc02051f11975a491647623d93911fbd687d"), looks := false }, kinds := [], alts := [], laidByText := true, laidKinds := [.data, .data], laidTests := true, laidLooks := .later }
def FramesCutCardSaid : Prop := Claim7.holds Tryd.pinned (.plain (OpenSpec.ofChange framesCutSpec)) framesCutCard

/-- THE TIED CARD OF 'doorwardlaw03.FramesApart'. -/
def framesApartCard : Claim7 := { stood := { row := framesApartRow, standIns := [], harness := (true, "997963b1d69ef967379bc5fe21c4dc02051f11975a491647623d93911fbd687d"), looks := false }, kinds := [], alts := [], laidByText := true, laidKinds := [.data, .data], laidTests := true, laidLooks := .later }
def FramesApartCardSaid : Prop := Claim7.holds Tryd.pinned (.plain (OpenSpec.ofChange framesApartSpec)) framesApartCard

/-- THE TIED CARD OF 'doorwardlaw03.FramesList'. -/
def framesListCard : Claim7 := { stood := { row := framesListRow, standIns := [], harness := (true, "997963b1d69ef967379bc5fe21c4dc02051f11975a491647623d93911fbd687d"), looks := false }, kinds := [], alts := [], laidByText := true, laidKinds := [.data, .data], laidTests := true, laidLooks := .later }
def FramesListCardSaid : Prop := Claim7.holds Tryd.pinned (.plain (OpenSpec.ofChange framesListSpec)) framesListCard

/-- THE SECOND FORM's CARD OF 'doorwardlaw03.FramesPut'. -/
def framesPutUptoCard : Claim7 := { stood := { row := framesPutUptoRow, standIns := [], harness := (true, "997963b1d69ef967379bc5fe21c4dc02051f11975a491647623d93911fbd687d"), looks := false }, kinds := [], alts := [], laidByText := true, laidKinds := [.data, .data], laidTests := true, laidLooks := .later }
def FramesPutUptoCardSaid : Prop := Claim7.holds Tryd.pinned (.plain (OpenSpec.upto framesPutSpec)) framesPutUptoCard

/-- THE SECOND FORM's CARD OF 'doorwardlaw03.FramesBack'. -/
def framesBackUptoCard : Claim7 := { stood := { row := framesBackUptoRow, standIns := [], harness := (true, "997963b1d69ef967379bc5fe21c4dc02051f11975a491647623d93911fbd687d"), looks := false }, kinds := [], alts := [], laidByText := true, laidKinds := [.data, .data], laidTests := true, laidLooks := .later }
def FramesBackUptoCardSaid : Prop := Claim7.holds Tryd.pinned (.plain (OpenSpec.upto framesBackSpec)) framesBackUptoCard

/-- THE SECOND FORM's CARD OF 'doorwardlaw03.FramesCut'. -/
def framesCutUptoCard : Claim7 := { stood := { row := framesCutUptoRow, standIns := [], harness := (true, "997963b1d69ef967379bc5fe21c4dc02051f11975a491647623d93911fbd687d"), looks := false }, kinds := [], alts := [], laidByText := true, laidKinds := [.data, .data], laidTests := true, laidLooks := .later }
def FramesCutUptoCardSaid : Prop := Claim7.holds Tryd.pinned (.plain (OpenSpec.upto framesCutSpec)) framesCutUptoCard

/-- THE SECOND FORM's CARD OF 'doorwardlaw03.FramesApart'. -/
def framesApartUptoCard : Claim7 := { stood := { row := framesApartUptoRow, standIns := [], harness := (true, "997963b1d69ef967379bc5fe21c4dc02051f11975a491647623d93911fbd687d"), looks := false }, kinds := [], alts := [], laidByText := true, laidKinds := [.data, .data], laidTests := true, laidLooks := .later }
def FramesApartUptoCardSaid : Prop := Claim7.holds Tryd.pinned (.plain (OpenSpec.upto framesApartSpec)) framesApartUptoCard

/-- THE SECOND FORM's CARD OF 'doorwardlaw03.FramesList'. -/
def framesListUptoCard : Claim7 := { stood := { row := framesListUptoRow, standIns := [], harness := (true, "997963b1d69ef967379bc5fe21c4dc02051f11975a491647623d93911fbd687d"), looks := false }, kinds := [], alts := [], laidByText := true, laidKinds := [.data, .data], laidTests := true, laidLooks := .later }
def FramesListUptoCardSaid : Prop := Claim7.holds Tryd.pinned (.plain (OpenSpec.upto framesListSpec)) framesListUptoCard
end Rows
end Go.Proofs.YtojlpnklmeeheaaDoor
