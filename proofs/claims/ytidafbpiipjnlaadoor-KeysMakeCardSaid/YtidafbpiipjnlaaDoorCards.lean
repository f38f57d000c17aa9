/-
  DERIVED. GIVEN WITH THE SEED: THE CARDS: each row of YtidafbpiipjnlaaDoorRows.lean that lists a variable, with what it lists TIED to the program's text (the seventh form; the later family's looks); each row that meets fmt, with fmt's text TOLD by the authors' own Lean function (tested against real Go, not proved from fmt's source: count such statements apart). THE CARD IS WHAT COUNTS. Prove the row's statement (the work); the ties are given (YtidafbpiipjnlaaDoorTie.lean); close each card by the builder's one call (the guide's Derived/Test/ToyasCard.lean, 'card_holds'). Laid BY PROGRAM, IN A SANDBOX (cutbox-door.mjs). By AI agents, Wed Nov 11 2026. No macro, syntax, notation, axiom, sorry.
-/
import Derived.Test.YtidafbpiipjnlaaDoorRows
import GoSem.ClaimSeven
namespace Go.Proofs.YtidafbpiipjnlaaDoor
namespace Rows

/-- THE TIED CARD OF 'doorwardlaw10.KeysMake'. -/
def keysMakeCard : Claim7 := { stood := { row := keysMakeRow, standIns := [], harness := (true, "aafc42fdf091272aa2a2cbc4c1f347dbae2a63846854ffec8dfe0de6a6d8fc6d"), looks := false }, kinds := [], alts := [], laidByText := true, laidKinds := [.data, .data, .data], laidTests := true, laidLooks := .later }
def KeysMakeCardSaid : Prop := Claim7.holds Tryd.pinned (.plain (OpenSpec.ofChange keysMakeSpec)) keysMakeCard

/-- THE TIED CARD OF 'doorwardlaw10.KeysSeal'. -/
def keysSealCard : Claim7 := { stood := { row := keysSealRow, standIns := [], harness := (true, "aafc42fdf091272aa2a2cbc4c1f347dbae2a63846854ffec8dfe0de6a6d8fc6d"), looks := false }, kinds := [], alts := [], laidByText := true, laidKinds := [.data, .data, .data], laidTests := true, laidLooks := .later }
def KeysSealCardSaid : Prop := Claim7.holds Tryd.pinned (.plain (OpenSpec.ofChange keysSealSpec)) keysSealCard

/-- THE TIED CARD OF 'doorwardlaw10.KeysAcross'. -/
def keysAcrossCard : Claim7 := { stood := { row := keysAcrossRow, standIns := [], harness := (true, "aafc42fdf091272aa2a2cbc4c1f347dbae2a63846854ffec8dfe0de6a6d8fc6d"), looks := false }, kinds := [], alts := [], laidByText := true, laidKinds := [.data, .data, .data], laidTests := true, laidLooks := .later }
def KeysAcrossCardSaid : Prop := Claim7.holds Tryd.pinned (.plain (OpenSpec.ofChange keysAcrossSpec)) keysAcrossCard

/-- THE TIED CARD OF 'doorwardlaw10.KeysTurns'. -/
def keysTurnsCard : Claim7 := { stood := { row := keysTurnsRow, standIns := [], harness := (true, "aafc42fdf091272aa2a2cbc4c1f347dbae2a63846854ffec8dfe0de6a6d8fc6d"), looks := false }, kinds := [], alts := [], laidByText := true, laidKinds := [.data, .data, .data], laidTests := true, laidLooks := .later }
def KeysTurnsCardSaid : Prop := Claim7.holds Tryd.pinned (.plain (OpenSpec.ofChange keysTurnsSpec)) keysTurnsCard

/-- THE TIED CARD OF 'doorwardlaw10.KeysSized'. -/
def keysSizedCard : Claim7 := { stood := { row := keysSizedRow, standIns := [], harness := (true, "aafc42fdf091272aa2a2cbc4c1f347dbae2a63846854ffec8dfe0de6a6d8fc6d"), looks := false }, kinds := [], alts := [], laidByText := true, laidKinds := [.data, .data, .data], laidTests := true, laidLooks := .later }
def KeysSizedCardSaid : Prop := Claim7.holds Tryd.pinned (.plain (OpenSpec.ofChange keysSizedSpec)) keysSizedCard

/-- THE SECOND FORM's CARD OF 'doorwardlaw10.KeysMake'. -/
def keysMakeUptoCard : Claim7 := { stood := { row := keysMakeUptoRow, standIns := [], harness := (true, "aafc42fdf091272aa2a2cbc4c1f347dbae2a63846854ffec8dfe0de6a6d8fc6d"), looks := false }, kinds := [], alts := [], laidByText := true, laidKinds := [.data, .data, .data], laidTests := true, laidLooks := .later }
def KeysMakeUptoCardSaid : Prop := Claim7.holds Tryd.pinned (.plain (OpenSpec.upto keysMakeSpec)) keysMakeUptoCard

/-- THE SECOND FORM's CARD OF 'doorwardlaw10.KeysSeal'. -/
def keysSealUptoCard : Claim7 := { stood := { row := keysSealUptoRow, standIns := [], harness := (true, "aafc42fdf091272aa2a2cbc4c1f347dbae2a63846854ffec8dfe0de6a6d8fc6d"), looks := false }, kinds := [], alts := [], laidByText := true, laidKinds := [.data, .data, .data], laidTests := true, laidLooks := .later }
def KeysSealUptoCardSaid : Prop := Claim7.holds Tryd.pinned (.plain (OpenSpec.upto keysSealSpec)) keysSealUptoCard

/-- THE SECOND FORM's CARD OF 'doorwardlaw10.KeysAcross'. -/
def keysAcrossUptoCard : Claim7 := { stood := { row := keysAcrossUptoRow, standIns := [], harness := (true, "aafc42fdf091272aa2a2cbc4c1f347dbae2a63846854ffec8dfe0de6a6d8fc6d"), looks := false }, kinds := [], alts := [], laidByText := true, laidKinds := [.data, .data, .data], laidTests := true, laidLooks := .later }
def KeysAcrossUptoCardSaid : Prop := Claim7.holds Tryd.pinned (.plain (OpenSpec.upto keysAcrossSpec)) keysAcrossUptoCard

/-- THE SECOND FORM's CARD OF 'doorwardlaw10.KeysTurns'. -/
def keysTurnsUptoCard : Claim7 := { stood := { row := keysTurnsUptoRow, standIns := [], harness := (true, "aafc42fdf091272aa2a2cbc4c1f347dbae2a63846854ffec8dfe0de6a6d8fc6d"), looks := false }, kinds := [], alts := [], laidByText := true, laidKinds := [.data, .data, .data], laidTests := true, laidLooks := .later }
def KeysTurnsUptoCardSaid : Prop := Claim7.holds Tryd.pinned (.plain (OpenSpec.upto keysTurnsSpec)) keysTurnsUptoCard

/-- THE SECOND FORM's CARD OF 'doorwardlaw10.KeysSized'. -/
def keysSizedUptoCard : Claim7 := { stood := { row := keysSizedUptoRow, standIns := [], harness := (true, "aafc42fdf091272aa2a2cbc4c1f347dbae2a63846854ffec8dfe0de6a6d8fc6d"), looks := false }, kinds := [], alts := [], laidByText := true, laidKinds := [.data, .data, .data], laidTests := true, laidLooks := .later }
def KeysSizedUptoCardSaid : Prop := Claim7.holds Tryd.pinned (.plain (OpenSpec.upto keysSizedSpec)) keysSizedUptoCard
end Rows
end Go.Proofs.YtidafbpiipjnlaaDoor
