/-
  DERIVED. GIVEN WITH THE SEED: THE PROGRAM's TIES (one call each: nine closed facts by the kernel) AND EACH ROW's TIE, after the 31st guide's Derived/Test/Toyas{Tie, Card}.lean. No idea stands in it: it is a product of the set-up. Laid BY PROGRAM, IN A SANDBOX (cutbox-door.mjs). By AI agents, Wed Nov 11 2026. No macro, syntax, notation, axiom, sorry.
-/
import Derived.Test.YtfpflhcabjcamaaDoorRows
import Derived.LaidByTextLater
import Derived.SevenTiedAt
import Derived.LaidSub
import Derived.LaidOnce
namespace Go.Proofs.YtfpflhcabjcamaaDoor
open Go
set_option maxRecDepth 100000
theorem seatTie1 : Tryd.prog.laidByTextLater [("doorward/api.K", Rows.laid_doorward_api_K), ("doorward/api.First", Rows.laid_doorward_api_First), ("doorward/keys.labels", Rows.laid_doorward_keys_labels)] [.data, .data, .data] true :=
  Program.laidByTextLater_by_one 24 8 65 (by kernel_rfl) (by kernel_rfl) (by kernel_rfl) (by kernel_rfl) (by kernel_rfl) (by kernel_rfl) (fun _ _ => by kernel_rfl)
theorem noOwnUnsafe : Tryd.pinned.checked.prog.headLifts.contains "ownunsafe" = false := by kernel_rfl
theorem tie : Tryd.prog.laidByTextLater [("doorward/api.K", Rows.laid_doorward_api_K), ("doorward/api.First", Rows.laid_doorward_api_First), ("doorward/keys.labels", Rows.laid_doorward_keys_labels)] [.data, .data, .data] true :=
  Program.laidByTextLater.sub seatTie1 ["doorward/api.K", "doorward/api.First", "doorward/keys.labels"] (by kernel_rfl) (by kernel_rfl)
theorem keysAcross_row_tie : Rows.keysAcrossRow.laidByTextAt .later Tryd.pinned [.data, .data, .data] true :=
  OpenClaim.laidByTextAt_later rfl rfl tie noOwnUnsafe
theorem keysAcrossUpto_row_tie : Rows.keysAcrossUptoRow.laidByTextAt .later Tryd.pinned [.data, .data, .data] true :=
  OpenClaim.laidByTextAt_later rfl rfl tie noOwnUnsafe
end Go.Proofs.YtfpflhcabjcamaaDoor
