/- What the rows' listed variables give: the table of math/bits holds its numbers. -/
import Derived.Test.YtlkklfkfhebpgaaDoorRows
import Derived.Test.YtlkklfkfhebpgaaDoorV1Wide
import Derived.ProofKit
import Derived.LaidMore
import Derived.Stop.Joined
import Derived.Stop.LaidErr
import Derived.Lib.LaidTab
namespace Go.Proofs.YtlkklfkfhebpgaaDoor
open Go.RowKit

theorem own : ownKnob Tryd.prog.godebug = none := by kernel_rfl
theorem laidOut : laidOutB Tryd.prog = true := by kernel_rfl
/-- All that this seat's rows list. -/
def laidAll : List (String × DataW Unit) := Rows.framesCutRow.laid
theorem gTab : Tryd.prog.globalNamed (laidAll.getD 1 ("", .nil)).1 = some 1 := by kernel_rfl
theorem gTabType : (Tryd.prog.globals[1]?).map (·.type) = some 95 := by kernel_rfl
theorem cells64 : Tryd.prog.cellsOf 95 = 64 := by kernel_rfl
theorem cells5 : Tryd.prog.cellsOf 5 = 1 := by kernel_rfl
def tab64 : List Int := [0, 1, 56, 2, 57, 49, 28, 3, 61, 58, 42, 50, 38, 29, 17, 4, 62, 47, 59, 36, 45, 43, 51, 22, 53, 39, 33, 30, 24, 18, 12, 5, 63, 55, 48, 27, 60, 41, 37, 16, 46, 35, 44, 21, 52, 32, 23, 11, 54, 26, 40, 15, 34, 20, 31, 10, 25, 14, 19, 9, 13, 8, 7, 6]
theorem laidAll_eq : laidAll = [laidAll.getD 0 ("", .nil), ((laidAll.getD 1 ("", .nil)).1, Lib.tabData .u8 tab64)] := rfl

theorem tab_of_laid {W : World} (h : laidMetH Tryd.prog laidAll W) : Tab W := by
  rw [MakeChecks.laidMetH_plain _ _ _ (by kernel_rfl), laidAll_eq] at h
  have ht : Lib.TabIs Tryd.prog W (laidAll.getD 1 ("", .nil)).1 .u8 tab64 :=
    Lib.tabIs_of_head (rest := []) gTab gTabType Tryd.underlying95 Tryd.underlying5 cells5 cells64 h.tail
  have hc := fun i hi => ht.cell gTab i hi
  have h0 := hc 0 (by decide)
  exact ⟨World.block_lt_of_cell? W _ h0, h0, hc 1 (by decide), hc 3 (by decide), hc 7 (by decide)⟩

/-- The door's own heap meets the condition. -/
theorem door_met (os : Os) (args : Array Value) : laidMetH Tryd.prog laidAll ((World.doorLaid Tryd.prog 400 os).forCall (fun _ _ => 0) ⟨#[], args, []⟩).memory :=
  laidMetH_of_parts3 (fuel := 8) (laidMet_of_run' 8 (by kernel_rfl) (by kernel_rfl)) (by kernel_rfl) (by kernel_rfl)
end Go.Proofs.YtlkklfkfhebpgaaDoor
