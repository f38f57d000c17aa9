/- What the rows' listed variables give: SHA-256's constants and first state, and the keys' labels. -/
import Derived.Test.YtfpflhcabjcamaaDoorRows
import Derived.Test.YtfpflhcabjcamaaDoorV10Keys
import Derived.Test.YtfpflhcabjcamaaDoorLaidStr
import Derived.Test.YtfpflhcabjcamaaDoorHashOpen
import Derived.ProofKit
import Derived.LaidMore
import Derived.Stop.Joined
import Derived.Stop.LaidErr
import Derived.Lib.LaidTab
namespace Go.Proofs.YtfpflhcabjcamaaDoor
open Go.RowKit

theorem own : ownKnob Tryd.prog.godebug = none := by kernel_rfl
theorem laidOut : laidOutB Tryd.prog = true := by kernel_rfl
/-- All that this seat's rows list. -/
def laidAll : List (String × DataW Unit) := Rows.keysAcrossRow.laid
theorem gK : Tryd.prog.globalNamed (laidAll.getD 0 ("", .nil)).1 = some 2 := by kernel_rfl
theorem gF : Tryd.prog.globalNamed (laidAll.getD 1 ("", .nil)).1 = some 1 := by kernel_rfl
theorem gL : Tryd.prog.globalNamed (laidAll.getD 2 ("", .nil)).1 = some 0 := by kernel_rfl
theorem gKType : (Tryd.prog.globals[2]?).map (·.type) = some 112 := by kernel_rfl
theorem gFType : (Tryd.prog.globals[1]?).map (·.type) = some 77 := by kernel_rfl
theorem gLType : (Tryd.prog.globals[0]?).map (·.type) = some 53 := by kernel_rfl
theorem cellsK64 : Tryd.prog.cellsOf 112 = 64 := by kernel_rfl
theorem cellsF8 : Tryd.prog.cellsOf 77 = 8 := by kernel_rfl
theorem cellsL7 : Tryd.prog.cellsOf 53 = 7 := by kernel_rfl
theorem cellsU32 : Tryd.prog.cellsOf 76 = 1 := by kernel_rfl
theorem cellsStr : Tryd.prog.cellsOf 9 = 1 := by kernel_rfl
def kI : List Int := kN.map fun (x : Nat) => (x : Int)
def fI : List Int := first8.list.map fun (x : Nat) => (x : Int)
theorem laidAll_eq : laidAll = [((laidAll.getD 0 ("", .nil)).1, Lib.tabData .u32 kI), ((laidAll.getD 1 ("", .nil)).1, Lib.tabData .u32 fI), ((laidAll.getD 2 ("", .nil)).1, strData labelS)] := rfl

theorem getD_int (l : List Nat) (i : Nat) : (l.map fun (x : Nat) => (x : Int)).getD i 0 = ((l.getD i 0 : Nat) : Int) := by
  rw [List.getD_eq_getElem?_getD, List.getD_eq_getElem?_getD, List.getElem?_map]
  cases l[i]? <;> rfl

theorem tab_of_laid {W : World} (h : laidMetH Tryd.prog laidAll W) : KTab W := by
  rw [MakeChecks.laidMetH_plain _ _ _ (by kernel_rfl), laidAll_eq] at h
  have hk : Lib.TabIs Tryd.prog W (laidAll.getD 0 ("", .nil)).1 .u32 kI :=
    Lib.tabIs_of_head gK gKType Tryd.underlying112 Tryd.underlying76 cellsU32 cellsK64 h
  have hf : Lib.TabIs Tryd.prog W (laidAll.getD 1 ("", .nil)).1 .u32 fI :=
    Lib.tabIs_of_head gF gFType Tryd.underlying77 Tryd.underlying76 cellsU32 cellsF8 h.tail
  have hl : StrsAre Tryd.prog W (laidAll.getD 2 ("", .nil)).1 labelS :=
    strsAre_of_head (rest := []) gL gLType Tryd.underlying53 Tryd.underlying9 cellsStr cellsL7 h.tail.tail
  have ck := fun i hi => hk.cell gK i hi
  have cf := fun i hi => hf.cell gF i hi
  have cl := fun i hi => hl.cell gL i hi
  refine ⟨⟨World.block_lt_of_cell? W _ (ck 0 (by decide)), World.block_lt_of_cell? W _ (cf 0 (by decide)), fun i hi => ?_, fun j v hv => ?_⟩, World.block_lt_of_cell? W _ (cl 0 (by decide)), fun i hi => cl i hi⟩
  · have := ck i (by simpa [kI, kN_len] using hi)
    rw [show kI.getD i 0 = ((kN.getD i 0 : Nat) : Int) from getD_int kN i] at this
    exact this
  · have hj : j < 8 := by
      rcases Nat.lt_or_ge j 8 with h | h
      · exact h
      · rw [List.getElem?_eq_none (by rw [u32s_length]; exact h)] at hv; cases hv
    have := cf j hj
    rw [show fI.getD j 0 = ((first8.list.getD j 0 : Nat) : Int) from getD_int first8.list j] at this
    rw [Nat.zero_add, this, ← hv, u32s_get, List.getD_eq_getElem?_getD, List.getElem?_eq_getElem (show j < first8.list.length from hj)]
    rfl

/-- The door's own heap meets the condition. -/
theorem door_met (os : Os) (args : Array Value) : laidMetH Tryd.prog laidAll ((World.doorLaid Tryd.prog 400 os).forCall (fun _ _ => 0) ⟨#[], args, []⟩).memory :=
  laidMetH_of_parts3 (fuel := 8) (laidMet_of_run' 8 (by kernel_rfl) (by kernel_rfl)) (by kernel_rfl) (by kernel_rfl)
end Go.Proofs.YtfpflhcabjcamaaDoor
