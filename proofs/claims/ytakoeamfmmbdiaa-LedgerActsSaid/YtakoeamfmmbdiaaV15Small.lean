/- Layer 15 (ledger): what only reads: Next, Acked, packets; and a nil ledger. -/
import Derived.Test.YtakoeamfmmbdiaaV15Led
import Derived.BigQuiet
import Derived.Deep.QuietTactic
import Derived.Lib.Hide
namespace Go.Proofs.Ytakoeamfmmbdiaa
open Go.RowKit

section
variable {base g next above : Nat} {T : Nat → Prop} {v : Value} {l : List It} {w : World}
theorem Next_any (h : LedAt w base g T v l next above) : Calls Try.prog 17 #[.pointer (some ⟨g, 0, none⟩)] w fun e w' => e = .returned (.int .i64 (next : Int)) ∧ w' = w := by
  have g1 := h.row.cell 1
  simp only [List.getElem?_cons_succ, List.getElem?_cons_zero] at g1
  clear h
  go_enter Try.func17, Try.ntmps17
  go_wp2
  go_ret
  exact ⟨rfl, rfl⟩
theorem Acked_any (h : LedAt w base g T v l next above) (ha : above < 4611686018427387904) : Calls Try.prog 18 #[.pointer (some ⟨g, 0, none⟩)] w fun e w' => e = .returned (.int .i64 ((above : Int) - 1)) ∧ w' = w := by
  have g2 := h.row.cell 2
  simp only [List.getElem?_cons_succ, List.getElem?_cons_zero] at g2
  have a1 : (above : Int) < 4611686018427387904 := by omega
  have a0 : (0 : Int) ≤ (above : Int) := by omega
  clear h ha
  go_enter Try.func18, Try.ntmps18
  go_wp2
  go_ret
  exact ⟨rfl, rfl⟩
theorem packets_any (h : LedAt w base g T v l next above) : Calls Try.prog 33 #[.pointer (some ⟨g, 0, none⟩)] w fun e w' => e = .returned v ∧ w' = w := by
  obtain ⟨A, c, rfl, _, _⟩ := shapeS h.own
  have g0 := h.row.cell 0
  simp only [List.getElem?_cons_zero] at g0
  clear h
  go_enter Try.func33, Try.ntmps33
  go_wp2
  go_ret
  exact ⟨rfl, rfl⟩
end
theorem Next_nil (w : World) : Calls Try.prog 17 #[.pointer none] w fun e w' => e = .returned (.int .i64 0) ∧ w' = w := by
  go_enter Try.func17, Try.ntmps17
  go_wp2
  go_ret
  exact ⟨rfl, rfl⟩
theorem Acked_nil (w : World) : Calls Try.prog 18 #[.pointer none] w fun e w' => e = .returned (.int .i64 (-1)) ∧ w' = w := by
  go_enter Try.func18, Try.ntmps18
  go_wp2
  go_ret
  exact ⟨rfl, rfl⟩
theorem packets_nil (w : World) : Calls Try.prog 33 #[.pointer none] w fun e w' => e = .returned (.slice none 0 0) ∧ w' = w := by
  go_enter Try.func33, Try.ntmps33
  go_wp2
  go_ret
  exact ⟨rfl, rfl⟩
end Go.Proofs.Ytakoeamfmmbdiaa
