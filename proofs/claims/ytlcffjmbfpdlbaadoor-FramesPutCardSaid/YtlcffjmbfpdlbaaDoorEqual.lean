/- bytes.Equal, over views: for every layer. -/
import Derived.Test.YtlcffjmbfpdlbaaDoorProg
import Derived.Test.YtlcffjmbfpdlbaaDoorStrView
import Derived.Test.YtlcffjmbfpdlbaaDoorBase
import Derived.BigQuiet
import Derived.Deep.QuietTactic
import Derived.Lib.Hide
import Derived.ChangeKeysEq
namespace Go.Proofs.YtlcffjmbfpdlbaaDoor
open Go.RowKit

theorem bytesEqual_any (w : World) (T T' : Nat → Prop) (A A' : Option Addr) (c c' : Nat) (l l' : List Nat) (h : View w T A l.length (u8s l)) (h' : View w T' A' l'.length (u8s l')) (hl : ∀ x ∈ l, x < 256) (hl' : ∀ x ∈ l', x < 256) :
    Calls Tryd.prog 22 #[.slice A l.length c, .slice A' l'.length c'] w fun e w' => e = .returned (.bool (decide (l = l'))) ∧ w = w' := by
  have h1 := run_string_view w T A l.length c l h
  have h2 := run_string_view w T' A' l'.length c' l' h'
  have HE := Lib.hid (strOfNums_beq l l' hl hl')
  clear h h' hl hl'
  go_enter Tryd.func22, Tryd.ntmps22
  go_wp2
  go_ret
  exact ⟨ret_bool HE.out, rfl⟩
end Go.Proofs.YtlcffjmbfpdlbaaDoor
