/- Layer 1 (varint): Byte. -/
import Derived.Test.YtlcffjmbfpdlbaaDoorV1Reads
namespace Go.Proofs.YtlcffjmbfpdlbaaDoor
open Go.RowKit

theorem byte_nil (w : World) : Calls Tryd.prog 73 #[.pointer none] w fun e w' => e = .returned (.int .u8 0) ∧ w = w' := by
  have HN := Lib.hid (next_nil w 1)
  go_enter Tryd.func73, Tryd.ntmps73
  go_wp2_with (first | (go_at_call 83; refine HN.out.mono ?_; rintro e w1 ⟨rfl, rfl⟩))
  go_ret
  exact ⟨rfl, rfl⟩

theorem byte_ok (w : World) (g : Nat) (T : Nat → Prop) (x : Nat) (xs : List Nat) (h : Rd w g T (x :: xs) 0) (hT : ¬ T g) :
    Calls Tryd.prog 73 #[.pointer (some ⟨g, 0, none⟩)] w fun e w' => e = .returned (.int .u8 (x : Int)) ∧ Rd w' g T xs 0 ∧ Chg (· = g) w w' := by
  have HN := Lib.hid (next_ok w g T (x :: xs) 1 h hT (by simp))
  clear h
  go_enter Tryd.func73, Tryd.ntmps73
  go_wp2_with fail
  refine HN.out.mono ?_
  rintro e w1 ⟨A, cap, rfl, hc, hv, hr, hch⟩
  obtain ⟨b, o, rfl, _, _, hcell⟩ := hv.at_ (i := 0) (by omega)
  simp at hcell
  have H1 := Lib.hid hr
  have H2 := Lib.hid hch
  clear hr hch hv
  go_wp2
  go_ret
  exact ⟨rfl, H1.out, H2.out⟩

theorem byte_no (w : World) (g : Nat) (T : Nat → Prop) (xs : List Nat) (bad : Int) (h : Rd w g T xs bad) (hn : bad ≠ 0 ∨ xs.length < 1) :
    Calls Tryd.prog 73 #[.pointer (some ⟨g, 0, none⟩)] w fun e w' => e = .returned (.int .u8 0) ∧ Rd w' g T [] (badOf bad) ∧ Chg (· = g) w w' := by
  have HN := Lib.hid (next_no w g T xs bad 1 h hn)
  clear h hn
  go_enter Tryd.func73, Tryd.ntmps73
  go_wp2_with (first | (go_at_call 83; refine HN.out.mono ?_; rintro e w1 ⟨rfl, hr, hch⟩))
  go_ret
  exact ⟨rfl, hr, hch⟩
end Go.Proofs.YtlcffjmbfpdlbaaDoor
