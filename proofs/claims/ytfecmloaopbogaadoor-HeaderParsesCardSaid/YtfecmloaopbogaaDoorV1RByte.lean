/- Layer 1 (varint), the document's answer: Byte. -/
import Derived.Test.YtfecmloaopbogaaDoorV1RInt
namespace Go.Proofs.YtfecmloaopbogaaDoor
open Go.RowKit

theorem rbyte_no (w : World) (g : Nat) (T : Nat → Prop) (bs : List Nat) (at_ : Nat) (bad : Int) (h : RR w g T bs at_ bad) (hT : ¬ T g) (hn : bad ≠ 0 ∨ bs.length - at_ < 1) :
    Calls Tryd.prog 41 #[.pointer (some ⟨g, 0, none⟩)] w fun e w' => e = .returned (.int .u8 0) ∧ RR w' g T bs at_ (badOf bad) ∧ Chg (· = g) w w' := by
  have HB := Lib.hid (rbytes_no w g T bs at_ bad 1 h hT hn)
  clear h hn
  go_enter Tryd.func41, Tryd.ntmps41
  go_wp2_with (go_at_call 42; refine HB.out.mono ?_; rintro e w' ⟨rfl, hr, hc⟩)
  go_ret
  exact ⟨rfl, hr, hc⟩

theorem rbyte_ok (w : World) (g : Nat) (T : Nat → Prop) (bs : List Nat) (at_ : Nat) (h : RR w g T bs at_ 0) (hT : ¬ T g) (hn : 1 ≤ bs.length - at_) :
    Calls Tryd.prog 41 #[.pointer (some ⟨g, 0, none⟩)] w fun e w' => e = .returned (.int .u8 ((bs.getD at_ 0 : Nat) : Int)) ∧ RR w' g T bs (at_ + 1) 0 ∧ Chg (· = g) w w' := by
  have HB := Lib.hid (rbytes_ok w g T bs at_ 1 h hT hn)
  have hd : ((bs.drop at_).take 1).getD 0 0 = bs.getD at_ 0 := by
    simp [List.getD_eq_getElem?_getD, List.getElem?_drop]
  obtain ⟨x, hx⟩ : ∃ x, bs.getD at_ 0 = x := ⟨_, rfl⟩
  rw [hx] at hd ⊢
  have HD := Lib.hid hd
  clear h hd hx
  go_enter Tryd.func41, Tryd.ntmps41
  go_wp2_with fail
  refine HB.out.mono ?_
  rintro e w' ⟨A, cap, rfl, hc, hv, hr, hch⟩
  obtain ⟨b, o, rfl, _, _, hcell⟩ := hv.at_ (i := 0) (by omega)
  rw [HD.out] at hcell
  simp only [Nat.add_zero] at hcell
  have H1 := Lib.hid hr
  have H2 := Lib.hid hch
  clear hv hr hch
  go_wp2
  go_ret
  exact ⟨rfl, H1.out, H2.out⟩
end Go.Proofs.YtfecmloaopbogaaDoor
