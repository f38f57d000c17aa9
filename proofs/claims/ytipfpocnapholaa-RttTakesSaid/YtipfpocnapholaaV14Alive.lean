/- Layer 14 (rtt): an estimator of the call's own, and the document's example: alive. -/
import Derived.Test.YtipfpocnapholaaV14Est2
namespace Go.Proofs.Ytipfpocnapholaa
open Go.RowKit

/-- An estimator that the call has made lies in block g; all that stood at its start stands. -/
structure EO (w0 w : World) (g : Nat) (s : Est) : Prop where
  at_ : EstAt w g s
  ok : s.Ok
  chg : Chg none_ w0 w
  new : w0.heap.size ≤ g

theorem EO.quiet {w0 w w' : World} {g : Nat} {s : Est} (h : EO w0 w g s) (hc : Chg none_ w w') : EO w0 w' g s :=
  ⟨h.at_.chg hc (fun h => h), h.ok, h.chg.trans hc, h.new⟩
theorem EO.new_any (gu : Nat) (w0 w : World) (hc : Chg none_ w0 w) : Calls Try.prog 17 #[.int .u64 (gu : Int)] w fun e w' => e = .returned (.pointer (some ⟨w.heap.size, 0, none⟩)) ∧ EO w0 w' w.heap.size (newE gu) :=
  (rNew_any gu w).mono fun _ _ ⟨a, b, c, _⟩ => ⟨a, b, newE_ok gu, hc.trans c, hc.size⟩
theorem EO.take {w0 w : World} {g : Nat} {s : Est} (h : EO w0 w g s) (t d : Nat) : Calls Try.prog 10 #[.pointer (some ⟨g, 0, none⟩), .int .u64 (t : Int), .int .u64 (d : Int)] w fun e w' => e = .returned (.tuple #[]) ∧ EO w0 w' g (takeE s t d) :=
  (rTake_any g s t d h.ok w h.at_).mono fun _ _ ⟨a, b, c⟩ => ⟨a, b, takeE_ok s h.ok t d, h.chg.andThen c (fun k hk (e : k = g) => by have := h.new; omega), h.new⟩
theorem EO.probe {w0 w : World} {g : Nat} {s : Est} (h : EO w0 w g s) (d : Nat) (c : Int) : Calls Try.prog 15 #[.pointer (some ⟨g, 0, none⟩), .int .u64 (d : Int), .int .i64 c] w fun e w' => e = .returned (.int .u64 (probeE s d c : Nat)) ∧ EO w0 w' g s :=
  (rProbe_any g s d c h.ok w h.at_).mono fun _ _ ⟨a, b⟩ => ⟨a, h.quiet b⟩
theorem EO.loss {w0 w : World} {g : Nat} {s : Est} (h : EO w0 w g s) : Calls Try.prog 16 #[.pointer (some ⟨g, 0, none⟩)] w fun e w' => e = .returned (.int .u64 (lossE s : Nat)) ∧ EO w0 w' g s :=
  (rLoss_any g s h.ok w h.at_).mono fun _ _ ⟨a, b⟩ => ⟨a, h.quiet b⟩

def e1_ : Est := ⟨40, 20, 40, 40, true⟩
def e2_ : Est := ⟨42, 19, 40, 56, true⟩
theorem take1 : takeE (newE 100) 40 9 = e1_ := by simp [takeE, takeH, newE, heldN, MT, e1_]
theorem take2 : takeE e1_ 56 0 = e2_ := by simp [takeE, takeH, heldN, MT, e1_, e2_, adjN, farN]
theorem probe0 : probeE (newE 100) 0 0 = 300 := by simp [probeE, probeS, newE, heldN, MT, boffN, NV]
theorem probe2 : probeE e2_ 1 1 = 238 := by simp [probeE, probeS, e2_, heldN, MT, boffN, NV]
theorem loss2 : lossE e2_ = 63 := by simp [lossE, e2_]

set_option maxRecDepth 100000 in
set_option maxHeartbeats 4000000 in
theorem alive_any (w : World) : Calls Try.prog 9 #[] w fun e w' => e = .returned (.bool true) ∧ Chg none_ w w' := by
  have HN : Hid (Calls Try.prog 17 #[.int .u64 100] w fun e w' => e = .returned (.pointer (some ⟨w.heap.size, 0, none⟩)) ∧ EO w w' w.heap.size (newE 100)) := Lib.hid (EO.new_any 100 w w (Chg.refl _ _))
  obtain ⟨g, hg⟩ : ∃ g, g = w.heap.size := ⟨_, rfl⟩
  rw [← hg] at HN
  clear hg
  have HP0 : Hid (∀ w1, EO w w1 g (newE 100) → Calls Try.prog 15 #[.pointer (some ⟨g, 0, none⟩), .int .u64 0, .int .i64 0] w1 fun e w' => e = .returned (.int .u64 300) ∧ EO w w' g (newE 100)) := Lib.hid (fun w1 h => by have := h.probe 0 0; rw [probe0] at this; exact this)
  have HT1 : Hid (∀ w1, EO w w1 g (newE 100) → Calls Try.prog 10 #[.pointer (some ⟨g, 0, none⟩), .int .u64 40, .int .u64 9] w1 fun e w' => e = .returned (.tuple #[]) ∧ EO w w' g e1_) := Lib.hid (fun w1 h => by have := h.take 40 9; rw [take1] at this; exact this)
  have HS1 : Hid (∀ w1, EO w w1 g e1_ → Calls Try.prog 11 #[.pointer (some ⟨g, 0, none⟩)] w1 fun e w' => e = .returned (.int .u64 40) ∧ w' = w1) := Lib.hid (fun w1 h => rSmooth_any g e1_ w1 h.at_)
  have HV1 : Hid (∀ w1, EO w w1 g e1_ → Calls Try.prog 12 #[.pointer (some ⟨g, 0, none⟩)] w1 fun e w' => e = .returned (.int .u64 20) ∧ w' = w1) := Lib.hid (fun w1 h => rVar_any g e1_ w1 h.at_)
  have HT2 : Hid (∀ w1, EO w w1 g e1_ → Calls Try.prog 10 #[.pointer (some ⟨g, 0, none⟩), .int .u64 56, .int .u64 0] w1 fun e w' => e = .returned (.tuple #[]) ∧ EO w w' g e2_) := Lib.hid (fun w1 h => by have := h.take 56 0; rw [take2] at this; exact this)
  have HS2 : Hid (∀ w1, EO w w1 g e2_ → Calls Try.prog 11 #[.pointer (some ⟨g, 0, none⟩)] w1 fun e w' => e = .returned (.int .u64 42) ∧ w' = w1) := Lib.hid (fun w1 h => rSmooth_any g e2_ w1 h.at_)
  have HV2 : Hid (∀ w1, EO w w1 g e2_ → Calls Try.prog 12 #[.pointer (some ⟨g, 0, none⟩)] w1 fun e w' => e = .returned (.int .u64 19) ∧ w' = w1) := Lib.hid (fun w1 h => rVar_any g e2_ w1 h.at_)
  have HL2 : Hid (∀ w1, EO w w1 g e2_ → Calls Try.prog 13 #[.pointer (some ⟨g, 0, none⟩)] w1 fun e w' => e = .returned (.int .u64 40) ∧ w' = w1) := Lib.hid (fun w1 h => rLeast_any g e2_ w1 h.at_)
  have HA2 : Hid (∀ w1, EO w w1 g e2_ → Calls Try.prog 14 #[.pointer (some ⟨g, 0, none⟩)] w1 fun e w' => e = .returned (.int .u64 56) ∧ w' = w1) := Lib.hid (fun w1 h => rLatest_any g e2_ w1 h.at_)
  have HD2 : Hid (∀ w1, EO w w1 g e2_ → Calls Try.prog 16 #[.pointer (some ⟨g, 0, none⟩)] w1 fun e w' => e = .returned (.int .u64 63) ∧ EO w w' g e2_) := Lib.hid (fun w1 h => by have := h.loss; rw [loss2] at this; exact this)
  have HP2 : Hid (∀ w1, EO w w1 g e2_ → Calls Try.prog 15 #[.pointer (some ⟨g, 0, none⟩), .int .u64 1, .int .i64 1] w1 fun e w' => e = .returned (.int .u64 238) ∧ EO w w' g e2_) := Lib.hid (fun w1 h => by have := h.probe 1 1; rw [probe2] at this; exact this)
  go_enter Try.func9, Try.ntmps9
  go_wp2_with (first | (go_at_call 17; refine (HN.out).mono ?_; rintro e w9 ⟨rfl, h9⟩; have HE0 := Lib.hid h9; clear h9) | (go_at_call_of 15 (Value.int IntKind.i64 1); refine (HP2.out _ HE.out).mono ?_; rintro e w9 ⟨rfl, h9⟩; have HE := Lib.hid h9; clear h9) | (go_at_call 15; refine (HP0.out _ HE0.out).mono ?_; rintro e w9 ⟨rfl, h9⟩; have HE0 := Lib.hid h9; clear h9) | (go_at_call_of 10 (Value.int IntKind.u64 56); refine (HT2.out _ HE1.out).mono ?_; rintro e w9 ⟨rfl, h9⟩; have HE := Lib.hid h9; clear h9) | (go_at_call 10; refine (HT1.out _ HE0.out).mono ?_; rintro e w9 ⟨rfl, h9⟩; have HE1 := Lib.hid h9; clear h9) | (go_at_call 11; refine (HS2.out _ HE.out).mono ?_; rintro e w9 ⟨rfl, rfl⟩) | (go_at_call 11; refine (HS1.out _ HE1.out).mono ?_; rintro e w9 ⟨rfl, rfl⟩) | (go_at_call 12; refine (HV2.out _ HE.out).mono ?_; rintro e w9 ⟨rfl, rfl⟩) | (go_at_call 12; refine (HV1.out _ HE1.out).mono ?_; rintro e w9 ⟨rfl, rfl⟩) | (go_at_call 13; refine (HL2.out _ HE.out).mono ?_; rintro e w9 ⟨rfl, rfl⟩) | (go_at_call 14; refine (HA2.out _ HE.out).mono ?_; rintro e w9 ⟨rfl, rfl⟩) | (go_at_call 16; refine (HD2.out _ HE.out).mono ?_; rintro e w9 ⟨rfl, h9⟩; have HE := Lib.hid h9; clear h9))
  go_ret
  exact ⟨rfl, HE.out.chg⟩
end Go.Proofs.Ytipfpocnapholaa
