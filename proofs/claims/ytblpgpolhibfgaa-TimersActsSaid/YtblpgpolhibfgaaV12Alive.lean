/- Layer 12 (timers): a queue of the call's own, and the document's example: alive. -/
import Derived.Test.YtblpgpolhibfgaaV12Drop
namespace Go.Proofs.Ytblpgpolhibfgaa
open Go.RowKit

/-- A queue whose blocks the call itself has laid. -/
def QO (w : World) (base q : Nat) (S : List Tm) : Prop := ∃ mp, QIs w q mp S ∧ ∀ b, QB q mp b → base ≤ b
theorem QO.quiet {w w' : World} {base q : Nat} {S : List Tm} (h : QO w base q S) (hc : Chg none_ w w') : QO w' base q S := by
  obtain ⟨mp, h1, h2⟩ := h
  exact ⟨mp, h1.quiet hc, h2⟩
theorem QO.drew {w : World} {base q : Nat} {S : List Tm} (h : QO w base q S) : QO w.drew base q S := h.quiet (Chg.refl _ _).drew
theorem QO.ok {w : World} {base q : Nat} {S : List Tm} (h : QO w base q S) : (∀ t ∈ S, TOk t) ∧ Srt S ∧ S.length ≤ 200 ∧ (∀ t ∈ S, t.at_ ≠ NV) := by
  obtain ⟨mp, h1, _⟩ := h
  exact h1.ok
theorem chg_past {w0 w w' : World} {base : Nat} {S : Nat → Prop} (hS : ∀ b, S b → base ≤ b) (h0 : w0.heap.size ≤ base) (h : Chg none_ w0 w) (hc : Chg S w w') : Chg none_ w0 w' :=
  h.andThen hc (fun b hb hs => by have := hS b hs; omega)

theorem New_own (w : World) : Calls Try.prog 18 #[] w fun e w' => e = .returned (.pointer (some ⟨w.heap.size, 0, none⟩)) ∧ QO w' w.heap.size w.heap.size [] ∧ Chg none_ w w' :=
  (New_any w).mono (fun _ _ ⟨a, b, c, _⟩ => ⟨a, ⟨none, b, fun b hb => by
    rcases hb with hb | hb
    · omega
    · cases hb⟩, c⟩)
theorem Set_own (base q : Nat) (S : List Tm) (t : Tm) (ht : TOk t) (w0 w : World) (h0 : w0.heap.size ≤ base) (hb : base ≤ w.heap.size) (hc0 : Chg none_ w0 w) (h : QO w base q S) :
    Calls Try.prog 11 #[.pointer (some ⟨q, 0, none⟩), .agg (tcell t).toArray] w fun e w' => e = .returned (.bool (setB t S)) ∧ QO w' base q (setS t S) ∧ Chg none_ w0 w' := by
  obtain ⟨mp, h1, h2⟩ := h
  refine (Set_any q mp S t ht w h1).mono ?_
  rintro e w' ⟨a, ⟨mp', hm, hq⟩, hc⟩
  refine ⟨a, ⟨mp', hq, fun b hb' => ?_⟩, chg_past h2 h0 hc0 hc⟩
  rcases hm with rfl | ⟨rfl, g, rfl, hg⟩
  · exact h2 b hb'
  · rcases hb'.two with rfl | rfl
    · exact h2 _ (Or.inl rfl)
    · omega
theorem Cancel_own (base q : Nat) (S : List Tm) (k : Int × Int) (hk : KOk k) (w0 w : World) (h0 : w0.heap.size ≤ base) (hc0 : Chg none_ w0 w) (h : QO w base q S) :
    Calls Try.prog 12 #[.pointer (some ⟨q, 0, none⟩), .int .i64 k.1, .int .i64 k.2] w fun e w' => e = .returned (.bool (hasS k S)) ∧ QO w' base q (remS k S) ∧ Chg none_ w0 w' := by
  obtain ⟨mp, h1, h2⟩ := h
  exact (Cancel_any q mp S k hk w h1).mono (fun e w' ⟨a, hq, hc⟩ => ⟨a, ⟨mp, hq, h2⟩, chg_past h2 h0 hc0 hc⟩)
theorem Due_own (base q : Nat) (S : List Tm) (now : Nat) (w0 w : World) (h0 : w0.heap.size ≤ base) (hc0 : Chg none_ w0 w) (h : QO w base q S) :
    Calls Try.prog 10 #[.pointer (some ⟨q, 0, none⟩), .int .u64 (now : Int)] w fun e w' => e = .returned (.tuple #[.agg (tcell ((dueS now S).elim zT (·.1))).toArray, .bool (dueS now S).isSome]) ∧ QO w' base q ((dueS now S).elim S (·.2)) ∧ Chg none_ w0 w' := by
  obtain ⟨mp, h1, h2⟩ := h
  exact (Due_any q mp S now w h1).mono (fun e w' ⟨a, hq, hc⟩ => ⟨a, ⟨mp, hq, h2⟩, chg_past h2 h0 hc0 hc⟩)
theorem Drop_own (base q : Nat) (S : List Tm) (c : Int) (hk : (Lit.int .i64 c).wf = true) (w0 w : World) (h0 : w0.heap.size ≤ base) (hc0 : Chg none_ w0 w) (h : QO w base q S) :
    Calls Try.prog 13 #[.pointer (some ⟨q, 0, none⟩), .int .i64 c] w fun e w' => e = .returned (.int .i64 ((S.length - (dropS c S).length : Nat) : Int)) ∧ QO w' base q (dropS c S) ∧ Chg none_ w0 w' := by
  obtain ⟨mp, h1, h2⟩ := h
  exact (Drop_any q mp S c hk w h1).mono (fun e w' ⟨a, hq, hc⟩ => ⟨a, ⟨mp, hq, h2⟩, chg_past h2 h0 hc0 hc⟩)
theorem Len_own (base q : Nat) (S : List Tm) (w : World) (h : QO w base q S) :
    Calls Try.prog 14 #[.pointer (some ⟨q, 0, none⟩)] w fun e w' => e = .returned (.int .i64 ((S.length : Nat) : Int)) ∧ Chg none_ w w' := by
  obtain ⟨mp, h1, _⟩ := h
  exact Len_any q mp S w h1
theorem Next_own (base q : Nat) (S : List Tm) (w : World) (h : QO w base q S) :
    Calls Try.prog 16 #[.pointer (some ⟨q, 0, none⟩)] w fun e w' => e = .returned (.int .u64 ((nextS S : Nat) : Int)) ∧ Chg none_ w w' := by
  obtain ⟨mp, h1, _⟩ := h
  exact Next_any q mp S w h1
theorem At_own (base q : Nat) (S : List Tm) (k : Int × Int) (hk : KOk k) (w : World) (h : QO w base q S) :
    Calls Try.prog 17 #[.pointer (some ⟨q, 0, none⟩), .int .i64 k.1, .int .i64 k.2] w fun e w' => e = .returned (.int .u64 ((atS k S : Nat) : Int)) ∧ Chg none_ w w' := by
  obtain ⟨mp, h1, _⟩ := h
  exact At_any q mp S k hk w h1
theorem List_own (base q : Nat) (S : List Tm) (w : World) (h : QO w base q S) :
    Calls Try.prog 15 #[.pointer (some ⟨q, 0, none⟩)] w fun e w' => ∃ v, e = .returned v ∧ OwnedT w' w.heap.size v S ∧ Chg none_ w w' := by
  obtain ⟨mp, h1, _⟩ := h
  exact List_any q mp S w h1
theorem two_ret {w : World} : w = w := rfl

set_option maxRecDepth 100000 in
set_option maxHeartbeats 4000000 in
theorem alive_any (w : World) : Calls Try.prog 9 #[] w fun e w' => e = .returned (.bool true) ∧ Chg none_ w w' := by
  have HN := Lib.hid (New_own w)
  obtain ⟨q, hq⟩ : ∃ q, q = w.heap.size := ⟨_, rfl⟩
  have H0 : Hid (w.heap.size ≤ q) := Lib.hid (by omega)
  rw [← hq] at HN
  have HS1 : Hid (∀ w1, Chg none_ w w1 → QO w1 q q [] → Calls Try.prog 11 #[.pointer (some ⟨q, 0, none⟩), .agg #[.int .u64 5, .int .i64 1, .int .i64 0]] w1 fun e w' => e = .returned (.bool true) ∧ QO w' q q [⟨5, 1, 0⟩] ∧ Chg none_ w w') := Lib.hid (fun w1 hc h => Set_own q q [] ⟨5, 1, 0⟩ ⟨by decide, by decide, by decide⟩ w w1 H0.out (by have := hc.size; omega) hc h)
  have HS2 : Hid (∀ w1, Chg none_ w w1 → QO w1 q q [⟨5, 1, 0⟩] → Calls Try.prog 11 #[.pointer (some ⟨q, 0, none⟩), .agg #[.int .u64 9, .int .i64 1, .int .i64 0]] w1 fun e w' => e = .returned (.bool true) ∧ QO w' q q [⟨9, 1, 0⟩] ∧ Chg none_ w w') := Lib.hid (fun w1 hc h => Set_own q q [⟨5, 1, 0⟩] ⟨9, 1, 0⟩ ⟨by decide, by decide, by decide⟩ w w1 H0.out (by have := hc.size; omega) hc h)
  have HS3 : Hid (∀ w1, Chg none_ w w1 → QO w1 q q [⟨9, 1, 0⟩] → Calls Try.prog 11 #[.pointer (some ⟨q, 0, none⟩), .agg #[.int .u64 7, .int .i64 2, .int .i64 3]] w1 fun e w' => e = .returned (.bool true) ∧ QO w' q q [⟨7, 2, 3⟩, ⟨9, 1, 0⟩] ∧ Chg none_ w w') := Lib.hid (fun w1 hc h => Set_own q q [⟨9, 1, 0⟩] ⟨7, 2, 3⟩ ⟨by decide, by decide, by decide⟩ w w1 H0.out (by have := hc.size; omega) hc h)
  have HX1 : Hid (∀ w1, QO w1 q q [⟨7, 2, 3⟩, ⟨9, 1, 0⟩] → Calls Try.prog 16 #[.pointer (some ⟨q, 0, none⟩)] w1 fun e w' => e = .returned (.int .u64 7) ∧ Chg none_ w1 w') := Lib.hid (fun w1 h => Next_own q q _ w1 h)
  have HD1 : Hid (∀ w1, Chg none_ w w1 → QO w1 q q [⟨7, 2, 3⟩, ⟨9, 1, 0⟩] → Calls Try.prog 10 #[.pointer (some ⟨q, 0, none⟩), .int .u64 8] w1 fun e w' => e = .returned (.tuple #[.agg #[.int .u64 7, .int .i64 2, .int .i64 3], .bool true]) ∧ QO w' q q [⟨9, 1, 0⟩] ∧ Chg none_ w w') := Lib.hid (fun w1 hc h => Due_own q q _ 8 w w1 H0.out hc h)
  have HD2 : Hid (∀ w1, QO w1 q q [⟨9, 1, 0⟩] → Calls Try.prog 10 #[.pointer (some ⟨q, 0, none⟩), .int .u64 8] w1 fun e w' => e = .returned (.tuple #[.agg #[.int .u64 0, .int .i64 0, .int .i64 0], .bool false]) ∧ Chg none_ w1 w') := Lib.hid (fun w1 h => by
    obtain ⟨mp, h1, _⟩ := h
    exact Due_late q mp ⟨9, 1, 0⟩ [] 8 w1 h1 (by decide))
  have HX2 : Hid (∀ w1, QO w1 q q [⟨9, 1, 0⟩] → Calls Try.prog 16 #[.pointer (some ⟨q, 0, none⟩)] w1 fun e w' => e = .returned (.int .u64 9) ∧ Chg none_ w1 w') := Lib.hid (fun w1 h => Next_own q q _ w1 h)
  have HA : Hid (∀ w1, QO w1 q q [⟨9, 1, 0⟩] → Calls Try.prog 17 #[.pointer (some ⟨q, 0, none⟩), .int .i64 1, .int .i64 0] w1 fun e w' => e = .returned (.int .u64 9) ∧ Chg none_ w1 w') := Lib.hid (fun w1 h => At_own q q _ (1, 0) ⟨by decide, by decide⟩ w1 h)
  have HL : Hid (∀ w1, QO w1 q q [⟨9, 1, 0⟩] → Calls Try.prog 14 #[.pointer (some ⟨q, 0, none⟩)] w1 fun e w' => e = .returned (.int .i64 1) ∧ Chg none_ w1 w') := Lib.hid (fun w1 h => Len_own q q _ w1 h)
  have HLI : Hid (∀ w1, QO w1 q q [⟨9, 1, 0⟩] → Calls Try.prog 15 #[.pointer (some ⟨q, 0, none⟩)] w1 fun e w' => ∃ A cap, e = .returned (.slice A 1 cap) ∧ Chg none_ w1 w') := Lib.hid (fun w1 h => (List_own q q _ w1 h).mono (fun e w' ⟨v, a, ho, hc⟩ => by
    obtain ⟨A, cap, hv, _⟩ := ho.view
    exact ⟨A, cap, by rw [a, hv]; rfl, hc⟩))
  have HCA : Hid (∀ w1, Chg none_ w w1 → QO w1 q q [⟨9, 1, 0⟩] → Calls Try.prog 12 #[.pointer (some ⟨q, 0, none⟩), .int .i64 1, .int .i64 0] w1 fun e w' => e = .returned (.bool true) ∧ QO w' q q [] ∧ Chg none_ w w') := Lib.hid (fun w1 hc h => Cancel_own q q _ (1, 0) ⟨by decide, by decide⟩ w w1 H0.out hc h)
  have HX3 : Hid (∀ w1, QO w1 q q [] → Calls Try.prog 16 #[.pointer (some ⟨q, 0, none⟩)] w1 fun e w' => e = .returned (.int .u64 18446744073709551615) ∧ Chg none_ w1 w') := Lib.hid (fun w1 h => Next_own q q _ w1 h)
  have HDR : Hid (∀ w1, Chg none_ w w1 → QO w1 q q [] → Calls Try.prog 13 #[.pointer (some ⟨q, 0, none⟩), .int .i64 1] w1 fun e w' => e = .returned (.int .i64 0) ∧ QO w' q q [] ∧ Chg none_ w w') := Lib.hid (fun w1 hc h => Drop_own q q _ 1 (by decide) w w1 H0.out hc h)
  clear hq
  go_enter Try.func9, Try.ntmps9
  go_wp2_with (first | (go_at_call 18; refine (HN.out).mono ?_; rintro e w9 ⟨rfl, hqo, hc⟩; have HQ0 := Lib.hid hqo; have HC := Lib.hid hc; clear hqo hc) | (go_at_call_of 11 (Value.int IntKind.u64 5); refine (HS1.out _ HC.out HQ0.out).mono ?_; rintro e w9 ⟨rfl, hqo, hc⟩; have HQ1 := Lib.hid hqo; have HC := Lib.hid hc; clear hqo hc HQ0) | (go_at_call_of 11 (Value.int IntKind.u64 9); refine (HS2.out _ HC.out HQ1.out).mono ?_; rintro e w9 ⟨rfl, hqo, hc⟩; have HQ2 := Lib.hid hqo; have HC := Lib.hid hc; clear hqo hc HQ1) | (go_at_call_of 11 (Value.int IntKind.u64 7); refine (HS3.out _ HC.out HQ2.out).mono ?_; rintro e w9 ⟨rfl, hqo, hc⟩; have HQ3 := Lib.hid hqo; have HC := Lib.hid hc; clear hqo hc HQ2) | (go_at_call 16; refine (HX1.out _ HQ3.out).mono ?_; rintro e w9 ⟨rfl, hc⟩; have HC := Lib.hid (HC.out.trans hc); have HQ4 := Lib.hid (HQ3.out.quiet hc); clear hc HQ3) | (go_at_call 10; refine (HD1.out _ HC.out HQ4.out).mono ?_; rintro e w9 ⟨rfl, hqo, hc⟩; have HQ5 := Lib.hid hqo; have HC := Lib.hid hc; clear hqo hc HQ4) | (go_at_call 10; refine (HD2.out _ (HQ5.out.quiet ((Chg.refl none_ _).alloc _))).mono ?_; rintro e w9 ⟨rfl, hc⟩; have ct := fun o => (((Row.new _ 27 [.int .u64 7, .int .i64 2, .int .i64 3]).chg hc (fun h => h)).alloc o).cell 1; simp only [List.getElem?_cons_zero, List.getElem?_cons_succ] at ct; have HQ6 := Lib.hid (HQ5.out.quiet (((Chg.refl none_ _).alloc _).trans hc)); have HC := Lib.hid ((HC.out.alloc _).trans hc); clear hc HQ5) | (go_at_call 16; refine (HX2.out _ (HQ6.out.quiet ((Chg.refl none_ _).alloc _))).mono ?_; rintro e w9 ⟨rfl, hc⟩; have HQ7 := Lib.hid (HQ6.out.quiet (((Chg.refl none_ _).alloc _).trans hc)); have HC := Lib.hid ((HC.out.alloc _).trans hc); clear hc HQ6) | (go_at_call 17; refine (HA.out _ HQ7.out).mono ?_; rintro e w9 ⟨rfl, hc⟩; have HC := Lib.hid (HC.out.trans hc); have HQ8 := Lib.hid (HQ7.out.quiet hc); clear hc HQ7) | (go_at_call 14; refine (HL.out _ HQ8.out).mono ?_; rintro e w9 ⟨rfl, hc⟩; have HC := Lib.hid (HC.out.trans hc); have HQ9 := Lib.hid (HQ8.out.quiet hc); clear hc HQ8) | (go_at_call 15; refine (HLI.out _ HQ9.out).mono ?_; rintro e w9 ⟨AL, capL, rfl, hc⟩; have HC := Lib.hid (HC.out.trans hc); have HQA := Lib.hid (HQ9.out.quiet hc); clear hc HQ9) | (go_at_call 12; refine (HCA.out _ HC.out HQA.out).mono ?_; rintro e w9 ⟨rfl, hqo, hc⟩; have HQB := Lib.hid hqo; have HC := Lib.hid hc; clear hqo hc HQA) | (go_at_call 16; refine (HX3.out _ HQB.out).mono ?_; rintro e w9 ⟨rfl, hc⟩; have HC := Lib.hid (HC.out.trans hc); have HQC := Lib.hid (HQB.out.quiet hc); clear hc HQB) | (go_at_call 13; refine (HDR.out _ HC.out HQC.out).mono ?_; rintro e w9 ⟨rfl, hqo, hc⟩; have HQD := Lib.hid hqo; have HC := Lib.hid hc; clear hqo hc HQC))
  go_ret
  exact ⟨rfl, HC.out⟩
end Go.Proofs.Ytblpgpolhibfgaa
