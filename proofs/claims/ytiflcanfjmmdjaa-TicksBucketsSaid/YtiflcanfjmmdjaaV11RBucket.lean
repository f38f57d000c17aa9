/- Layer 11 (ticks): buckets, the document's. -/
import Derived.Test.YtiflcanfjmmdjaaV11Bucket
import Derived.Deep.RegionHeld3
namespace Go.Proofs.Ytiflcanfjmmdjaa
open Go.RowKit

theorem sizeRb : (Try.prog.info? 34).map (·.size) = some 4 := by kernel_rfl

set_option maxRecDepth 100000 in
set_option maxHeartbeats 4000000 in
theorem by_any (g S E t u now : Nat) (h : BkOk S E t u) (hn : now < 18446744073709551616) (w : World) (hr : Row w g 34 (bk S E t u)) :
    Calls Try.prog 23 #[.pointer (some ⟨g, 0, none⟩), .int .u64 (now : Int)] w fun e w' => e = .returned (.tuple #[]) ∧ Row w' g 34 (bk S E (atN S E t u now).1 (atN S E t u now).2) ∧ Chg (· = g) w w' := by
  obtain ⟨hS, hE0, hE, ht, hu⟩ := h
  have f0 : w.cell? ⟨g, 0, none⟩ = some (.int .u64 (S : Int)) := hr.cell 0
  have f1 : w.cell? ⟨g, 1, none⟩ = some (.int .u64 (E : Int)) := hr.cell 1
  have f2 : w.cell? ⟨g, 2, none⟩ = some (.int .u64 (t : Int)) := hr.cell 2
  have f3 : w.cell? ⟨g, 3, none⟩ = some (.int .u64 (u : Int)) := hr.cell 3
  have g2 := hr.frozen 2
  have g3 := hr.frozen 3
  have HR := Lib.hid hr
  by_cases h1 : now < u
  · have e1 : atN S E t u now = (t, u) := by unfold atN; rw [if_pos h1]
    rw [e1]
    have h2 : (now : Int) < (u : Int) := by omega
    clear hr
    go_enter Try.func23, Try.ntmps23
    go_wp2
    refine bodyPost_ret (results_none rfl _ _ _) rfl ?_
    exact ⟨rfl, HR.out, Chg.refl _ _⟩
  have h2 : ¬ (now : Int) < (u : Int) := by omega
  obtain ⟨room, hrm⟩ : ∃ r, r = S - t := ⟨_, rfl⟩
  have hr2 : (S : Int) - (t : Int) = (room : Int) := by omega
  have hE2 : ((E : Int) == 0) = false := by rw [beq_eq_false_iff_ne]; omega
  obtain ⟨c, hc⟩ : ∃ c, c = (now - u) / E := ⟨_, rfl⟩
  have hc2 : ((now : Int) - (u : Int)) / (E : Int) = (c : Int) := by rw [hc, ← Int.ofNat_sub (show u ≤ now by omega)]; simp
  by_cases hf : room ≤ c
  · have e1 : atN S E t u now = (S, now) := by unfold atN; rw [if_neg h1, if_pos (by omega)]
    rw [e1]
    have hf2 : (room : Int) ≤ (c : Int) := by omega
    have HX := Lib.hid ((hr.set 2 (.int .u64 (S : Int))).set 3 (.int .u64 (now : Int)))
    clear hc hr
    go_enter Try.func23, Try.ntmps23
    go_wp2
    go_region
    simp only [hc2]
    go_wp2
    go_region
    go_wp2
    refine bodyPost_end (results_none rfl _ _ _) rfl ?_
    exact ⟨rfl, HX.out.drew.drew, ((((Chg.refl (fun x => x = g) w).setCell (p := ⟨g, 2, none⟩) (fun _ => rfl) _).setCell (p := ⟨g, 3, none⟩) (fun _ => rfl) _).drew).drew⟩
  · have e1 : atN S E t u now = (t + c, u + c * E) := by unfold atN; rw [if_neg h1, ← hc, if_neg (by omega)]
    have hle : c * E ≤ now - u := by rw [hc]; exact Nat.div_mul_le_self _ _
    rw [e1]
    have hf2 : ¬ (room : Int) ≤ (c : Int) := by omega
    have k1 : IntKind.u64.wrap ((t : Int) + (c : Int)) = ((t + c : Nat) : Int) := wrapN (t + c) (by omega)
    have k2 : IntKind.u64.wrap ((c : Int) * (E : Int)) = ((c * E : Nat) : Int) := wrapN (c * E) (by omega)
    generalize c * E = ce at *
    have k3 : IntKind.u64.wrap ((u : Int) + (ce : Int)) = ((u + ce : Nat) : Int) := wrapN (u + ce) (by omega)
    have HX := Lib.hid ((hr.set 2 (.int .u64 ((t + c : Nat) : Int))).set 3 (.int .u64 ((u + ce : Nat) : Int)))
    clear hc hr
    go_enter Try.func23, Try.ntmps23
    go_wp2
    go_region
    simp only [hc2]
    go_wp2
    go_region
    go_wp2
    go_region
    go_wp2
    refine bodyPost_end (results_none rfl _ _ _) rfl ?_
    exact ⟨rfl, HX.out.drew.drew.drew, (((((Chg.refl (fun x => x = g) w).setCell (p := ⟨g, 2, none⟩) (fun _ => rfl) _).setCell (p := ⟨g, 3, none⟩) (fun _ => rfl) _).drew).drew).drew⟩

set_option maxRecDepth 100000 in
set_option maxHeartbeats 4000000 in
theorem rtake_any (g S E t u now : Nat) (h : BkOk S E t u) (hn : now < 18446744073709551616) (w : World) (hr : Row w g 34 (bk S E t u)) :
    Calls Try.prog 24 #[.pointer (some ⟨g, 0, none⟩), .int .u64 (now : Int)] w fun e w' => e = .returned (.bool (decide (0 < (atN S E t u now).1))) ∧ Row w' g 34 (bk S E (takeN (atN S E t u now).1) (atN S E t u now).2) ∧ Chg (· = g) w w' := by
  have HBY := Lib.hid (by_any g S E t u now h hn w hr)
  have hb := at_bound S E t u now h hn
  generalize (atN S E t u now).1 = t' at *
  generalize (atN S E t u now).2 = u' at *
  have ht : t' < 18446744073709551616 := by have := hb.t; have := hb.s; omega
  clear hr
  by_cases hz : t' = 0
  · subst hz
    go_enter Try.func24, Try.ntmps24
    go_wp2_with (go_at_call 23; refine (HBY.out).mono ?_; rintro e w1 ⟨rfl, hr1, hc1⟩; have f2 := hr1.bk2; have HR1 := Lib.hid hr1; have HC1 := Lib.hid hc1; clear hr1 hc1)
    go_ret
    exact ⟨rfl, HR1.out, HC1.out⟩
  · have hz2 : ((t' : Int) == 0) = false := by rw [beq_eq_false_iff_ne]; omega
    have hd : decide (0 < t') = true := by simp; omega
    rw [hd]
    have hp : (t' : Int) - 1 = ((takeN t' : Nat) : Int) := by unfold takeN; omega
    have hp1 : 0 < (t' : Int) := by omega
    have HSET := Lib.hid (fun (w : World) (hr : Row w g 34 (bk S E t' u')) => hr.set 2 (.int .u64 ((takeN t' : Nat) : Int)))
    generalize takeN t' = tt at *
    go_enter Try.func24, Try.ntmps24
    go_wp2_with (go_at_call 23; refine (HBY.out).mono ?_; rintro e w1 ⟨rfl, hr1, hc1⟩; have f2 := hr1.bk2; have g2 := hr1.frozen 2; have HR1 := Lib.hid hr1; have HC1 := Lib.hid hc1; clear hr1 hc1)
    go_ret
    exact ⟨rfl, HSET.out _ HR1.out, HC1.out.setCell (fun _ => rfl) _⟩
end Go.Proofs.Ytiflcanfjmmdjaa
