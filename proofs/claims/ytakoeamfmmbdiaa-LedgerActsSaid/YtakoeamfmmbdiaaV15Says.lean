/- Layer 15 (ledger): what its closures say; are there such ranges. -/
import Derived.Test.YtakoeamfmmbdiaaV15Apart
import Derived.Test.YtakoeamfmmbdiaaV15Part
import Derived.Test.YtakoeamfmmbdiaaV11Add
import Derived.BigQuiet
import Derived.Deep.QuietTactic
import Derived.Deep.RegionHeld3
import Derived.Lib.Hide
import Derived.StillTailTactics
namespace Go.Proofs.Ytakoeamfmmbdiaa
open Go.RowKit

/-- What a closure says of ranges, and nothing is turned. -/
def SaysR (fn : Nat) (cb : Array Value) (q : Nat × Nat → Bool) (r : List (Nat × Nat)) (w : World) : Prop :=
  (∀ args w, (callFunc fn args).run Try.prog w = .ok (.enter fn args) w) ∧ ∀ W x, x ∈ r → Chg none_ w W → Calls Try.prog fn (#[.agg (rgc x).toArray] ++ cb) W fun e w' => e = .returned (.bool (q x)) ∧ Chg none_ W w'

theorem sizeRg : (Try.prog.info? 63).map (·.size) = some 2 := by kernel_rfl
theorem rgc_len (x : Nat × Nat) : (rgc x).length = 2 := rfl
set_option maxRecDepth 100000 in
set_option maxHeartbeats 1000000 in
theorem IndexFunc_any (fn : Nat) (cb : Array Value) (q : Nat × Nat → Bool) (r : List (Nat × Nat)) (T : Nat → Prop) (A : Option Addr) (c : Nat) (w : World) (hv : View w T A (r.length * 2) (r.flatMap rgc)) (hl : r.length ≤ 1000000) (hf : SaysR fn cb q r w) :
    Calls Try.prog 40 #[.slice A r.length c, .func (.func fn) #[] cb] w fun e w' => ∃ i : Int, e = .returned (.int .i64 i) ∧ decide (0 ≤ i) = r.any q ∧ Chg none_ w w' := by
  have HV := Lib.hid hv
  have HF := Lib.hid hf
  clear hv hf
  go_enter Try.func40, Try.ntmps40
  go_wp2
  go_loopw [8] (fun i wr => ∃ k : Nat, i = .int .i64 (k : Int) ∧ k ≤ r.length ∧ Hid (Chg none_ w wr) ∧ Hid (∀ j, j < k → q (r.getD j (0, 0)) = false)) (fun i _ => r.length - (intOf i).toNat)
  case atStart => exact ⟨0, rfl, Nat.zero_le _, Lib.hid (Chg.refl _ _), Lib.hid (fun j hj => absurd hj (by omega))⟩
  case round =>
    obtain ⟨k, rfl, hk, HC, HP⟩ := hrel
    by_cases hlt : k < r.length
    · have k1 : (k : Int) < (r.length : Int) := by omega
      have k0 : (0 : Int) ≤ (k : Int) := by omega
      obtain ⟨b, o, rfl, hb, _, hra⟩ := (HV.out.chg HC.out (fun _ _ h => h)).elemAt rgc_len (by decide) (0, 0) hlt
      have hm : r.getD k (0, 0) ∈ r := getD_mem (0, 0) hlt
      have hr := hra k hlt
      obtain ⟨x, hx⟩ : ∃ x, r.getD k (0, 0) = x := ⟨_, rfl⟩
      rw [hx] at hr hm
      have HRX := Lib.hid hr
      have HX := Lib.hid hx
      have HQX : Hid (Calls Try.prog fn (#[.agg (rgc x).toArray] ++ cb) wr fun e w' => e = .returned (.bool (q x)) ∧ Chg none_ wr w') := Lib.hid (HF.out.2 wr x hm HC.out)
      have eg := HF.out.1
      clear hra hr hx hb
      cases hq : q x with
      | true =>
        rw [hq] at HQX
        have HA : Hid (r.any q = true) := Lib.hid (List.any_eq_true.2 ⟨x, hm, hq⟩)
        clear hq hm
        go_wp2_with (first | ((with_reducible show wpList _ _ _ (⟨some 15, .load _ _, _, _, _, _⟩ :: _) _ _); refine wpList_load_Mid (cs := rgc x) rfl rfl rfl HRX.out Try.underlying63 rfl sizeRg ?_) | ((with_reducible show Calls _ _ _ _ _); refine HQX.out.mono ?_; rintro e w6 ⟨rfl, hc6⟩; have HC6 := Lib.hid hc6; clear hc6))
        go_ret
        exact ⟨_, rfl, by rw [HA.out]; exact decide_eq_true k0, HC.out.trans HC6.out⟩
      | false =>
        rw [hq] at HQX
        have HQ := Lib.hid hq
        clear hq hm
        go_wp2_with (first | ((with_reducible show wpList _ _ _ (⟨some 15, .load _ _, _, _, _, _⟩ :: _) _ _); refine wpList_load_Mid (cs := rgc x) rfl rfl rfl HRX.out Try.underlying63 rfl sizeRg ?_) | ((with_reducible show Calls _ _ _ _ _); refine HQX.out.mono ?_; rintro e w6 ⟨rfl, hc6⟩; have HC6 := Lib.hid hc6; clear hc6))
        go_roundw
        case rel =>
          refine ⟨k + 1, by go_num, by omega, Lib.hid (HC.out.trans HC6.out), Lib.hid (fun j hj => ?_)⟩
          rcases Nat.lt_or_ge j k with h | h
          · exact HP.out j h
          · rw [show j = k by omega, HX.out]; exact HQ.out
        case measure => simp [intOf]; omega
    · have hke : k = r.length := by omega
      subst hke
      have HA : Hid (r.any q = false) := Lib.hid (by
        rw [List.any_eq_false]
        intro x hx
        obtain ⟨j, hj, e⟩ := List.mem_iff_getElem.1 hx
        have := HP.out j hj
        rw [getD_lt (0, 0) hj, e] at this
        simp [this])
      clear hlt hk
      go_wp2
      go_ret
      exact ⟨_, rfl, by rw [HA.out]; rfl, HC.out⟩
set_option maxHeartbeats 1000000 in
theorem ContainsFunc_any (fn : Nat) (cb : Array Value) (q : Nat × Nat → Bool) (r : List (Nat × Nat)) (T : Nat → Prop) (A : Option Addr) (c : Nat) (w : World) (hv : View w T A (r.length * 2) (r.flatMap rgc)) (hl : r.length ≤ 1000000) (hf : SaysR fn cb q r w) :
    Calls Try.prog 27 #[.slice A r.length c, .func (.func fn) #[] cb] w fun e w' => e = .returned (.bool (r.any q)) ∧ Chg none_ w w' := by
  have HI := Lib.hid (IndexFunc_any fn cb q r T A c w hv hl hf)
  clear hv hf
  go_enter Try.func27, Try.ntmps27
  go_wp2_with (go_at_call 40; refine HI.out.mono ?_; rintro e w1 ⟨i, rfl, hi, hc⟩; have HD := Lib.hid hi; have HC := Lib.hid hc; clear hi hc)
  go_ret
  exact ⟨ret_bool HD.out, HC.out⟩

set_option maxRecDepth 100000 in
set_option maxHeartbeats 2000000 in
theorem ack1_any (lo hi next pl g : Nat) (w : World) (hl : w.cell? ⟨pl, 0, none⟩ = some (.pointer (some ⟨g, 0, none⟩))) (hn : w.cell? ⟨g, 1, none⟩ = some (.int .i64 (next : Int))) (hx : next < 4611686018427387904) :
    Calls Try.prog 28 #[.agg (rgc (lo, hi)).toArray, .pointer (some ⟨pl, 0, none⟩)] w fun e w' => e = .returned (.bool (decide (lo ≤ hi) && decide (next ≤ hi))) ∧ Chg none_ w w' := by
  have hw : IntKind.u64.wrap (next : Int) = (next : Int) := wrapN next (by omega)
  by_cases h1 : lo ≤ hi
  · have q1 : decide ((lo : Int) ≤ (hi : Int)) = true := by simpa using h1
    have q2 : decide (lo ≤ hi) = true := by simpa using h1
    have HD : Hid ((decide (lo ≤ hi) && decide (next ≤ hi)) = decide (next ≤ hi)) := Lib.hid (by rw [decide_eq_true h1, Bool.true_and])
    clear h1
    go_enter Try.func28, Try.ntmps28
    go_wp2_with (((with_reducible show wpList _ _ _ (⟨some 2, .box _ _, _, _, _, _⟩ :: _) _ _); refine wpList_box_Row rfl rfl (rgc (lo, hi)) rfl ?_; intro w1 hr1 hc1 hs1; have HC1 := Lib.hid hc1; have x0 := hr1.cell 0; have x1 := hr1.cell 1; simp only [rgc, List.getElem?_cons_zero, List.getElem?_cons_succ] at x0 x1; have l0 := (hc1.cell 0 (World.block_lt_of_cell? _ _ hl) (fun h => h)).trans hl; have n0 := (hc1.cell 1 (World.block_lt_of_cell? _ _ hn) (fun h => h)).trans hn; clear hr1 hc1 hs1))
    go_quiet (fail)
    go_wp2
    go_ret
    exact ⟨ret_bool HD.out.symm, HC1.out.drewN _⟩
  · have q1 : decide ((lo : Int) ≤ (hi : Int)) = false := by simpa using h1
    have q2 : decide (lo ≤ hi) = false := by simpa using h1
    have HD : Hid ((decide (lo ≤ hi) && decide (next ≤ hi)) = false) := Lib.hid (by rw [decide_eq_false h1, Bool.false_and])
    clear h1
    go_enter Try.func28, Try.ntmps28
    go_wp2_with (((with_reducible show wpList _ _ _ (⟨some 2, .box _ _, _, _, _, _⟩ :: _) _ _); refine wpList_box_Row rfl rfl (rgc (lo, hi)) rfl ?_; intro w1 hr1 hc1 hs1; have HC1 := Lib.hid hc1; have x0 := hr1.cell 0; have x1 := hr1.cell 1; simp only [rgc, List.getElem?_cons_zero, List.getElem?_cons_succ] at x0 x1; have l0 := (hc1.cell 0 (World.block_lt_of_cell? _ _ hl) (fun h => h)).trans hl; have n0 := (hc1.cell 1 (World.block_lt_of_cell? _ _ hn) (fun h => h)).trans hn; clear hr1 hc1 hs1))
    go_quiet (fail)
    go_wp2
    go_ret
    exact ⟨ret_bool HD.out.symm, HC1.out.drewN _⟩

set_option maxRecDepth 100000 in
set_option maxHeartbeats 2000000 in
theorem ack21_any (lo hi n pn : Nat) (w : World) (hn : w.cell? ⟨pn, 0, none⟩ = some (.int .u64 (n : Int))) :
    Calls Try.prog 31 #[.agg (rgc (lo, hi)).toArray, .pointer (some ⟨pn, 0, none⟩)] w fun e w' => e = .returned (.bool (decide (lo ≤ n) && decide (n ≤ hi))) ∧ Chg none_ w w' := by
  by_cases h1 : lo ≤ n
  · have q1 : decide ((lo : Int) ≤ (n : Int)) = true := by simpa using h1
    have q2 : decide (lo ≤ n) = true := by simpa using h1
    have HD : Hid ((decide (lo ≤ n) && decide (n ≤ hi)) = decide (n ≤ hi)) := Lib.hid (by rw [decide_eq_true h1, Bool.true_and])
    clear h1
    go_enter Try.func31, Try.ntmps31
    go_wp2_with (((with_reducible show wpList _ _ _ (⟨some 2, .box _ _, _, _, _, _⟩ :: _) _ _); refine wpList_box_Row rfl rfl (rgc (lo, hi)) rfl ?_; intro w1 hr1 hc1 hs1; have HC1 := Lib.hid hc1; have x0 := hr1.cell 0; have x1 := hr1.cell 1; simp only [rgc, List.getElem?_cons_zero, List.getElem?_cons_succ] at x0 x1; have n0 := (hc1.cell 0 (World.block_lt_of_cell? _ _ hn) (fun h => h)).trans hn; clear hr1 hc1 hs1))
    go_ret
    exact ⟨ret_bool (by first | rfl | exact HD.out.symm), HC1.out⟩
  · have q1 : decide ((lo : Int) ≤ (n : Int)) = false := by simpa using h1
    have q2 : decide (lo ≤ n) = false := by simpa using h1
    have HD : Hid ((decide (lo ≤ n) && decide (n ≤ hi)) = false) := Lib.hid (by rw [decide_eq_false h1, Bool.false_and])
    clear h1
    go_enter Try.func31, Try.ntmps31
    go_wp2_with (((with_reducible show wpList _ _ _ (⟨some 2, .box _ _, _, _, _, _⟩ :: _) _ _); refine wpList_box_Row rfl rfl (rgc (lo, hi)) rfl ?_; intro w1 hr1 hc1 hs1; have HC1 := Lib.hid hc1; have x0 := hr1.cell 0; have x1 := hr1.cell 1; simp only [rgc, List.getElem?_cons_zero, List.getElem?_cons_succ] at x0 x1; have n0 := (hc1.cell 0 (World.block_lt_of_cell? _ _ hn) (fun h => h)).trans hn; clear hr1 hc1 hs1))
    go_ret
    exact ⟨ret_bool (by first | rfl | exact HD.out.symm), HC1.out⟩

set_option maxRecDepth 100000 in
set_option maxHeartbeats 2000000 in
theorem ack2_any (x : It) (m pr c : Nat) (r : List (Nat × Nat)) (T : Nat → Prop) (A : Option Addr) (w : World) (hx : x.num = (m : Int)) (hm : m < 4611686018427387904) (hp : w.cell? ⟨pr, 0, none⟩ = some (.slice A r.length c)) (hv : View w T A (r.length * 2) (r.flatMap rgc)) (hl : r.length ≤ 1000000) :
    Calls Try.prog 30 #[.agg (itc x).toArray, .pointer (some ⟨pr, 0, none⟩)] w fun e w' => e = .returned (.bool (r.any fun y => decide (y.1 ≤ m) && decide (m ≤ y.2))) ∧ Chg none_ w w' := by
  have hw : IntKind.u64.wrap (m : Int) = (m : Int) := wrapN m (by omega)
  have HR : Hid (∀ W pn, Chg none_ w W → W.cell? ⟨pn, 0, none⟩ = some (.int .u64 (m : Int)) → Calls Try.prog 27 #[.slice A r.length c, .func (.func 31) #[] #[.pointer (some ⟨pn, 0, none⟩)]] W fun e w' => e = .returned (.bool (r.any fun y => decide (y.1 ≤ m) && decide (m ≤ y.2))) ∧ Chg none_ W w') := Lib.hid (fun W pn hc hpn =>
    ContainsFunc_any 31 #[.pointer (some ⟨pn, 0, none⟩)] (fun y => decide (y.1 ≤ m) && decide (m ≤ y.2)) r T A c W (hv.chg hc (fun _ _ h => h)) hl ⟨Try.call31, fun W' y _ hc' => ack21_any y.1 y.2 m pn W' ((hc'.cell 0 (World.block_lt_of_cell? _ _ hpn) (fun h => h)).trans hpn)⟩)
  clear hv
  go_enter Try.func30, Try.ntmps30
  go_wp2_with (first | ((with_reducible show wpList _ _ _ (⟨some 2, .box _ _, _, _, _, _⟩ :: _) _ _); refine wpList_box_Row rfl rfl (itc x) rfl ?_; intro w1 hr1 hc1 hs1; have HC1 := Lib.hid hc1; have x0 := hr1.cell 0; have x1 := hr1.cell 1; simp only [itc, List.getElem?_cons_zero, List.getElem?_cons_succ] at x0 x1; rw [hx] at x0; have p0 := (hc1.cell 0 (World.block_lt_of_cell? _ _ hp) (fun h => h)).trans hp; have pl0 := World.block_lt_of_cell? _ _ p0; clear hr1 hc1 hs1) | ((with_reducible show Calls _ 27 _ _ _); refine (HR.out _ w1.heap.size (HC1.out.alloc _) (by go_simp)).mono ?_; rintro e w9 ⟨rfl, hc9⟩; have HC9 := Lib.hid ((HC1.out.alloc _).trans hc9); clear hc9))
  go_ret
  exact ⟨rfl, HC9.out⟩

theorem drop1_any (x : It) (w : World) : Calls Try.prog 36 #[.agg (itc x).toArray] w fun e w' => e = .returned (.bool true) ∧ Chg none_ w w' := by
  go_enter Try.func36, Try.ntmps36
  go_wp2_with (((with_reducible show wpList _ _ _ (⟨some 1, .box _ _, _, _, _, _⟩ :: _) _ _); refine wpList_box_Row rfl rfl (itc x) rfl ?_; intro w1 hr1 hc1 hs1; have HC1 := Lib.hid hc1; clear hr1 hc1 hs1))
  go_ret
  exact ⟨rfl, HC1.out⟩
end Go.Proofs.Ytakoeamfmmbdiaa
