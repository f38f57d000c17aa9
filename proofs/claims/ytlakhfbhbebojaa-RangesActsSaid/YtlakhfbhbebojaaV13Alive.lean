/- Layer 13 (ranges): a set of the call's own, and the document's example: alive. -/
import Derived.Test.YtlakhfbhbebojaaV13Add
import Derived.Test.YtlakhfbhbebojaaV13RSame
namespace Go.Proofs.Ytlakhfbhbebojaa
open Go.RowKit Go.Shelf Go.Sort

theorem zeroSt : (Try.prog.info? 32).map (·.zero) = some (some (.agg #[.slice none 0 0, .int .u64 0])) := by kernel_rfl
theorem chg_own {w0 w w' : World} {g : Nat} (h0 : w0.heap.size ≤ g) (h : Chg none_ w0 w) (hc : Chg (· = g) w w') : Chg none_ w0 w' :=
  h.andThen hc (fun b hb (e : b = g) => by omega)
/-- A new set. -/
theorem SetG.new {w : World} {g B : Nat} (h : Row w g 32 [.slice none 0 0, .int .u64 0]) (hg : g < B) (hB : B ≤ w.heap.size) : SetG w B g [] 0 16 :=
  ⟨⟨none, 0, h, Nat.le_refl _, Nat.zero_le _, View.none_ _ _ _, hg, hB⟩, Good.zero 16⟩
theorem Add_own (B g y n : Nat) (l : List (Nat × Nat)) (w0 w : World) (h0 : w0.heap.size ≤ g) (hc0 : Chg none_ w0 w) (h : SetG w B g l y 16) :
    Calls Try.prog 9 #[.pointer (some ⟨g, 0, none⟩), .int .u64 (n : Int)] w fun e w' => e = .returned (.bool (newB l y n)) ∧ SetG w' B g (addT l y n).1 (addT l y n).2 16 ∧ Chg none_ w0 w' :=
  (Add_any g B y n l w h).mono fun _ _ ⟨a, b, c⟩ => ⟨a, b, chg_own h0 hc0 c⟩
theorem Forget_own (B g y n : Nat) (l : List (Nat × Nat)) (w0 w : World) (h0 : w0.heap.size ≤ g) (hc0 : Chg none_ w0 w) (h : SetG w B g l y 16) :
    Calls Try.prog 14 #[.pointer (some ⟨g, 0, none⟩), .int .u64 (n : Int)] w fun e w' => e = .returned (.int .i64 ((forgetN l y n : Nat) : Int)) ∧ SetG w' B g (forgetS l y n).1 (forgetS l y n).2 16 ∧ Chg none_ w0 w' :=
  (Forget_any g B y 16 n l w h (by decide)).mono fun _ _ ⟨a, b, c⟩ => ⟨a, b, chg_own h0 hc0 c⟩

theorem wpList_eqR {ops : Array Oper} {rest : List Oper} {o : Oper} {a : Act} {w : World} {Q : Exit → Act → World → Prop} (hw : Region.wanted o (yielded ops a.tmps) = true) (x y : Operand) {R : TypeId} (ho : o.op = .binOp .eql 41 x y R) (u v : Array Value) (hx : a.eval x = .agg u) (hy : a.eval y = .agg v) (b : Bool) (heq : ∀ w, (Op.equalIn 10000 41 (.agg u) (.agg v)).run Try.prog w = .ok b w)
    (k : wpList Try.prog ops Q rest (a.put o.dst (.bool b)) w) : wpList Try.prog ops Q (o :: rest) a w :=
  BigFrame.wpList_want hw fun _ hK => by
    have hg := run_eqGuard_agg (P := Try.prog) w .eql 41 x y u v Try.eqGuardType41
    have hh : (Op.equal 41 (.agg u) (.agg v)).run Try.prog w = .ok b w := heq w
    unfold Oper.wp execOp
    simp only [ho, hx, hy, Sem.run_bind, Sem.run_pure, Result.andThen_ok, hg, binOp, hh]
    exact hK _ _ k

set_option maxRecDepth 100000 in
set_option maxHeartbeats 4000000 in
theorem alive_any (w : World) : Calls Try.prog 8 #[] w fun e w' => e = .returned (.bool true) ∧ Chg none_ w w' := by
  obtain ⟨g, hg⟩ : ∃ g, g = w.heap.size := ⟨_, rfl⟩
  have H0 : Hid (w.heap.size ≤ g) := Lib.hid (by omega)
  have HA1 : Hid (∀ w1, Chg none_ w w1 → SetG w1 (g + 1) g [] 0 16 → Calls Try.prog 9 #[.pointer (some ⟨g, 0, none⟩), .int .u64 5] w1 fun e w' => e = .returned (.bool true) ∧ SetG w' (g + 1) g [(5, 5)] 0 16 ∧ Chg none_ w w') := Lib.hid (fun w1 hc h => by
    have := Add_own (g + 1) g 0 5 [] w w1 H0.out hc h
    rwa [show addT [] 0 5 = ([(5, 5)], 0) by decide +kernel, show newB [] 0 5 = true by decide +kernel] at this)
  have HA2 : Hid (∀ w1, Chg none_ w w1 → SetG w1 (g + 1) g [(5, 5)] 0 16 → Calls Try.prog 9 #[.pointer (some ⟨g, 0, none⟩), .int .u64 7] w1 fun e w' => e = .returned (.bool true) ∧ SetG w' (g + 1) g [(7, 7), (5, 5)] 0 16 ∧ Chg none_ w w') := Lib.hid (fun w1 hc h => by
    have := Add_own (g + 1) g 0 7 [(5, 5)] w w1 H0.out hc h
    rwa [show addT [(5, 5)] 0 7 = ([(7, 7), (5, 5)], 0) by decide +kernel, show newB [(5, 5)] 0 7 = true by decide +kernel] at this)
  have HA3 : Hid (∀ w1, Chg none_ w w1 → SetG w1 (g + 1) g [(7, 7), (5, 5)] 0 16 → Calls Try.prog 9 #[.pointer (some ⟨g, 0, none⟩), .int .u64 6] w1 fun e w' => e = .returned (.bool true) ∧ SetG w' (g + 1) g [(5, 7)] 0 16 ∧ Chg none_ w w') := Lib.hid (fun w1 hc h => by
    have := Add_own (g + 1) g 0 6 [(7, 7), (5, 5)] w w1 H0.out hc h
    rwa [show addT [(7, 7), (5, 5)] 0 6 = ([(5, 7)], 0) by decide +kernel, show newB [(7, 7), (5, 5)] 0 6 = true by decide +kernel] at this)
  have HA4 : Hid (∀ w1, Chg none_ w w1 → SetG w1 (g + 1) g [(5, 7)] 0 16 → Calls Try.prog 9 #[.pointer (some ⟨g, 0, none⟩), .int .u64 6] w1 fun e w' => e = .returned (.bool false) ∧ SetG w' (g + 1) g [(5, 7)] 0 16 ∧ Chg none_ w w') := Lib.hid (fun w1 hc h => by
    have := Add_own (g + 1) g 0 6 [(5, 7)] w w1 H0.out hc h
    rwa [show addT [(5, 7)] 0 6 = ([(5, 7)], 0) by decide +kernel, show newB [(5, 7)] 0 6 = false by decide +kernel] at this)
  have HA5 : Hid (∀ w1, Chg none_ w w1 → SetG w1 (g + 1) g [(6, 7)] 6 16 → Calls Try.prog 9 #[.pointer (some ⟨g, 0, none⟩), .int .u64 4] w1 fun e w' => e = .returned (.bool false) ∧ SetG w' (g + 1) g [(6, 7)] 6 16 ∧ Chg none_ w w') := Lib.hid (fun w1 hc h => by
    have := Add_own (g + 1) g 6 4 [(6, 7)] w w1 H0.out hc h
    rwa [show addT [(6, 7)] 6 4 = ([(6, 7)], 6) by decide +kernel, show newB [(6, 7)] 6 4 = false by decide +kernel] at this)
  have HH1 : Hid (∀ w1, SetG w1 (g + 1) g [(6, 7)] 6 16 → Calls Try.prog 10 #[.pointer (some ⟨g, 0, none⟩), .int .u64 6] w1 fun e w' => e = .returned (.bool true) ∧ Chg none_ w1 w') := Lib.hid (fun w1 h => by
    have := Has_any g (g + 1) 6 16 6 [(6, 7)] w1 h (by decide)
    rwa [show hasL [(6, 7)] 6 = true by decide +kernel] at this)
  have HH2 : Hid (∀ w1, SetG w1 (g + 1) g [(6, 7)] 6 16 → Calls Try.prog 10 #[.pointer (some ⟨g, 0, none⟩), .int .u64 5] w1 fun e w' => e = .returned (.bool false) ∧ Chg none_ w1 w') := Lib.hid (fun w1 h => by
    have := Has_any g (g + 1) 6 16 5 [(6, 7)] w1 h (by decide)
    rwa [show hasL [(6, 7)] 5 = false by decide +kernel] at this)
  have HF : Hid (∀ w1, Chg none_ w w1 → SetG w1 (g + 1) g [(5, 7)] 0 16 → Calls Try.prog 14 #[.pointer (some ⟨g, 0, none⟩), .int .u64 5] w1 fun e w' => e = .returned (.int .i64 0) ∧ SetG w' (g + 1) g [(6, 7)] 6 16 ∧ Chg none_ w w') := Lib.hid (fun w1 hc h => by
    have := Forget_own (g + 1) g 0 5 [(5, 7)] w w1 H0.out hc h
    rwa [show forgetS [(5, 7)] 0 5 = ([(6, 7)], 6) by decide +kernel, show forgetN [(5, 7)] 0 5 = 0 by decide +kernel] at this)
  have HO : Hid (∀ w1, SetG w1 (g + 1) g [(6, 7)] 6 16 → Calls Try.prog 11 #[.pointer (some ⟨g, 0, none⟩), .int .u64 5] w1 fun e w' => e = .returned (.bool true) ∧ w' = w1) := Lib.hid (fun w1 h => Old_any g (g + 1) 6 [(6, 7)] 5 w1 h.1)
  have HL : Hid (∀ w1, SetG w1 (g + 1) g [(6, 7)] 6 16 → Calls Try.prog 13 #[.pointer (some ⟨g, 0, none⟩)] w1 fun e w' => e = .returned (.int .i64 7) ∧ w' = w1) := Lib.hid (fun w1 h => Largest_any g (g + 1) 6 [(6, 7)] w1 h.1 (by decide +kernel))
  have HR : Hid (∀ w1, SetG w1 (g + 1) g [(5, 7)] 0 16 → Calls Try.prog 12 #[.pointer (some ⟨g, 0, none⟩)] w1 fun e w' => ∃ b o cap, e = .returned (.slice (some ⟨b, o, none⟩) 1 cap) ∧ b < w'.heap.size ∧ g < b ∧ w'.rangeAt b o (rcell (5, 7)) ∧ Chg none_ w1 w') := Lib.hid (fun w1 h => (Ranges_any g (g + 1) 0 [(5, 7)] w1 h.1 (by decide)).mono fun e w' ⟨v, a, ho, hc⟩ => by
    obtain ⟨A, cap, rfl, _, _, hv⟩ := ho.view
    obtain ⟨b, o, rfl, hb1, hb2, hk⟩ := hv.rAt (k := 0) (by decide)
    exact ⟨b, o, cap, a, hb1, by have := h.1.lt; omega, hk 0 (by decide), hc⟩)
  have HEQ : Hid (∀ w, (Op.equalIn 10000 41 (.agg (rcell (5, 7)).toArray) (.agg (rcell (5, 7)).toArray)).run Try.prog w = .ok true w) := Lib.hid (fun w => r_eql (5, 7) (5, 7) ⟨by decide, by decide⟩ ⟨by decide, by decide⟩ w)
  have HGW := Lib.hid hg
  clear hg
  go_enter Try.func8, Try.ntmps8
  go_wp2_with (first | ((with_reducible show wpList _ _ _ (⟨some 1, .alloc _, _, _, _, _⟩ :: _) _ _); refine wpList_alloc_Row rfl rfl [.slice none 0 0, .int .u64 0] zeroSt ?_; rw [← HGW.out]; intro w1 hr1 hc1 hs1; have HQ0 := Lib.hid (SetG.new (B := g + 1) hr1 (Nat.lt_succ_self _) (by have := hr1.lt; omega)); have HC := Lib.hid hc1; clear hr1 hc1 hs1) | (go_at_call_of 9 (Value.int IntKind.u64 5); refine (HA1.out _ HC.out HQ0.out).mono ?_; rintro e w2 ⟨rfl, hq, hc⟩; have HQ1 := Lib.hid hq; have HC := Lib.hid hc; clear hq hc HQ0) | (go_at_call_of 9 (Value.int IntKind.u64 7); refine (HA2.out _ HC.out HQ1.out).mono ?_; rintro e w3 ⟨rfl, hq, hc⟩; have HQ2 := Lib.hid hq; have HC := Lib.hid hc; clear hq hc HQ1) | (go_at_call_of 9 (Value.int IntKind.u64 6); refine (HA3.out _ HC.out HQ2.out).mono ?_; rintro e w4 ⟨rfl, hq, hc⟩; have HQ3 := Lib.hid hq; have HC := Lib.hid hc; clear hq hc HQ2) | (go_at_call_of 9 (Value.int IntKind.u64 6); refine (HA4.out _ HC.out HQ3.out).mono ?_; rintro e w5 ⟨rfl, hq, hc⟩; have HQ4 := Lib.hid hq; have HC := Lib.hid hc; clear hq hc HQ3) | (go_at_call 12; refine (HR.out _ HQ4.out).mono ?_; rintro e w6 ⟨b, o, cap, rfl, hb1, hb2, hk, hc⟩; have HB1 := Lib.hid hb1; have HB2 := Lib.hid hb2; have HK := Lib.hid hk; have HQ5 := Lib.hid (HQ4.out.quiet hc); have HC := Lib.hid (HC.out.trans hc); clear hb1 hb2 hk hc HQ4) | (go_at_call 14; refine ((Forget_any g (g + 1) 0 16 5 [(5, 7)] _ HQ5.out (by decide)).mono ?_); rintro e w7 ⟨rfl, hq, hc⟩; rw [show forgetS [(5, 7)] 0 5 = ([(6, 7)], 6) by decide +kernel] at hq; rw [show forgetN [(5, 7)] 0 5 = 0 by decide +kernel]; have HQ6 := Lib.hid hq; have HK7 := Lib.hid (show w7.rangeAt b o (rcell (5, 7)) from fun j v hv => (hc.cell _ HB1.out (fun (e : b = g) => by have := HB2.out; omega)).trans (HK.out j v hv)); have HC := Lib.hid (chg_own H0.out HC.out hc); clear hq hc HQ5) | ((with_reducible show wpList _ _ _ (⟨some 33, .load _ _, _, _, _, _⟩ :: _) _ _); refine wpList_load_Mid (cs := rcell (5, 7)) rfl rfl rfl HK7.out Try.underlying41 rfl sizeR ?_) | ((with_reducible show wpList _ _ _ (⟨some 35, _, _, _, _, _⟩ :: _) _ _); refine wpList_eqR rfl _ _ rfl (rcell (5, 7)).toArray (rcell (5, 7)).toArray rfl rfl true HEQ.out ?_) | (go_at_call_of 10 (Value.int IntKind.u64 6); refine (HH1.out _ HQ6.out).mono ?_; rintro e w8 ⟨rfl, hc⟩; have HQ7 := Lib.hid (HQ6.out.quiet hc); have HC := Lib.hid (HC.out.trans hc); clear hc HQ6) | (go_at_call_of 10 (Value.int IntKind.u64 5); refine (HH2.out _ HQ7.out).mono ?_; rintro e w9 ⟨rfl, hc⟩; have HQ8 := Lib.hid (HQ7.out.quiet hc); have HC := Lib.hid (HC.out.trans hc); clear hc HQ7) | (go_at_call 11; refine (HO.out _ HQ8.out).mono ?_; rintro e w10 ⟨rfl, rfl⟩) | (go_at_call_of 9 (Value.int IntKind.u64 4); refine (HA5.out _ HC.out HQ8.out).mono ?_; rintro e w11 ⟨rfl, hq, hc⟩; have HQ9 := Lib.hid hq; have HC := Lib.hid hc; clear hq hc HQ8) | (go_at_call 13; refine (HL.out _ HQ9.out).mono ?_; rintro e w12 ⟨rfl, rfl⟩))
  go_ret
  exact ⟨rfl, HC.out⟩
end Go.Proofs.Ytlakhfbhbebojaa
