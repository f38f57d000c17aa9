/- Layer 5 (params): the walk of the law ParamsRead. -/
import Derived.Test.YthoiiibcceacnaaDoorV5RRead
import Derived.Test.YthoiiibcceacnaaDoorV5Alive
import Derived.Test.YthoiiibcceacnaaDoorV5Open
import Derived.Test.YthoiiibcceacnaaDoorAloc
namespace Go.Proofs.YthoiiibcceacnaaDoor
open Go.RowKit

theorem zeroPz : (Tryd.prog.info? 25).map (·.zero) = some (some (.agg (cellsP zP).toArray)) := by kernel_rfl
section
variable {ops : Array Oper} {rest : List Oper} {o : Oper} {a : Act} {w : World} {Q : Exit → Act → World → Prop}
theorem wpList_pm_eq (hw : Region.wanted o (yielded ops a.tmps) = true) (x y : Operand) {R : TypeId} (ho : o.op = .binOp .eql 25 x y R) (u : Array Value) (hx : a.eval x = .agg u) (hy : a.eval y = .agg u) (heq : ∀ w, (Op.equalIn 10000 25 (.agg u) (.agg u)).run Tryd.prog w = .ok true w)
    (k : wpList Tryd.prog ops Q rest (a.put o.dst (.bool true)) w) : wpList Tryd.prog ops Q (o :: rest) a w :=
  BigFrame.wpList_want hw fun _ hK => by
    have hg := run_eqGuard_agg (P := Tryd.prog) w .eql 25 x y u u Tryd.eqGuardType25
    have hh : (Op.equal 25 (.agg u) (.agg u)).run Tryd.prog w = .ok true w := heq w
    unfold Oper.wp execOp
    simp only [ho, hx, hy, Sem.run_bind, Sem.run_pure, Result.andThen_ok, hg, binOp, hh]
    exact hK _ _ k
end
/-- What is read is of its form. -/
theorem takeP_ok (k : Pk) (v : List Nat) (p : Pm) (hv : ∀ x ∈ v, x < 256) (o : p.Ok) : (takeP k v p).1.Ok := by
  have hn : (rdInt (v, 0)).1 < 18446744073709551616 := Nat.lt_trans (rdInt_lt (v, 0) hv) (by decide)
  cases k
  case token =>
    unfold takeP
    simp only
    split
    · exact ⟨by assumption, hv, o.a, o.b, o.c, o.d⟩
    · exact o
  case idle => exact ⟨o.tok, o.mem, hn, o.b, o.c, o.d⟩
  case data => exact ⟨o.tok, o.mem, o.a, hn, o.c, o.d⟩
  case stream => exact ⟨o.tok, o.mem, o.a, o.b, hn, o.d⟩
  case streams => exact ⟨o.tok, o.mem, o.a, o.b, o.c, hn⟩
theorem failSt_mem (e : Int) (s : St) (h : ∀ x ∈ s.1, x < 256) : ∀ x ∈ (failSt e s).1, x < 256 := by
  unfold failSt
  split
  · exact h
  · simp
theorem stepR_ok (x : RX) (o : x.p.Ok) (h : ∀ y ∈ x.s.1, y < 256) : (stepR x).p.Ok ∧ ∀ y ∈ (stepR x).s.1, y < 256 := by
  have h2 := rdInt_mem _ (rdInt_mem x.s h)
  obtain ⟨h3, h4⟩ := rdBytes_mem (rdInt (rdInt x.s).2).1 _ h2
  unfold stepR
  split
  · exact ⟨o, h4⟩
  · split
    · exact ⟨o, failSt_mem _ _ h4⟩
    · split
      · exact ⟨takeP_ok _ _ _ h3 o, h4⟩
      · exact ⟨takeP_ok _ _ _ h3 o, failSt_mem _ _ h4⟩
theorem runR_ok : ∀ (n : Nat) (x : RX), x.s.1.length ≤ n → x.p.Ok → (∀ y ∈ x.s.1, y < 256) → (runR x).p.Ok
  | 0, x, hn, o, _ => by rw [runR_end x (by omega)]; exact o
  | n + 1, x, hn, o, h => by
    by_cases h0 : x.s.1.length = 0
    · rw [runR_end x h0]; exact o
    · rw [runR_step x h0]
      have hl := stepR_less x h0
      obtain ⟨o2, h2⟩ := stepR_ok x o h
      exact runR_ok n (stepR x) (by omega) o2 h2
theorem readM_ok (b : List Nat) (h : ∀ y ∈ b, y < 256) : (readM b).1.Ok := by
  unfold readM endR
  generalize (if mayB (runR (begin b)).p = true then (runR (begin b)).s else failSt 3 (runR (begin b)).s) = q
  by_cases hq : q.2 ≠ 0
  · rw [if_pos hq]; exact zeroP_ok
  · rw [if_neg hq]; exact runR_ok b.length (begin b) (Nat.le_refl _) zeroP_ok h

set_option maxRecDepth 100000 in
set_option maxHeartbeats 2000000 in
theorem walk_ParamsRead (A : Option Addr) (len cap : Nat) (zs : List Int) (W : World) (x0 : IsRow .u8 W A len cap zs) (hT : Tab W) :
    Calls Tryd.prog 4 #[.slice A len cap] W fun e w' => e = .returned (.bool true) ∧ Chg none_ W w' := by
  obtain ⟨text, rfl, hcap, hmax, htb, hv⟩ := x0.u8
  clear x0
  have hmx : text.length ≤ 9223372036854775807 := by unfold maxLen at hmax; omega
  by_cases hlong : 500 < text.length
  · have hd : decide ((500 : Int) < (text.length : Int)) = true := by simp; omega
    clear hv htb hcap hmax
    go_enter Tryd.func4, Tryd.ntmps4
    go_wp2_with (first | (go_at_call 9; refine (alive_any _ hT).mono ?_; rintro e w1 ⟨rfl, hc1⟩; have HC1 := Lib.hid hc1; clear hc1))
    go_ret
    exact ⟨rfl, HC1.out⟩
  have hd : decide ((500 : Int) < (text.length : Int)) = false := by simp; omega
  have HRA : Hid (∀ w, Chg none_ W w → Calls Tryd.prog 17 #[.slice A text.length cap] w fun e w' => e = .returned (.tuple #[.agg (cellsP (readM text).1).toArray, .int .i64 (readM text).2]) ∧ Chg none_ w w') := Lib.hid (fun w hc => (pread_any w _ A cap text (hv.chg hc (fun _ _ h => h)) (by omega) htb).mono fun e w' h => ⟨h.1, h.2.2⟩)
  have HRB : Hid (∀ w, Chg none_ W w → Calls Tryd.prog 18 #[.slice A text.length cap] w fun e w' => e = .returned (.tuple #[.agg (cellsP (readM text).1).toArray, .int .i64 (readM text).2]) ∧ Chg none_ w w') := Lib.hid (fun w hc => (rread_any' w A cap text (hv.chg hc (fun _ _ h => h)) (by omega) hcap htb).mono fun e w' h => ⟨h.1, h.2.2⟩)
  have hok := readM_ok text htb
  have HEQ : Hid (∀ w, (Op.equalIn 10000 25 (.agg (cellsP (readM text).1).toArray) (.agg (cellsP (readM text).1).toArray)).run Tryd.prog w = .ok true w) := Lib.hid (fun w => by
    have := pm_eql (readM text).1 (readM text).1 hok hok w
    rwa [decide_eq_true rfl] at this)
  have HQL := Lib.hid (cP_len (readM text).1 hok.tok)
  generalize (readM text).1 = q at HRA HRB HEQ HQL
  generalize (readM text).2 = E at HRA HRB
  clear hv htb hcap hmax hok
  go_enter Tryd.func4, Tryd.ntmps4
  go_wp2_with (first | (go_at_call 9; refine (alive_any _ hT).mono ?_; rintro e w1 ⟨rfl, hc1⟩; have HC1 := Lib.hid hc1; clear hc1) | (go_at_call 17; refine (HRA.out _ HC1.out).mono ?_; rintro e w2 ⟨rfl, hc2⟩; have HC2 := Lib.hid (HC1.out.trans hc2); clear hc2) | ((with_reducible show wpList _ _ _ (⟨some 3, .alloc 25, _, _, _, _⟩ :: _) _ _); refine wpList_alloc_Row rfl rfl (cellsP zP) zeroPz ?_; intro w3 hr3 hc3 hs3; have HR3 := Lib.hid hr3; have HC3 := Lib.hid hc3; clear hr3 hc3 hs3) | ((with_reducible show wpList _ _ _ (⟨_, .store 25 (.tmp 3) _, _, _, _, _⟩ :: _) _ _); refine wpList_store_Row (xs := cellsP q) rfl rfl rfl (HR3.out) (rfl) (by rw [HQL.out]; rfl) (by rw [HQL.out]; exact sizeP) (cellsP_one _) ?_; intro w4 hr4 hc4 hs4; have HR4 := Lib.hid hr4; have HC4 := Lib.hid (HC2.out.trans (hc4 none_ w2 HC3.out (fun h => absurd h (Nat.lt_irrefl _)))); clear hr4 hc4 hs4) | (go_at_call 18; refine (HRB.out _ HC4.out).mono ?_; rintro e w5 ⟨rfl, hc5⟩; have HC5 := Lib.hid (HC4.out.trans hc5); have HR4b := Lib.hid (HR4.out.chg hc5 (fun h => h)); clear hc5) | ((with_reducible show wpList _ _ _ (⟨some 5, .alloc 25, _, _, _, _⟩ :: _) _ _); refine wpList_alloc_Row rfl rfl (cellsP zP) zeroPz ?_; intro w6 hr6 hc6 hs6; have HR6 := Lib.hid hr6; have HC6 := Lib.hid hc6; clear hr6 hc6 hs6) | ((with_reducible show wpList _ _ _ (⟨_, .store 25 (.tmp 5) _, _, _, _, _⟩ :: _) _ _); refine wpList_store_Row (xs := cellsP q) rfl rfl rfl (HR6.out) (rfl) (by rw [HQL.out]; rfl) (by rw [HQL.out]; exact sizeP) (cellsP_one _) ?_; intro w7 hr7 hc7 hs7; have HR7 := Lib.hid hr7; have hc7_ := hc7 none_ w5 HC6.out (fun h => absurd h (Nat.lt_irrefl _)); have HC7 := Lib.hid (HC5.out.trans hc7_); have HR4c := Lib.hid (HR4b.out.chg hc7_ (fun h => h)); clear hc7_; clear hr7 hc7 hs7) | ((with_reducible show wpList _ _ _ (⟨some 26, .load 25 _, _, _, _, _⟩ :: _) _ _); refine wpList_load_Row rfl rfl rfl (HR4c.out) Tryd.underlying25 rfl (by rw [HQL.out]; exact sizeP) ?_) | ((with_reducible show wpList _ _ _ (⟨some 27, .load 25 _, _, _, _, _⟩ :: _) _ _); refine wpList_load_Row rfl rfl rfl (HR7.out) Tryd.underlying25 rfl (by rw [HQL.out]; exact sizeP) ?_) | ((with_reducible show wpList _ _ _ (⟨some 28, _, _, _, _, _⟩ :: _) _ _); refine wpList_pm_eq rfl _ _ rfl (cellsP q).toArray rfl rfl HEQ.out ?_))
  go_ret
  exact ⟨rfl, HC7.out⟩
end Go.Proofs.YthoiiibcceacnaaDoor
