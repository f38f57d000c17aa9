/- Layer 4 (header): the document's Parse in all, and the walk of the law HeaderParses. -/
import Derived.Test.YtfecmloaopbogaaDoorV4RLong
import Derived.Test.YtfecmloaopbogaaDoorV4RPeek
import Derived.Test.YtfecmloaopbogaaDoorV4RSame
import Derived.Test.YtfecmloaopbogaaDoorV4Alive
import Derived.Test.YtfecmloaopbogaaDoorV4Peek
import Derived.Test.YtfecmloaopbogaaDoorSame
namespace Go.Proofs.YtfecmloaopbogaaDoor
open Go.RowKit

theorem zeroHd : (Tryd.prog.info? 25).map (·.zero) = some (some (.agg (cellsH {} nil4).toArray)) := by kernel_rfl
theorem cellsH_one {w : World} {T : Nat → Prop} {h : Hd} {v : Four} (x : HdD w T h v) : (cellsH h v).all (·.oneCell') = true := by
  obtain ⟨⟨_, _, q1, _⟩, ⟨_, _, q2, _⟩, ⟨_, _, q3, _⟩, ⟨_, _, q4, _⟩⟩ := x
  simp [cellsH, q1, q2, q3, q4, Value.oneCell']
theorem parseM_may {b : List Nat} {f : Nat} {s : St} (e : rdByte (b, 0) = (f, s)) (hm : mayM f = true) : parseM b = outP b (restM f s) := by
  unfold parseM outP
  simp only [e, hm, Bool.true_eq_false, if_false]
theorem rparse_any (w : World) (A : Option Addr) (c : Nat) (b : List Nat) (hv : View w (fun _ => True) A b.length (u8s b)) (hm : b.length ≤ 1000000) (hcap : b.length ≤ c) (hb : ∀ x ∈ b, x < 256) :
    Calls Tryd.prog 20 #[.slice A b.length c] w (ParsePost w (parseM b).1 (parseM b).2.1 (parseM b).2.2) := by
  by_cases h0 : b.length = 0
  · have hbn : b = [] := List.eq_nil_of_length_eq_zero h0
    have : parseM b = ({}, 0, 2) := by subst hbn; decide +kernel
    rw [this]
    exact rparse_nil w A c b hv hm hcap hb h0
  · obtain ⟨f, s, ef⟩ : ∃ f s, rdByte (b, 0) = (f, s) := ⟨_, _, rfl⟩
    have hne : 0 < b.length := by omega
    have hs0 : s.2 = 0 := by
      cases b with
      | nil => exact absurd rfl h0
      | cons x r => unfold rdByte at ef; simp at ef; rw [← ef.2]
    have hf : f < 256 := by have := (rdByte_mem (b, 0) hb).1; rw [ef] at this; exact this
    have e3 : (failSt 3 s).2 = 3 := by unfold failSt; rw [if_neg (by rw [hs0]; decide)]
    have none_ (hmay : mayM f = false) : parseM b = ({}, 0, 3) := by rw [parseM_none ef hmay, e3]
    by_cases h64 : f / 64 % 2 = 0
    · rw [none_ (by unfold mayM; rw [decide_eq_false (by omega)]; rfl)]
      exact rparse_low w A c b hv hm hcap hb f s ef hne h64
    have h64 : f / 64 % 2 = 1 := by omega
    by_cases hl : f < 128
    · have hd : f / 128 % 2 = 0 := by omega
      by_cases hq : f / 8 % 8 = 0
      · have hmay : mayM f = true := by unfold mayM; rw [if_pos hd, decide_eq_true h64, decide_eq_true hq]; rfl
        have hlf : (partsM f).long = false := by unfold partsM; rw [if_neg (by omega)]
        rw [parseM_may ef hmay, restM_short hlf]
        exact rparse_short w A c b hv hm hcap hb f s ef hne h64 hl hq _ rfl
      · rw [none_ (by unfold mayM; rw [if_pos hd, decide_eq_false hq, Bool.and_false])]
        exact rparse_szero w A c b hv hm hcap hb f s ef hne h64 hl hq
    · have hd : ¬ f / 128 % 2 = 0 := by omega
      have hl : 128 ≤ f := by omega
      have hlf : (partsM f).long = true := by unfold partsM; rw [if_pos (by omega)]
      by_cases hq : f / 4 % 4 = 0
      · rcases (by omega : f / 16 % 4 = 0 ∨ f / 16 % 4 = 1 ∨ f / 16 % 4 = 2 ∨ f / 16 % 4 = 3) with hk | hk | hk | hk
        · have hmay : mayM f = true := by unfold mayM; rw [if_neg hd, decide_eq_true h64, decide_eq_true (by omega)]; rfl
          rw [parseM_may ef hmay, restM_long hlf]
          exact rparse_long0 w A c b hv hm hcap hb f s ef hne h64 hl hq hk _ rfl
        · rw [none_ (by unfold mayM; rw [if_neg hd, decide_eq_false (by omega : ¬ (f / 4 % 4 = 0 ∧ (f / 16 % 4 = 0 ∨ f / 16 % 4 = 2))), Bool.and_false])]
          exact rparse_lk1 w A c b hv hm hcap hb f s ef hne h64 hl hq hk
        · have hmay : mayM f = true := by unfold mayM; rw [if_neg hd, decide_eq_true h64, decide_eq_true (by omega)]; rfl
          rw [parseM_may ef hmay, restM_long hlf]
          exact rparse_long2 w A c b hv hm hcap hb f s ef hne h64 hl hq hk _ rfl
        · rw [none_ (by unfold mayM; rw [if_neg hd, decide_eq_false (by omega : ¬ (f / 4 % 4 = 0 ∧ (f / 16 % 4 = 0 ∨ f / 16 % 4 = 2))), Bool.and_false])]
          exact rparse_lk3 w A c b hv hm hcap hb f s ef hne h64 hl hq hk
      · rw [none_ (by unfold mayM; rw [if_neg hd, decide_eq_false (by omega : ¬ (f / 4 % 4 = 0 ∧ (f / 16 % 4 = 0 ∨ f / 16 % 4 = 2))), Bool.and_false])]
        exact rparse_lz w A c b hv hm hcap hb f s ef hne h64 hl hq

set_option maxRecDepth 100000 in
set_option maxHeartbeats 4000000 in
theorem walk_HeaderParses (A : Option Addr) (len cap : Nat) (zs : List Int) (W : World) (x0 : IsRow .u8 W A len cap zs) (hT : Tab W) :
    Calls Tryd.prog 4 #[.slice A len cap] W fun e w' => e = .returned (.bool true) ∧ Chg none_ W w' := by
  obtain ⟨b, rfl, hcap, hmax, htb, hv⟩ := x0.u8
  clear x0
  have hmx : b.length ≤ 9223372036854775807 := by unfold maxLen at hmax; omega
  by_cases hlong : 1500 < b.length
  · have hd : decide ((1500 : Int) < (b.length : Int)) = true := by simp; omega
    clear hv htb hcap hmax
    go_enter Tryd.func4, Tryd.ntmps4
    go_wp2_with (first | (go_at_call 10; refine (alive_any _ hT).mono ?_; rintro e w1 ⟨rfl, hc1⟩; have HC1 := Lib.hid hc1; clear hc1))
    go_ret
    exact ⟨rfl, HC1.out⟩
  have hd : decide ((1500 : Int) < (b.length : Int)) = false := by simp; omega
  have HPA : Hid (∀ w, Chg none_ W w → Calls Tryd.prog 19 #[.slice A b.length cap] w fun e w' => ∃ v', e = .returned (.tuple #[.agg (cellsH (parseM b).1 v').toArray, .int .i64 (parseM b).2.1, .int .i64 (parseM b).2.2]) ∧ HdD w' (fun k => w.heap.size ≤ k) (parseM b).1 v' ∧ Chg none_ w w') := Lib.hid (fun w (hc : Chg none_ W w) => parse_any w _ A cap b (hv.chg hc (fun _ _ h => h)) (by omega) htb)
  have HPB : Hid (∀ w, Chg none_ W w → Calls Tryd.prog 20 #[.slice A b.length cap] w fun e w' => ∃ v', e = .returned (.tuple #[.agg (cellsH (parseM b).1 v').toArray, .int .i64 (parseM b).2.1, .int .i64 (parseM b).2.2]) ∧ HdD w' (fun k => w.heap.size ≤ k) (parseM b).1 v' ∧ Chg none_ w w') := Lib.hid (fun w (hc : Chg none_ W w) => rparse_any w A cap b (hv.chg hc (fun _ _ h => h)) (by omega) hcap htb)
  have HKA := Lib.hid (fun w (hc : Chg none_ W w) => peek_any w _ A cap b (hv.chg hc (fun _ _ h => h)) (by omega) htb)
  have HKB := Lib.hid (fun w (hc : Chg none_ W w) => rpeek_any w _ A cap b (hv.chg hc (fun _ _ h => h)) (by omega) hcap htb)
  generalize (parseM b).1 = h at HPA HPB
  generalize (parseM b).2.1 = n at HPA HPB
  generalize (parseM b).2.2 = err at HPA HPB
  generalize (peekM b).1 = d at HKA HKB
  generalize (peekM b).2.1 = on at HKA HKB
  generalize (peekM b).2.2 = ok at HKA HKB
  have HSH : Hid (∀ v u w Tf Tg, HdD w Tf h v → HdD w Tg h u → Calls Tryd.prog 18 #[.agg (cellsH h v).toArray, .agg (cellsH h u).toArray] w fun e w' => e = .returned (.bool true) ∧ Chg none_ w w') := Lib.hid (fun v u w Tf Tg hf hg => by
    have := rsameH_any h h v u w Tf Tg hf hg
    rwa [decide_eq_true rfl] at this)
  have HSB : Hid (∀ w A1 c1 A2 c2, View w (fun _ => True) A1 d.length (u8s d) → View w (fun _ => True) A2 d.length (u8s d) → d.length ≤ 1000000 → Calls Tryd.prog 14 #[.slice A1 d.length c1, .slice A2 d.length c2] w fun e w' => e = .returned (.bool true) ∧ ∃ k, w' = w.drewN k) := Lib.hid (fun w A1 c1 A2 c2 h1 h2 hl => by
    have := same_any w _ _ A1 A2 c1 c2 d d h1 h2 hl
    rwa [decide_eq_true rfl] at this)
  clear hv htb hcap hmax
  go_enter Tryd.func4, Tryd.ntmps4
  go_wp2_with (first | (go_at_call 10; refine (alive_any _ hT).mono ?_; rintro e w1 ⟨rfl, hc1⟩; have HC1 := Lib.hid hc1; clear hc1) | (go_at_call 19; refine (HPA.out _ HC1.out).mono ?_; rintro e w2 ⟨v2, rfl, hd2, hc2⟩; have HC2 := Lib.hid (HC1.out.trans hc2); have HD2 := Lib.hid hd2; clear hc2 hd2) | ((with_reducible show wpList _ _ _ (⟨some 3, .alloc 25, _, _, _, _⟩ :: _) _ _); refine wpList_alloc_Row rfl rfl (cellsH {} nil4) zeroHd ?_; intro w3 hr3 hc3 hs3; have HR3 := Lib.hid hr3; have HC3 := Lib.hid hc3; clear hr3 hc3 hs3) | ((with_reducible show wpList _ _ _ (⟨_, .store 25 (.tmp 3) _, _, _, _, _⟩ :: _) _ _); refine wpList_store_Row (xs := cellsH h v2) rfl rfl rfl (HR3.out) (rfl) (rfl) (by exact sizeH) (cellsH_one HD2.out) ?_; intro w4 hr4 hc4 hs4; have HR4 := Lib.hid hr4; have hc4_ := hc4 none_ w2 HC3.out (fun h => absurd h (Nat.lt_irrefl _)); have HC4 := Lib.hid (HC2.out.trans hc4_); have HD4 := Lib.hid (HD2.out.chg hc4_ (fun _ _ h => h)); clear hc4_; clear hr4 hc4 hs4) | (go_at_call 20; refine (HPB.out _ HC4.out).mono ?_; rintro e w5 ⟨v5, rfl, hd5, hc5⟩; have HC5 := Lib.hid (HC4.out.trans hc5); have HD5 := Lib.hid hd5; have HD4b := Lib.hid (HD4.out.chg hc5 (fun _ _ h => h)); have HR4b := Lib.hid (HR4.out.chg hc5 (fun h => h)); clear hc5 hd5) | ((with_reducible show wpList _ _ _ (⟨some 6, .alloc 25, _, _, _, _⟩ :: _) _ _); refine wpList_alloc_Row rfl rfl (cellsH {} nil4) zeroHd ?_; intro w6 hr6 hc6 hs6; have HR6 := Lib.hid hr6; have HC6 := Lib.hid hc6; clear hr6 hc6 hs6) | ((with_reducible show wpList _ _ _ (⟨_, .store 25 (.tmp 6) _, _, _, _, _⟩ :: _) _ _); refine wpList_store_Row (xs := cellsH h v5) rfl rfl rfl (HR6.out) (rfl) (rfl) (by exact sizeH) (cellsH_one HD5.out) ?_; intro w7 hr7 hc7 hs7; have HR7 := Lib.hid hr7; have hc7_ := hc7 none_ w5 HC6.out (fun h => absurd h (Nat.lt_irrefl _)); have HC7 := Lib.hid (HC5.out.trans hc7_); have HD7 := Lib.hid (HD5.out.chg hc7_ (fun _ _ h => h)); have HD4c := Lib.hid (HD4b.out.chg hc7_ (fun _ _ h => h)); have HR4c := Lib.hid (HR4b.out.chg hc7_ (fun h => h)); clear hc7_; clear hr7 hc7 hs7) | (go_at_call 21; refine (HKA.out _ HC7.out).mono ?_; rintro e w8 ⟨A8, c8, rfl, hv8, hl8, hc8⟩; have HC8 := Lib.hid (HC7.out.trans hc8); have HV8 := Lib.hid hv8; have HL8 := Lib.hid hl8; have HD7b := Lib.hid (HD7.out.chg hc8 (fun _ _ h => h)); have HD4d := Lib.hid (HD4c.out.chg hc8 (fun _ _ h => h)); have HR4d := Lib.hid (HR4c.out.chg hc8 (fun h => h)); have HR7b := Lib.hid (HR7.out.chg hc8 (fun h => h)); clear hc8 hv8 hl8) | (go_at_call 22; refine (HKB.out _ HC8.out).mono ?_; rintro e w9 ⟨A9, c9, rfl, hv9, hl9, hc9⟩; have HC9 := Lib.hid (HC8.out.trans hc9); have HV9 := Lib.hid hv9; have HV8b := Lib.hid (HV8.out.chg hc9 (fun _ _ h => h)); have HD7c := Lib.hid (HD7b.out.chg hc9 (fun _ _ h => h)); have HD4e := Lib.hid (HD4d.out.chg hc9 (fun _ _ h => h)); have HR4e := Lib.hid (HR4d.out.chg hc9 (fun h => h)); have HR7c := Lib.hid (HR7b.out.chg hc9 (fun h => h)); clear hc9 hv9 hl9) | ((with_reducible show wpList _ _ _ (⟨some 53, .load 25 _, _, _, _, _⟩ :: _) _ _); refine wpList_load_Row rfl rfl rfl (HR4e.out) Tryd.underlying25 rfl (by exact sizeH) ?_) | ((with_reducible show wpList _ _ _ (⟨some 54, .load 25 _, _, _, _, _⟩ :: _) _ _); refine wpList_load_Row rfl rfl rfl (HR7c.out) Tryd.underlying25 rfl (by exact sizeH) ?_) | (go_at_call 18; refine (HSH.out v2 v5 _ _ _ HD4e.out HD7c.out).mono ?_; rintro e w10 ⟨rfl, hc10⟩; have HC10 := Lib.hid (HC9.out.trans hc10); have HV9c := Lib.hid (HV9.out.chg hc10 (fun _ _ h => h)); have HV8c := Lib.hid (HV8b.out.chg hc10 (fun _ _ h => h)); clear hc10) | (go_at_call 14; refine (HSB.out _ _ _ _ _ HV8c.out HV9c.out HL8.out).mono ?_; rintro e w11 ⟨rfl, nk, rfl⟩))
  go_ret
  exact ⟨rfl, HC10.out.drewN nk⟩
end Go.Proofs.YtfecmloaopbogaaDoor
