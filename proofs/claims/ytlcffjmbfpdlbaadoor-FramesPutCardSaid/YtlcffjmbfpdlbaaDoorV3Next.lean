/- Layer 3 (frames): the frame that stands there. -/
import Derived.Test.YtlcffjmbfpdlbaaDoorV3Put
namespace Go.Proofs.YtlcffjmbfpdlbaaDoor
open Go.RowKit

/-- All parts are read, one behind the other. -/
def readAll : List Part → Fr × St → Fr × St
  | [], s => s
  | p :: ps, s => readAll ps (readP p s.1 s.2)
theorem readAll_snoc (p : Part) : ∀ (ps : List Part) (x : Fr × St), readAll (ps ++ [p]) x = readP p (readAll ps x).1 (readAll ps x).2
  | [], _ => rfl
  | _ :: ps, _ => readAll_snoc p ps _
/-- The frame that stands there, and the reader behind it. -/
def nextM (s : St) : Fr × St :=
  match (if (rdInt s).2.2 = 0 then kdM (kindM (rdInt s).1) else none) with
  | none => ({}, failSt 3 (rdInt s).2)
  | some d =>
    let x := readAll (d.pf.parts (rdInt s).1) ({ kind := (kindM (rdInt s).1 : Nat), flag := d.flagged && decide ((rdInt s).1 % 2 = 1) }, (rdInt s).2)
    if x.2.2 = 0 ∧ hasB d x.1 = true then x else ({}, failSt 3 x.2)

/-- What the frame that stands there comes to. -/
def NextPost (w : World) (r : Nat) (Tr : Nat → Prop) (s : St) (e : Ending) (w' : World) : Prop :=
  ∃ sd sr, e = .returned (aggF (nextM s).1 sd sr) ∧ FrD w' (fun b => w.heap.size ≤ b) (nextM s).1 sd sr ∧ RdS w' r Tr (nextM s).2 ∧ Chg (· = r) w w'

theorem RdS.heapEq {w w' : World} {g : Nat} {T : Nat → Prop} {s : St} (h : RdS w g T s) (hc : Chg none_ w w') : RdS w' g T s := h.chg hc (fun h => h) (fun _ _ h => h)

set_option maxRecDepth 100000 in
set_option maxHeartbeats 2000000 in
/-- There is no kind of that type, or no type. -/
theorem next_none (s : St) (r gm : Nat) (w : World) (Tr Tk : Nat → Prop) (hs : RdS w r Tr s) (hT : ¬ Tr r) (hTl : ∀ b, Tr b → b < w.heap.size) (hk : KindsAt w Tk gm) (hTk : ¬ Tk r) (hgm : gm ≠ r) (ht64 : (rdInt s).1 < 18446744073709551616)
    (hno : (rdInt s).2.2 ≠ 0 ∨ kdM (kindM (rdInt s).1) = none) :
    Calls Tryd.prog 26 #[.pointer (some ⟨r, 0, none⟩), .map (some gm)] w fun e w' => e = .returned (aggF {} (.slice none 0 0) (.slice none 0 0)) ∧ RdS w' r Tr (failSt 3 (rdInt s).2) ∧ Chg (· = r) w w' := by
  have HKS : Hid (∀ w1, Chg (· = r) w w1 → KindsAt w1 Tk gm) := fun w1 hc => hk.chg hc (fun e => hgm e) (fun b hb e => hTk (e ▸ hb))
  have hrl := hs.lt
  have HC0 : Hid (∀ z1 z2, Chg none_ w ((w.alloc z1).alloc z2)) := fun z1 z2 => ((Chg.refl none_ w).alloc z1).alloc z2
  have HRS : Hid (∀ w1, Chg none_ w w1 → Calls Tryd.prog 56 #[.pointer (some ⟨r, 0, none⟩)] w1 fun e w' => e = .returned (.int .u64 ((rdInt s).1 : Nat)) ∧ RdS w' r Tr (rdInt s).2 ∧ Chg (· = r) w1 w') := fun w1 hc => int_any _ _ _ _ (hs.heapEq hc) hT
  have HR4 : Hid (∀ w', Chg (· = r) ((w.alloc (.cells zeroF.toArray 27)).alloc (.cells zeroF.toArray 27)) w' → Row w' w.heap.size 27 zeroF ∧ Chg (· = r) w w') := fun w' hc => ⟨(Row.new1 w _ 27 zeroF).chg hc (by omega), (((Chg.refl _ w).alloc _).alloc _).trans hc⟩
  have HTL := Lib.hid hTl
  clear hTl
  have HFAIL := Lib.hid (fun w' st (h : RdS w' r Tr st) => failS_any w' r Tr st 3 h)
  have HBAD := Lib.hid (fun w' st (h : RdS w' r Tr st) => badS_any w' r Tr st h)
  generalize hx : rdInt s = x at *
  obtain ⟨t, s1⟩ := x
  obtain ⟨xs, bad⟩ := s1
  have HKO := Lib.hid (fun w' => kindOf_any t ht64 w')
  simp only at hno HKO
  generalize kindM t = kt at *
  have HNO := Lib.hid hno
  have HKN : Hid (bad = 0 → (kdM kt).isSome = false) := fun h => by
    rcases hno with h1 | h1
    · exact absurd h h1
    · rw [h1]; rfl
  clear hk hs hno hx ht64
  go_enter Tryd.func26, Tryd.ntmps26
  go_wp2
  refine wp_scope_fwd 0 rfl ?_
  by_cases hb : bad = 0
  · subst hb
    have hkn := HKN.out rfl
    go_wp2_with (first | (go_at_call 56; refine Calls.mono (HRS.out _ (HC0.out _ _)) ?_; rintro e w1 ⟨rfl, hs1, hc1⟩; have HS1 := Lib.hid hs1; have HC1 := Lib.hid hc1; obtain ⟨kc, hlk, h3, h1c, hkd⟩ := look_kind (HKS.out _ (((HC0.out _ _).mono (fun _ _ h => h.elim)).trans hc1)) kt; obtain ⟨x, y, z, rfl⟩ := len3 h3; simp only [List.all_cons, List.all_nil, Bool.and_true, Bool.and_eq_true] at h1c; obtain ⟨hx1, hy1, hz1⟩ := h1c; have hsx := fun (w : World) (a : Addr) => run_store Tryd.prog w a x .plain hx1; have hsy := fun (w : World) (a : Addr) => run_store Tryd.prog w a y .plain hy1; have hsz := fun (w : World) (a : Addr) => run_store Tryd.prog w a z .plain hz1; clear hs1 hc1 hkd h3 hx1 hy1 hz1) | (go_at_call 57; refine Calls.mono (HKO.out _) ?_; rintro e w2 ⟨rfl, rfl⟩) | (go_at_call 27; refine Calls.mono (HBAD.out _ _ (HS1.out.heapEq ((Chg.refl none_ _).alloc _))) ?_; rintro e w3 ⟨rfl, rfl⟩; clear hsx hsy hsz hlk))
    go_step3
    simp only [Exit.then]
    refine jump_fwd ?_
    go_wp2_with (first | (go_at_call 28; refine Calls.mono (HFAIL.out _ _ (HS1.out.heapEq ((Chg.refl none_ _).alloc _))) ?_; rintro e w5 ⟨rfl, hs5, hc5⟩; have HS5 := Lib.hid hs5; have HC5 := Lib.hid hc5; obtain ⟨hr5, hw5⟩ := HR4.out w5 ((HC1.out.alloc _).trans hc5); have HR5 := Lib.hid hr5; have HW5 := Lib.hid hw5; clear hs5 hc5 hr5 hw5) | ((with_reducible show wpList _ _ _ (⟨_, .store 27 _ _, _, _, _, _⟩ :: _) _ _); refine wpList_store_Row rfl rfl rfl (xs := zeroF) HR5.out rfl rfl size27 rfl ?_; intro w6 hr6 hch6 hs6))
    rw [Exit.noGoto_ret]
    refine ret_row rfl rfl hr6 Tryd.underlying27 rfl size27 rfl ?_
    exact ⟨rfl, HS5.out.chg (hch6 (· = w.heap.size) w5 (Chg.refl _ _) (fun _ => rfl)) (by show ¬ _ = _; omega) (fun b hb e => by have := HTL.out b hb; have e2 : b = w.heap.size := e; omega), hch6 (· = r) w HW5.out (fun h => absurd h (by omega))⟩
  · have hb1 : (bad == 0) = false := by simpa using hb
    have hb2 : decide (bad = 0) = false := by simpa using hb
    go_wp2_with (first | (go_at_call 56; refine Calls.mono (HRS.out _ (HC0.out _ _)) ?_; rintro e w1 ⟨rfl, hs1, hc1⟩; have HS1 := Lib.hid hs1; have HC1 := Lib.hid hc1; obtain ⟨kc, hlk, h3, h1c, hkd⟩ := look_kind (HKS.out _ (((HC0.out _ _).mono (fun _ _ h => h.elim)).trans hc1)) kt; obtain ⟨x, y, z, rfl⟩ := len3 h3; simp only [List.all_cons, List.all_nil, Bool.and_true, Bool.and_eq_true] at h1c; obtain ⟨hx1, hy1, hz1⟩ := h1c; have hsx := fun (w : World) (a : Addr) => run_store Tryd.prog w a x .plain hx1; have hsy := fun (w : World) (a : Addr) => run_store Tryd.prog w a y .plain hy1; have hsz := fun (w : World) (a : Addr) => run_store Tryd.prog w a z .plain hz1; clear hs1 hc1 hkd h3 hx1 hy1 hz1) | (go_at_call 57; refine Calls.mono (HKO.out _) ?_; rintro e w2 ⟨rfl, rfl⟩) | (go_at_call 27; refine Calls.mono (HBAD.out _ _ (HS1.out.heapEq ((Chg.refl none_ _).alloc _))) ?_; rintro e w3 ⟨rfl, rfl⟩; clear hsx hsy hsz hlk))
    go_step3
    simp only [Exit.then]
    refine jump_fwd ?_
    go_wp2_with (first | (go_at_call 28; refine Calls.mono (HFAIL.out _ _ (HS1.out.heapEq ((Chg.refl none_ _).alloc _))) ?_; rintro e w5 ⟨rfl, hs5, hc5⟩; have HS5 := Lib.hid hs5; have HC5 := Lib.hid hc5; obtain ⟨hr5, hw5⟩ := HR4.out w5 ((HC1.out.alloc _).trans hc5); have HR5 := Lib.hid hr5; have HW5 := Lib.hid hw5; clear hs5 hc5 hr5 hw5) | ((with_reducible show wpList _ _ _ (⟨_, .store 27 _ _, _, _, _, _⟩ :: _) _ _); refine wpList_store_Row rfl rfl rfl (xs := zeroF) HR5.out rfl rfl size27 rfl ?_; intro w6 hr6 hch6 hs6))
    rw [Exit.noGoto_ret]
    refine ret_row rfl rfl hr6 Tryd.underlying27 rfl size27 rfl ?_
    exact ⟨rfl, HS5.out.chg (hch6 (· = w.heap.size) w5 (Chg.refl _ _) (fun _ => rfl)) (by show ¬ _ = _; omega) (fun b hb e => by have := HTL.out b hb; have e2 : b = w.heap.size := e; omega), hch6 (· = r) w HW5.out (fun h => absurd h (by omega))⟩
end Go.Proofs.YtlcffjmbfpdlbaaDoor
