/- Layer 10 (keys): levels dropped, set and updated. -/
import Derived.Test.YtfpflhcabjcamaaDoorV10Ring
import Derived.Test.YtfpflhcabjcamaaDoorV10Live
namespace Go.Proofs.YtfpflhcabjcamaaDoor
open Go.RowKit

theorem wp_named {P : Program} {c : Code} {Q : Exit → Act → World → Prop} {a : Act} {w : World} (k : ∀ a0, a0 = a → Code.wp P c Q a0 w) : Code.wp P c Q a w := k a rfl
theorem bldL0 (w : World) : (Instr.build 56 #[]).run Tryd.prog w = .ok (.agg [ptr none, ptr none, ptr none].toArray) w := run_build w _ _ _ (by kernel_rfl)
theorem bldL2 (x y : Nat) (w : World) : (Instr.build 56 #[(0, .pointer (some ⟨x, 0, none⟩)), (1, .pointer (some ⟨y, 0, none⟩))]).run Tryd.prog w = .ok (.agg [ptr (some x), ptr (some y), ptr none].toArray) w := run_build w _ _ _ (by kernel_rfl)
theorem bldL3 (x y z : Nat) (w : World) : (Instr.build 56 #[(0, .pointer (some ⟨x, 0, none⟩)), (1, .pointer (some ⟨y, 0, none⟩)), (2, .pointer (some ⟨z, 0, none⟩))]).run Tryd.prog w = .ok (.agg [ptr (some x), ptr (some y), ptr (some z)].toArray) w := run_build w _ _ _ (by kernel_rfl)
theorem ring_lv0 {w : World} {g : Nat} {a0 b0 c0 a1 b1 c1 : Option Nat} {g0 g1 : Bool} (h : Row w g 60 (cellsR a0 b0 c0 a1 b1 c1 g0 g1)) : Row w g 60 ([] ++ [ptr a0, ptr b0, ptr c0] ++ [ptr a1, ptr b1, ptr c1, .bool g0, .bool g1]) := h
theorem ring_lv1 {w : World} {g : Nat} {a0 b0 c0 a1 b1 c1 : Option Nat} {g0 g1 : Bool} (h : Row w g 60 (cellsR a0 b0 c0 a1 b1 c1 g0 g1)) : Row w g 60 ([ptr a0, ptr b0, ptr c0] ++ [ptr a1, ptr b1, ptr c1] ++ [.bool g0, .bool g1]) := h

set_option maxRecDepth 100000 in
set_option maxHeartbeats 1000000 in
theorem Drop_0 (g : Nat) (T : Nat → Prop) (r : Rg) (w : World) (h : RingAt w g T r) (hT : ¬ T g) : Calls Tryd.prog 16 #[.pointer (some ⟨g, 0, none⟩), .int .i64 0] w fun e w' => e = .returned (.bool r.l0.isSome) ∧ RingAt w' g T { r with l0 := none } ∧ Chg (· = g) w w' := by
  have HH := Lib.hid (fun w' (hc : Chg none_ w w') => Has_0 g T r w' (h.quiet hc))
  have HRG := Lib.hid h
  obtain ⟨a0, b0, c0, a1, b1, c1, hrow, h0, h1⟩ := h
  have HR := Lib.hid hrow
  have H0 := Lib.hid h0
  have H1 := Lib.hid h1
  cases hl : r.l0 with
  | none =>
    rw [hl] at HH
    have HH2 : Hid (∀ w', Chg none_ w w' → Calls Tryd.prog 22 #[.pointer (some ⟨g, 0, none⟩), .int .i64 0] w' fun e w'' => e = .returned (.bool false) ∧ Chg none_ w' w'') := HH
    have HE : Hid ({ r with l0 := none } = r) := Lib.hid (by cases r; simp_all)
    clear HH hl hrow h0 h1
    go_enter Tryd.func16, Tryd.ntmps16
    go_wp2_with (go_at_call 22; with_reducible refine (HH2.out _ (Chg.refl _ _)).mono ?_; rintro e w1 ⟨rfl, hc1⟩; have HC1 := Lib.hid hc1; clear hc1)
    go_ret
    exact ⟨rfl, by rw [HE.out]; exact HRG.out.quiet HC1.out, HC1.out.ofN⟩
  | some l =>
    rw [hl] at HH h0
    have HH2 : Hid (∀ w', Chg none_ w w' → Calls Tryd.prog 22 #[.pointer (some ⟨g, 0, none⟩), .int .i64 0] w' fun e w'' => e = .returned (.bool true) ∧ Chg none_ w' w'') := HH
    obtain ⟨_, _, x, y, rfl, rfl, _⟩ := h0
    clear HH hl hrow h1 HRG
    go_enter Tryd.func16, Tryd.ntmps16
    go_wp2_with (first | (go_at_call 22; with_reducible refine (HH2.out _ (Chg.refl _ _)).mono ?_; rintro e w1 ⟨rfl, hc1⟩; have HC1 := Lib.hid hc1; have HR1 := Lib.hid (ring_lv0 (HR.out.chg hc1 (fun h => h))); have HR1_ := Lib.hid (HR.out.chg hc1 (fun h => h)); clear hc1) | ((with_reducible show wpList _ _ _ (⟨some 11, _, _, _, _, _⟩ :: _) _ _); refine wpList_val rfl (.agg [ptr none, ptr none, ptr none].toArray) (fun w => by have hh := bldL0 w; unfold execOp; simp [Act.eval, hh]) ?_) | ((with_reducible show wpList _ _ _ (⟨_, .store 56 _ _, _, _, _, _⟩ :: _) _ _); refine wpList_store_Mid (pre := []) (ys := [ptr (some x), ptr (some y), ptr c0]) (post := [ptr a1, ptr b1, ptr c1, .bool r.g0, .bool r.g1]) (xs := [ptr none, ptr none, ptr none]) rfl rfl (n := 0) rfl rfl HR1.out rfl rfl size3L rfl ?_; intro w2 hr2 hc2 hs2; have HR2 := Lib.hid hr2; have HC2 := Lib.hid (hc2 (· = g) w1 (Chg.refl _ _) (fun _ => rfl)); clear hr2 hc2 hs2))
    go_ret
    exact ⟨rfl, ⟨none, none, none, a1, b1, c1, HR2.out, ⟨rfl, rfl, rfl⟩, (H1.out.chg HC1.out (fun _ _ h => h)).chg HC2.out (fun b hb e => hT (e ▸ hb))⟩, HC1.out.ofN.trans HC2.out⟩

set_option maxRecDepth 100000 in
set_option maxHeartbeats 1000000 in
theorem Drop_1 (g : Nat) (T : Nat → Prop) (r : Rg) (w : World) (h : RingAt w g T r) (hT : ¬ T g) : Calls Tryd.prog 16 #[.pointer (some ⟨g, 0, none⟩), .int .i64 1] w fun e w' => e = .returned (.bool r.l1.isSome) ∧ RingAt w' g T { r with l1 := none } ∧ Chg (· = g) w w' := by
  have HH := Lib.hid (fun w' (hc : Chg none_ w w') => Has_1 g T r w' (h.quiet hc))
  have HRG := Lib.hid h
  obtain ⟨a0, b0, c0, a1, b1, c1, hrow, h0, h1⟩ := h
  have HR := Lib.hid hrow
  have H0 := Lib.hid h0
  have H1 := Lib.hid h1
  cases hl : r.l1 with
  | none =>
    rw [hl] at HH
    have HH2 : Hid (∀ w', Chg none_ w w' → Calls Tryd.prog 22 #[.pointer (some ⟨g, 0, none⟩), .int .i64 1] w' fun e w'' => e = .returned (.bool false) ∧ Chg none_ w' w'') := HH
    have HE : Hid ({ r with l1 := none } = r) := Lib.hid (by cases r; simp_all)
    clear HH hl hrow h0 h1
    go_enter Tryd.func16, Tryd.ntmps16
    go_wp2_with (go_at_call 22; with_reducible refine (HH2.out _ (Chg.refl _ _)).mono ?_; rintro e w1 ⟨rfl, hc1⟩; have HC1 := Lib.hid hc1; clear hc1)
    go_ret
    exact ⟨rfl, by rw [HE.out]; exact HRG.out.quiet HC1.out, HC1.out.ofN⟩
  | some l =>
    rw [hl] at HH h1
    have HH2 : Hid (∀ w', Chg none_ w w' → Calls Tryd.prog 22 #[.pointer (some ⟨g, 0, none⟩), .int .i64 1] w' fun e w'' => e = .returned (.bool true) ∧ Chg none_ w' w'') := HH
    obtain ⟨_, _, x, y, rfl, rfl, _⟩ := h1
    clear HH hl hrow h0 HRG
    go_enter Tryd.func16, Tryd.ntmps16
    go_wp2_with (first | (go_at_call 22; with_reducible refine (HH2.out _ (Chg.refl _ _)).mono ?_; rintro e w1 ⟨rfl, hc1⟩; have HC1 := Lib.hid hc1; have HR1 := Lib.hid (ring_lv1 (HR.out.chg hc1 (fun h => h))); have HR1_ := Lib.hid (HR.out.chg hc1 (fun h => h)); clear hc1) | ((with_reducible show wpList _ _ _ (⟨some 11, _, _, _, _, _⟩ :: _) _ _); refine wpList_val rfl (.agg [ptr none, ptr none, ptr none].toArray) (fun w => by have hh := bldL0 w; unfold execOp; simp [Act.eval, hh]) ?_) | ((with_reducible show wpList _ _ _ (⟨_, .store 56 _ _, _, _, _, _⟩ :: _) _ _); refine wpList_store_Mid (pre := [ptr a0, ptr b0, ptr c0]) (ys := [ptr (some x), ptr (some y), ptr c1]) (post := [.bool r.g0, .bool r.g1]) (xs := [ptr none, ptr none, ptr none]) rfl rfl (n := 3) rfl rfl HR1.out rfl rfl size3L rfl ?_; intro w2 hr2 hc2 hs2; have HR2 := Lib.hid hr2; have HC2 := Lib.hid (hc2 (· = g) w1 (Chg.refl _ _) (fun _ => rfl)); clear hr2 hc2 hs2))
    go_ret
    exact ⟨rfl, ⟨a0, b0, c0, none, none, none, HR2.out, (H0.out.chg HC1.out (fun _ _ h => h)).chg HC2.out (fun b hb e => hT (e ▸ hb)), ⟨rfl, rfl, rfl⟩⟩, HC1.out.ofN.trans HC2.out⟩

theorem ring_g0 {w : World} {g x y : Nat} {a1 b1 c1 : Option Nat} {r : Rg} (h : Row w g 60 ([] ++ [ptr (some x), ptr (some y), ptr none] ++ [ptr a1, ptr b1, ptr c1, .bool r.g0, .bool r.g1])) (hg : r.g0 = false) : w.cell? ⟨g, 6, none⟩ = some (.bool false) := by rw [← hg]; exact h.cell 6
theorem ring_g1 {w : World} {g x y : Nat} {a0 b0 c0 : Option Nat} {r : Rg} (h : Row w g 60 ([ptr a0, ptr b0, ptr c0] ++ [ptr (some x), ptr (some y), ptr none] ++ [.bool r.g0, .bool r.g1])) (hg : r.g1 = false) : w.cell? ⟨g, 7, none⟩ = some (.bool false) := by rw [← hg]; exact h.cell 7

set_option maxRecDepth 100000 in
set_option maxHeartbeats 1000000 in
theorem SetN_0 (g : Nat) (T : Nat → Prop) (r : Rg) (own peer : List Nat) (w : World) (h : RingAt w g T r) (hg : r.g0 = true) : Calls Tryd.prog 7 #[.pointer (some ⟨g, 0, none⟩), .int .i64 0, .agg (u8s own).toArray, .agg (u8s peer).toArray] w fun e w' => e = .returned (.bool false) ∧ Chg none_ w w' := by
  have HGL := Lib.hid h.lt
  obtain ⟨a0, b0, c0, a1, b1, c1, hrow, h0, h1⟩ := h
  have HCG : Hid (w.cell? ⟨g, 6, none⟩ = some (.bool true)) := Lib.hid (by rw [← hg]; exact hrow.cell 6)
  clear hrow h0 h1 hg
  go_enter Tryd.func7, Tryd.ntmps7
  go_wp2_with (first | ((with_reducible show wpList _ _ _ (⟨some 6, .box 26 _, _, _, _, _⟩ :: _) _ _); refine wpList_box_Row rfl rfl (u8s own) rfl ?_; intro w1 hr1 hc1 hs1; have HRA := Lib.hid hr1; have HC1 := Lib.hid hc1; clear hr1 hc1 hs1) | ((with_reducible show wpList _ _ _ (⟨some 7, .box 26 _, _, _, _, _⟩ :: _) _ _); refine wpList_box_Row rfl rfl (u8s peer) rfl ?_; intro w2 hr2 hc2 hs2; have HRB := Lib.hid hr2; have HC2 := Lib.hid (HC1.out.trans hc2); have HRA2 := Lib.hid (HRA.out.chg hc2 (fun h => h)); have cg := (hc2.cell 6 (Nat.lt_of_lt_of_le HGL.out HC1.out.size) (fun h => h)).trans ((HC1.out.cell 6 HGL.out (fun h => h)).trans HCG.out); clear hr2 hc2 hs2))
  go_ret
  exact ⟨rfl, HC2.out⟩

set_option maxRecDepth 100000 in
set_option maxHeartbeats 8000000 in
theorem SetY_0 (g : Nat) (T : Nat → Prop) (r : Rg) (own peer : List Nat) (w : World) (h : RingAt w g T r) (hg : r.g0 = false) (hT : ¬ T g) (hTn : ∀ b, w.heap.size ≤ b → T b) (hol : own.length = 32) (hob : ∀ x ∈ own, x < 256) (hpl : peer.length = 32) (hpb : ∀ x ∈ peer, x < 256) (hK : KTab w) : Calls Tryd.prog 7 #[.pointer (some ⟨g, 0, none⟩), .int .i64 0, .agg (u8s own).toArray, .agg (u8s peer).toArray] w fun e w' => e = .returned (.bool true) ∧ RingAt w' g T { r with l0 := some ⟨makeN own false, makeN peer false, none⟩, g0 := true } ∧ Chg (· = g) w w' := by
  have HGL := Lib.hid h.lt
  obtain ⟨a0, b0, c0, a1, b1, c1, hrow, h0, h1⟩ := h
  have HCG : Hid (w.cell? ⟨g, 6, none⟩ = some (.bool false)) := Lib.hid (by rw [← hg]; exact hrow.cell 6)
  have HR := Lib.hid hrow
  have H0 := Lib.hid h0
  have H1 := Lib.hid h1
  have HOL := Lib.hid hol
  have HPL := Lib.hid hpl
  have HTN := Lib.hid hTn
  have hg0 := hg
  obtain ⟨MA, hMA⟩ : ∃ M, M = makeN own false := ⟨_, rfl⟩
  obtain ⟨MB, hMB⟩ : ∃ M, M = makeN peer false := ⟨_, rfl⟩
  have HMAO : Hid MA.Ok := Lib.hid (by rw [hMA]; exact makeN_ok _ _)
  have HMBO : Hid MB.Ok := Lib.hid (by rw [hMB]; exact makeN_ok _ _)
  have HMAw : Hid (∀ w', Chg none_ w w' → Calls Tryd.prog 8 #[.agg (u8s own).toArray, .bool false] w' fun e w'' => e = .returned (.agg (cellsS MA).toArray) ∧ Chg none_ w' w'') := Lib.hid (fun w' hc => by rw [hMA]; exact Make_any own false w' hol hob (hK.chg hc))
  have HMBw : Hid (∀ w', Chg none_ w w' → Calls Tryd.prog 8 #[.agg (u8s peer).toArray, .bool false] w' fun e w'' => e = .returned (.agg (cellsS MB).toArray) ∧ Chg none_ w' w'') := Lib.hid (fun w' hc => by rw [hMB]; exact Make_any peer false w' hpl hpb (hK.chg hc))
  rw [← hMA, ← hMB]
  clear hrow h0 h1 hol hob hpl hpb hK hMA hMB hg hTn
  go_enter Tryd.func7, Tryd.ntmps7
  go_wp2_with (first | ((with_reducible show wpList _ _ _ (⟨some 6, .box 26 _, _, _, _, _⟩ :: _) _ _); refine wpList_box_Row rfl rfl (u8s own) rfl ?_; intro w1 hr1 hc1 hs1; have HRA := Lib.hid hr1; have HC1 := Lib.hid hc1; clear hr1 hc1 hs1) | ((with_reducible show wpList _ _ _ (⟨some 7, .box 26 _, _, _, _, _⟩ :: _) _ _); refine wpList_box_Row rfl rfl (u8s peer) rfl ?_; intro w2 hr2 hc2 hs2; have HRB := Lib.hid hr2; have HC2 := Lib.hid (HC1.out.trans hc2); have HRA2 := Lib.hid (HRA.out.chg hc2 (fun h => h)); have cg := (hc2.cell 6 (Nat.lt_of_lt_of_le HGL.out HC1.out.size) (fun h => h)).trans ((HC1.out.cell 6 HGL.out (fun h => h)).trans HCG.out); clear hr2 hc2 hs2))
  try simp only [Act.put, List.setIfInBounds_toArray, List.set_cons_zero, List.set_cons_succ]
  have HMA : Hid (∀ w', Chg none_ w2 w' → Calls Tryd.prog 8 #[.agg (u8s own).toArray, .bool false] w' fun e w'' => e = .returned (.agg (cellsS MA).toArray) ∧ Chg none_ w' w'') := Lib.hid (fun w' hc => HMAw.out w' (HC2.out.trans hc))
  have HMB : Hid (∀ w', Chg none_ w2 w' → Calls Tryd.prog 8 #[.agg (u8s peer).toArray, .bool false] w' fun e w'' => e = .returned (.agg (cellsS MB).toArray) ∧ Chg none_ w' w'') := Lib.hid (fun w' hc => HMBw.out w' (HC2.out.trans hc))
  clear HMAw HMBw cg
  refine wp_named ?_
  intro a_ ha_
  refine Code.wp_mono (Q := fun e a w' => e = .normal ∧ ∃ (gA gB : Nat), a = (((((a_.put (some 29) (.agg (u8s own).toArray)).put (some 31) (.agg (u8s peer).toArray)).put (some 30) (.agg (cellsS MA).toArray)).put (some 32) (.agg (cellsS MB).toArray)).put (some 9) (.pointer (some ⟨gA, 0, none⟩))).put (some 10) (.pointer (some ⟨gB, 0, none⟩)) ∧ Row w' gA 36 (cellsS MA) ∧ Row w' gB 36 (cellsS MB) ∧ w2.heap.size ≤ gA ∧ w2.heap.size ≤ gB ∧ Chg none_ w2 w') ?hq ?_
  case hq =>
    rintro e a w3 ⟨rfl, gA, gB, rfl, hrA, hrB, hgA, hgB, hc3⟩
    subst ha_
    simp only [Act.put, List.setIfInBounds_toArray, List.set_cons_zero, List.set_cons_succ]
    have HC3 := Lib.hid (HC2.out.trans hc3)
    have HR3 := Lib.hid (ring_lv0 (HR.out.chg HC3.out (fun h => h)))
    have HRA_ := Lib.hid hrA
    have HRB_ := Lib.hid hrB
    have HGG : Hid (w.heap.size ≤ gA ∧ w.heap.size ≤ gB) := Lib.hid (by have := HC2.out.size; omega)
    clear hrA hrB hgA hgB hc3
    go_wp2_with (first | ((with_reducible show wpList _ _ _ (⟨some 35, _, _, _, _, _⟩ :: _) _ _); refine wpList_val rfl (.agg [ptr (some gA), ptr (some gB), ptr none].toArray) (fun w => by have hh := bldL2 gA gB w; unfold execOp; simp [Act.eval, hh]) ?_) | ((with_reducible show wpList _ _ _ (⟨_, .store 56 _ _, _, _, _, _⟩ :: _) _ _); refine wpList_store_Mid (pre := []) (ys := [ptr a0, ptr b0, ptr c0]) (post := [ptr a1, ptr b1, ptr c1, .bool r.g0, .bool r.g1]) (xs := [ptr (some gA), ptr (some gB), ptr none]) rfl rfl (n := 0) rfl rfl HR3.out rfl rfl size3L rfl ?_; intro w4 hr4 hc4 hs4; have HR4 := Lib.hid hr4; have HC4 := Lib.hid (hc4 (· = g) w3 (Chg.refl _ _) (fun _ => rfl)); have f4 := hr4.frozen 6; have c4 : w4.cell? ⟨g, 6, none⟩ = some (.bool false) := ring_g0 hr4 hg0; clear hr4 hc4 hs4))
    go_ret
    have HR5 := HR4.out.set 6 (.bool true)
    have HC5 := (HC4.out.setCell (p := ⟨g, 6, none⟩) (fun _ => rfl) (.bool true))
    have nA : gA ≠ g := by have := HGG.out; have := HGL.out; omega
    have nB : gB ≠ g := by have := HGG.out; have := HGL.out; omega
    have HA5 := HRA_.out.chg HC5 (fun e => nA e)
    have HB5 := HRB_.out.chg HC5 (fun e => nB e)
    have OT := (H1.out.chg HC3.out (fun _ _ h => h)).chg HC5 (fun b hb e => hT (e ▸ hb))
    have LV : LvAt _ T (some ⟨MA, MB, none⟩) (some gA) (some gB) none := ⟨HMAO.out, HMBO.out, gA, gB, rfl, rfl, HTN.out _ HGG.out.1, HTN.out _ HGG.out.2, HA5, HB5, rfl⟩
    exact ⟨rfl, ⟨some gA, some gB, none, a1, b1, c1, HR5, LV, OT⟩, HC3.out.ofN.trans HC5⟩
  subst ha_
  refine wp_region_held_drew (S := fun w' => Chg none_ w2 w') (by kernel_rfl) ((Chg.refl none_ w2).drew) (fun hch0 => ?_)
  generalize w2.drew = wd at hch0 ⊢
  refine wpAnyH_take (i := 0) (v := .agg (u8s own).toArray) rfl (by kernel_rfl) (by kernel_rfl) (by kernel_rfl) (by first | exact fun _ _ _ h => h | exact fun _ _ _ h => nomatch h.1) (yieldsIf_load_mid (by rfl) 26 _ rfl w.heap.size 0 rfl (u8s own) _ (fun w' hw' => (HRA2.out.chg hw' (fun h => h)).range) Tryd.underlying26 rfl (by rw [u8s_length, HOL.out]; exact size25)) hch0 ?_
  refine wpAnyH_take (i := 2) (v := .agg (u8s peer).toArray) rfl (by kernel_rfl) (by kernel_rfl) (by kernel_rfl) (by first | exact fun _ _ _ h => h | exact fun _ _ _ h => nomatch h.1) (yieldsIf_load_mid (by rfl) 26 _ rfl w1.heap.size 0 rfl (u8s peer) _ (fun w' hw' => (HRB.out.chg hw' (fun h => h)).range) Tryd.underlying26 rfl (by rw [u8s_length, HPL.out]; exact size25)) hch0 ?_
  try simp only [Act.put, List.setIfInBounds_toArray, List.set_cons_zero, List.set_cons_succ, List.getElem_toArray, List.getElem_cons_succ, List.getElem_cons_zero]
  refine wpAnyH_ready (rs := [1, 4, 5]) (by kernel_rfl) (by simp) ?_
  refine AllReadyH.cons rfl (fun K hK => ?_) (AllReadyH.cons rfl (fun K hK => ?_) (AllReadyH.cons rfl (fun K hK => ?_) AllReadyH.nil))
  · rw [if_pos (by rfl)]
    try simp only [List.getElem_toArray, List.getElem_cons_succ, List.getElem_cons_zero]
    go_simp
    refine (HMA.out _ hch0).mono ?_
    rintro e y0 ⟨rfl, hs0⟩
    have hg0 : Chg none_ w2 y0 := (hch0).trans hs0
    refine hK.out _ _ (hg0) (fun _ => ?_)
    clear hK K
    try simp only [Act.put, List.setIfInBounds_toArray, List.set_cons_zero, List.set_cons_succ, List.getElem_toArray, List.getElem_cons_succ, List.getElem_cons_zero]
    refine wpAnyH_ready (rs := [3, 4, 5]) (by kernel_rfl) (by simp) ?_
    refine AllReadyH.cons rfl (fun K hK => ?_) (AllReadyH.cons rfl (fun K hK => ?_) (AllReadyH.cons rfl (fun K hK => ?_) AllReadyH.nil))
    · rw [if_pos (by rfl)]
      try simp only [List.getElem_toArray, List.getElem_cons_succ, List.getElem_cons_zero]
      go_simp
      refine (HMB.out _ hg0).mono ?_
      rintro e y1 ⟨rfl, hs1⟩
      have hg1 : Chg none_ w2 y1 := (hg0).trans hs1
      refine hK.out _ _ (hg1) (fun _ => ?_)
      clear hK K
      try simp only [Act.put, List.setIfInBounds_toArray, List.set_cons_zero, List.set_cons_succ, List.getElem_toArray, List.getElem_cons_succ, List.getElem_cons_zero]
      refine wpAnyH_ready (rs := [4, 5]) (by kernel_rfl) (by simp) ?_
      refine AllReadyH.cons rfl (fun K hK => ?_) (AllReadyH.cons rfl (fun K hK => ?_) AllReadyH.nil)
      · rw [if_pos (by rfl)]
        try simp only [List.getElem_toArray, List.getElem_cons_succ, List.getElem_cons_zero]
        refine wp_alloc_row rfl zeroS zeroSc ?_
        intro y2 hr2 hs2 hz2
        clear hz2
        have hg2 : Chg none_ w2 y2 := (hg1).trans hs2
        have hb2 := (hg1).size
        refine hK.out _ _ (hg2) (fun _ => ?_)
        clear hK K
        try simp only [Act.put, List.setIfInBounds_toArray, List.set_cons_zero, List.set_cons_succ]
        refine wpAnyH_ready (rs := [5]) (by kernel_rfl) (by simp) ?_
        refine AllReadyH.cons rfl (fun K hK => ?_) AllReadyH.nil
        rw [if_pos (by rfl)]
        try simp only [List.getElem_toArray, List.getElem_cons_succ, List.getElem_cons_zero]
        refine wp_alloc_row rfl zeroS zeroSc ?_
        intro y3 hr3 hs3 hz3
        clear hz3
        have hg3 : Chg none_ w2 y3 := (hg2).trans hs3
        have hb3 := (hg2).size
        have hne := hr2.lt
        refine hK.out _ _ (hg3) (fun _ => ?_)
        clear hK K
        try simp only [Act.put, List.setIfInBounds_toArray, List.set_cons_zero, List.set_cons_succ]
        have hra := (hr2.chg hs3 (fun h => h))
        have hrb := hr3
        refine wpAnyH_ready (rs := [6]) (by kernel_rfl) (by simp) ?_
        refine AllReadyH.cons rfl (fun K hK => ?_) AllReadyH.nil
        rw [if_pos (by rfl)]
        try simp only [List.getElem_toArray, List.getElem_cons_succ, List.getElem_cons_zero]
        refine wp_store_row (ty := 36) (xs := cellsS MA) rfl rfl (hra) rfl (by rw [cellsS_len HMAO.out]; rfl) (by rw [cellsS_len HMAO.out]; exact sizeSc) (cellsS_one MA) ?_
        intro z1 hr_z1 hc_z1 hs_z1
        refine hK.out _ _ (hc_z1 none_ w2 (hg3) (fun h => by omega)) (fun _ => ?_)
        clear hK K
        try simp only [Act.put]
        have hz1 := hc_z1 none_ w2 (hg3) (fun h => by omega)
        have hrb1 := hrb.chg (hc_z1 (· = y1.heap.size) y3 (Chg.refl _ _) (fun _ => rfl)) (fun e => by omega)
        refine wpAnyH_ready (rs := [7]) (by kernel_rfl) (by simp) ?_
        refine AllReadyH.cons rfl (fun K hK => ?_) AllReadyH.nil
        rw [if_pos (by rfl)]
        try simp only [List.getElem_toArray, List.getElem_cons_succ, List.getElem_cons_zero]
        refine wp_store_row (ty := 36) (xs := cellsS MB) rfl rfl (hrb1) rfl (by rw [cellsS_len HMBO.out]; rfl) (by rw [cellsS_len HMBO.out]; exact sizeSc) (cellsS_one MB) ?_
        intro z2 hr_z2 hc_z2 hs_z2
        refine hK.out _ _ (hc_z2 none_ w2 hz1 (fun h => by omega)) (fun _ => ?_)
        clear hK K
        try simp only [Act.put]
        have hra2 := hr_z1.chg (hc_z2 (· = y2.heap.size) z1 (Chg.refl _ _) (fun _ => rfl)) (fun e => by omega)
        refine wpAnyH_done (by kernel_rfl) ?_ _
        exact ⟨rfl, y1.heap.size, y2.heap.size, rfl, hra2, hr_z2, by omega, by omega, hc_z2 none_ w2 hz1 (fun h => by omega)⟩
      · rw [if_pos (by rfl)]
        try simp only [List.getElem_toArray, List.getElem_cons_succ, List.getElem_cons_zero]
        refine wp_alloc_row rfl zeroS zeroSc ?_
        intro y2 hr2 hs2 hz2
        clear hz2
        have hg2 : Chg none_ w2 y2 := (hg1).trans hs2
        have hb2 := (hg1).size
        refine hK.out _ _ (hg2) (fun _ => ?_)
        clear hK K
        try simp only [Act.put, List.setIfInBounds_toArray, List.set_cons_zero, List.set_cons_succ]
        refine wpAnyH_ready (rs := [4]) (by kernel_rfl) (by simp) ?_
        refine AllReadyH.cons rfl (fun K hK => ?_) AllReadyH.nil
        rw [if_pos (by rfl)]
        try simp only [List.getElem_toArray, List.getElem_cons_succ, List.getElem_cons_zero]
        refine wp_alloc_row rfl zeroS zeroSc ?_
        intro y3 hr3 hs3 hz3
        clear hz3
        have hg3 : Chg none_ w2 y3 := (hg2).trans hs3
        have hb3 := (hg2).size
        have hne := hr2.lt
        refine hK.out _ _ (hg3) (fun _ => ?_)
        clear hK K
        try simp only [Act.put, List.setIfInBounds_toArray, List.set_cons_zero, List.set_cons_succ]
        have hra := hr3
        have hrb := (hr2.chg hs3 (fun h => h))
        refine wpAnyH_ready (rs := [6]) (by kernel_rfl) (by simp) ?_
        refine AllReadyH.cons rfl (fun K hK => ?_) AllReadyH.nil
        rw [if_pos (by rfl)]
        try simp only [List.getElem_toArray, List.getElem_cons_succ, List.getElem_cons_zero]
        refine wp_store_row (ty := 36) (xs := cellsS MA) rfl rfl (hra) rfl (by rw [cellsS_len HMAO.out]; rfl) (by rw [cellsS_len HMAO.out]; exact sizeSc) (cellsS_one MA) ?_
        intro z1 hr_z1 hc_z1 hs_z1
        refine hK.out _ _ (hc_z1 none_ w2 (hg3) (fun h => by omega)) (fun _ => ?_)
        clear hK K
        try simp only [Act.put]
        have hz1 := hc_z1 none_ w2 (hg3) (fun h => by omega)
        have hrb1 := hrb.chg (hc_z1 (· = y2.heap.size) y3 (Chg.refl _ _) (fun _ => rfl)) (fun e => by omega)
        refine wpAnyH_ready (rs := [7]) (by kernel_rfl) (by simp) ?_
        refine AllReadyH.cons rfl (fun K hK => ?_) AllReadyH.nil
        rw [if_pos (by rfl)]
        try simp only [List.getElem_toArray, List.getElem_cons_succ, List.getElem_cons_zero]
        refine wp_store_row (ty := 36) (xs := cellsS MB) rfl rfl (hrb1) rfl (by rw [cellsS_len HMBO.out]; rfl) (by rw [cellsS_len HMBO.out]; exact sizeSc) (cellsS_one MB) ?_
        intro z2 hr_z2 hc_z2 hs_z2
        refine hK.out _ _ (hc_z2 none_ w2 hz1 (fun h => by omega)) (fun _ => ?_)
        clear hK K
        try simp only [Act.put]
        have hra2 := hr_z1.chg (hc_z2 (· = y1.heap.size) z1 (Chg.refl _ _) (fun _ => rfl)) (fun e => by omega)
        refine wpAnyH_done (by kernel_rfl) ?_ _
        exact ⟨rfl, y2.heap.size, y1.heap.size, rfl, hra2, hr_z2, by omega, by omega, hc_z2 none_ w2 hz1 (fun h => by omega)⟩
    · rw [if_pos (by rfl)]
      try simp only [List.getElem_toArray, List.getElem_cons_succ, List.getElem_cons_zero]
      refine wp_alloc_row rfl zeroS zeroSc ?_
      intro y1 hr1 hs1 hz1
      clear hz1
      have hg1 : Chg none_ w2 y1 := (hg0).trans hs1
      have hb1 := (hg0).size
      refine hK.out _ _ (hg1) (fun _ => ?_)
      clear hK K
      try simp only [Act.put, List.setIfInBounds_toArray, List.set_cons_zero, List.set_cons_succ]
      refine wpAnyH_ready (rs := [3, 5]) (by kernel_rfl) (by simp) ?_
      refine AllReadyH.cons rfl (fun K hK => ?_) (AllReadyH.cons rfl (fun K hK => ?_) AllReadyH.nil)
      · rw [if_pos (by rfl)]
        try simp only [List.getElem_toArray, List.getElem_cons_succ, List.getElem_cons_zero]
        go_simp
        refine (HMB.out _ hg1).mono ?_
        rintro e y2 ⟨rfl, hs2⟩
        have hg2 : Chg none_ w2 y2 := (hg1).trans hs2
        refine hK.out _ _ (hg2) (fun _ => ?_)
        clear hK K
        try simp only [Act.put, List.setIfInBounds_toArray, List.set_cons_zero, List.set_cons_succ, List.getElem_toArray, List.getElem_cons_succ, List.getElem_cons_zero]
        refine wpAnyH_ready (rs := [5]) (by kernel_rfl) (by simp) ?_
        refine AllReadyH.cons rfl (fun K hK => ?_) AllReadyH.nil
        rw [if_pos (by rfl)]
        try simp only [List.getElem_toArray, List.getElem_cons_succ, List.getElem_cons_zero]
        refine wp_alloc_row rfl zeroS zeroSc ?_
        intro y3 hr3 hs3 hz3
        clear hz3
        have hg3 : Chg none_ w2 y3 := (hg2).trans hs3
        have hb3 := (hg2).size
        have hne := (hr1.chg hs2 (fun h => h)).lt
        refine hK.out _ _ (hg3) (fun _ => ?_)
        clear hK K
        try simp only [Act.put, List.setIfInBounds_toArray, List.set_cons_zero, List.set_cons_succ]
        have hra := ((hr1.chg hs2 (fun h => h)).chg hs3 (fun h => h))
        have hrb := hr3
        refine wpAnyH_ready (rs := [6]) (by kernel_rfl) (by simp) ?_
        refine AllReadyH.cons rfl (fun K hK => ?_) AllReadyH.nil
        rw [if_pos (by rfl)]
        try simp only [List.getElem_toArray, List.getElem_cons_succ, List.getElem_cons_zero]
        refine wp_store_row (ty := 36) (xs := cellsS MA) rfl rfl (hra) rfl (by rw [cellsS_len HMAO.out]; rfl) (by rw [cellsS_len HMAO.out]; exact sizeSc) (cellsS_one MA) ?_
        intro z1 hr_z1 hc_z1 hs_z1
        refine hK.out _ _ (hc_z1 none_ w2 (hg3) (fun h => by omega)) (fun _ => ?_)
        clear hK K
        try simp only [Act.put]
        have hz1 := hc_z1 none_ w2 (hg3) (fun h => by omega)
        have hrb1 := hrb.chg (hc_z1 (· = y0.heap.size) y3 (Chg.refl _ _) (fun _ => rfl)) (fun e => by omega)
        refine wpAnyH_ready (rs := [7]) (by kernel_rfl) (by simp) ?_
        refine AllReadyH.cons rfl (fun K hK => ?_) AllReadyH.nil
        rw [if_pos (by rfl)]
        try simp only [List.getElem_toArray, List.getElem_cons_succ, List.getElem_cons_zero]
        refine wp_store_row (ty := 36) (xs := cellsS MB) rfl rfl (hrb1) rfl (by rw [cellsS_len HMBO.out]; rfl) (by rw [cellsS_len HMBO.out]; exact sizeSc) (cellsS_one MB) ?_
        intro z2 hr_z2 hc_z2 hs_z2
        refine hK.out _ _ (hc_z2 none_ w2 hz1 (fun h => by omega)) (fun _ => ?_)
        clear hK K
        try simp only [Act.put]
        have hra2 := hr_z1.chg (hc_z2 (· = y2.heap.size) z1 (Chg.refl _ _) (fun _ => rfl)) (fun e => by omega)
        refine wpAnyH_done (by kernel_rfl) ?_ _
        exact ⟨rfl, y0.heap.size, y2.heap.size, rfl, hra2, hr_z2, by omega, by omega, hc_z2 none_ w2 hz1 (fun h => by omega)⟩
      · rw [if_pos (by rfl)]
        try simp only [List.getElem_toArray, List.getElem_cons_succ, List.getElem_cons_zero]
        refine wp_alloc_row rfl zeroS zeroSc ?_
        intro y2 hr2 hs2 hz2
        clear hz2
        have hg2 : Chg none_ w2 y2 := (hg1).trans hs2
        have hb2 := (hg1).size
        have hne := hr1.lt
        refine hK.out _ _ (hg2) (fun _ => ?_)
        clear hK K
        try simp only [Act.put, List.setIfInBounds_toArray, List.set_cons_zero, List.set_cons_succ]
        refine wpAnyH_ready (rs := [3]) (by kernel_rfl) (by simp) ?_
        refine AllReadyH.cons rfl (fun K hK => ?_) AllReadyH.nil
        rw [if_pos (by rfl)]
        try simp only [List.getElem_toArray, List.getElem_cons_succ, List.getElem_cons_zero]
        go_simp
        refine (HMB.out _ hg2).mono ?_
        rintro e y3 ⟨rfl, hs3⟩
        have hg3 : Chg none_ w2 y3 := (hg2).trans hs3
        refine hK.out _ _ (hg3) (fun _ => ?_)
        clear hK K
        try simp only [Act.put, List.setIfInBounds_toArray, List.set_cons_zero, List.set_cons_succ, List.getElem_toArray, List.getElem_cons_succ, List.getElem_cons_zero]
        have hra := ((hr1.chg hs2 (fun h => h)).chg hs3 (fun h => h))
        have hrb := (hr2.chg hs3 (fun h => h))
        refine wpAnyH_ready (rs := [6]) (by kernel_rfl) (by simp) ?_
        refine AllReadyH.cons rfl (fun K hK => ?_) AllReadyH.nil
        rw [if_pos (by rfl)]
        try simp only [List.getElem_toArray, List.getElem_cons_succ, List.getElem_cons_zero]
        refine wp_store_row (ty := 36) (xs := cellsS MA) rfl rfl (hra) rfl (by rw [cellsS_len HMAO.out]; rfl) (by rw [cellsS_len HMAO.out]; exact sizeSc) (cellsS_one MA) ?_
        intro z1 hr_z1 hc_z1 hs_z1
        refine hK.out _ _ (hc_z1 none_ w2 (hg3) (fun h => by omega)) (fun _ => ?_)
        clear hK K
        try simp only [Act.put]
        have hz1 := hc_z1 none_ w2 (hg3) (fun h => by omega)
        have hrb1 := hrb.chg (hc_z1 (· = y0.heap.size) y3 (Chg.refl _ _) (fun _ => rfl)) (fun e => by omega)
        refine wpAnyH_ready (rs := [7]) (by kernel_rfl) (by simp) ?_
        refine AllReadyH.cons rfl (fun K hK => ?_) AllReadyH.nil
        rw [if_pos (by rfl)]
        try simp only [List.getElem_toArray, List.getElem_cons_succ, List.getElem_cons_zero]
        refine wp_store_row (ty := 36) (xs := cellsS MB) rfl rfl (hrb1) rfl (by rw [cellsS_len HMBO.out]; rfl) (by rw [cellsS_len HMBO.out]; exact sizeSc) (cellsS_one MB) ?_
        intro z2 hr_z2 hc_z2 hs_z2
        refine hK.out _ _ (hc_z2 none_ w2 hz1 (fun h => by omega)) (fun _ => ?_)
        clear hK K
        try simp only [Act.put]
        have hra2 := hr_z1.chg (hc_z2 (· = y1.heap.size) z1 (Chg.refl _ _) (fun _ => rfl)) (fun e => by omega)
        refine wpAnyH_done (by kernel_rfl) ?_ _
        exact ⟨rfl, y0.heap.size, y1.heap.size, rfl, hra2, hr_z2, by omega, by omega, hc_z2 none_ w2 hz1 (fun h => by omega)⟩
    · rw [if_pos (by rfl)]
      try simp only [List.getElem_toArray, List.getElem_cons_succ, List.getElem_cons_zero]
      refine wp_alloc_row rfl zeroS zeroSc ?_
      intro y1 hr1 hs1 hz1
      clear hz1
      have hg1 : Chg none_ w2 y1 := (hg0).trans hs1
      have hb1 := (hg0).size
      refine hK.out _ _ (hg1) (fun _ => ?_)
      clear hK K
      try simp only [Act.put, List.setIfInBounds_toArray, List.set_cons_zero, List.set_cons_succ]
      refine wpAnyH_ready (rs := [3, 4]) (by kernel_rfl) (by simp) ?_
      refine AllReadyH.cons rfl (fun K hK => ?_) (AllReadyH.cons rfl (fun K hK => ?_) AllReadyH.nil)
      · rw [if_pos (by rfl)]
        try simp only [List.getElem_toArray, List.getElem_cons_succ, List.getElem_cons_zero]
        go_simp
        refine (HMB.out _ hg1).mono ?_
        rintro e y2 ⟨rfl, hs2⟩
        have hg2 : Chg none_ w2 y2 := (hg1).trans hs2
        refine hK.out _ _ (hg2) (fun _ => ?_)
        clear hK K
        try simp only [Act.put, List.setIfInBounds_toArray, List.set_cons_zero, List.set_cons_succ, List.getElem_toArray, List.getElem_cons_succ, List.getElem_cons_zero]
        refine wpAnyH_ready (rs := [4]) (by kernel_rfl) (by simp) ?_
        refine AllReadyH.cons rfl (fun K hK => ?_) AllReadyH.nil
        rw [if_pos (by rfl)]
        try simp only [List.getElem_toArray, List.getElem_cons_succ, List.getElem_cons_zero]
        refine wp_alloc_row rfl zeroS zeroSc ?_
        intro y3 hr3 hs3 hz3
        clear hz3
        have hg3 : Chg none_ w2 y3 := (hg2).trans hs3
        have hb3 := (hg2).size
        have hne := (hr1.chg hs2 (fun h => h)).lt
        refine hK.out _ _ (hg3) (fun _ => ?_)
        clear hK K
        try simp only [Act.put, List.setIfInBounds_toArray, List.set_cons_zero, List.set_cons_succ]
        have hra := hr3
        have hrb := ((hr1.chg hs2 (fun h => h)).chg hs3 (fun h => h))
        refine wpAnyH_ready (rs := [6]) (by kernel_rfl) (by simp) ?_
        refine AllReadyH.cons rfl (fun K hK => ?_) AllReadyH.nil
        rw [if_pos (by rfl)]
        try simp only [List.getElem_toArray, List.getElem_cons_succ, List.getElem_cons_zero]
        refine wp_store_row (ty := 36) (xs := cellsS MA) rfl rfl (hra) rfl (by rw [cellsS_len HMAO.out]; rfl) (by rw [cellsS_len HMAO.out]; exact sizeSc) (cellsS_one MA) ?_
        intro z1 hr_z1 hc_z1 hs_z1
        refine hK.out _ _ (hc_z1 none_ w2 (hg3) (fun h => by omega)) (fun _ => ?_)
        clear hK K
        try simp only [Act.put]
        have hz1 := hc_z1 none_ w2 (hg3) (fun h => by omega)
        have hrb1 := hrb.chg (hc_z1 (· = y2.heap.size) y3 (Chg.refl _ _) (fun _ => rfl)) (fun e => by omega)
        refine wpAnyH_ready (rs := [7]) (by kernel_rfl) (by simp) ?_
        refine AllReadyH.cons rfl (fun K hK => ?_) AllReadyH.nil
        rw [if_pos (by rfl)]
        try simp only [List.getElem_toArray, List.getElem_cons_succ, List.getElem_cons_zero]
        refine wp_store_row (ty := 36) (xs := cellsS MB) rfl rfl (hrb1) rfl (by rw [cellsS_len HMBO.out]; rfl) (by rw [cellsS_len HMBO.out]; exact sizeSc) (cellsS_one MB) ?_
        intro z2 hr_z2 hc_z2 hs_z2
        refine hK.out _ _ (hc_z2 none_ w2 hz1 (fun h => by omega)) (fun _ => ?_)
        clear hK K
        try simp only [Act.put]
        have hra2 := hr_z1.chg (hc_z2 (· = y0.heap.size) z1 (Chg.refl _ _) (fun _ => rfl)) (fun e => by omega)
        refine wpAnyH_done (by kernel_rfl) ?_ _
        exact ⟨rfl, y2.heap.size, y0.heap.size, rfl, hra2, hr_z2, by omega, by omega, hc_z2 none_ w2 hz1 (fun h => by omega)⟩
      · rw [if_pos (by rfl)]
        try simp only [List.getElem_toArray, List.getElem_cons_succ, List.getElem_cons_zero]
        refine wp_alloc_row rfl zeroS zeroSc ?_
        intro y2 hr2 hs2 hz2
        clear hz2
        have hg2 : Chg none_ w2 y2 := (hg1).trans hs2
        have hb2 := (hg1).size
        have hne := hr1.lt
        refine hK.out _ _ (hg2) (fun _ => ?_)
        clear hK K
        try simp only [Act.put, List.setIfInBounds_toArray, List.set_cons_zero, List.set_cons_succ]
        refine wpAnyH_ready (rs := [3]) (by kernel_rfl) (by simp) ?_
        refine AllReadyH.cons rfl (fun K hK => ?_) AllReadyH.nil
        rw [if_pos (by rfl)]
        try simp only [List.getElem_toArray, List.getElem_cons_succ, List.getElem_cons_zero]
        go_simp
        refine (HMB.out _ hg2).mono ?_
        rintro e y3 ⟨rfl, hs3⟩
        have hg3 : Chg none_ w2 y3 := (hg2).trans hs3
        refine hK.out _ _ (hg3) (fun _ => ?_)
        clear hK K
        try simp only [Act.put, List.setIfInBounds_toArray, List.set_cons_zero, List.set_cons_succ, List.getElem_toArray, List.getElem_cons_succ, List.getElem_cons_zero]
        have hra := (hr2.chg hs3 (fun h => h))
        have hrb := ((hr1.chg hs2 (fun h => h)).chg hs3 (fun h => h))
        refine wpAnyH_ready (rs := [6]) (by kernel_rfl) (by simp) ?_
        refine AllReadyH.cons rfl (fun K hK => ?_) AllReadyH.nil
        rw [if_pos (by rfl)]
        try simp only [List.getElem_toArray, List.getElem_cons_succ, List.getElem_cons_zero]
        refine wp_store_row (ty := 36) (xs := cellsS MA) rfl rfl (hra) rfl (by rw [cellsS_len HMAO.out]; rfl) (by rw [cellsS_len HMAO.out]; exact sizeSc) (cellsS_one MA) ?_
        intro z1 hr_z1 hc_z1 hs_z1
        refine hK.out _ _ (hc_z1 none_ w2 (hg3) (fun h => by omega)) (fun _ => ?_)
        clear hK K
        try simp only [Act.put]
        have hz1 := hc_z1 none_ w2 (hg3) (fun h => by omega)
        have hrb1 := hrb.chg (hc_z1 (· = y1.heap.size) y3 (Chg.refl _ _) (fun _ => rfl)) (fun e => by omega)
        refine wpAnyH_ready (rs := [7]) (by kernel_rfl) (by simp) ?_
        refine AllReadyH.cons rfl (fun K hK => ?_) AllReadyH.nil
        rw [if_pos (by rfl)]
        try simp only [List.getElem_toArray, List.getElem_cons_succ, List.getElem_cons_zero]
        refine wp_store_row (ty := 36) (xs := cellsS MB) rfl rfl (hrb1) rfl (by rw [cellsS_len HMBO.out]; rfl) (by rw [cellsS_len HMBO.out]; exact sizeSc) (cellsS_one MB) ?_
        intro z2 hr_z2 hc_z2 hs_z2
        refine hK.out _ _ (hc_z2 none_ w2 hz1 (fun h => by omega)) (fun _ => ?_)
        clear hK K
        try simp only [Act.put]
        have hra2 := hr_z1.chg (hc_z2 (· = y0.heap.size) z1 (Chg.refl _ _) (fun _ => rfl)) (fun e => by omega)
        refine wpAnyH_done (by kernel_rfl) ?_ _
        exact ⟨rfl, y1.heap.size, y0.heap.size, rfl, hra2, hr_z2, by omega, by omega, hc_z2 none_ w2 hz1 (fun h => by omega)⟩
  · rw [if_pos (by rfl)]
    try simp only [List.getElem_toArray, List.getElem_cons_succ, List.getElem_cons_zero]
    refine wp_alloc_row rfl zeroS zeroSc ?_
    intro y0 hr0 hs0 hz0
    clear hz0
    have hg0 : Chg none_ w2 y0 := (hch0).trans hs0
    have hb0 := (hch0).size
    refine hK.out _ _ (hg0) (fun _ => ?_)
    clear hK K
    try simp only [Act.put, List.setIfInBounds_toArray, List.set_cons_zero, List.set_cons_succ]
    refine wpAnyH_ready (rs := [1, 5]) (by kernel_rfl) (by simp) ?_
    refine AllReadyH.cons rfl (fun K hK => ?_) (AllReadyH.cons rfl (fun K hK => ?_) AllReadyH.nil)
    · rw [if_pos (by rfl)]
      try simp only [List.getElem_toArray, List.getElem_cons_succ, List.getElem_cons_zero]
      go_simp
      refine (HMA.out _ hg0).mono ?_
      rintro e y1 ⟨rfl, hs1⟩
      have hg1 : Chg none_ w2 y1 := (hg0).trans hs1
      refine hK.out _ _ (hg1) (fun _ => ?_)
      clear hK K
      try simp only [Act.put, List.setIfInBounds_toArray, List.set_cons_zero, List.set_cons_succ, List.getElem_toArray, List.getElem_cons_succ, List.getElem_cons_zero]
      refine wpAnyH_ready (rs := [3, 5]) (by kernel_rfl) (by simp) ?_
      refine AllReadyH.cons rfl (fun K hK => ?_) (AllReadyH.cons rfl (fun K hK => ?_) AllReadyH.nil)
      · rw [if_pos (by rfl)]
        try simp only [List.getElem_toArray, List.getElem_cons_succ, List.getElem_cons_zero]
        go_simp
        refine (HMB.out _ hg1).mono ?_
        rintro e y2 ⟨rfl, hs2⟩
        have hg2 : Chg none_ w2 y2 := (hg1).trans hs2
        refine hK.out _ _ (hg2) (fun _ => ?_)
        clear hK K
        try simp only [Act.put, List.setIfInBounds_toArray, List.set_cons_zero, List.set_cons_succ, List.getElem_toArray, List.getElem_cons_succ, List.getElem_cons_zero]
        refine wpAnyH_ready (rs := [5]) (by kernel_rfl) (by simp) ?_
        refine AllReadyH.cons rfl (fun K hK => ?_) AllReadyH.nil
        rw [if_pos (by rfl)]
        try simp only [List.getElem_toArray, List.getElem_cons_succ, List.getElem_cons_zero]
        refine wp_alloc_row rfl zeroS zeroSc ?_
        intro y3 hr3 hs3 hz3
        clear hz3
        have hg3 : Chg none_ w2 y3 := (hg2).trans hs3
        have hb3 := (hg2).size
        have hne := ((hr0.chg hs1 (fun h => h)).chg hs2 (fun h => h)).lt
        refine hK.out _ _ (hg3) (fun _ => ?_)
        clear hK K
        try simp only [Act.put, List.setIfInBounds_toArray, List.set_cons_zero, List.set_cons_succ]
        have hra := (((hr0.chg hs1 (fun h => h)).chg hs2 (fun h => h)).chg hs3 (fun h => h))
        have hrb := hr3
        refine wpAnyH_ready (rs := [6]) (by kernel_rfl) (by simp) ?_
        refine AllReadyH.cons rfl (fun K hK => ?_) AllReadyH.nil
        rw [if_pos (by rfl)]
        try simp only [List.getElem_toArray, List.getElem_cons_succ, List.getElem_cons_zero]
        refine wp_store_row (ty := 36) (xs := cellsS MA) rfl rfl (hra) rfl (by rw [cellsS_len HMAO.out]; rfl) (by rw [cellsS_len HMAO.out]; exact sizeSc) (cellsS_one MA) ?_
        intro z1 hr_z1 hc_z1 hs_z1
        refine hK.out _ _ (hc_z1 none_ w2 (hg3) (fun h => by omega)) (fun _ => ?_)
        clear hK K
        try simp only [Act.put]
        have hz1 := hc_z1 none_ w2 (hg3) (fun h => by omega)
        have hrb1 := hrb.chg (hc_z1 (· = wd.heap.size) y3 (Chg.refl _ _) (fun _ => rfl)) (fun e => by omega)
        refine wpAnyH_ready (rs := [7]) (by kernel_rfl) (by simp) ?_
        refine AllReadyH.cons rfl (fun K hK => ?_) AllReadyH.nil
        rw [if_pos (by rfl)]
        try simp only [List.getElem_toArray, List.getElem_cons_succ, List.getElem_cons_zero]
        refine wp_store_row (ty := 36) (xs := cellsS MB) rfl rfl (hrb1) rfl (by rw [cellsS_len HMBO.out]; rfl) (by rw [cellsS_len HMBO.out]; exact sizeSc) (cellsS_one MB) ?_
        intro z2 hr_z2 hc_z2 hs_z2
        refine hK.out _ _ (hc_z2 none_ w2 hz1 (fun h => by omega)) (fun _ => ?_)
        clear hK K
        try simp only [Act.put]
        have hra2 := hr_z1.chg (hc_z2 (· = y2.heap.size) z1 (Chg.refl _ _) (fun _ => rfl)) (fun e => by omega)
        refine wpAnyH_done (by kernel_rfl) ?_ _
        exact ⟨rfl, wd.heap.size, y2.heap.size, rfl, hra2, hr_z2, by omega, by omega, hc_z2 none_ w2 hz1 (fun h => by omega)⟩
      · rw [if_pos (by rfl)]
        try simp only [List.getElem_toArray, List.getElem_cons_succ, List.getElem_cons_zero]
        refine wp_alloc_row rfl zeroS zeroSc ?_
        intro y2 hr2 hs2 hz2
        clear hz2
        have hg2 : Chg none_ w2 y2 := (hg1).trans hs2
        have hb2 := (hg1).size
        have hne := (hr0.chg hs1 (fun h => h)).lt
        refine hK.out _ _ (hg2) (fun _ => ?_)
        clear hK K
        try simp only [Act.put, List.setIfInBounds_toArray, List.set_cons_zero, List.set_cons_succ]
        refine wpAnyH_ready (rs := [3]) (by kernel_rfl) (by simp) ?_
        refine AllReadyH.cons rfl (fun K hK => ?_) AllReadyH.nil
        rw [if_pos (by rfl)]
        try simp only [List.getElem_toArray, List.getElem_cons_succ, List.getElem_cons_zero]
        go_simp
        refine (HMB.out _ hg2).mono ?_
        rintro e y3 ⟨rfl, hs3⟩
        have hg3 : Chg none_ w2 y3 := (hg2).trans hs3
        refine hK.out _ _ (hg3) (fun _ => ?_)
        clear hK K
        try simp only [Act.put, List.setIfInBounds_toArray, List.set_cons_zero, List.set_cons_succ, List.getElem_toArray, List.getElem_cons_succ, List.getElem_cons_zero]
        have hra := (((hr0.chg hs1 (fun h => h)).chg hs2 (fun h => h)).chg hs3 (fun h => h))
        have hrb := (hr2.chg hs3 (fun h => h))
        refine wpAnyH_ready (rs := [6]) (by kernel_rfl) (by simp) ?_
        refine AllReadyH.cons rfl (fun K hK => ?_) AllReadyH.nil
        rw [if_pos (by rfl)]
        try simp only [List.getElem_toArray, List.getElem_cons_succ, List.getElem_cons_zero]
        refine wp_store_row (ty := 36) (xs := cellsS MA) rfl rfl (hra) rfl (by rw [cellsS_len HMAO.out]; rfl) (by rw [cellsS_len HMAO.out]; exact sizeSc) (cellsS_one MA) ?_
        intro z1 hr_z1 hc_z1 hs_z1
        refine hK.out _ _ (hc_z1 none_ w2 (hg3) (fun h => by omega)) (fun _ => ?_)
        clear hK K
        try simp only [Act.put]
        have hz1 := hc_z1 none_ w2 (hg3) (fun h => by omega)
        have hrb1 := hrb.chg (hc_z1 (· = wd.heap.size) y3 (Chg.refl _ _) (fun _ => rfl)) (fun e => by omega)
        refine wpAnyH_ready (rs := [7]) (by kernel_rfl) (by simp) ?_
        refine AllReadyH.cons rfl (fun K hK => ?_) AllReadyH.nil
        rw [if_pos (by rfl)]
        try simp only [List.getElem_toArray, List.getElem_cons_succ, List.getElem_cons_zero]
        refine wp_store_row (ty := 36) (xs := cellsS MB) rfl rfl (hrb1) rfl (by rw [cellsS_len HMBO.out]; rfl) (by rw [cellsS_len HMBO.out]; exact sizeSc) (cellsS_one MB) ?_
        intro z2 hr_z2 hc_z2 hs_z2
        refine hK.out _ _ (hc_z2 none_ w2 hz1 (fun h => by omega)) (fun _ => ?_)
        clear hK K
        try simp only [Act.put]
        have hra2 := hr_z1.chg (hc_z2 (· = y1.heap.size) z1 (Chg.refl _ _) (fun _ => rfl)) (fun e => by omega)
        refine wpAnyH_done (by kernel_rfl) ?_ _
        exact ⟨rfl, wd.heap.size, y1.heap.size, rfl, hra2, hr_z2, by omega, by omega, hc_z2 none_ w2 hz1 (fun h => by omega)⟩
    · rw [if_pos (by rfl)]
      try simp only [List.getElem_toArray, List.getElem_cons_succ, List.getElem_cons_zero]
      refine wp_alloc_row rfl zeroS zeroSc ?_
      intro y1 hr1 hs1 hz1
      clear hz1
      have hg1 : Chg none_ w2 y1 := (hg0).trans hs1
      have hb1 := (hg0).size
      have hne := hr0.lt
      refine hK.out _ _ (hg1) (fun _ => ?_)
      clear hK K
      try simp only [Act.put, List.setIfInBounds_toArray, List.set_cons_zero, List.set_cons_succ]
      refine wpAnyH_ready (rs := [1]) (by kernel_rfl) (by simp) ?_
      refine AllReadyH.cons rfl (fun K hK => ?_) AllReadyH.nil
      rw [if_pos (by rfl)]
      try simp only [List.getElem_toArray, List.getElem_cons_succ, List.getElem_cons_zero]
      go_simp
      refine (HMA.out _ hg1).mono ?_
      rintro e y2 ⟨rfl, hs2⟩
      have hg2 : Chg none_ w2 y2 := (hg1).trans hs2
      refine hK.out _ _ (hg2) (fun _ => ?_)
      clear hK K
      try simp only [Act.put, List.setIfInBounds_toArray, List.set_cons_zero, List.set_cons_succ, List.getElem_toArray, List.getElem_cons_succ, List.getElem_cons_zero]
      refine wpAnyH_ready (rs := [3]) (by kernel_rfl) (by simp) ?_
      refine AllReadyH.cons rfl (fun K hK => ?_) AllReadyH.nil
      rw [if_pos (by rfl)]
      try simp only [List.getElem_toArray, List.getElem_cons_succ, List.getElem_cons_zero]
      go_simp
      refine (HMB.out _ hg2).mono ?_
      rintro e y3 ⟨rfl, hs3⟩
      have hg3 : Chg none_ w2 y3 := (hg2).trans hs3
      refine hK.out _ _ (hg3) (fun _ => ?_)
      clear hK K
      try simp only [Act.put, List.setIfInBounds_toArray, List.set_cons_zero, List.set_cons_succ, List.getElem_toArray, List.getElem_cons_succ, List.getElem_cons_zero]
      have hra := (((hr0.chg hs1 (fun h => h)).chg hs2 (fun h => h)).chg hs3 (fun h => h))
      have hrb := ((hr1.chg hs2 (fun h => h)).chg hs3 (fun h => h))
      refine wpAnyH_ready (rs := [6]) (by kernel_rfl) (by simp) ?_
      refine AllReadyH.cons rfl (fun K hK => ?_) AllReadyH.nil
      rw [if_pos (by rfl)]
      try simp only [List.getElem_toArray, List.getElem_cons_succ, List.getElem_cons_zero]
      refine wp_store_row (ty := 36) (xs := cellsS MA) rfl rfl (hra) rfl (by rw [cellsS_len HMAO.out]; rfl) (by rw [cellsS_len HMAO.out]; exact sizeSc) (cellsS_one MA) ?_
      intro z1 hr_z1 hc_z1 hs_z1
      refine hK.out _ _ (hc_z1 none_ w2 (hg3) (fun h => by omega)) (fun _ => ?_)
      clear hK K
      try simp only [Act.put]
      have hz1 := hc_z1 none_ w2 (hg3) (fun h => by omega)
      have hrb1 := hrb.chg (hc_z1 (· = wd.heap.size) y3 (Chg.refl _ _) (fun _ => rfl)) (fun e => by omega)
      refine wpAnyH_ready (rs := [7]) (by kernel_rfl) (by simp) ?_
      refine AllReadyH.cons rfl (fun K hK => ?_) AllReadyH.nil
      rw [if_pos (by rfl)]
      try simp only [List.getElem_toArray, List.getElem_cons_succ, List.getElem_cons_zero]
      refine wp_store_row (ty := 36) (xs := cellsS MB) rfl rfl (hrb1) rfl (by rw [cellsS_len HMBO.out]; rfl) (by rw [cellsS_len HMBO.out]; exact sizeSc) (cellsS_one MB) ?_
      intro z2 hr_z2 hc_z2 hs_z2
      refine hK.out _ _ (hc_z2 none_ w2 hz1 (fun h => by omega)) (fun _ => ?_)
      clear hK K
      try simp only [Act.put]
      have hra2 := hr_z1.chg (hc_z2 (· = y0.heap.size) z1 (Chg.refl _ _) (fun _ => rfl)) (fun e => by omega)
      refine wpAnyH_done (by kernel_rfl) ?_ _
      exact ⟨rfl, wd.heap.size, y0.heap.size, rfl, hra2, hr_z2, by omega, by omega, hc_z2 none_ w2 hz1 (fun h => by omega)⟩
  · rw [if_pos (by rfl)]
    try simp only [List.getElem_toArray, List.getElem_cons_succ, List.getElem_cons_zero]
    refine wp_alloc_row rfl zeroS zeroSc ?_
    intro y0 hr0 hs0 hz0
    clear hz0
    have hg0 : Chg none_ w2 y0 := (hch0).trans hs0
    have hb0 := (hch0).size
    refine hK.out _ _ (hg0) (fun _ => ?_)
    clear hK K
    try simp only [Act.put, List.setIfInBounds_toArray, List.set_cons_zero, List.set_cons_succ]
    refine wpAnyH_ready (rs := [1, 4]) (by kernel_rfl) (by simp) ?_
    refine AllReadyH.cons rfl (fun K hK => ?_) (AllReadyH.cons rfl (fun K hK => ?_) AllReadyH.nil)
    · rw [if_pos (by rfl)]
      try simp only [List.getElem_toArray, List.getElem_cons_succ, List.getElem_cons_zero]
      go_simp
      refine (HMA.out _ hg0).mono ?_
      rintro e y1 ⟨rfl, hs1⟩
      have hg1 : Chg none_ w2 y1 := (hg0).trans hs1
      refine hK.out _ _ (hg1) (fun _ => ?_)
      clear hK K
      try simp only [Act.put, List.setIfInBounds_toArray, List.set_cons_zero, List.set_cons_succ, List.getElem_toArray, List.getElem_cons_succ, List.getElem_cons_zero]
      refine wpAnyH_ready (rs := [3, 4]) (by kernel_rfl) (by simp) ?_
      refine AllReadyH.cons rfl (fun K hK => ?_) (AllReadyH.cons rfl (fun K hK => ?_) AllReadyH.nil)
      · rw [if_pos (by rfl)]
        try simp only [List.getElem_toArray, List.getElem_cons_succ, List.getElem_cons_zero]
        go_simp
        refine (HMB.out _ hg1).mono ?_
        rintro e y2 ⟨rfl, hs2⟩
        have hg2 : Chg none_ w2 y2 := (hg1).trans hs2
        refine hK.out _ _ (hg2) (fun _ => ?_)
        clear hK K
        try simp only [Act.put, List.setIfInBounds_toArray, List.set_cons_zero, List.set_cons_succ, List.getElem_toArray, List.getElem_cons_succ, List.getElem_cons_zero]
        refine wpAnyH_ready (rs := [4]) (by kernel_rfl) (by simp) ?_
        refine AllReadyH.cons rfl (fun K hK => ?_) AllReadyH.nil
        rw [if_pos (by rfl)]
        try simp only [List.getElem_toArray, List.getElem_cons_succ, List.getElem_cons_zero]
        refine wp_alloc_row rfl zeroS zeroSc ?_
        intro y3 hr3 hs3 hz3
        clear hz3
        have hg3 : Chg none_ w2 y3 := (hg2).trans hs3
        have hb3 := (hg2).size
        have hne := ((hr0.chg hs1 (fun h => h)).chg hs2 (fun h => h)).lt
        refine hK.out _ _ (hg3) (fun _ => ?_)
        clear hK K
        try simp only [Act.put, List.setIfInBounds_toArray, List.set_cons_zero, List.set_cons_succ]
        have hra := hr3
        have hrb := (((hr0.chg hs1 (fun h => h)).chg hs2 (fun h => h)).chg hs3 (fun h => h))
        refine wpAnyH_ready (rs := [6]) (by kernel_rfl) (by simp) ?_
        refine AllReadyH.cons rfl (fun K hK => ?_) AllReadyH.nil
        rw [if_pos (by rfl)]
        try simp only [List.getElem_toArray, List.getElem_cons_succ, List.getElem_cons_zero]
        refine wp_store_row (ty := 36) (xs := cellsS MA) rfl rfl (hra) rfl (by rw [cellsS_len HMAO.out]; rfl) (by rw [cellsS_len HMAO.out]; exact sizeSc) (cellsS_one MA) ?_
        intro z1 hr_z1 hc_z1 hs_z1
        refine hK.out _ _ (hc_z1 none_ w2 (hg3) (fun h => by omega)) (fun _ => ?_)
        clear hK K
        try simp only [Act.put]
        have hz1 := hc_z1 none_ w2 (hg3) (fun h => by omega)
        have hrb1 := hrb.chg (hc_z1 (· = y2.heap.size) y3 (Chg.refl _ _) (fun _ => rfl)) (fun e => by omega)
        refine wpAnyH_ready (rs := [7]) (by kernel_rfl) (by simp) ?_
        refine AllReadyH.cons rfl (fun K hK => ?_) AllReadyH.nil
        rw [if_pos (by rfl)]
        try simp only [List.getElem_toArray, List.getElem_cons_succ, List.getElem_cons_zero]
        refine wp_store_row (ty := 36) (xs := cellsS MB) rfl rfl (hrb1) rfl (by rw [cellsS_len HMBO.out]; rfl) (by rw [cellsS_len HMBO.out]; exact sizeSc) (cellsS_one MB) ?_
        intro z2 hr_z2 hc_z2 hs_z2
        refine hK.out _ _ (hc_z2 none_ w2 hz1 (fun h => by omega)) (fun _ => ?_)
        clear hK K
        try simp only [Act.put]
        have hra2 := hr_z1.chg (hc_z2 (· = wd.heap.size) z1 (Chg.refl _ _) (fun _ => rfl)) (fun e => by omega)
        refine wpAnyH_done (by kernel_rfl) ?_ _
        exact ⟨rfl, y2.heap.size, wd.heap.size, rfl, hra2, hr_z2, by omega, by omega, hc_z2 none_ w2 hz1 (fun h => by omega)⟩
      · rw [if_pos (by rfl)]
        try simp only [List.getElem_toArray, List.getElem_cons_succ, List.getElem_cons_zero]
        refine wp_alloc_row rfl zeroS zeroSc ?_
        intro y2 hr2 hs2 hz2
        clear hz2
        have hg2 : Chg none_ w2 y2 := (hg1).trans hs2
        have hb2 := (hg1).size
        have hne := (hr0.chg hs1 (fun h => h)).lt
        refine hK.out _ _ (hg2) (fun _ => ?_)
        clear hK K
        try simp only [Act.put, List.setIfInBounds_toArray, List.set_cons_zero, List.set_cons_succ]
        refine wpAnyH_ready (rs := [3]) (by kernel_rfl) (by simp) ?_
        refine AllReadyH.cons rfl (fun K hK => ?_) AllReadyH.nil
        rw [if_pos (by rfl)]
        try simp only [List.getElem_toArray, List.getElem_cons_succ, List.getElem_cons_zero]
        go_simp
        refine (HMB.out _ hg2).mono ?_
        rintro e y3 ⟨rfl, hs3⟩
        have hg3 : Chg none_ w2 y3 := (hg2).trans hs3
        refine hK.out _ _ (hg3) (fun _ => ?_)
        clear hK K
        try simp only [Act.put, List.setIfInBounds_toArray, List.set_cons_zero, List.set_cons_succ, List.getElem_toArray, List.getElem_cons_succ, List.getElem_cons_zero]
        have hra := (hr2.chg hs3 (fun h => h))
        have hrb := (((hr0.chg hs1 (fun h => h)).chg hs2 (fun h => h)).chg hs3 (fun h => h))
        refine wpAnyH_ready (rs := [6]) (by kernel_rfl) (by simp) ?_
        refine AllReadyH.cons rfl (fun K hK => ?_) AllReadyH.nil
        rw [if_pos (by rfl)]
        try simp only [List.getElem_toArray, List.getElem_cons_succ, List.getElem_cons_zero]
        refine wp_store_row (ty := 36) (xs := cellsS MA) rfl rfl (hra) rfl (by rw [cellsS_len HMAO.out]; rfl) (by rw [cellsS_len HMAO.out]; exact sizeSc) (cellsS_one MA) ?_
        intro z1 hr_z1 hc_z1 hs_z1
        refine hK.out _ _ (hc_z1 none_ w2 (hg3) (fun h => by omega)) (fun _ => ?_)
        clear hK K
        try simp only [Act.put]
        have hz1 := hc_z1 none_ w2 (hg3) (fun h => by omega)
        have hrb1 := hrb.chg (hc_z1 (· = y1.heap.size) y3 (Chg.refl _ _) (fun _ => rfl)) (fun e => by omega)
        refine wpAnyH_ready (rs := [7]) (by kernel_rfl) (by simp) ?_
        refine AllReadyH.cons rfl (fun K hK => ?_) AllReadyH.nil
        rw [if_pos (by rfl)]
        try simp only [List.getElem_toArray, List.getElem_cons_succ, List.getElem_cons_zero]
        refine wp_store_row (ty := 36) (xs := cellsS MB) rfl rfl (hrb1) rfl (by rw [cellsS_len HMBO.out]; rfl) (by rw [cellsS_len HMBO.out]; exact sizeSc) (cellsS_one MB) ?_
        intro z2 hr_z2 hc_z2 hs_z2
        refine hK.out _ _ (hc_z2 none_ w2 hz1 (fun h => by omega)) (fun _ => ?_)
        clear hK K
        try simp only [Act.put]
        have hra2 := hr_z1.chg (hc_z2 (· = wd.heap.size) z1 (Chg.refl _ _) (fun _ => rfl)) (fun e => by omega)
        refine wpAnyH_done (by kernel_rfl) ?_ _
        exact ⟨rfl, y1.heap.size, wd.heap.size, rfl, hra2, hr_z2, by omega, by omega, hc_z2 none_ w2 hz1 (fun h => by omega)⟩
    · rw [if_pos (by rfl)]
      try simp only [List.getElem_toArray, List.getElem_cons_succ, List.getElem_cons_zero]
      refine wp_alloc_row rfl zeroS zeroSc ?_
      intro y1 hr1 hs1 hz1
      clear hz1
      have hg1 : Chg none_ w2 y1 := (hg0).trans hs1
      have hb1 := (hg0).size
      have hne := hr0.lt
      refine hK.out _ _ (hg1) (fun _ => ?_)
      clear hK K
      try simp only [Act.put, List.setIfInBounds_toArray, List.set_cons_zero, List.set_cons_succ]
      refine wpAnyH_ready (rs := [1]) (by kernel_rfl) (by simp) ?_
      refine AllReadyH.cons rfl (fun K hK => ?_) AllReadyH.nil
      rw [if_pos (by rfl)]
      try simp only [List.getElem_toArray, List.getElem_cons_succ, List.getElem_cons_zero]
      go_simp
      refine (HMA.out _ hg1).mono ?_
      rintro e y2 ⟨rfl, hs2⟩
      have hg2 : Chg none_ w2 y2 := (hg1).trans hs2
      refine hK.out _ _ (hg2) (fun _ => ?_)
      clear hK K
      try simp only [Act.put, List.setIfInBounds_toArray, List.set_cons_zero, List.set_cons_succ, List.getElem_toArray, List.getElem_cons_succ, List.getElem_cons_zero]
      refine wpAnyH_ready (rs := [3]) (by kernel_rfl) (by simp) ?_
      refine AllReadyH.cons rfl (fun K hK => ?_) AllReadyH.nil
      rw [if_pos (by rfl)]
      try simp only [List.getElem_toArray, List.getElem_cons_succ, List.getElem_cons_zero]
      go_simp
      refine (HMB.out _ hg2).mono ?_
      rintro e y3 ⟨rfl, hs3⟩
      have hg3 : Chg none_ w2 y3 := (hg2).trans hs3
      refine hK.out _ _ (hg3) (fun _ => ?_)
      clear hK K
      try simp only [Act.put, List.setIfInBounds_toArray, List.set_cons_zero, List.set_cons_succ, List.getElem_toArray, List.getElem_cons_succ, List.getElem_cons_zero]
      have hra := ((hr1.chg hs2 (fun h => h)).chg hs3 (fun h => h))
      have hrb := (((hr0.chg hs1 (fun h => h)).chg hs2 (fun h => h)).chg hs3 (fun h => h))
      refine wpAnyH_ready (rs := [6]) (by kernel_rfl) (by simp) ?_
      refine AllReadyH.cons rfl (fun K hK => ?_) AllReadyH.nil
      rw [if_pos (by rfl)]
      try simp only [List.getElem_toArray, List.getElem_cons_succ, List.getElem_cons_zero]
      refine wp_store_row (ty := 36) (xs := cellsS MA) rfl rfl (hra) rfl (by rw [cellsS_len HMAO.out]; rfl) (by rw [cellsS_len HMAO.out]; exact sizeSc) (cellsS_one MA) ?_
      intro z1 hr_z1 hc_z1 hs_z1
      refine hK.out _ _ (hc_z1 none_ w2 (hg3) (fun h => by omega)) (fun _ => ?_)
      clear hK K
      try simp only [Act.put]
      have hz1 := hc_z1 none_ w2 (hg3) (fun h => by omega)
      have hrb1 := hrb.chg (hc_z1 (· = y0.heap.size) y3 (Chg.refl _ _) (fun _ => rfl)) (fun e => by omega)
      refine wpAnyH_ready (rs := [7]) (by kernel_rfl) (by simp) ?_
      refine AllReadyH.cons rfl (fun K hK => ?_) AllReadyH.nil
      rw [if_pos (by rfl)]
      try simp only [List.getElem_toArray, List.getElem_cons_succ, List.getElem_cons_zero]
      refine wp_store_row (ty := 36) (xs := cellsS MB) rfl rfl (hrb1) rfl (by rw [cellsS_len HMBO.out]; rfl) (by rw [cellsS_len HMBO.out]; exact sizeSc) (cellsS_one MB) ?_
      intro z2 hr_z2 hc_z2 hs_z2
      refine hK.out _ _ (hc_z2 none_ w2 hz1 (fun h => by omega)) (fun _ => ?_)
      clear hK K
      try simp only [Act.put]
      have hra2 := hr_z1.chg (hc_z2 (· = wd.heap.size) z1 (Chg.refl _ _) (fun _ => rfl)) (fun e => by omega)
      refine wpAnyH_done (by kernel_rfl) ?_ _
      exact ⟨rfl, y0.heap.size, wd.heap.size, rfl, hra2, hr_z2, by omega, by omega, hc_z2 none_ w2 hz1 (fun h => by omega)⟩

set_option maxRecDepth 100000 in
set_option maxHeartbeats 1000000 in
theorem SetN_1 (g : Nat) (T : Nat → Prop) (r : Rg) (own peer : List Nat) (w : World) (h : RingAt w g T r) (hg : r.g1 = true) : Calls Tryd.prog 7 #[.pointer (some ⟨g, 0, none⟩), .int .i64 1, .agg (u8s own).toArray, .agg (u8s peer).toArray] w fun e w' => e = .returned (.bool false) ∧ Chg none_ w w' := by
  have HGL := Lib.hid h.lt
  obtain ⟨a0, b0, c0, a1, b1, c1, hrow, h0, h1⟩ := h
  have HCG : Hid (w.cell? ⟨g, 7, none⟩ = some (.bool true)) := Lib.hid (by rw [← hg]; exact hrow.cell 7)
  clear hrow h0 h1 hg
  go_enter Tryd.func7, Tryd.ntmps7
  go_wp2_with (first | ((with_reducible show wpList _ _ _ (⟨some 6, .box 26 _, _, _, _, _⟩ :: _) _ _); refine wpList_box_Row rfl rfl (u8s own) rfl ?_; intro w1 hr1 hc1 hs1; have HRA := Lib.hid hr1; have HC1 := Lib.hid hc1; clear hr1 hc1 hs1) | ((with_reducible show wpList _ _ _ (⟨some 7, .box 26 _, _, _, _, _⟩ :: _) _ _); refine wpList_box_Row rfl rfl (u8s peer) rfl ?_; intro w2 hr2 hc2 hs2; have HRB := Lib.hid hr2; have HC2 := Lib.hid (HC1.out.trans hc2); have HRA2 := Lib.hid (HRA.out.chg hc2 (fun h => h)); have cg := (hc2.cell 7 (Nat.lt_of_lt_of_le HGL.out HC1.out.size) (fun h => h)).trans ((HC1.out.cell 7 HGL.out (fun h => h)).trans HCG.out); clear hr2 hc2 hs2))
  go_ret
  exact ⟨rfl, HC2.out⟩

set_option maxRecDepth 100000 in
set_option maxHeartbeats 8000000 in
theorem SetY_1 (g : Nat) (T : Nat → Prop) (r : Rg) (own peer : List Nat) (w : World) (h : RingAt w g T r) (hg : r.g1 = false) (hT : ¬ T g) (hTn : ∀ b, w.heap.size ≤ b → T b) (hol : own.length = 32) (hob : ∀ x ∈ own, x < 256) (hpl : peer.length = 32) (hpb : ∀ x ∈ peer, x < 256) (hK : KTab w) : Calls Tryd.prog 7 #[.pointer (some ⟨g, 0, none⟩), .int .i64 1, .agg (u8s own).toArray, .agg (u8s peer).toArray] w fun e w' => e = .returned (.bool true) ∧ RingAt w' g T { r with l1 := some ⟨makeN own false, makeN peer false, none⟩, g1 := true } ∧ Chg (· = g) w w' := by
  have HGL := Lib.hid h.lt
  obtain ⟨a0, b0, c0, a1, b1, c1, hrow, h0, h1⟩ := h
  have HCG : Hid (w.cell? ⟨g, 7, none⟩ = some (.bool false)) := Lib.hid (by rw [← hg]; exact hrow.cell 7)
  have HR := Lib.hid hrow
  have H0 := Lib.hid h0
  have H1 := Lib.hid h1
  have HOL := Lib.hid hol
  have HPL := Lib.hid hpl
  have HTN := Lib.hid hTn
  have hg0 := hg
  obtain ⟨MA, hMA⟩ : ∃ M, M = makeN own false := ⟨_, rfl⟩
  obtain ⟨MB, hMB⟩ : ∃ M, M = makeN peer false := ⟨_, rfl⟩
  have HMAO : Hid MA.Ok := Lib.hid (by rw [hMA]; exact makeN_ok _ _)
  have HMBO : Hid MB.Ok := Lib.hid (by rw [hMB]; exact makeN_ok _ _)
  have HMAw : Hid (∀ w', Chg none_ w w' → Calls Tryd.prog 8 #[.agg (u8s own).toArray, .bool false] w' fun e w'' => e = .returned (.agg (cellsS MA).toArray) ∧ Chg none_ w' w'') := Lib.hid (fun w' hc => by rw [hMA]; exact Make_any own false w' hol hob (hK.chg hc))
  have HMBw : Hid (∀ w', Chg none_ w w' → Calls Tryd.prog 8 #[.agg (u8s peer).toArray, .bool false] w' fun e w'' => e = .returned (.agg (cellsS MB).toArray) ∧ Chg none_ w' w'') := Lib.hid (fun w' hc => by rw [hMB]; exact Make_any peer false w' hpl hpb (hK.chg hc))
  rw [← hMA, ← hMB]
  clear hrow h0 h1 hol hob hpl hpb hK hMA hMB hg hTn
  go_enter Tryd.func7, Tryd.ntmps7
  go_wp2_with (first | ((with_reducible show wpList _ _ _ (⟨some 6, .box 26 _, _, _, _, _⟩ :: _) _ _); refine wpList_box_Row rfl rfl (u8s own) rfl ?_; intro w1 hr1 hc1 hs1; have HRA := Lib.hid hr1; have HC1 := Lib.hid hc1; clear hr1 hc1 hs1) | ((with_reducible show wpList _ _ _ (⟨some 7, .box 26 _, _, _, _, _⟩ :: _) _ _); refine wpList_box_Row rfl rfl (u8s peer) rfl ?_; intro w2 hr2 hc2 hs2; have HRB := Lib.hid hr2; have HC2 := Lib.hid (HC1.out.trans hc2); have HRA2 := Lib.hid (HRA.out.chg hc2 (fun h => h)); have cg := (hc2.cell 7 (Nat.lt_of_lt_of_le HGL.out HC1.out.size) (fun h => h)).trans ((HC1.out.cell 7 HGL.out (fun h => h)).trans HCG.out); clear hr2 hc2 hs2))
  try simp only [Act.put, List.setIfInBounds_toArray, List.set_cons_zero, List.set_cons_succ]
  have HMA : Hid (∀ w', Chg none_ w2 w' → Calls Tryd.prog 8 #[.agg (u8s own).toArray, .bool false] w' fun e w'' => e = .returned (.agg (cellsS MA).toArray) ∧ Chg none_ w' w'') := Lib.hid (fun w' hc => HMAw.out w' (HC2.out.trans hc))
  have HMB : Hid (∀ w', Chg none_ w2 w' → Calls Tryd.prog 8 #[.agg (u8s peer).toArray, .bool false] w' fun e w'' => e = .returned (.agg (cellsS MB).toArray) ∧ Chg none_ w' w'') := Lib.hid (fun w' hc => HMBw.out w' (HC2.out.trans hc))
  clear HMAw HMBw cg
  refine wp_named ?_
  intro a_ ha_
  refine Code.wp_mono (Q := fun e a w' => e = .normal ∧ ∃ (gA gB : Nat), a = (((((a_.put (some 29) (.agg (u8s own).toArray)).put (some 31) (.agg (u8s peer).toArray)).put (some 30) (.agg (cellsS MA).toArray)).put (some 32) (.agg (cellsS MB).toArray)).put (some 9) (.pointer (some ⟨gA, 0, none⟩))).put (some 10) (.pointer (some ⟨gB, 0, none⟩)) ∧ Row w' gA 36 (cellsS MA) ∧ Row w' gB 36 (cellsS MB) ∧ w2.heap.size ≤ gA ∧ w2.heap.size ≤ gB ∧ Chg none_ w2 w') ?hq ?_
  case hq =>
    rintro e a w3 ⟨rfl, gA, gB, rfl, hrA, hrB, hgA, hgB, hc3⟩
    subst ha_
    simp only [Act.put, List.setIfInBounds_toArray, List.set_cons_zero, List.set_cons_succ]
    have HC3 := Lib.hid (HC2.out.trans hc3)
    have HR3 := Lib.hid (ring_lv1 (HR.out.chg HC3.out (fun h => h)))
    have HRA_ := Lib.hid hrA
    have HRB_ := Lib.hid hrB
    have HGG : Hid (w.heap.size ≤ gA ∧ w.heap.size ≤ gB) := Lib.hid (by have := HC2.out.size; omega)
    clear hrA hrB hgA hgB hc3
    go_wp2_with (first | ((with_reducible show wpList _ _ _ (⟨some 35, _, _, _, _, _⟩ :: _) _ _); refine wpList_val rfl (.agg [ptr (some gA), ptr (some gB), ptr none].toArray) (fun w => by have hh := bldL2 gA gB w; unfold execOp; simp [Act.eval, hh]) ?_) | ((with_reducible show wpList _ _ _ (⟨_, .store 56 _ _, _, _, _, _⟩ :: _) _ _); refine wpList_store_Mid (pre := [ptr a0, ptr b0, ptr c0]) (ys := [ptr a1, ptr b1, ptr c1]) (post := [.bool r.g0, .bool r.g1]) (xs := [ptr (some gA), ptr (some gB), ptr none]) rfl rfl (n := 3) rfl rfl HR3.out rfl rfl size3L rfl ?_; intro w4 hr4 hc4 hs4; have HR4 := Lib.hid hr4; have HC4 := Lib.hid (hc4 (· = g) w3 (Chg.refl _ _) (fun _ => rfl)); have f4 := hr4.frozen 7; have c4 : w4.cell? ⟨g, 7, none⟩ = some (.bool false) := ring_g1 hr4 hg0; clear hr4 hc4 hs4))
    go_ret
    have HR5 := HR4.out.set 7 (.bool true)
    have HC5 := (HC4.out.setCell (p := ⟨g, 7, none⟩) (fun _ => rfl) (.bool true))
    have nA : gA ≠ g := by have := HGG.out; have := HGL.out; omega
    have nB : gB ≠ g := by have := HGG.out; have := HGL.out; omega
    have HA5 := HRA_.out.chg HC5 (fun e => nA e)
    have HB5 := HRB_.out.chg HC5 (fun e => nB e)
    have OT := (H0.out.chg HC3.out (fun _ _ h => h)).chg HC5 (fun b hb e => hT (e ▸ hb))
    have LV : LvAt _ T (some ⟨MA, MB, none⟩) (some gA) (some gB) none := ⟨HMAO.out, HMBO.out, gA, gB, rfl, rfl, HTN.out _ HGG.out.1, HTN.out _ HGG.out.2, HA5, HB5, rfl⟩
    exact ⟨rfl, ⟨a0, b0, c0, some gA, some gB, none, HR5, OT, LV⟩, HC3.out.ofN.trans HC5⟩
  subst ha_
  refine wp_region_held_drew (S := fun w' => Chg none_ w2 w') (by kernel_rfl) ((Chg.refl none_ w2).drew) (fun hch0 => ?_)
  generalize w2.drew = wd at hch0 ⊢
  refine wpAnyH_take (i := 0) (v := .agg (u8s own).toArray) rfl (by kernel_rfl) (by kernel_rfl) (by kernel_rfl) (by first | exact fun _ _ _ h => h | exact fun _ _ _ h => nomatch h.1) (yieldsIf_load_mid (by rfl) 26 _ rfl w.heap.size 0 rfl (u8s own) _ (fun w' hw' => (HRA2.out.chg hw' (fun h => h)).range) Tryd.underlying26 rfl (by rw [u8s_length, HOL.out]; exact size25)) hch0 ?_
  refine wpAnyH_take (i := 2) (v := .agg (u8s peer).toArray) rfl (by kernel_rfl) (by kernel_rfl) (by kernel_rfl) (by first | exact fun _ _ _ h => h | exact fun _ _ _ h => nomatch h.1) (yieldsIf_load_mid (by rfl) 26 _ rfl w1.heap.size 0 rfl (u8s peer) _ (fun w' hw' => (HRB.out.chg hw' (fun h => h)).range) Tryd.underlying26 rfl (by rw [u8s_length, HPL.out]; exact size25)) hch0 ?_
  try simp only [Act.put, List.setIfInBounds_toArray, List.set_cons_zero, List.set_cons_succ, List.getElem_toArray, List.getElem_cons_succ, List.getElem_cons_zero]
  refine wpAnyH_ready (rs := [1, 4, 5]) (by kernel_rfl) (by simp) ?_
  refine AllReadyH.cons rfl (fun K hK => ?_) (AllReadyH.cons rfl (fun K hK => ?_) (AllReadyH.cons rfl (fun K hK => ?_) AllReadyH.nil))
  · rw [if_pos (by rfl)]
    try simp only [List.getElem_toArray, List.getElem_cons_succ, List.getElem_cons_zero]
    go_simp
    refine (HMA.out _ hch0).mono ?_
    rintro e y0 ⟨rfl, hs0⟩
    have hg0 : Chg none_ w2 y0 := (hch0).trans hs0
    refine hK.out _ _ (hg0) (fun _ => ?_)
    clear hK K
    try simp only [Act.put, List.setIfInBounds_toArray, List.set_cons_zero, List.set_cons_succ, List.getElem_toArray, List.getElem_cons_succ, List.getElem_cons_zero]
    refine wpAnyH_ready (rs := [3, 4, 5]) (by kernel_rfl) (by simp) ?_
    refine AllReadyH.cons rfl (fun K hK => ?_) (AllReadyH.cons rfl (fun K hK => ?_) (AllReadyH.cons rfl (fun K hK => ?_) AllReadyH.nil))
    · rw [if_pos (by rfl)]
      try simp only [List.getElem_toArray, List.getElem_cons_succ, List.getElem_cons_zero]
      go_simp
      refine (HMB.out _ hg0).mono ?_
      rintro e y1 ⟨rfl, hs1⟩
      have hg1 : Chg none_ w2 y1 := (hg0).trans hs1
      refine hK.out _ _ (hg1) (fun _ => ?_)
      clear hK K
      try simp only [Act.put, List.setIfInBounds_toArray, List.set_cons_zero, List.set_cons_succ, List.getElem_toArray, List.getElem_cons_succ, List.getElem_cons_zero]
      refine wpAnyH_ready (rs := [4, 5]) (by kernel_rfl) (by simp) ?_
      refine AllReadyH.cons rfl (fun K hK => ?_) (AllReadyH.cons rfl (fun K hK => ?_) AllReadyH.nil)
      · rw [if_pos (by rfl)]
        try simp only [List.getElem_toArray, List.getElem_cons_succ, List.getElem_cons_zero]
        refine wp_alloc_row rfl zeroS zeroSc ?_
        intro y2 hr2 hs2 hz2
        clear hz2
        have hg2 : Chg none_ w2 y2 := (hg1).trans hs2
        have hb2 := (hg1).size
        refine hK.out _ _ (hg2) (fun _ => ?_)
        clear hK K
        try simp only [Act.put, List.setIfInBounds_toArray, List.set_cons_zero, List.set_cons_succ]
        refine wpAnyH_ready (rs := [5]) (by kernel_rfl) (by simp) ?_
        refine AllReadyH.cons rfl (fun K hK => ?_) AllReadyH.nil
        rw [if_pos (by rfl)]
        try simp only [List.getElem_toArray, List.getElem_cons_succ, List.getElem_cons_zero]
        refine wp_alloc_row rfl zeroS zeroSc ?_
        intro y3 hr3 hs3 hz3
        clear hz3
        have hg3 : Chg none_ w2 y3 := (hg2).trans hs3
        have hb3 := (hg2).size
        have hne := hr2.lt
        refine hK.out _ _ (hg3) (fun _ => ?_)
        clear hK K
        try simp only [Act.put, List.setIfInBounds_toArray, List.set_cons_zero, List.set_cons_succ]
        have hra := (hr2.chg hs3 (fun h => h))
        have hrb := hr3
        refine wpAnyH_ready (rs := [6]) (by kernel_rfl) (by simp) ?_
        refine AllReadyH.cons rfl (fun K hK => ?_) AllReadyH.nil
        rw [if_pos (by rfl)]
        try simp only [List.getElem_toArray, List.getElem_cons_succ, List.getElem_cons_zero]
        refine wp_store_row (ty := 36) (xs := cellsS MA) rfl rfl (hra) rfl (by rw [cellsS_len HMAO.out]; rfl) (by rw [cellsS_len HMAO.out]; exact sizeSc) (cellsS_one MA) ?_
        intro z1 hr_z1 hc_z1 hs_z1
        refine hK.out _ _ (hc_z1 none_ w2 (hg3) (fun h => by omega)) (fun _ => ?_)
        clear hK K
        try simp only [Act.put]
        have hz1 := hc_z1 none_ w2 (hg3) (fun h => by omega)
        have hrb1 := hrb.chg (hc_z1 (· = y1.heap.size) y3 (Chg.refl _ _) (fun _ => rfl)) (fun e => by omega)
        refine wpAnyH_ready (rs := [7]) (by kernel_rfl) (by simp) ?_
        refine AllReadyH.cons rfl (fun K hK => ?_) AllReadyH.nil
        rw [if_pos (by rfl)]
        try simp only [List.getElem_toArray, List.getElem_cons_succ, List.getElem_cons_zero]
        refine wp_store_row (ty := 36) (xs := cellsS MB) rfl rfl (hrb1) rfl (by rw [cellsS_len HMBO.out]; rfl) (by rw [cellsS_len HMBO.out]; exact sizeSc) (cellsS_one MB) ?_
        intro z2 hr_z2 hc_z2 hs_z2
        refine hK.out _ _ (hc_z2 none_ w2 hz1 (fun h => by omega)) (fun _ => ?_)
        clear hK K
        try simp only [Act.put]
        have hra2 := hr_z1.chg (hc_z2 (· = y2.heap.size) z1 (Chg.refl _ _) (fun _ => rfl)) (fun e => by omega)
        refine wpAnyH_done (by kernel_rfl) ?_ _
        exact ⟨rfl, y1.heap.size, y2.heap.size, rfl, hra2, hr_z2, by omega, by omega, hc_z2 none_ w2 hz1 (fun h => by omega)⟩
      · rw [if_pos (by rfl)]
        try simp only [List.getElem_toArray, List.getElem_cons_succ, List.getElem_cons_zero]
        refine wp_alloc_row rfl zeroS zeroSc ?_
        intro y2 hr2 hs2 hz2
        clear hz2
        have hg2 : Chg none_ w2 y2 := (hg1).trans hs2
        have hb2 := (hg1).size
        refine hK.out _ _ (hg2) (fun _ => ?_)
        clear hK K
        try simp only [Act.put, List.setIfInBounds_toArray, List.set_cons_zero, List.set_cons_succ]
        refine wpAnyH_ready (rs := [4]) (by kernel_rfl) (by simp) ?_
        refine AllReadyH.cons rfl (fun K hK => ?_) AllReadyH.nil
        rw [if_pos (by rfl)]
        try simp only [List.getElem_toArray, List.getElem_cons_succ, List.getElem_cons_zero]
        refine wp_alloc_row rfl zeroS zeroSc ?_
        intro y3 hr3 hs3 hz3
        clear hz3
        have hg3 : Chg none_ w2 y3 := (hg2).trans hs3
        have hb3 := (hg2).size
        have hne := hr2.lt
        refine hK.out _ _ (hg3) (fun _ => ?_)
        clear hK K
        try simp only [Act.put, List.setIfInBounds_toArray, List.set_cons_zero, List.set_cons_succ]
        have hra := hr3
        have hrb := (hr2.chg hs3 (fun h => h))
        refine wpAnyH_ready (rs := [6]) (by kernel_rfl) (by simp) ?_
        refine AllReadyH.cons rfl (fun K hK => ?_) AllReadyH.nil
        rw [if_pos (by rfl)]
        try simp only [List.getElem_toArray, List.getElem_cons_succ, List.getElem_cons_zero]
        refine wp_store_row (ty := 36) (xs := cellsS MA) rfl rfl (hra) rfl (by rw [cellsS_len HMAO.out]; rfl) (by rw [cellsS_len HMAO.out]; exact sizeSc) (cellsS_one MA) ?_
        intro z1 hr_z1 hc_z1 hs_z1
        refine hK.out _ _ (hc_z1 none_ w2 (hg3) (fun h => by omega)) (fun _ => ?_)
        clear hK K
        try simp only [Act.put]
        have hz1 := hc_z1 none_ w2 (hg3) (fun h => by omega)
        have hrb1 := hrb.chg (hc_z1 (· = y2.heap.size) y3 (Chg.refl _ _) (fun _ => rfl)) (fun e => by omega)
        refine wpAnyH_ready (rs := [7]) (by kernel_rfl) (by simp) ?_
        refine AllReadyH.cons rfl (fun K hK => ?_) AllReadyH.nil
        rw [if_pos (by rfl)]
        try simp only [List.getElem_toArray, List.getElem_cons_succ, List.getElem_cons_zero]
        refine wp_store_row (ty := 36) (xs := cellsS MB) rfl rfl (hrb1) rfl (by rw [cellsS_len HMBO.out]; rfl) (by rw [cellsS_len HMBO.out]; exact sizeSc) (cellsS_one MB) ?_
        intro z2 hr_z2 hc_z2 hs_z2
        refine hK.out _ _ (hc_z2 none_ w2 hz1 (fun h => by omega)) (fun _ => ?_)
        clear hK K
        try simp only [Act.put]
        have hra2 := hr_z1.chg (hc_z2 (· = y1.heap.size) z1 (Chg.refl _ _) (fun _ => rfl)) (fun e => by omega)
        refine wpAnyH_done (by kernel_rfl) ?_ _
        exact ⟨rfl, y2.heap.size, y1.heap.size, rfl, hra2, hr_z2, by omega, by omega, hc_z2 none_ w2 hz1 (fun h => by omega)⟩
    · rw [if_pos (by rfl)]
      try simp only [List.getElem_toArray, List.getElem_cons_succ, List.getElem_cons_zero]
      refine wp_alloc_row rfl zeroS zeroSc ?_
      intro y1 hr1 hs1 hz1
      clear hz1
      have hg1 : Chg none_ w2 y1 := (hg0).trans hs1
      have hb1 := (hg0).size
      refine hK.out _ _ (hg1) (fun _ => ?_)
      clear hK K
      try simp only [Act.put, List.setIfInBounds_toArray, List.set_cons_zero, List.set_cons_succ]
      refine wpAnyH_ready (rs := [3, 5]) (by kernel_rfl) (by simp) ?_
      refine AllReadyH.cons rfl (fun K hK => ?_) (AllReadyH.cons rfl (fun K hK => ?_) AllReadyH.nil)
      · rw [if_pos (by rfl)]
        try simp only [List.getElem_toArray, List.getElem_cons_succ, List.getElem_cons_zero]
        go_simp
        refine (HMB.out _ hg1).mono ?_
        rintro e y2 ⟨rfl, hs2⟩
        have hg2 : Chg none_ w2 y2 := (hg1).trans hs2
        refine hK.out _ _ (hg2) (fun _ => ?_)
        clear hK K
        try simp only [Act.put, List.setIfInBounds_toArray, List.set_cons_zero, List.set_cons_succ, List.getElem_toArray, List.getElem_cons_succ, List.getElem_cons_zero]
        refine wpAnyH_ready (rs := [5]) (by kernel_rfl) (by simp) ?_
        refine AllReadyH.cons rfl (fun K hK => ?_) AllReadyH.nil
        rw [if_pos (by rfl)]
        try simp only [List.getElem_toArray, List.getElem_cons_succ, List.getElem_cons_zero]
        refine wp_alloc_row rfl zeroS zeroSc ?_
        intro y3 hr3 hs3 hz3
        clear hz3
        have hg3 : Chg none_ w2 y3 := (hg2).trans hs3
        have hb3 := (hg2).size
        have hne := (hr1.chg hs2 (fun h => h)).lt
        refine hK.out _ _ (hg3) (fun _ => ?_)
        clear hK K
        try simp only [Act.put, List.setIfInBounds_toArray, List.set_cons_zero, List.set_cons_succ]
        have hra := ((hr1.chg hs2 (fun h => h)).chg hs3 (fun h => h))
        have hrb := hr3
        refine wpAnyH_ready (rs := [6]) (by kernel_rfl) (by simp) ?_
        refine AllReadyH.cons rfl (fun K hK => ?_) AllReadyH.nil
        rw [if_pos (by rfl)]
        try simp only [List.getElem_toArray, List.getElem_cons_succ, List.getElem_cons_zero]
        refine wp_store_row (ty := 36) (xs := cellsS MA) rfl rfl (hra) rfl (by rw [cellsS_len HMAO.out]; rfl) (by rw [cellsS_len HMAO.out]; exact sizeSc) (cellsS_one MA) ?_
        intro z1 hr_z1 hc_z1 hs_z1
        refine hK.out _ _ (hc_z1 none_ w2 (hg3) (fun h => by omega)) (fun _ => ?_)
        clear hK K
        try simp only [Act.put]
        have hz1 := hc_z1 none_ w2 (hg3) (fun h => by omega)
        have hrb1 := hrb.chg (hc_z1 (· = y0.heap.size) y3 (Chg.refl _ _) (fun _ => rfl)) (fun e => by omega)
        refine wpAnyH_ready (rs := [7]) (by kernel_rfl) (by simp) ?_
        refine AllReadyH.cons rfl (fun K hK => ?_) AllReadyH.nil
        rw [if_pos (by rfl)]
        try simp only [List.getElem_toArray, List.getElem_cons_succ, List.getElem_cons_zero]
        refine wp_store_row (ty := 36) (xs := cellsS MB) rfl rfl (hrb1) rfl (by rw [cellsS_len HMBO.out]; rfl) (by rw [cellsS_len HMBO.out]; exact sizeSc) (cellsS_one MB) ?_
        intro z2 hr_z2 hc_z2 hs_z2
        refine hK.out _ _ (hc_z2 none_ w2 hz1 (fun h => by omega)) (fun _ => ?_)
        clear hK K
        try simp only [Act.put]
        have hra2 := hr_z1.chg (hc_z2 (· = y2.heap.size) z1 (Chg.refl _ _) (fun _ => rfl)) (fun e => by omega)
        refine wpAnyH_done (by kernel_rfl) ?_ _
        exact ⟨rfl, y0.heap.size, y2.heap.size, rfl, hra2, hr_z2, by omega, by omega, hc_z2 none_ w2 hz1 (fun h => by omega)⟩
      · rw [if_pos (by rfl)]
        try simp only [List.getElem_toArray, List.getElem_cons_succ, List.getElem_cons_zero]
        refine wp_alloc_row rfl zeroS zeroSc ?_
        intro y2 hr2 hs2 hz2
        clear hz2
        have hg2 : Chg none_ w2 y2 := (hg1).trans hs2
        have hb2 := (hg1).size
        have hne := hr1.lt
        refine hK.out _ _ (hg2) (fun _ => ?_)
        clear hK K
        try simp only [Act.put, List.setIfInBounds_toArray, List.set_cons_zero, List.set_cons_succ]
        refine wpAnyH_ready (rs := [3]) (by kernel_rfl) (by simp) ?_
        refine AllReadyH.cons rfl (fun K hK => ?_) AllReadyH.nil
        rw [if_pos (by rfl)]
        try simp only [List.getElem_toArray, List.getElem_cons_succ, List.getElem_cons_zero]
        go_simp
        refine (HMB.out _ hg2).mono ?_
        rintro e y3 ⟨rfl, hs3⟩
        have hg3 : Chg none_ w2 y3 := (hg2).trans hs3
        refine hK.out _ _ (hg3) (fun _ => ?_)
        clear hK K
        try simp only [Act.put, List.setIfInBounds_toArray, List.set_cons_zero, List.set_cons_succ, List.getElem_toArray, List.getElem_cons_succ, List.getElem_cons_zero]
        have hra := ((hr1.chg hs2 (fun h => h)).chg hs3 (fun h => h))
        have hrb := (hr2.chg hs3 (fun h => h))
        refine wpAnyH_ready (rs := [6]) (by kernel_rfl) (by simp) ?_
        refine AllReadyH.cons rfl (fun K hK => ?_) AllReadyH.nil
        rw [if_pos (by rfl)]
        try simp only [List.getElem_toArray, List.getElem_cons_succ, List.getElem_cons_zero]
        refine wp_store_row (ty := 36) (xs := cellsS MA) rfl rfl (hra) rfl (by rw [cellsS_len HMAO.out]; rfl) (by rw [cellsS_len HMAO.out]; exact sizeSc) (cellsS_one MA) ?_
        intro z1 hr_z1 hc_z1 hs_z1
        refine hK.out _ _ (hc_z1 none_ w2 (hg3) (fun h => by omega)) (fun _ => ?_)
        clear hK K
        try simp only [Act.put]
        have hz1 := hc_z1 none_ w2 (hg3) (fun h => by omega)
        have hrb1 := hrb.chg (hc_z1 (· = y0.heap.size) y3 (Chg.refl _ _) (fun _ => rfl)) (fun e => by omega)
        refine wpAnyH_ready (rs := [7]) (by kernel_rfl) (by simp) ?_
        refine AllReadyH.cons rfl (fun K hK => ?_) AllReadyH.nil
        rw [if_pos (by rfl)]
        try simp only [List.getElem_toArray, List.getElem_cons_succ, List.getElem_cons_zero]
        refine wp_store_row (ty := 36) (xs := cellsS MB) rfl rfl (hrb1) rfl (by rw [cellsS_len HMBO.out]; rfl) (by rw [cellsS_len HMBO.out]; exact sizeSc) (cellsS_one MB) ?_
        intro z2 hr_z2 hc_z2 hs_z2
        refine hK.out _ _ (hc_z2 none_ w2 hz1 (fun h => by omega)) (fun _ => ?_)
        clear hK K
        try simp only [Act.put]
        have hra2 := hr_z1.chg (hc_z2 (· = y1.heap.size) z1 (Chg.refl _ _) (fun _ => rfl)) (fun e => by omega)
        refine wpAnyH_done (by kernel_rfl) ?_ _
        exact ⟨rfl, y0.heap.size, y1.heap.size, rfl, hra2, hr_z2, by omega, by omega, hc_z2 none_ w2 hz1 (fun h => by omega)⟩
    · rw [if_pos (by rfl)]
      try simp only [List.getElem_toArray, List.getElem_cons_succ, List.getElem_cons_zero]
      refine wp_alloc_row rfl zeroS zeroSc ?_
      intro y1 hr1 hs1 hz1
      clear hz1
      have hg1 : Chg none_ w2 y1 := (hg0).trans hs1
      have hb1 := (hg0).size
      refine hK.out _ _ (hg1) (fun _ => ?_)
      clear hK K
      try simp only [Act.put, List.setIfInBounds_toArray, List.set_cons_zero, List.set_cons_succ]
      refine wpAnyH_ready (rs := [3, 4]) (by kernel_rfl) (by simp) ?_
      refine AllReadyH.cons rfl (fun K hK => ?_) (AllReadyH.cons rfl (fun K hK => ?_) AllReadyH.nil)
      · rw [if_pos (by rfl)]
        try simp only [List.getElem_toArray, List.getElem_cons_succ, List.getElem_cons_zero]
        go_simp
        refine (HMB.out _ hg1).mono ?_
        rintro e y2 ⟨rfl, hs2⟩
        have hg2 : Chg none_ w2 y2 := (hg1).trans hs2
        refine hK.out _ _ (hg2) (fun _ => ?_)
        clear hK K
        try simp only [Act.put, List.setIfInBounds_toArray, List.set_cons_zero, List.set_cons_succ, List.getElem_toArray, List.getElem_cons_succ, List.getElem_cons_zero]
        refine wpAnyH_ready (rs := [4]) (by kernel_rfl) (by simp) ?_
        refine AllReadyH.cons rfl (fun K hK => ?_) AllReadyH.nil
        rw [if_pos (by rfl)]
        try simp only [List.getElem_toArray, List.getElem_cons_succ, List.getElem_cons_zero]
        refine wp_alloc_row rfl zeroS zeroSc ?_
        intro y3 hr3 hs3 hz3
        clear hz3
        have hg3 : Chg none_ w2 y3 := (hg2).trans hs3
        have hb3 := (hg2).size
        have hne := (hr1.chg hs2 (fun h => h)).lt
        refine hK.out _ _ (hg3) (fun _ => ?_)
        clear hK K
        try simp only [Act.put, List.setIfInBounds_toArray, List.set_cons_zero, List.set_cons_succ]
        have hra := hr3
        have hrb := ((hr1.chg hs2 (fun h => h)).chg hs3 (fun h => h))
        refine wpAnyH_ready (rs := [6]) (by kernel_rfl) (by simp) ?_
        refine AllReadyH.cons rfl (fun K hK => ?_) AllReadyH.nil
        rw [if_pos (by rfl)]
        try simp only [List.getElem_toArray, List.getElem_cons_succ, List.getElem_cons_zero]
        refine wp_store_row (ty := 36) (xs := cellsS MA) rfl rfl (hra) rfl (by rw [cellsS_len HMAO.out]; rfl) (by rw [cellsS_len HMAO.out]; exact sizeSc) (cellsS_one MA) ?_
        intro z1 hr_z1 hc_z1 hs_z1
        refine hK.out _ _ (hc_z1 none_ w2 (hg3) (fun h => by omega)) (fun _ => ?_)
        clear hK K
        try simp only [Act.put]
        have hz1 := hc_z1 none_ w2 (hg3) (fun h => by omega)
        have hrb1 := hrb.chg (hc_z1 (· = y2.heap.size) y3 (Chg.refl _ _) (fun _ => rfl)) (fun e => by omega)
        refine wpAnyH_ready (rs := [7]) (by kernel_rfl) (by simp) ?_
        refine AllReadyH.cons rfl (fun K hK => ?_) AllReadyH.nil
        rw [if_pos (by rfl)]
        try simp only [List.getElem_toArray, List.getElem_cons_succ, List.getElem_cons_zero]
        refine wp_store_row (ty := 36) (xs := cellsS MB) rfl rfl (hrb1) rfl (by rw [cellsS_len HMBO.out]; rfl) (by rw [cellsS_len HMBO.out]; exact sizeSc) (cellsS_one MB) ?_
        intro z2 hr_z2 hc_z2 hs_z2
        refine hK.out _ _ (hc_z2 none_ w2 hz1 (fun h => by omega)) (fun _ => ?_)
        clear hK K
        try simp only [Act.put]
        have hra2 := hr_z1.chg (hc_z2 (· = y0.heap.size) z1 (Chg.refl _ _) (fun _ => rfl)) (fun e => by omega)
        refine wpAnyH_done (by kernel_rfl) ?_ _
        exact ⟨rfl, y2.heap.size, y0.heap.size, rfl, hra2, hr_z2, by omega, by omega, hc_z2 none_ w2 hz1 (fun h => by omega)⟩
      · rw [if_pos (by rfl)]
        try simp only [List.getElem_toArray, List.getElem_cons_succ, List.getElem_cons_zero]
        refine wp_alloc_row rfl zeroS zeroSc ?_
        intro y2 hr2 hs2 hz2
        clear hz2
        have hg2 : Chg none_ w2 y2 := (hg1).trans hs2
        have hb2 := (hg1).size
        have hne := hr1.lt
        refine hK.out _ _ (hg2) (fun _ => ?_)
        clear hK K
        try simp only [Act.put, List.setIfInBounds_toArray, List.set_cons_zero, List.set_cons_succ]
        refine wpAnyH_ready (rs := [3]) (by kernel_rfl) (by simp) ?_
        refine AllReadyH.cons rfl (fun K hK => ?_) AllReadyH.nil
        rw [if_pos (by rfl)]
        try simp only [List.getElem_toArray, List.getElem_cons_succ, List.getElem_cons_zero]
        go_simp
        refine (HMB.out _ hg2).mono ?_
        rintro e y3 ⟨rfl, hs3⟩
        have hg3 : Chg none_ w2 y3 := (hg2).trans hs3
        refine hK.out _ _ (hg3) (fun _ => ?_)
        clear hK K
        try simp only [Act.put, List.setIfInBounds_toArray, List.set_cons_zero, List.set_cons_succ, List.getElem_toArray, List.getElem_cons_succ, List.getElem_cons_zero]
        have hra := (hr2.chg hs3 (fun h => h))
        have hrb := ((hr1.chg hs2 (fun h => h)).chg hs3 (fun h => h))
        refine wpAnyH_ready (rs := [6]) (by kernel_rfl) (by simp) ?_
        refine AllReadyH.cons rfl (fun K hK => ?_) AllReadyH.nil
        rw [if_pos (by rfl)]
        try simp only [List.getElem_toArray, List.getElem_cons_succ, List.getElem_cons_zero]
        refine wp_store_row (ty := 36) (xs := cellsS MA) rfl rfl (hra) rfl (by rw [cellsS_len HMAO.out]; rfl) (by rw [cellsS_len HMAO.out]; exact sizeSc) (cellsS_one MA) ?_
        intro z1 hr_z1 hc_z1 hs_z1
        refine hK.out _ _ (hc_z1 none_ w2 (hg3) (fun h => by omega)) (fun _ => ?_)
        clear hK K
        try simp only [Act.put]
        have hz1 := hc_z1 none_ w2 (hg3) (fun h => by omega)
        have hrb1 := hrb.chg (hc_z1 (· = y1.heap.size) y3 (Chg.refl _ _) (fun _ => rfl)) (fun e => by omega)
        refine wpAnyH_ready (rs := [7]) (by kernel_rfl) (by simp) ?_
        refine AllReadyH.cons rfl (fun K hK => ?_) AllReadyH.nil
        rw [if_pos (by rfl)]
        try simp only [List.getElem_toArray, List.getElem_cons_succ, List.getElem_cons_zero]
        refine wp_store_row (ty := 36) (xs := cellsS MB) rfl rfl (hrb1) rfl (by rw [cellsS_len HMBO.out]; rfl) (by rw [cellsS_len HMBO.out]; exact sizeSc) (cellsS_one MB) ?_
        intro z2 hr_z2 hc_z2 hs_z2
        refine hK.out _ _ (hc_z2 none_ w2 hz1 (fun h => by omega)) (fun _ => ?_)
        clear hK K
        try simp only [Act.put]
        have hra2 := hr_z1.chg (hc_z2 (· = y0.heap.size) z1 (Chg.refl _ _) (fun _ => rfl)) (fun e => by omega)
        refine wpAnyH_done (by kernel_rfl) ?_ _
        exact ⟨rfl, y1.heap.size, y0.heap.size, rfl, hra2, hr_z2, by omega, by omega, hc_z2 none_ w2 hz1 (fun h => by omega)⟩
  · rw [if_pos (by rfl)]
    try simp only [List.getElem_toArray, List.getElem_cons_succ, List.getElem_cons_zero]
    refine wp_alloc_row rfl zeroS zeroSc ?_
    intro y0 hr0 hs0 hz0
    clear hz0
    have hg0 : Chg none_ w2 y0 := (hch0).trans hs0
    have hb0 := (hch0).size
    refine hK.out _ _ (hg0) (fun _ => ?_)
    clear hK K
    try simp only [Act.put, List.setIfInBounds_toArray, List.set_cons_zero, List.set_cons_succ]
    refine wpAnyH_ready (rs := [1, 5]) (by kernel_rfl) (by simp) ?_
    refine AllReadyH.cons rfl (fun K hK => ?_) (AllReadyH.cons rfl (fun K hK => ?_) AllReadyH.nil)
    · rw [if_pos (by rfl)]
      try simp only [List.getElem_toArray, List.getElem_cons_succ, List.getElem_cons_zero]
      go_simp
      refine (HMA.out _ hg0).mono ?_
      rintro e y1 ⟨rfl, hs1⟩
      have hg1 : Chg none_ w2 y1 := (hg0).trans hs1
      refine hK.out _ _ (hg1) (fun _ => ?_)
      clear hK K
      try simp only [Act.put, List.setIfInBounds_toArray, List.set_cons_zero, List.set_cons_succ, List.getElem_toArray, List.getElem_cons_succ, List.getElem_cons_zero]
      refine wpAnyH_ready (rs := [3, 5]) (by kernel_rfl) (by simp) ?_
      refine AllReadyH.cons rfl (fun K hK => ?_) (AllReadyH.cons rfl (fun K hK => ?_) AllReadyH.nil)
      · rw [if_pos (by rfl)]
        try simp only [List.getElem_toArray, List.getElem_cons_succ, List.getElem_cons_zero]
        go_simp
        refine (HMB.out _ hg1).mono ?_
        rintro e y2 ⟨rfl, hs2⟩
        have hg2 : Chg none_ w2 y2 := (hg1).trans hs2
        refine hK.out _ _ (hg2) (fun _ => ?_)
        clear hK K
        try simp only [Act.put, List.setIfInBounds_toArray, List.set_cons_zero, List.set_cons_succ, List.getElem_toArray, List.getElem_cons_succ, List.getElem_cons_zero]
        refine wpAnyH_ready (rs := [5]) (by kernel_rfl) (by simp) ?_
        refine AllReadyH.cons rfl (fun K hK => ?_) AllReadyH.nil
        rw [if_pos (by rfl)]
        try simp only [List.getElem_toArray, List.getElem_cons_succ, List.getElem_cons_zero]
        refine wp_alloc_row rfl zeroS zeroSc ?_
        intro y3 hr3 hs3 hz3
        clear hz3
        have hg3 : Chg none_ w2 y3 := (hg2).trans hs3
        have hb3 := (hg2).size
        have hne := ((hr0.chg hs1 (fun h => h)).chg hs2 (fun h => h)).lt
        refine hK.out _ _ (hg3) (fun _ => ?_)
        clear hK K
        try simp only [Act.put, List.setIfInBounds_toArray, List.set_cons_zero, List.set_cons_succ]
        have hra := (((hr0.chg hs1 (fun h => h)).chg hs2 (fun h => h)).chg hs3 (fun h => h))
        have hrb := hr3
        refine wpAnyH_ready (rs := [6]) (by kernel_rfl) (by simp) ?_
        refine AllReadyH.cons rfl (fun K hK => ?_) AllReadyH.nil
        rw [if_pos (by rfl)]
        try simp only [List.getElem_toArray, List.getElem_cons_succ, List.getElem_cons_zero]
        refine wp_store_row (ty := 36) (xs := cellsS MA) rfl rfl (hra) rfl (by rw [cellsS_len HMAO.out]; rfl) (by rw [cellsS_len HMAO.out]; exact sizeSc) (cellsS_one MA) ?_
        intro z1 hr_z1 hc_z1 hs_z1
        refine hK.out _ _ (hc_z1 none_ w2 (hg3) (fun h => by omega)) (fun _ => ?_)
        clear hK K
        try simp only [Act.put]
        have hz1 := hc_z1 none_ w2 (hg3) (fun h => by omega)
        have hrb1 := hrb.chg (hc_z1 (· = wd.heap.size) y3 (Chg.refl _ _) (fun _ => rfl)) (fun e => by omega)
        refine wpAnyH_ready (rs := [7]) (by kernel_rfl) (by simp) ?_
        refine AllReadyH.cons rfl (fun K hK => ?_) AllReadyH.nil
        rw [if_pos (by rfl)]
        try simp only [List.getElem_toArray, List.getElem_cons_succ, List.getElem_cons_zero]
        refine wp_store_row (ty := 36) (xs := cellsS MB) rfl rfl (hrb1) rfl (by rw [cellsS_len HMBO.out]; rfl) (by rw [cellsS_len HMBO.out]; exact sizeSc) (cellsS_one MB) ?_
        intro z2 hr_z2 hc_z2 hs_z2
        refine hK.out _ _ (hc_z2 none_ w2 hz1 (fun h => by omega)) (fun _ => ?_)
        clear hK K
        try simp only [Act.put]
        have hra2 := hr_z1.chg (hc_z2 (· = y2.heap.size) z1 (Chg.refl _ _) (fun _ => rfl)) (fun e => by omega)
        refine wpAnyH_done (by kernel_rfl) ?_ _
        exact ⟨rfl, wd.heap.size, y2.heap.size, rfl, hra2, hr_z2, by omega, by omega, hc_z2 none_ w2 hz1 (fun h => by omega)⟩
      · rw [if_pos (by rfl)]
        try simp only [List.getElem_toArray, List.getElem_cons_succ, List.getElem_cons_zero]
        refine wp_alloc_row rfl zeroS zeroSc ?_
        intro y2 hr2 hs2 hz2
        clear hz2
        have hg2 : Chg none_ w2 y2 := (hg1).trans hs2
        have hb2 := (hg1).size
        have hne := (hr0.chg hs1 (fun h => h)).lt
        refine hK.out _ _ (hg2) (fun _ => ?_)
        clear hK K
        try simp only [Act.put, List.setIfInBounds_toArray, List.set_cons_zero, List.set_cons_succ]
        refine wpAnyH_ready (rs := [3]) (by kernel_rfl) (by simp) ?_
        refine AllReadyH.cons rfl (fun K hK => ?_) AllReadyH.nil
        rw [if_pos (by rfl)]
        try simp only [List.getElem_toArray, List.getElem_cons_succ, List.getElem_cons_zero]
        go_simp
        refine (HMB.out _ hg2).mono ?_
        rintro e y3 ⟨rfl, hs3⟩
        have hg3 : Chg none_ w2 y3 := (hg2).trans hs3
        refine hK.out _ _ (hg3) (fun _ => ?_)
        clear hK K
        try simp only [Act.put, List.setIfInBounds_toArray, List.set_cons_zero, List.set_cons_succ, List.getElem_toArray, List.getElem_cons_succ, List.getElem_cons_zero]
        have hra := (((hr0.chg hs1 (fun h => h)).chg hs2 (fun h => h)).chg hs3 (fun h => h))
        have hrb := (hr2.chg hs3 (fun h => h))
        refine wpAnyH_ready (rs := [6]) (by kernel_rfl) (by simp) ?_
        refine AllReadyH.cons rfl (fun K hK => ?_) AllReadyH.nil
        rw [if_pos (by rfl)]
        try simp only [List.getElem_toArray, List.getElem_cons_succ, List.getElem_cons_zero]
        refine wp_store_row (ty := 36) (xs := cellsS MA) rfl rfl (hra) rfl (by rw [cellsS_len HMAO.out]; rfl) (by rw [cellsS_len HMAO.out]; exact sizeSc) (cellsS_one MA) ?_
        intro z1 hr_z1 hc_z1 hs_z1
        refine hK.out _ _ (hc_z1 none_ w2 (hg3) (fun h => by omega)) (fun _ => ?_)
        clear hK K
        try simp only [Act.put]
        have hz1 := hc_z1 none_ w2 (hg3) (fun h => by omega)
        have hrb1 := hrb.chg (hc_z1 (· = wd.heap.size) y3 (Chg.refl _ _) (fun _ => rfl)) (fun e => by omega)
        refine wpAnyH_ready (rs := [7]) (by kernel_rfl) (by simp) ?_
        refine AllReadyH.cons rfl (fun K hK => ?_) AllReadyH.nil
        rw [if_pos (by rfl)]
        try simp only [List.getElem_toArray, List.getElem_cons_succ, List.getElem_cons_zero]
        refine wp_store_row (ty := 36) (xs := cellsS MB) rfl rfl (hrb1) rfl (by rw [cellsS_len HMBO.out]; rfl) (by rw [cellsS_len HMBO.out]; exact sizeSc) (cellsS_one MB) ?_
        intro z2 hr_z2 hc_z2 hs_z2
        refine hK.out _ _ (hc_z2 none_ w2 hz1 (fun h => by omega)) (fun _ => ?_)
        clear hK K
        try simp only [Act.put]
        have hra2 := hr_z1.chg (hc_z2 (· = y1.heap.size) z1 (Chg.refl _ _) (fun _ => rfl)) (fun e => by omega)
        refine wpAnyH_done (by kernel_rfl) ?_ _
        exact ⟨rfl, wd.heap.size, y1.heap.size, rfl, hra2, hr_z2, by omega, by omega, hc_z2 none_ w2 hz1 (fun h => by omega)⟩
    · rw [if_pos (by rfl)]
      try simp only [List.getElem_toArray, List.getElem_cons_succ, List.getElem_cons_zero]
      refine wp_alloc_row rfl zeroS zeroSc ?_
      intro y1 hr1 hs1 hz1
      clear hz1
      have hg1 : Chg none_ w2 y1 := (hg0).trans hs1
      have hb1 := (hg0).size
      have hne := hr0.lt
      refine hK.out _ _ (hg1) (fun _ => ?_)
      clear hK K
      try simp only [Act.put, List.setIfInBounds_toArray, List.set_cons_zero, List.set_cons_succ]
      refine wpAnyH_ready (rs := [1]) (by kernel_rfl) (by simp) ?_
      refine AllReadyH.cons rfl (fun K hK => ?_) AllReadyH.nil
      rw [if_pos (by rfl)]
      try simp only [List.getElem_toArray, List.getElem_cons_succ, List.getElem_cons_zero]
      go_simp
      refine (HMA.out _ hg1).mono ?_
      rintro e y2 ⟨rfl, hs2⟩
      have hg2 : Chg none_ w2 y2 := (hg1).trans hs2
      refine hK.out _ _ (hg2) (fun _ => ?_)
      clear hK K
      try simp only [Act.put, List.setIfInBounds_toArray, List.set_cons_zero, List.set_cons_succ, List.getElem_toArray, List.getElem_cons_succ, List.getElem_cons_zero]
      refine wpAnyH_ready (rs := [3]) (by kernel_rfl) (by simp) ?_
      refine AllReadyH.cons rfl (fun K hK => ?_) AllReadyH.nil
      rw [if_pos (by rfl)]
      try simp only [List.getElem_toArray, List.getElem_cons_succ, List.getElem_cons_zero]
      go_simp
      refine (HMB.out _ hg2).mono ?_
      rintro e y3 ⟨rfl, hs3⟩
      have hg3 : Chg none_ w2 y3 := (hg2).trans hs3
      refine hK.out _ _ (hg3) (fun _ => ?_)
      clear hK K
      try simp only [Act.put, List.setIfInBounds_toArray, List.set_cons_zero, List.set_cons_succ, List.getElem_toArray, List.getElem_cons_succ, List.getElem_cons_zero]
      have hra := (((hr0.chg hs1 (fun h => h)).chg hs2 (fun h => h)).chg hs3 (fun h => h))
      have hrb := ((hr1.chg hs2 (fun h => h)).chg hs3 (fun h => h))
      refine wpAnyH_ready (rs := [6]) (by kernel_rfl) (by simp) ?_
      refine AllReadyH.cons rfl (fun K hK => ?_) AllReadyH.nil
      rw [if_pos (by rfl)]
      try simp only [List.getElem_toArray, List.getElem_cons_succ, List.getElem_cons_zero]
      refine wp_store_row (ty := 36) (xs := cellsS MA) rfl rfl (hra) rfl (by rw [cellsS_len HMAO.out]; rfl) (by rw [cellsS_len HMAO.out]; exact sizeSc) (cellsS_one MA) ?_
      intro z1 hr_z1 hc_z1 hs_z1
      refine hK.out _ _ (hc_z1 none_ w2 (hg3) (fun h => by omega)) (fun _ => ?_)
      clear hK K
      try simp only [Act.put]
      have hz1 := hc_z1 none_ w2 (hg3) (fun h => by omega)
      have hrb1 := hrb.chg (hc_z1 (· = wd.heap.size) y3 (Chg.refl _ _) (fun _ => rfl)) (fun e => by omega)
      refine wpAnyH_ready (rs := [7]) (by kernel_rfl) (by simp) ?_
      refine AllReadyH.cons rfl (fun K hK => ?_) AllReadyH.nil
      rw [if_pos (by rfl)]
      try simp only [List.getElem_toArray, List.getElem_cons_succ, List.getElem_cons_zero]
      refine wp_store_row (ty := 36) (xs := cellsS MB) rfl rfl (hrb1) rfl (by rw [cellsS_len HMBO.out]; rfl) (by rw [cellsS_len HMBO.out]; exact sizeSc) (cellsS_one MB) ?_
      intro z2 hr_z2 hc_z2 hs_z2
      refine hK.out _ _ (hc_z2 none_ w2 hz1 (fun h => by omega)) (fun _ => ?_)
      clear hK K
      try simp only [Act.put]
      have hra2 := hr_z1.chg (hc_z2 (· = y0.heap.size) z1 (Chg.refl _ _) (fun _ => rfl)) (fun e => by omega)
      refine wpAnyH_done (by kernel_rfl) ?_ _
      exact ⟨rfl, wd.heap.size, y0.heap.size, rfl, hra2, hr_z2, by omega, by omega, hc_z2 none_ w2 hz1 (fun h => by omega)⟩
  · rw [if_pos (by rfl)]
    try simp only [List.getElem_toArray, List.getElem_cons_succ, List.getElem_cons_zero]
    refine wp_alloc_row rfl zeroS zeroSc ?_
    intro y0 hr0 hs0 hz0
    clear hz0
    have hg0 : Chg none_ w2 y0 := (hch0).trans hs0
    have hb0 := (hch0).size
    refine hK.out _ _ (hg0) (fun _ => ?_)
    clear hK K
    try simp only [Act.put, List.setIfInBounds_toArray, List.set_cons_zero, List.set_cons_succ]
    refine wpAnyH_ready (rs := [1, 4]) (by kernel_rfl) (by simp) ?_
    refine AllReadyH.cons rfl (fun K hK => ?_) (AllReadyH.cons rfl (fun K hK => ?_) AllReadyH.nil)
    · rw [if_pos (by rfl)]
      try simp only [List.getElem_toArray, List.getElem_cons_succ, List.getElem_cons_zero]
      go_simp
      refine (HMA.out _ hg0).mono ?_
      rintro e y1 ⟨rfl, hs1⟩
      have hg1 : Chg none_ w2 y1 := (hg0).trans hs1
      refine hK.out _ _ (hg1) (fun _ => ?_)
      clear hK K
      try simp only [Act.put, List.setIfInBounds_toArray, List.set_cons_zero, List.set_cons_succ, List.getElem_toArray, List.getElem_cons_succ, List.getElem_cons_zero]
      refine wpAnyH_ready (rs := [3, 4]) (by kernel_rfl) (by simp) ?_
      refine AllReadyH.cons rfl (fun K hK => ?_) (AllReadyH.cons rfl (fun K hK => ?_) AllReadyH.nil)
      · rw [if_pos (by rfl)]
        try simp only [List.getElem_toArray, List.getElem_cons_succ, List.getElem_cons_zero]
        go_simp
        refine (HMB.out _ hg1).mono ?_
        rintro e y2 ⟨rfl, hs2⟩
        have hg2 : Chg none_ w2 y2 := (hg1).trans hs2
        refine hK.out _ _ (hg2) (fun _ => ?_)
        clear hK K
        try simp only [Act.put, List.setIfInBounds_toArray, List.set_cons_zero, List.set_cons_succ, List.getElem_toArray, List.getElem_cons_succ, List.getElem_cons_zero]
        refine wpAnyH_ready (rs := [4]) (by kernel_rfl) (by simp) ?_
        refine AllReadyH.cons rfl (fun K hK => ?_) AllReadyH.nil
        rw [if_pos (by rfl)]
        try simp only [List.getElem_toArray, List.getElem_cons_succ, List.getElem_cons_zero]
        refine wp_alloc_row rfl zeroS zeroSc ?_
        intro y3 hr3 hs3 hz3
        clear hz3
        have hg3 : Chg none_ w2 y3 := (hg2).trans hs3
        have hb3 := (hg2).size
        have hne := ((hr0.chg hs1 (fun h => h)).chg hs2 (fun h => h)).lt
        refine hK.out _ _ (hg3) (fun _ => ?_)
        clear hK K
        try simp only [Act.put, List.setIfInBounds_toArray, List.set_cons_zero, List.set_cons_succ]
        have hra := hr3
        have hrb := (((hr0.chg hs1 (fun h => h)).chg hs2 (fun h => h)).chg hs3 (fun h => h))
        refine wpAnyH_ready (rs := [6]) (by kernel_rfl) (by simp) ?_
        refine AllReadyH.cons rfl (fun K hK => ?_) AllReadyH.nil
        rw [if_pos (by rfl)]
        try simp only [List.getElem_toArray, List.getElem_cons_succ, List.getElem_cons_zero]
        refine wp_store_row (ty := 36) (xs := cellsS MA) rfl rfl (hra) rfl (by rw [cellsS_len HMAO.out]; rfl) (by rw [cellsS_len HMAO.out]; exact sizeSc) (cellsS_one MA) ?_
        intro z1 hr_z1 hc_z1 hs_z1
        refine hK.out _ _ (hc_z1 none_ w2 (hg3) (fun h => by omega)) (fun _ => ?_)
        clear hK K
        try simp only [Act.put]
        have hz1 := hc_z1 none_ w2 (hg3) (fun h => by omega)
        have hrb1 := hrb.chg (hc_z1 (· = y2.heap.size) y3 (Chg.refl _ _) (fun _ => rfl)) (fun e => by omega)
        refine wpAnyH_ready (rs := [7]) (by kernel_rfl) (by simp) ?_
        refine AllReadyH.cons rfl (fun K hK => ?_) AllReadyH.nil
        rw [if_pos (by rfl)]
        try simp only [List.getElem_toArray, List.getElem_cons_succ, List.getElem_cons_zero]
        refine wp_store_row (ty := 36) (xs := cellsS MB) rfl rfl (hrb1) rfl (by rw [cellsS_len HMBO.out]; rfl) (by rw [cellsS_len HMBO.out]; exact sizeSc) (cellsS_one MB) ?_
        intro z2 hr_z2 hc_z2 hs_z2
        refine hK.out _ _ (hc_z2 none_ w2 hz1 (fun h => by omega)) (fun _ => ?_)
        clear hK K
        try simp only [Act.put]
        have hra2 := hr_z1.chg (hc_z2 (· = wd.heap.size) z1 (Chg.refl _ _) (fun _ => rfl)) (fun e => by omega)
        refine wpAnyH_done (by kernel_rfl) ?_ _
        exact ⟨rfl, y2.heap.size, wd.heap.size, rfl, hra2, hr_z2, by omega, by omega, hc_z2 none_ w2 hz1 (fun h => by omega)⟩
      · rw [if_pos (by rfl)]
        try simp only [List.getElem_toArray, List.getElem_cons_succ, List.getElem_cons_zero]
        refine wp_alloc_row rfl zeroS zeroSc ?_
        intro y2 hr2 hs2 hz2
        clear hz2
        have hg2 : Chg none_ w2 y2 := (hg1).trans hs2
        have hb2 := (hg1).size
        have hne := (hr0.chg hs1 (fun h => h)).lt
        refine hK.out _ _ (hg2) (fun _ => ?_)
        clear hK K
        try simp only [Act.put, List.setIfInBounds_toArray, List.set_cons_zero, List.set_cons_succ]
        refine wpAnyH_ready (rs := [3]) (by kernel_rfl) (by simp) ?_
        refine AllReadyH.cons rfl (fun K hK => ?_) AllReadyH.nil
        rw [if_pos (by rfl)]
        try simp only [List.getElem_toArray, List.getElem_cons_succ, List.getElem_cons_zero]
        go_simp
        refine (HMB.out _ hg2).mono ?_
        rintro e y3 ⟨rfl, hs3⟩
        have hg3 : Chg none_ w2 y3 := (hg2).trans hs3
        refine hK.out _ _ (hg3) (fun _ => ?_)
        clear hK K
        try simp only [Act.put, List.setIfInBounds_toArray, List.set_cons_zero, List.set_cons_succ, List.getElem_toArray, List.getElem_cons_succ, List.getElem_cons_zero]
        have hra := (hr2.chg hs3 (fun h => h))
        have hrb := (((hr0.chg hs1 (fun h => h)).chg hs2 (fun h => h)).chg hs3 (fun h => h))
        refine wpAnyH_ready (rs := [6]) (by kernel_rfl) (by simp) ?_
        refine AllReadyH.cons rfl (fun K hK => ?_) AllReadyH.nil
        rw [if_pos (by rfl)]
        try simp only [List.getElem_toArray, List.getElem_cons_succ, List.getElem_cons_zero]
        refine wp_store_row (ty := 36) (xs := cellsS MA) rfl rfl (hra) rfl (by rw [cellsS_len HMAO.out]; rfl) (by rw [cellsS_len HMAO.out]; exact sizeSc) (cellsS_one MA) ?_
        intro z1 hr_z1 hc_z1 hs_z1
        refine hK.out _ _ (hc_z1 none_ w2 (hg3) (fun h => by omega)) (fun _ => ?_)
        clear hK K
        try simp only [Act.put]
        have hz1 := hc_z1 none_ w2 (hg3) (fun h => by omega)
        have hrb1 := hrb.chg (hc_z1 (· = y1.heap.size) y3 (Chg.refl _ _) (fun _ => rfl)) (fun e => by omega)
        refine wpAnyH_ready (rs := [7]) (by kernel_rfl) (by simp) ?_
        refine AllReadyH.cons rfl (fun K hK => ?_) AllReadyH.nil
        rw [if_pos (by rfl)]
        try simp only [List.getElem_toArray, List.getElem_cons_succ, List.getElem_cons_zero]
        refine wp_store_row (ty := 36) (xs := cellsS MB) rfl rfl (hrb1) rfl (by rw [cellsS_len HMBO.out]; rfl) (by rw [cellsS_len HMBO.out]; exact sizeSc) (cellsS_one MB) ?_
        intro z2 hr_z2 hc_z2 hs_z2
        refine hK.out _ _ (hc_z2 none_ w2 hz1 (fun h => by omega)) (fun _ => ?_)
        clear hK K
        try simp only [Act.put]
        have hra2 := hr_z1.chg (hc_z2 (· = wd.heap.size) z1 (Chg.refl _ _) (fun _ => rfl)) (fun e => by omega)
        refine wpAnyH_done (by kernel_rfl) ?_ _
        exact ⟨rfl, y1.heap.size, wd.heap.size, rfl, hra2, hr_z2, by omega, by omega, hc_z2 none_ w2 hz1 (fun h => by omega)⟩
    · rw [if_pos (by rfl)]
      try simp only [List.getElem_toArray, List.getElem_cons_succ, List.getElem_cons_zero]
      refine wp_alloc_row rfl zeroS zeroSc ?_
      intro y1 hr1 hs1 hz1
      clear hz1
      have hg1 : Chg none_ w2 y1 := (hg0).trans hs1
      have hb1 := (hg0).size
      have hne := hr0.lt
      refine hK.out _ _ (hg1) (fun _ => ?_)
      clear hK K
      try simp only [Act.put, List.setIfInBounds_toArray, List.set_cons_zero, List.set_cons_succ]
      refine wpAnyH_ready (rs := [1]) (by kernel_rfl) (by simp) ?_
      refine AllReadyH.cons rfl (fun K hK => ?_) AllReadyH.nil
      rw [if_pos (by rfl)]
      try simp only [List.getElem_toArray, List.getElem_cons_succ, List.getElem_cons_zero]
      go_simp
      refine (HMA.out _ hg1).mono ?_
      rintro e y2 ⟨rfl, hs2⟩
      have hg2 : Chg none_ w2 y2 := (hg1).trans hs2
      refine hK.out _ _ (hg2) (fun _ => ?_)
      clear hK K
      try simp only [Act.put, List.setIfInBounds_toArray, List.set_cons_zero, List.set_cons_succ, List.getElem_toArray, List.getElem_cons_succ, List.getElem_cons_zero]
      refine wpAnyH_ready (rs := [3]) (by kernel_rfl) (by simp) ?_
      refine AllReadyH.cons rfl (fun K hK => ?_) AllReadyH.nil
      rw [if_pos (by rfl)]
      try simp only [List.getElem_toArray, List.getElem_cons_succ, List.getElem_cons_zero]
      go_simp
      refine (HMB.out _ hg2).mono ?_
      rintro e y3 ⟨rfl, hs3⟩
      have hg3 : Chg none_ w2 y3 := (hg2).trans hs3
      refine hK.out _ _ (hg3) (fun _ => ?_)
      clear hK K
      try simp only [Act.put, List.setIfInBounds_toArray, List.set_cons_zero, List.set_cons_succ, List.getElem_toArray, List.getElem_cons_succ, List.getElem_cons_zero]
      have hra := ((hr1.chg hs2 (fun h => h)).chg hs3 (fun h => h))
      have hrb := (((hr0.chg hs1 (fun h => h)).chg hs2 (fun h => h)).chg hs3 (fun h => h))
      refine wpAnyH_ready (rs := [6]) (by kernel_rfl) (by simp) ?_
      refine AllReadyH.cons rfl (fun K hK => ?_) AllReadyH.nil
      rw [if_pos (by rfl)]
      try simp only [List.getElem_toArray, List.getElem_cons_succ, List.getElem_cons_zero]
      refine wp_store_row (ty := 36) (xs := cellsS MA) rfl rfl (hra) rfl (by rw [cellsS_len HMAO.out]; rfl) (by rw [cellsS_len HMAO.out]; exact sizeSc) (cellsS_one MA) ?_
      intro z1 hr_z1 hc_z1 hs_z1
      refine hK.out _ _ (hc_z1 none_ w2 (hg3) (fun h => by omega)) (fun _ => ?_)
      clear hK K
      try simp only [Act.put]
      have hz1 := hc_z1 none_ w2 (hg3) (fun h => by omega)
      have hrb1 := hrb.chg (hc_z1 (· = y0.heap.size) y3 (Chg.refl _ _) (fun _ => rfl)) (fun e => by omega)
      refine wpAnyH_ready (rs := [7]) (by kernel_rfl) (by simp) ?_
      refine AllReadyH.cons rfl (fun K hK => ?_) AllReadyH.nil
      rw [if_pos (by rfl)]
      try simp only [List.getElem_toArray, List.getElem_cons_succ, List.getElem_cons_zero]
      refine wp_store_row (ty := 36) (xs := cellsS MB) rfl rfl (hrb1) rfl (by rw [cellsS_len HMBO.out]; rfl) (by rw [cellsS_len HMBO.out]; exact sizeSc) (cellsS_one MB) ?_
      intro z2 hr_z2 hc_z2 hs_z2
      refine hK.out _ _ (hc_z2 none_ w2 hz1 (fun h => by omega)) (fun _ => ?_)
      clear hK K
      try simp only [Act.put]
      have hra2 := hr_z1.chg (hc_z2 (· = wd.heap.size) z1 (Chg.refl _ _) (fun _ => rfl)) (fun e => by omega)
      refine wpAnyH_done (by kernel_rfl) ?_ _
      exact ⟨rfl, y0.heap.size, wd.heap.size, rfl, hra2, hr_z2, by omega, by omega, hc_z2 none_ w2 hz1 (fun h => by omega)⟩

end Go.Proofs.YtfpflhcabjcamaaDoor
