/- Layer 10 (keys): a ring's keys updated. -/
import Derived.Test.YtfpflhcabjcamaaDoorV10Ring2
import Derived.Test.YtfpflhcabjcamaaDoorV10Keys2
namespace Go.Proofs.YtfpflhcabjcamaaDoor
open Go.RowKit

section
variable {P : Program} {o : Oper} {a : Act} {w : World} {Q : Exit → Act → World → Prop}
/-- A struct is stored in the middle of a row: at a bare operation. -/
theorem wp_store_rmid {K : Act → World → Prop} {ty : TypeId} {x y : Operand} (ho : o.op = .store ty x y) {g n : Nat} {e : TypeId} {pre ys post xs : List Value} (hn : n = pre.length) (hx : a.eval x = .pointer (some ⟨g, n, none⟩)) (h : Row w g e (pre ++ ys ++ post))
    (hy : a.eval y = .agg xs.toArray) (hl : xs.length = ys.length) (hi : (P.info? ty).map (·.size) = some xs.length) (h1 : xs.all (·.oneCell') = true)
    (k : ∀ w', Row w' g e (pre ++ xs ++ post) → (∀ S w0, Chg S w0 w → (g < w0.heap.size → S g) → Chg S w0 w') → w'.heap.size = w.heap.size → K (a.put o.dst undef) w') : Oper.wp P o a w K Q := by
  subst hn
  exact wp_store_mid ty x y ho g pre.length xs.toArray hx hy (h.there pre.length _ (by simp; omega)) (by simpa using hi) (by simpa using h1)
    (k _ (by simpa using h.storeMid hl) (fun S w0 hc hg => by simpa using hc.setCells xs pre.length hg) (setCells_size _ _ _ _))
end
theorem ring_mid1 {w : World} {g : Nat} {a0 b0 c0 a1 b1 c1 : Option Nat} {g0 g1 : Bool} (h : Row w g 60 (cellsR a0 b0 c0 a1 b1 c1 g0 g1)) : w.rangeAt g 3 [ptr a1, ptr b1, ptr c1] := h.rangeMid 3 _ (fun j v hv => by
  match j, hv with
  | 0, hv | 1, hv | 2, hv => exact hv)

set_option maxRecDepth 100000 in
set_option maxHeartbeats 1000000 in
theorem TurnN_any (g : Nat) (T : Nat → Prop) (r : Rg) (w : World) (h : RingAt w g T r) (hl : r.l1 = none) : Calls Tryd.prog 9 #[.pointer (some ⟨g, 0, none⟩)] w fun e w' => e = .returned (.bool false) ∧ Chg none_ w w' := by
  have HH := Lib.hid (fun w' (hc : Chg none_ w w') => Has_1 g T r w' (h.quiet hc))
  rw [hl] at HH
  have HH2 : Hid (∀ w', Chg none_ w w' → Calls Tryd.prog 22 #[.pointer (some ⟨g, 0, none⟩), .int .i64 1] w' fun e w'' => e = .returned (.bool false) ∧ Chg none_ w' w'') := HH
  clear HH hl h
  go_enter Tryd.func9, Tryd.ntmps9
  go_wp2_with (go_at_call 22; with_reducible refine (HH2.out _ (Chg.refl _ _)).mono ?_; rintro e w1 ⟨rfl, hc1⟩; have HC1 := Lib.hid hc1; clear hc1)
  go_ret
  exact ⟨rfl, HC1.out⟩

set_option maxRecDepth 100000 in
set_option maxHeartbeats 8000000 in
theorem TurnY_any (g : Nat) (T : Nat → Prop) (r : Rg) (l : Lv) (w : World) (h : RingAt w g T r) (hl : r.l1 = some l) (hT : ¬ T g) (hTn : ∀ b, w.heap.size ≤ b → T b) (hK : KTab w) : Calls Tryd.prog 9 #[.pointer (some ⟨g, 0, none⟩)] w fun e w' => e = .returned (.bool true) ∧ RingAt w' g T { r with l1 := some (turnL l) } ∧ Chg (· = g) w w' := by
  have HH := Lib.hid (fun w' (hc : Chg none_ w w') => Has_1 g T r w' (h.quiet hc))
  rw [hl] at HH
  have HH2 : Hid (∀ w', Chg none_ w w' → Calls Tryd.prog 22 #[.pointer (some ⟨g, 0, none⟩), .int .i64 1] w' fun e w'' => e = .returned (.bool true) ∧ Chg none_ w' w'') := HH
  have HGL := Lib.hid h.lt
  obtain ⟨a0, b0, c0, a1, b1, c1, hrow, h0, h1⟩ := h
  rw [hl] at h1
  obtain ⟨o1, o2, x, y, rfl, rfl, tx, ty, hx, hy, hc⟩ := h1
  have HR := Lib.hid hrow
  have H0 := Lib.hid h0
  have HX := Lib.hid hx
  have HY := Lib.hid hy
  have HTY := Lib.hid ty
  have HTN := Lib.hid hTn
  have HSO := Lib.hid o1
  have HSP := Lib.hid o2
  have hxl := hx.lt
  have hyl := hy.lt
  have HXG : Hid (x < w.heap.size ∧ y < w.heap.size ∧ y ≠ g) := Lib.hid ⟨hxl, hyl, fun e => hT (e ▸ ty)⟩
  obtain ⟨MA, hMA⟩ : ∃ M, M = updateN l.own := ⟨_, rfl⟩
  obtain ⟨MB, hMB⟩ : ∃ M, M = updateN l.peer := ⟨_, rfl⟩
  have HMAO : Hid MA.Ok := Lib.hid (by rw [hMA]; exact updateN_ok _)
  have HMBO : Hid MB.Ok := Lib.hid (by rw [hMB]; exact updateN_ok _)
  have HTL : Hid (turnL l = ⟨MA, MB, some l.peer⟩) := Lib.hid (by rw [hMA, hMB]; rfl)
  have HUAw : Hid (∀ w', Chg none_ w w' → Calls Tryd.prog 10 #[.agg (cellsS l.own).toArray] w' fun e w'' => e = .returned (.agg (cellsS MA).toArray) ∧ Chg none_ w' w'') := Lib.hid (fun w' hc => by rw [hMA]; exact Update_any l.own w' o1 (hK.chg hc))
  have HUBw : Hid (∀ w', Chg none_ w w' → Calls Tryd.prog 10 #[.agg (cellsS l.peer).toArray] w' fun e w'' => e = .returned (.agg (cellsS MB).toArray) ∧ Chg none_ w' w'') := Lib.hid (fun w' hc => by rw [hMB]; exact Update_any l.peer w' o2 (hK.chg hc))
  rw [HTL.out]
  generalize l.own = so at *
  generalize l.peer = sp at *
  clear hrow h0 hx hy o1 o2 tx ty hc hK hMA hMB hl hTn HH hxl hyl HTL
  go_enter Tryd.func9, Tryd.ntmps9
  go_wp2_with (first | (go_at_call 22; with_reducible refine (HH2.out _ (Chg.refl _ _)).mono ?_; rintro e w1 ⟨rfl, hc1⟩; have HC1 := Lib.hid hc1; have HR1 := Lib.hid (HR.out.chg hc1 (fun h => h)); clear hc1) | ((with_reducible show wpList _ _ _ (⟨some 13, .load 56 _, _, _, _, _⟩ :: _) _ _); refine wpList_load_Mid (cs := [ptr (some x), ptr (some y), ptr c1]) rfl rfl rfl (ring_mid1 HR1.out) Tryd.underlying56 rfl (size3L) ?_) | ((with_reducible show wpList _ _ _ (⟨some 3, .alloc 56, _, _, _, _⟩ :: _) _ _); refine wpList_alloc_Row rfl rfl ([ptr none, ptr none, ptr none]) zero3L ?_; intro w2 hr2 hc2 hs2; have HR2 := Lib.hid hr2; have HC2 := Lib.hid (HC1.out.trans hc2); clear hr2 hc2 hs2) | ((with_reducible show wpList _ _ _ (⟨_, .store 56 (.tmp 3) _, _, _, _, _⟩ :: _) _ _); refine wpList_store_Row (xs := [ptr (some x), ptr (some y), ptr c1]) rfl rfl rfl (HR2.out) (rfl) (rfl) (size3L) (rfl) ?_; intro w3 hr3 hc3 hs3; have HL3 := Lib.hid hr3; have HC3 := Lib.hid (hc3 none_ w HC2.out (fun h => by have := HC1.out.size; omega)); clear hr3 hc3 hs3))
  try simp only [Act.put, List.setIfInBounds_toArray, List.set_cons_zero, List.set_cons_succ]
  have HUA : Hid (∀ w', Chg none_ w3 w' → Calls Tryd.prog 10 #[.agg (cellsS so).toArray] w' fun e w'' => e = .returned (.agg (cellsS MA).toArray) ∧ Chg none_ w' w'') := Lib.hid (fun w' hc => HUAw.out w' (HC3.out.trans hc))
  have HUB : Hid (∀ w', Chg none_ w3 w' → Calls Tryd.prog 10 #[.agg (cellsS sp).toArray] w' fun e w'' => e = .returned (.agg (cellsS MB).toArray) ∧ Chg none_ w' w'') := Lib.hid (fun w' hc => HUBw.out w' (HC3.out.trans hc))
  have HX3 := Lib.hid (HX.out.chg HC3.out (fun h => h))
  have HY3 := Lib.hid (HY.out.chg HC3.out (fun h => h))
  have CX : Hid (∀ w', Chg none_ w3 w' → w'.cell? ⟨w1.heap.size, 0, none⟩ = some (.pointer (some ⟨x, 0, none⟩))) := Lib.hid (fun w' hc => (HL3.out.chg hc (fun h => h)).cell 0)
  have CY : Hid (∀ w', Chg none_ w3 w' → w'.cell? ⟨w1.heap.size, 1, none⟩ = some (.pointer (some ⟨y, 0, none⟩))) := Lib.hid (fun w' hc => (HL3.out.chg hc (fun h => h)).cell 1)
  have HG1 : Hid (w.heap.size ≤ w1.heap.size) := Lib.hid HC1.out.size
  clear HUAw HUBw HR2
  refine wp_named ?_
  intro a_ ha_
  refine Code.wp_mono (Q := fun e a w' => e = .normal ∧ ∃ (gA gB : Nat), a = (((((((((((a_.put (some 14) (.pointer (some ⟨w1.heap.size, 0, none⟩))).put (some 15) (.pointer (some ⟨x, 0, none⟩))).put (some 16) (.pointer (some ⟨x, 0, none⟩))).put (some 17) (.agg (cellsS so).toArray)).put (some 19) (.pointer (some ⟨w1.heap.size, 1, none⟩))).put (some 20) (.pointer (some ⟨y, 0, none⟩))).put (some 21) (.pointer (some ⟨y, 0, none⟩))).put (some 22) (.agg (cellsS sp).toArray)).put (some 18) (.agg (cellsS MA).toArray)).put (some 23) (.agg (cellsS MB).toArray)).put (some 4) (.pointer (some ⟨gA, 0, none⟩))).put (some 5) (.pointer (some ⟨gB, 0, none⟩)) ∧ Row w' gA 36 (cellsS MA) ∧ Row w' gB 36 (cellsS MB) ∧ w3.heap.size ≤ gA ∧ w3.heap.size ≤ gB ∧ Chg none_ w3 w') ?hq ?_
  case hq =>
    rintro e a w4 ⟨rfl, gA, gB, rfl, hrA, hrB, hgA, hgB, hc4⟩
    subst ha_
    simp only [Act.put, List.setIfInBounds_toArray, List.set_cons_zero, List.set_cons_succ]
    have HC4 := Lib.hid (HC3.out.trans hc4)
    have HR4 := Lib.hid (HR.out.chg HC4.out (fun h => h))
    have HRA_ := Lib.hid hrA
    have HRB_ := Lib.hid hrB
    have HGG : Hid (w.heap.size ≤ gA ∧ w.heap.size ≤ gB) := Lib.hid (by have := HC3.out.size; omega)
    have HL4 := Lib.hid (HL3.out.chg hc4 (fun h => h))
    have CY4 : Hid (∀ w', Chg (· = g) w4 w' → w'.cell? ⟨w1.heap.size, 1, none⟩ = some (.pointer (some ⟨y, 0, none⟩))) := Lib.hid (fun w' hc => (HL4.out.chg hc (fun e => by have := HGL.out; have := HG1.out; omega)).cell 1)
    have HY4 := Lib.hid (HY3.out.chg hc4 (fun h => h))
    clear hrA hrB hgA hgB hc4 CX CY HUA HUB
    go_wp2
    refine wp_region_held_drew (S := fun w' => Chg (· = g) w4 w') (by kernel_rfl) ((Chg.refl _ w4).drew) (fun hch0 => ?_)
    have hch0_ : Chg none_ w4 w4.drew := (Chg.refl none_ w4).drew
    generalize w4.drew = we at hch0 hch0_ ⊢
    refine wpAnyH_take (i := 0) (v := .pointer (some ⟨g, 0, none⟩)) rfl (by kernel_rfl) (by kernel_rfl) (by kernel_rfl) (by first | exact fun _ _ _ h => h | exact fun _ _ _ h => nomatch h.1) (Or.inl ⟨by rfl, fun w_ hw_ => by go_simp⟩) hch0 ?_
    refine wpAnyH_take (i := 1) (v := .pointer (some ⟨w1.heap.size, 1, none⟩)) rfl (by kernel_rfl) (by kernel_rfl) (by kernel_rfl) (by first | exact fun _ _ _ h => h | exact fun _ _ _ h => nomatch h.1) (Or.inl ⟨by rfl, fun w_ hw_ => by go_simp⟩) hch0 ?_
    try simp only [Act.put, List.setIfInBounds_toArray, List.set_cons_zero, List.set_cons_succ, List.getElem_toArray, List.getElem_cons_succ, List.getElem_cons_zero]
    refine wpAnyH_take (i := 4) (v := .pointer (some ⟨g, 0, none⟩)) rfl (by kernel_rfl) (by kernel_rfl) (by kernel_rfl) (by first | exact fun _ _ _ h => h | exact fun _ _ _ h => nomatch h.1) (Or.inl ⟨by rfl, fun w_ hw_ => by go_simp⟩) hch0 ?_
    try simp only [Act.put, List.setIfInBounds_toArray, List.set_cons_zero, List.set_cons_succ, List.getElem_toArray, List.getElem_cons_succ, List.getElem_cons_zero]
    refine wpAnyH_take (i := 5) (v := .pointer (some ⟨g, 0, none⟩)) rfl (by kernel_rfl) (by kernel_rfl) (by kernel_rfl) (by first | exact fun _ _ _ h => h | exact fun _ _ _ h => nomatch h.1) (Or.inl ⟨by rfl, fun w_ hw_ => by go_simp⟩) hch0 ?_
    refine wpAnyH_take (i := 2) (v := .pointer (some ⟨y, 0, none⟩)) rfl (by kernel_rfl) (by kernel_rfl) (by kernel_rfl) (by first | exact fun _ _ _ h => h | exact fun _ _ _ h => nomatch h.1) (Or.inl ⟨by rfl, fun w_ hw_ => by have hh := CY4.out w_ hw_; go_simp⟩) hch0 ?_
    try simp only [Act.put, List.setIfInBounds_toArray, List.set_cons_zero, List.set_cons_succ, List.getElem_toArray, List.getElem_cons_succ, List.getElem_cons_zero]
    refine wpAnyH_take (i := 3) (v := .agg [ptr (some gA), ptr (some gB), ptr (some y)].toArray) rfl (by kernel_rfl) (by kernel_rfl) (by kernel_rfl) (by first | exact fun _ _ _ h => h | exact fun _ _ _ h => nomatch h.1) (Or.inl ⟨by rfl, fun w_ _ => by have hh := bldL3 gA gB y w_; unfold execOp; simp [Act.eval, hh]⟩) hch0 ?_
    try simp only [Act.put, List.setIfInBounds_toArray, List.set_cons_zero, List.set_cons_succ, List.getElem_toArray, List.getElem_cons_succ, List.getElem_cons_zero]
    refine wpAnyH_take (i := 6) (v := .pointer (some ⟨g, 3, none⟩)) rfl (by kernel_rfl) (by kernel_rfl) (by kernel_rfl) (by first | exact fun _ _ _ h => h | exact fun _ _ _ h => nomatch h.1) (Or.inl ⟨by rfl, fun w_ hw_ => by go_simp⟩) hch0 ?_
    try simp only [Act.put, List.setIfInBounds_toArray, List.set_cons_zero, List.set_cons_succ, List.getElem_toArray, List.getElem_cons_succ, List.getElem_cons_zero]
    refine wpAnyH_ready (rs := [7]) (by kernel_rfl) (by simp) ?_
    refine AllReadyH.cons rfl (fun K hK => ?_) AllReadyH.nil
    rw [if_pos (by rfl)]
    try simp only [List.getElem_toArray, List.getElem_cons_succ, List.getElem_cons_zero]
    refine wp_store_rmid (ty := 56) (pre := [ptr a0, ptr b0, ptr c0]) (ys := [ptr (some x), ptr (some y), ptr c1]) (post := [.bool r.g0, .bool r.g1]) (xs := [ptr (some gA), ptr (some gB), ptr (some y)]) rfl (n := 3) rfl rfl ((ring_lv1 HR4.out).chg hch0_ (fun h => h)) rfl rfl size3L rfl ?_
    intro z hrz hcz hsz
    have hz := hcz (· = g) w4 hch0 (fun _ => rfl)
    refine hK.out _ _ hz (fun _ => ?_)
    clear hK K
    try simp only [Act.put]
    refine wpAnyH_done (by kernel_rfl) ?_ _
    go_wp2
    go_ret
    have nA : gA ≠ g := by have := HGG.out; have := HGL.out; omega
    have nB : gB ≠ g := by have := HGG.out; have := HGL.out; omega
    have HA5 := HRA_.out.chg hz (fun e => nA e)
    have HB5 := HRB_.out.chg hz (fun e => nB e)
    have HY5 := HY4.out.chg hz (fun e => HXG.out.2.2 e)
    have OT := (H0.out.chg HC4.out (fun _ _ h => h)).chg hz (fun b hb e => hT (e ▸ hb))
    have LV : LvAt _ T (some ⟨MA, MB, some sp⟩) (some gA) (some gB) (some y) := ⟨HMAO.out, HMBO.out, gA, gB, rfl, rfl, HTN.out _ HGG.out.1, HTN.out _ HGG.out.2, HA5, HB5, HSP.out, y, rfl, HTY.out, HY5⟩
    exact ⟨rfl, ⟨a0, b0, c0, some gA, some gB, some y, hrz, OT, LV⟩, HC4.out.ofN.trans hz⟩
  subst ha_
  refine wp_region_held_drew (S := fun w' => Chg none_ w3 w') (by kernel_rfl) ((Chg.refl none_ w3).drew) (fun hch0 => ?_)
  generalize w3.drew = wd at hch0 ⊢
  refine wpAnyH_take (i := 0) (v := .pointer (some ⟨w1.heap.size, 0, none⟩)) rfl (by kernel_rfl) (by kernel_rfl) (by kernel_rfl) (by first | exact fun _ _ _ h => h | exact fun _ _ _ h => nomatch h.1) (Or.inl ⟨by rfl, fun w_ hw_ => by go_simp⟩) hch0 ?_
  refine wpAnyH_take (i := 5) (v := .pointer (some ⟨w1.heap.size, 1, none⟩)) rfl (by kernel_rfl) (by kernel_rfl) (by kernel_rfl) (by first | exact fun _ _ _ h => h | exact fun _ _ _ h => nomatch h.1) (Or.inl ⟨by rfl, fun w_ hw_ => by go_simp⟩) hch0 ?_
  try simp only [Act.put, List.setIfInBounds_toArray, List.set_cons_zero, List.set_cons_succ, List.getElem_toArray, List.getElem_cons_succ, List.getElem_cons_zero]
  refine wpAnyH_take (i := 1) (v := .pointer (some ⟨x, 0, none⟩)) rfl (by kernel_rfl) (by kernel_rfl) (by kernel_rfl) (by first | exact fun _ _ _ h => h | exact fun _ _ _ h => nomatch h.1) (Or.inl ⟨by rfl, fun w_ hw_ => by have hh := CX.out w_ hw_; go_simp⟩) hch0 ?_
  refine wpAnyH_take (i := 6) (v := .pointer (some ⟨y, 0, none⟩)) rfl (by kernel_rfl) (by kernel_rfl) (by kernel_rfl) (by first | exact fun _ _ _ h => h | exact fun _ _ _ h => nomatch h.1) (Or.inl ⟨by rfl, fun w_ hw_ => by have hh := CY.out w_ hw_; go_simp⟩) hch0 ?_
  try simp only [Act.put, List.setIfInBounds_toArray, List.set_cons_zero, List.set_cons_succ, List.getElem_toArray, List.getElem_cons_succ, List.getElem_cons_zero]
  refine wpAnyH_take (i := 2) (v := .pointer (some ⟨x, 0, none⟩)) rfl (by kernel_rfl) (by kernel_rfl) (by kernel_rfl) (by first | exact fun _ _ _ h => h | exact fun _ _ _ h => nomatch h.1) (Or.inl ⟨by rfl, fun w_ hw_ => by go_simp⟩) hch0 ?_
  refine wpAnyH_take (i := 7) (v := .pointer (some ⟨y, 0, none⟩)) rfl (by kernel_rfl) (by kernel_rfl) (by kernel_rfl) (by first | exact fun _ _ _ h => h | exact fun _ _ _ h => nomatch h.1) (Or.inl ⟨by rfl, fun w_ hw_ => by go_simp⟩) hch0 ?_
  try simp only [Act.put, List.setIfInBounds_toArray, List.set_cons_zero, List.set_cons_succ, List.getElem_toArray, List.getElem_cons_succ, List.getElem_cons_zero]
  refine wpAnyH_take (i := 3) (v := .agg (cellsS so).toArray) rfl (by kernel_rfl) (by kernel_rfl) (by kernel_rfl) (by first | exact fun _ _ _ h => h | exact fun _ _ _ h => nomatch h.1) (yieldsIf_load_mid (by rfl) 36 _ rfl x 0 rfl (cellsS so) _ (fun w' hw' => (HX3.out.chg hw' (fun h => h)).range) Tryd.underlying36 rfl (by rw [cellsS_len HSO.out]; exact sizeSc)) hch0 ?_
  refine wpAnyH_take (i := 8) (v := .agg (cellsS sp).toArray) rfl (by kernel_rfl) (by kernel_rfl) (by kernel_rfl) (by first | exact fun _ _ _ h => h | exact fun _ _ _ h => nomatch h.1) (yieldsIf_load_mid (by rfl) 36 _ rfl y 0 rfl (cellsS sp) _ (fun w' hw' => (HY3.out.chg hw' (fun h => h)).range) Tryd.underlying36 rfl (by rw [cellsS_len HSP.out]; exact sizeSc)) hch0 ?_
  try simp only [Act.put, List.setIfInBounds_toArray, List.set_cons_zero, List.set_cons_succ, List.getElem_toArray, List.getElem_cons_succ, List.getElem_cons_zero]
  refine wpAnyH_ready (rs := [4, 10, 11]) (by kernel_rfl) (by simp) ?_
  refine AllReadyH.cons rfl (fun K hK => ?_) (AllReadyH.cons rfl (fun K hK => ?_) (AllReadyH.cons rfl (fun K hK => ?_) AllReadyH.nil))
  · rw [if_pos (by rfl)]
    try simp only [List.getElem_toArray, List.getElem_cons_succ, List.getElem_cons_zero]
    go_simp
    refine (HUA.out _ hch0).mono ?_
    rintro e y0 ⟨rfl, hs0⟩
    have hg0 : Chg none_ w3 y0 := (hch0).trans hs0
    refine hK.out _ _ (hg0) (fun _ => ?_)
    clear hK K
    try simp only [Act.put, List.setIfInBounds_toArray, List.set_cons_zero, List.set_cons_succ, List.getElem_toArray, List.getElem_cons_succ, List.getElem_cons_zero]
    refine wpAnyH_ready (rs := [9, 10, 11]) (by kernel_rfl) (by simp) ?_
    refine AllReadyH.cons rfl (fun K hK => ?_) (AllReadyH.cons rfl (fun K hK => ?_) (AllReadyH.cons rfl (fun K hK => ?_) AllReadyH.nil))
    · rw [if_pos (by rfl)]
      try simp only [List.getElem_toArray, List.getElem_cons_succ, List.getElem_cons_zero]
      go_simp
      refine (HUB.out _ hg0).mono ?_
      rintro e y1 ⟨rfl, hs1⟩
      have hg1 : Chg none_ w3 y1 := (hg0).trans hs1
      refine hK.out _ _ (hg1) (fun _ => ?_)
      clear hK K
      try simp only [Act.put, List.setIfInBounds_toArray, List.set_cons_zero, List.set_cons_succ, List.getElem_toArray, List.getElem_cons_succ, List.getElem_cons_zero]
      refine wpAnyH_ready (rs := [10, 11]) (by kernel_rfl) (by simp) ?_
      refine AllReadyH.cons rfl (fun K hK => ?_) (AllReadyH.cons rfl (fun K hK => ?_) AllReadyH.nil)
      · rw [if_pos (by rfl)]
        try simp only [List.getElem_toArray, List.getElem_cons_succ, List.getElem_cons_zero]
        refine wp_alloc_row rfl zeroS zeroSc ?_
        intro y2 hr2 hs2 hz2
        clear hz2
        have hg2 : Chg none_ w3 y2 := (hg1).trans hs2
        have hb2 := (hg1).size
        refine hK.out _ _ (hg2) (fun _ => ?_)
        clear hK K
        try simp only [Act.put, List.setIfInBounds_toArray, List.set_cons_zero, List.set_cons_succ]
        refine wpAnyH_ready (rs := [11]) (by kernel_rfl) (by simp) ?_
        refine AllReadyH.cons rfl (fun K hK => ?_) AllReadyH.nil
        rw [if_pos (by rfl)]
        try simp only [List.getElem_toArray, List.getElem_cons_succ, List.getElem_cons_zero]
        refine wp_alloc_row rfl zeroS zeroSc ?_
        intro y3 hr3 hs3 hz3
        clear hz3
        have hg3 : Chg none_ w3 y3 := (hg2).trans hs3
        have hb3 := (hg2).size
        have hne := hr2.lt
        refine hK.out _ _ (hg3) (fun _ => ?_)
        clear hK K
        try simp only [Act.put, List.setIfInBounds_toArray, List.set_cons_zero, List.set_cons_succ]
        have hra := (hr2.chg hs3 (fun h => h))
        have hrb := hr3
        refine wpAnyH_ready (rs := [12]) (by kernel_rfl) (by simp) ?_
        refine AllReadyH.cons rfl (fun K hK => ?_) AllReadyH.nil
        rw [if_pos (by rfl)]
        try simp only [List.getElem_toArray, List.getElem_cons_succ, List.getElem_cons_zero]
        refine wp_store_row (ty := 36) (xs := cellsS MA) rfl rfl (hra) rfl (by rw [cellsS_len HMAO.out]; rfl) (by rw [cellsS_len HMAO.out]; exact sizeSc) (cellsS_one MA) ?_
        intro z1 hr_z1 hc_z1 hs_z1
        refine hK.out _ _ (hc_z1 none_ w3 (hg3) (fun h => by omega)) (fun _ => ?_)
        clear hK K
        try simp only [Act.put]
        have hz1 := hc_z1 none_ w3 (hg3) (fun h => by omega)
        have hrb1 := hrb.chg (hc_z1 (· = y1.heap.size) y3 (Chg.refl _ _) (fun _ => rfl)) (fun e => by omega)
        refine wpAnyH_ready (rs := [13]) (by kernel_rfl) (by simp) ?_
        refine AllReadyH.cons rfl (fun K hK => ?_) AllReadyH.nil
        rw [if_pos (by rfl)]
        try simp only [List.getElem_toArray, List.getElem_cons_succ, List.getElem_cons_zero]
        refine wp_store_row (ty := 36) (xs := cellsS MB) rfl rfl (hrb1) rfl (by rw [cellsS_len HMBO.out]; rfl) (by rw [cellsS_len HMBO.out]; exact sizeSc) (cellsS_one MB) ?_
        intro z2 hr_z2 hc_z2 hs_z2
        refine hK.out _ _ (hc_z2 none_ w3 hz1 (fun h => by omega)) (fun _ => ?_)
        clear hK K
        try simp only [Act.put]
        have hra2 := hr_z1.chg (hc_z2 (· = y2.heap.size) z1 (Chg.refl _ _) (fun _ => rfl)) (fun e => by omega)
        refine wpAnyH_done (by kernel_rfl) ?_ _
        exact ⟨rfl, y1.heap.size, y2.heap.size, rfl, hra2, hr_z2, by omega, by omega, hc_z2 none_ w3 hz1 (fun h => by omega)⟩
      · rw [if_pos (by rfl)]
        try simp only [List.getElem_toArray, List.getElem_cons_succ, List.getElem_cons_zero]
        refine wp_alloc_row rfl zeroS zeroSc ?_
        intro y2 hr2 hs2 hz2
        clear hz2
        have hg2 : Chg none_ w3 y2 := (hg1).trans hs2
        have hb2 := (hg1).size
        refine hK.out _ _ (hg2) (fun _ => ?_)
        clear hK K
        try simp only [Act.put, List.setIfInBounds_toArray, List.set_cons_zero, List.set_cons_succ]
        refine wpAnyH_ready (rs := [10]) (by kernel_rfl) (by simp) ?_
        refine AllReadyH.cons rfl (fun K hK => ?_) AllReadyH.nil
        rw [if_pos (by rfl)]
        try simp only [List.getElem_toArray, List.getElem_cons_succ, List.getElem_cons_zero]
        refine wp_alloc_row rfl zeroS zeroSc ?_
        intro y3 hr3 hs3 hz3
        clear hz3
        have hg3 : Chg none_ w3 y3 := (hg2).trans hs3
        have hb3 := (hg2).size
        have hne := hr2.lt
        refine hK.out _ _ (hg3) (fun _ => ?_)
        clear hK K
        try simp only [Act.put, List.setIfInBounds_toArray, List.set_cons_zero, List.set_cons_succ]
        have hra := hr3
        have hrb := (hr2.chg hs3 (fun h => h))
        refine wpAnyH_ready (rs := [12]) (by kernel_rfl) (by simp) ?_
        refine AllReadyH.cons rfl (fun K hK => ?_) AllReadyH.nil
        rw [if_pos (by rfl)]
        try simp only [List.getElem_toArray, List.getElem_cons_succ, List.getElem_cons_zero]
        refine wp_store_row (ty := 36) (xs := cellsS MA) rfl rfl (hra) rfl (by rw [cellsS_len HMAO.out]; rfl) (by rw [cellsS_len HMAO.out]; exact sizeSc) (cellsS_one MA) ?_
        intro z1 hr_z1 hc_z1 hs_z1
        refine hK.out _ _ (hc_z1 none_ w3 (hg3) (fun h => by omega)) (fun _ => ?_)
        clear hK K
        try simp only [Act.put]
        have hz1 := hc_z1 none_ w3 (hg3) (fun h => by omega)
        have hrb1 := hrb.chg (hc_z1 (· = y2.heap.size) y3 (Chg.refl _ _) (fun _ => rfl)) (fun e => by omega)
        refine wpAnyH_ready (rs := [13]) (by kernel_rfl) (by simp) ?_
        refine AllReadyH.cons rfl (fun K hK => ?_) AllReadyH.nil
        rw [if_pos (by rfl)]
        try simp only [List.getElem_toArray, List.getElem_cons_succ, List.getElem_cons_zero]
        refine wp_store_row (ty := 36) (xs := cellsS MB) rfl rfl (hrb1) rfl (by rw [cellsS_len HMBO.out]; rfl) (by rw [cellsS_len HMBO.out]; exact sizeSc) (cellsS_one MB) ?_
        intro z2 hr_z2 hc_z2 hs_z2
        refine hK.out _ _ (hc_z2 none_ w3 hz1 (fun h => by omega)) (fun _ => ?_)
        clear hK K
        try simp only [Act.put]
        have hra2 := hr_z1.chg (hc_z2 (· = y1.heap.size) z1 (Chg.refl _ _) (fun _ => rfl)) (fun e => by omega)
        refine wpAnyH_done (by kernel_rfl) ?_ _
        exact ⟨rfl, y2.heap.size, y1.heap.size, rfl, hra2, hr_z2, by omega, by omega, hc_z2 none_ w3 hz1 (fun h => by omega)⟩
    · rw [if_pos (by rfl)]
      try simp only [List.getElem_toArray, List.getElem_cons_succ, List.getElem_cons_zero]
      refine wp_alloc_row rfl zeroS zeroSc ?_
      intro y1 hr1 hs1 hz1
      clear hz1
      have hg1 : Chg none_ w3 y1 := (hg0).trans hs1
      have hb1 := (hg0).size
      refine hK.out _ _ (hg1) (fun _ => ?_)
      clear hK K
      try simp only [Act.put, List.setIfInBounds_toArray, List.set_cons_zero, List.set_cons_succ]
      refine wpAnyH_ready (rs := [9, 11]) (by kernel_rfl) (by simp) ?_
      refine AllReadyH.cons rfl (fun K hK => ?_) (AllReadyH.cons rfl (fun K hK => ?_) AllReadyH.nil)
      · rw [if_pos (by rfl)]
        try simp only [List.getElem_toArray, List.getElem_cons_succ, List.getElem_cons_zero]
        go_simp
        refine (HUB.out _ hg1).mono ?_
        rintro e y2 ⟨rfl, hs2⟩
        have hg2 : Chg none_ w3 y2 := (hg1).trans hs2
        refine hK.out _ _ (hg2) (fun _ => ?_)
        clear hK K
        try simp only [Act.put, List.setIfInBounds_toArray, List.set_cons_zero, List.set_cons_succ, List.getElem_toArray, List.getElem_cons_succ, List.getElem_cons_zero]
        refine wpAnyH_ready (rs := [11]) (by kernel_rfl) (by simp) ?_
        refine AllReadyH.cons rfl (fun K hK => ?_) AllReadyH.nil
        rw [if_pos (by rfl)]
        try simp only [List.getElem_toArray, List.getElem_cons_succ, List.getElem_cons_zero]
        refine wp_alloc_row rfl zeroS zeroSc ?_
        intro y3 hr3 hs3 hz3
        clear hz3
        have hg3 : Chg none_ w3 y3 := (hg2).trans hs3
        have hb3 := (hg2).size
        have hne := (hr1.chg hs2 (fun h => h)).lt
        refine hK.out _ _ (hg3) (fun _ => ?_)
        clear hK K
        try simp only [Act.put, List.setIfInBounds_toArray, List.set_cons_zero, List.set_cons_succ]
        have hra := ((hr1.chg hs2 (fun h => h)).chg hs3 (fun h => h))
        have hrb := hr3
        refine wpAnyH_ready (rs := [12]) (by kernel_rfl) (by simp) ?_
        refine AllReadyH.cons rfl (fun K hK => ?_) AllReadyH.nil
        rw [if_pos (by rfl)]
        try simp only [List.getElem_toArray, List.getElem_cons_succ, List.getElem_cons_zero]
        refine wp_store_row (ty := 36) (xs := cellsS MA) rfl rfl (hra) rfl (by rw [cellsS_len HMAO.out]; rfl) (by rw [cellsS_len HMAO.out]; exact sizeSc) (cellsS_one MA) ?_
        intro z1 hr_z1 hc_z1 hs_z1
        refine hK.out _ _ (hc_z1 none_ w3 (hg3) (fun h => by omega)) (fun _ => ?_)
        clear hK K
        try simp only [Act.put]
        have hz1 := hc_z1 none_ w3 (hg3) (fun h => by omega)
        have hrb1 := hrb.chg (hc_z1 (· = y0.heap.size) y3 (Chg.refl _ _) (fun _ => rfl)) (fun e => by omega)
        refine wpAnyH_ready (rs := [13]) (by kernel_rfl) (by simp) ?_
        refine AllReadyH.cons rfl (fun K hK => ?_) AllReadyH.nil
        rw [if_pos (by rfl)]
        try simp only [List.getElem_toArray, List.getElem_cons_succ, List.getElem_cons_zero]
        refine wp_store_row (ty := 36) (xs := cellsS MB) rfl rfl (hrb1) rfl (by rw [cellsS_len HMBO.out]; rfl) (by rw [cellsS_len HMBO.out]; exact sizeSc) (cellsS_one MB) ?_
        intro z2 hr_z2 hc_z2 hs_z2
        refine hK.out _ _ (hc_z2 none_ w3 hz1 (fun h => by omega)) (fun _ => ?_)
        clear hK K
        try simp only [Act.put]
        have hra2 := hr_z1.chg (hc_z2 (· = y2.heap.size) z1 (Chg.refl _ _) (fun _ => rfl)) (fun e => by omega)
        refine wpAnyH_done (by kernel_rfl) ?_ _
        exact ⟨rfl, y0.heap.size, y2.heap.size, rfl, hra2, hr_z2, by omega, by omega, hc_z2 none_ w3 hz1 (fun h => by omega)⟩
      · rw [if_pos (by rfl)]
        try simp only [List.getElem_toArray, List.getElem_cons_succ, List.getElem_cons_zero]
        refine wp_alloc_row rfl zeroS zeroSc ?_
        intro y2 hr2 hs2 hz2
        clear hz2
        have hg2 : Chg none_ w3 y2 := (hg1).trans hs2
        have hb2 := (hg1).size
        have hne := hr1.lt
        refine hK.out _ _ (hg2) (fun _ => ?_)
        clear hK K
        try simp only [Act.put, List.setIfInBounds_toArray, List.set_cons_zero, List.set_cons_succ]
        refine wpAnyH_ready (rs := [9]) (by kernel_rfl) (by simp) ?_
        refine AllReadyH.cons rfl (fun K hK => ?_) AllReadyH.nil
        rw [if_pos (by rfl)]
        try simp only [List.getElem_toArray, List.getElem_cons_succ, List.getElem_cons_zero]
        go_simp
        refine (HUB.out _ hg2).mono ?_
        rintro e y3 ⟨rfl, hs3⟩
        have hg3 : Chg none_ w3 y3 := (hg2).trans hs3
        refine hK.out _ _ (hg3) (fun _ => ?_)
        clear hK K
        try simp only [Act.put, List.setIfInBounds_toArray, List.set_cons_zero, List.set_cons_succ, List.getElem_toArray, List.getElem_cons_succ, List.getElem_cons_zero]
        have hra := ((hr1.chg hs2 (fun h => h)).chg hs3 (fun h => h))
        have hrb := (hr2.chg hs3 (fun h => h))
        refine wpAnyH_ready (rs := [12]) (by kernel_rfl) (by simp) ?_
        refine AllReadyH.cons rfl (fun K hK => ?_) AllReadyH.nil
        rw [if_pos (by rfl)]
        try simp only [List.getElem_toArray, List.getElem_cons_succ, List.getElem_cons_zero]
        refine wp_store_row (ty := 36) (xs := cellsS MA) rfl rfl (hra) rfl (by rw [cellsS_len HMAO.out]; rfl) (by rw [cellsS_len HMAO.out]; exact sizeSc) (cellsS_one MA) ?_
        intro z1 hr_z1 hc_z1 hs_z1
        refine hK.out _ _ (hc_z1 none_ w3 (hg3) (fun h => by omega)) (fun _ => ?_)
        clear hK K
        try simp only [Act.put]
        have hz1 := hc_z1 none_ w3 (hg3) (fun h => by omega)
        have hrb1 := hrb.chg (hc_z1 (· = y0.heap.size) y3 (Chg.refl _ _) (fun _ => rfl)) (fun e => by omega)
        refine wpAnyH_ready (rs := [13]) (by kernel_rfl) (by simp) ?_
        refine AllReadyH.cons rfl (fun K hK => ?_) AllReadyH.nil
        rw [if_pos (by rfl)]
        try simp only [List.getElem_toArray, List.getElem_cons_succ, List.getElem_cons_zero]
        refine wp_store_row (ty := 36) (xs := cellsS MB) rfl rfl (hrb1) rfl (by rw [cellsS_len HMBO.out]; rfl) (by rw [cellsS_len HMBO.out]; exact sizeSc) (cellsS_one MB) ?_
        intro z2 hr_z2 hc_z2 hs_z2
        refine hK.out _ _ (hc_z2 none_ w3 hz1 (fun h => by omega)) (fun _ => ?_)
        clear hK K
        try simp only [Act.put]
        have hra2 := hr_z1.chg (hc_z2 (· = y1.heap.size) z1 (Chg.refl _ _) (fun _ => rfl)) (fun e => by omega)
        refine wpAnyH_done (by kernel_rfl) ?_ _
        exact ⟨rfl, y0.heap.size, y1.heap.size, rfl, hra2, hr_z2, by omega, by omega, hc_z2 none_ w3 hz1 (fun h => by omega)⟩
    · rw [if_pos (by rfl)]
      try simp only [List.getElem_toArray, List.getElem_cons_succ, List.getElem_cons_zero]
      refine wp_alloc_row rfl zeroS zeroSc ?_
      intro y1 hr1 hs1 hz1
      clear hz1
      have hg1 : Chg none_ w3 y1 := (hg0).trans hs1
      have hb1 := (hg0).size
      refine hK.out _ _ (hg1) (fun _ => ?_)
      clear hK K
      try simp only [Act.put, List.setIfInBounds_toArray, List.set_cons_zero, List.set_cons_succ]
      refine wpAnyH_ready (rs := [9, 10]) (by kernel_rfl) (by simp) ?_
      refine AllReadyH.cons rfl (fun K hK => ?_) (AllReadyH.cons rfl (fun K hK => ?_) AllReadyH.nil)
      · rw [if_pos (by rfl)]
        try simp only [List.getElem_toArray, List.getElem_cons_succ, List.getElem_cons_zero]
        go_simp
        refine (HUB.out _ hg1).mono ?_
        rintro e y2 ⟨rfl, hs2⟩
        have hg2 : Chg none_ w3 y2 := (hg1).trans hs2
        refine hK.out _ _ (hg2) (fun _ => ?_)
        clear hK K
        try simp only [Act.put, List.setIfInBounds_toArray, List.set_cons_zero, List.set_cons_succ, List.getElem_toArray, List.getElem_cons_succ, List.getElem_cons_zero]
        refine wpAnyH_ready (rs := [10]) (by kernel_rfl) (by simp) ?_
        refine AllReadyH.cons rfl (fun K hK => ?_) AllReadyH.nil
        rw [if_pos (by rfl)]
        try simp only [List.getElem_toArray, List.getElem_cons_succ, List.getElem_cons_zero]
        refine wp_alloc_row rfl zeroS zeroSc ?_
        intro y3 hr3 hs3 hz3
        clear hz3
        have hg3 : Chg none_ w3 y3 := (hg2).trans hs3
        have hb3 := (hg2).size
        have hne := (hr1.chg hs2 (fun h => h)).lt
        refine hK.out _ _ (hg3) (fun _ => ?_)
        clear hK K
        try simp only [Act.put, List.setIfInBounds_toArray, List.set_cons_zero, List.set_cons_succ]
        have hra := hr3
        have hrb := ((hr1.chg hs2 (fun h => h)).chg hs3 (fun h => h))
        refine wpAnyH_ready (rs := [12]) (by kernel_rfl) (by simp) ?_
        refine AllReadyH.cons rfl (fun K hK => ?_) AllReadyH.nil
        rw [if_pos (by rfl)]
        try simp only [List.getElem_toArray, List.getElem_cons_succ, List.getElem_cons_zero]
        refine wp_store_row (ty := 36) (xs := cellsS MA) rfl rfl (hra) rfl (by rw [cellsS_len HMAO.out]; rfl) (by rw [cellsS_len HMAO.out]; exact sizeSc) (cellsS_one MA) ?_
        intro z1 hr_z1 hc_z1 hs_z1
        refine hK.out _ _ (hc_z1 none_ w3 (hg3) (fun h => by omega)) (fun _ => ?_)
        clear hK K
        try simp only [Act.put]
        have hz1 := hc_z1 none_ w3 (hg3) (fun h => by omega)
        have hrb1 := hrb.chg (hc_z1 (· = y2.heap.size) y3 (Chg.refl _ _) (fun _ => rfl)) (fun e => by omega)
        refine wpAnyH_ready (rs := [13]) (by kernel_rfl) (by simp) ?_
        refine AllReadyH.cons rfl (fun K hK => ?_) AllReadyH.nil
        rw [if_pos (by rfl)]
        try simp only [List.getElem_toArray, List.getElem_cons_succ, List.getElem_cons_zero]
        refine wp_store_row (ty := 36) (xs := cellsS MB) rfl rfl (hrb1) rfl (by rw [cellsS_len HMBO.out]; rfl) (by rw [cellsS_len HMBO.out]; exact sizeSc) (cellsS_one MB) ?_
        intro z2 hr_z2 hc_z2 hs_z2
        refine hK.out _ _ (hc_z2 none_ w3 hz1 (fun h => by omega)) (fun _ => ?_)
        clear hK K
        try simp only [Act.put]
        have hra2 := hr_z1.chg (hc_z2 (· = y0.heap.size) z1 (Chg.refl _ _) (fun _ => rfl)) (fun e => by omega)
        refine wpAnyH_done (by kernel_rfl) ?_ _
        exact ⟨rfl, y2.heap.size, y0.heap.size, rfl, hra2, hr_z2, by omega, by omega, hc_z2 none_ w3 hz1 (fun h => by omega)⟩
      · rw [if_pos (by rfl)]
        try simp only [List.getElem_toArray, List.getElem_cons_succ, List.getElem_cons_zero]
        refine wp_alloc_row rfl zeroS zeroSc ?_
        intro y2 hr2 hs2 hz2
        clear hz2
        have hg2 : Chg none_ w3 y2 := (hg1).trans hs2
        have hb2 := (hg1).size
        have hne := hr1.lt
        refine hK.out _ _ (hg2) (fun _ => ?_)
        clear hK K
        try simp only [Act.put, List.setIfInBounds_toArray, List.set_cons_zero, List.set_cons_succ]
        refine wpAnyH_ready (rs := [9]) (by kernel_rfl) (by simp) ?_
        refine AllReadyH.cons rfl (fun K hK => ?_) AllReadyH.nil
        rw [if_pos (by rfl)]
        try simp only [List.getElem_toArray, List.getElem_cons_succ, List.getElem_cons_zero]
        go_simp
        refine (HUB.out _ hg2).mono ?_
        rintro e y3 ⟨rfl, hs3⟩
        have hg3 : Chg none_ w3 y3 := (hg2).trans hs3
        refine hK.out _ _ (hg3) (fun _ => ?_)
        clear hK K
        try simp only [Act.put, List.setIfInBounds_toArray, List.set_cons_zero, List.set_cons_succ, List.getElem_toArray, List.getElem_cons_succ, List.getElem_cons_zero]
        have hra := (hr2.chg hs3 (fun h => h))
        have hrb := ((hr1.chg hs2 (fun h => h)).chg hs3 (fun h => h))
        refine wpAnyH_ready (rs := [12]) (by kernel_rfl) (by simp) ?_
        refine AllReadyH.cons rfl (fun K hK => ?_) AllReadyH.nil
        rw [if_pos (by rfl)]
        try simp only [List.getElem_toArray, List.getElem_cons_succ, List.getElem_cons_zero]
        refine wp_store_row (ty := 36) (xs := cellsS MA) rfl rfl (hra) rfl (by rw [cellsS_len HMAO.out]; rfl) (by rw [cellsS_len HMAO.out]; exact sizeSc) (cellsS_one MA) ?_
        intro z1 hr_z1 hc_z1 hs_z1
        refine hK.out _ _ (hc_z1 none_ w3 (hg3) (fun h => by omega)) (fun _ => ?_)
        clear hK K
        try simp only [Act.put]
        have hz1 := hc_z1 none_ w3 (hg3) (fun h => by omega)
        have hrb1 := hrb.chg (hc_z1 (· = y1.heap.size) y3 (Chg.refl _ _) (fun _ => rfl)) (fun e => by omega)
        refine wpAnyH_ready (rs := [13]) (by kernel_rfl) (by simp) ?_
        refine AllReadyH.cons rfl (fun K hK => ?_) AllReadyH.nil
        rw [if_pos (by rfl)]
        try simp only [List.getElem_toArray, List.getElem_cons_succ, List.getElem_cons_zero]
        refine wp_store_row (ty := 36) (xs := cellsS MB) rfl rfl (hrb1) rfl (by rw [cellsS_len HMBO.out]; rfl) (by rw [cellsS_len HMBO.out]; exact sizeSc) (cellsS_one MB) ?_
        intro z2 hr_z2 hc_z2 hs_z2
        refine hK.out _ _ (hc_z2 none_ w3 hz1 (fun h => by omega)) (fun _ => ?_)
        clear hK K
        try simp only [Act.put]
        have hra2 := hr_z1.chg (hc_z2 (· = y0.heap.size) z1 (Chg.refl _ _) (fun _ => rfl)) (fun e => by omega)
        refine wpAnyH_done (by kernel_rfl) ?_ _
        exact ⟨rfl, y1.heap.size, y0.heap.size, rfl, hra2, hr_z2, by omega, by omega, hc_z2 none_ w3 hz1 (fun h => by omega)⟩
  · rw [if_pos (by rfl)]
    try simp only [List.getElem_toArray, List.getElem_cons_succ, List.getElem_cons_zero]
    refine wp_alloc_row rfl zeroS zeroSc ?_
    intro y0 hr0 hs0 hz0
    clear hz0
    have hg0 : Chg none_ w3 y0 := (hch0).trans hs0
    have hb0 := (hch0).size
    refine hK.out _ _ (hg0) (fun _ => ?_)
    clear hK K
    try simp only [Act.put, List.setIfInBounds_toArray, List.set_cons_zero, List.set_cons_succ]
    refine wpAnyH_ready (rs := [4, 11]) (by kernel_rfl) (by simp) ?_
    refine AllReadyH.cons rfl (fun K hK => ?_) (AllReadyH.cons rfl (fun K hK => ?_) AllReadyH.nil)
    · rw [if_pos (by rfl)]
      try simp only [List.getElem_toArray, List.getElem_cons_succ, List.getElem_cons_zero]
      go_simp
      refine (HUA.out _ hg0).mono ?_
      rintro e y1 ⟨rfl, hs1⟩
      have hg1 : Chg none_ w3 y1 := (hg0).trans hs1
      refine hK.out _ _ (hg1) (fun _ => ?_)
      clear hK K
      try simp only [Act.put, List.setIfInBounds_toArray, List.set_cons_zero, List.set_cons_succ, List.getElem_toArray, List.getElem_cons_succ, List.getElem_cons_zero]
      refine wpAnyH_ready (rs := [9, 11]) (by kernel_rfl) (by simp) ?_
      refine AllReadyH.cons rfl (fun K hK => ?_) (AllReadyH.cons rfl (fun K hK => ?_) AllReadyH.nil)
      · rw [if_pos (by rfl)]
        try simp only [List.getElem_toArray, List.getElem_cons_succ, List.getElem_cons_zero]
        go_simp
        refine (HUB.out _ hg1).mono ?_
        rintro e y2 ⟨rfl, hs2⟩
        have hg2 : Chg none_ w3 y2 := (hg1).trans hs2
        refine hK.out _ _ (hg2) (fun _ => ?_)
        clear hK K
        try simp only [Act.put, List.setIfInBounds_toArray, List.set_cons_zero, List.set_cons_succ, List.getElem_toArray, List.getElem_cons_succ, List.getElem_cons_zero]
        refine wpAnyH_ready (rs := [11]) (by kernel_rfl) (by simp) ?_
        refine AllReadyH.cons rfl (fun K hK => ?_) AllReadyH.nil
        rw [if_pos (by rfl)]
        try simp only [List.getElem_toArray, List.getElem_cons_succ, List.getElem_cons_zero]
        refine wp_alloc_row rfl zeroS zeroSc ?_
        intro y3 hr3 hs3 hz3
        clear hz3
        have hg3 : Chg none_ w3 y3 := (hg2).trans hs3
        have hb3 := (hg2).size
        have hne := ((hr0.chg hs1 (fun h => h)).chg hs2 (fun h => h)).lt
        refine hK.out _ _ (hg3) (fun _ => ?_)
        clear hK K
        try simp only [Act.put, List.setIfInBounds_toArray, List.set_cons_zero, List.set_cons_succ]
        have hra := (((hr0.chg hs1 (fun h => h)).chg hs2 (fun h => h)).chg hs3 (fun h => h))
        have hrb := hr3
        refine wpAnyH_ready (rs := [12]) (by kernel_rfl) (by simp) ?_
        refine AllReadyH.cons rfl (fun K hK => ?_) AllReadyH.nil
        rw [if_pos (by rfl)]
        try simp only [List.getElem_toArray, List.getElem_cons_succ, List.getElem_cons_zero]
        refine wp_store_row (ty := 36) (xs := cellsS MA) rfl rfl (hra) rfl (by rw [cellsS_len HMAO.out]; rfl) (by rw [cellsS_len HMAO.out]; exact sizeSc) (cellsS_one MA) ?_
        intro z1 hr_z1 hc_z1 hs_z1
        refine hK.out _ _ (hc_z1 none_ w3 (hg3) (fun h => by omega)) (fun _ => ?_)
        clear hK K
        try simp only [Act.put]
        have hz1 := hc_z1 none_ w3 (hg3) (fun h => by omega)
        have hrb1 := hrb.chg (hc_z1 (· = wd.heap.size) y3 (Chg.refl _ _) (fun _ => rfl)) (fun e => by omega)
        refine wpAnyH_ready (rs := [13]) (by kernel_rfl) (by simp) ?_
        refine AllReadyH.cons rfl (fun K hK => ?_) AllReadyH.nil
        rw [if_pos (by rfl)]
        try simp only [List.getElem_toArray, List.getElem_cons_succ, List.getElem_cons_zero]
        refine wp_store_row (ty := 36) (xs := cellsS MB) rfl rfl (hrb1) rfl (by rw [cellsS_len HMBO.out]; rfl) (by rw [cellsS_len HMBO.out]; exact sizeSc) (cellsS_one MB) ?_
        intro z2 hr_z2 hc_z2 hs_z2
        refine hK.out _ _ (hc_z2 none_ w3 hz1 (fun h => by omega)) (fun _ => ?_)
        clear hK K
        try simp only [Act.put]
        have hra2 := hr_z1.chg (hc_z2 (· = y2.heap.size) z1 (Chg.refl _ _) (fun _ => rfl)) (fun e => by omega)
        refine wpAnyH_done (by kernel_rfl) ?_ _
        exact ⟨rfl, wd.heap.size, y2.heap.size, rfl, hra2, hr_z2, by omega, by omega, hc_z2 none_ w3 hz1 (fun h => by omega)⟩
      · rw [if_pos (by rfl)]
        try simp only [List.getElem_toArray, List.getElem_cons_succ, List.getElem_cons_zero]
        refine wp_alloc_row rfl zeroS zeroSc ?_
        intro y2 hr2 hs2 hz2
        clear hz2
        have hg2 : Chg none_ w3 y2 := (hg1).trans hs2
        have hb2 := (hg1).size
        have hne := (hr0.chg hs1 (fun h => h)).lt
        refine hK.out _ _ (hg2) (fun _ => ?_)
        clear hK K
        try simp only [Act.put, List.setIfInBounds_toArray, List.set_cons_zero, List.set_cons_succ]
        refine wpAnyH_ready (rs := [9]) (by kernel_rfl) (by simp) ?_
        refine AllReadyH.cons rfl (fun K hK => ?_) AllReadyH.nil
        rw [if_pos (by rfl)]
        try simp only [List.getElem_toArray, List.getElem_cons_succ, List.getElem_cons_zero]
        go_simp
        refine (HUB.out _ hg2).mono ?_
        rintro e y3 ⟨rfl, hs3⟩
        have hg3 : Chg none_ w3 y3 := (hg2).trans hs3
        refine hK.out _ _ (hg3) (fun _ => ?_)
        clear hK K
        try simp only [Act.put, List.setIfInBounds_toArray, List.set_cons_zero, List.set_cons_succ, List.getElem_toArray, List.getElem_cons_succ, List.getElem_cons_zero]
        have hra := (((hr0.chg hs1 (fun h => h)).chg hs2 (fun h => h)).chg hs3 (fun h => h))
        have hrb := (hr2.chg hs3 (fun h => h))
        refine wpAnyH_ready (rs := [12]) (by kernel_rfl) (by simp) ?_
        refine AllReadyH.cons rfl (fun K hK => ?_) AllReadyH.nil
        rw [if_pos (by rfl)]
        try simp only [List.getElem_toArray, List.getElem_cons_succ, List.getElem_cons_zero]
        refine wp_store_row (ty := 36) (xs := cellsS MA) rfl rfl (hra) rfl (by rw [cellsS_len HMAO.out]; rfl) (by rw [cellsS_len HMAO.out]; exact sizeSc) (cellsS_one MA) ?_
        intro z1 hr_z1 hc_z1 hs_z1
        refine hK.out _ _ (hc_z1 none_ w3 (hg3) (fun h => by omega)) (fun _ => ?_)
        clear hK K
        try simp only [Act.put]
        have hz1 := hc_z1 none_ w3 (hg3) (fun h => by omega)
        have hrb1 := hrb.chg (hc_z1 (· = wd.heap.size) y3 (Chg.refl _ _) (fun _ => rfl)) (fun e => by omega)
        refine wpAnyH_ready (rs := [13]) (by kernel_rfl) (by simp) ?_
        refine AllReadyH.cons rfl (fun K hK => ?_) AllReadyH.nil
        rw [if_pos (by rfl)]
        try simp only [List.getElem_toArray, List.getElem_cons_succ, List.getElem_cons_zero]
        refine wp_store_row (ty := 36) (xs := cellsS MB) rfl rfl (hrb1) rfl (by rw [cellsS_len HMBO.out]; rfl) (by rw [cellsS_len HMBO.out]; exact sizeSc) (cellsS_one MB) ?_
        intro z2 hr_z2 hc_z2 hs_z2
        refine hK.out _ _ (hc_z2 none_ w3 hz1 (fun h => by omega)) (fun _ => ?_)
        clear hK K
        try simp only [Act.put]
        have hra2 := hr_z1.chg (hc_z2 (· = y1.heap.size) z1 (Chg.refl _ _) (fun _ => rfl)) (fun e => by omega)
        refine wpAnyH_done (by kernel_rfl) ?_ _
        exact ⟨rfl, wd.heap.size, y1.heap.size, rfl, hra2, hr_z2, by omega, by omega, hc_z2 none_ w3 hz1 (fun h => by omega)⟩
    · rw [if_pos (by rfl)]
      try simp only [List.getElem_toArray, List.getElem_cons_succ, List.getElem_cons_zero]
      refine wp_alloc_row rfl zeroS zeroSc ?_
      intro y1 hr1 hs1 hz1
      clear hz1
      have hg1 : Chg none_ w3 y1 := (hg0).trans hs1
      have hb1 := (hg0).size
      have hne := hr0.lt
      refine hK.out _ _ (hg1) (fun _ => ?_)
      clear hK K
      try simp only [Act.put, List.setIfInBounds_toArray, List.set_cons_zero, List.set_cons_succ]
      refine wpAnyH_ready (rs := [4]) (by kernel_rfl) (by simp) ?_
      refine AllReadyH.cons rfl (fun K hK => ?_) AllReadyH.nil
      rw [if_pos (by rfl)]
      try simp only [List.getElem_toArray, List.getElem_cons_succ, List.getElem_cons_zero]
      go_simp
      refine (HUA.out _ hg1).mono ?_
      rintro e y2 ⟨rfl, hs2⟩
      have hg2 : Chg none_ w3 y2 := (hg1).trans hs2
      refine hK.out _ _ (hg2) (fun _ => ?_)
      clear hK K
      try simp only [Act.put, List.setIfInBounds_toArray, List.set_cons_zero, List.set_cons_succ, List.getElem_toArray, List.getElem_cons_succ, List.getElem_cons_zero]
      refine wpAnyH_ready (rs := [9]) (by kernel_rfl) (by simp) ?_
      refine AllReadyH.cons rfl (fun K hK => ?_) AllReadyH.nil
      rw [if_pos (by rfl)]
      try simp only [List.getElem_toArray, List.getElem_cons_succ, List.getElem_cons_zero]
      go_simp
      refine (HUB.out _ hg2).mono ?_
      rintro e y3 ⟨rfl, hs3⟩
      have hg3 : Chg none_ w3 y3 := (hg2).trans hs3
      refine hK.out _ _ (hg3) (fun _ => ?_)
      clear hK K
      try simp only [Act.put, List.setIfInBounds_toArray, List.set_cons_zero, List.set_cons_succ, List.getElem_toArray, List.getElem_cons_succ, List.getElem_cons_zero]
      have hra := (((hr0.chg hs1 (fun h => h)).chg hs2 (fun h => h)).chg hs3 (fun h => h))
      have hrb := ((hr1.chg hs2 (fun h => h)).chg hs3 (fun h => h))
      refine wpAnyH_ready (rs := [12]) (by kernel_rfl) (by simp) ?_
      refine AllReadyH.cons rfl (fun K hK => ?_) AllReadyH.nil
      rw [if_pos (by rfl)]
      try simp only [List.getElem_toArray, List.getElem_cons_succ, List.getElem_cons_zero]
      refine wp_store_row (ty := 36) (xs := cellsS MA) rfl rfl (hra) rfl (by rw [cellsS_len HMAO.out]; rfl) (by rw [cellsS_len HMAO.out]; exact sizeSc) (cellsS_one MA) ?_
      intro z1 hr_z1 hc_z1 hs_z1
      refine hK.out _ _ (hc_z1 none_ w3 (hg3) (fun h => by omega)) (fun _ => ?_)
      clear hK K
      try simp only [Act.put]
      have hz1 := hc_z1 none_ w3 (hg3) (fun h => by omega)
      have hrb1 := hrb.chg (hc_z1 (· = wd.heap.size) y3 (Chg.refl _ _) (fun _ => rfl)) (fun e => by omega)
      refine wpAnyH_ready (rs := [13]) (by kernel_rfl) (by simp) ?_
      refine AllReadyH.cons rfl (fun K hK => ?_) AllReadyH.nil
      rw [if_pos (by rfl)]
      try simp only [List.getElem_toArray, List.getElem_cons_succ, List.getElem_cons_zero]
      refine wp_store_row (ty := 36) (xs := cellsS MB) rfl rfl (hrb1) rfl (by rw [cellsS_len HMBO.out]; rfl) (by rw [cellsS_len HMBO.out]; exact sizeSc) (cellsS_one MB) ?_
      intro z2 hr_z2 hc_z2 hs_z2
      refine hK.out _ _ (hc_z2 none_ w3 hz1 (fun h => by omega)) (fun _ => ?_)
      clear hK K
      try simp only [Act.put]
      have hra2 := hr_z1.chg (hc_z2 (· = y0.heap.size) z1 (Chg.refl _ _) (fun _ => rfl)) (fun e => by omega)
      refine wpAnyH_done (by kernel_rfl) ?_ _
      exact ⟨rfl, wd.heap.size, y0.heap.size, rfl, hra2, hr_z2, by omega, by omega, hc_z2 none_ w3 hz1 (fun h => by omega)⟩
  · rw [if_pos (by rfl)]
    try simp only [List.getElem_toArray, List.getElem_cons_succ, List.getElem_cons_zero]
    refine wp_alloc_row rfl zeroS zeroSc ?_
    intro y0 hr0 hs0 hz0
    clear hz0
    have hg0 : Chg none_ w3 y0 := (hch0).trans hs0
    have hb0 := (hch0).size
    refine hK.out _ _ (hg0) (fun _ => ?_)
    clear hK K
    try simp only [Act.put, List.setIfInBounds_toArray, List.set_cons_zero, List.set_cons_succ]
    refine wpAnyH_ready (rs := [4, 10]) (by kernel_rfl) (by simp) ?_
    refine AllReadyH.cons rfl (fun K hK => ?_) (AllReadyH.cons rfl (fun K hK => ?_) AllReadyH.nil)
    · rw [if_pos (by rfl)]
      try simp only [List.getElem_toArray, List.getElem_cons_succ, List.getElem_cons_zero]
      go_simp
      refine (HUA.out _ hg0).mono ?_
      rintro e y1 ⟨rfl, hs1⟩
      have hg1 : Chg none_ w3 y1 := (hg0).trans hs1
      refine hK.out _ _ (hg1) (fun _ => ?_)
      clear hK K
      try simp only [Act.put, List.setIfInBounds_toArray, List.set_cons_zero, List.set_cons_succ, List.getElem_toArray, List.getElem_cons_succ, List.getElem_cons_zero]
      refine wpAnyH_ready (rs := [9, 10]) (by kernel_rfl) (by simp) ?_
      refine AllReadyH.cons rfl (fun K hK => ?_) (AllReadyH.cons rfl (fun K hK => ?_) AllReadyH.nil)
      · rw [if_pos (by rfl)]
        try simp only [List.getElem_toArray, List.getElem_cons_succ, List.getElem_cons_zero]
        go_simp
        refine (HUB.out _ hg1).mono ?_
        rintro e y2 ⟨rfl, hs2⟩
        have hg2 : Chg none_ w3 y2 := (hg1).trans hs2
        refine hK.out _ _ (hg2) (fun _ => ?_)
        clear hK K
        try simp only [Act.put, List.setIfInBounds_toArray, List.set_cons_zero, List.set_cons_succ, List.getElem_toArray, List.getElem_cons_succ, List.getElem_cons_zero]
        refine wpAnyH_ready (rs := [10]) (by kernel_rfl) (by simp) ?_
        refine AllReadyH.cons rfl (fun K hK => ?_) AllReadyH.nil
        rw [if_pos (by rfl)]
        try simp only [List.getElem_toArray, List.getElem_cons_succ, List.getElem_cons_zero]
        refine wp_alloc_row rfl zeroS zeroSc ?_
        intro y3 hr3 hs3 hz3
        clear hz3
        have hg3 : Chg none_ w3 y3 := (hg2).trans hs3
        have hb3 := (hg2).size
        have hne := ((hr0.chg hs1 (fun h => h)).chg hs2 (fun h => h)).lt
        refine hK.out _ _ (hg3) (fun _ => ?_)
        clear hK K
        try simp only [Act.put, List.setIfInBounds_toArray, List.set_cons_zero, List.set_cons_succ]
        have hra := hr3
        have hrb := (((hr0.chg hs1 (fun h => h)).chg hs2 (fun h => h)).chg hs3 (fun h => h))
        refine wpAnyH_ready (rs := [12]) (by kernel_rfl) (by simp) ?_
        refine AllReadyH.cons rfl (fun K hK => ?_) AllReadyH.nil
        rw [if_pos (by rfl)]
        try simp only [List.getElem_toArray, List.getElem_cons_succ, List.getElem_cons_zero]
        refine wp_store_row (ty := 36) (xs := cellsS MA) rfl rfl (hra) rfl (by rw [cellsS_len HMAO.out]; rfl) (by rw [cellsS_len HMAO.out]; exact sizeSc) (cellsS_one MA) ?_
        intro z1 hr_z1 hc_z1 hs_z1
        refine hK.out _ _ (hc_z1 none_ w3 (hg3) (fun h => by omega)) (fun _ => ?_)
        clear hK K
        try simp only [Act.put]
        have hz1 := hc_z1 none_ w3 (hg3) (fun h => by omega)
        have hrb1 := hrb.chg (hc_z1 (· = y2.heap.size) y3 (Chg.refl _ _) (fun _ => rfl)) (fun e => by omega)
        refine wpAnyH_ready (rs := [13]) (by kernel_rfl) (by simp) ?_
        refine AllReadyH.cons rfl (fun K hK => ?_) AllReadyH.nil
        rw [if_pos (by rfl)]
        try simp only [List.getElem_toArray, List.getElem_cons_succ, List.getElem_cons_zero]
        refine wp_store_row (ty := 36) (xs := cellsS MB) rfl rfl (hrb1) rfl (by rw [cellsS_len HMBO.out]; rfl) (by rw [cellsS_len HMBO.out]; exact sizeSc) (cellsS_one MB) ?_
        intro z2 hr_z2 hc_z2 hs_z2
        refine hK.out _ _ (hc_z2 none_ w3 hz1 (fun h => by omega)) (fun _ => ?_)
        clear hK K
        try simp only [Act.put]
        have hra2 := hr_z1.chg (hc_z2 (· = wd.heap.size) z1 (Chg.refl _ _) (fun _ => rfl)) (fun e => by omega)
        refine wpAnyH_done (by kernel_rfl) ?_ _
        exact ⟨rfl, y2.heap.size, wd.heap.size, rfl, hra2, hr_z2, by omega, by omega, hc_z2 none_ w3 hz1 (fun h => by omega)⟩
      · rw [if_pos (by rfl)]
        try simp only [List.getElem_toArray, List.getElem_cons_succ, List.getElem_cons_zero]
        refine wp_alloc_row rfl zeroS zeroSc ?_
        intro y2 hr2 hs2 hz2
        clear hz2
        have hg2 : Chg none_ w3 y2 := (hg1).trans hs2
        have hb2 := (hg1).size
        have hne := (hr0.chg hs1 (fun h => h)).lt
        refine hK.out _ _ (hg2) (fun _ => ?_)
        clear hK K
        try simp only [Act.put, List.setIfInBounds_toArray, List.set_cons_zero, List.set_cons_succ]
        refine wpAnyH_ready (rs := [9]) (by kernel_rfl) (by simp) ?_
        refine AllReadyH.cons rfl (fun K hK => ?_) AllReadyH.nil
        rw [if_pos (by rfl)]
        try simp only [List.getElem_toArray, List.getElem_cons_succ, List.getElem_cons_zero]
        go_simp
        refine (HUB.out _ hg2).mono ?_
        rintro e y3 ⟨rfl, hs3⟩
        have hg3 : Chg none_ w3 y3 := (hg2).trans hs3
        refine hK.out _ _ (hg3) (fun _ => ?_)
        clear hK K
        try simp only [Act.put, List.setIfInBounds_toArray, List.set_cons_zero, List.set_cons_succ, List.getElem_toArray, List.getElem_cons_succ, List.getElem_cons_zero]
        have hra := (hr2.chg hs3 (fun h => h))
        have hrb := (((hr0.chg hs1 (fun h => h)).chg hs2 (fun h => h)).chg hs3 (fun h => h))
        refine wpAnyH_ready (rs := [12]) (by kernel_rfl) (by simp) ?_
        refine AllReadyH.cons rfl (fun K hK => ?_) AllReadyH.nil
        rw [if_pos (by rfl)]
        try simp only [List.getElem_toArray, List.getElem_cons_succ, List.getElem_cons_zero]
        refine wp_store_row (ty := 36) (xs := cellsS MA) rfl rfl (hra) rfl (by rw [cellsS_len HMAO.out]; rfl) (by rw [cellsS_len HMAO.out]; exact sizeSc) (cellsS_one MA) ?_
        intro z1 hr_z1 hc_z1 hs_z1
        refine hK.out _ _ (hc_z1 none_ w3 (hg3) (fun h => by omega)) (fun _ => ?_)
        clear hK K
        try simp only [Act.put]
        have hz1 := hc_z1 none_ w3 (hg3) (fun h => by omega)
        have hrb1 := hrb.chg (hc_z1 (· = y1.heap.size) y3 (Chg.refl _ _) (fun _ => rfl)) (fun e => by omega)
        refine wpAnyH_ready (rs := [13]) (by kernel_rfl) (by simp) ?_
        refine AllReadyH.cons rfl (fun K hK => ?_) AllReadyH.nil
        rw [if_pos (by rfl)]
        try simp only [List.getElem_toArray, List.getElem_cons_succ, List.getElem_cons_zero]
        refine wp_store_row (ty := 36) (xs := cellsS MB) rfl rfl (hrb1) rfl (by rw [cellsS_len HMBO.out]; rfl) (by rw [cellsS_len HMBO.out]; exact sizeSc) (cellsS_one MB) ?_
        intro z2 hr_z2 hc_z2 hs_z2
        refine hK.out _ _ (hc_z2 none_ w3 hz1 (fun h => by omega)) (fun _ => ?_)
        clear hK K
        try simp only [Act.put]
        have hra2 := hr_z1.chg (hc_z2 (· = wd.heap.size) z1 (Chg.refl _ _) (fun _ => rfl)) (fun e => by omega)
        refine wpAnyH_done (by kernel_rfl) ?_ _
        exact ⟨rfl, y1.heap.size, wd.heap.size, rfl, hra2, hr_z2, by omega, by omega, hc_z2 none_ w3 hz1 (fun h => by omega)⟩
    · rw [if_pos (by rfl)]
      try simp only [List.getElem_toArray, List.getElem_cons_succ, List.getElem_cons_zero]
      refine wp_alloc_row rfl zeroS zeroSc ?_
      intro y1 hr1 hs1 hz1
      clear hz1
      have hg1 : Chg none_ w3 y1 := (hg0).trans hs1
      have hb1 := (hg0).size
      have hne := hr0.lt
      refine hK.out _ _ (hg1) (fun _ => ?_)
      clear hK K
      try simp only [Act.put, List.setIfInBounds_toArray, List.set_cons_zero, List.set_cons_succ]
      refine wpAnyH_ready (rs := [4]) (by kernel_rfl) (by simp) ?_
      refine AllReadyH.cons rfl (fun K hK => ?_) AllReadyH.nil
      rw [if_pos (by rfl)]
      try simp only [List.getElem_toArray, List.getElem_cons_succ, List.getElem_cons_zero]
      go_simp
      refine (HUA.out _ hg1).mono ?_
      rintro e y2 ⟨rfl, hs2⟩
      have hg2 : Chg none_ w3 y2 := (hg1).trans hs2
      refine hK.out _ _ (hg2) (fun _ => ?_)
      clear hK K
      try simp only [Act.put, List.setIfInBounds_toArray, List.set_cons_zero, List.set_cons_succ, List.getElem_toArray, List.getElem_cons_succ, List.getElem_cons_zero]
      refine wpAnyH_ready (rs := [9]) (by kernel_rfl) (by simp) ?_
      refine AllReadyH.cons rfl (fun K hK => ?_) AllReadyH.nil
      rw [if_pos (by rfl)]
      try simp only [List.getElem_toArray, List.getElem_cons_succ, List.getElem_cons_zero]
      go_simp
      refine (HUB.out _ hg2).mono ?_
      rintro e y3 ⟨rfl, hs3⟩
      have hg3 : Chg none_ w3 y3 := (hg2).trans hs3
      refine hK.out _ _ (hg3) (fun _ => ?_)
      clear hK K
      try simp only [Act.put, List.setIfInBounds_toArray, List.set_cons_zero, List.set_cons_succ, List.getElem_toArray, List.getElem_cons_succ, List.getElem_cons_zero]
      have hra := ((hr1.chg hs2 (fun h => h)).chg hs3 (fun h => h))
      have hrb := (((hr0.chg hs1 (fun h => h)).chg hs2 (fun h => h)).chg hs3 (fun h => h))
      refine wpAnyH_ready (rs := [12]) (by kernel_rfl) (by simp) ?_
      refine AllReadyH.cons rfl (fun K hK => ?_) AllReadyH.nil
      rw [if_pos (by rfl)]
      try simp only [List.getElem_toArray, List.getElem_cons_succ, List.getElem_cons_zero]
      refine wp_store_row (ty := 36) (xs := cellsS MA) rfl rfl (hra) rfl (by rw [cellsS_len HMAO.out]; rfl) (by rw [cellsS_len HMAO.out]; exact sizeSc) (cellsS_one MA) ?_
      intro z1 hr_z1 hc_z1 hs_z1
      refine hK.out _ _ (hc_z1 none_ w3 (hg3) (fun h => by omega)) (fun _ => ?_)
      clear hK K
      try simp only [Act.put]
      have hz1 := hc_z1 none_ w3 (hg3) (fun h => by omega)
      have hrb1 := hrb.chg (hc_z1 (· = y0.heap.size) y3 (Chg.refl _ _) (fun _ => rfl)) (fun e => by omega)
      refine wpAnyH_ready (rs := [13]) (by kernel_rfl) (by simp) ?_
      refine AllReadyH.cons rfl (fun K hK => ?_) AllReadyH.nil
      rw [if_pos (by rfl)]
      try simp only [List.getElem_toArray, List.getElem_cons_succ, List.getElem_cons_zero]
      refine wp_store_row (ty := 36) (xs := cellsS MB) rfl rfl (hrb1) rfl (by rw [cellsS_len HMBO.out]; rfl) (by rw [cellsS_len HMBO.out]; exact sizeSc) (cellsS_one MB) ?_
      intro z2 hr_z2 hc_z2 hs_z2
      refine hK.out _ _ (hc_z2 none_ w3 hz1 (fun h => by omega)) (fun _ => ?_)
      clear hK K
      try simp only [Act.put]
      have hra2 := hr_z1.chg (hc_z2 (· = wd.heap.size) z1 (Chg.refl _ _) (fun _ => rfl)) (fun e => by omega)
      refine wpAnyH_done (by kernel_rfl) ?_ _
      exact ⟨rfl, y0.heap.size, wd.heap.size, rfl, hra2, hr_z2, by omega, by omega, hc_z2 none_ w3 hz1 (fun h => by omega)⟩

end Go.Proofs.YtfpflhcabjcamaaDoor
