/- Layer 9 (gcm): a polynomial times another one, by its shifts, the program's. -/
import Derived.Test.YtfpflhcabjcamaaDoorV9Shifts
import Derived.Test.YtfpflhcabjcamaaDoorV9Powers
import Derived.Test.YtfpflhcabjcamaaDoorK0
namespace Go.Proofs.YtfpflhcabjcamaaDoor
open Go.RowKit Go.Shelf
attribute [local go_sem] Oper.semAt_some

theorem row_from {W W' : World} {row : Option Nat} {g : Nat} {e : TypeId} {cs : List Value} (h : Row W g e cs) (hg : W.grownBy W' row) (hr : ∀ r, row = some r → ∃ o : Obj, W.heap[r]? = some o ∧ o.isCells = false) : Row W' g e cs :=
  (hg.block g h.lt (fun e => by obtain ⟨o, ho, hc⟩ := hr g e.symm; unfold Row at h; rw [h] at ho; cases ho; cases hc)).trans h
theorem keepsOthers_chg {W W' : World} {g : Nat} {e : TypeId} {cs : List Value} (hc : Chg (· = g) W W') (h : Row W g e cs) : KeepsOthers W W' :=
  ⟨hc.size, fun k o hk ho => (hc.block k (Array.getElem?_eq_some_iff.1 hk).1 (fun e => by subst e; unfold Row at h; rw [h] at hk; cases hk; cases ho)).trans hk⟩

set_option maxRecDepth 100000 in
set_option maxHeartbeats 1000000 in
theorem powers_any (n : Nat) (w : World) : Calls Tryd.prog 61 #[.agg (pw n).toArray] w fun e w' => e = .returned (.func (.func 67) #[] #[.pointer (some ⟨w.heap.size, 0, none⟩)]) ∧ Row w' w.heap.size 86 (pw n) ∧ Chg none_ w w' := by
  go_enter Tryd.func61, Tryd.ntmps61
  go_wp2_with ((with_reducible show wpList _ _ _ (⟨_, .box 86 _, _, _, _, _⟩ :: _) _ _); refine wpList_box_Row rfl rfl (pw n) rfl ?_; intro w1 hr1 hc1 hs1; have HR1 := Lib.hid hr1; have HC1 := Lib.hid hc1; clear hr1 hc1 hs1)
  go_ret
  exact ⟨rfl, HR1.out, HC1.out⟩

theorem powers_stops (n g n0 : Nat) (w : World) (hr : Row w g 86 (pw n)) : SeqStopsK Fence.wide 1 Tryd.prog 67 #[.pointer (some ⟨g, 0, none⟩)] encP (Below n0) (fun xs => xs.map (·.1) = upto n 128) (fun _ => True) 128 w := fun l J Jx W hW _ _ hY h0 =>
  powers1_in n l g n0 J Jx hY W ((hW.block g hr.lt).trans hr) h0

set_option maxRecDepth 100000 in
set_option maxHeartbeats 4000000 in
theorem times_any (n p g : Nat) (w : World) (hg : Row w g 116 (shC n 128)) : Calls Tryd.prog 51 #[.pointer (some ⟨g, 0, none⟩), .agg (pw p).toArray] w fun e w' => e = .returned (.agg (pw (gM n p)).toArray) ∧ Chg none_ w w' := by
  have HG := Lib.hid hg
  have HGL := Lib.hid hg.lt
  clear hg
  refine (callsIn_wide (n := 2)).1 ?_
  refine callsIn_of_wp_marks Tryd.func51 rfl trivial ?_ rfl
  simp only [Tryd.ntmps51, List.size_toArray, List.length_cons, List.length_nil, Nat.reduceAdd, Nat.reduceSub, Array.replicate_succ, Array.replicate_zero, List.push_toArray, List.append_toArray, List.nil_append, List.cons_append]
  have HPW := Lib.hid (fun w => powers_any p w)
  unfold pw at HPW
  unfold pw
  gi_wp2_with (refine ⟨trivial, ?_⟩; gi_at_call 61; refine (callsIn_wide.2 (HPW.out _)).mono ?_; rintro e w5 ⟨rfl, hr5, hc5⟩)
  have hr1 : Row w5 w.heap.size 99 [.pointer (some ⟨g, 0, none⟩)] := ((((Row.new w _ [.pointer (some ⟨g, 0, none⟩)]).alloc _).alloc _).alloc _).chg hc5 (fun h => h)
  have hr3 : Row w5 (w.heap.size + 1 + 1) 86 (w2 0 0) := ((Row.newAt _ _ (w2 0 0) _ (by simp)).alloc _).chg hc5 (fun h => h)
  have hr4 : Row w5 (w.heap.size + 1 + 1 + 1) 86 (w2 0 0) := (Row.newAt _ _ (w2 0 0) _ (by simp)).chg hc5 (fun h => h)
  have hcw : Chg none_ w w5 := ((((((Chg.refl none_ w).alloc _).alloc _).alloc _).alloc _)).trans hc5
  have hg5 : Row w5 g 116 (shC n 128) := HG.out.chg hcw (fun h => h)
  simp only [World.size_alloc] at hr5
  replace hr5 : Row w5 (w.heap.size + 1 + 1 + 1 + 1) 86 (pw p) := hr5
  have hsz : w.heap.size + 1 + 1 + 1 + 1 < w5.heap.size := hr5.lt
  have HPZ : Hid (pw 0 = w2 0 0) := Lib.hid (by rw [pw_w2, fW_zero, lW_zero])
  have hB : Below w.heap.size w w5 := hcw.below (Nat.le_refl _) (fun _ h => h.elim)
  clear hc5 HPW
  refine wpIn_rangeFunc_ownF (F := Fence.wide) rfl (by decide) (gf := 67) (lb := #[.pointer (some ⟨w.heap.size + 1 + 1 + 1 + 1, 0, none⟩)]) rfl trivial (enters_of Tryd.func67 (by kernel_rfl) rfl)
    (powers_stops p (w.heap.size + 1 + 1 + 1 + 1) w.heap.size w5 hr5) belowK_t (belowK_b (by omega)) (Below.refl _ _) (fun _ => rfl)
    (fun pre W => (Row W (w.heap.size + 1 + 1 + 1) 86 (pw (sumUp n (pre.map (·.1)))) ∧ Row W (w.heap.size + 1 + 1) 86 (w2 0 0) ∧ Row W w.heap.size 99 [.pointer (some ⟨g, 0, none⟩)] ∧ Row W g 116 (shC n 128)) ∧ Chg none_ w W)
    (fun _ _ _ => False)
    (OwnFrom.and (Own.from (fun s A B row hs hg hr => ⟨row_from hs.1 hg hr, row_from hs.2.1 hg hr, row_from hs.2.2.1 hg hr, row_from hs.2.2.2 hg hr⟩) _) (fun s A B row hs hg hr => hs.grown hg (fun k e hk => by have := (hr k e).1; omega)))
    (fun _ _ _ _ _ hs _ _ => hs)
    ⟨⟨by rw [show sumUp n (List.map (·.1) ([] : List Pow)) = 0 from rfl, HPZ.out]; exact hr4, hr3, hr1, hg5⟩, hcw⟩
    (fun x => { tmps := #[.pointer (some ⟨g, 0, none⟩), .agg #[.int .u64 (fW p : Nat), .int .u64 (lW p : Nat)], .pointer (some ⟨w.heap.size, 0, none⟩), .pointer (some ⟨w.heap.size + 1, 0, none⟩), .pointer (some ⟨w.heap.size + 1 + 1, 0, none⟩), .pointer (some ⟨w.heap.size + 1 + 1 + 1, 0, none⟩), .int .i64 (x.1 : Int), .agg #[.int .u64 (fW p : Nat), .int .u64 (lW p : Nat)], .func (.func 67) #[] #[.pointer (some ⟨w.heap.size + 1 + 1 + 1 + 1, 0, none⟩)], .int .i64 (x.1 : Int), undef, undef, undef, undef, undef, undef, undef, undef], defers := [] }) ?assign ?body ?done ?stop
  case assign =>
    intro l x W K hK
    simp only [encP]
    gi_wp2
    exact hK
  case body =>
    rintro l pre x W ⟨⟨hP, hR, hS, hG⟩, hC⟩ _
    have HRS : Hid (∀ w', Chg (· = w.heap.size + 1 + 1 + 1) W w' → Row w' w.heap.size 99 [.pointer (some ⟨g, 0, none⟩)]) := Lib.hid (fun w' h => hS.chg h (by omega))
    have HRG : Hid (∀ w', Chg (· = w.heap.size + 1 + 1 + 1) W w' → Row w' g 116 (shC n 128)) := Lib.hid (fun w' h => hG.chg h (by have := HGL.out; omega))
    have HSC : Hid (∀ j v, (pw (gP n x.1))[j]? = some v → (shC n 128)[x.1 * 2 + j]? = some v) := Lib.hid (by rw [Nat.mul_comm]; exact shC_at n x.1 x.2)
    have HSN : Hid (sumUp n ((pre ++ [x]).map (·.1)) = sumUp n (pre.map (·.1)) ^^^ gP n x.1) := Lib.hid (by rw [List.map_append]; exact sumUp_snoc n (pre.map (·.1)) x.1)
    have hx := x.2
    obtain ⟨x, hx2⟩ := x
    simp only at HSC HSN hx ⊢
    generalize sumUp n (pre.map (·.1)) = sm at hP HSN
    generalize gP n x = y at HSC HSN
    have HPP := Lib.hid hP
    have HRR := Lib.hid hR
    have HSS := Lib.hid hS
    have HGG := Lib.hid hG
    have HCC := Lib.hid hC
    clear hP hR hS hG hC
    have q0 : (0 : Int) ≤ (x : Int) := by omega
    have q1 : (x : Int) < 128 := by omega
    gi_wp2
    refine wpIn_region_round (S := fun w' => Chg (· = w.heap.size + 1 + 1 + 1) W w') (by kernel_rfl) (by kernel_rfl) (fun ⟨_, _, h⟩ => h) ((Chg.refl (· = w.heap.size + 1 + 1 + 1) W).drew) (fun hch0 => ?_)
    refine wpAnyH_take (i := 1) (v := .pointer (some ⟨g, 0, none⟩)) rfl (by kernel_rfl) (by kernel_rfl) (by kernel_rfl) (by first | exact fun _ _ _ h => h | exact fun _ _ _ h => nomatch h.1) (Or.inl ⟨by rfl, fun w_ hw_ => by have c := (HRS.out w_ hw_).cell 0; simp only [List.getElem?_cons_zero] at c; go_simp⟩) hch0 ?_
    refine wpAnyH_take (i := 2) (v := .int .i64 (x : Int)) rfl (by kernel_rfl) (by kernel_rfl) (by kernel_rfl) (by first | exact fun _ _ _ h => h | exact fun _ _ _ h => nomatch h.1) (Or.inl ⟨by rfl, fun w_ hw_ => by go_simp⟩) hch0 ?_
    try simp only [Act.put, List.setIfInBounds_toArray, List.set_cons_zero, List.set_cons_succ, List.getElem_toArray, List.getElem_cons_succ, List.getElem_cons_zero]
    refine wpAnyH_take (i := 3) (v := .pointer (some ⟨g, 0, none⟩)) rfl (by kernel_rfl) (by kernel_rfl) (by kernel_rfl) (by first | exact fun _ _ _ h => h | exact fun _ _ _ h => nomatch h.1) (Or.inl ⟨by rfl, fun w_ hw_ => by go_simp⟩) hch0 ?_
    refine wpAnyH_take (i := 4) (v := .pointer (some ⟨g, x * 2, none⟩)) rfl (by kernel_rfl) (by kernel_rfl) (by kernel_rfl) (by first | exact fun _ _ _ h => h | exact fun _ _ _ h => nomatch h.1) (Or.inl ⟨by rfl, fun w_ hw_ => by go_simp⟩) hch0 ?_
    try simp only [Act.put, List.setIfInBounds_toArray, List.set_cons_zero, List.set_cons_succ, List.getElem_toArray, List.getElem_cons_succ, List.getElem_cons_zero]
    refine wpAnyH_take (i := 5) (v := .agg (pw (y)).toArray) rfl (by kernel_rfl) (by kernel_rfl) (by kernel_rfl) (by first | exact fun _ _ _ h => h | exact fun _ _ _ h => nomatch h.1) (yieldsIf_load_mid (by rfl) 86 _ rfl g (x * 2) rfl (pw (y)) _ (fun w' hw' => (HRG.out w' hw').rangeMid (x * 2) _ HSC.out) Tryd.underlying86 rfl size45) hch0 ?_
    refine wpAnyH_ready (rs := [0]) (by kernel_rfl) (by simp) ?_
    refine AllReadyH.cons rfl (fun K hK => ?_) AllReadyH.nil
    rw [if_pos (by rfl)]
    try simp only [Act.put, List.setIfInBounds_toArray, List.set_cons_zero, List.set_cons_succ, List.getElem_toArray, List.getElem_cons_succ, List.getElem_cons_zero]
    refine wp_load_row (ty := 86) rfl rfl (HPP.out.drew) Tryd.underlying86 rfl (size45) ?_
    refine hK.out _ _ (hch0) (fun _ => ?_)
    clear hK K
    try simp only [Act.put, List.setIfInBounds_toArray, List.set_cons_zero, List.set_cons_succ]
    refine wpAnyH_ready (rs := [6]) (by kernel_rfl) (by simp) ?_
    refine AllReadyH.cons rfl (fun K hK => ?_) AllReadyH.nil
    rw [if_pos (by rfl)]
    try simp only [List.getElem_toArray, List.getElem_cons_succ, List.getElem_cons_zero]
    go_simp
    refine (plus_any (sm) (y) _).mono ?_
    rintro e w6 ⟨rfl, hc6⟩
    have hch6 : Chg (· = w.heap.size + 1 + 1 + 1) W w6 := hch0.trans (hc6.mono (fun _ _ h => h.elim))
    have hP6 := HPP.out.drew.chg hc6 (fun h => h)
    refine hK.out _ _ (hch6) (fun _ => ?_)
    clear hK K
    try simp only [Act.put, List.setIfInBounds_toArray, List.set_cons_zero, List.set_cons_succ, List.getElem_toArray, List.getElem_cons_succ, List.getElem_cons_zero]
    refine wpAnyH_ready (rs := [7]) (by kernel_rfl) (by simp) ?_
    refine AllReadyH.cons rfl (fun K hK => ?_) AllReadyH.nil
    rw [if_pos (by rfl)]
    try simp only [List.getElem_toArray, List.getElem_cons_succ, List.getElem_cons_zero]
    refine wp_store_row (ty := 86) (xs := pw (sm ^^^ y)) rfl rfl (hP6) rfl (rfl) (size45) (rfl) ?_
    intro w7 hr_w7 hc_w7 hs_w7
    refine hK.out _ _ (hc_w7 _ W hch6 (fun _ => rfl)) (fun _ => ?_)
    clear hK K
    try simp only [Act.put]
    have hch7 := hc_w7 _ W hch6 (fun _ => rfl)
    refine wpAnyH_done (by kernel_rfl) ?_ _
    have hBB : Below w.heap.size W w7 := hch7.below HCC.out.size (fun b e => by omega)
    have hKO := keepsOthers_chg hch7 HPP.out
    have hfin : Row w7 (w.heap.size + 1 + 1 + 1) 86 (pw (sumUp n (List.map (fun z : Pow => z.1) (pre ++ [(⟨x, hx2⟩ : Pow)])))) := by rw [HSN.out]; exact hr_w7
    exact ⟨hKO, hBB, ⟨hfin, HRR.out.chg hch7 (by omega), HSS.out.chg hch7 (by omega), HGG.out.chg hch7 (by have := HGL.out; omega)⟩, HCC.out.andThen hch7 (fun b h e => by omega)⟩
  case done =>
    rintro D ys W hD hS ⟨⟨hP, hR, _, _⟩, hC⟩ hK
    have hsum : sumUp n (ys.map (·.1)) = gM n p := by rw [hS]; exact sumUp_upto n p 128
    rw [hsum] at hP
    have c0 : W.cell? ⟨w.heap.size + 1 + 1 + 1, 0, none⟩ = some (.int .u64 (fW (gM n p) : Nat)) := hP.cell 0
    have c1 : W.cell? ⟨w.heap.size + 1 + 1 + 1, 1, none⟩ = some (.int .u64 (lW (gM n p) : Nat)) := hP.cell 1
    have d0 : W.cell? ⟨w.heap.size + 1 + 1, 0, none⟩ = some (.int .u64 ((0 : Nat) : Int)) := hR.cell 0
    have d1 : W.cell? ⟨w.heap.size + 1 + 1, 1, none⟩ = some (.int .u64 ((0 : Nat) : Int)) := hR.cell 1
    have g0 := hR.frozen 0
    have g1 := hR.frozen 1
    gi_wp2
    have hK' := ((KeepsOthers.setCell W ⟨w.heap.size + 1 + 1, 0, none⟩ (.int .u64 (fW (gM n p) : Nat))).trans (KeepsOthers.setCell _ ⟨w.heap.size + 1 + 1, 1, none⟩ (.int .u64 (lW (gM n p) : Nat)))).same D _ hK rfl
    have hfin := row_from ((hR.set 0 (.int .u64 (fW (gM n p) : Nat))).set 1 (.int .u64 (lW (gM n p) : Nat))) (grownBy_putObj' _ D (.deferred none)) (fun r e => by cases e; exact ⟨_, hK', rfl⟩)
    refine ⟨by simp, .inl ⟨_, _, rfl, run_takeDeferred hK', ?_⟩⟩
    refine ⟨_, results_cell_row rfl _ _ _ _ (w2 (fW (gM n p)) (lW (gM n p))).toArray (0, 0) _ rfl hfin Tryd.underlying86 rfl size45, rfl, ?_⟩
    exact ((hC.setCell (p := ⟨w.heap.size + 1 + 1, 0, none⟩) (fun h => by simp only at h; omega) _).setCell (p := ⟨w.heap.size + 1 + 1, 1, none⟩) (fun h => by simp only at h; omega) _).grown (grownBy_putObj' _ D (.deferred none)) (fun k e hk => by cases e; omega)
  case stop =>
    rintro D c pre W _ _ h _
    exact h.elim
end Go.Proofs.YtfpflhcabjcamaaDoor
