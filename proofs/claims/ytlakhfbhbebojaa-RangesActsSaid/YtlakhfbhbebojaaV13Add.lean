/- Layer 13 (ranges): Add. -/
import Derived.Test.YtlakhfbhbebojaaV13Forget
namespace Go.Proofs.Ytlakhfbhbebojaa
open Go.RowKit Go.Shelf Go.Sort

theorem cell_setCell_far {w : World} {b b' o o' : Nat} (v : Value) (h : b ≠ b') : (w.setCell ⟨b', o', none⟩ v).cell? ⟨b, o, none⟩ = w.cell? ⟨b, o, none⟩ :=
  World.cell?_of_block (Below.heap_setCell w ⟨b', o', none⟩ v b h)

theorem Add_nil (n : Int) (w : World) :
    Calls Try.prog 9 #[.pointer none, .int .u64 n] w fun e w' => e = .returned (.bool false) ∧ Chg none_ w w' := by
  go_enter Try.func9, Try.ntmps9
  go_wp2
  go_ret
  exact ⟨rfl, (Chg.refl _ _).alloc _⟩

set_option maxRecDepth 100000 in
set_option maxHeartbeats 1000000 in
/-- What may not be added. -/
theorem Add_not (g B y n : Nat) (l : List (Nat × Nat)) (w : World) (h : SetG w B g l y 16) (hn : newB l y n = false) :
    Calls Try.prog 9 #[.pointer (some ⟨g, 0, none⟩), .int .u64 (n : Int)] w fun e w' => e = .returned (.bool false) ∧ Chg none_ w w' := by
  have HO : Hid (∀ w1, Chg none_ w w1 → Calls Try.prog 11 #[.pointer (some ⟨g, 0, none⟩), .int .u64 (n : Int)] w1 fun e w' => e = .returned (.bool (decide (n < y))) ∧ w' = w1) := Lib.hid (fun w1 hc => Old_any g B y l n w1 (h.1.quiet hc))
  have HH : Hid (∀ w1, Chg none_ w w1 → Calls Try.prog 10 #[.pointer (some ⟨g, 0, none⟩), .int .u64 (n : Int)] w1 fun e w' => e = .returned (.bool (hasL l n)) ∧ Chg none_ w1 w') := Lib.hid (fun w1 hc => Has_any g B y 16 n l w1 (h.quiet hc) (by decide))
  have hgw := h.1.lt
  clear h
  by_cases h1 : MX < n
  · have d1 : (4611686018427387903 : Int) < (n : Int) := by unfold MX at h1; omega
    have d2 : decide ((4611686018427387903 : Int) < (n : Int)) = true := by simpa using d1
    clear h1 hn HO HH
    go_enter Try.func9, Try.ntmps9
    go_wp2
    go_ret
    exact ⟨rfl, (Chg.refl _ _).alloc _⟩
  · have d1 : ¬ (4611686018427387903 : Int) < (n : Int) := by unfold MX at h1; omega
    have d2 : decide ((4611686018427387903 : Int) < (n : Int)) = false := by simpa using d1
    by_cases h2 : n < y
    · have e2 : decide (n < y) = true := by simpa using h2
      rw [e2] at HO
      clear h1 hn HH h2
      go_enter Try.func9, Try.ntmps9
      go_wp2_with (go_at_call 11; refine (HO.out _ ((Chg.refl none_ w).alloc _)).mono ?_; rintro e w9 ⟨rfl, rfl⟩)
      go_ret
      exact ⟨rfl, (Chg.refl _ _).alloc _⟩
    · have e2 : decide (n < y) = false := by simpa using h2
      rw [e2] at HO
      have e3 : hasL l n = true := by
        have hm : decide (MX < n) = false := by simpa using h1
        unfold newB at hn
        rw [e2, hm] at hn
        simpa using hn
      rw [e3] at HH
      clear h1 hn h2
      go_enter Try.func9, Try.ntmps9
      go_wp2_with (first | (go_at_call 11; refine (HO.out _ ((Chg.refl none_ w).alloc _)).mono ?_; rintro e w9 ⟨rfl, rfl⟩) | (go_at_call 10; refine (HH.out _ ((Chg.refl none_ w).alloc _)).mono ?_; rintro e w9 ⟨rfl, hc⟩; have HC := Lib.hid (((Chg.refl none_ w).alloc _).trans hc); clear hc))
      go_ret
      exact ⟨rfl, HC.out⟩

set_option maxRecDepth 100000 in
set_option maxHeartbeats 1000000 in
/-- What may be added. -/
theorem Add_yes (g B y n : Nat) (l : List (Nat × Nat)) (w : World) (h : SetG w B g l y 16) (hn : newB l y n = true) :
    Calls Try.prog 9 #[.pointer (some ⟨g, 0, none⟩), .int .u64 (n : Int)] w fun e w' => e = .returned (.bool true) ∧ SetG w' B g (addS l y n).1 (addS l y n).2 16 ∧ Chg (· = g) w w' := by
  obtain ⟨hn1, hn2, hn3⟩ := (newB_iff h.2).1 hn
  have hlen := h.2.len
  have HO : Hid (∀ w1, Chg none_ w w1 → Calls Try.prog 11 #[.pointer (some ⟨g, 0, none⟩), .int .u64 (n : Int)] w1 fun e w' => e = .returned (.bool false) ∧ w' = w1) := Lib.hid (fun w1 hc => by
    have := Old_any g B y l n w1 (h.1.quiet hc)
    rwa [show decide (n < y) = false by simpa using hn2] at this)
  have HA : Hid (∀ w1, Chg none_ w w1 → Calls Try.prog 10 #[.pointer (some ⟨g, 0, none⟩), .int .u64 (n : Int)] w1 fun e w' => e = .returned (.bool false) ∧ Chg none_ w1 w') := Lib.hid (fun w1 hc => by
    have := Has_any g B y 16 n l w1 (h.quiet hc) (by decide)
    rwa [show hasL l n = false by
      have : ¬ hasL l n = true := fun e => hn3 ((hasL_iff h.2.sep n).1 e)
      simpa using this] at this)
  have HF1 : Hid (∀ w1 pn, SetAt w1 B g l y → w1.cell? ⟨pn, 0, none⟩ = some (.int .u64 (n : Int)) → Calls Try.prog 21 #[.pointer (some ⟨g, 0, none⟩), .func (.func 22) #[] #[.pointer (some ⟨pn, 0, none⟩)]] w1 fun e w' => e = .returned (.int .i64 ((fst_ (loLe (n + 1)) l : Nat) : Int)) ∧ Chg none_ w1 w') := Lib.hid (fun w1 pn h1 h2 =>
    first_any 22 #[.pointer (some ⟨pn, 0, none⟩)] (loLe (n + 1)) l y B g w1 h1 (h.2.sep.loLe (n + 1)) (by omega) (says_add1 n pn l w1 h2 hn1))
  have HF2 : Hid (∀ w1 pn, SetAt w1 B g l y → w1.cell? ⟨pn, 0, none⟩ = some (.int .u64 (n : Int)) → Calls Try.prog 21 #[.pointer (some ⟨g, 0, none⟩), .func (.func 23) #[] #[.pointer (some ⟨pn, 0, none⟩)]] w1 fun e w' => e = .returned (.int .i64 ((fst_ (hiLt n) l : Nat) : Int)) ∧ Chg none_ w1 w') := Lib.hid (fun w1 pn h1 h2 =>
    first_any 23 #[.pointer (some ⟨pn, 0, none⟩)] (hiLt n) l y B g w1 h1 (h.2.sep.hiLt n) (by omega) (says_add2 n pn l w1 h2 h.2.lohi))
  have HH := Lib.hid h.1
  have hft : fst_ (loLe (n + 1)) l ≤ fst_ (hiLt n) l := fst_mono fun r hr h1 => by have := h.2.sep.2 r hr; simp [loLe, hiLt] at h1 ⊢; omega
  have htl := fst_le (hiLt n) l
  have HSP := Lib.hid (addS_spec h.2 hn1 hn2 hn3).1
  have HGD := Lib.hid (addL_good h.2 hn1 hn2 hn3)
  have HAL : Hid (∃ fr to_, fr = fst_ (loLe (n + 1)) l ∧ to_ = fst_ (hiLt n) l ∧ addL l n = l.take fr ++ [((l.take to_).drop fr).foldl join2 (n, n)] ++ l.drop to_) := Lib.hid ⟨_, _, rfl, rfl, rfl⟩
  have HAS : Hid (∀ r, (addL l n)[16]? = some r → addS l y n = forgetS (addL l n) y r.2) := Lib.hid (fun r hr => by unfold addS; rw [hr])
  have HAN : Hid ((addL l n)[16]? = none → addS l y n = (addL l n, y)) := Lib.hid (fun hr => by unfold addS; rw [hr])
  obtain ⟨fr, to_, e1, e2, e3⟩ := HAL.out
  rw [← e1] at HF1 hft
  rw [← e2] at HF2 hft htl
  clear e1 e2 HAL hn
  generalize addS l y n = fS at *
  generalize addL l n = l1 at *
  obtain ⟨M, hM⟩ : ∃ M, M = (l.take to_).drop fr := ⟨_, rfl⟩
  have hMl : M.length = to_ - fr := by rw [hM, List.length_drop, List.length_take]; omega
  rw [← hM] at e3
  have HE3 := Lib.hid e3
  obtain ⟨A, cap, hr0, hcap, _, hv0, hgB, hBw⟩ := h.1
  have HRW := Lib.hid hr0
  have HVM : Hid (View w (fun b => B ≤ b) (dropN A cap fr 2) (M.length * 2) (rcells M)) := Lib.hid (by
    rw [hMl]
    have := ((hv0.dropN (k := fr) hcap).take (k := (to_ - fr) * 2) (by omega))
    rw [← rcells_drop, ← rcells_take] at this
    rwa [hM, List.drop_take])
  have d1 : ¬ (4611686018427387903 : Int) < (n : Int) := by unfold MX at hn1; omega
  have d2 : decide ((4611686018427387903 : Int) < (n : Int)) = false := by simpa using d1
  have HTF : Hid (fr ≤ to_ ∧ to_ ≤ cap) := Lib.hid ⟨hft, by omega⟩
  have HRP : Hid (∀ w1 wh AM, Chg none_ w w1 → View w1 (fun _ => True) AM (1 * 2) (rcells [wh]) → Calls Try.prog 24 #[.pointer (some ⟨g, 0, none⟩), .int .i64 (fr : Int), .int .i64 (to_ : Int), .slice AM 1 1] w1 fun e w' => e = .returned (.tuple #[]) ∧ SetAt w' B g (l.take fr ++ [wh] ++ l.drop to_) y ∧ Chg (· = g) w1 w') := Lib.hid (fun w1 wh AM h1 h2 =>
    replace_any g B y fr to_ l [wh] AM 1 1 _ w1 (HH.out.quiet h1) hft htl (by omega) (by decide) h2 (by decide))
  clear h hn2 hn3 hr0 hv0 hM e3 hcap
  generalize hd : to_ - fr = d at *
  have HML := Lib.hid hMl
  clear hMl
  go_enter Try.func9, Try.ntmps9
  go_wp2_with (first | (go_at_call 11; refine (HO.out _ ((Chg.refl none_ w).alloc _)).mono ?_; rintro e w9 ⟨rfl, rfl⟩) | (go_at_call 10; refine (HA.out _ ((Chg.refl none_ w).alloc _)).mono ?_; rintro e w1 ⟨rfl, hc⟩; have HC1 := Lib.hid (((Chg.refl none_ w).alloc _).trans hc); have hn1 := ((hc.cell 0 (by show w.heap.size < (w.alloc _).heap.size; simp) (fun h => h)).trans (cell_new_sl w (.int .u64 (n : Int)) 26)); clear hc) | (go_at_call 21; (with_reducible show Calls _ _ #[_, .func (.func 22) _ _] _ _); refine (HF1.out _ _ (HH.out.quiet HC1.out) hn1).mono ?_; rintro e w2 ⟨rfl, hc⟩; have HC2 := Lib.hid (HC1.out.trans hc); have hn2 := (hc.cell 0 (World.block_lt_of_cell? _ _ hn1) (fun h => h)).trans hn1; clear hc hn1) | (go_at_call 21; (with_reducible show Calls _ _ #[_, .func (.func 23) _ _] _ _); refine (HF2.out _ _ (HH.out.quiet HC2.out) hn2).mono ?_; rintro e w3 ⟨rfl, hc⟩; have HC3 := Lib.hid (HC2.out.trans hc); have hn3 := (hc.cell 0 (World.block_lt_of_cell? _ _ hn2) (fun h => h)).trans hn2; clear hc hn2) | ((with_reducible show wpList _ _ _ (⟨some 7, .alloc _, _, _, _, _⟩ :: _) _ _); refine wpList_alloc_Row rfl rfl (rcell (0, 0)) zeroR ?_; intro w4 hr4 hc4 hs4; have HR4 := Lib.hid hr4; have HC4 := Lib.hid (HC3.out.trans hc4); have HX4 := Lib.hid hc4; clear hr4 hc4 hs4 hn3) | ((with_reducible show wpList _ _ _ (⟨none, .store _ (.tmp 7) _, _, _, _, _⟩ :: _) _ _); refine wpList_store_Row (xs := rcell (n, n)) rfl rfl rfl HR4.out rfl rfl sizeR rfl ?_; intro w5 hr5 hcs5 hs5; have HR5 := Lib.hid hr5; have HC5 := Lib.hid (HC3.out.trans (hcs5 none_ w3 HX4.out (fun h => absurd h (Nat.lt_irrefl _)))); have c5 := (HRW.out.chg HC5.out (fun h => h)).cell 0; simp only [List.getElem?_cons_zero] at c5; clear hr5 hcs5 hs5) | ((with_reducible show wpList _ _ _ (⟨some 41, _, _, _, _, _⟩ :: _) _ _); refine wpList_slice_bothN rfl 27 41 _ _ _ rfl A l.length cap fr to_ 2 rfl rfl rfl Try.underlying27 sizeR HTF.out.1 HTF.out.2 ?_))
  clear HF1 HF2 HO HA d1 d2 c5
  obtain ⟨gW, hgW⟩ : ∃ gW, gW = w3.heap.size := ⟨_, rfl⟩
  have HGW : Hid (w.heap.size ≤ gW) := Lib.hid (by rw [hgW]; exact HC3.out.size)
  rw [← hgW] at HR5 ⊢
  clear hgW
  generalize dropN A cap fr 2 = AD at *
  go_loopw [43] (fun i wr => ∃ j : Nat, i = .int .i64 (j : Int) ∧ j ≤ d ∧ Row wr gW 41 (rcell ((M.take j).foldl join2 (n, n))) ∧ Chg none_ w wr) (fun i _ => d - (intOf i).toNat)
  case atStart => exact ⟨0, rfl, Nat.zero_le _, HR5.out, HC5.out⟩
  case round =>
    obtain ⟨j, rfl, hj, hrow, hc⟩ := hrel
    obtain ⟨wh, hwh⟩ : ∃ wh, wh = (M.take j).foldl join2 (n, n) := ⟨_, rfl⟩
    rw [← hwh] at hrow
    have HROW := Lib.hid hrow
    have HC6 := Lib.hid hc
    by_cases hlt : j < d
    · have j1 : (j : Int) < (d : Int) := by omega
      have j0 : 0 ≤ (j : Int) := by omega
      obtain ⟨b, o, rfl, hbl, _, hr⟩ := (HVM.out.chg hc (fun _ _ h => h)).rAt (k := j) (by rw [HML.out]; exact hlt)
      have HR := Lib.hid (hr j (by rw [HML.out]; exact hlt))
      have HNX : Hid ((M.take (j + 1)).foldl join2 (n, n) = join2 wh (rg M j)) := Lib.hid (by
        have hj2 : j < M.length := by rw [HML.out]; exact hlt
        rw [List.take_add_one, List.getElem?_eq_getElem hj2, List.foldl_append, ← hwh]
        unfold rg
        rw [List.getD_eq_getElem?_getD, List.getElem?_eq_getElem hj2]
        rfl)
      have HNL := Lib.hid hrow.lt
      generalize rg M j = r at *
      clear hr hbl hc hrow hwh
      go_wp2_with (first | ((with_reducible show wpList _ _ _ (⟨some 46, .load _ _, _, _, _, _⟩ :: _) _ _); refine wpList_load_Mid (cs := rcell r) rfl rfl rfl HR.out Try.underlying41 rfl sizeR ?_) | ((with_reducible show wpList _ _ _ (⟨some 9, .alloc _, _, _, _, _⟩ :: _) _ _); refine wpList_alloc_Row rfl rfl (rcell (0, 0)) zeroR ?_; intro w7 hr7 hc7 hs7; have HR7 := Lib.hid hr7; have HC7 := Lib.hid hc7; have HW7 := Lib.hid (HROW.out.chg hc7 (fun h => h)); clear hr7 hc7 hs7) | ((with_reducible show wpList _ _ _ (⟨none, .store _ (.tmp 9) _, _, _, _, _⟩ :: _) _ _); refine wpList_store_Row (xs := rcell r) rfl rfl rfl HR7.out rfl rfl sizeR rfl ?_; intro w8 hr8 hcs8 hs8; have HW8 := Lib.hid (HW7.out.chg (hcs8 (· = wr.heap.size) w7 (Chg.refl _ _) (fun _ => rfl)) (fun (e : gW = wr.heap.size) => by have := HNL.out; omega)); have HC8 := Lib.hid (HC6.out.trans (hcs8 none_ wr HC7.out (fun h => absurd h (Nat.lt_irrefl _)))); have x0 := hr8.cell 0; have x1 := hr8.cell 1; have y0 := HW8.out.cell 0; have y1 := HW8.out.cell 1; have z0 := HW8.out.frozen 0; have z1 := HW8.out.frozen 1; simp only [rcell, List.getElem?_cons_zero, List.getElem?_cons_succ] at x0 x1 y0 y1; clear hr8 hcs8 hs8))
      obtain ⟨wa, wb⟩ := wh
      obtain ⟨ra, rb⟩ := r
      dsimp only at x0 x1 y0 y1
      have hne : wr.heap.size ≠ gW := by have := HNL.out; omega
      refine wp_region_late (fun w' => w'.cell? ⟨gW, 1, none⟩ = some (.int .u64 (wb : Int)) ∧ w'.cell? ⟨wr.heap.size, 0, none⟩ = some (.int .u64 (ra : Int)) ∧ w'.cell? ⟨wr.heap.size, 1, none⟩ = some (.int .u64 (rb : Int))) 13 (by kernel_rfl) ?_
      have hz : (w8.drew).cell? ⟨gW, 1, none⟩ = some (.int .u64 (wb : Int)) ∧ (w8.drew).cell? ⟨wr.heap.size, 0, none⟩ = some (.int .u64 (ra : Int)) ∧ (w8.drew).cell? ⟨wr.heap.size, 1, none⟩ = some (.int .u64 (rb : Int)) := ⟨y1, x0, x1⟩
      refine late_take (i := 0) (v := .pointer (some ⟨gW, 0, none⟩)) [13] rfl (by kernel_rfl) (by kernel_rfl) (by kernel_rfl) (by kernel_rfl) (by first | exact fun _ _ _ h => h | exact fun _ _ _ h => nomatch h.1) (Or.inl ⟨by rfl, fun w_ hw_ => by go_simp⟩) hz ?_
      try simp only [Act.put, List.setIfInBounds_toArray, List.set_cons_zero, List.set_cons_succ, List.getElem_toArray, List.getElem_cons_zero]
      refine late_take (i := 2) (v := .pointer (some ⟨wr.heap.size, 0, none⟩)) [13] rfl (by kernel_rfl) (by kernel_rfl) (by kernel_rfl) (by kernel_rfl) (by first | exact fun _ _ _ h => h | exact fun _ _ _ h => nomatch h.1) (Or.inl ⟨by rfl, fun w_ hw_ => by go_simp⟩) hz ?_
      try simp only [Act.put, List.setIfInBounds_toArray, List.set_cons_zero, List.set_cons_succ, List.getElem_toArray, List.getElem_cons_succ, List.getElem_cons_zero]
      refine late_take (i := 3) (v := .int .u64 (ra : Int)) [13] rfl (by kernel_rfl) (by kernel_rfl) (by kernel_rfl) (by kernel_rfl) (by first | exact fun _ _ _ h => h | exact fun _ _ _ h => nomatch h.1) (Or.inl ⟨by rfl, fun w_ hw_ => by have q_ := hw_.2.1; go_simp⟩) hz ?_
      try simp only [Act.put, List.setIfInBounds_toArray, List.set_cons_zero, List.set_cons_succ, List.getElem_toArray, List.getElem_cons_succ, List.getElem_cons_zero]
      refine late_take (i := 5) (v := .pointer (some ⟨gW, 1, none⟩)) [13] rfl (by kernel_rfl) (by kernel_rfl) (by kernel_rfl) (by kernel_rfl) (by first | exact fun _ _ _ h => h | exact fun _ _ _ h => nomatch h.1) (Or.inl ⟨by rfl, fun w_ hw_ => by go_simp⟩) hz ?_
      try simp only [Act.put, List.setIfInBounds_toArray, List.set_cons_zero, List.set_cons_succ, List.getElem_toArray, List.getElem_cons_succ, List.getElem_cons_zero]
      refine late_take (i := 6) (v := .int .u64 (wb : Int)) [13] rfl (by kernel_rfl) (by kernel_rfl) (by kernel_rfl) (by kernel_rfl) (by first | exact fun _ _ _ h => h | exact fun _ _ _ h => nomatch h.1) (Or.inl ⟨by rfl, fun w_ hw_ => by have q_ := hw_.1; go_simp⟩) hz ?_
      try simp only [Act.put, List.setIfInBounds_toArray, List.set_cons_zero, List.set_cons_succ, List.getElem_toArray, List.getElem_cons_succ, List.getElem_cons_zero]
      refine late_take (i := 7) (v := .pointer (some ⟨wr.heap.size, 1, none⟩)) [13] rfl (by kernel_rfl) (by kernel_rfl) (by kernel_rfl) (by kernel_rfl) (by first | exact fun _ _ _ h => h | exact fun _ _ _ h => nomatch h.1) (Or.inl ⟨by rfl, fun w_ hw_ => by go_simp⟩) hz ?_
      try simp only [Act.put, List.setIfInBounds_toArray, List.set_cons_zero, List.set_cons_succ, List.getElem_toArray, List.getElem_cons_succ, List.getElem_cons_zero]
      refine late_take (i := 8) (v := .int .u64 (rb : Int)) [13] rfl (by kernel_rfl) (by kernel_rfl) (by kernel_rfl) (by kernel_rfl) (by first | exact fun _ _ _ h => h | exact fun _ _ _ h => nomatch h.1) (Or.inl ⟨by rfl, fun w_ hw_ => by have q_ := hw_.2.2; go_simp⟩) hz ?_
      try simp only [Act.put, List.setIfInBounds_toArray, List.set_cons_zero, List.set_cons_succ, List.getElem_toArray, List.getElem_cons_succ, List.getElem_cons_zero]
      refine late_take (i := 9) (v := .int .u64 ((max wb rb : Nat) : Int)) [13] rfl (by kernel_rfl) (by kernel_rfl) (by kernel_rfl) (by kernel_rfl) (by first | exact fun _ _ _ h => h | exact fun _ _ _ h => nomatch h.1) (Or.inl ⟨by rfl, fun w_ hw_ => by rw [show ((max wb rb : Nat) : Int) = max (wb : Int) (rb : Int) by omega]; go_simp⟩) hz ?_
      try simp only [Act.put, List.setIfInBounds_toArray, List.set_cons_zero, List.set_cons_succ, List.getElem_toArray, List.getElem_cons_succ, List.getElem_cons_zero]
      refine late_one (i := 1) (by kernel_rfl) rfl (fun K hK => ?_)
      rw [if_pos (by rfl)]
      try simp only [List.getElem_toArray, List.getElem_cons_succ, List.getElem_cons_zero]
      have y0d : (w8.drew).cell? ⟨gW, 0, none⟩ = some (.int .u64 (wa : Int)) := y0
      go_simp
      refine hK.out _ _ hz ?_
      clear hK K
      try simp only [Act.put, List.setIfInBounds_toArray, List.set_cons_zero, List.set_cons_succ, List.getElem_toArray, List.getElem_cons_succ, List.getElem_cons_zero]
      refine late_take (i := 4) (v := .int .u64 ((min wa ra : Nat) : Int)) [13] rfl (by kernel_rfl) (by kernel_rfl) (by kernel_rfl) (by kernel_rfl) (by first | exact fun _ _ _ h => h | exact fun _ _ _ h => nomatch h.1) (Or.inl ⟨by rfl, fun w_ hw_ => by rw [show ((min wa ra : Nat) : Int) = min (wa : Int) (ra : Int) by omega]; go_simp⟩) hz ?_
      try simp only [Act.put, List.setIfInBounds_toArray, List.set_cons_zero, List.set_cons_succ, List.getElem_toArray, List.getElem_cons_succ, List.getElem_cons_zero]
      refine late_take (i := 10) (v := .pointer (some ⟨gW, 0, none⟩)) [13] rfl (by kernel_rfl) (by kernel_rfl) (by kernel_rfl) (by kernel_rfl) (by first | exact fun _ _ _ h => h | exact fun _ _ _ h => nomatch h.1) (Or.inl ⟨by rfl, fun w_ hw_ => by go_simp⟩) hz ?_
      try simp only [Act.put, List.setIfInBounds_toArray, List.set_cons_zero, List.set_cons_succ, List.getElem_toArray, List.getElem_cons_succ, List.getElem_cons_zero]
      refine late_one (i := 11) (by kernel_rfl) rfl (fun K hK => ?_)
      rw [if_pos (by rfl)]
      try simp only [List.getElem_toArray, List.getElem_cons_succ, List.getElem_cons_zero]
      have fd : (w8.drew).frozen? ⟨gW, 0, none⟩ = false := z0
      have y0d : (w8.drew).cell? ⟨gW, 0, none⟩ = some (.int .u64 (wa : Int)) := y0
      go_simp
      have hrow9 := (HW8.out.drew).set 0 (.int .u64 ((min wa ra : Nat) : Int))
      have hz9 : ((w8.drew).setCell ⟨gW, 0, none⟩ (.int .u64 ((min wa ra : Nat) : Int))).cell? ⟨gW, 1, none⟩ = some (.int .u64 (wb : Int)) ∧ ((w8.drew).setCell ⟨gW, 0, none⟩ (.int .u64 ((min wa ra : Nat) : Int))).cell? ⟨wr.heap.size, 0, none⟩ = some (.int .u64 (ra : Int)) ∧ ((w8.drew).setCell ⟨gW, 0, none⟩ (.int .u64 ((min wa ra : Nat) : Int))).cell? ⟨wr.heap.size, 1, none⟩ = some (.int .u64 (rb : Int)) := by
        refine ⟨hrow9.cell 1, ?_, ?_⟩
        · rw [cell_setCell_far _ hne]; exact x0
        · rw [cell_setCell_far _ hne]; exact x1
      refine hK.out _ _ hz9 ?_
      clear hK K
      try simp only [Act.put, List.setIfInBounds_toArray, List.set_cons_zero, List.set_cons_succ, List.getElem_toArray, List.getElem_cons_succ, List.getElem_cons_zero]
      refine late_take (i := 12) (v := .pointer (some ⟨gW, 1, none⟩)) [13] rfl (by kernel_rfl) (by kernel_rfl) (by kernel_rfl) (by kernel_rfl) (by first | exact fun _ _ _ h => h | exact fun _ _ _ h => nomatch h.1) (Or.inl ⟨by rfl, fun w_ hw_ => by go_simp⟩) hz9 ?_
      try simp only [Act.put, List.setIfInBounds_toArray, List.set_cons_zero, List.set_cons_succ, List.getElem_toArray, List.getElem_cons_succ, List.getElem_cons_zero]
      have HROW9 := Lib.hid (hrow9.set 1 (.int .u64 ((max wb rb : Nat) : Int)))
      have fd9 := hrow9.frozen 1
      have yd9 := hz9.1
      refine late_last (by kernel_rfl) rfl (by kernel_rfl) (fun K hK => ?_)
      rw [if_pos (by rfl)]
      try simp only [List.getElem_toArray, List.getElem_cons_succ, List.getElem_cons_zero]
      go_simp
      refine hK.out _ _ ?_
      clear hK K
      try simp only [Act.put, List.setIfInBounds_toArray, List.set_cons_zero, List.set_cons_succ, List.getElem_toArray, List.getElem_cons_succ, List.getElem_cons_zero]
      have HCH9 := Lib.hid ((HC8.out.drew.setCell (p := ⟨gW, 0, none⟩) (fun (h : gW < w.heap.size) => absurd h (by have := HGW.out; omega)) (.int .u64 ((min wa ra : Nat) : Int))).setCell (p := ⟨gW, 1, none⟩) (fun (h : gW < w.heap.size) => absurd h (by have := HGW.out; omega)) (.int .u64 ((max wb rb : Nat) : Int)))
      clear x0 x1 y0 y1 z0 z1 fd9 yd9 hz hz9 hrow9 fd y0d
      go_wp2
      go_roundw
      case rel => exact ⟨j + 1, by go_num, by omega, by rw [HNX.out]; exact HROW9.out, HCH9.out⟩
      case measure => simp [intOf]; omega
    · have hje : j = d := by omega
      have d0 : ¬ (j : Int) < (d : Int) := by omega
      have HE4 : Hid (l1 = l.take fr ++ [wh] ++ l.drop to_) := Lib.hid (by rw [HE3.out, hwh, hje, ← HML.out, List.take_length])
      clear hj hlt hje hwh hrow hc
      by_cases h16 : 16 < l1.length
      · have k16 : (16 : Int) < (l1.length : Int) := by omega
        have HFO : Hid (∀ w1, SetAt w1 B g l1 y → Calls Try.prog 14 #[.pointer (some ⟨g, 0, none⟩), .int .u64 ((rg l1 16).2 : Int)] w1 fun e w' => ∃ c : Nat, e = .returned (.int .i64 (c : Int)) ∧ SetG w' B g fS.1 fS.2 16 ∧ Chg (· = g) w1 w') := Lib.hid (fun w1 h1 => by
          have hq : l1[16]? = some (rg l1 16) := by
            unfold rg
            rw [List.getD_eq_getElem?_getD, List.getElem?_eq_getElem h16]
            rfl
          have e := HAS.out _ hq
          refine (Forget_any g B y 17 (rg l1 16).2 l1 w1 ⟨h1, HGD.out⟩ (by decide)).mono ?_
          rintro e' w' ⟨a, b, c⟩
          rw [← e] at b
          exact ⟨_, a, ⟨b.1, HSP.out⟩, c⟩)
        have HRA : Hid (∀ w1, SetAt w1 B g l1 y → ∃ b o cap, w1.cell? ⟨g, 0, none⟩ = some (.slice (some ⟨b, o, none⟩) l1.length cap) ∧ w1.cell? ⟨b, o + 16 * 2 + 1, none⟩ = some (.int .u64 ((rg l1 16).2 : Int))) := Lib.hid (fun w1 h1 => by
          obtain ⟨A1, cap1, hr1, _, _, hv1, _⟩ := h1
          obtain ⟨b, o, rfl, _, _, hk⟩ := hv1.rAt h16
          exact ⟨b, o, cap1, hr1.cell 0, hk 16 h16 1 _ rfl⟩)
        have HL16 := Lib.hid h16
        clear HAS HAN h16
        generalize l1.length = n1 at *
        have k17 : 16 < n1 := HL16.out
        clear HL16
        go_wp2_with (first | ((with_reducible show wpList _ _ _ (⟨some 63, .load _ _, _, _, _, _⟩ :: _) _ _); refine wpList_load_Row (cs := rcell wh) rfl rfl rfl HROW.out Try.underlying41 rfl sizeR ?_) | ((with_reducible show wpList _ _ _ (⟨some 64, _, _, _, _, _⟩ :: _) _ _); refine wpList_new_row (v := fun g => .slice (some ⟨g, 0, none⟩) 1 1) (e := 41) (cs := rcell wh) rfl (fun w_ => by go_simp; try rfl) ?_; intro w9 hr9 hc9 hs9; have HC9 := Lib.hid (HC6.out.trans hc9); have HV9 : Hid (View w9 (fun _ => True) (some ⟨wr.heap.size, 0, none⟩) (1 * 2) (rcells [wh])) := Lib.hid (View.row (cs := rcell wh) hr9 (n := 2) (Nat.le_refl _) trivial); clear hr9 hc9 hs9) | (go_at_call 24; refine (HRP.out _ wh _ HC9.out HV9.out).mono ?_; rintro e w10 ⟨rfl, hs, hc⟩; rw [← HE4.out] at hs; have HS10 := Lib.hid hs; have HC10 := Lib.hid ((show Chg (· = g) w w9 from HC9.out.mono (fun _ _ h => h.elim)).trans hc); obtain ⟨b, o, cap1, c1, c2⟩ := HRA.out _ hs; clear hs hc) | (go_at_call 14; refine (HFO.out _ HS10.out).mono ?_; rintro e w11 ⟨c, rfl, hs, hc⟩; have HG11 := Lib.hid hs; have HC11 := Lib.hid (HC10.out.trans hc); clear hs hc))
        go_ret
        exact ⟨rfl, HG11.out, HC11.out⟩
      · have k16 : ¬ (16 : Int) < (l1.length : Int) := by omega
        have HFS : Hid (∀ w', SetAt w' B g l1 y → SetG w' B g fS.1 fS.2 16) := Lib.hid (fun w' h1 => by
          have e := HAN.out (by rw [List.getElem?_eq_none_iff]; omega)
          have := HSP.out
          rw [e] at this ⊢
          exact ⟨h1, this⟩)
        have HRA : Hid (∀ w1, SetAt w1 B g l1 y → ∃ A1 cap, w1.cell? ⟨g, 0, none⟩ = some (.slice A1 l1.length cap)) := Lib.hid (fun w1 h1 => by
          obtain ⟨A1, cap1, hr1, _⟩ := h1
          exact ⟨A1, cap1, hr1.cell 0⟩)
        clear HAS HAN h16
        generalize l1.length = n1 at *
        go_wp2_with (first | ((with_reducible show wpList _ _ _ (⟨some 63, .load _ _, _, _, _, _⟩ :: _) _ _); refine wpList_load_Row (cs := rcell wh) rfl rfl rfl HROW.out Try.underlying41 rfl sizeR ?_) | ((with_reducible show wpList _ _ _ (⟨some 64, _, _, _, _, _⟩ :: _) _ _); refine wpList_new_row (v := fun g => .slice (some ⟨g, 0, none⟩) 1 1) (e := 41) (cs := rcell wh) rfl (fun w_ => by go_simp; try rfl) ?_; intro w9 hr9 hc9 hs9; have HC9 := Lib.hid (HC6.out.trans hc9); have HV9 : Hid (View w9 (fun _ => True) (some ⟨wr.heap.size, 0, none⟩) (1 * 2) (rcells [wh])) := Lib.hid (View.row (cs := rcell wh) hr9 (n := 2) (Nat.le_refl _) trivial); clear hr9 hc9 hs9) | (go_at_call 24; refine (HRP.out _ wh _ HC9.out HV9.out).mono ?_; rintro e w10 ⟨rfl, hs, hc⟩; rw [← HE4.out] at hs; have HS10 := Lib.hid hs; have HC10 := Lib.hid ((show Chg (· = g) w w9 from HC9.out.mono (fun _ _ h => h.elim)).trans hc); obtain ⟨A1, cap1, c1⟩ := HRA.out _ hs; clear hs hc))
        go_ret
        exact ⟨rfl, HFS.out _ HS10.out, HC10.out⟩

theorem Add_any (g B y n : Nat) (l : List (Nat × Nat)) (w : World) (h : SetG w B g l y 16) :
    Calls Try.prog 9 #[.pointer (some ⟨g, 0, none⟩), .int .u64 (n : Int)] w fun e w' => e = .returned (.bool (newB l y n)) ∧ SetG w' B g (addT l y n).1 (addT l y n).2 16 ∧ Chg (· = g) w w' := by
  unfold addT
  cases hn : newB l y n with
  | true => exact Add_yes g B y n l w h hn
  | false =>
    rw [if_neg (by simp)]
    exact (Add_not g B y n l w h hn).mono fun e w' ⟨a, b⟩ => ⟨a, h.quiet b, b.mono (fun _ _ h => h.elim)⟩
end Go.Proofs.Ytlakhfbhbebojaa
