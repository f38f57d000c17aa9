/- Layer 15 (ledger): Send. -/
import Derived.Test.YtakoeamfmmbdiaaV15Apart
import Derived.Test.YtakoeamfmmbdiaaRegionLate
namespace Go.Proofs.Ytakoeamfmmbdiaa
open Go.RowKit

theorem Send_nil (x : It) (w : World) : Calls Try.prog 9 #[.pointer none, .agg (itc x).toArray] w fun e w' => e = .returned (.tuple #[.int .i64 0, .int .i64 1]) ∧ Chg none_ w w' := by
  go_enter Try.func9, Try.ntmps9
  go_wp2_with (((with_reducible show wpList _ _ _ (⟨some 3, .box _ _, _, _, _, _⟩ :: _) _ _); refine wpList_box_Row rfl rfl (itc x) rfl ?_; intro w1 hr1 hc1 hs1; have HR1 := Lib.hid hr1; have HC1 := Lib.hid hc1; clear hr1 hc1 hs1))
  refine bodyPost_ret (results_tmp2 rfl _ _ _) rfl ?_
  exact ⟨rfl, HC1.out⟩

set_option maxHeartbeats 1000000 in
/-- A size that none has. -/
theorem Send_bad (g : Nat) (x : It) (w : World) (hs : x.size < 0 ∨ 1200 < x.size) : Calls Try.prog 9 #[.pointer (some ⟨g, 0, none⟩), .agg (itc x).toArray] w fun e w' => e = .returned (.tuple #[.int .i64 0, .int .i64 1]) ∧ Chg none_ w w' := by
  by_cases h1 : x.size < 0
  · have d1 : decide (x.size < 0) = true := by simpa using h1
    clear hs
    go_enter Try.func9, Try.ntmps9
    go_wp2_with (((with_reducible show wpList _ _ _ (⟨some 3, .box _ _, _, _, _, _⟩ :: _) _ _); refine wpList_box_Row rfl rfl (itc x) rfl ?_; intro w1 hr1 hc1 hs1; have HR1 := Lib.hid hr1; have HC1 := Lib.hid hc1; have x2 := hr1.cell 2; simp only [itc, List.getElem?_cons_zero, List.getElem?_cons_succ] at x2; clear hr1 hc1 hs1))
    refine bodyPost_ret (results_tmp2 rfl _ _ _) rfl ?_
    exact ⟨rfl, HC1.out⟩
  · have h2 : 1200 < x.size := hs.resolve_left h1
    have d1 : decide (x.size < 0) = false := by simpa using h1
    have d2 : decide (1200 < x.size) = true := by simpa using h2
    clear hs
    go_enter Try.func9, Try.ntmps9
    go_wp2_with (((with_reducible show wpList _ _ _ (⟨some 3, .box _ _, _, _, _, _⟩ :: _) _ _); refine wpList_box_Row rfl rfl (itc x) rfl ?_; intro w1 hr1 hc1 hs1; have HR1 := Lib.hid hr1; have HC1 := Lib.hid hc1; have x2 := hr1.cell 2; simp only [itc, List.getElem?_cons_zero, List.getElem?_cons_succ] at x2; clear hr1 hc1 hs1))
    refine bodyPost_ret (results_tmp2 rfl _ _ _) rfl ?_
    exact ⟨rfl, HC1.out⟩

set_option maxHeartbeats 1000000 in
/-- There are as many as may be. -/
theorem Send_full (base g next above : Nat) (T : Nat → Prop) (v : Value) (l : List It) (x : It) (w : World) (h : LedAt w base g T v l next above) (h0 : 0 ≤ x.size) (h1 : x.size ≤ 1200) (hl : 64 ≤ l.length) :
    Calls Try.prog 9 #[.pointer (some ⟨g, 0, none⟩), .agg (itc x).toArray] w fun e w' => e = .returned (.tuple #[.int .i64 0, .int .i64 5]) ∧ Chg none_ w w' := by
  obtain ⟨A, c, rfl, _, _⟩ := own_shape h.own
  have hr := h.row
  have d1 : ¬ x.size < 0 := by omega
  have d2 : ¬ 1200 < x.size := by omega
  have d3 : (64 : Int) ≤ (l.length : Int) := by omega
  have HR := Lib.hid hr
  clear h hr hl
  go_enter Try.func9, Try.ntmps9
  go_wp2_with (((with_reducible show wpList _ _ _ (⟨some 3, .box _ _, _, _, _, _⟩ :: _) _ _); refine wpList_box_Row rfl rfl (itc x) rfl ?_; intro w1 hr1 hc1 hs1; have HR1 := Lib.hid hr1; have HC1 := Lib.hid hc1; have x2 := hr1.cell 2; simp only [itc, List.getElem?_cons_zero, List.getElem?_cons_succ] at x2; have g0 := (HR.out.chg hc1 (fun h => h)).cell 0; simp only [List.getElem?_cons_zero] at g0; clear hr1 hc1 hs1))
  refine bodyPost_ret (results_tmp2 rfl _ _ _) rfl ?_
  exact ⟨rfl, HC1.out⟩

set_option maxRecDepth 100000 in
set_option maxHeartbeats 4000000 in
theorem Send_any (base g next above : Nat) (T T0 : Nat → Prop) (v : Value) (l : List It) (x : It) (w : World) (h : LedAt w base g T v l next above) (hx : ItD w T0 x) (h0 : 0 ≤ x.size) (h1 : x.size ≤ 1200) (hl : l.length < 64) (hb : base ≤ w.heap.size) (hn : next < 4611686018427387904) :
    Calls Try.prog 9 #[.pointer (some ⟨g, 0, none⟩), .agg (itc x).toArray] w fun e w' => e = .returned (.tuple #[.int .i64 (next : Int), .int .i64 0]) ∧ ∃ y v', y.pl = { x.pl with num := (next : Int) } ∧
      LedAt w' base g (fun b => T b ∨ (w.heap.size ≤ b ∧ b < w'.heap.size ∧ v'.ownBlock ≠ some b)) v' (l ++ [y]) (next + 1) above ∧ Chg (fun b => b = g ∨ v.ownBlock = some b) w w' ∧ ∀ b, v'.ownBlock = some b → v.ownBlock = some b ∨ w.heap.size ≤ b := by
  obtain ⟨A, c, rfl, _, _⟩ := own_shape h.own
  have HH := Lib.hid h
  have HR := Lib.hid h.row
  have HX := Lib.hid hx
  have HBW := Lib.hid hb
  have d1 : ¬ x.size < 0 := by omega
  have d2 : ¬ 1200 < x.size := by omega
  have d3 : ¬ (64 : Int) ≤ (l.length : Int) := by omega
  have hn2 : (next : Int) < 4611686018427387904 := by omega
  have hn1 : (0 : Int) ≤ (next : Int) := by omega
  have HN : Hid (next < 4611686018427387904) := Lib.hid hn
  clear h hx hb hn
  go_enter Try.func9, Try.ntmps9
  go_wp2_with (first | ((with_reducible show wpList _ _ _ (⟨some 3, .box _ _, _, _, _, _⟩ :: _) _ _); refine wpList_box_Row rfl rfl (itc x) rfl ?_; intro w1 hr1 hc1 hs1; have HR1 := Lib.hid hr1; have HC1 := Lib.hid hc1; have x2 := hr1.cell 2; simp only [itc, List.getElem?_cons_zero, List.getElem?_cons_succ] at x2; have g0 := (HR.out.chg hc1 (fun h => h)).cell 0; simp only [List.getElem?_cons_zero] at g0; have HG1 := Lib.hid hs1; clear hr1 hc1 hs1) | ((with_reducible show wpList _ _ _ (⟨some 24, .load _ _, _, _, _, _⟩ :: _) _ _); refine wpList_load_Row rfl rfl rfl HR1.out Try.underlying32 rfl sizeS ?_) | (go_at_call 26; refine (apart_any x T0 _ (HX.out.chg HC1.out (fun _ _ h => h))).mono ?_; rintro e w2 ⟨y, rfl, hpl, hy, hc2⟩; have HPL := Lib.hid hpl; have HY := Lib.hid hy; have HC2 := Lib.hid hc2; have HR2 := Lib.hid (HR1.out.chg hc2 (fun h => h)); clear hpl hy hc2 g0) | ((with_reducible show wpList _ _ _ (⟨none, .store _ (.tmp 3) (.tmp 25), _, _, _, _⟩ :: _) _ _); refine wpList_store_Row (xs := itc y) rfl rfl rfl HR2.out rfl rfl sizeS (List.all_eq_true.2 (itc_one y)) ?_; intro w3 hr3 hc3 hs3; have HR3 := Lib.hid hr3; have HC3 := Lib.hid (hc3 none_ w (HC1.out.trans HC2.out) (fun h => absurd h (Nat.lt_irrefl _))); have HC23 := Lib.hid (hc3 (fun b => b = w.heap.size) w2 (Chg.refl _ _) (fun _ => rfl)); have hg := HR.out.chg HC3.out (fun h => h); have g0 := hg.cell 0; have g1 := hg.cell 1; have b0 := hr3.cell 0; have bf := hr3.frozen 0; simp only [itc, List.getElem?_cons_zero, List.getElem?_cons_succ] at g0 g1 b0; clear hr3 hc3 hs3 hg))
  have HIT : Hid (itc { y with num := (next : Int) } = (itc y).set 0 (.int .i64 (next : Int))) := Lib.hid rfl
  have HRB := Lib.hid (HR3.out.set 0 (.int .i64 (next : Int)))
  rw [← HIT.out] at HRB
  have HCW : Hid (Chg none_ w (w3.setCell ⟨w.heap.size, 0, none⟩ (.int .i64 (next : Int)))) := Lib.hid (HC3.out.setCell (p := ⟨w.heap.size, 0, none⟩) (fun h => absurd h (Nat.lt_irrefl _)) _)
  have HCY : Hid (Chg (fun b => b = w.heap.size) w2 (w3.setCell ⟨w.heap.size, 0, none⟩ (.int .i64 (next : Int)))) := Lib.hid (HC23.out.setCell (p := ⟨w.heap.size, 0, none⟩) (fun _ => rfl) _)
  have HYW := Lib.hid ((HY.out.chg HCY.out (fun b (hb : w1.heap.size ≤ b) e => by have := HG1.out; omega)).num (next : Int))
  generalize w3.setCell ⟨w.heap.size, 0, none⟩ (.int .i64 (next : Int)) = ww at *
  clear g0 g1 b0 bf x2
  have HGW := Lib.hid (HH.out.quiet HCW.out)
  have hcw := HCW.out
  have HSZ : Hid (w.heap.size < ww.heap.size) := Lib.hid HRB.out.lt
  have HOB : Hid (∀ b, (Value.slice A l.length c).ownBlock = some b → b ≠ g ∧ b ≠ w.heap.size) := Lib.hid (fun b hb => ⟨fun e => HH.out.nn (by rw [← e]; exact hb), fun e => by have := (HH.out.own.lt hb).2; omega⟩)
  have HG0 : Hid (∀ z, Chg (fun b => (Value.slice A l.length c).ownBlock = some b) ww z → z.cell? ⟨g, 0, none⟩ = some (.slice A l.length c)) := Lib.hid (fun z hz => (HGW.out.row.chg hz (fun e => (HOB.out _ e).1 rfl)).cell 0)
  have HBX : Hid (∀ z, Chg (fun b => (Value.slice A l.length c).ownBlock = some b) ww z → z.rangeAt w.heap.size 0 (itc { y with num := (next : Int) })) := Lib.hid (fun z hz => (HRB.out.chg hz (fun e => (HOB.out _ e).2 rfl)).range)
  have HLL : Hid (l.length < 64) := Lib.hid hl
  obtain ⟨i5, hi5⟩ := infoS
  refine wp_region_late (fun x => Chg (fun b => (Value.slice A l.length c).ownBlock = some b) ww x) 10 (by kernel_rfl) ?_
  have hz : Chg (fun b => (Value.slice A l.length c).ownBlock = some b) ww ww.drew := (Chg.refl _ ww).drew
  have hq : Chg none_ ww ww.drew := (Chg.refl _ ww).drew
  generalize ww.drew = wz at hz hq ⊢
  refine late_take (i := 0) (v := .pointer (some ⟨g, 0, none⟩)) [8, 9, 10] rfl (by kernel_rfl) (by kernel_rfl) (by kernel_rfl) (by kernel_rfl) (by first | exact fun _ _ _ h => h | exact fun _ _ _ h => nomatch h.1) (Or.inl ⟨by rfl, fun w_ hw_ => by go_simp⟩) hz ?_
  try simp only [Act.put, List.setIfInBounds_toArray, List.set_cons_zero, List.set_cons_succ, List.getElem_toArray, List.getElem_cons_zero]
  refine late_take (i := 1) (v := .pointer (some ⟨g, 0, none⟩)) [2, 3, 4, 7, 10] rfl (by kernel_rfl) (by kernel_rfl) (by kernel_rfl) (by kernel_rfl) (by first | exact fun _ _ _ h => h | exact fun _ _ _ h => nomatch h.1) (Or.inl ⟨by rfl, fun w_ hw_ => by go_simp⟩) hz ?_
  try simp only [Act.put, List.setIfInBounds_toArray, List.set_cons_zero, List.set_cons_succ, List.getElem_toArray, List.getElem_cons_succ, List.getElem_cons_zero]
  refine late_take (i := 2) (v := .pointer (some ⟨g, 0, none⟩)) [3, 4, 7, 10] rfl (by kernel_rfl) (by kernel_rfl) (by kernel_rfl) (by kernel_rfl) (by first | exact fun _ _ _ h => h | exact fun _ _ _ h => nomatch h.1) (Or.inl ⟨by rfl, fun w_ hw_ => by go_simp⟩) hz ?_
  try simp only [Act.put, List.setIfInBounds_toArray, List.set_cons_zero, List.set_cons_succ, List.getElem_toArray, List.getElem_cons_succ, List.getElem_cons_zero]
  refine late_take (i := 3) (v := .pointer (some ⟨g, 0, none⟩)) [4, 7, 10] rfl (by kernel_rfl) (by kernel_rfl) (by kernel_rfl) (by kernel_rfl) (by first | exact fun _ _ _ h => h | exact fun _ _ _ h => nomatch h.1) (Or.inl ⟨by rfl, fun w_ hw_ => by go_simp⟩) hz ?_
  try simp only [Act.put, List.setIfInBounds_toArray, List.set_cons_zero, List.set_cons_succ, List.getElem_toArray, List.getElem_cons_succ, List.getElem_cons_zero]
  refine late_take (i := 4) (v := .slice A l.length c) [7, 10] rfl (by kernel_rfl) (by kernel_rfl) (by kernel_rfl) (by kernel_rfl) (by first | exact fun _ _ _ h => h | exact fun _ _ _ h => nomatch h.1) (Or.inl ⟨by rfl, fun w_ hw_ => by have q1_ := HG0.out w_ hw_; go_simp⟩) hz ?_
  try simp only [Act.put, List.setIfInBounds_toArray, List.set_cons_zero, List.set_cons_succ, List.getElem_toArray, List.getElem_cons_succ, List.getElem_cons_zero]
  refine late_take (i := 5) (v := .agg (itc { y with num := (next : Int) }).toArray) [6, 7, 10] rfl (by kernel_rfl) (by kernel_rfl) (by kernel_rfl) (by kernel_rfl) (by first | exact fun _ _ _ h => h | exact fun _ _ _ h => nomatch h.1) (yieldsIf_load_mid (by rfl) 32 _ rfl w.heap.size 0 rfl (itc { y with num := (next : Int) }) _ (fun w' hw' => HBX.out w' hw') Try.underlying32 rfl sizeS) hz ?_
  try simp only [Act.put, List.setIfInBounds_toArray, List.set_cons_zero, List.set_cons_succ, List.getElem_toArray, List.getElem_cons_succ, List.getElem_cons_zero]
  refine late_one (i := 6) (by kernel_rfl) rfl (fun K hK => ?_)
  rw [if_pos (by rfl)]
  try simp only [List.getElem_toArray, List.getElem_cons_succ, List.getElem_cons_zero]
  refine wp_new_row (v := fun g => .slice (some ⟨g, 0, none⟩) 1 1) (e := 32) (cs := itc { y with num := (next : Int) }) (fun w_ => by have := run_sliceS { y with num := (next : Int) } w_; simp [execOp, Act.eval, this]) ?_
  intro x1 hr_x1 hc_x1 hs_x1
  have hq1 : Chg none_ ww x1 := hq.trans hc_x1
  have h1 : Chg (fun b => (Value.slice A l.length c).ownBlock = some b) ww x1 := hz.trans (hc_x1.mono (fun _ _ h => h.elim))
  refine hK.out _ _ h1 ?_
  clear hK K
  try simp only [Act.put, List.setIfInBounds_toArray, List.set_cons_zero, List.set_cons_succ]
  refine late_one (i := 7) (by kernel_rfl) rfl (fun K hK => ?_)
  rw [if_pos (by rfl)]
  try simp only [List.getElem_toArray, List.getElem_cons_succ, List.getElem_cons_zero]
  refine wp_append_N (w := x1) (c := itc) (e := 32) (s := 5) (base := base) (v := .slice A l.length c) (L := l) (M := [{ y with num := (next : Int) }]) (T := fun b => b = wz.heap.size) (A := some ⟨wz.heap.size, 0, none⟩) (m := 1) (cp := 1) (i := i5) (z := .agg (itc it0).toArray) _ _ 33 rfl Try.underlying33 hi5 rfl (by decide) itc_one itc_len rfl (HGW.out.own.chg hq1 (fun _ _ h => h)) rfl (viewS hr_x1) (by have := HLL.out; omega) (Nat.le_trans HBW.out (Nat.le_trans HCW.out.size hq1.size)) ?_
  intro v2 x2 o2 c2 n2
  have h2 : Chg (fun b => (Value.slice A l.length c).ownBlock = some b) ww x2 := h1.trans c2
  refine hK.out _ _ h2 ?_
  clear hK K
  try simp only [Act.put, List.setIfInBounds_toArray, List.set_cons_zero, List.set_cons_succ]
  refine late_take (i := 8) (v := .pointer (some ⟨g, 0, none⟩)) [9, 10] rfl (by kernel_rfl) (by kernel_rfl) (by kernel_rfl) (by kernel_rfl) (by first | exact fun _ _ _ h => h | exact fun _ _ _ h => nomatch h.1) (Or.inl ⟨by rfl, fun w_ hw_ => by go_simp⟩) h2 ?_
  try simp only [Act.put, List.setIfInBounds_toArray, List.set_cons_zero, List.set_cons_succ, List.getElem_toArray, List.getElem_cons_succ, List.getElem_cons_zero]
  refine late_take (i := 9) (v := .pointer (some ⟨g, 0, none⟩)) [10] rfl (by kernel_rfl) (by kernel_rfl) (by kernel_rfl) (by kernel_rfl) (by first | exact fun _ _ _ h => h | exact fun _ _ _ h => nomatch h.1) (Or.inl ⟨by rfl, fun w_ hw_ => by go_simp⟩) h2 ?_
  try simp only [Act.put, List.setIfInBounds_toArray, List.set_cons_zero, List.set_cons_succ, List.getElem_toArray, List.getElem_cons_succ, List.getElem_cons_zero]
  unfold OwnN at o2
  rw [show (l ++ [({ y with num := (next : Int) } : It)]).length = l.length + 1 by simp] at o2
  obtain ⟨A2, c2', rfl, _, _⟩ := own_shape o2
  have cr := HG0.out x2 h2
  have fr := (HGW.out.row.chg h2 (fun e => (HOB.out _ e).1 rfl)).frozen 0
  have HR6 := Lib.hid ((HGW.out.row.chg h2 (fun e => (HOB.out _ e).1 rfl)).set 0 (.slice A2 (l.length + 1) c2'))
  have HB6 := Lib.hid ((HRB.out.chg h2 (fun e => (HOB.out _ e).2 rfl)).far (p := ⟨g, 0, none⟩) (by show w.heap.size ≠ g; have := HH.out.glt; omega) (.slice A2 (l.length + 1) c2'))
  have HC6 := Lib.hid ((h2.mono (S' := fun b => b = g ∨ (Value.slice A l.length c).ownBlock = some b) (fun _ _ h => Or.inr h)).setCell (p := ⟨g, 0, none⟩) (fun _ => Or.inl rfl) (.slice A2 (l.length + 1) c2'))
  have HN2 : Hid (∀ b, (Value.slice A2 (l.length + 1) c2').ownBlock = some b → (Value.slice A l.length c).ownBlock = some b ∨ ww.heap.size ≤ b) := Lib.hid (fun b hb => (n2 b hb).imp id (fun h => Nat.le_trans hq1.size h))
  have HG6 : Hid (∀ b, (Value.slice A2 (l.length + 1) c2').ownBlock = some b → b ≠ g) := Lib.hid (fun b hb e => by
    rcases HN2.out b hb with h | h
    · exact (HOB.out b h).1 e
    · have h3 := HGW.out.glt; omega)
  have HO6 := Lib.hid (own_keep o2 (Chg.setCell (S := fun b => b = g) (Chg.refl _ x2) (p := ⟨g, 0, none⟩) (fun _ => rfl) (.slice A2 (l.length + 1) c2')) (fun b e h => HG6.out b e h))
  clear o2 c2 n2 hq hq1 h1 hz hr_x1 hc_x1 hs_x1
  refine late_last (by kernel_rfl) rfl (by kernel_rfl) (fun K hK => ?_)
  rw [if_pos (by rfl)]
  try simp only [List.getElem_toArray, List.getElem_cons_succ, List.getElem_cons_zero]
  go_simp
  refine hK.out _ _ ?_
  clear hK K
  try simp only [Act.put, List.setIfInBounds_toArray, List.set_cons_zero, List.set_cons_succ, List.getElem_toArray, List.getElem_cons_succ, List.getElem_cons_zero]
  generalize x2.setCell ⟨g, 0, none⟩ (.slice A2 (l.length + 1) c2') = w6 at *
  clear cr fr h2
  have g1 := HR6.out.cell 1
  have gf := HR6.out.frozen 1
  have b0 := HB6.out.cell 0
  simp only [itc, List.set_cons_zero, List.getElem?_cons_zero, List.getElem?_cons_succ] at g1 b0
  have hne : w.heap.size ≠ g := by have := HH.out.glt; omega
  have hne2 : g ≠ w.heap.size := by have := HH.out.glt; omega
  go_wp2
  refine bodyPost_ret (results_tmp2 rfl _ _ _) rfl ?_
  have hc7 := HC6.out.setCell (p := ⟨g, 1, none⟩) (fun _ => Or.inl rfl) (.int .i64 ((next : Int) + 1))
  have hs7 : Chg (fun b => b = g) w6 (w6.setCell ⟨g, 1, none⟩ (.int .i64 ((next : Int) + 1))) := Chg.setCell (S := fun b => b = g) (Chg.refl _ w6) (p := ⟨g, 1, none⟩) (fun _ => rfl) _
  have hr7 := HR6.out.set 1 (.int .i64 ((next : Int) + 1))
  have ho7 := own_keep HO6.out hs7 (fun b e h => HG6.out b e h)
  generalize w6.setCell ⟨g, 1, none⟩ (.int .i64 ((next : Int) + 1)) = w7 at *
  have hgl := HH.out.glt
  have hol : ∀ b, (Value.slice A l.length c).ownBlock = some b → b < w.heap.size := fun b hb => (HH.out.own.lt hb).2
  have hg1 := HG1.out
  have hww := HCW.out.size
  have h67 := hc7.size
  have hyl : ∀ b, b < ww.heap.size → w1.heap.size ≤ b → (w.heap.size ≤ b ∧ b < w7.heap.size ∧ (Value.slice A2 (l.length + 1) c2').ownBlock ≠ some b) := fun b hb h => by
    refine ⟨by omega, by omega, fun e => ?_⟩
    rcases HN2.out b e with h3 | h3
    · have := hol b h3; omega
    · omega
  refine ⟨rfl, { y with num := (next : Int) }, .slice A2 (l.length + 1) c2', ?_, ⟨?_, ?_, fun z hz => ?_, fun b hb => ?_, fun b hb => ?_, fun b hb => ?_, fun e => HG6.out g e rfl⟩, (HCW.out.mono (fun _ _ h => h.elim)).trans hc7, fun b hb => (HN2.out b hb).imp id (fun h => Nat.le_trans hww h)⟩
  · have := HPL.out
    unfold It.pl at this ⊢
    simp only [Sn.mk.injEq] at this ⊢
    exact ⟨trivial, this.2⟩
  · have e : ((next + 1 : Nat) : Int) = (next : Int) + 1 := by omega
    rw [e]
    exact hr7
  · unfold OwnS OwnN
    rw [show (l ++ [({ y with num := (next : Int) } : It)]).length = l.length + 1 by simp]
    exact ho7
  · rcases List.mem_append.1 hz with hz | hz
    · exact ((HGW.out.its z hz).chg hc7 (fun b hb h => by
        rcases h with h | h
        · exact HH.out.ng b hb h
        · exact HH.out.nv b hb h)).mono (fun _ _ h => Or.inl h)
    · obtain rfl : z = { y with num := (next : Int) } := by simpa using hz
      exact ((HYW.out.mono (T' := fun b => w1.heap.size ≤ b ∧ b < ww.heap.size) (fun b hb h => ⟨h, hb⟩)).chg hc7 (fun b hb h => by
        rcases h with h | h
        · omega
        · have := hol b h; omega)).mono (fun b _ h => Or.inr (hyl b h.2 h.1))
  · rcases hb with hb | hb
    · have := HH.out.lt b hb; omega
    · exact hb.2.1
  · rcases hb with hb | hb
    · exact HH.out.ng b hb
    · intro e; omega
  · rcases hb with hb | hb
    · intro e
      rcases HN2.out b e with h3 | h3
      · exact HH.out.nv b hb h3
      · have := HH.out.lt b hb; omega
    · exact hb.2.2
end Go.Proofs.Ytakoeamfmmbdiaa
