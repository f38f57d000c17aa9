/- Layer 15 (ledger): the document's ledger in memory; its Send. -/
import Derived.Test.YtakoeamfmmbdiaaV15Send
import Derived.Test.YtakoeamfmmbdiaaV15Part
namespace Go.Proofs.Ytakoeamfmmbdiaa
open Go.RowKit

theorem sizeRL : (Try.prog.info? 48).map (·.size) = some 3 := by kernel_rfl
/-- The document's ledger of these packets. -/
structure RLed (w : World) (r : Nat) (T : Nat → Prop) (A : Option Addr) (c : Nat) (m : List It) (next acked : Nat) : Prop where
  row : Row w r 48 [.slice A m.length c, .int .i64 (next : Int), .int .i64 (acked : Int)]
  le : m.length ≤ c
  view : View w T A (m.length * 5) (m.flatMap itc)
  its : ∀ x ∈ m, ItD w T x
  nr : ∀ b, T b → b ≠ r
section
variable {w w' : World} {r c next acked : Nat} {T : Nat → Prop} {A : Option Addr} {m : List It}
theorem RLed.chg {S : Nat → Prop} (h : RLed w r T A c m next acked) (hc : Chg S w w') (h1 : ¬ S r) (h2 : ∀ b, T b → ¬ S b) : RLed w' r T A c m next acked :=
  ⟨h.row.chg hc h1, h.le, h.view.chg hc h2, fun x hx => (h.its x hx).chg hc h2, h.nr⟩
theorem RLed.quiet (h : RLed w r T A c m next acked) (hc : Chg none_ w w') : RLed w' r T A c m next acked := h.chg hc (fun h => h) (fun _ _ h => h)
end
theorem OwnS_lit0 {w : World} {g base : Nat} (h : Row w g 32 []) (hb : base ≤ g) : OwnS w base (.slice (some ⟨g, 0, none⟩) 0 0) [] := ⟨rfl, .inr ⟨g, 0, #[], rfl, hb, h, Nat.le_refl _, Nat.zero_le _, rfl, rfl⟩⟩

set_option maxHeartbeats 1000000 in
theorem RSend_bad (r : Nat) (x : It) (w : World) (hs : x.size < 0 ∨ 1200 < x.size) : Calls Try.prog 19 #[.pointer (some ⟨r, 0, none⟩), .agg (itc x).toArray] w fun e w' => e = .returned (.tuple #[.int .i64 0, .int .i64 1]) ∧ Chg none_ w w' := by
  by_cases h1 : x.size < 0
  · have d1 : decide (x.size < 0) = true := by simpa using h1
    clear hs
    go_enter Try.func19, Try.ntmps19
    go_wp2_with (((with_reducible show wpList _ _ _ (⟨some 3, .box _ _, _, _, _, _⟩ :: _) _ _); refine wpList_box_Row rfl rfl (itc x) rfl ?_; intro w1 hr1 hc1 hs1; have HR1 := Lib.hid hr1; have HC1 := Lib.hid hc1; have x2 := hr1.cell 2; simp only [itc, List.getElem?_cons_zero, List.getElem?_cons_succ] at x2; clear hr1 hc1 hs1))
    refine bodyPost_ret (results_tmp2 rfl _ _ _) rfl ?_
    exact ⟨rfl, HC1.out⟩
  · have h2 : 1200 < x.size := hs.resolve_left h1
    have d1 : decide (x.size < 0) = false := by simpa using h1
    have d2 : decide (1200 < x.size) = true := by simpa using h2
    clear hs
    go_enter Try.func19, Try.ntmps19
    go_wp2_with (((with_reducible show wpList _ _ _ (⟨some 3, .box _ _, _, _, _, _⟩ :: _) _ _); refine wpList_box_Row rfl rfl (itc x) rfl ?_; intro w1 hr1 hc1 hs1; have HR1 := Lib.hid hr1; have HC1 := Lib.hid hc1; have x2 := hr1.cell 2; simp only [itc, List.getElem?_cons_zero, List.getElem?_cons_succ] at x2; clear hr1 hc1 hs1))
    refine bodyPost_ret (results_tmp2 rfl _ _ _) rfl ?_
    exact ⟨rfl, HC1.out⟩
set_option maxHeartbeats 1000000 in
theorem RSend_full (r c next acked : Nat) (T : Nat → Prop) (A : Option Addr) (m : List It) (x : It) (w : World) (h : RLed w r T A c m next acked) (h0 : 0 ≤ x.size) (h1 : x.size ≤ 1200) (hl : 64 ≤ m.length) :
    Calls Try.prog 19 #[.pointer (some ⟨r, 0, none⟩), .agg (itc x).toArray] w fun e w' => e = .returned (.tuple #[.int .i64 0, .int .i64 5]) ∧ Chg none_ w w' := by
  have d1 : ¬ x.size < 0 := by omega
  have d2 : ¬ 1200 < x.size := by omega
  have d3 : (64 : Int) ≤ (m.length : Int) := by omega
  have HR := Lib.hid h.row
  clear h hl
  go_enter Try.func19, Try.ntmps19
  go_wp2_with (((with_reducible show wpList _ _ _ (⟨some 3, .box _ _, _, _, _, _⟩ :: _) _ _); refine wpList_box_Row rfl rfl (itc x) rfl ?_; intro w1 hr1 hc1 hs1; have HR1 := Lib.hid hr1; have HC1 := Lib.hid hc1; have x2 := hr1.cell 2; simp only [itc, List.getElem?_cons_zero, List.getElem?_cons_succ] at x2; have g0 := (HR.out.chg hc1 (fun h => h)).cell 0; simp only [List.getElem?_cons_zero] at g0; clear hr1 hc1 hs1))
  refine bodyPost_ret (results_tmp2 rfl _ _ _) rfl ?_
  exact ⟨rfl, HC1.out⟩

set_option maxRecDepth 100000 in
set_option maxHeartbeats 8000000 in
theorem RSend_any (r c next acked : Nat) (T Tx : Nat → Prop) (A : Option Addr) (m : List It) (x : It) (w : World) (h : RLed w r T A c m next acked) (hx : ItD w Tx x) (hxr : ∀ b, Tx b → b ≠ r) (h0 : 0 ≤ x.size) (h1 : x.size ≤ 1200) (hl : m.length < 64) (hn : next < 4611686018427387904) :
    Calls Try.prog 19 #[.pointer (some ⟨r, 0, none⟩), .agg (itc x).toArray] w fun e w' => e = .returned (.tuple #[.int .i64 (next : Int), .int .i64 0]) ∧
      (∃ A' c', RLed w' r (fun b => T b ∨ Tx b ∨ w.heap.size ≤ b) A' c' (m ++ [{ x with num := (next : Int) }]) (next + 1) acked) ∧ Chg (· = r) w w' := by
  have HH := Lib.hid h
  have HX := Lib.hid hx
  have HXR := Lib.hid hxr
  have HR := Lib.hid h.row
  have d1 : ¬ x.size < 0 := by omega
  have d2 : ¬ 1200 < x.size := by omega
  have d3 : ¬ (64 : Int) ≤ (m.length : Int) := by omega
  have hn2 : (next : Int) < 4611686018427387904 := by omega
  have hn1 : (0 : Int) ≤ (next : Int) := by omega
  have HLL : Hid (m.length < 64) := Lib.hid hl
  obtain ⟨i5, hi5⟩ := infoS
  clear h hx hn hxr
  go_enter Try.func19, Try.ntmps19
  go_wp2_with (((with_reducible show wpList _ _ _ (⟨some 3, .box _ _, _, _, _, _⟩ :: _) _ _); refine wpList_box_Row rfl rfl (itc x) rfl ?_; intro w1 hr1 hc1 hs1; have HR1 := Lib.hid hr1; have HC1 := Lib.hid hc1; have x2 := hr1.cell 2; simp only [itc, List.getElem?_cons_zero, List.getElem?_cons_succ] at x2; have hg := HR.out.chg hc1 (fun h => h); have g0 := hg.cell 0; have g1 := hg.cell 1; have b0 := hr1.cell 0; have bf := hr1.frozen 0; simp only [itc, List.getElem?_cons_zero, List.getElem?_cons_succ] at g0 g1 b0; clear hr1 hc1 hs1 hg))
  have HIT : Hid (itc { x with num := (next : Int) } = (itc x).set 0 (.int .i64 (next : Int))) := Lib.hid rfl
  have HRB := Lib.hid (HR1.out.set 0 (.int .i64 (next : Int)))
  rw [← HIT.out] at HRB
  have HCW : Hid (Chg none_ w (w1.setCell ⟨w.heap.size, 0, none⟩ (.int .i64 (next : Int)))) := Lib.hid (HC1.out.setCell (p := ⟨w.heap.size, 0, none⟩) (fun h => absurd h (Nat.lt_irrefl _)) _)
  generalize w1.setCell ⟨w.heap.size, 0, none⟩ (.int .i64 (next : Int)) = ww at *
  clear g0 g1 b0 bf x2
  have HGW := Lib.hid (HH.out.quiet HCW.out)
  have hrl := HH.out.row.lt
  have HSZ : Hid (w.heap.size < ww.heap.size) := Lib.hid HRB.out.lt
  have HG0 : Hid (∀ z, Chg none_ ww z → z.cell? ⟨r, 0, none⟩ = some (.slice A m.length c)) := Lib.hid (fun z hz => (HGW.out.row.chg hz (fun h => h)).cell 0)
  have HBX : Hid (∀ z, Chg none_ ww z → z.rangeAt w.heap.size 0 (itc { x with num := (next : Int) })) := Lib.hid (fun z hz => (HRB.out.chg hz (fun h => h)).range)
  have HFIN : Hid (∀ (x2 : World) (v : Value), Chg none_ ww x2 → OwnS x2 ww.heap.size v (m ++ [{ x with num := (next : Int) }]) → Row (x2.setCell ⟨r, 0, none⟩ v) r 48 [v, .int .i64 (next : Int), .int .i64 (acked : Int)] ∧ Row (x2.setCell ⟨r, 0, none⟩ v) w.heap.size 32 (itc { x with num := (next : Int) }) ∧
      ∀ A3 cap3, v = .slice A3 (m.length + 1) cap3 → (∃ A' c', RLed ((x2.setCell ⟨r, 0, none⟩ v).setCell ⟨r, 1, none⟩ (.int .i64 ((next : Int) + 1))) r (fun b => T b ∨ Tx b ∨ w.heap.size ≤ b) A' c' (m ++ [{ x with num := (next : Int) }]) (next + 1) acked) ∧ Chg (· = r) w ((x2.setCell ⟨r, 0, none⟩ v).setCell ⟨r, 1, none⟩ (.int .i64 ((next : Int) + 1)))) := Lib.hid (fun x2 v hc ho => by
    have hr6 := (HGW.out.row.chg hc (fun h => h)).set 0 v
    have hb6 := (HRB.out.chg hc (fun h => h)).far (p := ⟨r, 0, none⟩) (by show w.heap.size ≠ r; omega) v
    refine ⟨hr6, hb6, ?_⟩
    rintro A3 cap3 rfl
    have hcr : Chg (· = r) x2 ((x2.setCell ⟨r, 0, none⟩ (.slice A3 (m.length + 1) cap3)).setCell ⟨r, 1, none⟩ (.int .i64 ((next : Int) + 1))) :=
      Chg.setCell (S := (· = r)) (Chg.setCell (S := (· = r)) (Chg.refl _ x2) (p := ⟨r, 0, none⟩) (fun _ => rfl) _) (p := ⟨r, 1, none⟩) (fun _ => rfl) _
    have hcw : Chg (· = r) w ((x2.setCell ⟨r, 0, none⟩ (.slice A3 (m.length + 1) cap3)).setCell ⟨r, 1, none⟩ (.int .i64 ((next : Int) + 1))) := (show Chg (· = r) w x2 from (HCW.out.trans hc).mono (fun _ _ h => h.elim)).trans hcr
    have hr7 := hr6.set 1 (.int .i64 ((next : Int) + 1))
    obtain ⟨A4, c4, e4, h4, _, v4⟩ := (ho.chg hcr (fun b e h => by have := (ho.lt e).1; have := HSZ.out; omega)).view
    rw [show (m ++ [({ x with num := (next : Int) } : It)]).length = m.length + 1 by simp] at e4 h4 v4
    injection e4 with e5 _ e6
    subst e5; subst e6
    have hsz := HSZ.out
    refine ⟨⟨A3, cap3, ⟨?_, ?_, ?_, fun z hz => ?_, fun b hb => ?_⟩⟩, hcw⟩
    · rw [show (m ++ [({ x with num := (next : Int) } : It)]).length = m.length + 1 by simp, show ((next + 1 : Nat) : Int) = (next : Int) + 1 by omega]
      exact hr7
    · rw [show (m ++ [({ x with num := (next : Int) } : It)]).length = m.length + 1 by simp]; exact h4
    · rw [show (m ++ [({ x with num := (next : Int) } : It)]).length = m.length + 1 by simp]
      exact v4.mono (fun b _ hb => Or.inr (Or.inr (by have := (ho.lt hb).1; omega)))
    · rcases List.mem_append.1 hz with hz | hz
      · exact ((HH.out.its z hz).chg hcw (fun b hb e => HH.out.nr b hb e)).mono (fun _ _ h => Or.inl h)
      · obtain rfl : z = { x with num := (next : Int) } := by simpa using hz
        exact (((HX.out.num (next : Int))).chg hcw (fun b hb e => HXR.out b hb e)).mono (fun _ _ h => Or.inr (Or.inl h))
    · rcases hb with hb | hb | hb
      · exact HH.out.nr b hb
      · exact HXR.out b hb
      · intro e; omega)
  refine wp_region_late (fun x => Chg none_ ww x) 12 (by kernel_rfl) ?_
  have hz : Chg none_ ww ww.drew := (Chg.refl _ ww).drew
  generalize ww.drew = wz at hz ⊢
  refine late_take (i := 0) (v := .pointer (some ⟨r, 0, none⟩)) [10, 11, 12] rfl (by kernel_rfl) (by kernel_rfl) (by kernel_rfl) (by kernel_rfl) (by first | exact fun _ _ _ h => h | exact fun _ _ _ h => nomatch h.1) (Or.inl ⟨by rfl, fun w_ hw_ => by go_simp⟩) hz ?_
  try simp only [Act.put, List.setIfInBounds_toArray, List.set_cons_zero, List.set_cons_succ, List.getElem_toArray, List.getElem_cons_zero]
  refine late_take (i := 2) (v := .pointer (some ⟨r, 0, none⟩)) [3, 4, 5, 6, 9, 12] rfl (by kernel_rfl) (by kernel_rfl) (by kernel_rfl) (by kernel_rfl) (by first | exact fun _ _ _ h => h | exact fun _ _ _ h => nomatch h.1) (Or.inl ⟨by rfl, fun w_ hw_ => by go_simp⟩) hz ?_
  try simp only [Act.put, List.setIfInBounds_toArray, List.set_cons_zero, List.set_cons_succ, List.getElem_toArray, List.getElem_cons_succ, List.getElem_cons_zero]
  refine late_take (i := 3) (v := .pointer (some ⟨r, 0, none⟩)) [4, 5, 6, 9, 12] rfl (by kernel_rfl) (by kernel_rfl) (by kernel_rfl) (by kernel_rfl) (by first | exact fun _ _ _ h => h | exact fun _ _ _ h => nomatch h.1) (Or.inl ⟨by rfl, fun w_ hw_ => by go_simp⟩) hz ?_
  try simp only [Act.put, List.setIfInBounds_toArray, List.set_cons_zero, List.set_cons_succ, List.getElem_toArray, List.getElem_cons_succ, List.getElem_cons_zero]
  refine late_take (i := 4) (v := .pointer (some ⟨r, 0, none⟩)) [5, 6, 9, 12] rfl (by kernel_rfl) (by kernel_rfl) (by kernel_rfl) (by kernel_rfl) (by first | exact fun _ _ _ h => h | exact fun _ _ _ h => nomatch h.1) (Or.inl ⟨by rfl, fun w_ hw_ => by go_simp⟩) hz ?_
  try simp only [Act.put, List.setIfInBounds_toArray, List.set_cons_zero, List.set_cons_succ, List.getElem_toArray, List.getElem_cons_succ, List.getElem_cons_zero]
  refine late_take (i := 5) (v := .slice A m.length c) [6, 9, 12] rfl (by kernel_rfl) (by kernel_rfl) (by kernel_rfl) (by kernel_rfl) (by first | exact fun _ _ _ h => h | exact fun _ _ _ h => nomatch h.1) (Or.inl ⟨by rfl, fun w_ hw_ => by have q1_ := HG0.out w_ hw_; go_simp⟩) hz ?_
  try simp only [Act.put, List.setIfInBounds_toArray, List.set_cons_zero, List.set_cons_succ, List.getElem_toArray, List.getElem_cons_succ, List.getElem_cons_zero]
  refine late_take (i := 7) (v := .agg (itc { x with num := (next : Int) }).toArray) [8, 9, 12] rfl (by kernel_rfl) (by kernel_rfl) (by kernel_rfl) (by kernel_rfl) (by first | exact fun _ _ _ h => h | exact fun _ _ _ h => nomatch h.1) (yieldsIf_load_mid (by rfl) 32 _ rfl w.heap.size 0 rfl (itc { x with num := (next : Int) }) _ (fun w' hw' => HBX.out w' hw') Try.underlying32 rfl sizeS) hz ?_
  try simp only [Act.put, List.setIfInBounds_toArray, List.set_cons_zero, List.set_cons_succ, List.getElem_toArray, List.getElem_cons_succ, List.getElem_cons_zero]
  refine late_two (i := 1) (j := 8) (by kernel_rfl) rfl rfl (fun K hK => ?_) (fun K hK => ?_)
  · rw [if_pos (by rfl)]
    try simp only [List.getElem_toArray, List.getElem_cons_succ, List.getElem_cons_zero]
    refine wp_new_row (v := fun g => .slice (some ⟨g, 0, none⟩) 0 0) (e := 32) (cs := []) (fun w_ => by go_simp) ?_
    intro x1 hr_x1 hc_x1 hs_x1
    have h1 : Chg none_ ww x1 := hz.trans hc_x1
    have o26 : OwnS x1 ww.heap.size (.slice (some ⟨wz.heap.size, 0, none⟩) 0 0) [] := OwnS_lit0 hr_x1 hz.size
    refine hK.out _ _ h1 ?_
    clear hK K
    try simp only [Act.put, List.setIfInBounds_toArray, List.set_cons_zero, List.set_cons_succ]
    refine late_two (i := 6) (j := 8) (by kernel_rfl) rfl rfl (fun K hK => ?_) (fun K hK => ?_)
    · rw [if_pos (by rfl)]
      try simp only [List.getElem_toArray, List.getElem_cons_succ, List.getElem_cons_zero]
      refine wp_append_N (w := x1) (c := itc) (e := 32) (s := 5) (base := ww.heap.size) (v := .slice (some ⟨wz.heap.size, 0, none⟩) 0 0) (L := []) (M := m) (T := T) (A := A) (m := m.length) (cp := c) (i := i5) (z := .agg (itc it0).toArray) _ _ 33 rfl Try.underlying33 hi5 rfl (by decide) itc_one itc_len rfl o26 rfl (HGW.out.view.chg h1 (fun _ _ h => h)) (by have := HLL.out; simp; omega) h1.size ?_
      intro v31 x2 o31 c31 n31
      have h2 : Chg none_ ww x2 := h1.andThen c31 (fun b hb e => by have := (o26.lt e).1; omega)
      refine hK.out _ _ h2 ?_
      clear hK K
      try simp only [Act.put, List.setIfInBounds_toArray, List.set_cons_zero, List.set_cons_succ]
      refine late_one (i := 8) (by kernel_rfl) rfl (fun K hK => ?_)
      rw [if_pos (by rfl)]
      try simp only [List.getElem_toArray, List.getElem_cons_succ, List.getElem_cons_zero]
      refine wp_new_row (v := fun g => .slice (some ⟨g, 0, none⟩) 1 1) (e := 32) (cs := itc { x with num := (next : Int) }) (fun w_ => by have := run_sliceS { x with num := (next : Int) } w_; simp [execOp, Act.eval] at this ⊢; simp [this]) ?_
      intro x3 hr_x3 hc_x3 hs_x3
      have h3 : Chg none_ ww x3 := h2.trans hc_x3
      have v33 := viewS hr_x3
      refine hK.out _ _ h3 ?_
      clear hK K
      try simp only [Act.put, List.setIfInBounds_toArray, List.set_cons_zero, List.set_cons_succ]
      refine late_one (i := 9) (by kernel_rfl) rfl (fun K hK => ?_)
      rw [if_pos (by rfl)]
      try simp only [List.getElem_toArray, List.getElem_cons_succ, List.getElem_cons_zero]
      refine wp_append_N (w := x3) (c := itc) (e := 32) (s := 5) (base := ww.heap.size) (v := v31) (L := [] ++ m) (M := [{ x with num := (next : Int) }]) (T := fun b => b = x2.heap.size) (A := some ⟨x2.heap.size, 0, none⟩) (m := 1) (cp := 1) (i := i5) (z := .agg (itc it0).toArray) _ _ 33 rfl Try.underlying33 hi5 rfl (by decide) itc_one itc_len rfl (o31.chg hc_x3 (fun _ _ h => h)) rfl v33 (by have := HLL.out; simp; omega) h3.size ?_
      intro v34 x4 o34 c34 n34
      have h4 : Chg none_ ww x4 := h3.andThen c34 (fun b hb e => by have := ((o31.chg hc_x3 (fun _ _ h => h)).lt e).1; omega)
      refine hK.out _ _ h4 ?_
      clear hK K
      try simp only [Act.put, List.setIfInBounds_toArray, List.set_cons_zero, List.set_cons_succ]
      have hf := HFIN.out x4 v34 h4 (by simpa using o34)
      obtain ⟨A3, cap3, rfl, _, _⟩ := shapeS o34
      refine late_take (i := 10) (v := .pointer (some ⟨r, 0, none⟩)) [11, 12] rfl (by kernel_rfl) (by kernel_rfl) (by kernel_rfl) (by kernel_rfl) (by first | exact fun _ _ _ h => h | exact fun _ _ _ h => nomatch h.1) (Or.inl ⟨by rfl, fun w_ hw_ => by go_simp⟩) h4 ?_
      try simp only [Act.put, List.setIfInBounds_toArray, List.set_cons_zero, List.set_cons_succ, List.getElem_toArray, List.getElem_cons_succ, List.getElem_cons_zero]
      refine late_take (i := 11) (v := .pointer (some ⟨r, 0, none⟩)) [12] rfl (by kernel_rfl) (by kernel_rfl) (by kernel_rfl) (by kernel_rfl) (by first | exact fun _ _ _ h => h | exact fun _ _ _ h => nomatch h.1) (Or.inl ⟨by rfl, fun w_ hw_ => by go_simp⟩) h4 ?_
      try simp only [Act.put, List.setIfInBounds_toArray, List.set_cons_zero, List.set_cons_succ, List.getElem_toArray, List.getElem_cons_succ, List.getElem_cons_zero]
      have cr := HG0.out x4 h4
      have fr := (HGW.out.row.chg h4 (fun h => h)).frozen 0
      have HFX := Lib.hid hf
      have e34 : ([] ++ m ++ [({ x with num := (next : Int) } : It)]).length = m.length + 1 := by simp
      rw [e34] at HFX ⊢
      clear o34 n34 c34 hf
      refine late_last (by kernel_rfl) rfl (by kernel_rfl) (fun K hK => ?_)
      rw [if_pos (by rfl)]
      try simp only [List.getElem_toArray, List.getElem_cons_succ, List.getElem_cons_zero]
      go_simp
      refine hK.out _ _ ?_
      clear hK K
      try simp only [Act.put, List.setIfInBounds_toArray, List.set_cons_zero, List.set_cons_succ, List.getElem_toArray, List.getElem_cons_succ, List.getElem_cons_zero]
      generalize x4.setCell ⟨r, 0, none⟩ (.slice A3 (m.length + 1) cap3) = w6 at *
      clear cr fr
      obtain ⟨HR6, HB6, HFF⟩ : Hid (Row w6 r 48 [.slice A3 (m.length + 1) cap3, .int .i64 (next : Int), .int .i64 (acked : Int)]) ∧ Hid (Row w6 w.heap.size 32 (itc { x with num := (next : Int) })) ∧ Hid _ := ⟨Lib.hid HFX.out.1, Lib.hid HFX.out.2.1, Lib.hid HFX.out.2.2⟩
      have g1 := HR6.out.cell 1
      have gf := HR6.out.frozen 1
      have b0 := HB6.out.cell 0
      simp only [itc, List.getElem?_cons_zero, List.getElem?_cons_succ] at g1 b0
      have hne : w.heap.size ≠ r := by omega
      have hne2 : r ≠ w.heap.size := by omega
      go_wp2
      refine bodyPost_ret (results_tmp2 rfl _ _ _) rfl ?_
      exact ⟨rfl, HFF.out A3 cap3 rfl⟩
    · rw [if_pos (by rfl)]
      try simp only [List.getElem_toArray, List.getElem_cons_succ, List.getElem_cons_zero]
      refine wp_new_row (v := fun g => .slice (some ⟨g, 0, none⟩) 1 1) (e := 32) (cs := itc { x with num := (next : Int) }) (fun w_ => by have := run_sliceS { x with num := (next : Int) } w_; simp [execOp, Act.eval] at this ⊢; simp [this]) ?_
      intro x2 hr_x2 hc_x2 hs_x2
      have h2 : Chg none_ ww x2 := h1.trans hc_x2
      have v33 := viewS hr_x2
      refine hK.out _ _ h2 ?_
      clear hK K
      try simp only [Act.put, List.setIfInBounds_toArray, List.set_cons_zero, List.set_cons_succ]
      refine late_one (i := 6) (by kernel_rfl) rfl (fun K hK => ?_)
      rw [if_pos (by rfl)]
      try simp only [List.getElem_toArray, List.getElem_cons_succ, List.getElem_cons_zero]
      refine wp_append_N (w := x2) (c := itc) (e := 32) (s := 5) (base := ww.heap.size) (v := .slice (some ⟨wz.heap.size, 0, none⟩) 0 0) (L := []) (M := m) (T := T) (A := A) (m := m.length) (cp := c) (i := i5) (z := .agg (itc it0).toArray) _ _ 33 rfl Try.underlying33 hi5 rfl (by decide) itc_one itc_len rfl (o26.chg hc_x2 (fun _ _ h => h)) rfl (HGW.out.view.chg h2 (fun _ _ h => h)) (by have := HLL.out; simp; omega) h2.size ?_
      intro v31 x3 o31 c31 n31
      have h3 : Chg none_ ww x3 := h2.andThen c31 (fun b hb e => by have := ((o26.chg hc_x2 (fun _ _ h => h)).lt e).1; omega)
      refine hK.out _ _ h3 ?_
      clear hK K
      try simp only [Act.put, List.setIfInBounds_toArray, List.set_cons_zero, List.set_cons_succ]
      refine late_one (i := 9) (by kernel_rfl) rfl (fun K hK => ?_)
      rw [if_pos (by rfl)]
      try simp only [List.getElem_toArray, List.getElem_cons_succ, List.getElem_cons_zero]
      refine wp_append_N (w := x3) (c := itc) (e := 32) (s := 5) (base := ww.heap.size) (v := v31) (L := [] ++ m) (M := [{ x with num := (next : Int) }]) (T := fun b => b = x1.heap.size) (A := some ⟨x1.heap.size, 0, none⟩) (m := 1) (cp := 1) (i := i5) (z := .agg (itc it0).toArray) _ _ 33 rfl Try.underlying33 hi5 rfl (by decide) itc_one itc_len rfl o31 rfl (v33.chg c31 (fun b (e : b = x1.heap.size) h => by have h2 : some wz.heap.size = some b := h; injection h2 with h2; omega)) (by have := HLL.out; simp; omega) h3.size ?_
      intro v34 x4 o34 c34 n34
      have h4 : Chg none_ ww x4 := h3.andThen c34 (fun b hb e => by have := (o31.lt e).1; omega)
      refine hK.out _ _ h4 ?_
      clear hK K
      try simp only [Act.put, List.setIfInBounds_toArray, List.set_cons_zero, List.set_cons_succ]
      have hf := HFIN.out x4 v34 h4 (by simpa using o34)
      obtain ⟨A3, cap3, rfl, _, _⟩ := shapeS o34
      refine late_take (i := 10) (v := .pointer (some ⟨r, 0, none⟩)) [11, 12] rfl (by kernel_rfl) (by kernel_rfl) (by kernel_rfl) (by kernel_rfl) (by first | exact fun _ _ _ h => h | exact fun _ _ _ h => nomatch h.1) (Or.inl ⟨by rfl, fun w_ hw_ => by go_simp⟩) h4 ?_
      try simp only [Act.put, List.setIfInBounds_toArray, List.set_cons_zero, List.set_cons_succ, List.getElem_toArray, List.getElem_cons_succ, List.getElem_cons_zero]
      refine late_take (i := 11) (v := .pointer (some ⟨r, 0, none⟩)) [12] rfl (by kernel_rfl) (by kernel_rfl) (by kernel_rfl) (by kernel_rfl) (by first | exact fun _ _ _ h => h | exact fun _ _ _ h => nomatch h.1) (Or.inl ⟨by rfl, fun w_ hw_ => by go_simp⟩) h4 ?_
      try simp only [Act.put, List.setIfInBounds_toArray, List.set_cons_zero, List.set_cons_succ, List.getElem_toArray, List.getElem_cons_succ, List.getElem_cons_zero]
      have cr := HG0.out x4 h4
      have fr := (HGW.out.row.chg h4 (fun h => h)).frozen 0
      have HFX := Lib.hid hf
      have e34 : ([] ++ m ++ [({ x with num := (next : Int) } : It)]).length = m.length + 1 := by simp
      rw [e34] at HFX ⊢
      clear o34 n34 c34 hf
      refine late_last (by kernel_rfl) rfl (by kernel_rfl) (fun K hK => ?_)
      rw [if_pos (by rfl)]
      try simp only [List.getElem_toArray, List.getElem_cons_succ, List.getElem_cons_zero]
      go_simp
      refine hK.out _ _ ?_
      clear hK K
      try simp only [Act.put, List.setIfInBounds_toArray, List.set_cons_zero, List.set_cons_succ, List.getElem_toArray, List.getElem_cons_succ, List.getElem_cons_zero]
      generalize x4.setCell ⟨r, 0, none⟩ (.slice A3 (m.length + 1) cap3) = w6 at *
      clear cr fr
      obtain ⟨HR6, HB6, HFF⟩ : Hid (Row w6 r 48 [.slice A3 (m.length + 1) cap3, .int .i64 (next : Int), .int .i64 (acked : Int)]) ∧ Hid (Row w6 w.heap.size 32 (itc { x with num := (next : Int) })) ∧ Hid _ := ⟨Lib.hid HFX.out.1, Lib.hid HFX.out.2.1, Lib.hid HFX.out.2.2⟩
      have g1 := HR6.out.cell 1
      have gf := HR6.out.frozen 1
      have b0 := HB6.out.cell 0
      simp only [itc, List.getElem?_cons_zero, List.getElem?_cons_succ] at g1 b0
      have hne : w.heap.size ≠ r := by omega
      have hne2 : r ≠ w.heap.size := by omega
      go_wp2
      refine bodyPost_ret (results_tmp2 rfl _ _ _) rfl ?_
      exact ⟨rfl, HFF.out A3 cap3 rfl⟩
  · rw [if_pos (by rfl)]
    try simp only [List.getElem_toArray, List.getElem_cons_succ, List.getElem_cons_zero]
    refine wp_new_row (v := fun g => .slice (some ⟨g, 0, none⟩) 1 1) (e := 32) (cs := itc { x with num := (next : Int) }) (fun w_ => by have := run_sliceS { x with num := (next : Int) } w_; simp [execOp, Act.eval] at this ⊢; simp [this]) ?_
    intro x1 hr_x1 hc_x1 hs_x1
    have h1 : Chg none_ ww x1 := hz.trans hc_x1
    have v33 := viewS hr_x1
    refine hK.out _ _ h1 ?_
    clear hK K
    try simp only [Act.put, List.setIfInBounds_toArray, List.set_cons_zero, List.set_cons_succ]
    refine late_one (i := 1) (by kernel_rfl) rfl (fun K hK => ?_)
    rw [if_pos (by rfl)]
    try simp only [List.getElem_toArray, List.getElem_cons_succ, List.getElem_cons_zero]
    refine wp_new_row (v := fun g => .slice (some ⟨g, 0, none⟩) 0 0) (e := 32) (cs := []) (fun w_ => by go_simp) ?_
    intro x2 hr_x2 hc_x2 hs_x2
    have h2 : Chg none_ ww x2 := h1.trans hc_x2
    have o26 : OwnS x2 ww.heap.size (.slice (some ⟨x1.heap.size, 0, none⟩) 0 0) [] := OwnS_lit0 hr_x2 h1.size
    refine hK.out _ _ h2 ?_
    clear hK K
    try simp only [Act.put, List.setIfInBounds_toArray, List.set_cons_zero, List.set_cons_succ]
    refine late_one (i := 6) (by kernel_rfl) rfl (fun K hK => ?_)
    rw [if_pos (by rfl)]
    try simp only [List.getElem_toArray, List.getElem_cons_succ, List.getElem_cons_zero]
    refine wp_append_N (w := x2) (c := itc) (e := 32) (s := 5) (base := ww.heap.size) (v := .slice (some ⟨x1.heap.size, 0, none⟩) 0 0) (L := []) (M := m) (T := T) (A := A) (m := m.length) (cp := c) (i := i5) (z := .agg (itc it0).toArray) _ _ 33 rfl Try.underlying33 hi5 rfl (by decide) itc_one itc_len rfl o26 rfl (HGW.out.view.chg h2 (fun _ _ h => h)) (by have := HLL.out; simp; omega) h2.size ?_
    intro v31 x3 o31 c31 n31
    have h3 : Chg none_ ww x3 := h2.andThen c31 (fun b hb e => by have := (o26.lt e).1; omega)
    refine hK.out _ _ h3 ?_
    clear hK K
    try simp only [Act.put, List.setIfInBounds_toArray, List.set_cons_zero, List.set_cons_succ]
    refine late_one (i := 9) (by kernel_rfl) rfl (fun K hK => ?_)
    rw [if_pos (by rfl)]
    try simp only [List.getElem_toArray, List.getElem_cons_succ, List.getElem_cons_zero]
    refine wp_append_N (w := x3) (c := itc) (e := 32) (s := 5) (base := ww.heap.size) (v := v31) (L := [] ++ m) (M := [{ x with num := (next : Int) }]) (T := fun b => b = wz.heap.size) (A := some ⟨wz.heap.size, 0, none⟩) (m := 1) (cp := 1) (i := i5) (z := .agg (itc it0).toArray) _ _ 33 rfl Try.underlying33 hi5 rfl (by decide) itc_one itc_len rfl o31 rfl ((v33.chg hc_x2 (fun _ _ h => h)).chg c31 (fun b (e : b = wz.heap.size) h => by have h2 : some x1.heap.size = some b := h; injection h2 with h2; omega)) (by have := HLL.out; simp; omega) h3.size ?_
    intro v34 x4 o34 c34 n34
    have h4 : Chg none_ ww x4 := h3.andThen c34 (fun b hb e => by have := (o31.lt e).1; omega)
    refine hK.out _ _ h4 ?_
    clear hK K
    try simp only [Act.put, List.setIfInBounds_toArray, List.set_cons_zero, List.set_cons_succ]
    have hf := HFIN.out x4 v34 h4 (by simpa using o34)
    obtain ⟨A3, cap3, rfl, _, _⟩ := shapeS o34
    refine late_take (i := 10) (v := .pointer (some ⟨r, 0, none⟩)) [11, 12] rfl (by kernel_rfl) (by kernel_rfl) (by kernel_rfl) (by kernel_rfl) (by first | exact fun _ _ _ h => h | exact fun _ _ _ h => nomatch h.1) (Or.inl ⟨by rfl, fun w_ hw_ => by go_simp⟩) h4 ?_
    try simp only [Act.put, List.setIfInBounds_toArray, List.set_cons_zero, List.set_cons_succ, List.getElem_toArray, List.getElem_cons_succ, List.getElem_cons_zero]
    refine late_take (i := 11) (v := .pointer (some ⟨r, 0, none⟩)) [12] rfl (by kernel_rfl) (by kernel_rfl) (by kernel_rfl) (by kernel_rfl) (by first | exact fun _ _ _ h => h | exact fun _ _ _ h => nomatch h.1) (Or.inl ⟨by rfl, fun w_ hw_ => by go_simp⟩) h4 ?_
    try simp only [Act.put, List.setIfInBounds_toArray, List.set_cons_zero, List.set_cons_succ, List.getElem_toArray, List.getElem_cons_succ, List.getElem_cons_zero]
    have cr := HG0.out x4 h4
    have fr := (HGW.out.row.chg h4 (fun h => h)).frozen 0
    have HFX := Lib.hid hf
    have e34 : ([] ++ m ++ [({ x with num := (next : Int) } : It)]).length = m.length + 1 := by simp
    rw [e34] at HFX ⊢
    clear o34 n34 c34 hf
    refine late_last (by kernel_rfl) rfl (by kernel_rfl) (fun K hK => ?_)
    rw [if_pos (by rfl)]
    try simp only [List.getElem_toArray, List.getElem_cons_succ, List.getElem_cons_zero]
    go_simp
    refine hK.out _ _ ?_
    clear hK K
    try simp only [Act.put, List.setIfInBounds_toArray, List.set_cons_zero, List.set_cons_succ, List.getElem_toArray, List.getElem_cons_succ, List.getElem_cons_zero]
    generalize x4.setCell ⟨r, 0, none⟩ (.slice A3 (m.length + 1) cap3) = w6 at *
    clear cr fr
    obtain ⟨HR6, HB6, HFF⟩ : Hid (Row w6 r 48 [.slice A3 (m.length + 1) cap3, .int .i64 (next : Int), .int .i64 (acked : Int)]) ∧ Hid (Row w6 w.heap.size 32 (itc { x with num := (next : Int) })) ∧ Hid _ := ⟨Lib.hid HFX.out.1, Lib.hid HFX.out.2.1, Lib.hid HFX.out.2.2⟩
    have g1 := HR6.out.cell 1
    have gf := HR6.out.frozen 1
    have b0 := HB6.out.cell 0
    simp only [itc, List.getElem?_cons_zero, List.getElem?_cons_succ] at g1 b0
    have hne : w.heap.size ≠ r := by omega
    have hne2 : r ≠ w.heap.size := by omega
    go_wp2
    refine bodyPost_ret (results_tmp2 rfl _ _ _) rfl ?_
    exact ⟨rfl, HFF.out A3 cap3 rfl⟩
end Go.Proofs.Ytakoeamfmmbdiaa
