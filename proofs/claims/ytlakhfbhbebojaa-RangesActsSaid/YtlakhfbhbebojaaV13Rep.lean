/- Layer 13 (ranges): append of ranges, and replace: ranges in the place of others. -/
import Derived.Test.YtlakhfbhbebojaaV13Read
import Derived.Test.YtlakhfbhbebojaaSliceM
namespace Go.Proofs.Ytlakhfbhbebojaa
open Go.RowKit Go.Shelf Go.Sort

theorem rcells_take (l : List (Nat × Nat)) (k : Nat) : rcells (l.take k) = (rcells l).take (k * 2) := by
  induction l generalizing k with
  | nil => simp [rcells]
  | cons a l ih =>
    cases k with
    | zero => simp [rcells]
    | succ k =>
      rw [List.take_succ_cons, show rcells (a :: l.take k) = rcell a ++ rcells (l.take k) by simp [rcells], ih, show rcells (a :: l) = rcell a ++ rcells l by simp [rcells], show (k + 1) * 2 = (rcell a).length + k * 2 by rw [rcell_len]; omega, List.take_length_add_append]
theorem rcells_drop (l : List (Nat × Nat)) (k : Nat) : rcells (l.drop k) = (rcells l).drop (k * 2) := by
  induction l generalizing k with
  | nil => simp [rcells]
  | cons a l ih =>
    cases k with
    | zero => simp
    | succ k =>
      rw [List.drop_succ_cons, ih, show rcells (a :: l) = rcell a ++ rcells l by simp [rcells], show (k + 1) * 2 = (rcell a).length + k * 2 by rw [rcell_len]; omega, List.drop_append]
      simp

section
variable {o : Oper} {a : Act} {w w0 : World} {K : Act → World → Prop} {Q : Exit → Act → World → Prop}
theorem wp_append_R (s x : Operand) (ho : o.op = .call { callee := .builtin .append, args := #[s, x], argTypes := #[27, 27] }) {base : Nat} {v : Value} {L M : List (Nat × Nat)} {T : Nat → Prop} {A : Option Addr} {m c : Nat}
    (hs : a.eval s = v) (hown : OwnedR w base v L) (hx : a.eval x = .slice A m c) (hv : View w T A (m * 2) (rcells M)) (hlen : L.length + m ≤ 1000000) (hbase : base ≤ w.heap.size) (hc0 : Chg none_ w0 w) (hb0 : w0.heap.size ≤ base)
    (k : ∀ v' w', OwnedR w' base v' (L ++ M) → Chg none_ w0 w' → K (a.put o.dst v') w') : Oper.wp Try.prog o a w K Q := by
  obtain ⟨i0, hi, hz0, hz1, hz2⟩ := infoR_parts
  have hm : M.length = m := by have := hv.1; rw [rcells_len] at this; omega
  obtain ⟨v', w', hr, h2, h3⟩ := run_append_viewN (P := Try.prog) w 27 o.type 41 i0 _ 2 16 Try.underlying27 hi hz0 hz1 hz2 rfl (by decide) base v L.length (rcells L) hown T A m c (rcells M) hv (rcells_one _) (by unfold maxLen; omega) (by omega) hbase
  unfold Oper.wp execOp
  simp only [ho, resolve, invoke, builtin, Sem.run_bind, Sem.run_pure, Result.andThen_ok, List.map_toArray, List.map_cons, List.map_nil, hs, hx, hr]
  refine k v' w' ?_ (hc0.appendN hb0 hown h3)
  unfold OwnedR
  rw [List.length_append, hm, rcells_append]
  exact h2
theorem wp_append_fullR (s x : Operand) (ho : o.op = .call { callee := .builtin .append, args := #[s, x], argTypes := #[27, 27] }) {L M : List (Nat × Nat)} {T T' : Nat → Prop} {A B : Option Addr} {n m c : Nat}
    (hs : a.eval s = .slice B n n) (hvo : View w T' B (n * 2) (rcells L)) (hx : a.eval x = .slice A m c) (hv : View w T A (m * 2) (rcells M)) (hm0 : 0 < m) (hlen : n + m ≤ 1000000) (hc0 : Chg none_ w0 w)
    (k : ∀ v' w', OwnedR w' w0.heap.size v' (L ++ M) → Chg none_ w0 w' → K (a.put o.dst v') w') : Oper.wp Try.prog o a w K Q := by
  obtain ⟨i0, hi, hz0, hz1, hz2⟩ := infoR_parts
  have hm : M.length = m := by have := hv.1; rw [rcells_len] at this; omega
  have hn : L.length = n := by have := hvo.1; rw [rcells_len] at this; omega
  obtain ⟨v', w', hr, h2, h3⟩ := run_append_fullN (P := Try.prog) w 27 o.type 41 i0 _ 2 16 Try.underlying27 hi hz0 hz1 hz2 rfl (by decide) B n T' (rcells L) hvo T A m c (rcells M) hv hm0 (by unfold maxLen; omega) (by omega)
  unfold Oper.wp execOp
  simp only [ho, resolve, invoke, builtin, Sem.run_bind, Sem.run_pure, Result.andThen_ok, List.map_toArray, List.map_cons, List.map_nil, hs, hx, hr]
  refine k v' w' ?_ (hc0.trans h3)
  unfold OwnedR
  rw [List.length_append, hm, hn, rcells_append]
  refine ⟨h2.1, ?_⟩
  rcases h2.2 with h4 | ⟨g, cap, cur, h4, h5, h6⟩
  · exact Or.inl h4
  · exact Or.inr ⟨g, cap, cur, h4, Nat.le_trans hc0.size h5, h6⟩
theorem wp_append_noneR (s x : Operand) (ho : o.op = .call { callee := .builtin .append, args := #[s, x], argTypes := #[27, 27] }) {A B : Option Addr} {n cap c : Nat}
    (hs : a.eval s = .slice A n cap) (hn : n ≤ cap) (hA : A = none → cap = 0) (hx : a.eval x = .slice B 0 c)
    (k : K (a.put o.dst (.slice A n cap)) w) : Oper.wp Try.prog o a w K Q := by
  obtain ⟨i0, hi, _, _, _⟩ := infoR_parts
  have hr := run_append_noneN (P := Try.prog) w 27 o.type 41 i0 Try.underlying27 hi A n cap hn none_ B c (View.none_ _ _ _) hA
  unfold Oper.wp execOp
  simp only [ho, resolve, invoke, builtin, Sem.run_bind, Sem.run_pure, Result.andThen_ok, List.map_toArray, List.map_cons, List.map_nil, hs, hx, hr]
  exact k
end

theorem SetAt.store {w w2 : World} {B g y : Nat} {A0 A2 : Option Addr} {n0 cap0 cap2 : Nat} {L : List (Nat × Nat)} (hr : Row w g 32 [.slice A0 n0 cap0, .int .u64 (y : Int)]) (hgB : g < B) (hB : B ≤ w.heap.size) (hc : Chg none_ w w2) (h1 : L.length ≤ cap2) (h2 : cap2 ≤ maxLen) (hv : View w2 (fun b => B ≤ b) A2 (L.length * 2) (rcells L)) :
    SetAt (w2.setCell ⟨g, 0, none⟩ (.slice A2 L.length cap2)) B g L y ∧ Chg (· = g) w (w2.setCell ⟨g, 0, none⟩ (.slice A2 L.length cap2)) := by
  refine ⟨⟨A2, cap2, (hr.chg hc (fun h => h)).set 0 _, h1, h2, hv.setCell _ (by show ¬ B ≤ g; omega) _, hgB, ?_⟩, (show Chg (· = g) w w2 from hc.mono (fun _ _ h => h.elim)).setCell (p := ⟨g, 0, none⟩) (fun _ => rfl) _⟩
  have := hc.size
  simpa [World.setCell] using Nat.le_trans hB this

set_option maxRecDepth 100000 in
set_option maxHeartbeats 4000000 in
theorem replace_any (g B y i j : Nat) (l M : List (Nat × Nat)) (AM : Option Addr) (m c : Nat) (T : Nat → Prop) (w : World) (h : SetAt w B g l y) (hij : i ≤ j) (hj : j ≤ l.length) (hl : l.length ≤ 1000) (hml : m ≤ 1000) (hM : View w T AM (m * 2) (rcells M)) (hm : 0 < m) :
    Calls Try.prog 24 #[.pointer (some ⟨g, 0, none⟩), .int .i64 (i : Int), .int .i64 (j : Int), .slice AM m c] w fun e w' => e = .returned (.tuple #[]) ∧ SetAt w' B g (l.take i ++ M ++ l.drop j) y ∧ Chg (· = g) w w' := by
  obtain ⟨A, cap, hr, hcap, hmx, hv, hgB, hBw⟩ := h
  have c0 : w.cell? ⟨g, 0, none⟩ = some (.slice A l.length cap) := hr.cell 0
  have HRW := Lib.hid hr
  have HRL := Lib.hid hr.lt
  have HV1 := Lib.hid (show ∀ w', Chg none_ w w' → View w' (fun b => B ≤ b) (highN A i) (i * 2) (rcells (l.take i)) from fun w' hc => by
    have := ((hv.chg hc (fun _ _ h => h)).take (k := i * 2) (by omega)).highN i
    rwa [← rcells_take] at this)
  have HV2 := Lib.hid (show ∀ w', Chg none_ w w' → View w' (fun b => B ≤ b) (dropN A cap j 2) ((l.length - j) * 2) (rcells (l.drop j)) from fun w' hc => by
    have := (hv.chg hc (fun _ _ h => h)).dropN (k := j) hcap
    rwa [← rcells_drop] at this)
  have HVM := Lib.hid (show ∀ w', Chg none_ w w' → View w' T AM (m * 2) (rcells M) from fun w' hc => hM.chg hc (fun _ _ h => h))
  have HM := Lib.hid (show M.length = m by have := hM.1; rw [rcells_len] at this; omega)
  have HFIN : Hid (∀ w2 v2, OwnedR w2 w.heap.size v2 (l.take i ++ M ++ l.drop j) → Chg none_ w w2 → ∃ A2 n2 cap2, v2 = .slice A2 n2 cap2 ∧ SetAt (w2.setCell ⟨g, 0, none⟩ (.slice A2 n2 cap2)) B g (l.take i ++ M ++ l.drop j) y ∧ Chg (· = g) w (w2.setCell ⟨g, 0, none⟩ (.slice A2 n2 cap2))) := Lib.hid (fun w2 v2 ho hc => by
    obtain ⟨A2, cap2, e, k1, k2, k3⟩ := ho.view
    exact ⟨A2, _, cap2, e, SetAt.store hr hgB hBw hc k1 k2 (k3.mono (fun b _ hb => Nat.le_trans hBw hb))⟩)
  clear hr hv hM
  go_enter Try.func24, Try.ntmps24
  refine wp_region_late (fun w' => Chg none_ w w') 19 (by kernel_rfl) ?_
  refine late_take (i := 0) (v := .pointer (some ⟨g, 0, none⟩)) [17, 18, 19] rfl (by kernel_rfl) (by kernel_rfl) (by kernel_rfl) (by kernel_rfl) (by first | exact fun _ _ _ h => h | exact fun _ _ _ h => nomatch h.1) (Or.inl ⟨by rfl, fun w_ hw_ => by go_simp⟩) ((Chg.refl none_ w).drew) ?_
  try simp only [Act.put, List.setIfInBounds_toArray, List.set_cons_zero, List.set_cons_succ, List.getElem_toArray, List.getElem_cons_zero]
  refine late_take (i := 1) (v := .pointer (some ⟨g, 0, none⟩)) [2, 3, 4, 7, 9, 16, 19] rfl (by kernel_rfl) (by kernel_rfl) (by kernel_rfl) (by kernel_rfl) (by first | exact fun _ _ _ h => h | exact fun _ _ _ h => nomatch h.1) (Or.inl ⟨by rfl, fun w_ hw_ => by go_simp⟩) ((Chg.refl none_ w).drew) ?_
  try simp only [Act.put, List.setIfInBounds_toArray, List.set_cons_zero, List.set_cons_succ, List.getElem_toArray, List.getElem_cons_succ, List.getElem_cons_zero]
  refine late_take (i := 2) (v := .pointer (some ⟨g, 0, none⟩)) [3, 4, 7, 9, 16, 19] rfl (by kernel_rfl) (by kernel_rfl) (by kernel_rfl) (by kernel_rfl) (by first | exact fun _ _ _ h => h | exact fun _ _ _ h => nomatch h.1) (Or.inl ⟨by rfl, fun w_ hw_ => by go_simp⟩) ((Chg.refl none_ w).drew) ?_
  try simp only [Act.put, List.setIfInBounds_toArray, List.set_cons_zero, List.set_cons_succ, List.getElem_toArray, List.getElem_cons_succ, List.getElem_cons_zero]
  refine late_take (i := 3) (v := .pointer (some ⟨g, 0, none⟩)) [4, 7, 9, 16, 19] rfl (by kernel_rfl) (by kernel_rfl) (by kernel_rfl) (by kernel_rfl) (by first | exact fun _ _ _ h => h | exact fun _ _ _ h => nomatch h.1) (Or.inl ⟨by rfl, fun w_ hw_ => by go_simp⟩) ((Chg.refl none_ w).drew) ?_
  try simp only [Act.put, List.setIfInBounds_toArray, List.set_cons_zero, List.set_cons_succ, List.getElem_toArray, List.getElem_cons_succ, List.getElem_cons_zero]
  refine late_take (i := 4) (v := .slice A l.length cap) [7, 9, 16, 19] rfl (by kernel_rfl) (by kernel_rfl) (by kernel_rfl) (by kernel_rfl) (by first | exact fun _ _ _ h => h | exact fun _ _ _ h => nomatch h.1) (Or.inl ⟨by rfl, fun w_ hw_ => by have c0_ := (Chg.cell hw_ 0 HRL.out (fun h => h)).trans c0; go_simp⟩) ((Chg.refl none_ w).drew) ?_
  try simp only [Act.put, List.setIfInBounds_toArray, List.set_cons_zero, List.set_cons_succ, List.getElem_toArray, List.getElem_cons_succ, List.getElem_cons_zero]
  refine late_take (i := 5) (v := .int .i64 (i : Int)) [7, 9, 16, 19] rfl (by kernel_rfl) (by kernel_rfl) (by kernel_rfl) (by kernel_rfl) (by first | exact fun _ _ _ h => h | exact fun _ _ _ h => nomatch h.1) (Or.inl ⟨by rfl, fun w_ hw_ => by go_simp⟩) ((Chg.refl none_ w).drew) ?_
  try simp only [Act.put, List.setIfInBounds_toArray, List.set_cons_zero, List.set_cons_succ, List.getElem_toArray, List.getElem_cons_succ, List.getElem_cons_zero]
  refine late_take (i := 6) (v := .int .i64 (i : Int)) [7, 9, 16, 19] rfl (by kernel_rfl) (by kernel_rfl) (by kernel_rfl) (by kernel_rfl) (by first | exact fun _ _ _ h => h | exact fun _ _ _ h => nomatch h.1) (Or.inl ⟨by rfl, fun w_ hw_ => by go_simp⟩) ((Chg.refl none_ w).drew) ?_
  try simp only [Act.put, List.setIfInBounds_toArray, List.set_cons_zero, List.set_cons_succ, List.getElem_toArray, List.getElem_cons_succ, List.getElem_cons_zero]
  refine late_take (i := 7) (v := .slice (highN A i) i i) [9, 16, 19] rfl (by kernel_rfl) (by kernel_rfl) (by kernel_rfl) (by kernel_rfl) (by first | exact fun _ _ _ h => h | exact fun _ _ _ h => nomatch h.1) (yieldsIf_slice_hmN (by rfl) 27 41 _ _ _ rfl A l.length cap i 2 rfl rfl rfl Try.underlying27 sizeR (by omega)) ((Chg.refl none_ w).drew) ?_
  try simp only [Act.put, List.setIfInBounds_toArray, List.set_cons_zero, List.set_cons_succ, List.getElem_toArray, List.getElem_cons_succ, List.getElem_cons_zero]
  refine late_take (i := 8) (v := .slice AM m c) [9, 16, 19] rfl (by kernel_rfl) (by kernel_rfl) (by kernel_rfl) (by kernel_rfl) (by first | exact fun _ _ _ h => h | exact fun _ _ _ h => nomatch h.1) (Or.inl ⟨by rfl, fun w_ hw_ => by go_simp⟩) ((Chg.refl none_ w).drew) ?_
  try simp only [Act.put, List.setIfInBounds_toArray, List.set_cons_zero, List.set_cons_succ, List.getElem_toArray, List.getElem_cons_succ, List.getElem_cons_zero]
  refine late_take (i := 10) (v := .pointer (some ⟨g, 0, none⟩)) [11, 12, 13, 15, 16, 19] rfl (by kernel_rfl) (by kernel_rfl) (by kernel_rfl) (by kernel_rfl) (by first | exact fun _ _ _ h => h | exact fun _ _ _ h => nomatch h.1) (Or.inl ⟨by rfl, fun w_ hw_ => by go_simp⟩) ((Chg.refl none_ w).drew) ?_
  try simp only [Act.put, List.setIfInBounds_toArray, List.set_cons_zero, List.set_cons_succ, List.getElem_toArray, List.getElem_cons_succ, List.getElem_cons_zero]
  refine late_take (i := 11) (v := .pointer (some ⟨g, 0, none⟩)) [12, 13, 15, 16, 19] rfl (by kernel_rfl) (by kernel_rfl) (by kernel_rfl) (by kernel_rfl) (by first | exact fun _ _ _ h => h | exact fun _ _ _ h => nomatch h.1) (Or.inl ⟨by rfl, fun w_ hw_ => by go_simp⟩) ((Chg.refl none_ w).drew) ?_
  try simp only [Act.put, List.setIfInBounds_toArray, List.set_cons_zero, List.set_cons_succ, List.getElem_toArray, List.getElem_cons_succ, List.getElem_cons_zero]
  refine late_take (i := 12) (v := .pointer (some ⟨g, 0, none⟩)) [13, 15, 16, 19] rfl (by kernel_rfl) (by kernel_rfl) (by kernel_rfl) (by kernel_rfl) (by first | exact fun _ _ _ h => h | exact fun _ _ _ h => nomatch h.1) (Or.inl ⟨by rfl, fun w_ hw_ => by go_simp⟩) ((Chg.refl none_ w).drew) ?_
  try simp only [Act.put, List.setIfInBounds_toArray, List.set_cons_zero, List.set_cons_succ, List.getElem_toArray, List.getElem_cons_succ, List.getElem_cons_zero]
  refine late_take (i := 13) (v := .slice A l.length cap) [15, 16, 19] rfl (by kernel_rfl) (by kernel_rfl) (by kernel_rfl) (by kernel_rfl) (by first | exact fun _ _ _ h => h | exact fun _ _ _ h => nomatch h.1) (Or.inl ⟨by rfl, fun w_ hw_ => by have c0_ := (Chg.cell hw_ 0 HRL.out (fun h => h)).trans c0; go_simp⟩) ((Chg.refl none_ w).drew) ?_
  try simp only [Act.put, List.setIfInBounds_toArray, List.set_cons_zero, List.set_cons_succ, List.getElem_toArray, List.getElem_cons_succ, List.getElem_cons_zero]
  refine late_take (i := 14) (v := .int .i64 (j : Int)) [15, 16, 19] rfl (by kernel_rfl) (by kernel_rfl) (by kernel_rfl) (by kernel_rfl) (by first | exact fun _ _ _ h => h | exact fun _ _ _ h => nomatch h.1) (Or.inl ⟨by rfl, fun w_ hw_ => by go_simp⟩) ((Chg.refl none_ w).drew) ?_
  try simp only [Act.put, List.setIfInBounds_toArray, List.set_cons_zero, List.set_cons_succ, List.getElem_toArray, List.getElem_cons_succ, List.getElem_cons_zero]
  refine late_take (i := 15) (v := .slice (dropN A cap j 2) (l.length - j) (cap - j)) [16, 19] rfl (by kernel_rfl) (by kernel_rfl) (by kernel_rfl) (by kernel_rfl) (by first | exact fun _ _ _ h => h | exact fun _ _ _ h => nomatch h.1) (yieldsIf_slice_lowN (by rfl) 27 41 _ _ rfl A l.length cap j 2 rfl rfl Try.underlying27 sizeR (by omega)) ((Chg.refl none_ w).drew) ?_
  try simp only [Act.put, List.setIfInBounds_toArray, List.set_cons_zero, List.set_cons_succ, List.getElem_toArray, List.getElem_cons_succ, List.getElem_cons_zero]
  refine late_one (i := 9) (by kernel_rfl) rfl (fun K hK => ?_)
  rw [if_pos (by rfl)]
  try simp only [List.getElem_toArray, List.getElem_cons_succ, List.getElem_cons_zero]
  refine wp_append_fullR (.tmp 15) (.tmp 16) rfl (L := l.take i) (M := M) (w0 := w) rfl (HV1.out _ ((Chg.refl none_ w).drew)) rfl (HVM.out _ ((Chg.refl none_ w).drew)) hm (by omega) ((Chg.refl none_ w).drew) ?_
  intro v1 w1 ho1 hc1
  refine hK.out _ _ hc1 ?_
  clear hK K
  try simp only [Act.put, List.setIfInBounds_toArray, List.set_cons_zero, List.set_cons_succ]
  refine late_one (i := 16) (by kernel_rfl) rfl (fun K hK => ?_)
  rw [if_pos (by rfl)]
  try simp only [List.getElem_toArray, List.getElem_cons_succ, List.getElem_cons_zero]
  refine wp_append_R (.tmp 17) (.tmp 23) rfl (base := w.heap.size) (L := l.take i ++ M) (M := l.drop j) (w0 := w) rfl ho1 rfl (HV2.out _ hc1) (by rw [List.length_append, HM.out, List.length_take]; omega) hc1.size hc1 (Nat.le_refl _) ?_
  intro v2 w2 ho2 hc2
  refine hK.out _ _ hc2 ?_
  clear hK K
  try simp only [Act.put, List.setIfInBounds_toArray, List.set_cons_zero, List.set_cons_succ]
  refine late_take (i := 17) (v := .pointer (some ⟨g, 0, none⟩)) [18, 19] rfl (by kernel_rfl) (by kernel_rfl) (by kernel_rfl) (by kernel_rfl) (by first | exact fun _ _ _ h => h | exact fun _ _ _ h => nomatch h.1) (Or.inl ⟨by rfl, fun w_ hw_ => by go_simp⟩) hc2 ?_
  try simp only [Act.put, List.setIfInBounds_toArray, List.set_cons_zero, List.set_cons_succ, List.getElem_toArray, List.getElem_cons_succ, List.getElem_cons_zero]
  refine late_take (i := 18) (v := .pointer (some ⟨g, 0, none⟩)) [19] rfl (by kernel_rfl) (by kernel_rfl) (by kernel_rfl) (by kernel_rfl) (by first | exact fun _ _ _ h => h | exact fun _ _ _ h => nomatch h.1) (Or.inl ⟨by rfl, fun w_ hw_ => by go_simp⟩) hc2 ?_
  try simp only [Act.put, List.setIfInBounds_toArray, List.set_cons_zero, List.set_cons_succ, List.getElem_toArray, List.getElem_cons_succ, List.getElem_cons_zero]
  obtain ⟨A2, n2, cap2, rfl, g1⟩ := HFIN.out _ _ ho2 hc2
  have cr := (hc2.cell 0 HRL.out (fun h => h)).trans c0
  have fr := (HRW.out.chg hc2 (fun h => h)).frozen 0
  have HFX := Lib.hid g1
  clear ho1 ho2 g1 hc1 hc2
  refine late_last (by kernel_rfl) rfl (by kernel_rfl) (fun K hK => ?_)
  rw [if_pos (by rfl)]
  try simp only [List.getElem_toArray, List.getElem_cons_succ, List.getElem_cons_zero]
  go_simp
  refine hK.out _ _ ?_
  clear hK K
  try simp only [Act.put, List.setIfInBounds_toArray, List.set_cons_zero, List.set_cons_succ, List.getElem_toArray, List.getElem_cons_succ, List.getElem_cons_zero]
  clear cr fr c0
  go_wp2
  refine bodyPost_end (results_none rfl _ _ _) rfl ?_
  exact ⟨rfl, HFX.out⟩

set_option maxRecDepth 100000 in
set_option maxHeartbeats 4000000 in
/-- Nothing in the place of all behind. -/
theorem replace_cut (g B y i : Nat) (l : List (Nat × Nat)) (c : Nat) (AM : Option Addr) (w : World) (h : SetAt w B g l y) (hi : i ≤ l.length) :
    Calls Try.prog 24 #[.pointer (some ⟨g, 0, none⟩), .int .i64 (i : Int), .int .i64 (l.length : Int), .slice AM 0 c] w fun e w' => e = .returned (.tuple #[]) ∧ SetAt w' B g (l.take i) y ∧ Chg (· = g) w w' := by
  obtain ⟨A, cap, hr, hcap, hmx, hv, hgB, hBw⟩ := h
  have c0 : w.cell? ⟨g, 0, none⟩ = some (.slice A l.length cap) := hr.cell 0
  have HRW := Lib.hid hr
  have HRL := Lib.hid hr.lt
  have HA : Hid (highN A i = none → i = 0) := Lib.hid (fun e => by
    unfold highN at e
    split at e
    · assumption
    · rcases A with _ | ad
      · have := hv.nil_len.1; omega
      · cases e)
  have HFIN : Hid (∀ w2, Chg none_ w w2 → SetAt (w2.setCell ⟨g, 0, none⟩ (.slice (highN A i) i i)) B g (l.take i) y ∧ Chg (· = g) w (w2.setCell ⟨g, 0, none⟩ (.slice (highN A i) i i))) := Lib.hid (fun w2 hc => by
    have k3 := ((hv.chg hc (fun _ _ h => h)).take (k := i * 2) (by omega)).highN i
    rw [← rcells_take] at k3
    have e : (l.take i).length = i := by rw [List.length_take]; omega
    have := SetAt.store (L := l.take i) (A2 := highN A i) (cap2 := i) hr hgB hBw hc (by omega) (by omega) (by rw [e]; exact k3)
    rwa [e] at this)
  obtain ⟨j, hj⟩ : ∃ j, j = l.length := ⟨_, rfl⟩
  have e1 : Value.int .i64 (l.length : Int) = .int .i64 (j : Int) := by rw [hj]
  rw [e1]
  clear hr hv e1
  go_enter Try.func24, Try.ntmps24
  refine wp_region_late (fun w' => Chg none_ w w') 19 (by kernel_rfl) ?_
  refine late_take (i := 0) (v := .pointer (some ⟨g, 0, none⟩)) [17, 18, 19] rfl (by kernel_rfl) (by kernel_rfl) (by kernel_rfl) (by kernel_rfl) (by first | exact fun _ _ _ h => h | exact fun _ _ _ h => nomatch h.1) (Or.inl ⟨by rfl, fun w_ hw_ => by go_simp⟩) ((Chg.refl none_ w).drew) ?_
  try simp only [Act.put, List.setIfInBounds_toArray, List.set_cons_zero, List.set_cons_succ, List.getElem_toArray, List.getElem_cons_zero]
  refine late_take (i := 1) (v := .pointer (some ⟨g, 0, none⟩)) [2, 3, 4, 7, 9, 16, 19] rfl (by kernel_rfl) (by kernel_rfl) (by kernel_rfl) (by kernel_rfl) (by first | exact fun _ _ _ h => h | exact fun _ _ _ h => nomatch h.1) (Or.inl ⟨by rfl, fun w_ hw_ => by go_simp⟩) ((Chg.refl none_ w).drew) ?_
  try simp only [Act.put, List.setIfInBounds_toArray, List.set_cons_zero, List.set_cons_succ, List.getElem_toArray, List.getElem_cons_succ, List.getElem_cons_zero]
  refine late_take (i := 2) (v := .pointer (some ⟨g, 0, none⟩)) [3, 4, 7, 9, 16, 19] rfl (by kernel_rfl) (by kernel_rfl) (by kernel_rfl) (by kernel_rfl) (by first | exact fun _ _ _ h => h | exact fun _ _ _ h => nomatch h.1) (Or.inl ⟨by rfl, fun w_ hw_ => by go_simp⟩) ((Chg.refl none_ w).drew) ?_
  try simp only [Act.put, List.setIfInBounds_toArray, List.set_cons_zero, List.set_cons_succ, List.getElem_toArray, List.getElem_cons_succ, List.getElem_cons_zero]
  refine late_take (i := 3) (v := .pointer (some ⟨g, 0, none⟩)) [4, 7, 9, 16, 19] rfl (by kernel_rfl) (by kernel_rfl) (by kernel_rfl) (by kernel_rfl) (by first | exact fun _ _ _ h => h | exact fun _ _ _ h => nomatch h.1) (Or.inl ⟨by rfl, fun w_ hw_ => by go_simp⟩) ((Chg.refl none_ w).drew) ?_
  try simp only [Act.put, List.setIfInBounds_toArray, List.set_cons_zero, List.set_cons_succ, List.getElem_toArray, List.getElem_cons_succ, List.getElem_cons_zero]
  refine late_take (i := 4) (v := .slice A l.length cap) [7, 9, 16, 19] rfl (by kernel_rfl) (by kernel_rfl) (by kernel_rfl) (by kernel_rfl) (by first | exact fun _ _ _ h => h | exact fun _ _ _ h => nomatch h.1) (Or.inl ⟨by rfl, fun w_ hw_ => by have c0_ := (Chg.cell hw_ 0 HRL.out (fun h => h)).trans c0; go_simp⟩) ((Chg.refl none_ w).drew) ?_
  try simp only [Act.put, List.setIfInBounds_toArray, List.set_cons_zero, List.set_cons_succ, List.getElem_toArray, List.getElem_cons_succ, List.getElem_cons_zero]
  refine late_take (i := 5) (v := .int .i64 (i : Int)) [7, 9, 16, 19] rfl (by kernel_rfl) (by kernel_rfl) (by kernel_rfl) (by kernel_rfl) (by first | exact fun _ _ _ h => h | exact fun _ _ _ h => nomatch h.1) (Or.inl ⟨by rfl, fun w_ hw_ => by go_simp⟩) ((Chg.refl none_ w).drew) ?_
  try simp only [Act.put, List.setIfInBounds_toArray, List.set_cons_zero, List.set_cons_succ, List.getElem_toArray, List.getElem_cons_succ, List.getElem_cons_zero]
  refine late_take (i := 6) (v := .int .i64 (i : Int)) [7, 9, 16, 19] rfl (by kernel_rfl) (by kernel_rfl) (by kernel_rfl) (by kernel_rfl) (by first | exact fun _ _ _ h => h | exact fun _ _ _ h => nomatch h.1) (Or.inl ⟨by rfl, fun w_ hw_ => by go_simp⟩) ((Chg.refl none_ w).drew) ?_
  try simp only [Act.put, List.setIfInBounds_toArray, List.set_cons_zero, List.set_cons_succ, List.getElem_toArray, List.getElem_cons_succ, List.getElem_cons_zero]
  refine late_take (i := 7) (v := .slice (highN A i) i i) [9, 16, 19] rfl (by kernel_rfl) (by kernel_rfl) (by kernel_rfl) (by kernel_rfl) (by first | exact fun _ _ _ h => h | exact fun _ _ _ h => nomatch h.1) (yieldsIf_slice_hmN (by rfl) 27 41 _ _ _ rfl A l.length cap i 2 rfl rfl rfl Try.underlying27 sizeR (by omega)) ((Chg.refl none_ w).drew) ?_
  try simp only [Act.put, List.setIfInBounds_toArray, List.set_cons_zero, List.set_cons_succ, List.getElem_toArray, List.getElem_cons_succ, List.getElem_cons_zero]
  refine late_take (i := 8) (v := .slice AM 0 c) [9, 16, 19] rfl (by kernel_rfl) (by kernel_rfl) (by kernel_rfl) (by kernel_rfl) (by first | exact fun _ _ _ h => h | exact fun _ _ _ h => nomatch h.1) (Or.inl ⟨by rfl, fun w_ hw_ => by go_simp⟩) ((Chg.refl none_ w).drew) ?_
  try simp only [Act.put, List.setIfInBounds_toArray, List.set_cons_zero, List.set_cons_succ, List.getElem_toArray, List.getElem_cons_succ, List.getElem_cons_zero]
  refine late_take (i := 10) (v := .pointer (some ⟨g, 0, none⟩)) [11, 12, 13, 15, 16, 19] rfl (by kernel_rfl) (by kernel_rfl) (by kernel_rfl) (by kernel_rfl) (by first | exact fun _ _ _ h => h | exact fun _ _ _ h => nomatch h.1) (Or.inl ⟨by rfl, fun w_ hw_ => by go_simp⟩) ((Chg.refl none_ w).drew) ?_
  try simp only [Act.put, List.setIfInBounds_toArray, List.set_cons_zero, List.set_cons_succ, List.getElem_toArray, List.getElem_cons_succ, List.getElem_cons_zero]
  refine late_take (i := 11) (v := .pointer (some ⟨g, 0, none⟩)) [12, 13, 15, 16, 19] rfl (by kernel_rfl) (by kernel_rfl) (by kernel_rfl) (by kernel_rfl) (by first | exact fun _ _ _ h => h | exact fun _ _ _ h => nomatch h.1) (Or.inl ⟨by rfl, fun w_ hw_ => by go_simp⟩) ((Chg.refl none_ w).drew) ?_
  try simp only [Act.put, List.setIfInBounds_toArray, List.set_cons_zero, List.set_cons_succ, List.getElem_toArray, List.getElem_cons_succ, List.getElem_cons_zero]
  refine late_take (i := 12) (v := .pointer (some ⟨g, 0, none⟩)) [13, 15, 16, 19] rfl (by kernel_rfl) (by kernel_rfl) (by kernel_rfl) (by kernel_rfl) (by first | exact fun _ _ _ h => h | exact fun _ _ _ h => nomatch h.1) (Or.inl ⟨by rfl, fun w_ hw_ => by go_simp⟩) ((Chg.refl none_ w).drew) ?_
  try simp only [Act.put, List.setIfInBounds_toArray, List.set_cons_zero, List.set_cons_succ, List.getElem_toArray, List.getElem_cons_succ, List.getElem_cons_zero]
  refine late_take (i := 13) (v := .slice A l.length cap) [15, 16, 19] rfl (by kernel_rfl) (by kernel_rfl) (by kernel_rfl) (by kernel_rfl) (by first | exact fun _ _ _ h => h | exact fun _ _ _ h => nomatch h.1) (Or.inl ⟨by rfl, fun w_ hw_ => by have c0_ := (Chg.cell hw_ 0 HRL.out (fun h => h)).trans c0; go_simp⟩) ((Chg.refl none_ w).drew) ?_
  try simp only [Act.put, List.setIfInBounds_toArray, List.set_cons_zero, List.set_cons_succ, List.getElem_toArray, List.getElem_cons_succ, List.getElem_cons_zero]
  refine late_take (i := 14) (v := .int .i64 (j : Int)) [15, 16, 19] rfl (by kernel_rfl) (by kernel_rfl) (by kernel_rfl) (by kernel_rfl) (by first | exact fun _ _ _ h => h | exact fun _ _ _ h => nomatch h.1) (Or.inl ⟨by rfl, fun w_ hw_ => by go_simp⟩) ((Chg.refl none_ w).drew) ?_
  try simp only [Act.put, List.setIfInBounds_toArray, List.set_cons_zero, List.set_cons_succ, List.getElem_toArray, List.getElem_cons_succ, List.getElem_cons_zero]
  refine late_take (i := 15) (v := .slice (dropN A cap j 2) (l.length - j) (cap - j)) [16, 19] rfl (by kernel_rfl) (by kernel_rfl) (by kernel_rfl) (by kernel_rfl) (by first | exact fun _ _ _ h => h | exact fun _ _ _ h => nomatch h.1) (yieldsIf_slice_lowN (by rfl) 27 41 _ _ rfl A l.length cap j 2 rfl rfl Try.underlying27 sizeR (by omega)) ((Chg.refl none_ w).drew) ?_
  try simp only [Act.put, List.setIfInBounds_toArray, List.set_cons_zero, List.set_cons_succ, List.getElem_toArray, List.getElem_cons_succ, List.getElem_cons_zero]
  refine late_one (i := 9) (by kernel_rfl) rfl (fun K hK => ?_)
  rw [if_pos (by rfl)]
  try simp only [List.getElem_toArray, List.getElem_cons_succ, List.getElem_cons_zero]
  refine wp_append_noneR (.tmp 15) (.tmp 16) rfl rfl (Nat.le_refl _) HA.out rfl ?_
  refine hK.out _ _ ((Chg.refl none_ w).drew) ?_
  clear hK K
  try simp only [Act.put, List.setIfInBounds_toArray, List.set_cons_zero, List.set_cons_succ]
  refine late_one (i := 16) (by kernel_rfl) rfl (fun K hK => ?_)
  rw [if_pos (by rfl)]
  try simp only [List.getElem_toArray, List.getElem_cons_succ, List.getElem_cons_zero]
  refine wp_append_noneR (.tmp 17) (.tmp 23) rfl rfl (Nat.le_refl _) HA.out (show Value.slice (dropN A cap j 2) (l.length - j) (cap - j) = .slice (dropN A cap j 2) 0 (cap - j) by rw [hj, Nat.sub_self]) ?_
  refine hK.out _ _ ((Chg.refl none_ w).drew) ?_
  clear hK K
  try simp only [Act.put, List.setIfInBounds_toArray, List.set_cons_zero, List.set_cons_succ]
  refine late_take (i := 17) (v := .pointer (some ⟨g, 0, none⟩)) [18, 19] rfl (by kernel_rfl) (by kernel_rfl) (by kernel_rfl) (by kernel_rfl) (by first | exact fun _ _ _ h => h | exact fun _ _ _ h => nomatch h.1) (Or.inl ⟨by rfl, fun w_ hw_ => by go_simp⟩) ((Chg.refl none_ w).drew) ?_
  try simp only [Act.put, List.setIfInBounds_toArray, List.set_cons_zero, List.set_cons_succ, List.getElem_toArray, List.getElem_cons_succ, List.getElem_cons_zero]
  refine late_take (i := 18) (v := .pointer (some ⟨g, 0, none⟩)) [19] rfl (by kernel_rfl) (by kernel_rfl) (by kernel_rfl) (by kernel_rfl) (by first | exact fun _ _ _ h => h | exact fun _ _ _ h => nomatch h.1) (Or.inl ⟨by rfl, fun w_ hw_ => by go_simp⟩) ((Chg.refl none_ w).drew) ?_
  try simp only [Act.put, List.setIfInBounds_toArray, List.set_cons_zero, List.set_cons_succ, List.getElem_toArray, List.getElem_cons_succ, List.getElem_cons_zero]
  have cr := (((Chg.refl none_ w).drew).cell 0 HRL.out (fun h => h)).trans c0
  have fr := (HRW.out.chg ((Chg.refl none_ w).drew) (fun h => h)).frozen 0
  have HFX := Lib.hid (HFIN.out _ ((Chg.refl none_ w).drew))
  refine late_last (by kernel_rfl) rfl (by kernel_rfl) (fun K hK => ?_)
  rw [if_pos (by rfl)]
  try simp only [List.getElem_toArray, List.getElem_cons_succ, List.getElem_cons_zero]
  go_simp
  refine hK.out _ _ ?_
  clear hK K
  try simp only [Act.put, List.setIfInBounds_toArray, List.set_cons_zero, List.set_cons_succ, List.getElem_toArray, List.getElem_cons_succ, List.getElem_cons_zero]
  clear cr fr c0
  go_wp2
  refine bodyPost_end (results_none rfl _ _ _) rfl ?_
  exact ⟨rfl, HFX.out⟩
end Go.Proofs.Ytlakhfbhbebojaa
