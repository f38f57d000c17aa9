/- Layer 12 (timers): all timers in order: a queue's List. -/
import Derived.Test.YtblpgpolhibfgaaV12Set
import Derived.Test.YtblpgpolhibfgaaV12Sort
import Derived.Test.YtblpgpolhibfgaaAppN
import Derived.Test.YtblpgpolhibfgaaStr
namespace Go.Proofs.Ytblpgpolhibfgaa
open Go.RowKit Go.Lib Go.Sort

theorem ltT (x y : Tm) : ltOf cmpT x y = decide (Ah x y) := by
  unfold ltOf
  by_cases h : Ah x y
  · have := (cmpT_lt x y).2 h
    simp [h, this]
  · have : ¬ cmpT x y < 0 := fun k => h ((cmpT_lt x y).1 k)
    simp [h, this]
theorem swoT : SWO (ltOf cmpT) where
  irrefl x := by rw [ltT]; simp [Ah.irrefl]
  trans x y z h1 h2 := by
    rw [ltT] at *
    simp only [decide_eq_true_eq] at *
    exact h1.trans h2
  ntrans x y z h1 h2 := by
    rw [ltT] at *
    simp only [decide_eq_false_iff_not] at *
    exact Ah.ntrans h2 h1
theorem merge_eq (L S : List Tm) (hS : Srt S) (hp : L.Perm S) : (L.mergeSort fun x y => !(ltOf cmpT) y x) = S := by
  have h1 : (L.mergeSort fun x y => !(ltOf cmpT) y x).Pairwise (fun x y => (!(ltOf cmpT) y x) = true) := by
    apply List.pairwise_mergeSort
    · intro a b c h1 h2
      simp only [ltT, Bool.not_eq_true', decide_eq_false_iff_not] at *
      exact Ah.ntrans h1 h2
    · intro a b
      simp only [ltT, Bool.or_eq_true, Bool.not_eq_true', decide_eq_false_iff_not]
      by_cases h : Ah b a
      · exact Or.inr h.asym
      · exact Or.inl h
  have h2 : S.Pairwise (fun x y => (!(ltOf cmpT) y x) = true) := List.Pairwise.imp (fun {a b} h => by
    simp only [ltT, Bool.not_eq_true', decide_eq_false_iff_not]
    exact Ah.asym h) hS
  refine List.Perm.eq_of_pairwise (fun a b _ _ h1 h2 => ?_) h1 h2 ((List.mergeSort_perm _ _).trans hp)
  simp only [ltT, Bool.not_eq_true', decide_eq_false_iff_not] at h1 h2
  exact Ah.tri h2 h1

theorem flat_get (L : List Tm) (j : Nat) (h : j < L.length * 3) : (flatK tcell 3 L.toArray)[j]! = (tcells L).getD j undef := by
  rw [get_flatK _ _ _ _ (by simpa using h)]
  have hj : j / 3 < L.length := by omega
  have e : (tcells L)[j]? = (tcell (tm L (j / 3)))[j % 3]? := by
    have := tcells_get L (j / 3) (j % 3) hj (by omega)
    rwa [show j / 3 * 3 + j % 3 = j by omega] at this
  have e2 : (L.toArray[j / 3]! : Tm) = tm L (j / 3) := by
    unfold tm
    simp [List.getD_eq_getElem?_getD, hj]
  rw [e2, List.getD_eq_getElem?_getD, e]
  have h3 : j % 3 < (tcell (tm L (j / 3))).length := by rw [tcell_len]; omega
  rw [List.getElem?_eq_getElem h3, getElem!_pos (tcell (tm L (j / 3))) (j % 3) h3]
  rfl
theorem flat_list (L : List Tm) : (flatK tcell 3 L.toArray).toList = tcells L := by
  apply List.ext_getElem
  · rw [Array.length_toList, size_flatK, tcells_len]
    simp
    omega
  · intro j h1 h2
    have hj : j < L.length * 3 := by rw [Array.length_toList, size_flatK] at h1; simpa using h1
    have := flat_get L j hj
    rw [getElem!_pos _ _ (by rw [size_flatK]; simpa using hj), List.getD_eq_getElem?_getD, List.getElem?_eq_getElem h2] at this
    simpa using this

theorem holds_own {w : World} {base g n cap : Nat} {e : TypeId} {L : List Tm} (h : w.ownsRow base e 3 (.slice (some ⟨g, 0, none⟩) n cap) n (tcells L)) : HoldsK tcell 3 w g 0 L.toArray := by
  rcases h.2 with ⟨h1, _⟩ | ⟨g', cap', cur, hv, _, hh, _, _, hs, ht⟩
  · cases h1
  · injection hv with h1 h2 h3
    injection h1 with h1
    injection h1 with h1
    subst h1
    intro j hj
    rw [size_flatK] at hj
    have hj2 : j < L.length * 3 := by simpa using hj
    rw [flat_get L j hj2]
    have hl : L.length * 3 = n * 3 := by have := h.1; rw [tcells_len] at this; omega
    have hr : Row w g e cur.toList := hh
    refine ⟨?_, hr.frozen _⟩
    rw [hr.cell, Nat.zero_add]
    have e1 : (tcells L)[j]? = cur.toList[j]? := by rw [← ht, List.getElem?_take, if_pos (by omega)]
    rw [← e1, List.getD_eq_getElem?_getD, List.getElem?_eq_getElem (by rw [tcells_len]; omega)]
    rfl

theorem sorted_own {w : World} {base g n cap m : Nat} {e : TypeId} {L S : List Tm} {os : Array Obj} (h : w.ownsRow base e 3 (.slice (some ⟨g, 0, none⟩) n cap) n (tcells L)) (hl : S.length = L.length) :
    (sortWorldK tcell 3 w g 0 m S.toArray os).ownsRow base e 3 (.slice (some ⟨g, 0, none⟩) n cap) n (tcells S) ∧ Chg (· = g) w (sortWorldK tcell 3 w g 0 m S.toArray os) := by
  have hn : tcells L = tcells L := rfl
  rcases h.2 with ⟨h1, _⟩ | ⟨g', cap', cur, hv, hb, hh, hnc, hm, hs, ht⟩
  · cases h1
  · injection hv with h1 h2 h3
    injection h1 with h1
    injection h1 with h1
    subst h1 h3
    have hlen := h.1
    rw [tcells_len] at hlen
    have hlt : g < w.heap.size := (Array.getElem?_eq_some_iff.1 hh).1
    have hblk : (sortWorldK tcell 3 w g 0 m S.toArray os).heap[g]? = some (.cells (putCells id 0 (flatK tcell 3 S.toArray) cur) e (0, 0)) := by
      show ((w.heap.modify g (onCells (putCells id 0 (flatK tcell 3 S.toArray)))) ++ os)[g]? = _
      rw [Array.getElem?_append_left (by simpa using hlt), Array.getElem?_modify, if_pos rfl, hh]
      rfl
    have hsz : (flatK tcell 3 S.toArray).size = n * 3 := by rw [size_flatK]; simp; omega
    refine ⟨⟨by rw [tcells_len]; omega, Or.inr ⟨g, cap, _, rfl, hb, hblk, hnc, hm, by simp [putCells, hs], ?_⟩⟩, rfl, rfl, rfl, ?_, ?_⟩
    · rw [← flat_list]
      apply List.ext_getElem?
      intro j
      rw [List.getElem?_take]
      by_cases hj : j < n * 3
      · rw [if_pos hj]
        simp only [putCells, Array.getElem?_toList, Array.getElem?_mapIdx]
        rw [Array.getElem?_eq_getElem (by have := Nat.mul_le_mul_right 3 hnc; omega), Option.map_some, if_pos ⟨by omega, by omega⟩, Array.getElem?_eq_getElem (by omega), getElem!_pos _ _ (by omega)]
        simp
      · rw [if_neg hj, List.getElem?_eq_none (by rw [Array.length_toList]; omega)]
    · show w.heap.size ≤ (w.heap.modify g _ ++ os).size
      simp
    · intro k hk hne
      show ((w.heap.modify g _) ++ os)[k]? = _
      rw [Array.getElem?_append_left (by simpa using hk), Array.getElem?_modify, if_neg (fun e => hne e.symm)]

theorem cmpLays (blk off size : Nat) (w : World) : CmpLays Try.prog 33 #[] tcell 3 cmpT blk off size w :=
  fun _ _ _ _ x y => compare_grow x y _

theorem sort_any (base g n cap : Nat) (L S : List Tm) (w : World) (h : w.ownsRow base 27 3 (.slice (some ⟨g, 0, none⟩) n cap) n (tcells L)) (hS : Srt S) (hp : L.Perm S) (hn : n < 4611686018427387904) :
    Calls Try.prog 32 #[.slice (some ⟨g, 0, none⟩) n cap, .func (.func 33) #[] #[]] w fun e w' => e = .returned (.tuple #[]) ∧ w'.ownsRow base 27 3 (.slice (some ⟨g, 0, none⟩) n cap) n (tcells S) ∧ Chg (· = g) w w' := by
  have eg : ∀ args w, (callFunc 33 args).run Try.prog w = .ok (.enter 33 args) w := enters_of Try.func33 (by kernel_rfl) rfl
  have hlen : L.length = n := by have := h.1; rw [tcells_len] at this; omega
  have hblk : g < w.heap.size := by
    rcases h.2 with ⟨h1, _⟩ | ⟨g', cap', cur, hv, _, hh, _⟩
    · cases h1
    · injection hv with h1 h2 h3
      injection h1 with h1
      injection h1 with h1
      subst h1
      exact (Array.getElem?_eq_some_iff.1 hh).1
  have hcon := AnyQ.slices_SortFunc_total sortTm 3 Try.isAgg27 Try.sizeOf27 tcell tcell_len (fun x v hv => by simp [tcell] at hv; rcases hv with rfl | rfl | rfl <;> rfl) cmpT swoT 33 #[] g 0 cap L.toArray w eg (cmpLays g 0 _ w) (holds_own h) hblk (by simpa [hlen] using hn) (fun x y h1 h2 => by
    rw [ltT] at h1 h2
    simp only [decide_eq_false_iff_not] at h1 h2
    exact Ah.tri h1 h2)
  rw [merge_eq L S hS hp, show L.toArray.size = n by simpa using hlen] at hcon
  refine Calls.mono hcon ?_
  rintro e w' ⟨he, m, os, rfl⟩
  have := sorted_own (m := m) (os := os) h (by rw [hp.length_eq] : S.length = L.length)
  exact ⟨he, this.1, this.2⟩

theorem infoTm : (Try.prog.info? 27).map (fun i => (i.zero, i.size, i.bytes)) = some (some (.agg (tcell zT).toArray), 3, 24) := by kernel_rfl
theorem infoTm_parts : ∃ j, Try.prog.info? 27 = some j ∧ j.zero = some (.agg (tcell zT).toArray) ∧ j.size = 3 ∧ j.bytes = 24 := by
  have h := infoTm
  cases hq : Try.prog.info? 27 with
  | none => rw [hq] at h; cases h
  | some j =>
    rw [hq] at h
    simp only [Option.map_some, Option.some.injEq, Prod.mk.injEq] at h
    exact ⟨j, rfl, h.1, h.2.1, h.2.2⟩
theorem tcells_one (L : List Tm) : ∀ u ∈ tcells L, u.oneCell' = true := by
  intro u hu
  simp only [tcells, List.mem_flatMap] at hu
  obtain ⟨t, _, hu⟩ := hu
  simp [tcell] at hu
  rcases hu with rfl | rfl | rfl <;> rfl

theorem own_some {w : World} {base size n : Nat} {e : TypeId} {v : Value} {xs : List Value} (h : w.ownsRow base e size v n xs) (hn : n ≠ 0) : ∃ g cap, v = .slice (some ⟨g, 0, none⟩) n cap ∧ base ≤ g := by
  rcases h.2 with ⟨_, hz⟩ | ⟨g, cap, _, h1, h2, _⟩
  · exact absurd hz hn
  · exact ⟨g, cap, h1, h2⟩
/-- A slice of the call's own that holds these timers. -/
def OwnedT (w : World) (base : Nat) (v : Value) (L : List Tm) : Prop := w.ownsRow base 27 3 v L.length (tcells L)
theorem OwnedT.nil (w : World) (base : Nat) : OwnedT w base (.slice none 0 0) [] := ⟨rfl, Or.inl ⟨rfl, rfl⟩⟩
theorem OwnedT.chg {w w' : World} {base : Nat} {v : Value} {L : List Tm} {S : Nat → Prop} (h : OwnedT w base v L) (hc : Chg S w w') (hs : ∀ b, base ≤ b → b < w.heap.size → ¬ S b) : OwnedT w' base v L := by
  refine ⟨h.1, ?_⟩
  rcases h.2 with h1 | ⟨g, cap, cur, h1, h2, h3, h4, h5, h6, h7⟩
  · exact Or.inl h1
  · have hlt := (Array.getElem?_eq_some_iff.1 h3).1
    exact Or.inr ⟨g, cap, cur, h1, h2, (hc.block g hlt (hs g h2 hlt)).trans h3, h4, h5, h6, h7⟩
theorem OwnedT.base {w : World} {base base' : Nat} {v : Value} {L : List Tm} (h : OwnedT w base v L) (hb : base' ≤ base) : OwnedT w base' v L := by
  refine ⟨h.1, ?_⟩
  rcases h.2 with h1 | ⟨g, cap, cur, h1, h2, h3, h4, h5, h6, h7⟩
  · exact Or.inl h1
  · exact Or.inr ⟨g, cap, cur, h1, by omega, h3, h4, h5, h6, h7⟩
/-- Its address, and that it can be read. -/
theorem OwnedT.view {w : World} {base : Nat} {v : Value} {L : List Tm} (h : OwnedT w base v L) : ∃ A cap, v = .slice A L.length cap ∧ L.length ≤ cap ∧ cap ≤ maxLen ∧ View w (fun b => base ≤ b) A (L.length * 3) (tcells L) := by
  rcases h.2 with ⟨rfl, hn⟩ | ⟨g, cap, cur, rfl, hb, hh, hnc, hm, hs, ht⟩
  · have hL : L = [] := List.eq_nil_of_length_eq_zero hn
    subst hL
    exact ⟨none, 0, rfl, Nat.le_refl _, Nat.zero_le _, View.none_ _ _ _⟩
  · refine ⟨_, _, rfl, hnc, hm, by rw [tcells_len, Nat.mul_comm], fun hn => ⟨g, 0, rfl, (Array.getElem?_eq_some_iff.1 hh).1, hb, fun j hj => ?_⟩⟩
    rw [cell_of_row w g (0 + j) _ _ _ hh, ← ht, List.getElem?_take, if_pos hj]
    simp

section
variable {ops : Array Oper} {rest : List Oper} {o : Oper} {a : Act} {w w0 : World} {Q : Exit → Act → World → Prop}
theorem wpList_append_T (hgd : o.guard = none) (s x : Operand) (t : TypeId)
    (ho : o.op = .call { callee := .builtin .append, args := #[s, x], argTypes := #[t, t] }) (ht : Try.prog.underlying t = some (.slice 27)) {base : Nat} {v : Value} {L M : List Tm} {T : Nat → Prop} {A : Option Addr} {m c : Nat}
    (hs : a.eval s = v) (hown : OwnedT w base v L) (hx : a.eval x = .slice A m c) (hv : View w T A (m * 3) (tcells M)) (hlen : L.length + m ≤ 1000000) (hbase : base ≤ w.heap.size) (hc0 : Chg none_ w0 w) (hb0 : w0.heap.size ≤ base)
    (k : ∀ v' w', OwnedT w' base v' (L ++ M) → Chg none_ w0 w' → wpList Try.prog ops Q rest (a.put o.dst v') w') : wpList Try.prog ops Q (o :: rest) a w := by
  obtain ⟨i0, hi, hz0, hz1, hz2⟩ := infoTm_parts
  have hm : M.length = m := by have := hv.1; rw [tcells_len] at this; omega
  refine wpList_append_viewN hgd s x t ho 27 i0 _ 3 24 ht hi hz0 hz1 hz2 rfl (by decide) base v L.length (tcells L) hs hown T A m c (tcells M) hx hv (tcells_one _) (by unfold maxLen; omega) (by omega) hbase fun v' w' h2 h3 => k v' w' ?_ (hc0.appendN hb0 hown h3)
  unfold OwnedT
  rw [List.length_append, hm, show tcells (L ++ M) = tcells L ++ tcells M by simp [tcells]]
  exact h2
end

theorem QM.viewAll {w : World} {q n : Nat} {F : List Tm} {mp : Option Nat} (h : QM w q F n mp) (hn : n ≤ 200) : View w (· = q) (some ⟨q, 0, none⟩) (n * 3) (tcells (F.take n)) := by
  have hl : (F.take n).length = n := by rw [List.length_take, h.len]; omega
  refine ⟨by rw [tcells_len, hl]; omega, fun _ => ⟨q, 0, rfl, h.lt, rfl, fun j hj => ?_⟩⟩
  have e := h.at_ (j / 3) (by omega) (j % 3)
  have e2 := tcells_get (F.take n) (j / 3) (j % 3) (by omega) (by omega)
  rw [show j / 3 * 3 + j % 3 = j by omega, show tm (F.take n) (j / 3) = tm F (j / 3) from take_getD (by omega)] at e2
  rw [e2]
  have h3 : j % 3 < (tcell (tm F (j / 3))).length := by rw [tcell_len]; omega
  rw [List.getElem?_eq_getElem h3, ← e _ (List.getElem?_eq_getElem h3)]
  congr 2
  omega

set_option maxRecDepth 100000 in
set_option maxHeartbeats 2000000 in
theorem List_any (q : Nat) (mp : Option Nat) (S : List Tm) (w : World) (h : QIs w q mp S) :
    Calls Try.prog 15 #[.pointer (some ⟨q, 0, none⟩)] w fun e w' => ∃ v, e = .returned v ∧ OwnedT w' w.heap.size v S ∧ Chg none_ w w' := by
  obtain ⟨F, n, M, h⟩ := h
  have HQ := Lib.hid h
  have hle := h.le
  have HA := Lib.hid (all_any q n mp F w h.qm h.le)
  have HLN : Hid ((F.take n).length = n) := Lib.hid (by rw [List.length_take, h.qm.len]; omega)
  clear h
  by_cases hn : n = 0
  · have hS : S = [] := List.eq_nil_of_length_eq_zero (by rw [HQ.out.len, hn])
    subst hS hn
    have HN : Hid (∀ p cap w, Calls Try.prog 32 #[.slice p 0 cap, .func (.func 33) #[] #[]] w fun e w' => e = .returned (.tuple #[]) ∧ w' = w) := Lib.hid (fun p cap w => AnyF.slices_SortFunc_none (ρ := sortTm_ren) sortTm p cap _ w)
    go_enter Try.func15, Try.ntmps15
    go_wp2_with (first | (go_at_call 31; refine HA.out.mono ?_; rintro e w1 ⟨rfl, hc1⟩; have HC1 := Lib.hid hc1; clear hc1) | (at_builtin; refine wpList_append_T rfl _ _ _ rfl Try.underlying34 (base := w.heap.size) (L := []) (M := []) (T := none_) (A := some ⟨q, 0, none⟩) (m := 0) (c := 200) (w0 := w) rfl (OwnedT.nil _ _) rfl ⟨rfl, fun h => absurd h (by omega)⟩ (by simp) HC1.out.size HC1.out (Nat.le_refl _) ?_; intro v2 w2 ho2 hc2; obtain ⟨A2, cap2, rfl, hcap2, hmx2, hvw2⟩ := ho2.view; have HO2 := Lib.hid ho2; have HC2 := Lib.hid hc2; clear ho2 hc2 hvw2) | (go_at_call 32; refine (HN.out _ _ _).mono ?_; rintro e w3 ⟨rfl, rfl⟩))
    go_ret
    exact ⟨_, rfl, HO2.out, HC2.out⟩
  · have HSO : Hid (∀ base g cap w, w.ownsRow base 27 3 (.slice (some ⟨g, 0, none⟩) n cap) n (tcells (F.take n)) → Calls Try.prog 32 #[.slice (some ⟨g, 0, none⟩) n cap, .func (.func 33) #[] #[]] w fun e w' => e = .returned (.tuple #[]) ∧ w'.ownsRow base 27 3 (.slice (some ⟨g, 0, none⟩) n cap) n (tcells S) ∧ Chg (· = g) w w') := Lib.hid (fun base g cap w h => sort_any base g n cap (F.take n) S w h HQ.out.srt HQ.out.perm (by omega))
    have HNS := Lib.hid HQ.out.len
    go_enter Try.func15, Try.ntmps15
    go_wp2_with (first | (go_at_call 31; refine HA.out.mono ?_; rintro e w1 ⟨rfl, hc1⟩; have HC1 := Lib.hid hc1; have HV1 := Lib.hid ((HQ.out.qm.chg hc1 (fun h => h)).viewAll hle); clear hc1) | (at_builtin; refine wpList_append_T rfl _ _ _ rfl Try.underlying34 (base := w.heap.size) (L := []) (M := F.take n) (T := (· = q)) (A := some ⟨q, 0, none⟩) (m := n) (c := 200) (w0 := w) rfl (OwnedT.nil _ _) rfl HV1.out (by simp; omega) HC1.out.size HC1.out (Nat.le_refl _) ?_; intro v2 w2 ho2 hc2; have ho3 : w2.ownsRow w.heap.size 27 3 v2 n (tcells (F.take n)) := (by have := ho2; unfold OwnedT at this; rwa [List.nil_append, HLN.out] at this); obtain ⟨g2, cap2, rfl, hb2⟩ := own_some ho3 hn; have HO2 := Lib.hid ho3; have HC2 := Lib.hid hc2; have HB2 := Lib.hid hb2; clear ho2 ho3 hc2 hb2) | (go_at_call 32; refine (HSO.out _ _ _ _ HO2.out).mono ?_; rintro e w3 ⟨rfl, ho4, hc4⟩; have HO4 := Lib.hid ho4; have HC4 := Lib.hid (HC2.out.andThen hc4 (fun b hb e => by have := HB2.out; omega) : Chg none_ w w3); clear ho4 hc4))
    go_ret
    refine ⟨_, rfl, ?_, HC4.out⟩
    unfold OwnedT
    rw [HNS.out]
    exact HO4.out
theorem List_nil (w : World) : Calls Try.prog 15 #[.pointer none] w fun e w' => ∃ A cap, e = .returned (.slice A 0 cap) ∧ Chg none_ w w' := by
  have HN : Hid (∀ p cap w, Calls Try.prog 32 #[.slice p 0 cap, .func (.func 33) #[] #[]] w fun e w' => e = .returned (.tuple #[]) ∧ w' = w) := Lib.hid (fun p cap w => AnyF.slices_SortFunc_none (ρ := sortTm_ren) sortTm p cap _ w)
  go_enter Try.func15, Try.ntmps15
  go_wp2_with (first | (go_at_call 31; refine (all_nil _).mono ?_; rintro e w1 ⟨rfl, rfl⟩) | (at_builtin; refine wpList_append_T rfl _ _ _ rfl Try.underlying34 (base := w1.heap.size) (L := []) (M := []) (T := none_) (A := none) (m := 0) (c := 0) (w0 := w1) rfl (OwnedT.nil _ _) rfl ⟨rfl, fun h => absurd h (by omega)⟩ (by simp) (Nat.le_refl _) (Chg.refl _ _) (Nat.le_refl _) ?_; intro v2 w2 ho2 hc2; obtain ⟨A2, cap2, rfl, hcap2, hmx2, hvw2⟩ := ho2.view; have HO2 := Lib.hid ho2; have HC2 := Lib.hid hc2; clear ho2 hc2 hvw2) | (go_at_call 32; refine (HN.out _ _ _).mono ?_; rintro e w3 ⟨rfl, rfl⟩))
  go_ret
  exact ⟨_, _, rfl, HC2.out⟩

/-! A connection's kinds, and Drop. -/
theorem infoInt : (Try.prog.info? 3).map (fun i => (i.zero, i.size, i.bytes)) = some (some (.int .i64 0), 1, 8) := by kernel_rfl
theorem infoInt_parts : ∃ j, Try.prog.info? 3 = some j ∧ j.zero = some (.int .i64 0) ∧ j.size = 1 ∧ j.bytes = 8 := by
  have h := infoInt
  cases hq : Try.prog.info? 3 with
  | none => rw [hq] at h; cases h
  | some j =>
    rw [hq] at h
    simp only [Option.map_some, Option.some.injEq, Prod.mk.injEq] at h
    exact ⟨j, rfl, h.1, h.2.1, h.2.2⟩
def OwnedK (w : World) (base : Nat) (v : Value) (l : List Int) : Prop := w.ownsRow base 3 1 v l.length (ints .i64 l)
theorem OwnedK.nil (w : World) (base : Nat) : OwnedK w base (.slice none 0 0) [] := ⟨rfl, Or.inl ⟨rfl, rfl⟩⟩
theorem OwnedK.chg {w w' : World} {base : Nat} {v : Value} {L : List Int} {S : Nat → Prop} (h : OwnedK w base v L) (hc : Chg S w w') (hs : ∀ b, base ≤ b → b < w.heap.size → ¬ S b) : OwnedK w' base v L := by
  refine ⟨h.1, ?_⟩
  rcases h.2 with h1 | ⟨g, cap, cur, h1, h2, h3, h4, h5, h6, h7⟩
  · exact Or.inl h1
  · have hlt := (Array.getElem?_eq_some_iff.1 h3).1
    exact Or.inr ⟨g, cap, cur, h1, h2, (hc.block g hlt (hs g h2 hlt)).trans h3, h4, h5, h6, h7⟩
theorem OwnedK.view {w : World} {base : Nat} {v : Value} {L : List Int} (h : OwnedK w base v L) : ∃ A cap, v = .slice A L.length cap ∧ L.length ≤ cap ∧ cap ≤ maxLen ∧ View w (fun b => base ≤ b) A L.length (ints .i64 L) := by
  obtain ⟨A, cap, h1, h2, h3, h4⟩ := View.own (T := fun b => base ≤ b) h (fun _ h => h)
  exact ⟨A, cap, h1, h2, h3, h4⟩
section
variable {ops : Array Oper} {rest : List Oper} {o : Oper} {a : Act} {w w0 : World} {Q : Exit → Act → World → Prop}
theorem wpList_append_K (hgd : o.guard = none) (s x : Operand) (t : TypeId)
    (ho : o.op = .call { callee := .builtin .append, args := #[s, x], argTypes := #[t, t] }) (ht : Try.prog.underlying t = some (.slice 3)) {base : Nat} {v : Value} {L M : List Int} {T : Nat → Prop} {A : Option Addr} {m c : Nat}
    (hs : a.eval s = v) (hown : OwnedK w base v L) (hx : a.eval x = .slice A m c) (hv : View w T A m (ints .i64 M)) (hlen : L.length + m ≤ 1000000) (hbase : base ≤ w.heap.size) (hc0 : Chg none_ w0 w) (hb0 : w0.heap.size ≤ base)
    (k : ∀ v' w', OwnedK w' base v' (L ++ M) → Chg none_ w0 w' → wpList Try.prog ops Q rest (a.put o.dst v') w') : wpList Try.prog ops Q (o :: rest) a w := by
  obtain ⟨i0, hi, hz0, hz1, hz2⟩ := infoInt_parts
  have hm : M.length = m := by have := hv.1; simpa [ints] using this
  refine wpList_append_view hgd s x t ho 3 i0 _ 8 ht hi hz0 hz1 hz2 rfl base v L.length (ints .i64 L) hs hown T A m c (ints .i64 M) hx hv (fun u hu => by
    simp only [ints, List.mem_map] at hu
    obtain ⟨x, _, rfl⟩ := hu
    rfl) (by unfold maxLen; omega) (by omega) hbase fun v' w' h2 h3 _ => k v' w' ?_ (hc0.grown h3 (fun k hk hlt => by have := (hown.lt k hk).1; omega))
  unfold OwnedK
  rw [List.length_append, hm, show ints .i64 (L ++ M) = ints .i64 L ++ ints .i64 M by simp [ints]]
  exact h2
end

/-- The kinds of a connection's timers, among these. -/
def kindsL (c : Int) (L : List Tm) : List Int := (L.filter fun t => decide (t.conn = c)).map (·.kind)
theorem kindsL_snoc (c : Int) (L : List Tm) (t : Tm) : kindsL c (L ++ [t]) = if t.conn = c then kindsL c L ++ [t.kind] else kindsL c L := by
  unfold kindsL
  rw [List.filter_append]
  by_cases h : t.conn = c
  · simp [h]
  · simp [h]
theorem kindsL_len (c : Int) (L : List Tm) : (kindsL c L).length ≤ L.length := by
  unfold kindsL
  rw [List.length_map]
  exact List.length_filter_le _ _

set_option maxRecDepth 100000 in
set_option maxHeartbeats 4000000 in
theorem kinds_any (q n : Nat) (mp : Option Nat) (F : List Tm) (c : Int) (w : World) (h : QM w q F n mp) (hn : n ≤ 200) :
    Calls Try.prog 30 #[.pointer (some ⟨q, 0, none⟩), .int .i64 c] w fun e w' => ∃ v, e = .returned v ∧ OwnedK w' w.heap.size v (kindsL c (F.take n)) ∧ Chg none_ w w' := by
  have HQ := Lib.hid h
  have HA := Lib.hid (all_any q n mp F w h hn)
  have HTK : Hid (∀ k, k < n → F.take (k + 1) = F.take k ++ [tm F k]) := Lib.hid (fun k hk => by
    rw [List.take_add_one]
    unfold tm
    rw [List.getD_eq_getElem?_getD, List.getElem?_eq_getElem (by rw [HQ.out.len]; omega)]
    rfl)
  have HKL : Hid (∀ k, k ≤ 200 → (kindsL c (F.take k)).length ≤ 200) := Lib.hid (fun k hk => by
    have := kindsL_len c (F.take k)
    rw [List.length_take] at this
    omega)
  clear h
  go_enter Try.func30, Try.ntmps30
  go_wp2_with (go_at_call 31; refine HA.out.mono ?_; rintro e w1 ⟨rfl, hc1⟩; have HC1 := Lib.hid hc1; clear hc1)
  go_loopw [5, 11] (fun v i wr => ∃ k : Nat, k ≤ n ∧ i = .int .i64 (k : Int) ∧ OwnedK wr w.heap.size v (kindsL c (F.take k)) ∧ Chg none_ w wr) (fun _ i _ => n - (intOf i).toNat)
  case atStart => exact ⟨0, Nat.zero_le _, rfl, by rw [take_zero']; exact OwnedK.nil _ _, HC1.out⟩
  case round =>
    obtain ⟨k, hk, rfl, ho, hc⟩ := hrel
    obtain ⟨A, cap, rfl, _⟩ := ho.view
    have HO := Lib.hid ho
    have HC := Lib.hid hc
    by_cases hlt : k < n
    · have k1 : (k : Int) < (n : Int) := by omega
      have HKB := Lib.hid (HKL.out k (by omega))
      have HR := Lib.hid ((HQ.out.chg hc (fun h => h)).at_ k (by omega))
      have HE := Lib.hid (kindsL_snoc c (F.take k) (tm F k))
      rw [← HTK.out k hlt] at HE
      clear ho hc
      generalize kindsL c (F.take k) = L at *
      have HO3F : Hid (∀ w2 w3, OwnedK w2 w.heap.size (.slice A L.length cap) L → Chg (· = wr.heap.size) w2 w3 → (∀ b, A = some ⟨b, 0, none⟩ → b < wr.heap.size) → OwnedK w3 w.heap.size (.slice A L.length cap) L) := Lib.hid (fun w2 w3 h hc hA => by
        refine ⟨h.1, ?_⟩
        rcases h.2 with h1 | ⟨g, cap, cur, h1, h2, h3, h4, h5, h6, h7⟩
        · exact Or.inl h1
        · injection h1 with q1 q2 q3
          have hg := hA g q1
          exact Or.inr ⟨g, cap, cur, by rw [q1, q3], h2, (hc.block g (Array.getElem?_eq_some_iff.1 h3).1 (by omega)).trans h3, h4, h5, h6, h7⟩)
      have HAL : Hid (∀ b, A = some ⟨b, 0, none⟩ → b < wr.heap.size) := Lib.hid (fun b hb => by
        rcases HO.out.2 with ⟨h1, _⟩ | ⟨g, cap', cur, h1, h2, h3, _⟩
        · injection h1 with q1; rw [hb] at q1; cases q1
        · injection h1 with q1
          rw [hb] at q1
          injection q1 with q1
          injection q1 with q1
          subst q1
          exact (Array.getElem?_eq_some_iff.1 h3).1)
      by_cases hcn : (tm F k).conn = c
      · have c1 : ((tm F k).conn == c) = true := by simpa using hcn
        have HE2 : Hid (kindsL c (F.take (k + 1)) = L ++ [(tm F k).kind]) := Lib.hid (by rw [HE.out, if_pos hcn])
        clear HE hcn
        go_wp2_with (first | ((with_reducible show wpList _ _ _ (⟨some 14, .load _ _, _, _, _, _⟩ :: _) _ _); refine wpList_load_Mid (b := q) (off := k * 3) (cs := tcell (tm F k)) rfl rfl rfl HR.out Try.underlying27 rfl sizeTm ?_) | ((with_reducible show wpList _ _ _ (⟨some 7, .alloc _, _, _, _, _⟩ :: _) _ _); refine wpList_alloc_Row rfl rfl (tcell zT) zeroTm ?_; intro w2 hr2 hc2 hs2; have HR2 := Lib.hid hr2; have HC2 := Lib.hid (HC.out.trans hc2); have HO2 := Lib.hid (HO.out.chg hc2 (fun _ _ _ h => h)); clear hr2 hc2 hs2) | ((with_reducible show wpList _ _ _ (⟨none, .store _ (.tmp 7) _, _, _, _, _⟩ :: _) _ _); refine wpList_store_Row (xs := tcell (tm F k)) rfl rfl rfl HR2.out rfl rfl sizeTm rfl ?_; intro w3 hr3 hcs3 hs3; have HC31 := Lib.hid (hcs3 (· = wr.heap.size) w2 (Chg.refl _ _) (fun _ => rfl)); have HC3 := Lib.hid (hcs3 none_ w HC2.out (fun h => by have := HC.out.size; omega)); have HO3 := Lib.hid (HO3F.out w2 w3 HO2.out HC31.out HAL.out); have a1 := hr3.cell 1; have a2 := hr3.cell 2; simp only [tcell, List.getElem?_cons_zero, List.getElem?_cons_succ] at a1 a2; clear hr3 hcs3 hs3) | ((with_reducible show wpList _ _ _ (⟨some 22, _, _, _, _, _⟩ :: _) _ _); refine wpList_new_row (v := fun g => .slice (some ⟨g, 0, none⟩) 1 1) (e := 3) (cs := [.int .i64 (tm F k).kind]) rfl (fun w_ => by go_simp) ?_; intro w5 hr5 hc5 hs5; have HR5 := Lib.hid hr5; have HC5 := Lib.hid (HC3.out.trans hc5); have HO5 := Lib.hid (HO3.out.chg hc5 (fun _ _ _ h => h)); have HV5 : Hid (View w5 (fun _ => True) (some ⟨w3.heap.size, 0, none⟩) 1 (ints .i64 [(tm F k).kind])) := Lib.hid (View.row (cs := [.int .i64 (tm F k).kind]) hr5 (n := 1) (by simp) trivial); clear hr5 hc5 hs5) | ((with_reducible show wpList _ _ _ (⟨some 23, _, _, _, _, _⟩ :: _) _ _); refine wpList_append_K rfl _ _ _ rfl Try.underlying53 (base := w.heap.size) (L := L) (M := [(tm F k).kind]) (A := some ⟨w3.heap.size, 0, none⟩) (m := 1) (c := 1) (w0 := w) rfl HO5.out rfl HV5.out (by have := HKB.out; omega) HC5.out.size HC5.out (Nat.le_refl _) ?_; intro v6 w6 ho6 hc6; have HO6 := Lib.hid ho6; have HC6 := Lib.hid hc6; clear ho6 hc6))
        go_roundw
        case rel => exact ⟨k + 1, by omega, by go_num, by rw [HE2.out]; exact HO6.out, HC6.out⟩
        case measure => simp [intOf]; omega
      · have c1 : ((tm F k).conn == c) = false := by simpa using hcn
        have HE2 : Hid (kindsL c (F.take (k + 1)) = L) := Lib.hid (by rw [HE.out, if_neg hcn])
        clear HE hcn
        go_wp2_with (first | ((with_reducible show wpList _ _ _ (⟨some 14, .load _ _, _, _, _, _⟩ :: _) _ _); refine wpList_load_Mid (b := q) (off := k * 3) (cs := tcell (tm F k)) rfl rfl rfl HR.out Try.underlying27 rfl sizeTm ?_) | ((with_reducible show wpList _ _ _ (⟨some 7, .alloc _, _, _, _, _⟩ :: _) _ _); refine wpList_alloc_Row rfl rfl (tcell zT) zeroTm ?_; intro w2 hr2 hc2 hs2; have HR2 := Lib.hid hr2; have HC2 := Lib.hid (HC.out.trans hc2); have HO2 := Lib.hid (HO.out.chg hc2 (fun _ _ _ h => h)); clear hr2 hc2 hs2) | ((with_reducible show wpList _ _ _ (⟨none, .store _ (.tmp 7) _, _, _, _, _⟩ :: _) _ _); refine wpList_store_Row (xs := tcell (tm F k)) rfl rfl rfl HR2.out rfl rfl sizeTm rfl ?_; intro w3 hr3 hcs3 hs3; have HC31 := Lib.hid (hcs3 (· = wr.heap.size) w2 (Chg.refl _ _) (fun _ => rfl)); have HC3 := Lib.hid (hcs3 none_ w HC2.out (fun h => by have := HC.out.size; omega)); have HO3 := Lib.hid (HO3F.out w2 w3 HO2.out HC31.out HAL.out); have a1 := hr3.cell 1; have a2 := hr3.cell 2; simp only [tcell, List.getElem?_cons_zero, List.getElem?_cons_succ] at a1 a2; clear hr3 hcs3 hs3) | ((with_reducible show wpList _ _ _ (⟨some 22, _, _, _, _, _⟩ :: _) _ _); refine wpList_new_row (v := fun g => .slice (some ⟨g, 0, none⟩) 1 1) (e := 3) (cs := [.int .i64 (tm F k).kind]) rfl (fun w_ => by go_simp) ?_; intro w5 hr5 hc5 hs5; have HR5 := Lib.hid hr5; have HC5 := Lib.hid (HC3.out.trans hc5); have HO5 := Lib.hid (HO3.out.chg hc5 (fun _ _ _ h => h)); have HV5 : Hid (View w5 (fun _ => True) (some ⟨w3.heap.size, 0, none⟩) 1 (ints .i64 [(tm F k).kind])) := Lib.hid (View.row (cs := [.int .i64 (tm F k).kind]) hr5 (n := 1) (by simp) trivial); clear hr5 hc5 hs5) | ((with_reducible show wpList _ _ _ (⟨some 23, _, _, _, _, _⟩ :: _) _ _); refine wpList_append_K rfl _ _ _ rfl Try.underlying53 (base := w.heap.size) (L := L) (M := [(tm F k).kind]) (A := some ⟨w3.heap.size, 0, none⟩) (m := 1) (c := 1) (w0 := w) rfl HO5.out rfl HV5.out (by have := HKB.out; omega) HC5.out.size HC5.out (Nat.le_refl _) ?_; intro v6 w6 ho6 hc6; have HO6 := Lib.hid ho6; have HC6 := Lib.hid hc6; clear ho6 hc6))
        go_roundw
        case rel => exact ⟨k + 1, by omega, by go_num, by rw [HE2.out]; exact HO3.out, HC3.out⟩
        case measure => simp [intOf]; omega
    · have hkn : k = n := by omega
      subst hkn
      clear ho hc hk hlt
      go_wp2
      go_ret
      exact ⟨_, rfl, HO.out, HC.out⟩
theorem kinds_nil (c : Int) (w : World) : Calls Try.prog 30 #[.pointer none, .int .i64 c] w fun e w' => e = .returned (.slice none 0 0) ∧ Chg none_ w w' := by
  go_enter Try.func30, Try.ntmps30
  go_wp2_with (go_at_call 31; refine (all_nil _).mono ?_; rintro e w1 ⟨rfl, rfl⟩)
  refine wp_loop_rounds 1 ?_
  rw [rounds_succ]
  go_wp2
  go_ret
  exact ⟨rfl, Chg.refl _ _⟩
end Go.Proofs.Ytblpgpolhibfgaa
