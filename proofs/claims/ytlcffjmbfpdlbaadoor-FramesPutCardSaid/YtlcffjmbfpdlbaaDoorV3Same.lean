/- Layer 3 (frames): which frames are the same, and which ask to be acked. -/
import Derived.Test.YtlcffjmbfpdlbaaDoorV3Fr
import Derived.Test.YtlcffjmbfpdlbaaDoorEqual
import Derived.Test.YtlcffjmbfpdlbaaDoorTok
import Derived.ChangeKeysEq
namespace Go.Proofs.YtlcffjmbfpdlbaaDoor
open Go.RowKit

theorem rcells_len (l : List (Nat × Nat)) : (rcells l).length = 2 * l.length := by
  induction l with
  | nil => rfl
  | cons a l ih => simp only [rcells, List.flatMap_cons, List.length_append, List.length_cons, List.length_nil] at ih ⊢; omega
theorem rcells_lo (l : List (Nat × Nat)) (i : Nat) (h : i < l.length) : (rcells l)[2 * i]? = some (.int .u64 ((l.getD i (0, 0)).1 : Nat)) := by
  induction l generalizing i with
  | nil => cases h
  | cons a l ih =>
    cases i with
    | zero => rfl
    | succ i =>
      have := ih i (by simpa using h)
      rw [show 2 * (i + 1) = 2 * i + 1 + 1 from by omega]
      simpa [rcells] using this
theorem rcells_hi (l : List (Nat × Nat)) (i : Nat) (h : i < l.length) : (rcells l)[2 * i + 1]? = some (.int .u64 ((l.getD i (0, 0)).2 : Nat)) := by
  induction l generalizing i with
  | nil => cases h
  | cons a l ih =>
    cases i with
    | zero => rfl
    | succ i =>
      have := ih i (by simpa using h)
      rw [show 2 * (i + 1) + 1 = 2 * i + 1 + 1 + 1 from by omega]
      simpa [rcells] using this

/-- A list of ranges in view: where each one lies. -/
theorem View.ranges {w : World} {T : Nat → Prop} {A : Option Addr} {l : List (Nat × Nat)} (h : View w T A (2 * l.length) (rcells l)) (h0 : 0 < l.length) :
    ∃ b o, A = some ⟨b, o, none⟩ ∧ b < w.heap.size ∧ T b ∧ ∀ i, i < l.length → w.cell? ⟨b, o + i * 2, none⟩ = some (.int .u64 ((l.getD i (0, 0)).1 : Nat)) ∧ w.cell? ⟨b, o + i * 2 + 1, none⟩ = some (.int .u64 ((l.getD i (0, 0)).2 : Nat)) := by
  obtain ⟨b, o, ha, hb, ht, hc⟩ := h.2 (by omega)
  refine ⟨b, o, ha, hb, ht, fun i hi => ⟨?_, ?_⟩⟩
  · rw [Nat.mul_comm i 2, hc (2 * i) (by omega)]; exact rcells_lo l i hi
  · rw [Nat.mul_comm i 2, Nat.add_assoc, hc (2 * i + 1) (by omega)]; exact rcells_hi l i hi

set_option maxHeartbeats 400000 in
theorem rangesEqual_any (w : World) (T T' : Nat → Prop) (A A' : Option Addr) (c c' : Nat) (l l' : List (Nat × Nat)) (h : View w T A (2 * l.length) (rcells l)) (h' : View w T' A' (2 * l'.length) (rcells l')) (hl : l.length ≤ 1000000) :
    Calls Tryd.prog 23 #[.slice A l.length c, .slice A' l'.length c'] w fun e w' => e = .returned (.bool (decide (l = l'))) ∧ ∃ k, w' = w.drewN k := by
  by_cases hlen : l.length = l'.length
  · by_cases hz : l.length = 0
    · have e1 : l = [] := List.eq_nil_of_length_eq_zero hz
      have e2 : l' = [] := List.eq_nil_of_length_eq_zero (by omega)
      subst e1; subst e2
      clear h h'
      go_enter Tryd.func23, Tryd.ntmps23
      go_wp2
      refine wp_loop_rounds 1 ?_
      rw [rounds_succ]
      go_wp2
      go_ret
      exact ⟨rfl, 0, rfl⟩
    · obtain ⟨b, o, rfl, hb, _, hc⟩ := h.ranges (by omega)
      obtain ⟨b', o', rfl, hb', _, hc'⟩ := h'.ranges (by omega)
      have hne : (((l.length : Nat) : Int) != (l'.length : Int)) = false := by rw [bne_eq_false_iff_eq]; omega
      have hlen' : l'.length ≤ 1000000 := by omega
      have HL := Lib.hid hlen
      have HC := Lib.hid hc
      have HC' := Lib.hid hc'
      clear hlen h h' hc hc'
      go_enter Tryd.func23, Tryd.ntmps23
      go_wp2
      go_loopw [13] (fun i wr => ∃ k m : Nat, k ≤ l.length ∧ i = .int .i64 k ∧ wr = w.drewN m ∧ Hid (∀ j, j < k → l.getD j (0, 0) = l'.getD j (0, 0))) (fun i _ => l.length - (intOf i).toNat)
      case atStart => exact ⟨0, 0, Nat.zero_le _, rfl, rfl, fun j hj => absurd hj (by omega)⟩
      case round =>
        obtain ⟨k, m, hk, rfl, rfl, hpre⟩ := hrel
        by_cases hlt : k < l.length
        · have hlt' : k < l'.length := by have := HL.out; omega
          obtain ⟨c1, c2⟩ := HC.out k hlt
          obtain ⟨c3, c4⟩ := HC'.out k hlt'
          have hk0 : (0 : Int) ≤ (k : Int) := by omega
          have hk1 : (k : Int) < (l.length : Int) := by omega
          have hk2 : (k : Int) < (l'.length : Int) := by omega
          generalize hx : l.getD k (0, 0) = x at c1 c2
          generalize hy : l'.getD k (0, 0) = y at c3 c4
          have HX := Lib.hid hx
          have HY := Lib.hid hy
          clear hx hy
          obtain ⟨x1, x2⟩ := x
          obtain ⟨y1, y2⟩ := y
          simp only at c1 c2 c3 c4
          by_cases hxy : x1 = y1 ∧ x2 = y2
          · obtain ⟨rfl, rfl⟩ := hxy
            go_wp2
            go_quiet (fail)
            go_wp2
            go_roundw
            case rel =>
              refine ⟨k + 1, m + nq, by omega, by go_num, rfl, ?_⟩
              intro j hj
              rcases Nat.lt_or_ge j k with hjk | hjk
              · exact hpre.out j hjk
              · have : j = k := by omega
                subst this
                rw [HX.out, HY.out]
            case measure => simp [intOf]; omega
          · have HXY := Lib.hid hxy
            by_cases h1 : x1 = y1
            · subst h1
              have h2 : ((x2 : Int) == (y2 : Int)) = false := by simp; omega
              clear hxy
              go_wp2
              go_quiet (fail)
              go_wp2
              go_ret
              refine ⟨ret_bool ?_, m + nq, by simp only [World.drewN, Nat.add_assoc]⟩
              symm
              rw [decide_eq_false_iff_not]
              intro e
              apply HXY.out
              have h1 := HX.out
              rw [e, HY.out] at h1
              simpa [eq_comm] using h1
            · have h2 : ((x1 : Int) == (y1 : Int)) = false := by simp; omega
              clear hxy h1
              go_wp2
              go_quiet (fail)
              go_wp2
              go_ret
              refine ⟨ret_bool ?_, m + nq, by simp only [World.drewN, Nat.add_assoc]⟩
              symm
              rw [decide_eq_false_iff_not]
              intro e
              apply HXY.out
              have h1 := HX.out
              rw [e, HY.out] at h1
              simpa [eq_comm] using h1
        · have hkl : k = l.length := by omega
          have HK := Lib.hid hkl
          clear hkl
          have : ¬ (k : Int) < (l.length : Int) := by omega
          go_wp2
          go_ret
          refine ⟨ret_bool ?_, m, rfl⟩
          symm
          rw [decide_eq_true_eq]
          apply List.ext_getElem HL.out
          intro j h1 h2
          have := hpre.out j (by rw [HK.out]; exact h1)
          simpa [List.getD_eq_getElem?_getD, h1, h2] using this
  · have hne : (((l.length : Nat) : Int) != (l'.length : Int)) = true := by simp; omega
    have hd : decide (l = l') = false := by simp; intro e; exact hlen (by rw [e])
    rw [hd]
    clear h h'
    go_enter Tryd.func23, Tryd.ntmps23
    go_wp2
    go_ret
    exact ⟨rfl, 0, rfl⟩

/-- Numbers that a frame's may be. -/
structure Fr.Ok (f : Fr) : Prop where
  k0 : -9223372036854775808 ≤ f.kind
  k1 : f.kind < 9223372036854775808
  id : f.id < 18446744073709551616
  a : f.a < 18446744073709551616
  b : f.b < 18446744073709551616
  code : f.code < 18446744073709551616
  data : ∀ x ∈ f.data, x < 256
  ranges : ∀ x ∈ f.ranges, x.1 < 18446744073709551616 ∧ x.2 < 18446744073709551616
  tok : ∀ x ∈ f.tok, x < 256

theorem Fr.eq_iff (f g : Fr) : f = g ↔ f.kind = g.kind ∧ f.id = g.id ∧ f.a = g.a ∧ f.b = g.b ∧ f.code = g.code ∧ f.flag = g.flag ∧ f.data = g.data ∧ f.ranges = g.ranges ∧ f.tok = g.tok := by
  cases f; cases g; simp

section
variable {ops : Array Oper} {rest : List Oper} {o : Oper} {a : Act} {w : World} {Q : Exit → Act → World → Prop}
/-- A frame's token is read. -/
theorem wl25 {x : Operand} (ho : o.op = .load 25 x) (hw : Region.wanted o (yielded ops a.tmps) = true) {g : Nat} (hx : a.eval x = .pointer (some ⟨g, 8, none⟩)) {tok : List Nat} (h : w.rangeAt g 8 (u8s tok)) (hl : tok.length = 16)
    (k : wpList Tryd.prog ops Q rest (a.put o.dst (.agg (u8s tok).toArray)) w) : wpList Tryd.prog ops Q (o :: rest) a w :=
  wpList_load_Mid ho hw hx h Tryd.underlying25 rfl (by rw [u8s_length, hl]; exact size25) k
end
theorem tok_range {w : World} {g : Nat} {e : TypeId} {f : Fr} {sd sr : Value} (h : Row w g e (cellsF f sd sr)) : w.rangeAt g 8 (u8s f.tok) :=
  h.rangeMid 8 _ fun j v hv => by
    rw [Nat.add_comm 8 j]
    exact hv

set_option maxRecDepth 100000 in
set_option maxHeartbeats 1000000 in
theorem sameF_any (f g : Fr) (sd sr sd' sr' : Value) (w : World) (T T' : Nat → Prop) (hf : FrD w T f sd sr) (hg : FrD w T' g sd' sr') (of : f.Ok) (og : g.Ok) :
    Calls Tryd.prog 11 #[aggF f sd sr, aggF g sd' sr'] w fun e w' => e = .returned (.bool (decide (f = g))) ∧ Chg none_ w w' := by
  unfold aggF
  obtain ⟨ht, ⟨A, c, rfl, hdl, hvd⟩, ⟨B, d, rfl, hrl, hvr⟩⟩ := hf
  obtain ⟨ht', ⟨A', c', rfl, hdl', hvd'⟩, ⟨B', d', rfl, hrl', hvr'⟩⟩ := hg
  have a0 := cF_0 f (.slice A f.data.length c) (.slice B f.ranges.length d)
  have a1 := cF_1 f (.slice A f.data.length c) (.slice B f.ranges.length d)
  have a2 := cF_2 f (.slice A f.data.length c) (.slice B f.ranges.length d)
  have a3 := cF_3 f (.slice A f.data.length c) (.slice B f.ranges.length d)
  have a4 := cF_4 f (.slice A f.data.length c) (.slice B f.ranges.length d)
  have a5 := cF_5 f (.slice A f.data.length c) (.slice B f.ranges.length d)
  have a6 := cF_6 f (.slice A f.data.length c) (.slice B f.ranges.length d)
  have a7 := cF_7 f (.slice A f.data.length c) (.slice B f.ranges.length d)
  have b0 := cF_0 g (.slice A' g.data.length c') (.slice B' g.ranges.length d')
  have b1 := cF_1 g (.slice A' g.data.length c') (.slice B' g.ranges.length d')
  have b2 := cF_2 g (.slice A' g.data.length c') (.slice B' g.ranges.length d')
  have b3 := cF_3 g (.slice A' g.data.length c') (.slice B' g.ranges.length d')
  have b4 := cF_4 g (.slice A' g.data.length c') (.slice B' g.ranges.length d')
  have b5 := cF_5 g (.slice A' g.data.length c') (.slice B' g.ranges.length d')
  have b6 := cF_6 g (.slice A' g.data.length c') (.slice B' g.ranges.length d')
  have b7 := cF_7 g (.slice A' g.data.length c') (.slice B' g.ranges.length d')
  have hR1 : ∀ (w' : World) (_ : w'.heap = ((w.alloc (.cells (cellsF f (.slice A f.data.length c) (.slice B f.ranges.length d)).toArray 27)).alloc (.cells (cellsF g (.slice A' g.data.length c') (.slice B' g.ranges.length d')).toArray 27)).heap), w'.rangeAt w.heap.size 8 (u8s f.tok) := fun w' hw => by
    have := tok_range ((Row.new w 27 (cellsF f (.slice A f.data.length c) (.slice B f.ranges.length d))).alloc (.cells (cellsF g (.slice A' g.data.length c') (.slice B' g.ranges.length d')).toArray 27))
    intro j v hv
    have := this j v hv
    simpa [World.cell?, hw] using this
  have hR2 : ∀ (w' : World) (_ : w'.heap = ((w.alloc (.cells (cellsF f (.slice A f.data.length c) (.slice B f.ranges.length d)).toArray 27)).alloc (.cells (cellsF g (.slice A' g.data.length c') (.slice B' g.ranges.length d')).toArray 27)).heap), w'.rangeAt (w.heap.size + 1) 8 (u8s g.tok) := fun w' hw => by
    have := tok_range (Row.new (w.alloc (.cells (cellsF f (.slice A f.data.length c) (.slice B f.ranges.length d)).toArray 27)) 27 (cellsF g (.slice A' g.data.length c') (.slice B' g.ranges.length d')))
    intro j v hv
    have := this j v hv
    simpa [World.cell?, hw] using this
  generalize cellsF f (.slice A f.data.length c) (.slice B f.ranges.length d) = cs at *
  generalize cellsF g (.slice A' g.data.length c') (.slice B' g.ranges.length d') = cs' at *
  have hC : Chg none_ w ((w.alloc (.cells cs.toArray 27)).alloc (.cells cs'.toArray 27)) := ((Chg.refl none_ w).alloc _).alloc _
  have HC := Lib.hid hC
  have HB := Lib.hid (bytesEqual_any _ T T' A A' c c' f.data g.data (hvd.chg hC (fun _ _ h => h)) (hvd'.chg hC (fun _ _ h => h)) of.data og.data)
  have HE := Lib.hid (rangesEqual_any _ T T' B B' d d' f.ranges g.ranges (hvr.chg hC (fun _ _ h => h)) (hvr'.chg hC (fun _ _ h => h)) hrl.1)
  have HR1 := Lib.hid hR1
  have HR2 := Lib.hid hR2
  have HT := Lib.hid ht
  have HT' := Lib.hid ht'
  have hte := tok_eql f.tok g.tok ht ht'
  have HEQ := Lib.hid (f.eq_iff g)
  clear hC hvd hvd' hvr hvr' hR1 hR2 ht ht' of og
  go_enter Tryd.func11, Tryd.ntmps11
  go_wp2_with (first | ((with_reducible show wpList _ _ _ (⟨_, .load 25 _, _, _, _, _⟩ :: _) _ _); first | refine wl25 rfl rfl rfl (HR1.out _ rfl) HT.out ?_ | refine wl25 rfl rfl rfl (HR2.out _ rfl) HT'.out ?_) | (go_at_call 22; refine HB.out.mono ?_; rintro e w' ⟨rfl, rfl⟩) | (go_at_call 23; refine HE.out.mono ?_; rintro e w' ⟨rfl, nk, rfl⟩))
  all_goals
    go_ret
    refine ⟨ret_bool ?_, by first | exact HC.out | exact HC.out.drewN _⟩
    have heq := HEQ.out
    clear HC HB HE HR1 HR2 HT HT' HEQ a0 a1 a2 a3 a4 a5 a6 a7 b0 b1 b2 b3 b4 b5 b6 b7
    clear hte
    rw [Bool.eq_iff_iff]
    simp only [decide_eq_true_eq, heq]
    clear heq
    try simp only [Int.ofNat_inj] at *
    simp_all

theorem eliciting_any (f : Fr) (sd sr : Value) (w : World) :
    Calls Tryd.prog 13 #[aggF f sd sr] w fun e w' => e = .returned (.bool (decide (f.kind ≠ 0 ∧ f.kind ≠ 2 ∧ f.kind ≠ 28))) ∧ Chg none_ w w' := by
  unfold aggF
  have h0 := cF_0 f sd sr
  generalize cellsF f sd sr = cs at h0 ⊢
  have HR := Lib.hid ((Chg.refl none_ w).alloc (.cells cs.toArray 27))
  by_cases k0 : f.kind = 0
  · go_enter Tryd.func13, Tryd.ntmps13
    go_wp2
    all_goals go_ret
    all_goals exact ⟨ret_bool (by simp [*]), HR.out⟩
  by_cases k2 : f.kind = 2
  · go_enter Tryd.func13, Tryd.ntmps13
    go_wp2
    all_goals go_ret
    all_goals exact ⟨ret_bool (by simp [*]), HR.out⟩
  by_cases k28 : f.kind = 28
  · go_enter Tryd.func13, Tryd.ntmps13
    go_wp2
    all_goals go_ret
    all_goals exact ⟨ret_bool (by simp [*]), HR.out⟩
  · have e0 : (f.kind == 0) = false := by simpa using k0
    have e2 : (f.kind == 2) = false := by simpa using k2
    have e28 : (f.kind == 28) = false := by simpa using k28
    have HK := Lib.hid (show f.kind ≠ 0 ∧ f.kind ≠ 2 ∧ f.kind ≠ 28 from ⟨k0, k2, k28⟩)
    clear k0 k2 k28
    go_enter Tryd.func13, Tryd.ntmps13
    go_wp2
    all_goals go_ret
    all_goals exact ⟨ret_bool (by rw [decide_eq_true HK.out]), HR.out⟩
end Go.Proofs.YtlcffjmbfpdlbaaDoor
