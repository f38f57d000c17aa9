/- Layer 13 (ranges): the document's set: Add. -/
import Derived.Test.YtlakhfbhbebojaaV13RFg
import Derived.Test.YtlakhfbhbebojaaRegionLate
import Derived.Test.YtlakhfbhbebojaaSliceM
namespace Go.Proofs.Ytlakhfbhbebojaa
open Go.RowKit Go.Shelf Go.Sort

theorem OwnedU.lit0 {w1 : World} {g base : Nat} (h : Row w1 g 26 []) (hb : base ≤ g) : OwnedU w1 base (.slice (some ⟨g, 0, none⟩) 0 0) [] := ⟨rfl, .inr ⟨g, 0, #[], rfl, hb, h, Nat.le_refl _, Nat.zero_le _, by simp, by simp [u64s]⟩⟩
section
variable {o : Oper} {a : Act} {w w0 : World} {K : Act → World → Prop} {Q : Exit → Act → World → Prop}
theorem wp_append_U2 (s x : Operand) (ho : o.op = .call { callee := .builtin .append, args := #[s, x], argTypes := #[33, 33] }) {base : Nat} {v : Value} {L M : List Nat} {T : Nat → Prop} {A : Option Addr} {m c : Nat}
    (hs : a.eval s = v) (hown : OwnedU w base v L) (hx : a.eval x = .slice A m c) (hv : View w T A m (u64s M)) (hlen : L.length + m ≤ 1000000) (hbase : base ≤ w.heap.size) (hc0 : Chg none_ w0 w) (hb0 : w0.heap.size ≤ base)
    (k : ∀ v' w', OwnedU w' base v' (L ++ M) → Chg none_ w0 w' → Chg (fun b => v.ownBlock = some b) w w' → K (a.put o.dst v') w') : Oper.wp Try.prog o a w K Q := by
  obtain ⟨i0, hi, hz0, hz1, hz2⟩ := infoU_parts
  have hm : M.length = m := by have := hv.1; rw [u64s_len] at this; exact this
  obtain ⟨v', w', hr, h2, h3⟩ := run_append_viewN (P := Try.prog) w 33 o.type 26 i0 _ 1 8 Try.underlying33 hi hz0 hz1 hz2 rfl (by decide) base v L.length (u64s L) hown T A m c (u64s M) (by rw [Nat.mul_one]; exact hv) (u64s_one _) (by unfold maxLen; omega) (by omega) hbase
  unfold Oper.wp execOp
  simp only [ho, resolve, invoke, builtin, Sem.run_bind, Sem.run_pure, Result.andThen_ok, List.map_toArray, List.map_cons, List.map_nil, hs, hx, hr]
  refine k v' w' ?_ (hc0.appendN hb0 hown h3) (Chg.of_grown h3)
  unfold OwnedU
  rw [List.length_append, hm, show u64s (L ++ M) = u64s L ++ u64s M from List.map_append]
  exact h2
end
theorem sizeU : (Try.prog.info? 26).map (·.size) = some 1 := by kernel_rfl

theorem Same_.ins {l : List (Nat × Nat)} {L : List Nat} {y n k : Nat} (h : Same_ l L) (hg : Good l y 16) (hn : ¬ In l n) (h1 : ∀ x ∈ L.drop k, n < x) (h2 : ∀ x ∈ L.take k, x < n) : Same_ (addL l n) ([] ++ L.take k ++ [n] ++ L.drop k) := by
  have hs := List.take_append_drop k L
  refine ⟨?_, fun x => ?_⟩
  · have ha : Asc (L.take k ++ L.drop k) := by rw [hs]; exact h.asc
    obtain ⟨a1, a2, a3⟩ := List.pairwise_append.1 ha
    rw [List.nil_append, List.append_assoc]
    refine List.pairwise_append.2 ⟨a1, ?_, fun x hx z hz => ?_⟩
    · rw [List.singleton_append]
      exact List.pairwise_cons.2 ⟨h1, a2⟩
    · rw [List.singleton_append] at hz
      rcases List.mem_cons.1 hz with rfl | hz
      · exact h2 x hx
      · exact a3 x hx z hz
  · rw [(addL_spec hg.sep hn).2.1, h.mem]
    conv => lhs; rw [← hs]
    simp only [List.nil_append, List.mem_append, List.mem_singleton]
    constructor
    · rintro ((h | h) | h)
      · exact Or.inl (Or.inl h)
      · exact Or.inr h
      · exact Or.inl (Or.inr h)
    · rintro ((h | h) | h)
      · exact Or.inl (Or.inl h)
      · exact Or.inr h
      · exact Or.inl (Or.inr h)
theorem Same_.forget {l : List (Nat × Nat)} {L : List Nat} {y k : Nat} (h : Same_ l L) (hg : Good l y k) (n : Nat) : Same_ (forgetS l y n).1 (leftU (min n MX) L) := by
  refine ⟨List.Pairwise.filter _ h.asc, fun x => ?_⟩
  rw [(forgetS_spec hg n).2.1, h.mem]
  unfold leftU
  simp
theorem RForget_any (g B y n k : Nat) (l : List (Nat × Nat)) (L : List Nat) (w : World) (h : RAt w B g L y) (hl : L.length ≤ 1000) (hs : Same_ l L) (hg : Good l y k) :
    Calls Try.prog 16 #[.pointer (some ⟨g, 0, none⟩), .int .u64 (n : Int)] w fun e w' => e = .returned (.int .i64 ((forgetN l y n : Nat) : Int)) ∧ (∃ L2, RAt w' B g L2 (forgetS l y n).2 ∧ Same_ (forgetS l y n).1 L2 ∧ L2.length ≤ L.length) ∧ Chg (· = g) w w' := by
  have hx : ∀ x ∈ L, x ≤ MX := fun x hx => (hs.le hg x hx).2
  have hk := forgetN_eq hg n
  rw [← hs.ranges hg] at hk
  have hk' : (rangesR L).countP (hiLe (min n MX)) = forgetN l y n := by rw [hs.ranges hg] at hk ⊢; exact hk
  have hy := (forgetS_spec hg n).2.2
  have hll : (leftU (min n MX) L).length ≤ L.length := List.length_filter_le _ _
  by_cases hn : n ≤ MX
  · have em : min n MX = n := by omega
    rw [em] at hk' hy hll
    refine (RForget_le g B y n L w h hl hx hn).mono ?_
    rintro e w' ⟨a, b, c⟩
    refine ⟨by rw [a, hk'], ⟨_, by rw [hy]; exact b, ?_, hll⟩, c⟩
    have := hs.forget hg n
    rwa [em] at this
  · have em : min n MX = MX := by omega
    rw [em] at hk' hy hll
    refine (RForget_gt g B y n L w h hl hx (by omega)).mono ?_
    rintro e w' ⟨a, b, c⟩
    refine ⟨by rw [a, hk'], ⟨_, by rw [hy]; exact b, ?_, hll⟩, c⟩
    have := hs.forget hg n
    rwa [em] at this

set_option maxRecDepth 100000 in
set_option maxHeartbeats 1000000 in
theorem RAdd_not (g B y n : Nat) (l : List (Nat × Nat)) (L : List Nat) (w : World) (h : RAt w B g L y) (hl : L.length ≤ 900) (hs : Same_ l L) (hg : Good l y 16) (hn : newB l y n = false) :
    Calls Try.prog 15 #[.pointer (some ⟨g, 0, none⟩), .int .u64 (n : Int)] w fun e w' => e = .returned (.bool false) ∧ Chg none_ w w' := by
  have HH : Hid (Calls Try.prog 17 #[.pointer (some ⟨g, 0, none⟩), .int .u64 (n : Int)] w fun e w' => e = .returned (.bool (decide (n ∈ L))) ∧ w' = w) := Lib.hid (RHas_any g B y n L w h (by omega))
  have hhas := hs.has hg (n := n)
  obtain ⟨A, cap, hr, _⟩ := h
  have c1 : w.cell? ⟨g, 1, none⟩ = some (.int .u64 (y : Int)) := hr.cell 1
  clear hr hs hg
  by_cases h1 : MX < n
  · have d1 : (4611686018427387903 : Int) < (n : Int) := by unfold MX at h1; omega
    have d2 : decide ((4611686018427387903 : Int) < (n : Int)) = true := by simpa using d1
    clear h1 hn HH hhas
    go_enter Try.func15, Try.ntmps15
    go_wp2
    go_ret
    exact ⟨rfl, Chg.refl _ _⟩
  · have d1 : ¬ (4611686018427387903 : Int) < (n : Int) := by unfold MX at h1; omega
    have d2 : decide ((4611686018427387903 : Int) < (n : Int)) = false := by simpa using d1
    by_cases h2 : n < y
    · have e2 : decide (n < y) = true := by simpa using h2
      have e3 : decide ((n : Int) < (y : Int)) = true := by simpa using h2
      have e4 : (n : Int) < (y : Int) := by omega
      clear h1 hn HH hhas
      go_enter Try.func15, Try.ntmps15
      go_wp2
      go_ret
      exact ⟨rfl, Chg.refl _ _⟩
    · have e2 : decide (n < y) = false := by simpa using h2
      have e3 : decide ((n : Int) < (y : Int)) = false := by simpa using h2
      have e4 : ¬ (n : Int) < (y : Int) := by omega
      have hh : decide (n ∈ L) = true := by
        rw [hhas]
        have hm : decide (MX < n) = false := by simpa using h1
        unfold newB at hn
        rw [e2, hm] at hn
        simpa using hn
      rw [hh] at HH
      clear h1 hn hhas hh
      go_enter Try.func15, Try.ntmps15
      go_wp2_with (go_at_call 17; refine HH.out.mono ?_; rintro e w9 ⟨rfl, rfl⟩)
      go_ret
      exact ⟨rfl, Chg.refl _ _⟩

set_option maxRecDepth 100000 in
set_option maxHeartbeats 4000000 in
theorem RAdd_yes (g B y n : Nat) (l : List (Nat × Nat)) (L : List Nat) (w : World) (h : RAt w B g L y) (hl : L.length ≤ 900) (hs : Same_ l L) (hg : Good l y 16) (hn : newB l y n = true) :
    Calls Try.prog 15 #[.pointer (some ⟨g, 0, none⟩), .int .u64 (n : Int)] w fun e w' => e = .returned (.bool true) ∧ (∃ L2, RAt w' B g L2 (addS l y n).2 ∧ Same_ (addS l y n).1 L2 ∧ L2.length ≤ L.length + 1) ∧ Chg (· = g) w w' := by
  obtain ⟨hn1, hn2, hn3⟩ := (newB_iff hg).1 hn
  have HGD := Lib.hid (addL_good hg hn1 hn2 hn3)
  have HINS := Lib.hid (fun k (h1 : ∀ x ∈ L.drop k, n < x) (h2 : ∀ x ∈ L.take k, x < n) => hs.ins hg hn3 h1 h2)
  have HAS : Hid (∀ r, (addL l n)[16]? = some r → addS l y n = forgetS (addL l n) y r.2) := Lib.hid (fun r hr => by unfold addS; rw [hr])
  have HAN : Hid ((addL l n)[16]? = none → addS l y n = (addL l n, y)) := Lib.hid (fun hr => by unfold addS; rw [hr])
  have HH : Hid (Calls Try.prog 17 #[.pointer (some ⟨g, 0, none⟩), .int .u64 (n : Int)] w fun e w' => e = .returned (.bool false) ∧ w = w') := Lib.hid (by
    have := RHas_any g B y n L w h (by omega)
    rw [decide_eq_false (fun hx => hn3 ((hs.mem n).2 hx))] at this
    exact this.mono fun e w' ⟨a, b⟩ => ⟨a, b.symm⟩)
  have HNE := Lib.hid (show ∀ m, m < L.length → nm L m ≠ n from fun m hm e => hn3 ((hs.mem n).2 (e ▸ nm_mem hm)))
  have HASC := Lib.hid hs.asc
  generalize addS l y n = fS at *
  generalize addL l n = l1 at *
  obtain ⟨A, cap, hr, hcap, _, hv, hgB, hBw⟩ := h
  have c0 : w.cell? ⟨g, 0, none⟩ = some (.slice A L.length cap) := hr.cell 0
  have c1 : w.cell? ⟨g, 1, none⟩ = some (.int .u64 (y : Int)) := hr.cell 1
  have HRW := Lib.hid hr
  have HRL := Lib.hid hr.lt
  have HGB := Lib.hid (And.intro hgB hBw)
  have HV := Lib.hid hv
  have HV1 : Hid (∀ w', Chg none_ w w' → ∀ k, k ≤ L.length → View w' (fun b => B ≤ b) (highN A cap) k (u64s (L.take k))) := Lib.hid (fun w' hc k hk => by
    have := ((hv.chg hc (fun _ _ h => h)).take hk).highN cap
    rwa [show (u64s L).take k = u64s (L.take k) from (List.map_take ..).symm] at this)
  have HV2 : Hid (∀ w', Chg none_ w w' → ∀ k, View w' (fun b => B ≤ b) (dropN A cap k 1) (L.length - k) (u64s (L.drop k))) := Lib.hid (fun w' hc k => by
    have := View.dropN (k := k) (s := 1) (n := L.length) (by rw [Nat.mul_one]; exact hv.chg hc (fun _ _ h => h)) hcap
    rw [Nat.mul_one, Nat.mul_one] at this
    rwa [show (u64s L).drop k = u64s (L.drop k) from (List.map_drop ..).symm] at this)
  have d1 : ¬ (4611686018427387903 : Int) < (n : Int) := by unfold MX at hn1; omega
  have d2 : decide ((4611686018427387903 : Int) < (n : Int)) = false := by simpa using d1
  have d3 : ¬ n < y := by omega
  have d4 : decide (n < y) = false := by simpa using d3
  have d5 : decide ((n : Int) < (y : Int)) = false := by simpa using d3
  have d6 : ¬ (n : Int) < (y : Int) := by omega
  clear hr hv hn hn1 hn2 hn3 hs hg hgB hBw
  go_enter Try.func15, Try.ntmps15
  go_wp2_with (go_at_call 17; refine HH.out.mono ?_; rintro e w9 ⟨rfl, rfl⟩)
  clear d1 d2 d3 d4 d5 d6 c1 HH
  go_loopw [5] (fun i wr => ∃ k : Nat, i = .int .i64 (k : Int) ∧ k ≤ L.length ∧ (∀ m, k ≤ m → m < L.length → n < nm L m) ∧ w = wr) (fun i _ => (intOf i).toNat)
  case atStart => exact ⟨L.length, rfl, Nat.le_refl _, fun m h1 h2 => absurd h1 (by omega), rfl⟩
  case round =>
    obtain ⟨k, rfl, hk, hm, rfl⟩ := hrel
    have HD : Hid (∀ x ∈ L.drop k, n < x) := Lib.hid (fun x hx => by
      obtain ⟨i, hi, e⟩ := List.mem_iff_getElem.1 hx
      rw [List.length_drop] at hi
      rw [List.getElem_drop] at e
      have := hm (k + i) (by omega) (by omega)
      unfold nm at this
      rw [List.getD_eq_getElem?_getD, List.getElem?_eq_getElem (by omega)] at this
      rw [← e]
      exact this)
    rcases Nat.eq_zero_or_pos k with hk0 | hkp
    · have h1 := HD.out
      have h2 : ∀ x ∈ L.take k, x < n := by rw [hk0]; simp
      have z1 : ¬ (0 : Int) < (k : Int) := by omega
      have z2 : decide ((0 : Int) < (k : Int)) = false := by simpa using z1
      have z3 : decide (0 < k) = false := by simp; omega
      have z4 : ¬ 0 < k := by omega
      obtain ⟨L', hL'⟩ : ∃ L', L' = [] ++ L.take k ++ [n] ++ L.drop k := ⟨_, rfl⟩
      have hL1 : L'.length = L.length + 1 := by rw [hL']; simp; omega
      have HSI := Lib.hid (show Same_ l1 L' from by rw [hL']; exact HINS.out k h1 h2)
      have HFIN : Hid (∀ w2 v2, OwnedU w2 w.heap.size v2 ([] ++ L.take k ++ [n] ++ L.drop k) → Chg none_ w w2 → ∃ A2 n2 cap2, v2 = .slice A2 n2 cap2 ∧ RAt (w2.setCell ⟨g, 0, none⟩ (.slice A2 n2 cap2)) B g L' y ∧ Chg (· = g) w (w2.setCell ⟨g, 0, none⟩ (.slice A2 n2 cap2))) := Lib.hid (fun w2 v2 ho hc => by
        rw [← hL'] at ho
        obtain ⟨A2, cap2, e, k1, k2, k3⟩ := ho.view
        exact ⟨A2, _, cap2, e, RAt.store HRW.out HGB.out.1 HGB.out.2 hc k1 k2 (k3.mono (fun b _ hb => Nat.le_trans HGB.out.2 hb))⟩)
      have HRR : Hid (∀ w1, RAt w1 B g L' y → Calls Try.prog 20 #[.pointer (some ⟨g, 0, none⟩)] w1 fun e w' => ∃ A3 cap3, e = .returned (.slice A3 l1.length cap3) ∧ View w' (fun _ => True) A3 (l1.length * 2) (rcells l1) ∧ Chg none_ w1 w') := Lib.hid (fun w1 hr1 => (RRanges_any g B y L' w1 hr1 (by omega) (fun x hx => (HSI.out.le HGD.out x hx).2)).mono fun e w' ⟨v, a, ho, hc⟩ => by
        rw [HSI.out.ranges HGD.out] at ho
        obtain ⟨A3, cap3, rfl, _, _, hv⟩ := ho.view
        exact ⟨A3, cap3, a, hv.mono (fun _ _ _ => trivial), hc⟩)
      have HFO : Hid (16 < l1.length → (∀ w1, RAt w1 B g L' y → Calls Try.prog 16 #[.pointer (some ⟨g, 0, none⟩), .int .u64 ((rg l1 16).2 : Int)] w1 fun e w' => ∃ c : Nat, e = .returned (.int .i64 (c : Int)) ∧ (∃ L2, RAt w' B g L2 fS.2 ∧ Same_ fS.1 L2 ∧ L2.length ≤ L.length + 1) ∧ Chg (· = g) w1 w') ∧ ∀ w1 A3, View w1 (fun _ => True) A3 (l1.length * 2) (rcells l1) → ∃ b3 o3, A3 = some ⟨b3, o3, none⟩ ∧ w1.cell? ⟨b3, o3 + 16 * 2 + 1, none⟩ = some (.int .u64 ((rg l1 16).2 : Int))) := Lib.hid (fun h16 => ⟨fun w1 hr1 => by
        have hq : l1[16]? = some (rg l1 16) := by
          unfold rg
          rw [List.getD_eq_getElem?_getD, List.getElem?_eq_getElem h16]
          rfl
        have e := HAS.out _ hq
        refine (RForget_any g B y (rg l1 16).2 17 l1 L' w1 hr1 (by omega) HSI.out HGD.out).mono ?_
        rintro e' w' ⟨a, ⟨L2, b1, b2, b3⟩, c⟩
        rw [← e] at b1 b2
        exact ⟨_, a, ⟨L2, b1, b2, by omega⟩, c⟩, fun w1 A3 hv => by
        obtain ⟨b3, o3, rfl, _, _, hk⟩ := hv.rAt h16
        exact ⟨b3, o3, rfl, hk 16 h16 1 _ rfl⟩⟩)
      have HFN : Hid (¬ 16 < l1.length → ∀ w1, RAt w1 B g L' y → ∃ L2, RAt w1 B g L2 fS.2 ∧ Same_ fS.1 L2 ∧ L2.length ≤ L.length + 1) := Lib.hid (fun h16 w1 hr1 => by
        have e := HAN.out (by rw [List.getElem?_eq_none_iff]; omega)
        rw [e]
        exact ⟨L', hr1, HSI.out, by omega⟩)
      have hkL : k ≤ L.length := hk
      clear hL' hL1 h1 h2 HAS HAN HINS
      have HV1 := Lib.hid (fun w' hc => HV1.out w' hc k hkL)
      have HV2 := Lib.hid (fun w' hc => HV2.out w' hc k)
      clear hm hk0
      go_wp2
      refine wp_region_late (fun x => Chg none_ w x) 21 (by kernel_rfl) ?_
      have hz : Chg none_ w w.drew := (Chg.refl none_ w).drew
      generalize w.drew = wz at hz ⊢
      refine late_take (i := 0) (v := .pointer (some ⟨g, 0, none⟩)) [19, 20, 21] rfl (by kernel_rfl) (by kernel_rfl) (by kernel_rfl) (by kernel_rfl) (by first | exact fun _ _ _ h => h | exact fun _ _ _ h => nomatch h.1) (Or.inl ⟨by rfl, fun w_ hw_ => by go_simp⟩) hz ?_
      try simp only [Act.put, List.setIfInBounds_toArray, List.set_cons_zero, List.set_cons_succ, List.getElem_toArray, List.getElem_cons_zero]
      refine late_take (i := 2) (v := .pointer (some ⟨g, 0, none⟩)) [3, 4, 5, 7, 8, 11, 18, 21] rfl (by kernel_rfl) (by kernel_rfl) (by kernel_rfl) (by kernel_rfl) (by first | exact fun _ _ _ h => h | exact fun _ _ _ h => nomatch h.1) (Or.inl ⟨by rfl, fun w_ hw_ => by go_simp⟩) hz ?_
      try simp only [Act.put, List.setIfInBounds_toArray, List.set_cons_zero, List.set_cons_succ, List.getElem_toArray, List.getElem_cons_succ, List.getElem_cons_zero]
      refine late_take (i := 3) (v := .pointer (some ⟨g, 0, none⟩)) [4, 5, 7, 8, 11, 18, 21] rfl (by kernel_rfl) (by kernel_rfl) (by kernel_rfl) (by kernel_rfl) (by first | exact fun _ _ _ h => h | exact fun _ _ _ h => nomatch h.1) (Or.inl ⟨by rfl, fun w_ hw_ => by go_simp⟩) hz ?_
      try simp only [Act.put, List.setIfInBounds_toArray, List.set_cons_zero, List.set_cons_succ, List.getElem_toArray, List.getElem_cons_succ, List.getElem_cons_zero]
      refine late_take (i := 4) (v := .pointer (some ⟨g, 0, none⟩)) [5, 7, 8, 11, 18, 21] rfl (by kernel_rfl) (by kernel_rfl) (by kernel_rfl) (by kernel_rfl) (by first | exact fun _ _ _ h => h | exact fun _ _ _ h => nomatch h.1) (Or.inl ⟨by rfl, fun w_ hw_ => by go_simp⟩) hz ?_
      try simp only [Act.put, List.setIfInBounds_toArray, List.set_cons_zero, List.set_cons_succ, List.getElem_toArray, List.getElem_cons_succ, List.getElem_cons_zero]
      refine late_take (i := 5) (v := .slice A L.length cap) [7, 8, 11, 18, 21] rfl (by kernel_rfl) (by kernel_rfl) (by kernel_rfl) (by kernel_rfl) (by first | exact fun _ _ _ h => h | exact fun _ _ _ h => nomatch h.1) (Or.inl ⟨by rfl, fun w_ hw_ => by have c0_ := (Chg.cell hw_ 0 HRL.out (fun h => h)).trans c0; go_simp⟩) hz ?_
      try simp only [Act.put, List.setIfInBounds_toArray, List.set_cons_zero, List.set_cons_succ, List.getElem_toArray, List.getElem_cons_succ, List.getElem_cons_zero]
      refine late_take (i := 6) (v := .int .i64 (k : Int)) [7, 8, 11, 18, 21] rfl (by kernel_rfl) (by kernel_rfl) (by kernel_rfl) (by kernel_rfl) (by first | exact fun _ _ _ h => h | exact fun _ _ _ h => nomatch h.1) (Or.inl ⟨by rfl, fun w_ hw_ => by go_simp⟩) hz ?_
      try simp only [Act.put, List.setIfInBounds_toArray, List.set_cons_zero, List.set_cons_succ, List.getElem_toArray, List.getElem_cons_succ, List.getElem_cons_zero]
      refine late_take (i := 7) (v := .slice (highN A cap) k cap) [8, 11, 18, 21] rfl (by kernel_rfl) (by kernel_rfl) (by kernel_rfl) (by kernel_rfl) (by first | exact fun _ _ _ h => h | exact fun _ _ _ h => nomatch h.1) (yieldsIf_slice_highN (by rfl) 33 26 _ _ rfl A L.length cap k 1 rfl rfl Try.underlying33 sizeU (by omega)) hz ?_
      try simp only [Act.put, List.setIfInBounds_toArray, List.set_cons_zero, List.set_cons_succ, List.getElem_toArray, List.getElem_cons_succ, List.getElem_cons_zero]
      refine late_take (i := 9) (v := .int .u64 (n : Int)) [10, 11, 18, 21] rfl (by kernel_rfl) (by kernel_rfl) (by kernel_rfl) (by kernel_rfl) (by first | exact fun _ _ _ h => h | exact fun _ _ _ h => nomatch h.1) (Or.inl ⟨by rfl, fun w_ hw_ => by go_simp⟩) hz ?_
      try simp only [Act.put, List.setIfInBounds_toArray, List.set_cons_zero, List.set_cons_succ, List.getElem_toArray, List.getElem_cons_succ, List.getElem_cons_zero]
      refine late_take (i := 12) (v := .pointer (some ⟨g, 0, none⟩)) [13, 14, 15, 17, 18, 21] rfl (by kernel_rfl) (by kernel_rfl) (by kernel_rfl) (by kernel_rfl) (by first | exact fun _ _ _ h => h | exact fun _ _ _ h => nomatch h.1) (Or.inl ⟨by rfl, fun w_ hw_ => by go_simp⟩) hz ?_
      try simp only [Act.put, List.setIfInBounds_toArray, List.set_cons_zero, List.set_cons_succ, List.getElem_toArray, List.getElem_cons_succ, List.getElem_cons_zero]
      refine late_take (i := 13) (v := .pointer (some ⟨g, 0, none⟩)) [14, 15, 17, 18, 21] rfl (by kernel_rfl) (by kernel_rfl) (by kernel_rfl) (by kernel_rfl) (by first | exact fun _ _ _ h => h | exact fun _ _ _ h => nomatch h.1) (Or.inl ⟨by rfl, fun w_ hw_ => by go_simp⟩) hz ?_
      try simp only [Act.put, List.setIfInBounds_toArray, List.set_cons_zero, List.set_cons_succ, List.getElem_toArray, List.getElem_cons_succ, List.getElem_cons_zero]
      refine late_take (i := 14) (v := .pointer (some ⟨g, 0, none⟩)) [15, 17, 18, 21] rfl (by kernel_rfl) (by kernel_rfl) (by kernel_rfl) (by kernel_rfl) (by first | exact fun _ _ _ h => h | exact fun _ _ _ h => nomatch h.1) (Or.inl ⟨by rfl, fun w_ hw_ => by go_simp⟩) hz ?_
      try simp only [Act.put, List.setIfInBounds_toArray, List.set_cons_zero, List.set_cons_succ, List.getElem_toArray, List.getElem_cons_succ, List.getElem_cons_zero]
      refine late_take (i := 15) (v := .slice A L.length cap) [17, 18, 21] rfl (by kernel_rfl) (by kernel_rfl) (by kernel_rfl) (by kernel_rfl) (by first | exact fun _ _ _ h => h | exact fun _ _ _ h => nomatch h.1) (Or.inl ⟨by rfl, fun w_ hw_ => by have c0_ := (Chg.cell hw_ 0 HRL.out (fun h => h)).trans c0; go_simp⟩) hz ?_
      try simp only [Act.put, List.setIfInBounds_toArray, List.set_cons_zero, List.set_cons_succ, List.getElem_toArray, List.getElem_cons_succ, List.getElem_cons_zero]
      refine late_take (i := 16) (v := .int .i64 (k : Int)) [17, 18, 21] rfl (by kernel_rfl) (by kernel_rfl) (by kernel_rfl) (by kernel_rfl) (by first | exact fun _ _ _ h => h | exact fun _ _ _ h => nomatch h.1) (Or.inl ⟨by rfl, fun w_ hw_ => by go_simp⟩) hz ?_
      try simp only [Act.put, List.setIfInBounds_toArray, List.set_cons_zero, List.set_cons_succ, List.getElem_toArray, List.getElem_cons_succ, List.getElem_cons_zero]
      refine late_take (i := 17) (v := .slice (dropN A cap k 1) (L.length - k) (cap - k)) [18, 21] rfl (by kernel_rfl) (by kernel_rfl) (by kernel_rfl) (by kernel_rfl) (by first | exact fun _ _ _ h => h | exact fun _ _ _ h => nomatch h.1) (yieldsIf_slice_lowN (by rfl) 33 26 _ _ rfl A L.length cap k 1 rfl rfl Try.underlying33 sizeU (by omega)) hz ?_
      try simp only [Act.put, List.setIfInBounds_toArray, List.set_cons_zero, List.set_cons_succ, List.getElem_toArray, List.getElem_cons_succ, List.getElem_cons_zero]
      refine late_two (i := 1) (j := 10) (by kernel_rfl) rfl rfl (fun K hK => ?_) (fun K hK => ?_)
      · rw [if_pos (by rfl)]
        try simp only [List.getElem_toArray, List.getElem_cons_succ, List.getElem_cons_zero]
        refine wp_new_row (v := fun g => .slice (some ⟨g, 0, none⟩) 0 0) (e := 26) (cs := []) (fun w_ => by go_simp) ?_
        intro x1 hr_x1 hc_x1 hs_x1
        have h1 : Chg none_ w x1 := hz.trans hc_x1
        have o44 : OwnedU x1 w.heap.size (.slice (some ⟨wz.heap.size, 0, none⟩) 0 0) [] := OwnedU.lit0 hr_x1 hz.size
        refine hK.out _ _ h1 ?_
        clear hK K
        try simp only [Act.put, List.setIfInBounds_toArray, List.set_cons_zero, List.set_cons_succ]
        refine late_two (i := 8) (j := 10) (by kernel_rfl) rfl rfl (fun K hK => ?_) (fun K hK => ?_)
        · rw [if_pos (by rfl)]
          try simp only [List.getElem_toArray, List.getElem_cons_succ, List.getElem_cons_zero]
          refine wp_append_U2 (.tmp 44) (.tmp 50) rfl (base := w.heap.size) (v := .slice (some ⟨wz.heap.size, 0, none⟩) 0 0) (L := []) (M := L.take k) (T := (fun b => B ≤ b)) (A := highN A cap) (m := k) (c := cap) (w0 := w) rfl o44 rfl ((HV1.out _ h1)) (by simp; omega) h1.size h1 (Nat.le_refl _) ?_
          intro v51 x2 o51 h2 hg_x2
          refine hK.out _ _ h2 ?_
          clear hK K
          try simp only [Act.put, List.setIfInBounds_toArray, List.set_cons_zero, List.set_cons_succ]
          refine late_one (i := 10) (by kernel_rfl) rfl (fun K hK => ?_)
          rw [if_pos (by rfl)]
          try simp only [List.getElem_toArray, List.getElem_cons_succ, List.getElem_cons_zero]
          refine wp_new_row (v := fun g => .slice (some ⟨g, 0, none⟩) 1 1) (e := 26) (cs := u64s [n]) (fun w_ => by go_simp; try rfl) ?_
          intro x3 hr_x3 hc_x3 hs_x3
          have h3 : Chg none_ w x3 := h2.trans hc_x3
          have v53 : View x3 (fun b => b = x2.heap.size) (some ⟨x2.heap.size, 0, none⟩) 1 (u64s [n]) := View.row (cs := u64s [n]) hr_x3 (n := 1) (Nat.le_refl _) rfl
          refine hK.out _ _ h3 ?_
          clear hK K
          try simp only [Act.put, List.setIfInBounds_toArray, List.set_cons_zero, List.set_cons_succ]
          refine late_one (i := 11) (by kernel_rfl) rfl (fun K hK => ?_)
          rw [if_pos (by rfl)]
          try simp only [List.getElem_toArray, List.getElem_cons_succ, List.getElem_cons_zero]
          refine wp_append_U2 (.tmp 51) (.tmp 53) rfl (base := w.heap.size) (L := [] ++ L.take k) (M := [n]) (T := (fun b => b = x2.heap.size)) (A := some ⟨x2.heap.size, 0, none⟩) (m := 1) (c := 1) (w0 := w) rfl (o51.chg hc_x3 (fun _ _ h => h)) rfl (v53) (by simp; omega) h3.size h3 (Nat.le_refl _) ?_
          intro v54 x4 o54 h4 hg_x4
          refine hK.out _ _ h4 ?_
          clear hK K
          try simp only [Act.put, List.setIfInBounds_toArray, List.set_cons_zero, List.set_cons_succ]
          refine late_one (i := 18) (by kernel_rfl) rfl (fun K hK => ?_)
          rw [if_pos (by rfl)]
          try simp only [List.getElem_toArray, List.getElem_cons_succ, List.getElem_cons_zero]
          refine wp_append_U2 (.tmp 54) (.tmp 60) rfl (base := w.heap.size) (L := [] ++ L.take k ++ [n]) (M := L.drop k) (T := (fun b => B ≤ b)) (A := dropN A cap k 1) (m := (L.length - k)) (c := (cap - k)) (w0 := w) rfl o54 rfl ((HV2.out _ h4)) (by simp; omega) h4.size h4 (Nat.le_refl _) ?_
          intro v61 x5 o61 h5 hg_x5
          refine hK.out _ _ h5 ?_
          clear hK K
          try simp only [Act.put, List.setIfInBounds_toArray, List.set_cons_zero, List.set_cons_succ]
          refine late_take (i := 19) (v := .pointer (some ⟨g, 0, none⟩)) [20, 21] rfl (by kernel_rfl) (by kernel_rfl) (by kernel_rfl) (by kernel_rfl) (by first | exact fun _ _ _ h => h | exact fun _ _ _ h => nomatch h.1) (Or.inl ⟨by rfl, fun w_ hw_ => by go_simp⟩) h5 ?_
          try simp only [Act.put, List.setIfInBounds_toArray, List.set_cons_zero, List.set_cons_succ, List.getElem_toArray, List.getElem_cons_succ, List.getElem_cons_zero]
          refine late_take (i := 20) (v := .pointer (some ⟨g, 0, none⟩)) [21] rfl (by kernel_rfl) (by kernel_rfl) (by kernel_rfl) (by kernel_rfl) (by first | exact fun _ _ _ h => h | exact fun _ _ _ h => nomatch h.1) (Or.inl ⟨by rfl, fun w_ hw_ => by go_simp⟩) h5 ?_
          try simp only [Act.put, List.setIfInBounds_toArray, List.set_cons_zero, List.set_cons_succ, List.getElem_toArray, List.getElem_cons_succ, List.getElem_cons_zero]
          obtain ⟨A2, n2, cap2, rfl, g1⟩ := HFIN.out _ _ o61 h5
          have cr := (h5.cell 0 HRL.out (fun h => h)).trans c0
          have fr := (HRW.out.chg h5 (fun h => h)).frozen 0
          have HFX := Lib.hid g1
          clear g1
          refine late_last (by kernel_rfl) rfl (by kernel_rfl) (fun K hK => ?_)
          rw [if_pos (by rfl)]
          try simp only [List.getElem_toArray, List.getElem_cons_succ, List.getElem_cons_zero]
          go_simp
          refine hK.out _ _ ?_
          clear hK K
          try simp only [Act.put, List.setIfInBounds_toArray, List.set_cons_zero, List.set_cons_succ, List.getElem_toArray, List.getElem_cons_succ, List.getElem_cons_zero]
          clear cr fr c0
          obtain ⟨w5, hw5⟩ : ∃ w5, w5 = x5.setCell ⟨g, 0, none⟩ (.slice A2 n2 cap2) := ⟨_, rfl⟩
          rw [← hw5] at HFX ⊢
          clear hw5
          by_cases h16 : 16 < l1.length
          · have k16 : (16 : Int) < (l1.length : Int) := by omega
            have HFO2 := Lib.hid (HFO.out h16)
            have HRA2 := Lib.hid (HRR.out w5 HFX.out.1)
            clear h16 HFO HRR HFN
            generalize l1.length = n1 at *
            go_wp2_with (first | (go_at_call 20; refine HRA2.out.mono ?_; rintro e w6 ⟨A3, c3, rfl, hv3, hc⟩; have HC6 := Lib.hid hc; obtain ⟨b3, o3, rfl, a3⟩ := HFO2.out.2 _ _ hv3; clear hv3 hc) | (go_at_call 16; refine (HFO2.out.1 _ (HFX.out.1.quiet HC6.out)).mono ?_; rintro e w7 ⟨c, rfl, hq, hc⟩; have HQ7 := Lib.hid hq; have HC7 := Lib.hid ((HFX.out.2.trans (HC6.out.mono (fun _ _ h => h.elim))).trans hc); clear hq hc))
            go_ret
            exact ⟨rfl, HQ7.out, HC7.out⟩
          · have k16 : ¬ (16 : Int) < (l1.length : Int) := by omega
            have HFN2 := Lib.hid (HFN.out h16)
            have HRA2 := Lib.hid (HRR.out w5 HFX.out.1)
            clear h16 HFO HRR HFN
            generalize l1.length = n1 at *
            go_wp2_with (go_at_call 20; refine HRA2.out.mono ?_; rintro e w6 ⟨A3, c3, rfl, hv3, hc⟩; have HC6 := Lib.hid hc; clear hv3 hc)
            go_ret
            exact ⟨rfl, HFN2.out _ (HFX.out.1.quiet HC6.out), HFX.out.2.trans (HC6.out.mono (fun _ _ h => h.elim))⟩
        · rw [if_pos (by rfl)]
          try simp only [List.getElem_toArray, List.getElem_cons_succ, List.getElem_cons_zero]
          refine wp_new_row (v := fun g => .slice (some ⟨g, 0, none⟩) 1 1) (e := 26) (cs := u64s [n]) (fun w_ => by go_simp; try rfl) ?_
          intro x2 hr_x2 hc_x2 hs_x2
          have h2 : Chg none_ w x2 := h1.trans hc_x2
          have v53 : View x2 (fun b => b = x1.heap.size) (some ⟨x1.heap.size, 0, none⟩) 1 (u64s [n]) := View.row (cs := u64s [n]) hr_x2 (n := 1) (Nat.le_refl _) rfl
          refine hK.out _ _ h2 ?_
          clear hK K
          try simp only [Act.put, List.setIfInBounds_toArray, List.set_cons_zero, List.set_cons_succ]
          refine late_one (i := 8) (by kernel_rfl) rfl (fun K hK => ?_)
          rw [if_pos (by rfl)]
          try simp only [List.getElem_toArray, List.getElem_cons_succ, List.getElem_cons_zero]
          refine wp_append_U2 (.tmp 44) (.tmp 50) rfl (base := w.heap.size) (v := .slice (some ⟨wz.heap.size, 0, none⟩) 0 0) (L := []) (M := L.take k) (T := (fun b => B ≤ b)) (A := highN A cap) (m := k) (c := cap) (w0 := w) rfl (o44.chg hc_x2 (fun _ _ h => h)) rfl ((HV1.out _ h2)) (by simp; omega) h2.size h2 (Nat.le_refl _) ?_
          intro v51 x3 o51 h3 hg_x3
          refine hK.out _ _ h3 ?_
          clear hK K
          try simp only [Act.put, List.setIfInBounds_toArray, List.set_cons_zero, List.set_cons_succ]
          refine late_one (i := 11) (by kernel_rfl) rfl (fun K hK => ?_)
          rw [if_pos (by rfl)]
          try simp only [List.getElem_toArray, List.getElem_cons_succ, List.getElem_cons_zero]
          refine wp_append_U2 (.tmp 51) (.tmp 53) rfl (base := w.heap.size) (L := [] ++ L.take k) (M := [n]) (T := (fun b => b = x1.heap.size)) (A := some ⟨x1.heap.size, 0, none⟩) (m := 1) (c := 1) (w0 := w) rfl o51 rfl ((v53.chg hg_x3 (fun b (e : b = x1.heap.size) h => by have h2 : some wz.heap.size = some b := h; injection h2 with h2; omega))) (by simp; omega) h3.size h3 (Nat.le_refl _) ?_
          intro v54 x4 o54 h4 hg_x4
          refine hK.out _ _ h4 ?_
          clear hK K
          try simp only [Act.put, List.setIfInBounds_toArray, List.set_cons_zero, List.set_cons_succ]
          refine late_one (i := 18) (by kernel_rfl) rfl (fun K hK => ?_)
          rw [if_pos (by rfl)]
          try simp only [List.getElem_toArray, List.getElem_cons_succ, List.getElem_cons_zero]
          refine wp_append_U2 (.tmp 54) (.tmp 60) rfl (base := w.heap.size) (L := [] ++ L.take k ++ [n]) (M := L.drop k) (T := (fun b => B ≤ b)) (A := dropN A cap k 1) (m := (L.length - k)) (c := (cap - k)) (w0 := w) rfl o54 rfl ((HV2.out _ h4)) (by simp; omega) h4.size h4 (Nat.le_refl _) ?_
          intro v61 x5 o61 h5 hg_x5
          refine hK.out _ _ h5 ?_
          clear hK K
          try simp only [Act.put, List.setIfInBounds_toArray, List.set_cons_zero, List.set_cons_succ]
          refine late_take (i := 19) (v := .pointer (some ⟨g, 0, none⟩)) [20, 21] rfl (by kernel_rfl) (by kernel_rfl) (by kernel_rfl) (by kernel_rfl) (by first | exact fun _ _ _ h => h | exact fun _ _ _ h => nomatch h.1) (Or.inl ⟨by rfl, fun w_ hw_ => by go_simp⟩) h5 ?_
          try simp only [Act.put, List.setIfInBounds_toArray, List.set_cons_zero, List.set_cons_succ, List.getElem_toArray, List.getElem_cons_succ, List.getElem_cons_zero]
          refine late_take (i := 20) (v := .pointer (some ⟨g, 0, none⟩)) [21] rfl (by kernel_rfl) (by kernel_rfl) (by kernel_rfl) (by kernel_rfl) (by first | exact fun _ _ _ h => h | exact fun _ _ _ h => nomatch h.1) (Or.inl ⟨by rfl, fun w_ hw_ => by go_simp⟩) h5 ?_
          try simp only [Act.put, List.setIfInBounds_toArray, List.set_cons_zero, List.set_cons_succ, List.getElem_toArray, List.getElem_cons_succ, List.getElem_cons_zero]
          obtain ⟨A2, n2, cap2, rfl, g1⟩ := HFIN.out _ _ o61 h5
          have cr := (h5.cell 0 HRL.out (fun h => h)).trans c0
          have fr := (HRW.out.chg h5 (fun h => h)).frozen 0
          have HFX := Lib.hid g1
          clear g1
          refine late_last (by kernel_rfl) rfl (by kernel_rfl) (fun K hK => ?_)
          rw [if_pos (by rfl)]
          try simp only [List.getElem_toArray, List.getElem_cons_succ, List.getElem_cons_zero]
          go_simp
          refine hK.out _ _ ?_
          clear hK K
          try simp only [Act.put, List.setIfInBounds_toArray, List.set_cons_zero, List.set_cons_succ, List.getElem_toArray, List.getElem_cons_succ, List.getElem_cons_zero]
          clear cr fr c0
          obtain ⟨w5, hw5⟩ : ∃ w5, w5 = x5.setCell ⟨g, 0, none⟩ (.slice A2 n2 cap2) := ⟨_, rfl⟩
          rw [← hw5] at HFX ⊢
          clear hw5
          by_cases h16 : 16 < l1.length
          · have k16 : (16 : Int) < (l1.length : Int) := by omega
            have HFO2 := Lib.hid (HFO.out h16)
            have HRA2 := Lib.hid (HRR.out w5 HFX.out.1)
            clear h16 HFO HRR HFN
            generalize l1.length = n1 at *
            go_wp2_with (first | (go_at_call 20; refine HRA2.out.mono ?_; rintro e w6 ⟨A3, c3, rfl, hv3, hc⟩; have HC6 := Lib.hid hc; obtain ⟨b3, o3, rfl, a3⟩ := HFO2.out.2 _ _ hv3; clear hv3 hc) | (go_at_call 16; refine (HFO2.out.1 _ (HFX.out.1.quiet HC6.out)).mono ?_; rintro e w7 ⟨c, rfl, hq, hc⟩; have HQ7 := Lib.hid hq; have HC7 := Lib.hid ((HFX.out.2.trans (HC6.out.mono (fun _ _ h => h.elim))).trans hc); clear hq hc))
            go_ret
            exact ⟨rfl, HQ7.out, HC7.out⟩
          · have k16 : ¬ (16 : Int) < (l1.length : Int) := by omega
            have HFN2 := Lib.hid (HFN.out h16)
            have HRA2 := Lib.hid (HRR.out w5 HFX.out.1)
            clear h16 HFO HRR HFN
            generalize l1.length = n1 at *
            go_wp2_with (go_at_call 20; refine HRA2.out.mono ?_; rintro e w6 ⟨A3, c3, rfl, hv3, hc⟩; have HC6 := Lib.hid hc; clear hv3 hc)
            go_ret
            exact ⟨rfl, HFN2.out _ (HFX.out.1.quiet HC6.out), HFX.out.2.trans (HC6.out.mono (fun _ _ h => h.elim))⟩
      · rw [if_pos (by rfl)]
        try simp only [List.getElem_toArray, List.getElem_cons_succ, List.getElem_cons_zero]
        refine wp_new_row (v := fun g => .slice (some ⟨g, 0, none⟩) 1 1) (e := 26) (cs := u64s [n]) (fun w_ => by go_simp; try rfl) ?_
        intro x1 hr_x1 hc_x1 hs_x1
        have h1 : Chg none_ w x1 := hz.trans hc_x1
        have v53 : View x1 (fun b => b = wz.heap.size) (some ⟨wz.heap.size, 0, none⟩) 1 (u64s [n]) := View.row (cs := u64s [n]) hr_x1 (n := 1) (Nat.le_refl _) rfl
        refine hK.out _ _ h1 ?_
        clear hK K
        try simp only [Act.put, List.setIfInBounds_toArray, List.set_cons_zero, List.set_cons_succ]
        refine late_one (i := 1) (by kernel_rfl) rfl (fun K hK => ?_)
        rw [if_pos (by rfl)]
        try simp only [List.getElem_toArray, List.getElem_cons_succ, List.getElem_cons_zero]
        refine wp_new_row (v := fun g => .slice (some ⟨g, 0, none⟩) 0 0) (e := 26) (cs := []) (fun w_ => by go_simp) ?_
        intro x2 hr_x2 hc_x2 hs_x2
        have h2 : Chg none_ w x2 := h1.trans hc_x2
        have o44 : OwnedU x2 w.heap.size (.slice (some ⟨x1.heap.size, 0, none⟩) 0 0) [] := OwnedU.lit0 hr_x2 h1.size
        refine hK.out _ _ h2 ?_
        clear hK K
        try simp only [Act.put, List.setIfInBounds_toArray, List.set_cons_zero, List.set_cons_succ]
        refine late_one (i := 8) (by kernel_rfl) rfl (fun K hK => ?_)
        rw [if_pos (by rfl)]
        try simp only [List.getElem_toArray, List.getElem_cons_succ, List.getElem_cons_zero]
        refine wp_append_U2 (.tmp 44) (.tmp 50) rfl (base := w.heap.size) (v := .slice (some ⟨x1.heap.size, 0, none⟩) 0 0) (L := []) (M := L.take k) (T := (fun b => B ≤ b)) (A := highN A cap) (m := k) (c := cap) (w0 := w) rfl o44 rfl ((HV1.out _ h2)) (by simp; omega) h2.size h2 (Nat.le_refl _) ?_
        intro v51 x3 o51 h3 hg_x3
        refine hK.out _ _ h3 ?_
        clear hK K
        try simp only [Act.put, List.setIfInBounds_toArray, List.set_cons_zero, List.set_cons_succ]
        refine late_one (i := 11) (by kernel_rfl) rfl (fun K hK => ?_)
        rw [if_pos (by rfl)]
        try simp only [List.getElem_toArray, List.getElem_cons_succ, List.getElem_cons_zero]
        refine wp_append_U2 (.tmp 51) (.tmp 53) rfl (base := w.heap.size) (L := [] ++ L.take k) (M := [n]) (T := (fun b => b = wz.heap.size)) (A := some ⟨wz.heap.size, 0, none⟩) (m := 1) (c := 1) (w0 := w) rfl o51 rfl (((v53.chg hc_x2 (fun _ _ h => h)).chg hg_x3 (fun b (e : b = wz.heap.size) h => by have h2 : some x1.heap.size = some b := h; injection h2 with h2; omega))) (by simp; omega) h3.size h3 (Nat.le_refl _) ?_
        intro v54 x4 o54 h4 hg_x4
        refine hK.out _ _ h4 ?_
        clear hK K
        try simp only [Act.put, List.setIfInBounds_toArray, List.set_cons_zero, List.set_cons_succ]
        refine late_one (i := 18) (by kernel_rfl) rfl (fun K hK => ?_)
        rw [if_pos (by rfl)]
        try simp only [List.getElem_toArray, List.getElem_cons_succ, List.getElem_cons_zero]
        refine wp_append_U2 (.tmp 54) (.tmp 60) rfl (base := w.heap.size) (L := [] ++ L.take k ++ [n]) (M := L.drop k) (T := (fun b => B ≤ b)) (A := dropN A cap k 1) (m := (L.length - k)) (c := (cap - k)) (w0 := w) rfl o54 rfl ((HV2.out _ h4)) (by simp; omega) h4.size h4 (Nat.le_refl _) ?_
        intro v61 x5 o61 h5 hg_x5
        refine hK.out _ _ h5 ?_
        clear hK K
        try simp only [Act.put, List.setIfInBounds_toArray, List.set_cons_zero, List.set_cons_succ]
        refine late_take (i := 19) (v := .pointer (some ⟨g, 0, none⟩)) [20, 21] rfl (by kernel_rfl) (by kernel_rfl) (by kernel_rfl) (by kernel_rfl) (by first | exact fun _ _ _ h => h | exact fun _ _ _ h => nomatch h.1) (Or.inl ⟨by rfl, fun w_ hw_ => by go_simp⟩) h5 ?_
        try simp only [Act.put, List.setIfInBounds_toArray, List.set_cons_zero, List.set_cons_succ, List.getElem_toArray, List.getElem_cons_succ, List.getElem_cons_zero]
        refine late_take (i := 20) (v := .pointer (some ⟨g, 0, none⟩)) [21] rfl (by kernel_rfl) (by kernel_rfl) (by kernel_rfl) (by kernel_rfl) (by first | exact fun _ _ _ h => h | exact fun _ _ _ h => nomatch h.1) (Or.inl ⟨by rfl, fun w_ hw_ => by go_simp⟩) h5 ?_
        try simp only [Act.put, List.setIfInBounds_toArray, List.set_cons_zero, List.set_cons_succ, List.getElem_toArray, List.getElem_cons_succ, List.getElem_cons_zero]
        obtain ⟨A2, n2, cap2, rfl, g1⟩ := HFIN.out _ _ o61 h5
        have cr := (h5.cell 0 HRL.out (fun h => h)).trans c0
        have fr := (HRW.out.chg h5 (fun h => h)).frozen 0
        have HFX := Lib.hid g1
        clear g1
        refine late_last (by kernel_rfl) rfl (by kernel_rfl) (fun K hK => ?_)
        rw [if_pos (by rfl)]
        try simp only [List.getElem_toArray, List.getElem_cons_succ, List.getElem_cons_zero]
        go_simp
        refine hK.out _ _ ?_
        clear hK K
        try simp only [Act.put, List.setIfInBounds_toArray, List.set_cons_zero, List.set_cons_succ, List.getElem_toArray, List.getElem_cons_succ, List.getElem_cons_zero]
        clear cr fr c0
        obtain ⟨w5, hw5⟩ : ∃ w5, w5 = x5.setCell ⟨g, 0, none⟩ (.slice A2 n2 cap2) := ⟨_, rfl⟩
        rw [← hw5] at HFX ⊢
        clear hw5
        by_cases h16 : 16 < l1.length
        · have k16 : (16 : Int) < (l1.length : Int) := by omega
          have HFO2 := Lib.hid (HFO.out h16)
          have HRA2 := Lib.hid (HRR.out w5 HFX.out.1)
          clear h16 HFO HRR HFN
          generalize l1.length = n1 at *
          go_wp2_with (first | (go_at_call 20; refine HRA2.out.mono ?_; rintro e w6 ⟨A3, c3, rfl, hv3, hc⟩; have HC6 := Lib.hid hc; obtain ⟨b3, o3, rfl, a3⟩ := HFO2.out.2 _ _ hv3; clear hv3 hc) | (go_at_call 16; refine (HFO2.out.1 _ (HFX.out.1.quiet HC6.out)).mono ?_; rintro e w7 ⟨c, rfl, hq, hc⟩; have HQ7 := Lib.hid hq; have HC7 := Lib.hid ((HFX.out.2.trans (HC6.out.mono (fun _ _ h => h.elim))).trans hc); clear hq hc))
          go_ret
          exact ⟨rfl, HQ7.out, HC7.out⟩
        · have k16 : ¬ (16 : Int) < (l1.length : Int) := by omega
          have HFN2 := Lib.hid (HFN.out h16)
          have HRA2 := Lib.hid (HRR.out w5 HFX.out.1)
          clear h16 HFO HRR HFN
          generalize l1.length = n1 at *
          go_wp2_with (go_at_call 20; refine HRA2.out.mono ?_; rintro e w6 ⟨A3, c3, rfl, hv3, hc⟩; have HC6 := Lib.hid hc; clear hv3 hc)
          go_ret
          exact ⟨rfl, HFN2.out _ (HFX.out.1.quiet HC6.out), HFX.out.2.trans (HC6.out.mono (fun _ _ h => h.elim))⟩
    · have kp1 : k - 1 < L.length := by omega
      obtain ⟨b, o, rfl, _, hkk⟩ := HV.out.u64At (by omega)
      have a1 := hkk (k - 1) kp1
      obtain ⟨p, hp⟩ : ∃ p, p = k - 1 := ⟨_, rfl⟩
      have a2 := a1
      rw [← hp] at a1 kp1
      rw [show nm L (k - 1) = nm L p by rw [hp]] at a2
      have km : (k : Int) - 1 = (p : Int) := by omega
      have p1 : (p : Int) < (L.length : Int) := by omega
      have p0 : 0 ≤ (p : Int) := by omega
      have z1 : (0 : Int) < (k : Int) := by omega
      have z2 : decide ((0 : Int) < (k : Int)) = true := by simpa using z1
      have z3 : decide (0 < k) = true := by simp; omega
      have z4 : 0 < k := by omega
      by_cases hgt : n < nm L p
      · have q1 : (n : Int) < (nm L p : Int) := by omega
        have q2 : decide ((n : Int) < (nm L p : Int)) = true := by simpa using q1
        have q3 : decide (n < nm L p) = true := by simpa using hgt
        have HM : Hid (∀ m, p ≤ m → m < L.length → n < nm L m) := Lib.hid (fun m h1 h2 => by
          rcases Nat.lt_or_ge m k with h | h
          · rw [show m = p by omega]; exact hgt
          · exact hm m h h2)
        clear hkk hm HD
        generalize nm L p = x at *
        go_wp2
        go_roundw
        case rel => exact ⟨p, by go_num, by omega, HM.out, trivial⟩
        case measure => simp [intOf] <;> omega
      · have q1 : ¬ (n : Int) < (nm L p : Int) := by omega
        have q2 : decide ((n : Int) < (nm L p : Int)) = false := by simpa using q1
        have q3 : decide (n < nm L p) = false := by simpa using hgt
        have h1 := HD.out
        have h2 : ∀ x ∈ L.take k, x < n := fun x hx => by
          obtain ⟨i, hi, e⟩ := List.mem_iff_getElem.1 hx
          rw [List.length_take] at hi
          rw [List.getElem_take] at e
          have hne := HNE.out p kp1
          have e2 : nm L i = x := by
            unfold nm
            rw [List.getD_eq_getElem?_getD, List.getElem?_eq_getElem (by omega)]
            exact e
          rcases Nat.lt_or_ge i p with h | h
          · have := nm_lt HASC.out h kp1
            omega
          · have : i = p := by omega
            subst this
            omega
        obtain ⟨L', hL'⟩ : ∃ L', L' = [] ++ L.take k ++ [n] ++ L.drop k := ⟨_, rfl⟩
        have hL1 : L'.length = L.length + 1 := by rw [hL']; simp; omega
        have HSI := Lib.hid (show Same_ l1 L' from by rw [hL']; exact HINS.out k h1 h2)
        have HFIN : Hid (∀ w2 v2, OwnedU w2 w.heap.size v2 ([] ++ L.take k ++ [n] ++ L.drop k) → Chg none_ w w2 → ∃ A2 n2 cap2, v2 = .slice A2 n2 cap2 ∧ RAt (w2.setCell ⟨g, 0, none⟩ (.slice A2 n2 cap2)) B g L' y ∧ Chg (· = g) w (w2.setCell ⟨g, 0, none⟩ (.slice A2 n2 cap2))) := Lib.hid (fun w2 v2 ho hc => by
          rw [← hL'] at ho
          obtain ⟨A2, cap2, e, k1, k2, k3⟩ := ho.view
          exact ⟨A2, _, cap2, e, RAt.store HRW.out HGB.out.1 HGB.out.2 hc k1 k2 (k3.mono (fun b _ hb => Nat.le_trans HGB.out.2 hb))⟩)
        have HRR : Hid (∀ w1, RAt w1 B g L' y → Calls Try.prog 20 #[.pointer (some ⟨g, 0, none⟩)] w1 fun e w' => ∃ A3 cap3, e = .returned (.slice A3 l1.length cap3) ∧ View w' (fun _ => True) A3 (l1.length * 2) (rcells l1) ∧ Chg none_ w1 w') := Lib.hid (fun w1 hr1 => (RRanges_any g B y L' w1 hr1 (by omega) (fun x hx => (HSI.out.le HGD.out x hx).2)).mono fun e w' ⟨v, a, ho, hc⟩ => by
          rw [HSI.out.ranges HGD.out] at ho
          obtain ⟨A3, cap3, rfl, _, _, hv⟩ := ho.view
          exact ⟨A3, cap3, a, hv.mono (fun _ _ _ => trivial), hc⟩)
        have HFO : Hid (16 < l1.length → (∀ w1, RAt w1 B g L' y → Calls Try.prog 16 #[.pointer (some ⟨g, 0, none⟩), .int .u64 ((rg l1 16).2 : Int)] w1 fun e w' => ∃ c : Nat, e = .returned (.int .i64 (c : Int)) ∧ (∃ L2, RAt w' B g L2 fS.2 ∧ Same_ fS.1 L2 ∧ L2.length ≤ L.length + 1) ∧ Chg (· = g) w1 w') ∧ ∀ w1 A3, View w1 (fun _ => True) A3 (l1.length * 2) (rcells l1) → ∃ b3 o3, A3 = some ⟨b3, o3, none⟩ ∧ w1.cell? ⟨b3, o3 + 16 * 2 + 1, none⟩ = some (.int .u64 ((rg l1 16).2 : Int))) := Lib.hid (fun h16 => ⟨fun w1 hr1 => by
          have hq : l1[16]? = some (rg l1 16) := by
            unfold rg
            rw [List.getD_eq_getElem?_getD, List.getElem?_eq_getElem h16]
            rfl
          have e := HAS.out _ hq
          refine (RForget_any g B y (rg l1 16).2 17 l1 L' w1 hr1 (by omega) HSI.out HGD.out).mono ?_
          rintro e' w' ⟨a, ⟨L2, b1, b2, b3⟩, c⟩
          rw [← e] at b1 b2
          exact ⟨_, a, ⟨L2, b1, b2, by omega⟩, c⟩, fun w1 A3 hv => by
          obtain ⟨b3, o3, rfl, _, _, hk⟩ := hv.rAt h16
          exact ⟨b3, o3, rfl, hk 16 h16 1 _ rfl⟩⟩)
        have HFN : Hid (¬ 16 < l1.length → ∀ w1, RAt w1 B g L' y → ∃ L2, RAt w1 B g L2 fS.2 ∧ Same_ fS.1 L2 ∧ L2.length ≤ L.length + 1) := Lib.hid (fun h16 w1 hr1 => by
          have e := HAN.out (by rw [List.getElem?_eq_none_iff]; omega)
          rw [e]
          exact ⟨L', hr1, HSI.out, by omega⟩)
        have hkL : k ≤ L.length := hk
        clear hL' hL1 h1 h2 HAS HAN HINS
        have HV1 := Lib.hid (fun w' hc => HV1.out w' hc k hkL)
        have HV2 := Lib.hid (fun w' hc => HV2.out w' hc k)
        clear hkk hm hgt
        generalize nm L p = x at *
        go_wp2
        refine wp_region_late (fun x => Chg none_ w x) 21 (by kernel_rfl) ?_
        have hz : Chg none_ w w.drew := (Chg.refl none_ w).drew
        generalize w.drew = wz at hz ⊢
        refine late_take (i := 0) (v := .pointer (some ⟨g, 0, none⟩)) [19, 20, 21] rfl (by kernel_rfl) (by kernel_rfl) (by kernel_rfl) (by kernel_rfl) (by first | exact fun _ _ _ h => h | exact fun _ _ _ h => nomatch h.1) (Or.inl ⟨by rfl, fun w_ hw_ => by go_simp⟩) hz ?_
        try simp only [Act.put, List.setIfInBounds_toArray, List.set_cons_zero, List.set_cons_succ, List.getElem_toArray, List.getElem_cons_zero]
        refine late_take (i := 2) (v := .pointer (some ⟨g, 0, none⟩)) [3, 4, 5, 7, 8, 11, 18, 21] rfl (by kernel_rfl) (by kernel_rfl) (by kernel_rfl) (by kernel_rfl) (by first | exact fun _ _ _ h => h | exact fun _ _ _ h => nomatch h.1) (Or.inl ⟨by rfl, fun w_ hw_ => by go_simp⟩) hz ?_
        try simp only [Act.put, List.setIfInBounds_toArray, List.set_cons_zero, List.set_cons_succ, List.getElem_toArray, List.getElem_cons_succ, List.getElem_cons_zero]
        refine late_take (i := 3) (v := .pointer (some ⟨g, 0, none⟩)) [4, 5, 7, 8, 11, 18, 21] rfl (by kernel_rfl) (by kernel_rfl) (by kernel_rfl) (by kernel_rfl) (by first | exact fun _ _ _ h => h | exact fun _ _ _ h => nomatch h.1) (Or.inl ⟨by rfl, fun w_ hw_ => by go_simp⟩) hz ?_
        try simp only [Act.put, List.setIfInBounds_toArray, List.set_cons_zero, List.set_cons_succ, List.getElem_toArray, List.getElem_cons_succ, List.getElem_cons_zero]
        refine late_take (i := 4) (v := .pointer (some ⟨g, 0, none⟩)) [5, 7, 8, 11, 18, 21] rfl (by kernel_rfl) (by kernel_rfl) (by kernel_rfl) (by kernel_rfl) (by first | exact fun _ _ _ h => h | exact fun _ _ _ h => nomatch h.1) (Or.inl ⟨by rfl, fun w_ hw_ => by go_simp⟩) hz ?_
        try simp only [Act.put, List.setIfInBounds_toArray, List.set_cons_zero, List.set_cons_succ, List.getElem_toArray, List.getElem_cons_succ, List.getElem_cons_zero]
        refine late_take (i := 5) (v := .slice (some ⟨b, o, none⟩) L.length cap) [7, 8, 11, 18, 21] rfl (by kernel_rfl) (by kernel_rfl) (by kernel_rfl) (by kernel_rfl) (by first | exact fun _ _ _ h => h | exact fun _ _ _ h => nomatch h.1) (Or.inl ⟨by rfl, fun w_ hw_ => by have c0_ := (Chg.cell hw_ 0 HRL.out (fun h => h)).trans c0; go_simp⟩) hz ?_
        try simp only [Act.put, List.setIfInBounds_toArray, List.set_cons_zero, List.set_cons_succ, List.getElem_toArray, List.getElem_cons_succ, List.getElem_cons_zero]
        refine late_take (i := 6) (v := .int .i64 (k : Int)) [7, 8, 11, 18, 21] rfl (by kernel_rfl) (by kernel_rfl) (by kernel_rfl) (by kernel_rfl) (by first | exact fun _ _ _ h => h | exact fun _ _ _ h => nomatch h.1) (Or.inl ⟨by rfl, fun w_ hw_ => by go_simp⟩) hz ?_
        try simp only [Act.put, List.setIfInBounds_toArray, List.set_cons_zero, List.set_cons_succ, List.getElem_toArray, List.getElem_cons_succ, List.getElem_cons_zero]
        refine late_take (i := 7) (v := .slice (highN (some ⟨b, o, none⟩) cap) k cap) [8, 11, 18, 21] rfl (by kernel_rfl) (by kernel_rfl) (by kernel_rfl) (by kernel_rfl) (by first | exact fun _ _ _ h => h | exact fun _ _ _ h => nomatch h.1) (yieldsIf_slice_highN (by rfl) 33 26 _ _ rfl (some ⟨b, o, none⟩) L.length cap k 1 rfl rfl Try.underlying33 sizeU (by omega)) hz ?_
        try simp only [Act.put, List.setIfInBounds_toArray, List.set_cons_zero, List.set_cons_succ, List.getElem_toArray, List.getElem_cons_succ, List.getElem_cons_zero]
        refine late_take (i := 9) (v := .int .u64 (n : Int)) [10, 11, 18, 21] rfl (by kernel_rfl) (by kernel_rfl) (by kernel_rfl) (by kernel_rfl) (by first | exact fun _ _ _ h => h | exact fun _ _ _ h => nomatch h.1) (Or.inl ⟨by rfl, fun w_ hw_ => by go_simp⟩) hz ?_
        try simp only [Act.put, List.setIfInBounds_toArray, List.set_cons_zero, List.set_cons_succ, List.getElem_toArray, List.getElem_cons_succ, List.getElem_cons_zero]
        refine late_take (i := 12) (v := .pointer (some ⟨g, 0, none⟩)) [13, 14, 15, 17, 18, 21] rfl (by kernel_rfl) (by kernel_rfl) (by kernel_rfl) (by kernel_rfl) (by first | exact fun _ _ _ h => h | exact fun _ _ _ h => nomatch h.1) (Or.inl ⟨by rfl, fun w_ hw_ => by go_simp⟩) hz ?_
        try simp only [Act.put, List.setIfInBounds_toArray, List.set_cons_zero, List.set_cons_succ, List.getElem_toArray, List.getElem_cons_succ, List.getElem_cons_zero]
        refine late_take (i := 13) (v := .pointer (some ⟨g, 0, none⟩)) [14, 15, 17, 18, 21] rfl (by kernel_rfl) (by kernel_rfl) (by kernel_rfl) (by kernel_rfl) (by first | exact fun _ _ _ h => h | exact fun _ _ _ h => nomatch h.1) (Or.inl ⟨by rfl, fun w_ hw_ => by go_simp⟩) hz ?_
        try simp only [Act.put, List.setIfInBounds_toArray, List.set_cons_zero, List.set_cons_succ, List.getElem_toArray, List.getElem_cons_succ, List.getElem_cons_zero]
        refine late_take (i := 14) (v := .pointer (some ⟨g, 0, none⟩)) [15, 17, 18, 21] rfl (by kernel_rfl) (by kernel_rfl) (by kernel_rfl) (by kernel_rfl) (by first | exact fun _ _ _ h => h | exact fun _ _ _ h => nomatch h.1) (Or.inl ⟨by rfl, fun w_ hw_ => by go_simp⟩) hz ?_
        try simp only [Act.put, List.setIfInBounds_toArray, List.set_cons_zero, List.set_cons_succ, List.getElem_toArray, List.getElem_cons_succ, List.getElem_cons_zero]
        refine late_take (i := 15) (v := .slice (some ⟨b, o, none⟩) L.length cap) [17, 18, 21] rfl (by kernel_rfl) (by kernel_rfl) (by kernel_rfl) (by kernel_rfl) (by first | exact fun _ _ _ h => h | exact fun _ _ _ h => nomatch h.1) (Or.inl ⟨by rfl, fun w_ hw_ => by have c0_ := (Chg.cell hw_ 0 HRL.out (fun h => h)).trans c0; go_simp⟩) hz ?_
        try simp only [Act.put, List.setIfInBounds_toArray, List.set_cons_zero, List.set_cons_succ, List.getElem_toArray, List.getElem_cons_succ, List.getElem_cons_zero]
        refine late_take (i := 16) (v := .int .i64 (k : Int)) [17, 18, 21] rfl (by kernel_rfl) (by kernel_rfl) (by kernel_rfl) (by kernel_rfl) (by first | exact fun _ _ _ h => h | exact fun _ _ _ h => nomatch h.1) (Or.inl ⟨by rfl, fun w_ hw_ => by go_simp⟩) hz ?_
        try simp only [Act.put, List.setIfInBounds_toArray, List.set_cons_zero, List.set_cons_succ, List.getElem_toArray, List.getElem_cons_succ, List.getElem_cons_zero]
        refine late_take (i := 17) (v := .slice (dropN (some ⟨b, o, none⟩) cap k 1) (L.length - k) (cap - k)) [18, 21] rfl (by kernel_rfl) (by kernel_rfl) (by kernel_rfl) (by kernel_rfl) (by first | exact fun _ _ _ h => h | exact fun _ _ _ h => nomatch h.1) (yieldsIf_slice_lowN (by rfl) 33 26 _ _ rfl (some ⟨b, o, none⟩) L.length cap k 1 rfl rfl Try.underlying33 sizeU (by omega)) hz ?_
        try simp only [Act.put, List.setIfInBounds_toArray, List.set_cons_zero, List.set_cons_succ, List.getElem_toArray, List.getElem_cons_succ, List.getElem_cons_zero]
        refine late_two (i := 1) (j := 10) (by kernel_rfl) rfl rfl (fun K hK => ?_) (fun K hK => ?_)
        · rw [if_pos (by rfl)]
          try simp only [List.getElem_toArray, List.getElem_cons_succ, List.getElem_cons_zero]
          refine wp_new_row (v := fun g => .slice (some ⟨g, 0, none⟩) 0 0) (e := 26) (cs := []) (fun w_ => by go_simp) ?_
          intro x1 hr_x1 hc_x1 hs_x1
          have h1 : Chg none_ w x1 := hz.trans hc_x1
          have o44 : OwnedU x1 w.heap.size (.slice (some ⟨wz.heap.size, 0, none⟩) 0 0) [] := OwnedU.lit0 hr_x1 hz.size
          refine hK.out _ _ h1 ?_
          clear hK K
          try simp only [Act.put, List.setIfInBounds_toArray, List.set_cons_zero, List.set_cons_succ]
          refine late_two (i := 8) (j := 10) (by kernel_rfl) rfl rfl (fun K hK => ?_) (fun K hK => ?_)
          · rw [if_pos (by rfl)]
            try simp only [List.getElem_toArray, List.getElem_cons_succ, List.getElem_cons_zero]
            refine wp_append_U2 (.tmp 44) (.tmp 50) rfl (base := w.heap.size) (v := .slice (some ⟨wz.heap.size, 0, none⟩) 0 0) (L := []) (M := L.take k) (T := (fun b => B ≤ b)) (A := highN (some ⟨b, o, none⟩) cap) (m := k) (c := cap) (w0 := w) rfl o44 rfl ((HV1.out _ h1)) (by simp; omega) h1.size h1 (Nat.le_refl _) ?_
            intro v51 x2 o51 h2 hg_x2
            refine hK.out _ _ h2 ?_
            clear hK K
            try simp only [Act.put, List.setIfInBounds_toArray, List.set_cons_zero, List.set_cons_succ]
            refine late_one (i := 10) (by kernel_rfl) rfl (fun K hK => ?_)
            rw [if_pos (by rfl)]
            try simp only [List.getElem_toArray, List.getElem_cons_succ, List.getElem_cons_zero]
            refine wp_new_row (v := fun g => .slice (some ⟨g, 0, none⟩) 1 1) (e := 26) (cs := u64s [n]) (fun w_ => by go_simp; try rfl) ?_
            intro x3 hr_x3 hc_x3 hs_x3
            have h3 : Chg none_ w x3 := h2.trans hc_x3
            have v53 : View x3 (fun b => b = x2.heap.size) (some ⟨x2.heap.size, 0, none⟩) 1 (u64s [n]) := View.row (cs := u64s [n]) hr_x3 (n := 1) (Nat.le_refl _) rfl
            refine hK.out _ _ h3 ?_
            clear hK K
            try simp only [Act.put, List.setIfInBounds_toArray, List.set_cons_zero, List.set_cons_succ]
            refine late_one (i := 11) (by kernel_rfl) rfl (fun K hK => ?_)
            rw [if_pos (by rfl)]
            try simp only [List.getElem_toArray, List.getElem_cons_succ, List.getElem_cons_zero]
            refine wp_append_U2 (.tmp 51) (.tmp 53) rfl (base := w.heap.size) (L := [] ++ L.take k) (M := [n]) (T := (fun b => b = x2.heap.size)) (A := some ⟨x2.heap.size, 0, none⟩) (m := 1) (c := 1) (w0 := w) rfl (o51.chg hc_x3 (fun _ _ h => h)) rfl (v53) (by simp; omega) h3.size h3 (Nat.le_refl _) ?_
            intro v54 x4 o54 h4 hg_x4
            refine hK.out _ _ h4 ?_
            clear hK K
            try simp only [Act.put, List.setIfInBounds_toArray, List.set_cons_zero, List.set_cons_succ]
            refine late_one (i := 18) (by kernel_rfl) rfl (fun K hK => ?_)
            rw [if_pos (by rfl)]
            try simp only [List.getElem_toArray, List.getElem_cons_succ, List.getElem_cons_zero]
            refine wp_append_U2 (.tmp 54) (.tmp 60) rfl (base := w.heap.size) (L := [] ++ L.take k ++ [n]) (M := L.drop k) (T := (fun b => B ≤ b)) (A := dropN (some ⟨b, o, none⟩) cap k 1) (m := (L.length - k)) (c := (cap - k)) (w0 := w) rfl o54 rfl ((HV2.out _ h4)) (by simp; omega) h4.size h4 (Nat.le_refl _) ?_
            intro v61 x5 o61 h5 hg_x5
            refine hK.out _ _ h5 ?_
            clear hK K
            try simp only [Act.put, List.setIfInBounds_toArray, List.set_cons_zero, List.set_cons_succ]
            refine late_take (i := 19) (v := .pointer (some ⟨g, 0, none⟩)) [20, 21] rfl (by kernel_rfl) (by kernel_rfl) (by kernel_rfl) (by kernel_rfl) (by first | exact fun _ _ _ h => h | exact fun _ _ _ h => nomatch h.1) (Or.inl ⟨by rfl, fun w_ hw_ => by go_simp⟩) h5 ?_
            try simp only [Act.put, List.setIfInBounds_toArray, List.set_cons_zero, List.set_cons_succ, List.getElem_toArray, List.getElem_cons_succ, List.getElem_cons_zero]
            refine late_take (i := 20) (v := .pointer (some ⟨g, 0, none⟩)) [21] rfl (by kernel_rfl) (by kernel_rfl) (by kernel_rfl) (by kernel_rfl) (by first | exact fun _ _ _ h => h | exact fun _ _ _ h => nomatch h.1) (Or.inl ⟨by rfl, fun w_ hw_ => by go_simp⟩) h5 ?_
            try simp only [Act.put, List.setIfInBounds_toArray, List.set_cons_zero, List.set_cons_succ, List.getElem_toArray, List.getElem_cons_succ, List.getElem_cons_zero]
            obtain ⟨A2, n2, cap2, rfl, g1⟩ := HFIN.out _ _ o61 h5
            have cr := (h5.cell 0 HRL.out (fun h => h)).trans c0
            have fr := (HRW.out.chg h5 (fun h => h)).frozen 0
            have HFX := Lib.hid g1
            clear g1
            refine late_last (by kernel_rfl) rfl (by kernel_rfl) (fun K hK => ?_)
            rw [if_pos (by rfl)]
            try simp only [List.getElem_toArray, List.getElem_cons_succ, List.getElem_cons_zero]
            go_simp
            refine hK.out _ _ ?_
            clear hK K
            try simp only [Act.put, List.setIfInBounds_toArray, List.set_cons_zero, List.set_cons_succ, List.getElem_toArray, List.getElem_cons_succ, List.getElem_cons_zero]
            clear cr fr c0
            obtain ⟨w5, hw5⟩ : ∃ w5, w5 = x5.setCell ⟨g, 0, none⟩ (.slice A2 n2 cap2) := ⟨_, rfl⟩
            rw [← hw5] at HFX ⊢
            clear hw5
            by_cases h16 : 16 < l1.length
            · have k16 : (16 : Int) < (l1.length : Int) := by omega
              have HFO2 := Lib.hid (HFO.out h16)
              have HRA2 := Lib.hid (HRR.out w5 HFX.out.1)
              clear h16 HFO HRR HFN
              generalize l1.length = n1 at *
              go_wp2_with (first | (go_at_call 20; refine HRA2.out.mono ?_; rintro e w6 ⟨A3, c3, rfl, hv3, hc⟩; have HC6 := Lib.hid hc; obtain ⟨b3, o3, rfl, a3⟩ := HFO2.out.2 _ _ hv3; clear hv3 hc) | (go_at_call 16; refine (HFO2.out.1 _ (HFX.out.1.quiet HC6.out)).mono ?_; rintro e w7 ⟨c, rfl, hq, hc⟩; have HQ7 := Lib.hid hq; have HC7 := Lib.hid ((HFX.out.2.trans (HC6.out.mono (fun _ _ h => h.elim))).trans hc); clear hq hc))
              go_ret
              exact ⟨rfl, HQ7.out, HC7.out⟩
            · have k16 : ¬ (16 : Int) < (l1.length : Int) := by omega
              have HFN2 := Lib.hid (HFN.out h16)
              have HRA2 := Lib.hid (HRR.out w5 HFX.out.1)
              clear h16 HFO HRR HFN
              generalize l1.length = n1 at *
              go_wp2_with (go_at_call 20; refine HRA2.out.mono ?_; rintro e w6 ⟨A3, c3, rfl, hv3, hc⟩; have HC6 := Lib.hid hc; clear hv3 hc)
              go_ret
              exact ⟨rfl, HFN2.out _ (HFX.out.1.quiet HC6.out), HFX.out.2.trans (HC6.out.mono (fun _ _ h => h.elim))⟩
          · rw [if_pos (by rfl)]
            try simp only [List.getElem_toArray, List.getElem_cons_succ, List.getElem_cons_zero]
            refine wp_new_row (v := fun g => .slice (some ⟨g, 0, none⟩) 1 1) (e := 26) (cs := u64s [n]) (fun w_ => by go_simp; try rfl) ?_
            intro x2 hr_x2 hc_x2 hs_x2
            have h2 : Chg none_ w x2 := h1.trans hc_x2
            have v53 : View x2 (fun b => b = x1.heap.size) (some ⟨x1.heap.size, 0, none⟩) 1 (u64s [n]) := View.row (cs := u64s [n]) hr_x2 (n := 1) (Nat.le_refl _) rfl
            refine hK.out _ _ h2 ?_
            clear hK K
            try simp only [Act.put, List.setIfInBounds_toArray, List.set_cons_zero, List.set_cons_succ]
            refine late_one (i := 8) (by kernel_rfl) rfl (fun K hK => ?_)
            rw [if_pos (by rfl)]
            try simp only [List.getElem_toArray, List.getElem_cons_succ, List.getElem_cons_zero]
            refine wp_append_U2 (.tmp 44) (.tmp 50) rfl (base := w.heap.size) (v := .slice (some ⟨wz.heap.size, 0, none⟩) 0 0) (L := []) (M := L.take k) (T := (fun b => B ≤ b)) (A := highN (some ⟨b, o, none⟩) cap) (m := k) (c := cap) (w0 := w) rfl (o44.chg hc_x2 (fun _ _ h => h)) rfl ((HV1.out _ h2)) (by simp; omega) h2.size h2 (Nat.le_refl _) ?_
            intro v51 x3 o51 h3 hg_x3
            refine hK.out _ _ h3 ?_
            clear hK K
            try simp only [Act.put, List.setIfInBounds_toArray, List.set_cons_zero, List.set_cons_succ]
            refine late_one (i := 11) (by kernel_rfl) rfl (fun K hK => ?_)
            rw [if_pos (by rfl)]
            try simp only [List.getElem_toArray, List.getElem_cons_succ, List.getElem_cons_zero]
            refine wp_append_U2 (.tmp 51) (.tmp 53) rfl (base := w.heap.size) (L := [] ++ L.take k) (M := [n]) (T := (fun b => b = x1.heap.size)) (A := some ⟨x1.heap.size, 0, none⟩) (m := 1) (c := 1) (w0 := w) rfl o51 rfl ((v53.chg hg_x3 (fun b (e : b = x1.heap.size) h => by have h2 : some wz.heap.size = some b := h; injection h2 with h2; omega))) (by simp; omega) h3.size h3 (Nat.le_refl _) ?_
            intro v54 x4 o54 h4 hg_x4
            refine hK.out _ _ h4 ?_
            clear hK K
            try simp only [Act.put, List.setIfInBounds_toArray, List.set_cons_zero, List.set_cons_succ]
            refine late_one (i := 18) (by kernel_rfl) rfl (fun K hK => ?_)
            rw [if_pos (by rfl)]
            try simp only [List.getElem_toArray, List.getElem_cons_succ, List.getElem_cons_zero]
            refine wp_append_U2 (.tmp 54) (.tmp 60) rfl (base := w.heap.size) (L := [] ++ L.take k ++ [n]) (M := L.drop k) (T := (fun b => B ≤ b)) (A := dropN (some ⟨b, o, none⟩) cap k 1) (m := (L.length - k)) (c := (cap - k)) (w0 := w) rfl o54 rfl ((HV2.out _ h4)) (by simp; omega) h4.size h4 (Nat.le_refl _) ?_
            intro v61 x5 o61 h5 hg_x5
            refine hK.out _ _ h5 ?_
            clear hK K
            try simp only [Act.put, List.setIfInBounds_toArray, List.set_cons_zero, List.set_cons_succ]
            refine late_take (i := 19) (v := .pointer (some ⟨g, 0, none⟩)) [20, 21] rfl (by kernel_rfl) (by kernel_rfl) (by kernel_rfl) (by kernel_rfl) (by first | exact fun _ _ _ h => h | exact fun _ _ _ h => nomatch h.1) (Or.inl ⟨by rfl, fun w_ hw_ => by go_simp⟩) h5 ?_
            try simp only [Act.put, List.setIfInBounds_toArray, List.set_cons_zero, List.set_cons_succ, List.getElem_toArray, List.getElem_cons_succ, List.getElem_cons_zero]
            refine late_take (i := 20) (v := .pointer (some ⟨g, 0, none⟩)) [21] rfl (by kernel_rfl) (by kernel_rfl) (by kernel_rfl) (by kernel_rfl) (by first | exact fun _ _ _ h => h | exact fun _ _ _ h => nomatch h.1) (Or.inl ⟨by rfl, fun w_ hw_ => by go_simp⟩) h5 ?_
            try simp only [Act.put, List.setIfInBounds_toArray, List.set_cons_zero, List.set_cons_succ, List.getElem_toArray, List.getElem_cons_succ, List.getElem_cons_zero]
            obtain ⟨A2, n2, cap2, rfl, g1⟩ := HFIN.out _ _ o61 h5
            have cr := (h5.cell 0 HRL.out (fun h => h)).trans c0
            have fr := (HRW.out.chg h5 (fun h => h)).frozen 0
            have HFX := Lib.hid g1
            clear g1
            refine late_last (by kernel_rfl) rfl (by kernel_rfl) (fun K hK => ?_)
            rw [if_pos (by rfl)]
            try simp only [List.getElem_toArray, List.getElem_cons_succ, List.getElem_cons_zero]
            go_simp
            refine hK.out _ _ ?_
            clear hK K
            try simp only [Act.put, List.setIfInBounds_toArray, List.set_cons_zero, List.set_cons_succ, List.getElem_toArray, List.getElem_cons_succ, List.getElem_cons_zero]
            clear cr fr c0
            obtain ⟨w5, hw5⟩ : ∃ w5, w5 = x5.setCell ⟨g, 0, none⟩ (.slice A2 n2 cap2) := ⟨_, rfl⟩
            rw [← hw5] at HFX ⊢
            clear hw5
            by_cases h16 : 16 < l1.length
            · have k16 : (16 : Int) < (l1.length : Int) := by omega
              have HFO2 := Lib.hid (HFO.out h16)
              have HRA2 := Lib.hid (HRR.out w5 HFX.out.1)
              clear h16 HFO HRR HFN
              generalize l1.length = n1 at *
              go_wp2_with (first | (go_at_call 20; refine HRA2.out.mono ?_; rintro e w6 ⟨A3, c3, rfl, hv3, hc⟩; have HC6 := Lib.hid hc; obtain ⟨b3, o3, rfl, a3⟩ := HFO2.out.2 _ _ hv3; clear hv3 hc) | (go_at_call 16; refine (HFO2.out.1 _ (HFX.out.1.quiet HC6.out)).mono ?_; rintro e w7 ⟨c, rfl, hq, hc⟩; have HQ7 := Lib.hid hq; have HC7 := Lib.hid ((HFX.out.2.trans (HC6.out.mono (fun _ _ h => h.elim))).trans hc); clear hq hc))
              go_ret
              exact ⟨rfl, HQ7.out, HC7.out⟩
            · have k16 : ¬ (16 : Int) < (l1.length : Int) := by omega
              have HFN2 := Lib.hid (HFN.out h16)
              have HRA2 := Lib.hid (HRR.out w5 HFX.out.1)
              clear h16 HFO HRR HFN
              generalize l1.length = n1 at *
              go_wp2_with (go_at_call 20; refine HRA2.out.mono ?_; rintro e w6 ⟨A3, c3, rfl, hv3, hc⟩; have HC6 := Lib.hid hc; clear hv3 hc)
              go_ret
              exact ⟨rfl, HFN2.out _ (HFX.out.1.quiet HC6.out), HFX.out.2.trans (HC6.out.mono (fun _ _ h => h.elim))⟩
        · rw [if_pos (by rfl)]
          try simp only [List.getElem_toArray, List.getElem_cons_succ, List.getElem_cons_zero]
          refine wp_new_row (v := fun g => .slice (some ⟨g, 0, none⟩) 1 1) (e := 26) (cs := u64s [n]) (fun w_ => by go_simp; try rfl) ?_
          intro x1 hr_x1 hc_x1 hs_x1
          have h1 : Chg none_ w x1 := hz.trans hc_x1
          have v53 : View x1 (fun b => b = wz.heap.size) (some ⟨wz.heap.size, 0, none⟩) 1 (u64s [n]) := View.row (cs := u64s [n]) hr_x1 (n := 1) (Nat.le_refl _) rfl
          refine hK.out _ _ h1 ?_
          clear hK K
          try simp only [Act.put, List.setIfInBounds_toArray, List.set_cons_zero, List.set_cons_succ]
          refine late_one (i := 1) (by kernel_rfl) rfl (fun K hK => ?_)
          rw [if_pos (by rfl)]
          try simp only [List.getElem_toArray, List.getElem_cons_succ, List.getElem_cons_zero]
          refine wp_new_row (v := fun g => .slice (some ⟨g, 0, none⟩) 0 0) (e := 26) (cs := []) (fun w_ => by go_simp) ?_
          intro x2 hr_x2 hc_x2 hs_x2
          have h2 : Chg none_ w x2 := h1.trans hc_x2
          have o44 : OwnedU x2 w.heap.size (.slice (some ⟨x1.heap.size, 0, none⟩) 0 0) [] := OwnedU.lit0 hr_x2 h1.size
          refine hK.out _ _ h2 ?_
          clear hK K
          try simp only [Act.put, List.setIfInBounds_toArray, List.set_cons_zero, List.set_cons_succ]
          refine late_one (i := 8) (by kernel_rfl) rfl (fun K hK => ?_)
          rw [if_pos (by rfl)]
          try simp only [List.getElem_toArray, List.getElem_cons_succ, List.getElem_cons_zero]
          refine wp_append_U2 (.tmp 44) (.tmp 50) rfl (base := w.heap.size) (v := .slice (some ⟨x1.heap.size, 0, none⟩) 0 0) (L := []) (M := L.take k) (T := (fun b => B ≤ b)) (A := highN (some ⟨b, o, none⟩) cap) (m := k) (c := cap) (w0 := w) rfl o44 rfl ((HV1.out _ h2)) (by simp; omega) h2.size h2 (Nat.le_refl _) ?_
          intro v51 x3 o51 h3 hg_x3
          refine hK.out _ _ h3 ?_
          clear hK K
          try simp only [Act.put, List.setIfInBounds_toArray, List.set_cons_zero, List.set_cons_succ]
          refine late_one (i := 11) (by kernel_rfl) rfl (fun K hK => ?_)
          rw [if_pos (by rfl)]
          try simp only [List.getElem_toArray, List.getElem_cons_succ, List.getElem_cons_zero]
          refine wp_append_U2 (.tmp 51) (.tmp 53) rfl (base := w.heap.size) (L := [] ++ L.take k) (M := [n]) (T := (fun b => b = wz.heap.size)) (A := some ⟨wz.heap.size, 0, none⟩) (m := 1) (c := 1) (w0 := w) rfl o51 rfl (((v53.chg hc_x2 (fun _ _ h => h)).chg hg_x3 (fun b (e : b = wz.heap.size) h => by have h2 : some x1.heap.size = some b := h; injection h2 with h2; omega))) (by simp; omega) h3.size h3 (Nat.le_refl _) ?_
          intro v54 x4 o54 h4 hg_x4
          refine hK.out _ _ h4 ?_
          clear hK K
          try simp only [Act.put, List.setIfInBounds_toArray, List.set_cons_zero, List.set_cons_succ]
          refine late_one (i := 18) (by kernel_rfl) rfl (fun K hK => ?_)
          rw [if_pos (by rfl)]
          try simp only [List.getElem_toArray, List.getElem_cons_succ, List.getElem_cons_zero]
          refine wp_append_U2 (.tmp 54) (.tmp 60) rfl (base := w.heap.size) (L := [] ++ L.take k ++ [n]) (M := L.drop k) (T := (fun b => B ≤ b)) (A := dropN (some ⟨b, o, none⟩) cap k 1) (m := (L.length - k)) (c := (cap - k)) (w0 := w) rfl o54 rfl ((HV2.out _ h4)) (by simp; omega) h4.size h4 (Nat.le_refl _) ?_
          intro v61 x5 o61 h5 hg_x5
          refine hK.out _ _ h5 ?_
          clear hK K
          try simp only [Act.put, List.setIfInBounds_toArray, List.set_cons_zero, List.set_cons_succ]
          refine late_take (i := 19) (v := .pointer (some ⟨g, 0, none⟩)) [20, 21] rfl (by kernel_rfl) (by kernel_rfl) (by kernel_rfl) (by kernel_rfl) (by first | exact fun _ _ _ h => h | exact fun _ _ _ h => nomatch h.1) (Or.inl ⟨by rfl, fun w_ hw_ => by go_simp⟩) h5 ?_
          try simp only [Act.put, List.setIfInBounds_toArray, List.set_cons_zero, List.set_cons_succ, List.getElem_toArray, List.getElem_cons_succ, List.getElem_cons_zero]
          refine late_take (i := 20) (v := .pointer (some ⟨g, 0, none⟩)) [21] rfl (by kernel_rfl) (by kernel_rfl) (by kernel_rfl) (by kernel_rfl) (by first | exact fun _ _ _ h => h | exact fun _ _ _ h => nomatch h.1) (Or.inl ⟨by rfl, fun w_ hw_ => by go_simp⟩) h5 ?_
          try simp only [Act.put, List.setIfInBounds_toArray, List.set_cons_zero, List.set_cons_succ, List.getElem_toArray, List.getElem_cons_succ, List.getElem_cons_zero]
          obtain ⟨A2, n2, cap2, rfl, g1⟩ := HFIN.out _ _ o61 h5
          have cr := (h5.cell 0 HRL.out (fun h => h)).trans c0
          have fr := (HRW.out.chg h5 (fun h => h)).frozen 0
          have HFX := Lib.hid g1
          clear g1
          refine late_last (by kernel_rfl) rfl (by kernel_rfl) (fun K hK => ?_)
          rw [if_pos (by rfl)]
          try simp only [List.getElem_toArray, List.getElem_cons_succ, List.getElem_cons_zero]
          go_simp
          refine hK.out _ _ ?_
          clear hK K
          try simp only [Act.put, List.setIfInBounds_toArray, List.set_cons_zero, List.set_cons_succ, List.getElem_toArray, List.getElem_cons_succ, List.getElem_cons_zero]
          clear cr fr c0
          obtain ⟨w5, hw5⟩ : ∃ w5, w5 = x5.setCell ⟨g, 0, none⟩ (.slice A2 n2 cap2) := ⟨_, rfl⟩
          rw [← hw5] at HFX ⊢
          clear hw5
          by_cases h16 : 16 < l1.length
          · have k16 : (16 : Int) < (l1.length : Int) := by omega
            have HFO2 := Lib.hid (HFO.out h16)
            have HRA2 := Lib.hid (HRR.out w5 HFX.out.1)
            clear h16 HFO HRR HFN
            generalize l1.length = n1 at *
            go_wp2_with (first | (go_at_call 20; refine HRA2.out.mono ?_; rintro e w6 ⟨A3, c3, rfl, hv3, hc⟩; have HC6 := Lib.hid hc; obtain ⟨b3, o3, rfl, a3⟩ := HFO2.out.2 _ _ hv3; clear hv3 hc) | (go_at_call 16; refine (HFO2.out.1 _ (HFX.out.1.quiet HC6.out)).mono ?_; rintro e w7 ⟨c, rfl, hq, hc⟩; have HQ7 := Lib.hid hq; have HC7 := Lib.hid ((HFX.out.2.trans (HC6.out.mono (fun _ _ h => h.elim))).trans hc); clear hq hc))
            go_ret
            exact ⟨rfl, HQ7.out, HC7.out⟩
          · have k16 : ¬ (16 : Int) < (l1.length : Int) := by omega
            have HFN2 := Lib.hid (HFN.out h16)
            have HRA2 := Lib.hid (HRR.out w5 HFX.out.1)
            clear h16 HFO HRR HFN
            generalize l1.length = n1 at *
            go_wp2_with (go_at_call 20; refine HRA2.out.mono ?_; rintro e w6 ⟨A3, c3, rfl, hv3, hc⟩; have HC6 := Lib.hid hc; clear hv3 hc)
            go_ret
            exact ⟨rfl, HFN2.out _ (HFX.out.1.quiet HC6.out), HFX.out.2.trans (HC6.out.mono (fun _ _ h => h.elim))⟩

theorem RAdd_any (g B y n : Nat) (l : List (Nat × Nat)) (L : List Nat) (w : World) (h : RAt w B g L y) (hl : L.length ≤ 900) (hs : Same_ l L) (hg : Good l y 16) :
    Calls Try.prog 15 #[.pointer (some ⟨g, 0, none⟩), .int .u64 (n : Int)] w fun e w' => e = .returned (.bool (newB l y n)) ∧ (∃ L2, RAt w' B g L2 (addT l y n).2 ∧ Same_ (addT l y n).1 L2 ∧ L2.length ≤ L.length + 1) ∧ Chg (· = g) w w' := by
  unfold addT
  cases hn : newB l y n with
  | true => exact RAdd_yes g B y n l L w h hl hs hg hn
  | false =>
    rw [if_neg (by simp)]
    exact (RAdd_not g B y n l L w h hl hs hg hn).mono fun e w' ⟨a, b⟩ => ⟨a, ⟨L, h.quiet b, hs, by omega⟩, b.mono (fun _ _ h => h.elim)⟩
end Go.Proofs.Ytlakhfbhbebojaa
