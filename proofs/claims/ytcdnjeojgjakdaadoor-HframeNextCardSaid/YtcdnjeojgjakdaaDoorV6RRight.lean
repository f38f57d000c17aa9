/- Layer 6 (hframe), the document's words: which frames are right. -/
import Derived.Test.YtcdnjeojgjakdaaDoorV6RSame
import Derived.Test.YtcdnjeojgjakdaaDoorV6Math
import Derived.Test.YtcdnjeojgjakdaaDoorFlat
namespace Go.Proofs.YtcdnjeojgjakdaaDoor
open Go.RowKit

theorem keyM_small {k : Int} (h0 : -9223372036854775808 ≤ k) (h1 : k < 9223372036854775808) (n : Nat) (hn : n < 14) : keyM k = n ↔ k = n := by unfold keyM; omega
theorem right_none {f : Hf} (o : f.Ok) (h : ¬ (f.kind = 0 ∨ f.kind = 1 ∨ f.kind = 3 ∨ f.kind = 4 ∨ f.kind = 7 ∨ f.kind = 13)) : rightH f = false := by
  have q : ∀ n : Nat, n < 14 → (keyM f.kind = n ↔ f.kind = n) := fun n hn => keyM_small o.k0 o.k1 n hn
  have hk : kkM (keyM f.kind) = none := by
    apply kkM_none
    have q0 := q 0 (by omega); have q1 := q 1 (by omega); have q3 := q 3 (by omega); have q4 := q 4 (by omega); have q7 := q 7 (by omega); have q13 := q 13 (by omega)
    omega
  unfold rightH; rw [hk]
theorem right_of {f : Hf} {n : Nat} {k : KK} (h : f.kind = n) (hk : kkM (keyM n) = some k) : rightH f = hasK k f := by
  unfold rightH; rw [h, hk]
theorem any_at {l : List (Nat × Nat)} {kk i x : Nat} (h : kk < i) (hi : i < l.length) (hx : (l.getD kk (0, 0)).1 = x) : anyN x (l.take i) = true := by
  unfold anyN
  rw [List.any_eq_true]
  refine ⟨l.getD kk (0, 0), ?_, by simpa using hx⟩
  rw [List.getD_eq_getElem?_getD, List.getElem?_eq_getElem (by omega), Option.getD_some]
  rw [List.mem_take_iff_getElem]
  exact ⟨kk, by omega, rfl⟩
theorem any_no {l : List (Nat × Nat)} {i x : Nat} (h : ∀ j, j < i → (l.getD j (0, 0)).1 ≠ x) : anyN x (l.take i) = false := by
  unfold anyN
  rw [List.any_eq_false]
  intro a ha
  rw [List.mem_take_iff_getElem] at ha
  obtain ⟨j, hj, rfl⟩ := ha
  have := h j (by omega)
  rw [List.getD_eq_getElem?_getD, List.getElem?_eq_getElem (by omega), Option.getD_some] at this
  simpa using this
theorem sets_bad {l : List (Nat × Nat)} {i : Nat} (hi : i < l.length) (h : badAt l i = true) : setsB l = false := by
  unfold setsB
  rw [decide_eq_false_iff_not]
  rintro ⟨_, h2⟩
  rw [h2 i hi] at h; cases h

set_option maxRecDepth 100000 in
set_option maxHeartbeats 1000000 in
theorem rright_data (f : Hf) (ss sd : Value) (w : World) (T : Nat → Prop) (hf : HfD w T f ss sd) (hk : f.kind = 0 ∨ f.kind = 1) :
    Calls Tryd.prog 13 #[aggH f ss sd] w fun e w' => e = .returned (.bool (rightH f)) ∧ Chg none_ w w' := by
  have HK : Hid (rightH f = decide (f.data.length ≤ 1000 ∧ f.id = 0 ∧ f.sets.length = 0)) := by
    show _ = _
    rcases hk with h | h
    · exact right_of (n := 0) (k := .data) h (by decide +kernel)
    · exact right_of (n := 1) (k := .data) h (by decide +kernel)
  obtain ⟨⟨A, c, rfl, ha, hva⟩, ⟨B, d, rfl, hb, _⟩⟩ := hf
  have hbx := boxed w f (.slice A f.sets.length c) (.slice B f.data.length d)
  have k0 := hbx.k0
  have k1 := hbx.k1
  have k2 := hbx.k2
  have k3 := hbx.k3
  have HC := Lib.hid hbx.chg
  clear ha hva hb
  unfold aggH
  generalize rightH f = R at *
  generalize hcs : cellsH f (.slice A f.sets.length c) (.slice B f.data.length d) = cs at *
  clear hbx hcs
  rcases hk with h | h
  · rw [h] at k0
    clear h
    go_enter Tryd.func13, Tryd.ntmps13
    go_wp2
    all_goals
      go_ret
      refine ⟨ret_bool ?_, HC.out⟩
      rw [HK.out, Bool.eq_iff_iff]
      simp only [Bool.false_eq_true, decide_eq_true_eq, false_iff]
      first | omega | (simp_all <;> omega)
  · rw [h] at k0
    clear h
    go_enter Tryd.func13, Tryd.ntmps13
    go_wp2
    all_goals
      go_ret
      refine ⟨ret_bool ?_, HC.out⟩
      rw [HK.out, Bool.eq_iff_iff]
      simp only [Bool.false_eq_true, decide_eq_true_eq, false_iff]
      first | omega | (simp_all <;> omega)

set_option maxRecDepth 100000 in
set_option maxHeartbeats 1000000 in
theorem rright_id (f : Hf) (ss sd : Value) (w : World) (T : Nat → Prop) (hf : HfD w T f ss sd) (hk : f.kind = 3 ∨ f.kind = 7 ∨ f.kind = 13) :
    Calls Tryd.prog 13 #[aggH f ss sd] w fun e w' => e = .returned (.bool (rightH f)) ∧ Chg none_ w w' := by
  have HK : Hid (rightH f = decide (f.id ≤ 4611686018427387903 ∧ f.sets.length = 0 ∧ f.data.length = 0)) := by
    show _ = _
    rcases hk with h | h | h
    · exact right_of (n := 3) (k := .id) h (by decide +kernel)
    · exact right_of (n := 7) (k := .id) h (by decide +kernel)
    · exact right_of (n := 13) (k := .id) h (by decide +kernel)
  obtain ⟨⟨A, c, rfl, ha, hva⟩, ⟨B, d, rfl, hb, _⟩⟩ := hf
  have hbx := boxed w f (.slice A f.sets.length c) (.slice B f.data.length d)
  have k0 := hbx.k0
  have k1 := hbx.k1
  have k2 := hbx.k2
  have k3 := hbx.k3
  have HC := Lib.hid hbx.chg
  clear ha hva hb
  unfold aggH
  generalize rightH f = R at *
  generalize hcs : cellsH f (.slice A f.sets.length c) (.slice B f.data.length d) = cs at *
  clear hbx hcs
  rcases hk with h | h | h
  · rw [h] at k0
    clear h
    go_enter Tryd.func13, Tryd.ntmps13
    go_wp2
    all_goals
      go_ret
      refine ⟨ret_bool ?_, HC.out⟩
      rw [HK.out, Bool.eq_iff_iff]
      simp only [Bool.false_eq_true, decide_eq_true_eq, false_iff]
      first | omega | (simp_all <;> omega)
  · rw [h] at k0
    clear h
    go_enter Tryd.func13, Tryd.ntmps13
    go_wp2
    all_goals
      go_ret
      refine ⟨ret_bool ?_, HC.out⟩
      rw [HK.out, Bool.eq_iff_iff]
      simp only [Bool.false_eq_true, decide_eq_true_eq, false_iff]
      first | omega | (simp_all <;> omega)
  · rw [h] at k0
    clear h
    go_enter Tryd.func13, Tryd.ntmps13
    go_wp2
    all_goals
      go_ret
      refine ⟨ret_bool ?_, HC.out⟩
      rw [HK.out, Bool.eq_iff_iff]
      simp only [Bool.false_eq_true, decide_eq_true_eq, false_iff]
      first | omega | (simp_all <;> omega)

set_option maxRecDepth 100000 in
set_option maxHeartbeats 1000000 in
theorem rright_none (f : Hf) (ss sd : Value) (w : World) (T : Nat → Prop) (hf : HfD w T f ss sd) (o : f.Ok) (hk : ¬ (f.kind = 0 ∨ f.kind = 1 ∨ f.kind = 3 ∨ f.kind = 4 ∨ f.kind = 7 ∨ f.kind = 13)) :
    Calls Tryd.prog 13 #[aggH f ss sd] w fun e w' => e = .returned (.bool (rightH f)) ∧ Chg none_ w w' := by
  have HK := Lib.hid (right_none o hk)
  obtain ⟨⟨A, c, rfl, ha, hva⟩, ⟨B, d, rfl, hb, _⟩⟩ := hf
  have hbx := boxed w f (.slice A f.sets.length c) (.slice B f.data.length d)
  have k0 := hbx.k0
  have k1 := hbx.k1
  have k2 := hbx.k2
  have k3 := hbx.k3
  have HC := Lib.hid hbx.chg
  have n0 : (f.kind == 0) = false := by rw [beq_eq_false_iff_ne]; omega
  have n1 : (f.kind == 1) = false := by rw [beq_eq_false_iff_ne]; omega
  have n3 : (f.kind == 3) = false := by rw [beq_eq_false_iff_ne]; omega
  have n4 : (f.kind == 4) = false := by rw [beq_eq_false_iff_ne]; omega
  have n7 : (f.kind == 7) = false := by rw [beq_eq_false_iff_ne]; omega
  have n13 : (f.kind == 13) = false := by rw [beq_eq_false_iff_ne]; omega
  clear ha hva hb o hk
  unfold aggH
  generalize hcs : cellsH f (.slice A f.sets.length c) (.slice B f.data.length d) = cs at *
  clear hbx hcs
  go_enter Tryd.func13, Tryd.ntmps13
  go_wp2
  go_ret
  exact ⟨ret_bool HK.out.symm, HC.out⟩

set_option maxRecDepth 100000 in
set_option maxHeartbeats 1000000 in
theorem rright_sets_no (f : Hf) (ss sd : Value) (w : World) (T : Nat → Prop) (hf : HfD w T f ss sd) (hk : f.kind = 4) (hn : ¬ (f.id = 0 ∧ f.data.length = 0 ∧ f.sets.length ≤ 16)) :
    Calls Tryd.prog 13 #[aggH f ss sd] w fun e w' => e = .returned (.bool (rightH f)) ∧ Chg none_ w w' := by
  have HK : Hid (rightH f = false) := by
    show _ = _
    rw [right_of (n := 4) (k := .sets) hk (by decide +kernel)]
    unfold hasK setsB
    rw [Bool.and_eq_false_iff, decide_eq_false_iff_not, decide_eq_false_iff_not]
    by_cases h : f.sets.length ≤ 16
    · exact .inr (fun q => hn ⟨q.1, q.2, h⟩)
    · exact .inl (fun q => h q.1)
  obtain ⟨⟨A, c, rfl, ha, hva⟩, ⟨B, d, rfl, hb, _⟩⟩ := hf
  have hbx := boxed w f (.slice A f.sets.length c) (.slice B f.data.length d)
  have k0 := hbx.k0
  have k1 := hbx.k1
  have k2 := hbx.k2
  have k3 := hbx.k3
  have HC := Lib.hid hbx.chg
  rw [hk] at k0
  clear ha hva hb
  unfold aggH
  generalize hcs : cellsH f (.slice A f.sets.length c) (.slice B f.data.length d) = cs at *
  clear hbx hcs hk
  generalize rightH f = R at *
  generalize f.data.length = dl at *
  generalize f.sets.length = sl at *
  generalize f.id = id at *
  by_cases h1 : id = 0
  · have e1 : ((id : Int) != 0) = false := by simp [h1]
    by_cases h2 : dl = 0
    · have e2 : ¬ (0 : Int) < (dl : Int) := by omega
      have e3 : (16 : Int) < (sl : Int) := by omega
      have g2 := decide_eq_false e2
      have g3 := decide_eq_true e3
      clear hn h1 h2
      go_enter Tryd.func13, Tryd.ntmps13
      go_wp2
      go_ret
      exact ⟨ret_bool HK.out.symm, HC.out⟩
    · have e2 : (0 : Int) < (dl : Int) := by omega
      have g2 := decide_eq_true e2
      clear hn h1 h2
      go_enter Tryd.func13, Tryd.ntmps13
      go_wp2
      go_ret
      exact ⟨ret_bool HK.out.symm, HC.out⟩
  · have e1 : ((id : Int) != 0) = true := by simp; omega
    clear hn h1
    go_enter Tryd.func13, Tryd.ntmps13
    go_wp2
    go_ret
    exact ⟨ret_bool HK.out.symm, HC.out⟩

set_option maxRecDepth 100000 in
set_option maxHeartbeats 4000000 in
theorem rright_sets (f : Hf) (ss sd : Value) (w : World) (T : Nat → Prop) (hf : HfD w T f ss sd) (hk : f.kind = 4) (h1 : f.id = 0) (h2 : f.data.length = 0) (h16 : f.sets.length ≤ 16) :
    Calls Tryd.prog 13 #[aggH f ss sd] w fun e w' => e = .returned (.bool (rightH f)) ∧ Chg none_ w w' := by
  have hR : rightH f = setsB f.sets := by
    rw [right_of (n := 4) (k := .sets) hk (by decide +kernel)]
    show (setsB f.sets && decide (f.id = 0 ∧ f.data.length = 0)) = _
    rw [decide_eq_true (show f.id = 0 ∧ f.data.length = 0 from ⟨h1, h2⟩), Bool.and_true]
  rw [hR]
  obtain ⟨⟨A, c, rfl, ha, hva⟩, ⟨B, d, rfl, hb, _⟩⟩ := hf
  have hbx := boxed w f (.slice A f.sets.length c) (.slice B f.data.length d)
  have k0 := hbx.k0
  have k1 := hbx.k1
  have k2 := hbx.k2
  have k3 := hbx.k3
  have HC := Lib.hid hbx.chg
  have HX := Lib.hid (fun w' (hc : Chg none_ (w.alloc (.cells (cellsH f (.slice A f.sets.length c) (.slice B f.data.length d)).toArray 26)) w') => (hbx.row.chg hc (fun h => h)).cell 2)
  have e1 : ((f.id : Int) != 0) = false := by simp [h1]
  have e2 : ¬ (0 : Int) < (f.data.length : Int) := by omega
  have e3 : ¬ (16 : Int) < (f.sets.length : Int) := by omega
  have g2 := decide_eq_false e2
  have g3 := decide_eq_false e3
  have hca : (cellsH f (.slice A f.sets.length c) (.slice B f.data.length d))[2]? = some (.slice A f.sets.length c) := rfl
  have hvv := hva.chg hbx.chg (fun _ _ h => h)
  rw [hk] at k0
  generalize f.data.length = dl at *
  generalize f.id = id at *
  unfold aggH
  generalize hl : f.sets = l at *
  generalize cellsH f (.slice A l.length c) (.slice B dl d) = cs at *
  rw [hca] at HX
  have HBAD : Hid (∀ i : Nat, i < l.length → badAt l i = true → setsB l = false) := fun i hi h => sets_bad hi h
  clear hR hk h1 h2 hl hb ha hva hbx
  by_cases hz : l.length = 0
  · have z1 : l = [] := List.eq_nil_of_length_eq_zero hz
    subst z1
    clear hz hvv
    go_enter Tryd.func13, Tryd.ntmps13
    go_wp2
    refine wp_loop_rounds 1 ?_
    rw [rounds_succ]
    go_wp2
    go_ret
    exact ⟨ret_bool (by decide +kernel), HC.out⟩
  · obtain ⟨b, o, rfl, hbb, _, hc⟩ := hvv.pairs (by omega)
    have HP : Hid (∀ w', Chg none_ (w.alloc (.cells cs.toArray 26)) w' → ∀ i, i < l.length → w'.cell? ⟨b, o + i * 2, none⟩ = some (.int .u64 ((l.getD i (0, 0)).1 : Nat)) ∧ w'.cell? ⟨b, o + i * 2 + 1, none⟩ = some (.int .u64 ((l.getD i (0, 0)).2 : Nat))) := fun w' hcc i hi =>
      ⟨(hcc.cell _ hbb (fun h => h)).trans (hc i hi).1, (hcc.cell _ hbb (fun h => h)).trans (hc i hi).2⟩
    clear hc hvv hz
    go_enter Tryd.func13, Tryd.ntmps13
    go_wp2
    go_loopw [3] (fun iv wr => ∃ i : Nat, i ≤ l.length ∧ iv = .int .i64 i ∧ Hid (∀ j, j < i → badAt l j = false) ∧ Chg none_ (w.alloc (.cells cs.toArray 26)) wr) (fun iv _ => l.length - (intOf iv).toNat)
    case atStart => exact ⟨0, Nat.zero_le _, rfl, fun j hj => absurd hj (by omega), Chg.refl _ _⟩
    case round =>
      obtain ⟨i, hi, rfl, hpre, hch⟩ := hrel
      have q2 := HX.out wr hch
      by_cases hlt : i < l.length
      · have hi0 : (0 : Int) ≤ (i : Int) := by omega
        have hi1 : (i : Int) < (l.length : Int) := by omega
        obtain ⟨c1, c2⟩ := HP.out wr hch i hlt
        generalize hx : l.getD i (0, 0) = x at c1 c2
        obtain ⟨x1, x2⟩ := x
        simp only at c1 c2
        have HBE := Lib.hid (badAt_eq l i x1 x2 hx)
        clear hx
        by_cases hf1 : forbS x1 = true
        · have hf2 : x1 = 0 ∨ x1 = 2 ∨ x1 = 3 ∨ x1 = 4 ∨ x1 = 5 := by unfold forbS at hf1; exact of_decide_eq_true hf1
          clear hf1
          rcases hf2 with rfl | rfl | rfl | rfl | rfl
          · go_wp2_with (((with_reducible show wpList _ _ _ (⟨_, .store 49 (.tmp 4) _, _, _, _, _⟩ :: _) _ _); refine wpList_store_Row (xs := [.int .u64 (0 : Nat), .int .u64 (x2 : Nat)]) rfl rfl rfl (Row.new wr 49 [.int .u64 0, .int .u64 0]) rfl rfl sizeS rfl ?_; intro w5 hr5 hch5 _; have c5 := hch5 none_ wr ((Chg.refl none_ wr).alloc _) (fun h => absurd h (by omega)); have s0 := hr5.cell 0; have s1 := hr5.cell 1; clear hch5))
            go_ret
            exact ⟨ret_bool (HBAD.out i hlt (by rw [HBE.out]; simp [forbS])).symm, HC.out.trans (hch.trans c5)⟩
          · go_wp2_with (((with_reducible show wpList _ _ _ (⟨_, .store 49 (.tmp 4) _, _, _, _, _⟩ :: _) _ _); refine wpList_store_Row (xs := [.int .u64 (2 : Nat), .int .u64 (x2 : Nat)]) rfl rfl rfl (Row.new wr 49 [.int .u64 0, .int .u64 0]) rfl rfl sizeS rfl ?_; intro w5 hr5 hch5 _; have c5 := hch5 none_ wr ((Chg.refl none_ wr).alloc _) (fun h => absurd h (by omega)); have s0 := hr5.cell 0; have s1 := hr5.cell 1; clear hch5))
            go_ret
            exact ⟨ret_bool (HBAD.out i hlt (by rw [HBE.out]; simp [forbS])).symm, HC.out.trans (hch.trans c5)⟩
          · go_wp2_with (((with_reducible show wpList _ _ _ (⟨_, .store 49 (.tmp 4) _, _, _, _, _⟩ :: _) _ _); refine wpList_store_Row (xs := [.int .u64 (3 : Nat), .int .u64 (x2 : Nat)]) rfl rfl rfl (Row.new wr 49 [.int .u64 0, .int .u64 0]) rfl rfl sizeS rfl ?_; intro w5 hr5 hch5 _; have c5 := hch5 none_ wr ((Chg.refl none_ wr).alloc _) (fun h => absurd h (by omega)); have s0 := hr5.cell 0; have s1 := hr5.cell 1; clear hch5))
            go_ret
            exact ⟨ret_bool (HBAD.out i hlt (by rw [HBE.out]; simp [forbS])).symm, HC.out.trans (hch.trans c5)⟩
          · go_wp2_with (((with_reducible show wpList _ _ _ (⟨_, .store 49 (.tmp 4) _, _, _, _, _⟩ :: _) _ _); refine wpList_store_Row (xs := [.int .u64 (4 : Nat), .int .u64 (x2 : Nat)]) rfl rfl rfl (Row.new wr 49 [.int .u64 0, .int .u64 0]) rfl rfl sizeS rfl ?_; intro w5 hr5 hch5 _; have c5 := hch5 none_ wr ((Chg.refl none_ wr).alloc _) (fun h => absurd h (by omega)); have s0 := hr5.cell 0; have s1 := hr5.cell 1; clear hch5))
            go_ret
            exact ⟨ret_bool (HBAD.out i hlt (by rw [HBE.out]; simp [forbS])).symm, HC.out.trans (hch.trans c5)⟩
          · go_wp2_with (((with_reducible show wpList _ _ _ (⟨_, .store 49 (.tmp 4) _, _, _, _, _⟩ :: _) _ _); refine wpList_store_Row (xs := [.int .u64 (5 : Nat), .int .u64 (x2 : Nat)]) rfl rfl rfl (Row.new wr 49 [.int .u64 0, .int .u64 0]) rfl rfl sizeS rfl ?_; intro w5 hr5 hch5 _; have c5 := hch5 none_ wr ((Chg.refl none_ wr).alloc _) (fun h => absurd h (by omega)); have s0 := hr5.cell 0; have s1 := hr5.cell 1; clear hch5))
            go_ret
            exact ⟨ret_bool (HBAD.out i hlt (by rw [HBE.out]; simp [forbS])).symm, HC.out.trans (hch.trans c5)⟩
        · have hf2 : ¬ (x1 = 0 ∨ x1 = 2 ∨ x1 = 3 ∨ x1 = 4 ∨ x1 = 5) := by intro q; apply hf1; unfold forbS; exact decide_eq_true q
          have n0 : ((x1 : Int) == 0) = false := by rw [beq_eq_false_iff_ne]; omega
          have n2 : ((x1 : Int) == 2) = false := by rw [beq_eq_false_iff_ne]; omega
          have n3 : ((x1 : Int) == 3) = false := by rw [beq_eq_false_iff_ne]; omega
          have n4 : ((x1 : Int) == 4) = false := by rw [beq_eq_false_iff_ne]; omega
          have n5 : ((x1 : Int) == 5) = false := by rw [beq_eq_false_iff_ne]; omega
          have HF2 := Lib.hid hf2
          clear hf1 hf2
          by_cases ht1 : 4611686018427387903 < x1
          · have t1 : (4611686018427387903 : Int) < (x1 : Int) := by omega
            go_wp2_with (((with_reducible show wpList _ _ _ (⟨_, .store 49 (.tmp 4) _, _, _, _, _⟩ :: _) _ _); refine wpList_store_Row (xs := [.int .u64 (x1 : Nat), .int .u64 (x2 : Nat)]) rfl rfl rfl (Row.new wr 49 [.int .u64 0, .int .u64 0]) rfl rfl sizeS rfl ?_; intro w5 hr5 hch5 _; have c5 := hch5 none_ wr ((Chg.refl none_ wr).alloc _) (fun h => absurd h (by omega)); have s0 := hr5.cell 0; have s1 := hr5.cell 1; clear hch5))
            go_ret
            exact ⟨ret_bool (HBAD.out i hlt (by rw [HBE.out, decide_eq_true (show 4611686018427387903 < max x1 x2 by omega)]; simp)).symm, HC.out.trans (hch.trans c5)⟩
          · have t1 : ¬ (4611686018427387903 : Int) < (x1 : Int) := by omega
            by_cases ht2 : 4611686018427387903 < x2
            · have t2 : (4611686018427387903 : Int) < (x2 : Int) := by omega
              go_wp2_with (((with_reducible show wpList _ _ _ (⟨_, .store 49 (.tmp 4) _, _, _, _, _⟩ :: _) _ _); refine wpList_store_Row (xs := [.int .u64 (x1 : Nat), .int .u64 (x2 : Nat)]) rfl rfl rfl (Row.new wr 49 [.int .u64 0, .int .u64 0]) rfl rfl sizeS rfl ?_; intro w5 hr5 hch5 _; have c5 := hch5 none_ wr ((Chg.refl none_ wr).alloc _) (fun h => absurd h (by omega)); have s0 := hr5.cell 0; have s1 := hr5.cell 1; clear hch5))
              go_ret
              exact ⟨ret_bool (HBAD.out i hlt (by rw [HBE.out, decide_eq_true (show 4611686018427387903 < max x1 x2 by omega)]; simp)).symm, HC.out.trans (hch.trans c5)⟩
            · have t2 : ¬ (4611686018427387903 : Int) < (x2 : Int) := by omega
              go_wp2_with (((with_reducible show wpList _ _ _ (⟨_, .store 49 (.tmp 4) _, _, _, _, _⟩ :: _) _ _); refine wpList_store_Row (xs := [.int .u64 (x1 : Nat), .int .u64 (x2 : Nat)]) rfl rfl rfl (Row.new wr 49 [.int .u64 0, .int .u64 0]) rfl rfl sizeS rfl ?_; intro w5 hr5 hch5 _; have c5 := hch5 none_ wr ((Chg.refl none_ wr).alloc _) (fun h => absurd h (by omega)); have s0 := hr5.cell 0; have s1 := hr5.cell 1; clear hch5))
              have hcw5 := hch.trans c5
              have HSX := Lib.hid (fun w' (hc : Chg none_ w5 w') => (hr5.chg hc (fun h => h)).cell 0)
              have HPR := hpre
              clear hr5 c5 hch hpre c1 c2 q2 n0 n2 n3 n4 n5 t1 t2 s0 s1
              generalize wr.heap.size = sb at *
              go_loopw [5] (fun kv wq => ∃ kk : Nat, kk ≤ i ∧ kv = .int .i64 kk ∧ Hid (∀ j, j < kk → (l.getD j (0, 0)).1 ≠ x1) ∧ Chg none_ w5 wq) (fun kv _ => i - (intOf kv).toNat)
              case atStart => exact ⟨0, Nat.zero_le _, rfl, fun j hj => absurd hj (by omega), Chg.refl _ _⟩
              case round =>
                obtain ⟨kk, hkk, rfl, hp2, hc2⟩ := hrel
                have s0 : _ = some (Value.int .u64 (x1 : Nat)) := HSX.out _ hc2
                have s2 := HX.out _ (hcw5.trans hc2)
                have HCE := Lib.hid (HC.out.trans (hcw5.trans hc2))
                have HCF := Lib.hid (hcw5.trans hc2)
                by_cases hl2 : kk < i
                · have hkl : kk < l.length := by omega
                  obtain ⟨d1, _⟩ := HP.out _ (hcw5.trans hc2) kk hkl
                  generalize hy : (l.getD kk (0, 0)).1 = y1 at d1
                  have HY := Lib.hid hy
                  clear hy
                  have hk0 : (0 : Int) ≤ (kk : Int) := by omega
                  have hk1 : (kk : Int) < (i : Int) := by omega
                  have hk2 : (kk : Int) < (l.length : Int) := by omega
                  by_cases hyx : y1 = x1
                  · subst hyx
                    go_wp2
                    go_quiet (fail)
                    go_wp2
                    go_ret
                    exact ⟨ret_bool (HBAD.out i hlt (by rw [HBE.out, any_at hl2 hlt HY.out]; simp)).symm, HCE.out.drewN nq⟩
                  · have hne : ((y1 : Int) == (x1 : Int)) = false := by rw [beq_eq_false_iff_ne]; omega
                    have HYX := Lib.hid hyx
                    clear hyx
                    go_wp2
                    go_quiet (fail)
                    go_wp2
                    go_roundw
                    case rel =>
                      refine ⟨kk + 1, by omega, by go_num, ?_, hc2.drewN nq⟩
                      intro j hj
                      rcases Nat.lt_or_ge j kk with q | q
                      · exact hp2.out j q
                      · have e : j = kk := by omega
                        subst e
                        rw [HY.out]
                        exact HYX.out
                    case measure => simp [intOf]; omega
                · have hk1 : ¬ (kk : Int) < (i : Int) := by omega
                  have hki : kk = i := by omega
                  have HKI := Lib.hid hki
                  clear hki
                  go_wp2
                  go_roundw
                  case rel =>
                    refine ⟨i + 1, by omega, by go_num, ?_, HCF.out⟩
                    intro j hj
                    rcases Nat.lt_or_ge j i with q | q
                    · exact HPR.out j q
                    · have e : j = i := by omega
                      subst e
                      rw [HBE.out, any_no (i := j) (x := x1) (fun m hm => hp2.out m (by rw [HKI.out]; exact hm))]
                      have hf := HF2.out
                      have hfs : forbS x1 = false := by unfold forbS; exact decide_eq_false hf
                      rw [hfs, decide_eq_false (by omega)]
                      rfl
                  case measure => simp [intOf]; omega
      · have hil : i = l.length := by omega
        have hi1 : ¬ (i : Int) < (l.length : Int) := by omega
        have HIL := Lib.hid hil
        have HCH := Lib.hid (HC.out.trans hch)
        clear hil hch
        go_wp2
        go_ret
        refine ⟨ret_bool ?_, HCH.out⟩
        symm
        unfold setsB
        exact decide_eq_true ⟨h16, fun j hj => hpre.out j (by rw [HIL.out]; exact hj)⟩

theorem rright_any (f : Hf) (ss sd : Value) (w : World) (T : Nat → Prop) (hf : HfD w T f ss sd) (o : f.Ok) :
    Calls Tryd.prog 13 #[aggH f ss sd] w fun e w' => e = .returned (.bool (rightH f)) ∧ Chg none_ w w' := by
  by_cases h0 : f.kind = 0 ∨ f.kind = 1
  · exact rright_data f ss sd w T hf h0
  · by_cases h1 : f.kind = 3 ∨ f.kind = 7 ∨ f.kind = 13
    · exact rright_id f ss sd w T hf h1
    · by_cases h4 : f.kind = 4
      · by_cases h2 : f.id = 0 ∧ f.data.length = 0 ∧ f.sets.length ≤ 16
        · exact rright_sets f ss sd w T hf h4 h2.1 h2.2.1 h2.2.2
        · exact rright_sets_no f ss sd w T hf h4 h2
      · exact rright_none f ss sd w T hf o (by omega)
end Go.Proofs.YtcdnjeojgjakdaaDoor
