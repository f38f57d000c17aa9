/- Layer 13 (ranges): laws walked: the document's all along. -/
import Derived.Test.YtlakhfbhbebojaaV13Open
import Derived.Test.YtlakhfbhbebojaaV13RAdd
namespace Go.Proofs.Ytlakhfbhbebojaa
open Go.RowKit Go.Shelf Go.Sort

theorem zeroRS : (Try.prog.info? 35).map (·.zero) = some (some (.agg #[.slice none 0 0, .int .u64 0])) := by kernel_rfl
theorem View.racAt {w : World} {T : Nat → Prop} {A : Option Addr} {l : List (Int × Nat)} {k : Nat} (h : View w T A (l.length * 2) (racells l)) (hk : k < l.length) : ∃ b o, A = some ⟨b, o, none⟩ ∧ b < w.heap.size ∧ w.cell? ⟨b, o + k * 2, none⟩ = some (.int .i64 (l.getD k rac0).1) ∧ w.cell? ⟨b, o + k * 2 + 1, none⟩ = some (.int .u64 ((l.getD k rac0).2 : Int)) := by
  obtain ⟨b, o, h1, h2, _, h4⟩ := h.2 (by omega)
  refine ⟨b, o, h1, h2, ?_, ?_⟩
  · rw [h4 _ (by omega)]
    exact racells_get l k 0 hk (by omega)
  · rw [Nat.add_assoc, h4 _ (by omega)]
    exact racells_get l k 1 hk (by omega)

set_option maxRecDepth 100000 in
set_option maxHeartbeats 8000000 in
theorem walk_RangesActs (l : List (Int × Nat)) (A : Option Addr) (cap : Nat) (w : World) (_hb : l.length ≤ cap ∧ cap ≤ maxLen) (hv : View w (fun _ => True) A (l.length * 2) (racells l)) (_ho : ∀ x ∈ l, x.2 < 18446744073709551616) :
    Calls Try.prog 3 #[.slice A l.length cap] w fun e w' => e = .returned (.bool true) ∧ Chg none_ w w' := by
  by_cases hbig : 150 < l.length
  · have h1 : (150 : Int) < (l.length : Int) := by omega
    clear hv
    go_enter Try.func3, Try.ntmps3
    go_wp2_with ((go_at_call 8; refine (alive_any _).mono ?_; rintro e w1 ⟨rfl, hc⟩; have HC1 := Lib.hid hc; clear hc))
    go_ret
    exact ⟨rfl, HC1.out⟩
  have h1 : ¬ (150 : Int) < (l.length : Int) := by omega
  have HV := Lib.hid (fun w' (hc : Chg none_ w w') => hv.chg hc (fun _ _ h => h))
  clear hv
  go_enter Try.func3, Try.ntmps3
  go_wp2_with (first | (go_at_call 8; refine (alive_any _).mono ?_; rintro e w1 ⟨rfl, hc⟩; have HC1 := Lib.hid hc; clear hc) | (go_at_call 9; refine (Add_nil _ _).mono ?_; rintro e n1 ⟨rfl, hc⟩; have HN1 := Lib.hid (HC1.out.trans hc); clear hc) | (go_at_call 10; refine (Has_nil _ _).mono ?_; rintro e n2 ⟨rfl, hc⟩; have HN2 := Lib.hid (HN1.out.trans hc); clear hc) | (go_at_call 11; refine (Old_nil 1 _).mono ?_; rintro e n3 ⟨rfl, rfl⟩) | (go_at_call 12; refine (Ranges_nil _).mono ?_; rintro e n4 ⟨rfl, rfl⟩) | (go_at_call 13; refine (Largest_nil _).mono ?_; rintro e n5 ⟨rfl, rfl⟩) | (go_at_call 14; refine (Forget_nil _ _).mono ?_; rintro e n6 ⟨rfl, hc⟩; have HN6 := Lib.hid (HN2.out.trans hc); clear hc) | ((with_reducible show wpList _ _ _ (⟨some 4, .alloc _, _, _, _, _⟩ :: _) _ _); refine wpList_alloc_Row rfl rfl [.slice none 0 0, .int .u64 0] zeroSt ?_; intro w2 hr hc hs; have HR2 := Lib.hid hr; have HC2 := Lib.hid (HN6.out.trans hc); have HS2 := Lib.hid hs; clear hr hc hs) | ((with_reducible show wpList _ _ _ (⟨some 5, .alloc _, _, _, _, _⟩ :: _) _ _); refine wpList_alloc_Row rfl rfl [.slice none 0 0, .int .u64 0] zeroRS ?_; intro w3 hr hc hs; rw [HS2.out] at hr; have HR3 := Lib.hid (HR2.out.chg hc (fun h => h)); have HR4 := Lib.hid hr; have HC3 := Lib.hid (HC2.out.trans hc); clear hr hc hs))
  have H0 := Lib.hid HN6.out.size
  have HQA := Lib.hid (SetG.new (B := n6.heap.size + 2) HR3.out (by omega) (by have := HR4.out.lt; omega))
  have HQB := Lib.hid (show RAt w3 (n6.heap.size + 2) (n6.heap.size + 1) [] 0 from ⟨none, 0, HR4.out, Nat.le_refl _, Nat.zero_le _, View.none_ _ _ _, by omega, by have := HR4.out.lt; omega⟩)
  rw [HS2.out]
  clear HR2 HR3 HR4 HS2 HC2 HC1 HN1 HN2 HN6
  generalize n6.heap.size = g at *
  go_loopw [6] (fun i wr => ∃ (j : Nat) (l0 : List (Nat × Nat)) (y : Nat) (L : List Nat), i = .int .i64 (j : Int) ∧ j ≤ l.length ∧ SetG wr (g + 2) g l0 y 16 ∧ RAt wr (g + 2) (g + 1) L y ∧ Same_ l0 L ∧ L.length ≤ j ∧ Chg none_ w wr) (fun i _ => l.length - (intOf i).toNat)
  case atStart => exact ⟨0, [], 0, [], rfl, Nat.zero_le _, HQA.out, HQB.out, ⟨List.Pairwise.nil, fun x => ⟨fun h => absurd h In.nil, fun h => by cases h⟩⟩, Nat.le_refl _, HC3.out⟩
  case round =>
    obtain ⟨j, l0, y, L, rfl, hj, hqa, hqb, hsm, hll, hc⟩ := hrel
    have HC := Lib.hid hc
    have HQ1 := Lib.hid hqa
    have HQ2 := Lib.hid hqb
    have HSM0 := Lib.hid hsm
    by_cases hlt : j < l.length
    · have k1 : (j : Int) < (l.length : Int) := by omega
      have k0 : 0 ≤ (j : Int) := by omega
      obtain ⟨b, o, rfl, hbl, a0, a1⟩ := (HV.out wr hc).racAt hlt
      generalize (l.getD j rac0).1 = kd at *
      generalize (l.getD j rac0).2 = n at *
      have HB : Hid (∀ w', Chg none_ wr w' → w'.cell? ⟨b, o + j * 2, none⟩ = some (.int .i64 kd)) := Lib.hid (fun w' h => (h.cell _ hbl (fun h => h)).trans a0)
      by_cases hkd : kd = 0
      · subst hkd
        have HA := Lib.hid (Add_any g (g + 2) y n l0 wr hqa)
        have HRA0 : Hid (∀ w1, RAt w1 (g + 2) (g + 1) L y → Calls Try.prog 15 #[.pointer (some ⟨g + 1, 0, none⟩), .int .u64 (n : Int)] w1 fun e w' => e = .returned (.bool (newB l0 y n)) ∧ (∃ L2, RAt w' (g + 2) (g + 1) L2 (addT l0 y n).2 ∧ Same_ (addT l0 y n).1 L2 ∧ L2.length ≤ L.length + 1) ∧ Chg (· = g + 1) w1 w') := Lib.hid (fun w1 h1 => RAdd_any (g + 1) (g + 2) y n l0 L w1 h1 (by omega) hsm hqa.2)
        generalize newB l0 y n = bb at *
        generalize (addT l0 y n).1 = l1 at *
        generalize (addT l0 y n).2 = y1 at *
        clear hqa hqb hsm hc hbl
        go_wp2_with (first | (go_at_call 9; refine HA.out.mono ?_; rintro e w5 ⟨rfl, hq, hc⟩; have HS5 := Lib.hid hq; have HR5 := Lib.hid (HQ2.out.chg hc (fun (e : g + 1 = g) => by omega) (fun b hb (e : b = g) => by omega)); have HC5 := Lib.hid (chg_own H0.out HC.out hc); clear hq hc a0 a1) | (go_at_call 15; refine (HRA0.out _ HR5.out).mono ?_; rintro e w6 ⟨rfl, ⟨L1, hr1, hm1, hL1⟩, hc⟩; have HR6 := Lib.hid hr1; have HM6 := Lib.hid hm1; have HS6 := Lib.hid (show SetG w6 (g + 2) g l1 y1 16 from ⟨HS5.out.1.chg hc (fun (e : g = g + 1) => by omega) (fun b hb (e : b = g + 1) => by omega), HS5.out.2⟩); have HC6 := Lib.hid (chg_own (by have := H0.out; omega) HC5.out hc); clear hr1 hm1 hc))
        clear HA HRA0 HS5 HR5 HC5 HQ1 HQ2 HSM0
        have hL1 : L1.length ≤ j + 1 := by omega
        have HLL := Lib.hid hL1
        have HHA : Hid (∀ w1, Chg none_ w6 w1 → Calls Try.prog 10 #[.pointer (some ⟨g, 0, none⟩), .int .u64 (n : Int)] w1 fun e w' => e = .returned (.bool (hasL l1 n)) ∧ Chg none_ w1 w') := Lib.hid (fun w1 h1 => Has_any g (g + 2) y1 16 n l1 w1 (HS6.out.quiet h1) (by decide))
        have HHB : Hid (∀ w1, Chg none_ w6 w1 → Calls Try.prog 17 #[.pointer (some ⟨g + 1, 0, none⟩), .int .u64 (n : Int)] w1 fun e w' => e = .returned (.bool (hasL l1 n)) ∧ Chg none_ w1 w') := Lib.hid (fun w1 h1 => (RHas_any (g + 1) (g + 2) y1 n L1 w1 (HR6.out.quiet h1) (by omega)).mono fun e w' ⟨a, b⟩ => ⟨by rw [a, HM6.out.has HS6.out.2], by rw [b]; exact Chg.refl _ _⟩)
        have HOA : Hid (∀ w1, Chg none_ w6 w1 → Calls Try.prog 11 #[.pointer (some ⟨g, 0, none⟩), .int .u64 (n : Int)] w1 fun e w' => e = .returned (.bool (decide (n < y1))) ∧ Chg none_ w1 w') := Lib.hid (fun w1 h1 => (Old_any g (g + 2) y1 l1 n w1 (HS6.out.quiet h1).1).mono fun e w' ⟨a, b⟩ => ⟨a, by rw [b]; exact Chg.refl _ _⟩)
        have HLO : Hid (∀ w1, Chg none_ w6 w1 → w1.cell? ⟨g + 1, 1, none⟩ = some (.int .u64 (y1 : Int))) := Lib.hid (fun w1 h1 => by
          obtain ⟨A9, c9, r9, _⟩ := HR6.out.quiet h1
          exact r9.cell 1)
        have HLA : Hid (∀ w1, Chg none_ w6 w1 → Calls Try.prog 13 #[.pointer (some ⟨g, 0, none⟩)] w1 fun e w' => e = .returned (.int .i64 (largestL l1)) ∧ Chg none_ w1 w') := Lib.hid (fun w1 h1 => (Largest_any g (g + 2) y1 l1 w1 (HS6.out.quiet h1).1 (fun r hr => (HS6.out.2.all r hr).2)).mono fun e w' ⟨a, b⟩ => ⟨a, by rw [b]; exact Chg.refl _ _⟩)
        have HLB : Hid (∀ w1, Chg none_ w6 w1 → Calls Try.prog 18 #[.pointer (some ⟨g + 1, 0, none⟩)] w1 fun e w' => e = .returned (.int .i64 (largestL l1)) ∧ Chg none_ w1 w') := Lib.hid (fun w1 h1 => (RLargest_any (g + 1) (g + 2) y1 L1 w1 (HR6.out.quiet h1) (by omega) (fun x hx => (HM6.out.le HS6.out.2 x hx).2)).mono fun e w' ⟨a, b⟩ => ⟨by rw [a, HM6.out.largest HS6.out.2], b⟩)
        have HRA : Hid (∀ w1, Chg none_ w6 w1 → Calls Try.prog 12 #[.pointer (some ⟨g, 0, none⟩)] w1 fun e w' => ∃ A3 cap3, e = .returned (.slice A3 l1.length cap3) ∧ View w' (fun _ => True) A3 (l1.length * 2) (rcells l1) ∧ Chg none_ w1 w') := Lib.hid (fun w1 h1 => (Ranges_any g (g + 2) y1 l1 w1 (HS6.out.quiet h1).1 (by have := HS6.out.2.len; omega)).mono fun e w' ⟨v, a, ho, hc⟩ => by
          obtain ⟨A3, cap3, rfl, _, _, hv⟩ := ho.view
          exact ⟨A3, cap3, a, hv.mono (fun _ _ _ => trivial), hc⟩)
        have HRB : Hid (∀ w1, Chg none_ w6 w1 → Calls Try.prog 20 #[.pointer (some ⟨g + 1, 0, none⟩)] w1 fun e w' => ∃ A3 cap3, e = .returned (.slice A3 l1.length cap3) ∧ View w' (fun _ => True) A3 (l1.length * 2) (rcells l1) ∧ Chg none_ w1 w') := Lib.hid (fun w1 h1 => (RRanges_any (g + 1) (g + 2) y1 L1 w1 (HR6.out.quiet h1) (by omega) (fun x hx => (HM6.out.le HS6.out.2 x hx).2)).mono fun e w' ⟨v, a, ho, hc⟩ => by
          rw [HM6.out.ranges HS6.out.2] at ho
          obtain ⟨A3, cap3, rfl, _, _, hv⟩ := ho.view
          exact ⟨A3, cap3, a, hv.mono (fun _ _ _ => trivial), hc⟩)
        have HSM : Hid (∀ w1 A3 B3 c3 d3, View w1 (fun _ => True) A3 (l1.length * 2) (rcells l1) → View w1 (fun _ => True) B3 (l1.length * 2) (rcells l1) → Calls Try.prog 19 #[.slice A3 l1.length c3, .slice B3 l1.length d3] w1 fun e w' => e = .returned (.bool true) ∧ Chg none_ w1 w') := Lib.hid (fun w1 A3 B3 c3 d3 h1 h2 => by
          have hro : ∀ r ∈ l1, ROk r := fun r hr => by
            have h1 := HS6.out.2.all r hr
            have h2 := HS6.out.2.sep.2 r hr
            unfold MX at h1
            exact ⟨by omega, by omega⟩
          have := Same_any l1 l1 A3 B3 c3 d3 _ _ w1 h1 h2 (by have := HS6.out.2.len; omega) hro hro
          rwa [decide_eq_true rfl] at this)
        generalize l1.length = n1 at *
        generalize hasL l1 n = hb at *
        generalize largestL l1 = lg at *
        clear hL1
        refine wp_region_held_drew (S := fun x => Chg none_ w6 x) (by kernel_rfl) ((Chg.refl none_ w6).drew) (fun hch0 => ?_)
        have hz : Chg none_ w6 w6.drew := (Chg.refl none_ w6).drew
        generalize w6.drew = wz at hz ⊢
        clear hch0
        refine wpAnyH_take (i := 0) (v := .bool true) rfl (by kernel_rfl) (by kernel_rfl) (by kernel_rfl) (by first | exact fun _ _ _ h => h | exact fun _ _ _ h => nomatch h.1) (Or.inl ⟨by rfl, fun w_ hw_ => by go_simp⟩) hz ?_
        try simp only [Act.put, List.setIfInBounds_toArray, List.set_cons_zero, List.set_cons_succ, List.getElem_toArray, List.getElem_cons_zero]
        refine wpAnyH_take (i := 1) (v := .bool false) rfl (by kernel_rfl) (by kernel_rfl) (by kernel_rfl) (by first | exact fun _ _ _ h => h | exact fun _ _ _ h => nomatch h.1) (Or.inl ⟨by rfl, fun w_ hw_ => by go_simp⟩) hz ?_
        try simp only [Act.put, List.setIfInBounds_toArray, List.set_cons_zero, List.set_cons_succ, List.getElem_toArray, List.getElem_cons_succ, List.getElem_cons_zero]
        refine wpAnyH_take (i := 2) (v := .bool false) rfl (by kernel_rfl) (by kernel_rfl) (by kernel_rfl) (by first | exact fun _ _ _ h => h | exact fun _ _ _ h => nomatch h.1) (Or.inl ⟨by rfl, fun w_ hw_ => by go_simp⟩) hz ?_
        try simp only [Act.put, List.setIfInBounds_toArray, List.set_cons_zero, List.set_cons_succ, List.getElem_toArray, List.getElem_cons_succ, List.getElem_cons_zero]
        refine wpAnyH_take (i := 3) (v := .int .u64 (n : Int)) rfl (by kernel_rfl) (by kernel_rfl) (by kernel_rfl) (by first | exact fun _ _ _ h => h | exact fun _ _ _ h => nomatch h.1) (Or.inl ⟨by rfl, fun w_ hw_ => by go_simp⟩) hz ?_
        try simp only [Act.put, List.setIfInBounds_toArray, List.set_cons_zero, List.set_cons_succ, List.getElem_toArray, List.getElem_cons_succ, List.getElem_cons_zero]
        refine wpAnyH_take (i := 5) (v := .int .u64 (n : Int)) rfl (by kernel_rfl) (by kernel_rfl) (by kernel_rfl) (by first | exact fun _ _ _ h => h | exact fun _ _ _ h => nomatch h.1) (Or.inl ⟨by rfl, fun w_ hw_ => by go_simp⟩) hz ?_
        try simp only [Act.put, List.setIfInBounds_toArray, List.set_cons_zero, List.set_cons_succ, List.getElem_toArray, List.getElem_cons_succ, List.getElem_cons_zero]
        refine wpAnyH_ready (rs := [4]) (by kernel_rfl) (by simp) ?_
        refine AllReadyH.cons rfl (fun K hK => ?_) AllReadyH.nil
        rw [if_pos (by rfl)]
        try simp only [List.getElem_toArray, List.getElem_cons_succ, List.getElem_cons_zero]
        go_simp
        refine (HHA.out _ hz).mono ?_
        rintro e x1 ⟨rfl, hcx⟩
        have hz := hz.trans hcx
        refine hK.out _ _ hz (fun _ => ?_)
        clear hK K hcx
        try simp only [Act.put, List.setIfInBounds_toArray, List.set_cons_zero, List.set_cons_succ, List.getElem_toArray, List.getElem_cons_succ, List.getElem_cons_zero]
        refine wpAnyH_ready (rs := [6]) (by kernel_rfl) (by simp) ?_
        refine AllReadyH.cons rfl (fun K hK => ?_) AllReadyH.nil
        rw [if_pos (by rfl)]
        try simp only [List.getElem_toArray, List.getElem_cons_succ, List.getElem_cons_zero]
        go_simp
        refine (HHB.out _ hz).mono ?_
        rintro e x2 ⟨rfl, hcx⟩
        have hz := hz.trans hcx
        refine hK.out _ _ hz (fun _ => ?_)
        clear hK K hcx
        try simp only [Act.put, List.setIfInBounds_toArray, List.set_cons_zero, List.set_cons_succ, List.getElem_toArray, List.getElem_cons_succ, List.getElem_cons_zero]
        refine wpAnyH_take (i := 7) (v := .bool false) rfl (by kernel_rfl) (by kernel_rfl) (by kernel_rfl) (by first | exact fun _ _ _ h => h | exact fun _ _ _ h => nomatch h.1) (Or.inl ⟨by rfl, fun w_ hw_ => by go_simp⟩) hz ?_
        try simp only [Act.put, List.setIfInBounds_toArray, List.set_cons_zero, List.set_cons_succ, List.getElem_toArray, List.getElem_cons_succ, List.getElem_cons_zero]
        refine wpAnyH_take (i := 8) (v := .bool false) rfl (by kernel_rfl) (by kernel_rfl) (by kernel_rfl) (by first | exact fun _ _ _ h => h | exact fun _ _ _ h => nomatch h.1) (Or.inl ⟨by rfl, fun w_ hw_ => by go_simp⟩) hz ?_
        try simp only [Act.put, List.setIfInBounds_toArray, List.set_cons_zero, List.set_cons_succ, List.getElem_toArray, List.getElem_cons_succ, List.getElem_cons_zero]
        refine wpAnyH_take (i := 9) (v := .bool false) rfl (by kernel_rfl) (by kernel_rfl) (by kernel_rfl) (by first | exact fun _ _ _ h => h | exact fun _ _ _ h => nomatch h.1) (Or.inl ⟨by rfl, fun w_ hw_ => by go_simp⟩) hz ?_
        try simp only [Act.put, List.setIfInBounds_toArray, List.set_cons_zero, List.set_cons_succ, List.getElem_toArray, List.getElem_cons_succ, List.getElem_cons_zero]
        refine wpAnyH_take (i := 10) (v := .int .u64 (n : Int)) rfl (by kernel_rfl) (by kernel_rfl) (by kernel_rfl) (by first | exact fun _ _ _ h => h | exact fun _ _ _ h => nomatch h.1) (Or.inl ⟨by rfl, fun w_ hw_ => by go_simp⟩) hz ?_
        try simp only [Act.put, List.setIfInBounds_toArray, List.set_cons_zero, List.set_cons_succ, List.getElem_toArray, List.getElem_cons_succ, List.getElem_cons_zero]
        refine wpAnyH_take (i := 12) (v := .int .u64 (n : Int)) rfl (by kernel_rfl) (by kernel_rfl) (by kernel_rfl) (by first | exact fun _ _ _ h => h | exact fun _ _ _ h => nomatch h.1) (Or.inl ⟨by rfl, fun w_ hw_ => by go_simp⟩) hz ?_
        try simp only [Act.put, List.setIfInBounds_toArray, List.set_cons_zero, List.set_cons_succ, List.getElem_toArray, List.getElem_cons_succ, List.getElem_cons_zero]
        refine wpAnyH_take (i := 13) (v := .pointer (some ⟨g + 1, 1, none⟩)) rfl (by kernel_rfl) (by kernel_rfl) (by kernel_rfl) (by first | exact fun _ _ _ h => h | exact fun _ _ _ h => nomatch h.1) (Or.inl ⟨by rfl, fun w_ hw_ => by go_simp⟩) hz ?_
        try simp only [Act.put, List.setIfInBounds_toArray, List.set_cons_zero, List.set_cons_succ, List.getElem_toArray, List.getElem_cons_succ, List.getElem_cons_zero]
        refine wpAnyH_take (i := 14) (v := .int .u64 (y1 : Int)) rfl (by kernel_rfl) (by kernel_rfl) (by kernel_rfl) (by first | exact fun _ _ _ h => h | exact fun _ _ _ h => nomatch h.1) (Or.inl ⟨by rfl, fun w_ hw_ => by have q_ := HLO.out w_ hw_; go_simp⟩) hz ?_
        try simp only [Act.put, List.setIfInBounds_toArray, List.set_cons_zero, List.set_cons_succ, List.getElem_toArray, List.getElem_cons_succ, List.getElem_cons_zero]
        refine wpAnyH_take (i := 15) (v := .bool (decide (n < y1))) rfl (by kernel_rfl) (by kernel_rfl) (by kernel_rfl) (by first | exact fun _ _ _ h => h | exact fun _ _ _ h => nomatch h.1) (Or.inl ⟨by rfl, fun w_ hw_ => by go_simp⟩) hz ?_
        try simp only [Act.put, List.setIfInBounds_toArray, List.set_cons_zero, List.set_cons_succ, List.getElem_toArray, List.getElem_cons_succ, List.getElem_cons_zero]
        refine wpAnyH_ready (rs := [11]) (by kernel_rfl) (by simp) ?_
        refine AllReadyH.cons rfl (fun K hK => ?_) AllReadyH.nil
        rw [if_pos (by rfl)]
        try simp only [List.getElem_toArray, List.getElem_cons_succ, List.getElem_cons_zero]
        go_simp
        refine (HOA.out _ hz).mono ?_
        rintro e x3 ⟨rfl, hcx⟩
        have hz := hz.trans hcx
        refine hK.out _ _ hz (fun _ => ?_)
        clear hK K hcx
        try simp only [Act.put, List.setIfInBounds_toArray, List.set_cons_zero, List.set_cons_succ, List.getElem_toArray, List.getElem_cons_succ, List.getElem_cons_zero]
        refine wpAnyH_take (i := 16) (v := .bool false) rfl (by kernel_rfl) (by kernel_rfl) (by kernel_rfl) (by first | exact fun _ _ _ h => h | exact fun _ _ _ h => nomatch h.1) (Or.inl ⟨by rfl, fun w_ hw_ => by go_simp⟩) hz ?_
        try simp only [Act.put, List.setIfInBounds_toArray, List.set_cons_zero, List.set_cons_succ, List.getElem_toArray, List.getElem_cons_succ, List.getElem_cons_zero]
        refine wpAnyH_take (i := 17) (v := .bool false) rfl (by kernel_rfl) (by kernel_rfl) (by kernel_rfl) (by first | exact fun _ _ _ h => h | exact fun _ _ _ h => nomatch h.1) (Or.inl ⟨by rfl, fun w_ hw_ => by go_simp⟩) hz ?_
        try simp only [Act.put, List.setIfInBounds_toArray, List.set_cons_zero, List.set_cons_succ, List.getElem_toArray, List.getElem_cons_succ, List.getElem_cons_zero]
        refine wpAnyH_take (i := 18) (v := .bool false) rfl (by kernel_rfl) (by kernel_rfl) (by kernel_rfl) (by first | exact fun _ _ _ h => h | exact fun _ _ _ h => nomatch h.1) (Or.inl ⟨by rfl, fun w_ hw_ => by go_simp⟩) hz ?_
        try simp only [Act.put, List.setIfInBounds_toArray, List.set_cons_zero, List.set_cons_succ, List.getElem_toArray, List.getElem_cons_succ, List.getElem_cons_zero]
        refine wpAnyH_ready (rs := [19]) (by kernel_rfl) (by simp) ?_
        refine AllReadyH.cons rfl (fun K hK => ?_) AllReadyH.nil
        rw [if_pos (by rfl)]
        try simp only [List.getElem_toArray, List.getElem_cons_succ, List.getElem_cons_zero]
        go_simp
        refine (HLA.out _ hz).mono ?_
        rintro e x4 ⟨rfl, hcx⟩
        have hz := hz.trans hcx
        refine hK.out _ _ hz (fun _ => ?_)
        clear hK K hcx
        try simp only [Act.put, List.setIfInBounds_toArray, List.set_cons_zero, List.set_cons_succ, List.getElem_toArray, List.getElem_cons_succ, List.getElem_cons_zero]
        refine wpAnyH_ready (rs := [20]) (by kernel_rfl) (by simp) ?_
        refine AllReadyH.cons rfl (fun K hK => ?_) AllReadyH.nil
        rw [if_pos (by rfl)]
        try simp only [List.getElem_toArray, List.getElem_cons_succ, List.getElem_cons_zero]
        go_simp
        refine (HLB.out _ hz).mono ?_
        rintro e x5 ⟨rfl, hcx⟩
        have hz := hz.trans hcx
        refine hK.out _ _ hz (fun _ => ?_)
        clear hK K hcx
        try simp only [Act.put, List.setIfInBounds_toArray, List.set_cons_zero, List.set_cons_succ, List.getElem_toArray, List.getElem_cons_succ, List.getElem_cons_zero]
        refine wpAnyH_take (i := 21) (v := .bool false) rfl (by kernel_rfl) (by kernel_rfl) (by kernel_rfl) (by first | exact fun _ _ _ h => h | exact fun _ _ _ h => nomatch h.1) (Or.inl ⟨by rfl, fun w_ hw_ => by go_simp⟩) hz ?_
        try simp only [Act.put, List.setIfInBounds_toArray, List.set_cons_zero, List.set_cons_succ, List.getElem_toArray, List.getElem_cons_succ, List.getElem_cons_zero]
        refine wpAnyH_take (i := 22) (v := .bool false) rfl (by kernel_rfl) (by kernel_rfl) (by kernel_rfl) (by first | exact fun _ _ _ h => h | exact fun _ _ _ h => nomatch h.1) (Or.inl ⟨by rfl, fun w_ hw_ => by go_simp⟩) hz ?_
        try simp only [Act.put, List.setIfInBounds_toArray, List.set_cons_zero, List.set_cons_succ, List.getElem_toArray, List.getElem_cons_succ, List.getElem_cons_zero]
        refine wpAnyH_take (i := 23) (v := .bool false) rfl (by kernel_rfl) (by kernel_rfl) (by kernel_rfl) (by first | exact fun _ _ _ h => h | exact fun _ _ _ h => nomatch h.1) (Or.inl ⟨by rfl, fun w_ hw_ => by go_simp⟩) hz ?_
        try simp only [Act.put, List.setIfInBounds_toArray, List.set_cons_zero, List.set_cons_succ, List.getElem_toArray, List.getElem_cons_succ, List.getElem_cons_zero]
        refine wpAnyH_ready (rs := [24]) (by kernel_rfl) (by simp) ?_
        refine AllReadyH.cons rfl (fun K hK => ?_) AllReadyH.nil
        rw [if_pos (by rfl)]
        try simp only [List.getElem_toArray, List.getElem_cons_succ, List.getElem_cons_zero]
        go_simp
        refine (HRA.out _ hz).mono ?_
        rintro e x6 ⟨A6, c6, rfl, hv6, hcx⟩
        have hz := hz.trans hcx
        refine hK.out _ _ hz (fun _ => ?_)
        clear hK K hcx
        try simp only [Act.put, List.setIfInBounds_toArray, List.set_cons_zero, List.set_cons_succ, List.getElem_toArray, List.getElem_cons_succ, List.getElem_cons_zero]
        refine wpAnyH_ready (rs := [25]) (by kernel_rfl) (by simp) ?_
        refine AllReadyH.cons rfl (fun K hK => ?_) AllReadyH.nil
        rw [if_pos (by rfl)]
        try simp only [List.getElem_toArray, List.getElem_cons_succ, List.getElem_cons_zero]
        go_simp
        refine (HRB.out _ hz).mono ?_
        rintro e x7 ⟨A7, c7, rfl, hv7, hcx⟩
        have hv6 := hv6.chg hcx (fun _ _ h => h)
        have hz := hz.trans hcx
        refine hK.out _ _ hz (fun _ => ?_)
        clear hK K hcx
        try simp only [Act.put, List.setIfInBounds_toArray, List.set_cons_zero, List.set_cons_succ, List.getElem_toArray, List.getElem_cons_succ, List.getElem_cons_zero]
        refine wpAnyH_ready (rs := [26]) (by kernel_rfl) (by simp) ?_
        refine AllReadyH.cons rfl (fun K hK => ?_) AllReadyH.nil
        rw [if_pos (by rfl)]
        try simp only [List.getElem_toArray, List.getElem_cons_succ, List.getElem_cons_zero]
        go_simp
        refine (HSM.out _ _ _ _ _ hv6 hv7).mono ?_
        rintro e x8 ⟨rfl, hcx⟩
        have hz := hz.trans hcx
        refine hK.out _ _ hz (fun _ => ?_)
        clear hK K hcx
        try simp only [Act.put, List.setIfInBounds_toArray, List.set_cons_zero, List.set_cons_succ, List.getElem_toArray, List.getElem_cons_succ, List.getElem_cons_zero]
        refine wpAnyH_take (i := 27) (v := .bool false) rfl (by kernel_rfl) (by kernel_rfl) (by kernel_rfl) (by first | exact fun _ _ _ h => h | exact fun _ _ _ h => nomatch h.1) (Or.inl ⟨by rfl, fun w_ hw_ => by go_simp⟩) hz ?_
        try simp only [Act.put, List.setIfInBounds_toArray, List.set_cons_zero, List.set_cons_succ, List.getElem_toArray, List.getElem_cons_succ, List.getElem_cons_zero]
        refine wpAnyH_take (i := 28) (v := .bool false) rfl (by kernel_rfl) (by kernel_rfl) (by kernel_rfl) (by first | exact fun _ _ _ h => h | exact fun _ _ _ h => nomatch h.1) (Or.inl ⟨by rfl, fun w_ hw_ => by go_simp⟩) hz ?_
        try simp only [Act.put, List.setIfInBounds_toArray, List.set_cons_zero, List.set_cons_succ, List.getElem_toArray, List.getElem_cons_succ, List.getElem_cons_zero]
        refine wpAnyH_done (by kernel_rfl) ?_ _
        go_wp2
        go_roundw
        case rel => exact ⟨j + 1, l1, y1, L1, by go_num, by omega, HS6.out.quiet hz, HR6.out.quiet hz, HM6.out, HLL.out, HC6.out.trans hz⟩
        case measure => simp [intOf]; omega
      · have kne : (kd == 0) = false := by rw [beq_eq_false_iff_ne]; exact hkd
        have HA := Lib.hid (Forget_any g (g + 2) y 16 n l0 wr hqa (by decide))
        have HRA0 : Hid (∀ w1, RAt w1 (g + 2) (g + 1) L y → Calls Try.prog 16 #[.pointer (some ⟨g + 1, 0, none⟩), .int .u64 (n : Int)] w1 fun e w' => e = .returned (.int .i64 ((forgetN l0 y n : Nat) : Int)) ∧ (∃ L2, RAt w' (g + 2) (g + 1) L2 (forgetS l0 y n).2 ∧ Same_ (forgetS l0 y n).1 L2 ∧ L2.length ≤ L.length) ∧ Chg (· = g + 1) w1 w') := Lib.hid (fun w1 h1 => RForget_any (g + 1) (g + 2) y n 16 l0 L w1 h1 (by omega) hsm hqa.2)
        generalize forgetN l0 y n = fn at *
        generalize (forgetS l0 y n).1 = l1 at *
        generalize (forgetS l0 y n).2 = y1 at *
        clear hqa hqb hsm hc hbl hkd
        go_wp2_with (first | (go_at_call 14; refine HA.out.mono ?_; rintro e w5 ⟨rfl, hq, hc⟩; have HS5 := Lib.hid hq; have HR5 := Lib.hid (HQ2.out.chg hc (fun (e : g + 1 = g) => by omega) (fun b hb (e : b = g) => by omega)); have HC5 := Lib.hid (chg_own H0.out HC.out hc); clear hq hc a0 a1) | (go_at_call 16; refine (HRA0.out _ HR5.out).mono ?_; rintro e w6 ⟨rfl, ⟨L1, hr1, hm1, hL1⟩, hc⟩; have HR6 := Lib.hid hr1; have HM6 := Lib.hid hm1; have HS6 := Lib.hid (show SetG w6 (g + 2) g l1 y1 16 from ⟨HS5.out.1.chg hc (fun (e : g = g + 1) => by omega) (fun b hb (e : b = g + 1) => by omega), HS5.out.2⟩); have HC6 := Lib.hid (chg_own (by have := H0.out; omega) HC5.out hc); clear hr1 hm1 hc))
        clear HA HRA0 HS5 HR5 HC5 HQ1 HQ2 HSM0
        have hL1 : L1.length ≤ j + 1 := by omega
        have HLL := Lib.hid hL1
        have HHA : Hid (∀ w1, Chg none_ w6 w1 → Calls Try.prog 10 #[.pointer (some ⟨g, 0, none⟩), .int .u64 (n : Int)] w1 fun e w' => e = .returned (.bool (hasL l1 n)) ∧ Chg none_ w1 w') := Lib.hid (fun w1 h1 => Has_any g (g + 2) y1 16 n l1 w1 (HS6.out.quiet h1) (by decide))
        have HHB : Hid (∀ w1, Chg none_ w6 w1 → Calls Try.prog 17 #[.pointer (some ⟨g + 1, 0, none⟩), .int .u64 (n : Int)] w1 fun e w' => e = .returned (.bool (hasL l1 n)) ∧ Chg none_ w1 w') := Lib.hid (fun w1 h1 => (RHas_any (g + 1) (g + 2) y1 n L1 w1 (HR6.out.quiet h1) (by omega)).mono fun e w' ⟨a, b⟩ => ⟨by rw [a, HM6.out.has HS6.out.2], by rw [b]; exact Chg.refl _ _⟩)
        have HOA : Hid (∀ w1, Chg none_ w6 w1 → Calls Try.prog 11 #[.pointer (some ⟨g, 0, none⟩), .int .u64 (n : Int)] w1 fun e w' => e = .returned (.bool (decide (n < y1))) ∧ Chg none_ w1 w') := Lib.hid (fun w1 h1 => (Old_any g (g + 2) y1 l1 n w1 (HS6.out.quiet h1).1).mono fun e w' ⟨a, b⟩ => ⟨a, by rw [b]; exact Chg.refl _ _⟩)
        have HLO : Hid (∀ w1, Chg none_ w6 w1 → w1.cell? ⟨g + 1, 1, none⟩ = some (.int .u64 (y1 : Int))) := Lib.hid (fun w1 h1 => by
          obtain ⟨A9, c9, r9, _⟩ := HR6.out.quiet h1
          exact r9.cell 1)
        have HLA : Hid (∀ w1, Chg none_ w6 w1 → Calls Try.prog 13 #[.pointer (some ⟨g, 0, none⟩)] w1 fun e w' => e = .returned (.int .i64 (largestL l1)) ∧ Chg none_ w1 w') := Lib.hid (fun w1 h1 => (Largest_any g (g + 2) y1 l1 w1 (HS6.out.quiet h1).1 (fun r hr => (HS6.out.2.all r hr).2)).mono fun e w' ⟨a, b⟩ => ⟨a, by rw [b]; exact Chg.refl _ _⟩)
        have HLB : Hid (∀ w1, Chg none_ w6 w1 → Calls Try.prog 18 #[.pointer (some ⟨g + 1, 0, none⟩)] w1 fun e w' => e = .returned (.int .i64 (largestL l1)) ∧ Chg none_ w1 w') := Lib.hid (fun w1 h1 => (RLargest_any (g + 1) (g + 2) y1 L1 w1 (HR6.out.quiet h1) (by omega) (fun x hx => (HM6.out.le HS6.out.2 x hx).2)).mono fun e w' ⟨a, b⟩ => ⟨by rw [a, HM6.out.largest HS6.out.2], b⟩)
        have HRA : Hid (∀ w1, Chg none_ w6 w1 → Calls Try.prog 12 #[.pointer (some ⟨g, 0, none⟩)] w1 fun e w' => ∃ A3 cap3, e = .returned (.slice A3 l1.length cap3) ∧ View w' (fun _ => True) A3 (l1.length * 2) (rcells l1) ∧ Chg none_ w1 w') := Lib.hid (fun w1 h1 => (Ranges_any g (g + 2) y1 l1 w1 (HS6.out.quiet h1).1 (by have := HS6.out.2.len; omega)).mono fun e w' ⟨v, a, ho, hc⟩ => by
          obtain ⟨A3, cap3, rfl, _, _, hv⟩ := ho.view
          exact ⟨A3, cap3, a, hv.mono (fun _ _ _ => trivial), hc⟩)
        have HRB : Hid (∀ w1, Chg none_ w6 w1 → Calls Try.prog 20 #[.pointer (some ⟨g + 1, 0, none⟩)] w1 fun e w' => ∃ A3 cap3, e = .returned (.slice A3 l1.length cap3) ∧ View w' (fun _ => True) A3 (l1.length * 2) (rcells l1) ∧ Chg none_ w1 w') := Lib.hid (fun w1 h1 => (RRanges_any (g + 1) (g + 2) y1 L1 w1 (HR6.out.quiet h1) (by omega) (fun x hx => (HM6.out.le HS6.out.2 x hx).2)).mono fun e w' ⟨v, a, ho, hc⟩ => by
          rw [HM6.out.ranges HS6.out.2] at ho
          obtain ⟨A3, cap3, rfl, _, _, hv⟩ := ho.view
          exact ⟨A3, cap3, a, hv.mono (fun _ _ _ => trivial), hc⟩)
        have HSM : Hid (∀ w1 A3 B3 c3 d3, View w1 (fun _ => True) A3 (l1.length * 2) (rcells l1) → View w1 (fun _ => True) B3 (l1.length * 2) (rcells l1) → Calls Try.prog 19 #[.slice A3 l1.length c3, .slice B3 l1.length d3] w1 fun e w' => e = .returned (.bool true) ∧ Chg none_ w1 w') := Lib.hid (fun w1 A3 B3 c3 d3 h1 h2 => by
          have hro : ∀ r ∈ l1, ROk r := fun r hr => by
            have h1 := HS6.out.2.all r hr
            have h2 := HS6.out.2.sep.2 r hr
            unfold MX at h1
            exact ⟨by omega, by omega⟩
          have := Same_any l1 l1 A3 B3 c3 d3 _ _ w1 h1 h2 (by have := HS6.out.2.len; omega) hro hro
          rwa [decide_eq_true rfl] at this)
        generalize l1.length = n1 at *
        generalize hasL l1 n = hb at *
        generalize largestL l1 = lg at *
        clear hL1
        refine wp_region_held_drew (S := fun x => Chg none_ w6 x) (by kernel_rfl) ((Chg.refl none_ w6).drew) (fun hch0 => ?_)
        have hz : Chg none_ w6 w6.drew := (Chg.refl none_ w6).drew
        generalize w6.drew = wz at hz ⊢
        clear hch0
        refine wpAnyH_take (i := 0) (v := .bool true) rfl (by kernel_rfl) (by kernel_rfl) (by kernel_rfl) (by first | exact fun _ _ _ h => h | exact fun _ _ _ h => nomatch h.1) (Or.inl ⟨by rfl, fun w_ hw_ => by go_simp⟩) hz ?_
        try simp only [Act.put, List.setIfInBounds_toArray, List.set_cons_zero, List.set_cons_succ, List.getElem_toArray, List.getElem_cons_zero]
        refine wpAnyH_take (i := 1) (v := .bool false) rfl (by kernel_rfl) (by kernel_rfl) (by kernel_rfl) (by first | exact fun _ _ _ h => h | exact fun _ _ _ h => nomatch h.1) (Or.inl ⟨by rfl, fun w_ hw_ => by go_simp⟩) hz ?_
        try simp only [Act.put, List.setIfInBounds_toArray, List.set_cons_zero, List.set_cons_succ, List.getElem_toArray, List.getElem_cons_succ, List.getElem_cons_zero]
        refine wpAnyH_take (i := 2) (v := .bool false) rfl (by kernel_rfl) (by kernel_rfl) (by kernel_rfl) (by first | exact fun _ _ _ h => h | exact fun _ _ _ h => nomatch h.1) (Or.inl ⟨by rfl, fun w_ hw_ => by go_simp⟩) hz ?_
        try simp only [Act.put, List.setIfInBounds_toArray, List.set_cons_zero, List.set_cons_succ, List.getElem_toArray, List.getElem_cons_succ, List.getElem_cons_zero]
        refine wpAnyH_take (i := 3) (v := .int .u64 (n : Int)) rfl (by kernel_rfl) (by kernel_rfl) (by kernel_rfl) (by first | exact fun _ _ _ h => h | exact fun _ _ _ h => nomatch h.1) (Or.inl ⟨by rfl, fun w_ hw_ => by go_simp⟩) hz ?_
        try simp only [Act.put, List.setIfInBounds_toArray, List.set_cons_zero, List.set_cons_succ, List.getElem_toArray, List.getElem_cons_succ, List.getElem_cons_zero]
        refine wpAnyH_take (i := 5) (v := .int .u64 (n : Int)) rfl (by kernel_rfl) (by kernel_rfl) (by kernel_rfl) (by first | exact fun _ _ _ h => h | exact fun _ _ _ h => nomatch h.1) (Or.inl ⟨by rfl, fun w_ hw_ => by go_simp⟩) hz ?_
        try simp only [Act.put, List.setIfInBounds_toArray, List.set_cons_zero, List.set_cons_succ, List.getElem_toArray, List.getElem_cons_succ, List.getElem_cons_zero]
        refine wpAnyH_ready (rs := [4]) (by kernel_rfl) (by simp) ?_
        refine AllReadyH.cons rfl (fun K hK => ?_) AllReadyH.nil
        rw [if_pos (by rfl)]
        try simp only [List.getElem_toArray, List.getElem_cons_succ, List.getElem_cons_zero]
        go_simp
        refine (HHA.out _ hz).mono ?_
        rintro e x1 ⟨rfl, hcx⟩
        have hz := hz.trans hcx
        refine hK.out _ _ hz (fun _ => ?_)
        clear hK K hcx
        try simp only [Act.put, List.setIfInBounds_toArray, List.set_cons_zero, List.set_cons_succ, List.getElem_toArray, List.getElem_cons_succ, List.getElem_cons_zero]
        refine wpAnyH_ready (rs := [6]) (by kernel_rfl) (by simp) ?_
        refine AllReadyH.cons rfl (fun K hK => ?_) AllReadyH.nil
        rw [if_pos (by rfl)]
        try simp only [List.getElem_toArray, List.getElem_cons_succ, List.getElem_cons_zero]
        go_simp
        refine (HHB.out _ hz).mono ?_
        rintro e x2 ⟨rfl, hcx⟩
        have hz := hz.trans hcx
        refine hK.out _ _ hz (fun _ => ?_)
        clear hK K hcx
        try simp only [Act.put, List.setIfInBounds_toArray, List.set_cons_zero, List.set_cons_succ, List.getElem_toArray, List.getElem_cons_succ, List.getElem_cons_zero]
        refine wpAnyH_take (i := 7) (v := .bool false) rfl (by kernel_rfl) (by kernel_rfl) (by kernel_rfl) (by first | exact fun _ _ _ h => h | exact fun _ _ _ h => nomatch h.1) (Or.inl ⟨by rfl, fun w_ hw_ => by go_simp⟩) hz ?_
        try simp only [Act.put, List.setIfInBounds_toArray, List.set_cons_zero, List.set_cons_succ, List.getElem_toArray, List.getElem_cons_succ, List.getElem_cons_zero]
        refine wpAnyH_take (i := 8) (v := .bool false) rfl (by kernel_rfl) (by kernel_rfl) (by kernel_rfl) (by first | exact fun _ _ _ h => h | exact fun _ _ _ h => nomatch h.1) (Or.inl ⟨by rfl, fun w_ hw_ => by go_simp⟩) hz ?_
        try simp only [Act.put, List.setIfInBounds_toArray, List.set_cons_zero, List.set_cons_succ, List.getElem_toArray, List.getElem_cons_succ, List.getElem_cons_zero]
        refine wpAnyH_take (i := 9) (v := .bool false) rfl (by kernel_rfl) (by kernel_rfl) (by kernel_rfl) (by first | exact fun _ _ _ h => h | exact fun _ _ _ h => nomatch h.1) (Or.inl ⟨by rfl, fun w_ hw_ => by go_simp⟩) hz ?_
        try simp only [Act.put, List.setIfInBounds_toArray, List.set_cons_zero, List.set_cons_succ, List.getElem_toArray, List.getElem_cons_succ, List.getElem_cons_zero]
        refine wpAnyH_take (i := 10) (v := .int .u64 (n : Int)) rfl (by kernel_rfl) (by kernel_rfl) (by kernel_rfl) (by first | exact fun _ _ _ h => h | exact fun _ _ _ h => nomatch h.1) (Or.inl ⟨by rfl, fun w_ hw_ => by go_simp⟩) hz ?_
        try simp only [Act.put, List.setIfInBounds_toArray, List.set_cons_zero, List.set_cons_succ, List.getElem_toArray, List.getElem_cons_succ, List.getElem_cons_zero]
        refine wpAnyH_take (i := 12) (v := .int .u64 (n : Int)) rfl (by kernel_rfl) (by kernel_rfl) (by kernel_rfl) (by first | exact fun _ _ _ h => h | exact fun _ _ _ h => nomatch h.1) (Or.inl ⟨by rfl, fun w_ hw_ => by go_simp⟩) hz ?_
        try simp only [Act.put, List.setIfInBounds_toArray, List.set_cons_zero, List.set_cons_succ, List.getElem_toArray, List.getElem_cons_succ, List.getElem_cons_zero]
        refine wpAnyH_take (i := 13) (v := .pointer (some ⟨g + 1, 1, none⟩)) rfl (by kernel_rfl) (by kernel_rfl) (by kernel_rfl) (by first | exact fun _ _ _ h => h | exact fun _ _ _ h => nomatch h.1) (Or.inl ⟨by rfl, fun w_ hw_ => by go_simp⟩) hz ?_
        try simp only [Act.put, List.setIfInBounds_toArray, List.set_cons_zero, List.set_cons_succ, List.getElem_toArray, List.getElem_cons_succ, List.getElem_cons_zero]
        refine wpAnyH_take (i := 14) (v := .int .u64 (y1 : Int)) rfl (by kernel_rfl) (by kernel_rfl) (by kernel_rfl) (by first | exact fun _ _ _ h => h | exact fun _ _ _ h => nomatch h.1) (Or.inl ⟨by rfl, fun w_ hw_ => by have q_ := HLO.out w_ hw_; go_simp⟩) hz ?_
        try simp only [Act.put, List.setIfInBounds_toArray, List.set_cons_zero, List.set_cons_succ, List.getElem_toArray, List.getElem_cons_succ, List.getElem_cons_zero]
        refine wpAnyH_take (i := 15) (v := .bool (decide (n < y1))) rfl (by kernel_rfl) (by kernel_rfl) (by kernel_rfl) (by first | exact fun _ _ _ h => h | exact fun _ _ _ h => nomatch h.1) (Or.inl ⟨by rfl, fun w_ hw_ => by go_simp⟩) hz ?_
        try simp only [Act.put, List.setIfInBounds_toArray, List.set_cons_zero, List.set_cons_succ, List.getElem_toArray, List.getElem_cons_succ, List.getElem_cons_zero]
        refine wpAnyH_ready (rs := [11]) (by kernel_rfl) (by simp) ?_
        refine AllReadyH.cons rfl (fun K hK => ?_) AllReadyH.nil
        rw [if_pos (by rfl)]
        try simp only [List.getElem_toArray, List.getElem_cons_succ, List.getElem_cons_zero]
        go_simp
        refine (HOA.out _ hz).mono ?_
        rintro e x3 ⟨rfl, hcx⟩
        have hz := hz.trans hcx
        refine hK.out _ _ hz (fun _ => ?_)
        clear hK K hcx
        try simp only [Act.put, List.setIfInBounds_toArray, List.set_cons_zero, List.set_cons_succ, List.getElem_toArray, List.getElem_cons_succ, List.getElem_cons_zero]
        refine wpAnyH_take (i := 16) (v := .bool false) rfl (by kernel_rfl) (by kernel_rfl) (by kernel_rfl) (by first | exact fun _ _ _ h => h | exact fun _ _ _ h => nomatch h.1) (Or.inl ⟨by rfl, fun w_ hw_ => by go_simp⟩) hz ?_
        try simp only [Act.put, List.setIfInBounds_toArray, List.set_cons_zero, List.set_cons_succ, List.getElem_toArray, List.getElem_cons_succ, List.getElem_cons_zero]
        refine wpAnyH_take (i := 17) (v := .bool false) rfl (by kernel_rfl) (by kernel_rfl) (by kernel_rfl) (by first | exact fun _ _ _ h => h | exact fun _ _ _ h => nomatch h.1) (Or.inl ⟨by rfl, fun w_ hw_ => by go_simp⟩) hz ?_
        try simp only [Act.put, List.setIfInBounds_toArray, List.set_cons_zero, List.set_cons_succ, List.getElem_toArray, List.getElem_cons_succ, List.getElem_cons_zero]
        refine wpAnyH_take (i := 18) (v := .bool false) rfl (by kernel_rfl) (by kernel_rfl) (by kernel_rfl) (by first | exact fun _ _ _ h => h | exact fun _ _ _ h => nomatch h.1) (Or.inl ⟨by rfl, fun w_ hw_ => by go_simp⟩) hz ?_
        try simp only [Act.put, List.setIfInBounds_toArray, List.set_cons_zero, List.set_cons_succ, List.getElem_toArray, List.getElem_cons_succ, List.getElem_cons_zero]
        refine wpAnyH_ready (rs := [19]) (by kernel_rfl) (by simp) ?_
        refine AllReadyH.cons rfl (fun K hK => ?_) AllReadyH.nil
        rw [if_pos (by rfl)]
        try simp only [List.getElem_toArray, List.getElem_cons_succ, List.getElem_cons_zero]
        go_simp
        refine (HLA.out _ hz).mono ?_
        rintro e x4 ⟨rfl, hcx⟩
        have hz := hz.trans hcx
        refine hK.out _ _ hz (fun _ => ?_)
        clear hK K hcx
        try simp only [Act.put, List.setIfInBounds_toArray, List.set_cons_zero, List.set_cons_succ, List.getElem_toArray, List.getElem_cons_succ, List.getElem_cons_zero]
        refine wpAnyH_ready (rs := [20]) (by kernel_rfl) (by simp) ?_
        refine AllReadyH.cons rfl (fun K hK => ?_) AllReadyH.nil
        rw [if_pos (by rfl)]
        try simp only [List.getElem_toArray, List.getElem_cons_succ, List.getElem_cons_zero]
        go_simp
        refine (HLB.out _ hz).mono ?_
        rintro e x5 ⟨rfl, hcx⟩
        have hz := hz.trans hcx
        refine hK.out _ _ hz (fun _ => ?_)
        clear hK K hcx
        try simp only [Act.put, List.setIfInBounds_toArray, List.set_cons_zero, List.set_cons_succ, List.getElem_toArray, List.getElem_cons_succ, List.getElem_cons_zero]
        refine wpAnyH_take (i := 21) (v := .bool false) rfl (by kernel_rfl) (by kernel_rfl) (by kernel_rfl) (by first | exact fun _ _ _ h => h | exact fun _ _ _ h => nomatch h.1) (Or.inl ⟨by rfl, fun w_ hw_ => by go_simp⟩) hz ?_
        try simp only [Act.put, List.setIfInBounds_toArray, List.set_cons_zero, List.set_cons_succ, List.getElem_toArray, List.getElem_cons_succ, List.getElem_cons_zero]
        refine wpAnyH_take (i := 22) (v := .bool false) rfl (by kernel_rfl) (by kernel_rfl) (by kernel_rfl) (by first | exact fun _ _ _ h => h | exact fun _ _ _ h => nomatch h.1) (Or.inl ⟨by rfl, fun w_ hw_ => by go_simp⟩) hz ?_
        try simp only [Act.put, List.setIfInBounds_toArray, List.set_cons_zero, List.set_cons_succ, List.getElem_toArray, List.getElem_cons_succ, List.getElem_cons_zero]
        refine wpAnyH_take (i := 23) (v := .bool false) rfl (by kernel_rfl) (by kernel_rfl) (by kernel_rfl) (by first | exact fun _ _ _ h => h | exact fun _ _ _ h => nomatch h.1) (Or.inl ⟨by rfl, fun w_ hw_ => by go_simp⟩) hz ?_
        try simp only [Act.put, List.setIfInBounds_toArray, List.set_cons_zero, List.set_cons_succ, List.getElem_toArray, List.getElem_cons_succ, List.getElem_cons_zero]
        refine wpAnyH_ready (rs := [24]) (by kernel_rfl) (by simp) ?_
        refine AllReadyH.cons rfl (fun K hK => ?_) AllReadyH.nil
        rw [if_pos (by rfl)]
        try simp only [List.getElem_toArray, List.getElem_cons_succ, List.getElem_cons_zero]
        go_simp
        refine (HRA.out _ hz).mono ?_
        rintro e x6 ⟨A6, c6, rfl, hv6, hcx⟩
        have hz := hz.trans hcx
        refine hK.out _ _ hz (fun _ => ?_)
        clear hK K hcx
        try simp only [Act.put, List.setIfInBounds_toArray, List.set_cons_zero, List.set_cons_succ, List.getElem_toArray, List.getElem_cons_succ, List.getElem_cons_zero]
        refine wpAnyH_ready (rs := [25]) (by kernel_rfl) (by simp) ?_
        refine AllReadyH.cons rfl (fun K hK => ?_) AllReadyH.nil
        rw [if_pos (by rfl)]
        try simp only [List.getElem_toArray, List.getElem_cons_succ, List.getElem_cons_zero]
        go_simp
        refine (HRB.out _ hz).mono ?_
        rintro e x7 ⟨A7, c7, rfl, hv7, hcx⟩
        have hv6 := hv6.chg hcx (fun _ _ h => h)
        have hz := hz.trans hcx
        refine hK.out _ _ hz (fun _ => ?_)
        clear hK K hcx
        try simp only [Act.put, List.setIfInBounds_toArray, List.set_cons_zero, List.set_cons_succ, List.getElem_toArray, List.getElem_cons_succ, List.getElem_cons_zero]
        refine wpAnyH_ready (rs := [26]) (by kernel_rfl) (by simp) ?_
        refine AllReadyH.cons rfl (fun K hK => ?_) AllReadyH.nil
        rw [if_pos (by rfl)]
        try simp only [List.getElem_toArray, List.getElem_cons_succ, List.getElem_cons_zero]
        go_simp
        refine (HSM.out _ _ _ _ _ hv6 hv7).mono ?_
        rintro e x8 ⟨rfl, hcx⟩
        have hz := hz.trans hcx
        refine hK.out _ _ hz (fun _ => ?_)
        clear hK K hcx
        try simp only [Act.put, List.setIfInBounds_toArray, List.set_cons_zero, List.set_cons_succ, List.getElem_toArray, List.getElem_cons_succ, List.getElem_cons_zero]
        refine wpAnyH_take (i := 27) (v := .bool false) rfl (by kernel_rfl) (by kernel_rfl) (by kernel_rfl) (by first | exact fun _ _ _ h => h | exact fun _ _ _ h => nomatch h.1) (Or.inl ⟨by rfl, fun w_ hw_ => by go_simp⟩) hz ?_
        try simp only [Act.put, List.setIfInBounds_toArray, List.set_cons_zero, List.set_cons_succ, List.getElem_toArray, List.getElem_cons_succ, List.getElem_cons_zero]
        refine wpAnyH_take (i := 28) (v := .bool false) rfl (by kernel_rfl) (by kernel_rfl) (by kernel_rfl) (by first | exact fun _ _ _ h => h | exact fun _ _ _ h => nomatch h.1) (Or.inl ⟨by rfl, fun w_ hw_ => by go_simp⟩) hz ?_
        try simp only [Act.put, List.setIfInBounds_toArray, List.set_cons_zero, List.set_cons_succ, List.getElem_toArray, List.getElem_cons_succ, List.getElem_cons_zero]
        refine wpAnyH_done (by kernel_rfl) ?_ _
        go_wp2
        go_roundw
        case rel => exact ⟨j + 1, l1, y1, L1, by go_num, by omega, HS6.out.quiet hz, HR6.out.quiet hz, HM6.out, HLL.out, HC6.out.trans hz⟩
        case measure => simp [intOf]; omega
    · have d0 : ¬ (j : Int) < (l.length : Int) := by omega
      clear hqa hqb hsm hc hlt hj
      go_wp2
      go_ret
      exact ⟨rfl, HC.out⟩
end Go.Proofs.Ytlakhfbhbebojaa
