/- Layer 9 (gcm): products by lists of bits, the document's. -/
import Derived.Test.YtidafbpiipjnlaaDoorV9RList
import Derived.Test.YtidafbpiipjnlaaDoorV9Conv
namespace Go.Proofs.YtidafbpiipjnlaaDoor
open Go.RowKit

section
variable {P : Program} {ops : Array Oper} {rest : List Oper} {o : Oper} {a : Act} {w : World} {Q : Exit → Act → World → Prop}
/-- make of ints: a row of zeros. -/
theorem wpList_make_ints (hg : o.guard = none) (l c : Operand) (t : TypeId) (hop : o.op = Op.makeSlice t l c)
    (e : TypeId) (ht : P.underlying t = some (.slice e)) (hinfo : (P.info? e).map (fun i => (i.zero, i.size, i.bytes)) = some (some (.int .i64 0), 1, 8))
    (n : Nat) (hl : a.eval l = .int .i64 (n : Int)) (hc : a.eval c = .int .i64 (n : Int)) (hn : n ≤ 1000000)
    (k : ∀ w', Row w' w.heap.size e (i64s (List.replicate n 0)) → Chg none_ w w' → wpList P ops Q rest (a.put o.dst (.slice (some ⟨w.heap.size, 0, none⟩) n n)) w') :
    wpList P ops Q (o :: rest) a w := by
  refine wpList_plain hg fun K hK' => ?_
  have hrun := run_make_row' (P := P) t e (.int .i64 0) 8 ht hinfo rfl .i64 .i64 n (by omega) (by omega) w
  unfold Oper.wp
  simp [execOp, hop, hl, hc, hrun, Result.andThen]
  refine hK' _ _ (k _ ?_ ((Chg.refl _ _).alloc _))
  have := Row.new w e (i64s (List.replicate n 0))
  have e2 : (i64s (List.replicate n 0)).toArray = madeCells #[.int .i64 0] n := by
    apply Array.toList_inj.1
    rw [toList_madeCells_one]
    simp [i64s]
  rw [e2] at this
  exact this
end
theorem View.iat {w : World} {T : Nat → Prop} {A : Option Addr} {n i : Nat} {l : List Nat} (h : View w T A n (i64s l)) (hi : i < n) :
    ∃ b o, A = some ⟨b, o, none⟩ ∧ b < w.heap.size ∧ T b ∧ w.cell? ⟨b, o + i, none⟩ = some (.int .i64 ((l.getD i 0 : Nat) : Int)) := by
  obtain ⟨b, o, ha, hb, ht, hc⟩ := h.2 (by omega)
  have hl : i < l.length := by have := h.1; simp at this; omega
  exact ⟨b, o, ha, hb, ht, by rw [hc i hi, i64s_get]; simp [hl, List.getD]⟩
theorem Row.i64 {w : World} {g : Nat} {e : TypeId} {l : List Nat} (h : Row w g e (i64s l)) {i : Nat} (hi : i < l.length) : w.cell? ⟨g, i, none⟩ = some (.int .i64 ((l.getD i 0 : Nat) : Int)) := by
  rw [h.cell, i64s_get, List.getElem?_eq_getElem hi, List.getD_eq_getElem?_getD, List.getElem?_eq_getElem hi]
  rfl
/-- A product's first part: p[i + k] ^ y[k]. -/
theorem i64_bits (x y : Nat) (hx : x < 2) (hy : y < 2) : bits .xor .i64 (x : Int) (y : Int) = ((x ^^^ y : Nat) : Int) := by
  rcases (by omega : x = 0 ∨ x = 1) with rfl | rfl <;> rcases (by omega : y = 0 ∨ y = 1) with rfl | rfl <;> decide +kernel

set_option maxRecDepth 100000 in
set_option maxHeartbeats 8000000 in
theorem rtimes_any9 (a b : List Nat) (w : World) (ha : a.length = 16) (hab : ∀ x ∈ a, x < 256) (hb : b.length = 16) (hbb : ∀ x ∈ b, x < 256) : Calls Tryd.prog 72 #[.agg (u8s a).toArray, .agg (u8s b).toArray] w fun e w' => e = .returned (.agg (u8s (bpol (gM (polB b) (polB a)))).toArray) ∧ Chg none_ w w' := by
  have HAL := Lib.hid ha
  have HBL := Lib.hid hb
  have hview : ∀ (c : List Nat), c.length = 16 → (∀ x ∈ c, x < 256) → ∀ w', Calls Tryd.prog 87 #[.agg (u8s c).toArray] w' fun e w'' => ∃ A k, e = .returned (.slice A 128 k) ∧ View w'' (fun z => z < w''.heap.size) A 128 (i64s (bitsL (polB c) 128)) ∧ Chg none_ w' w'' := fun c hc hcb w' => by
    refine (rlist_any c w' hc hcb).mono ?_
    rintro e w'' ⟨v, rfl, ho, hc2⟩
    obtain ⟨A, k, rfl, _, _, h3⟩ := View.own ho (T := fun z => w'.heap.size ≤ z) (fun _ h => h)
    rw [bitsL_len] at h3 ⊢
    exact ⟨A, k, rfl, h3.mono (fun z hz _ => hz), hc2⟩
  have HLA := Lib.hid (hview a ha hab)
  have HLB := Lib.hid (hview b hb hbb)
  have hy := polB_lt b
  have hx := polB_lt a
  clear hview hab hbb ha hb
  generalize polB a = X at HLA hx ⊢
  generalize polB b = Y at HLB hy ⊢
  have HY := Lib.hid hy
  go_enter Tryd.func72, Tryd.ntmps72
  go_wp2_with (first | ((with_reducible show wpList _ _ _ (⟨some 2, .box 26 _, _, _, _, _⟩ :: _) _ _); refine wpList_box_Row rfl rfl (u8s a) rfl ?_; intro w1 hr1 hc1 hs1; have HR1 := Lib.hid hr1; have HC1 := Lib.hid hc1; clear hr1 hc1 hs1) | ((with_reducible show wpList _ _ _ (⟨some 3, .box 26 _, _, _, _, _⟩ :: _) _ _); refine wpList_box_Row rfl rfl (u8s b) rfl ?_; intro w2 hr2 hc2 hs2; have HR2 := Lib.hid hr2; have HC2 := Lib.hid (HC1.out.trans hc2); have HR1b := Lib.hid (HR1.out.chg hc2 (fun h => h)); clear hr2 hc2 hs2) | ((with_reducible show wpList _ _ _ (⟨some 4, .alloc 26, _, _, _, _⟩ :: _) _ _); refine wpList_alloc_Row rfl rfl (u8s (List.replicate 16 0)) zero22 ?_; intro w3 hr3 hc3 hs3; have HR3 := Lib.hid hr3; have HC3 := Lib.hid (HC2.out.trans hc3); have HRA := Lib.hid (HR1b.out.chg hc3 (fun h => h)); have HRB := Lib.hid (HR2.out.chg hc3 (fun h => h)); clear hr3 hc3 hs3))
  have HG1 := Lib.hid (show w.heap.size < w1.heap.size from HR1.out.lt)
  have HG2 := Lib.hid (show w1.heap.size < w2.heap.size from HR2.out.lt)
  clear HR1 HR1b HR2 HC1 HC2
  refine wp_region_held_drew (S := fun w' => Chg none_ w3 w') (by kernel_rfl) ((Chg.refl none_ w3).drew) (fun hch0 => ?_)
  generalize w3.drew = wd at hch0 ⊢
  refine wpAnyH_take (i := 0) (v := .agg (u8s a).toArray) rfl (by kernel_rfl) (by kernel_rfl) (by kernel_rfl) (by first | exact fun _ _ _ h => h | exact fun _ _ _ h => nomatch h.1) (yieldsIf_load_mid (by rfl) 26 _ rfl w.heap.size 0 rfl (u8s a) _ (fun w' hw' => (HRA.out.chg hw' (fun h => h)).range) Tryd.underlying26 rfl (by rw [u8s_length, HAL.out]; exact size22)) hch0 ?_
  refine wpAnyH_take (i := 2) (v := .agg (u8s b).toArray) rfl (by kernel_rfl) (by kernel_rfl) (by kernel_rfl) (by first | exact fun _ _ _ h => h | exact fun _ _ _ h => nomatch h.1) (yieldsIf_load_mid (by rfl) 26 _ rfl w1.heap.size 0 rfl (u8s b) _ (fun w' hw' => (HRB.out.chg hw' (fun h => h)).range) Tryd.underlying26 rfl (by rw [u8s_length, HBL.out]; exact size22)) hch0 ?_
  try simp only [Act.put, List.setIfInBounds_toArray, List.set_cons_zero, List.set_cons_succ, List.getElem_toArray, List.getElem_cons_succ, List.getElem_cons_zero]
  refine wpAnyH_ready (rs := [1]) (by kernel_rfl) (by simp) ?_
  refine AllReadyH.cons rfl (fun K hK => ?_) AllReadyH.nil
  rw [if_pos (by rfl)]
  try simp only [List.getElem_toArray, List.getElem_cons_succ, List.getElem_cons_zero]
  go_simp
  refine (HLA.out _).mono ?_
  rintro e x1 ⟨A1, k1, rfl, hv1, hx1⟩
  have hch1 : Chg none_ w3 x1 := hch0.trans hx1
  refine hK.out _ _ (hch1) (fun _ => ?_)
  clear hK K
  try simp only [Act.put, List.setIfInBounds_toArray, List.set_cons_zero, List.set_cons_succ, List.getElem_toArray, List.getElem_cons_succ, List.getElem_cons_zero]
  refine wpAnyH_ready (rs := [3]) (by kernel_rfl) (by simp) ?_
  refine AllReadyH.cons rfl (fun K hK => ?_) AllReadyH.nil
  rw [if_pos (by rfl)]
  try simp only [List.getElem_toArray, List.getElem_cons_succ, List.getElem_cons_zero]
  go_simp
  refine (HLB.out _).mono ?_
  rintro e x2 ⟨A2, k2, rfl, hv2, hx2⟩
  have hch2 : Chg none_ w3 x2 := hch1.trans hx2
  have hv1b := hv1.chg hx2 (fun _ _ h => h)
  refine hK.out _ _ (hch2) (fun _ => ?_)
  clear hK K
  try simp only [Act.put, List.setIfInBounds_toArray, List.set_cons_zero, List.set_cons_succ, List.getElem_toArray, List.getElem_cons_succ, List.getElem_cons_zero]
  refine wpAnyH_take (i := 4) (v := .slice A1 128 k1) rfl (by kernel_rfl) (by kernel_rfl) (by kernel_rfl) (by first | exact fun _ _ _ h => h | exact fun _ _ _ h => nomatch h.1) (Or.inl ⟨by rfl, fun w_ hw_ => by go_simp⟩) hch2 ?_
  refine wpAnyH_take (i := 5) (v := .slice A2 128 k2) rfl (by kernel_rfl) (by kernel_rfl) (by kernel_rfl) (by first | exact fun _ _ _ h => h | exact fun _ _ _ h => nomatch h.1) (Or.inl ⟨by rfl, fun w_ hw_ => by go_simp⟩) hch2 ?_
  try simp only [Act.put, List.setIfInBounds_toArray, List.set_cons_zero, List.set_cons_succ, List.getElem_toArray, List.getElem_cons_succ, List.getElem_cons_zero]
  refine wpAnyH_done (by kernel_rfl) ?_ _
  have HC4 := Lib.hid (HC3.out.trans hch2)
  have HRR4 := Lib.hid (HR3.out.chg hch2 (fun h => h))
  have HV1a := Lib.hid (hv1b.mono (T' := fun z => z < x2.heap.size) (fun z hz h => Nat.lt_of_lt_of_le h hx2.size))
  have HV2a := Lib.hid hv2
  clear hch0 hch1 hch2 hv1 hv1b hv2 hx1 hx2 HRA HRB HR3 HC3
  go_wp2_with (at_make; refine wpList_make_ints rfl _ _ _ rfl 3 Tryd.underlying133 info3 255 rfl rfl (by decide) ?_; intro w5 hr5 hc5; have HR5 := Lib.hid hr5; have HC5 := Lib.hid (HC4.out.trans hc5); have HRR5 := Lib.hid (HRR4.out.chg hc5 (fun h => h)); have HV1 := Lib.hid (HV1a.out.chg hc5 (fun _ _ h => h)); have HV2 := Lib.hid (HV2a.out.chg hc5 (fun _ _ h => h)); clear hr5 hc5)
  have HG3 := Lib.hid (show w2.heap.size < x2.heap.size from HRR4.out.lt)
  clear HRR4 HV1a HV2a
  -- p by all factors
  go_loopw [8, 9] (fun i _ wr => ∃ k : Nat, k ≤ 128 ∧ i = .int .i64 k ∧ Row wr x2.heap.size 3 (i64s (bitsL (clS X Y k) 255)) ∧ Chg (· = x2.heap.size) w5 wr) (fun i _ _ => 128 - (intOf i).toNat)
  case atStart => exact ⟨0, Nat.zero_le _, rfl, by rw [clS, bitsL_zero]; exact HR5.out, Chg.refl _ _⟩
  case round =>
    obtain ⟨i, hi, rfl, hrow, hch⟩ := hrel
    by_cases hlt : i < 128
    · have HLT := Lib.hid hlt
      have HROW0 := Lib.hid hrow
      have HC0 := Lib.hid hch
      obtain ⟨b1, o1, hA1, hb1, hbx1, cx⟩ := (HV1.out.chg hch (fun b hb e => by omega)).iat hlt
      rw [bitsL_get _ _ _ hlt] at cx
      have hxa := hA1
      subst hA1
      have hi0 : (0 : Int) ≤ (i : Int) := by omega
      have hi1 : (i : Int) < 128 := by omega
      clear hrow hch hi hlt cx hb1 hxa
      obtain ⟨wA, hwA⟩ : ∃ z, z = wr := ⟨_, rfl⟩
      rw [← hwA] at HROW0 HC0 ⊢
      clear hwA
      go_wp2
      go_loopw [9] (fun j wr => ∃ k : Nat, k ≤ 128 ∧ j = .int .i64 k ∧ (k = 0 ∨ X.testBit i = true) ∧ Row wr x2.heap.size 3 (i64s (bitsL (clP X Y i k) 255)) ∧ Chg (· = x2.heap.size) w5 wr) (fun j _ => 128 - (intOf j).toNat)
      case atStart => exact ⟨0, Nat.zero_le _, rfl, .inl rfl, by rw [clP_0]; exact HROW0.out, HC0.out⟩
      case round =>
        obtain ⟨k, hk, rfl, hor, hrow, hch⟩ := hrel
        have HC := Lib.hid hch
        have cx : wr.cell? ⟨b1, o1 + i, none⟩ = some (.int .i64 ((b01 (X.testBit i) : Nat) : Int)) := by
          obtain ⟨b', o', e, _, _, c⟩ := (HV1.out.chg hch (fun b hb e => by omega)).iat HLT.out
          injection e with e
          injection e with e1 e2
          subst e1; subst e2
          rwa [bitsL_get _ _ _ HLT.out] at c
        by_cases hlt : k < 128
        · cases hb : X.testBit i
          · -- no such factor
            rw [hb] at cx
            have hk0 : k = 0 := by
              rcases hor with h | h
              · exact h
              · rw [hb] at h; cases h
            subst hk0
            have HE : Hid (bitsL (clP X Y i 0) 255 = bitsL (clS X Y (i + 1)) 255) := Lib.hid (by rw [clP_none X Y i 0 hb])
            rw [HE.out] at hrow
            have HROW := Lib.hid hrow
            have cx2 : wr.cell? ⟨b1, o1 + i, none⟩ = some (.int .i64 0) := cx
            clear hrow hch cx hor hk hb hlt
            go_wp2
            go_roundw
            case rel => exact ⟨i + 1, by have := HLT.out; omega, by go_num, HROW.out, HC.out⟩
            case measure => have := HLT.out; simp [intOf]; omega
          · rw [hb] at cx
            have cx2 : wr.cell? ⟨b1, o1 + i, none⟩ = some (.int .i64 1) := cx
            have HBT := Lib.hid hb
            obtain ⟨b2, o2, hA2, _, hbx2, cy⟩ := (HV2.out.chg hch (fun b hb e => by omega)).iat hlt
            rw [bitsL_get _ _ _ hlt] at cy
            have HSUC : Hid ((bitsL (clP X Y i k) 255).set (i + k) (b01 ((clP X Y i k).testBit (i + k)) ^^^ b01 (Y.testBit k)) = bitsL (clP X Y i (k + 1)) 255) := Lib.hid (by rw [bitsL_set, clP_succ X Y i k hb])
            have hik : i + k < 255 := by have := HLT.out; omega
            have cp := Row.i64 hrow (i := i + k) (by rw [bitsL_len]; exact hik)
            rw [bitsL_get _ _ _ hik] at cp
            have fp := hrow.frozen (i + k)
            have HXV := Lib.hid (i64_bits (b01 ((clP X Y i k).testBit (i + k))) (b01 (Y.testBit k)) (b01_lt _) (b01_lt _))
            have HSET := Lib.hid (hrow.set (i + k) (.int .i64 ((b01 ((clP X Y i k).testBit (i + k)) ^^^ b01 (Y.testBit k) : Nat) : Int)))
            generalize b01 ((clP X Y i k).testBit (i + k)) = p at cp HSUC HXV HSET
            generalize b01 (Y.testBit k) = q at cy HSUC HXV HSET
            have q0 : (0 : Int) ≤ (k : Int) := by omega
            have q1 : (k : Int) < 128 := by omega
            have q2 : (0 : Int) ≤ (i : Int) + (k : Int) := by omega
            have q3 : (i : Int) + (k : Int) < 255 := by omega
            have HLK := Lib.hid hlt
            subst hA2
            clear hrow hch cx hor hk hb hlt hik
            go_wp2
            go_region
            go_wp2
            go_roundw
            case rel => exact ⟨k + 1, by have := HLK.out; omega, by go_num, (by first | exact Or.inr HBT.out | exact Or.inr trivial), by rw [HXV.out, ← HSUC.out, ← i64s_set]; exact HSET.out, (by first | exact (HC.out.setCell (fun _ => rfl) _).drew | exact (HC.out.drew.setCell (fun _ => rfl) _).drew)⟩
            case measure => have := HLK.out; simp [intOf]; omega
        · have hk8 : k = 128 := by omega
          subst hk8
          have HE : Hid (bitsL (clP X Y i 128) 255 = bitsL (clS X Y (i + 1)) 255) := Lib.hid (by rw [clP_all X Y i HY.out])
          rw [HE.out] at hrow
          have HROW := Lib.hid hrow
          clear hrow hch cx hor hk hlt
          go_wp2
          go_roundw
          case rel => exact ⟨i + 1, by have := HLT.out; omega, by go_num, HROW.out, HC.out⟩
          case measure => have := HLT.out; simp [intOf]; omega
    · have hi8 : i = 128 := by omega
      subst hi8
      have HROW := Lib.hid hrow
      have HC := Lib.hid hch
      clear hrow hch hi hlt
      obtain ⟨wB, hwB⟩ : ∃ z, z = wr := ⟨_, rfl⟩
      rw [← hwB] at HROW HC ⊢
      clear hwB
      go_wp2
      go_loopw [10] (fun t wr => ∃ n : Nat, n ≤ 127 ∧ t = .int .i64 (((254 - n : Nat) : Nat) : Int) ∧ Row wr x2.heap.size 3 (i64s (bitsL (rdS (clS X Y 128) n) 255)) ∧ Chg (· = x2.heap.size) w5 wr) (fun t _ => (intOf t).toNat)
      case atStart => exact ⟨0, Nat.zero_le _, rfl, HROW.out, HC.out⟩
      case round =>
        obtain ⟨n, hn, rfl, hrow, hch⟩ := hrel
        obtain ⟨i, hi⟩ : ∃ i, i = 254 - n := ⟨_, rfl⟩
        have HC3 := Lib.hid hch
        rw [← hi]
        by_cases hlt : n < 127
        · obtain ⟨j, hj⟩ : ∃ j, j = i - 128 := ⟨_, rfl⟩
          have hRS : rdS (clS X Y 128) (n + 1) = rd1 (rdS (clS X Y 128) n) i := by rw [rdS, hi]
          have ci := Row.i64 hrow (i := i) (by rw [bitsL_len]; omega)
          rw [bitsL_get _ _ _ (by omega)] at ci
          have hrd := bitsL_rd (rdS (clS X Y 128) n) i j (by omega)
          have hrn := rd1_none (rdS (clS X Y 128) n) i
          have hi2 : (((254 - (n + 1) : Nat) : Nat) : Int) = (i : Int) - 1 := by omega
          have HI2 := Lib.hid hi2
          have HN := Lib.hid hn
          have HLT := Lib.hid hlt
          have HIN : Hid (254 - (n + 1) < i) := Lib.hid (by omega)
          have q0 : (128 : Int) ≤ (i : Int) := by omega
          have q1 : (i : Int) < 255 := by omega
          have q2 : (0 : Int) ≤ (i : Int) := by omega
          have hi128 : 128 ≤ i := by omega
          have hi255 : i < 255 := by omega
          clear hch hi2
          obtain ⟨P2, hP2⟩ : ∃ P2, P2 = rdS (clS X Y 128) (n + 1) := ⟨_, rfl⟩
          rw [← hRS, ← hP2] at hrd hrn
          have HP2 := Lib.hid hP2
          clear hP2
          generalize rdS (clS X Y 128) n = P at hrow ci hrd hrn
          cases hb : P.testBit i
          · rw [hb] at ci
            have ci2 : wr.cell? ⟨x2.heap.size, i, none⟩ = some (.int .i64 0) := ci
            rw [← hrn hb] at hrow
            have HROW3 := Lib.hid hrow
            clear hrow ci hrd hrn hb hi hj hn hlt hRS
            go_wp2
            go_roundw
            case rel => exact ⟨n + 1, by have := HLT.out; omega, congrArg (Value.int .i64) HI2.out.symm, by rw [← HP2.out]; exact HROW3.out, HC3.out⟩
            case measure => have := HIN.out; have := HI2.out; simp [intOf]; omega
          · rw [hb] at ci
            have ci2 : wr.cell? ⟨x2.heap.size, i, none⟩ = some (.int .i64 1) := ci
            have fi := hrow.frozen i
            obtain ⟨j1, hj1⟩ : ∃ z, z = j + 1 := ⟨_, rfl⟩
            obtain ⟨j2, hj2⟩ : ∃ z, z = j + 2 := ⟨_, rfl⟩
            obtain ⟨j7, hj7⟩ : ∃ z, z = j + 7 := ⟨_, rfl⟩
            have hrd2 := hrd hb
            rw [← hj1, ← hj2, ← hj7] at hrd2
            have c_j := Row.i64 hrow (i := j) (by rw [bitsL_len]; omega)
            rw [bitsL_get _ _ _ (by omega)] at c_j
            have f_j := hrow.frozen j
            have c_j1 := Row.i64 hrow (i := j1) (by rw [bitsL_len]; omega)
            rw [bitsL_get _ _ _ (by omega)] at c_j1
            have f_j1 := hrow.frozen j1
            have c_j2 := Row.i64 hrow (i := j2) (by rw [bitsL_len]; omega)
            rw [bitsL_get _ _ _ (by omega)] at c_j2
            have f_j2 := hrow.frozen j2
            have c_j7 := Row.i64 hrow (i := j7) (by rw [bitsL_len]; omega)
            rw [bitsL_get _ _ _ (by omega)] at c_j7
            have f_j7 := hrow.frozen j7
            have n_i_j : ¬ i = j := by omega
            have n_i_j1 : ¬ i = j1 := by omega
            have n_i_j2 : ¬ i = j2 := by omega
            have n_i_j7 : ¬ i = j7 := by omega
            have n_j_i : ¬ j = i := by omega
            have n_j_j1 : ¬ j = j1 := by omega
            have n_j_j2 : ¬ j = j2 := by omega
            have n_j_j7 : ¬ j = j7 := by omega
            have n_j1_i : ¬ j1 = i := by omega
            have n_j1_j : ¬ j1 = j := by omega
            have n_j1_j2 : ¬ j1 = j2 := by omega
            have n_j1_j7 : ¬ j1 = j7 := by omega
            have n_j2_i : ¬ j2 = i := by omega
            have n_j2_j : ¬ j2 = j := by omega
            have n_j2_j1 : ¬ j2 = j1 := by omega
            have n_j2_j7 : ¬ j2 = j7 := by omega
            have n_j7_i : ¬ j7 = i := by omega
            have n_j7_j : ¬ j7 = j := by omega
            have n_j7_j1 : ¬ j7 = j1 := by omega
            have n_j7_j2 : ¬ j7 = j2 := by omega
            have X_j := Lib.hid (i64_bits (b01 (P.testBit j)) 1 (b01_lt _) (by decide))
            rw [show ((1 : Nat) : Int) = 1 from rfl] at X_j
            have X_j1 := Lib.hid (i64_bits (b01 (P.testBit j1)) 1 (b01_lt _) (by decide))
            rw [show ((1 : Nat) : Int) = 1 from rfl] at X_j1
            have X_j2 := Lib.hid (i64_bits (b01 (P.testBit j2)) 1 (b01_lt _) (by decide))
            rw [show ((1 : Nat) : Int) = 1 from rfl] at X_j2
            have X_j7 := Lib.hid (i64_bits (b01 (P.testBit j7)) 1 (b01_lt _) (by decide))
            rw [show ((1 : Nat) : Int) = 1 from rfl] at X_j7
            have HSET := Lib.hid (((((hrow.set i (.int .i64 ((0 : Nat) : Int))).set j (.int .i64 ((b01 (P.testBit j) ^^^ 1 : Nat) : Int))).set j1 (.int .i64 ((b01 (P.testBit j1) ^^^ 1 : Nat) : Int))).set j2 (.int .i64 ((b01 (P.testBit j2) ^^^ 1 : Nat) : Int))).set j7 (.int .i64 ((b01 (P.testBit j7) ^^^ 1 : Nat) : Int)))
            rw [i64s_set, i64s_set, i64s_set, i64s_set, i64s_set, hrd2] at HSET
            have e0 : (i : Int) - 128 = (j : Int) := by omega
            have e1 : (i : Int) - 127 = (j1 : Int) := by omega
            have e2 : (i : Int) - 126 = (j2 : Int) := by omega
            have e7 : (i : Int) - 121 = (j7 : Int) := by omega
            have s0 : (0 : Int) ≤ (j : Int) ∧ (j : Int) < 255 := by omega
            have s1 : (0 : Int) ≤ (j1 : Int) ∧ (j1 : Int) < 255 := by omega
            have s2 : (0 : Int) ≤ (j2 : Int) ∧ (j2 : Int) < 255 := by omega
            have s7 : (0 : Int) ≤ (j7 : Int) ∧ (j7 : Int) < 255 := by omega
            generalize b01 (P.testBit j) = p0 at c_j X_j HSET
            generalize b01 (P.testBit j1) = p1 at c_j1 X_j1 HSET
            generalize b01 (P.testBit j2) = p2 at c_j2 X_j2 HSET
            generalize b01 (P.testBit j7) = p7 at c_j7 X_j7 HSET
            clear hrow ci hrd hrn hb hi hj hn hlt hRS hrd2 hj1 hj2 hj7
            go_wp2
            go_roundw
            case rel => exact ⟨n + 1, by have := HLT.out; omega, congrArg (Value.int .i64) HI2.out.symm, by rw [X_j.out, X_j1.out, X_j2.out, X_j7.out, ← HP2.out]; exact HSET.out, (((((HC3.out.setCell (fun _ => rfl) _).setCell (fun _ => rfl) _).setCell (fun _ => rfl) _).setCell (fun _ => rfl) _).setCell (fun _ => rfl) _)⟩
            case measure => have := HIN.out; have := HI2.out; simp [intOf]; omega
        · have hn7 : n = 127 := by omega
          have hi127 : i = 127 := by omega
          subst hn7
          subst hi127
          have hgm : rdS (clS X Y 128) 127 = gM Y X := rdS_clS HY.out
          rw [hgm] at hrow
          have HROW4 := Lib.hid hrow
          obtain ⟨wC, hwC⟩ : ∃ z, z = wr := ⟨_, rfl⟩
          rw [← hwC] at HROW4 HC3 ⊢
          have HRR6 := Lib.hid (HRR5.out.chg HC3.out (fun e => by have := HG3.out; omega))
          have HC6 := Lib.hid (HC5.out.andThen HC3.out (fun b h e => by have := HG1.out; have := HG2.out; have := HG3.out; omega))
          clear hwC hrow hch hn hlt hi hgm HROW HC HV1 HV2 HR5
          go_wp2_with (first | ((with_reducible show wpList _ _ _ (⟨some 11, .alloc 26, _, _, _, _⟩ :: _) _ _); refine wpList_alloc_Row rfl rfl (u8s (List.replicate 16 0)) zero22 ?_; intro w7 hr7 hc7 hs7; have HR7 := Lib.hid hr7; have HC7 := Lib.hid (HC6.out.trans hc7); have HRR7 := Lib.hid (HRR6.out.chg hc7 (fun h => h)); have HROW7 := Lib.hid (HROW4.out.chg hc7 (fun h => h)); clear hr7 hc7 hs7))
          have HG4 := Lib.hid (show x2.heap.size < wC.heap.size from HROW4.out.lt)
          try simp only [Act.put, List.setIfInBounds_toArray, List.set_cons_zero, List.set_cons_succ]
          go_loopw [12] (fun t wr => ∃ k : Nat, k ≤ 128 ∧ t = .int .i64 k ∧ Row wr wC.heap.size 26 (u8s (outL (gM Y X) k)) ∧ Chg (· = wC.heap.size) w7 wr) (fun t _ => 128 - (intOf t).toNat)
          case atStart => exact ⟨0, Nat.zero_le _, rfl, by rw [outL_0]; exact HR7.out, Chg.refl _ _⟩
          case round =>
            obtain ⟨k, hk, rfl, hrow, hch⟩ := hrel
            have HC := Lib.hid hch
            by_cases hlt : k < 128
            · obtain ⟨q, hq⟩ : ∃ q, q = k / 8 := ⟨_, rfl⟩
              have cp := Row.i64 (HROW7.out.chg hch (fun e => by have := HG4.out; omega)) (i := k) (by rw [bitsL_len]; omega)
              rw [bitsL_get _ _ _ (by omega)] at cp
              have co := Row.u8 hrow (i := q) (by rw [outL_len]; omega)
              have hog : (outL (gM Y X) k).getD q 0 = outB (gM Y X) k q := map_range_get _ _ q (by omega)
              rw [hog] at co
              have fo := hrow.frozen q
              have hst : outB (gM Y X) k q * 2 + b01 ((gM Y X).testBit k) = outB (gM Y X) (k + 1) q := by rw [hq]; exact outB_step (gM Y X) k
              have hou := outB_lt (gM Y X) (k + 1) q
              have HSL : Hid ((outL (gM Y X) k).set q (outB (gM Y X) (k + 1) q) = outL (gM Y X) (k + 1)) := Lib.hid (by rw [hq]; exact outL_set (gM Y X) k hlt)
              have HSET := Lib.hid (hrow.set q (.int .u8 ((outB (gM Y X) (k + 1) q : Nat) : Int)))
              have hb2 := b01_lt ((gM Y X).testBit k)
              generalize b01 ((gM Y X).testBit k) = bt at cp hst hb2
              generalize outB (gM Y X) (k + 1) q = o2 at hst hou HSL HSET
              generalize outB (gM Y X) k q = o1 at co hst
              have m1 : (k : Int) / 8 = (q : Int) := by omega
              have q0 : (0 : Int) ≤ (k : Int) := by omega
              have q1 : (k : Int) < 255 := by omega
              have q2 : (0 : Int) ≤ (q : Int) := by omega
              have q3 : (q : Int) < 16 := by omega
              have HLT := Lib.hid hlt
              have HV : Hid (((o1 : Int) * 2 % 256 + (bt : Int)) = (o2 : Int)) := Lib.hid (by omega)
              clear hrow hch hk hlt hq hog hst hou
              go_wp2
              go_region
              go_wp2
              go_roundw
              case rel => exact ⟨k + 1, by have := HLT.out; omega, by go_num, by rw [HV.out, ← HSL.out, ← u8s_set]; exact HSET.out, (by first | exact (HC.out.setCell (fun _ => rfl) _).drew | exact (HC.out.drew.setCell (fun _ => rfl) _).drew)⟩
              case measure => have := HLT.out; simp [intOf]; omega
            · have hk8 : k = 128 := by omega
              subst hk8
              rw [outL_all] at hrow
              have HROW8 := Lib.hid hrow
              have HRR8 := Lib.hid (HRR7.out.chg hch (fun e => by have := HG4.out; have := HG3.out; omega))
              have HC8 := Lib.hid (HC7.out.andThen hch (fun b h e => by have := HG4.out; have := HG3.out; have := HG1.out; have := HG2.out; omega))
              clear hrow hch hk hlt HC
              go_wp2_with (first | ((with_reducible show wpList _ _ _ (⟨some 119, .load 26 _, _, _, _, _⟩ :: _) _ _); refine wpList_load_Row rfl rfl rfl (HROW8.out) Tryd.underlying26 rfl (by rw [u8s_length, bpol_len]; exact size22) ?_) | ((with_reducible show wpList _ _ _ (⟨_, .store 26 (.tmp 4) _, _, _, _, _⟩ :: _) _ _); refine wpList_store_Row (xs := u8s (bpol (gM Y X))) rfl rfl rfl (HRR8.out) (rfl) (by rw [u8s_length, u8s_length, bpol_len, List.length_replicate]) (by rw [u8s_length, bpol_len]; exact size22) (u8s_oneA _) ?_; intro w9 hr9 hc9 hs9; have HR9 := Lib.hid hr9; have HC9 := Lib.hid hc9; clear hr9 hc9 hs9))
              refine ret_row rfl rfl HR9.out Tryd.underlying26 rfl (by rw [u8s_length, bpol_len]; exact size22) rfl ?_
              exact ⟨rfl, HC9.out none_ w HC8.out (fun h => by have := HG1.out; have := HG2.out; omega)⟩
end Go.Proofs.YtidafbpiipjnlaaDoor
