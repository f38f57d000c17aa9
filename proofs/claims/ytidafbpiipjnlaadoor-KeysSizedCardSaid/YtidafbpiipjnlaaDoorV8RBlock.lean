/- Layer 8 (aes): a block enciphered by round keys and a table, the document's. -/
import Derived.Test.YtidafbpiipjnlaaDoorKA4
import Derived.Test.YtidafbpiipjnlaaDoorKA3
namespace Go.Proofs.YtidafbpiipjnlaaDoor
open Go.RowKit

theorem zero61 : (Tryd.prog.info? 132).map (·.zero) = some (some (.agg (u8s (List.replicate 16 0)).toArray)) := by kernel_rfl
theorem size61 : (Tryd.prog.info? 132).map (·.size) = some 16 := by kernel_rfl
def firstF (ks b : List Nat) (i : Nat) : Nat := b.getD i 0 ^^^ ks.getD i 0
def stepF (ks n : List Nat) (k i : Nat) : Nat := n.getD (posT i) 0 ^^^ ks.getD (16 * k + i) 0
def outF (s : List Nat) (i : Nat) : Nat := s.getD (posT i) 0
theorem outF_all (s : List Nat) : (List.range 16).map (outF s) = trB s := rfl
theorem firstF_all (ks b : List Nat) : (List.range 16).map (firstF ks b) = xorB b ks := rfl
theorem mixT0 (n : List Nat) (c : Nat) (h : c < 4) : mixT n c = mixC (n.getD c 0) (n.getD (4 + c) 0) (n.getD (8 + c) 0) (n.getD (12 + c) 0) := by
  unfold mixT
  rw [show c / 4 = 0 from by omega, show c % 4 = c from by omega]
  simp only [Nat.zero_mul, Nat.zero_add, Nat.reduceMod, Nat.reduceMul, Nat.one_mul]
theorem mixT1 (n : List Nat) (c : Nat) (h : c < 4) : mixT n (4 + c) = mixC (n.getD (4 + c) 0) (n.getD (8 + c) 0) (n.getD (12 + c) 0) (n.getD c 0) := by
  unfold mixT
  rw [show (4 + c) / 4 = 1 from by omega, show (4 + c) % 4 = c from by omega]
  simp only [Nat.zero_mul, Nat.zero_add, Nat.reduceAdd, Nat.reduceMod, Nat.reduceMul, Nat.one_mul]
theorem mixT2 (n : List Nat) (c : Nat) (h : c < 4) : mixT n (8 + c) = mixC (n.getD (8 + c) 0) (n.getD (12 + c) 0) (n.getD c 0) (n.getD (4 + c) 0) := by
  unfold mixT
  rw [show (8 + c) / 4 = 2 from by omega, show (8 + c) % 4 = c from by omega]
  simp only [Nat.zero_mul, Nat.zero_add, Nat.reduceAdd, Nat.reduceMod, Nat.reduceMul, Nat.one_mul]
theorem mixT3 (n : List Nat) (c : Nat) (h : c < 4) : mixT n (12 + c) = mixC (n.getD (12 + c) 0) (n.getD c 0) (n.getD (4 + c) 0) (n.getD (8 + c) 0) := by
  unfold mixT
  rw [show (12 + c) / 4 = 3 from by omega, show (12 + c) % 4 = c from by omega]
  simp only [Nat.zero_mul, Nat.zero_add, Nat.reduceAdd, Nat.reduceMod, Nat.reduceMul, Nat.one_mul]
/-- The four columns' sums, as they are reckoned. -/
theorem mixI {p q r t : Nat} (hp : p < 256) (hq : q < 256) (hr : r < 256) (ht : t < 256) :
    bits .xor .u8 (bits .xor .u8 (bits .xor .u8 ((mulN p 2 : Nat) : Int) ((mulN q 3 : Nat) : Int)) (r : Int)) (t : Int) = ((mixC p q r t : Nat) : Int) ∧
    bits .xor .u8 (bits .xor .u8 (bits .xor .u8 (p : Int) ((mulN q 2 : Nat) : Int)) ((mulN r 3 : Nat) : Int)) (t : Int) = ((mixC q r t p : Nat) : Int) ∧
    bits .xor .u8 (bits .xor .u8 (bits .xor .u8 (p : Int) (q : Int)) ((mulN r 2 : Nat) : Int)) ((mulN t 3 : Nat) : Int) = ((mixC r t p q : Nat) : Int) ∧
    bits .xor .u8 (bits .xor .u8 (bits .xor .u8 ((mulN p 3 : Nat) : Int) (q : Int)) (r : Int)) ((mulN t 2 : Nat) : Int) = ((mixC t p q r : Nat) : Int) := by
  have m : ∀ {x : Nat} (y : Nat), x < 256 → mulN x y < 256 := fun y h => mulN_lt y h
  refine ⟨?_, ?_, ?_, ?_⟩
  · rw [u8_xor_nat _ _ (m 2 hp) (m 3 hq), u8_xor_nat _ _ (xor8_lt (m 2 hp) (m 3 hq)) hr, u8_xor_nat _ _ (xor8_lt (xor8_lt (m 2 hp) (m 3 hq)) hr) ht]
    congr 1
    exact mixV4_eq r t hp hq
  · rw [u8_xor_nat _ _ hp (m 2 hq), u8_xor_nat _ _ (xor8_lt hp (m 2 hq)) (m 3 hr), u8_xor_nat _ _ (xor8_lt (xor8_lt hp (m 2 hq)) (m 3 hr)) ht]
    congr 1
    rw [← mixV4_eq t p hq hr, mixV4]
    simp only [Nat.xor_assoc, Nat.xor_comm, xor_lc]
  · rw [u8_xor_nat _ _ hp hq, u8_xor_nat _ _ (xor8_lt hp hq) (m 2 hr), u8_xor_nat _ _ (xor8_lt (xor8_lt hp hq) (m 2 hr)) (m 3 ht)]
    congr 1
    rw [← mixV4_eq p q hr ht, mixV4]
    simp only [Nat.xor_assoc, Nat.xor_comm, xor_lc]
  · rw [u8_xor_nat _ _ (m 3 hp) hq, u8_xor_nat _ _ (xor8_lt (m 3 hp) hq) hr, u8_xor_nat _ _ (xor8_lt (xor8_lt (m 3 hp) hq) hr) (m 2 ht)]
    congr 1
    rw [← mixV4_eq q r ht hp, mixV4]
    simp only [Nat.xor_assoc, Nat.xor_comm, xor_lc]

set_option maxRecDepth 100000 in
set_option maxHeartbeats 8000000 in
theorem rblock_any (ks b : List Nat) (w : World) (hk : ks.length = 176) (hkb : ∀ x ∈ ks, x < 256) (hb : b.length = 16) (hbb : ∀ x ∈ b, x < 256) : Calls Tryd.prog 69 #[.agg (u8s ks).toArray, .agg (u8s sboxL).toArray, .agg (u8s b).toArray] w fun e w' => e = .returned (.agg (u8s (encN ks b)).toArray) ∧ Chg none_ w w' := by
  have HK := Lib.hid hk
  have HB := Lib.hid hb
  have HKX := Lib.hid (fun i => getD_lt hkb i (by decide))
  have HBX := Lib.hid (fun i => getD_lt hbb i (by decide))
  have HSB := Lib.hid (fun r i => getD_lt (trB_lt (roundsB_lt (ks := ks) hbb hkb r)) i (by decide : 0 < 256))
  have HSL := Lib.hid (fun r => trB_len (roundsB ks b r))
  clear hk hkb hb hbb
  go_enter Tryd.func69, Tryd.ntmps69
  go_wp2_with (first | ((with_reducible show wpList _ _ _ (⟨some 3, .box 108 _, _, _, _, _⟩ :: _) _ _); refine wpList_box_Row rfl rfl (u8s ks) rfl ?_; intro w1 hr1 hc1 hs1; have HRK := Lib.hid hr1; have HC1 := Lib.hid hc1; have hs1_ := Lib.hid hs1; clear hr1 hc1 hs1) | ((with_reducible show wpList _ _ _ (⟨some 4, .box 105 _, _, _, _, _⟩ :: _) _ _); refine wpList_box_Row rfl rfl (u8s sboxL) rfl ?_; intro w2 hr2 hc2 hs2; have HRT := Lib.hid hr2; have HC2 := Lib.hid (HC1.out.trans hc2); have HRK := Lib.hid (HRK.out.chg hc2 (fun h => h)); have hs2_ := Lib.hid hs2; clear hr2 hc2 hs2) | ((with_reducible show wpList _ _ _ (⟨some 5, .box 26 _, _, _, _, _⟩ :: _) _ _); refine wpList_box_Row rfl rfl (u8s b) rfl ?_; intro w3 hr3 hc3 hs3; have HRB := Lib.hid hr3; have HC3 := Lib.hid (HC2.out.trans hc3); have HRK := Lib.hid (HRK.out.chg hc3 (fun h => h)); have HRT := Lib.hid (HRT.out.chg hc3 (fun h => h)); have hs3_ := Lib.hid hs3; clear hr3 hc3 hs3) | ((with_reducible show wpList _ _ _ (⟨some 6, .alloc 26, _, _, _, _⟩ :: _) _ _); refine wpList_alloc_Row rfl rfl (u8s (List.replicate 16 0)) zero26 ?_; intro w4 hr4 hc4 hs4; have HRR := Lib.hid hr4; have HC4 := Lib.hid (HC3.out.trans hc4); have HRK := Lib.hid (HRK.out.chg hc4 (fun h => h)); have HRT := Lib.hid (HRT.out.chg hc4 (fun h => h)); have HRB := Lib.hid (HRB.out.chg hc4 (fun h => h)); have hs4_ := Lib.hid hs4; clear hr4 hc4 hs4) | ((with_reducible show wpList _ _ _ (⟨some 7, .alloc 132, _, _, _, _⟩ :: _) _ _); refine wpList_alloc_Row rfl rfl (u8s (List.replicate 16 0)) zero61 ?_; intro w5 hr5 hc5 hs5; have HRS := Lib.hid hr5; have HC5 := Lib.hid (HC4.out.trans hc5); have HRK := Lib.hid (HRK.out.chg hc5 (fun h => h)); have HRT := Lib.hid (HRT.out.chg hc5 (fun h => h)); have HRB := Lib.hid (HRB.out.chg hc5 (fun h => h)); have HRR := Lib.hid (HRR.out.chg hc5 (fun h => h)); have hs5_ := Lib.hid hs5; clear hr5 hc5 hs5))
  have HG1 := Lib.hid (show w.heap.size < w1.heap.size ∧ w1.heap.size < w2.heap.size ∧ w2.heap.size < w3.heap.size ∧ w3.heap.size < w4.heap.size ∧ w4.heap.size < w5.heap.size from ⟨by have := HC1.out.size; have := hs1_.out; omega, by have := hs2_.out; omega, by have := hs3_.out; omega, by have := hs4_.out; omega, by have := hs5_.out; omega⟩)
  clear HC1 HC2 HC3 HC4 hs1_ hs2_ hs3_ hs4_ hs5_
  have HNK := Lib.hid (show ¬ w.heap.size = w4.heap.size by have := HG1.out; omega)
  have HNT := Lib.hid (show ¬ w1.heap.size = w4.heap.size by have := HG1.out; omega)
  have HNB := Lib.hid (show ¬ w2.heap.size = w4.heap.size by have := HG1.out; omega)
  have HNR := Lib.hid (show ¬ w3.heap.size = w4.heap.size by have := HG1.out; omega)
  have HSL5 := Lib.hid (show w4.heap.size < w5.heap.size from HG1.out.2.2.2.2)
  go_loopw [8] (fun iv wr => ∃ k : Nat, k ≤ 16 ∧ iv = .int .i64 k ∧ Row wr w4.heap.size 132 (u8s (trP (firstF ks b) (List.replicate 16 0) k)) ∧ Chg (· = w4.heap.size) w5 wr) (fun iv _ => 16 - (intOf iv).toNat)
  case atStart => exact ⟨0, Nat.zero_le _, rfl, by rw [trP_0 _ _ (by simp)]; exact HRS.out, Chg.refl _ _⟩
  case round =>
    obtain ⟨k, hk, rfl, hrow, hch⟩ := hrel
    have HC := Lib.hid hch
    by_cases hlt : k < 16
    · have q0 : (0 : Int) ≤ (k : Int) := by omega
      have q1 : (k : Int) < 16 := by omega
      obtain ⟨q, hq⟩ : ∃ q, k / 4 = q := ⟨_, rfl⟩
      obtain ⟨r, hr⟩ : ∃ r, k % 4 = r := ⟨_, rfl⟩
      have d1 : Int.tdiv (k : Int) 4 = (q : Int) := by rw [Int.tdiv_eq_ediv_of_nonneg (by omega)]; omega
      have d2 : (k : Int) / 4 = (q : Int) := by omega
      have d3 : Int.tmod (k : Int) 4 = (r : Int) := by rw [Int.tmod_eq_emod_of_nonneg (by omega)]; omega
      have d4 : (k : Int) % 4 = (r : Int) := by omega
      have d5 : (0 : Int) ≤ (q : Int) ∧ (0 : Int) ≤ (r : Int) := by omega
      have d6 : (q : Int) < 4 := by omega
      have d7 : (r : Int) < 4 := by omega
      obtain ⟨d8, d9⟩ := d5
      have hp : posT k = r * 4 + q := by unfold posT; rw [hr, hq]
      have hqr : q * 4 + r = k := by omega
      have cb := Row.u8 (HRB.out.chg hch HNB.out) (i := k) (by rw [HB.out]; exact hlt)
      have ck := Row.u8 (HRK.out.chg hch HNK.out) (i := q * 4 + r) (by rw [HK.out]; omega)
      have cs := Row.u8 hrow (i := r * 4 + q) (by rw [trP_len]; omega)
      have hf := hrow.frozen (r * 4 + q)
      have HTS := trP_set (firstF ks b) (List.replicate 16 0) k hlt
      have HXB := HBX.out k
      have HXK := HKX.out k
      rw [hp, firstF] at HTS
      have ek : ks.getD (q * 4 + r) 0 = ks.getD k 0 := by rw [hqr]
      rw [ek] at ck
      have HSET := Lib.hid (hrow.set (r * 4 + q) (.int .u8 ((b.getD k 0 ^^^ ks.getD k 0 : Nat) : Int)))
      have HTSS := Lib.hid HTS
      clear HTS ek
      generalize (trP (firstF ks b) (List.replicate 16 0) k).getD (r * 4 + q) 0 = z at cs
      generalize b.getD k 0 = x at cb HXB HTSS HSET
      generalize ks.getD k 0 = y at ck HXK HTSS HSET
      have xx := u8_xor_nat x y HXB HXK
      clear hrow hch hp hqr hq hr
      go_wp2
      go_region
      go_wp2
      go_roundw
      case rel => exact ⟨k + 1, by omega, by go_num, by rw [← HTSS.out, ← u8s_set]; exact HSET.out, HC.out.drew.setCell (fun _ => rfl) _⟩
      case measure => simp [intOf] <;> omega
    · have hk16 : k = 16 := by omega
      subst hk16
      have HRS1 : Hid (Row wr w4.heap.size 132 (u8s (trB (roundsB ks b 0)))) := Lib.hid (by rw [trP_all, firstF_all] at hrow; exact hrow)
      clear hrow hch HRS hk hlt
      obtain ⟨wA, hwA⟩ : ∃ x, x = wr := ⟨_, rfl⟩
      subst hwA
      try simp only [show ((16 : Nat) : Int) = 16 from rfl]
      go_wp2
      go_loopw [9, 10, 11, 12, 13, 14, 15] (fun rv _ _ _ _ _ _ wr => ∃ k : Nat, 1 ≤ k ∧ k ≤ 11 ∧ rv = .int .i64 k ∧ Row wr w4.heap.size 132 (u8s (trB (roundsB ks b (k - 1)))) ∧ Chg (· = w4.heap.size) w5 wr) (fun rv _ _ _ _ _ _ _ => 11 - (intOf rv).toNat)
      case atStart => exact ⟨1, Nat.le_refl _, by omega, rfl, HRS1.out, HC.out⟩
      case round =>
        obtain ⟨k, hk1, hk11, rfl, hrow, hch⟩ := hrel
        obtain ⟨wB, hwB⟩ : ∃ x, x = wr := ⟨_, rfl⟩
        subst hwB
        have HSLn := Lib.hid (HSL.out (k - 1))
        have HRSB := Lib.hid hrow
        have HCB := Lib.hid hch
        have HLN := Lib.hid (show w4.heap.size < wB.heap.size ∧ w5.heap.size ≤ wB.heap.size from ⟨hrow.lt, hch.size⟩)
        have HNSN := Lib.hid (show ¬ w4.heap.size = wB.heap.size by have := HLN.out; omega)
        have HNTN := Lib.hid (show ¬ w1.heap.size = wB.heap.size by have := HLN.out; have := HG1.out; omega)
        have HNKN := Lib.hid (show ¬ w.heap.size = wB.heap.size by have := HLN.out; have := HG1.out; omega)
        have HNRN := Lib.hid (show ¬ w3.heap.size = wB.heap.size by have := HLN.out; have := HG1.out; omega)
        have HNN := Lib.hid (show ¬ wB.heap.size = w4.heap.size by have := HLN.out; omega)
        have q8 : (0 : Int) ≤ (k : Int) := by omega
        by_cases hlt : k ≤ 10
        · have q9 : (k : Int) ≤ 10 := by omega
          have HKB := Lib.hid (show 1 ≤ k ∧ k ≤ 10 from ⟨hk1, hlt⟩)
          have HRKB := Lib.hid (HRK.out.chg hch HNK.out)
          have HRTB := Lib.hid (HRT.out.chg hch HNT.out)
          have HSX := Lib.hid (HSB.out (k - 1))
          have HRB' : roundsB ks b k = stepB ks (roundsB ks b (k - 1)) k := by
            obtain ⟨p, rfl⟩ : ∃ p, k = p + 1 := ⟨k - 1, by omega⟩
            rw [roundsB, Nat.add_sub_cancel]
          have HBX0 := Lib.hid (boxT_all (roundsB ks b (k - 1)))
          have HNL := Lib.hid (trB_len (shiftB (subB (roundsB ks b (k - 1)))))
          have HNX := Lib.hid (fun i => getD_lt (trB_lt (shiftB_lt (subB_lt (roundsB ks b (k - 1))))) i (by decide : 0 < 256))
          have HM4X : Hid (∀ i, (mixP (trB (shiftB (subB (roundsB ks b (k - 1))))) 4).getD i 0 < 256) := Lib.hid (fun i => by rw [mixP_all]; exact getD_lt (trB_lt (mixB_lt (shiftB_lt (subB_lt _)))) i (by decide))
          have HF1 : Hid (k < 10 → trB ((List.range 16).map (stepF ks (mixP (trB (shiftB (subB (roundsB ks b (k - 1))))) 4) k)) = trB (roundsB ks b k)) := Lib.hid (fun h => by
            have := stepT ks (roundsB ks b (k - 1)) k
            rw [if_pos h] at this
            rw [HRB', ← this]; rfl)
          have HF2 : Hid (¬ k < 10 → trB ((List.range 16).map (stepF ks (trB (shiftB (subB (roundsB ks b (k - 1))))) k)) = trB (roundsB ks b k)) := Lib.hid (fun h => by
            have := stepT ks (roundsB ks b (k - 1)) k
            rw [if_neg h] at this
            rw [HRB', ← this]; rfl)
          clear HRB' hrow hch
          generalize trB (shiftB (subB (roundsB ks b (k - 1)))) = N at *
          generalize trB (roundsB ks b (k - 1)) = S at *
          go_wp2_with (first | ((with_reducible show wpList _ _ _ (⟨some 10, .alloc 132, _, _, _, _⟩ :: _) _ _); refine wpList_alloc_Row rfl rfl (u8s (List.replicate 16 0)) zero61 ?_; intro w6 hr6 hc6 hs6; have HR6 := Lib.hid hr6; have HC6 := Lib.hid hc6; clear hr6 hc6 hs6))
          have HRS6 := Lib.hid (HRSB.out.chg HC6.out (fun h => h))
          have HRK6 := Lib.hid (HRKB.out.chg HC6.out (fun h => h))
          have HRT6 := Lib.hid (HRTB.out.chg HC6.out (fun h => h))
          have HC6w := Lib.hid (HCB.out.trans (HC6.out.mono (fun _ _ h => h.elim)))
          clear HRSB HRKB HRTB HC6
          go_loopw [11, 12] (fun iv _ wr => ∃ i : Nat, i ≤ 4 ∧ iv = .int .i64 i ∧ Row wr wB.heap.size 132 (u8s (fillN (boxT S) 16 (i * 4))) ∧ Chg (· = wB.heap.size) w6 wr) (fun iv _ _ => 4 - (intOf iv).toNat)
          case atStart => exact ⟨0, Nat.zero_le _, rfl, by rw [Nat.zero_mul, fillN_0]; exact HR6.out, Chg.refl _ _⟩
          case round =>
            obtain ⟨i, hi, rfl, hrow, hch⟩ := hrel
            have HROWi := Lib.hid hrow
            have HCi := Lib.hid hch
            by_cases hli : i < 4
            · have q0 : (0 : Int) ≤ (i : Int) := by omega
              have q1 : (i : Int) < 4 := by omega
              clear hrow hch
              obtain ⟨wC, hwC⟩ : ∃ x, x = wr := ⟨_, rfl⟩
              subst hwC
              go_wp2
              go_loopw [12] (fun cv wr => ∃ c : Nat, c ≤ 4 ∧ cv = .int .i64 c ∧ Row wr wB.heap.size 132 (u8s (fillN (boxT S) 16 (i * 4 + c))) ∧ Chg (· = wB.heap.size) w6 wr) (fun cv _ => 4 - (intOf cv).toNat)
              case atStart => exact ⟨0, Nat.zero_le _, rfl, HROWi.out, HCi.out⟩
              case round =>
                obtain ⟨c, hc, rfl, hrow, hch⟩ := hrel
                have HCc := Lib.hid hch
                by_cases hlc : c < 4
                · have s0 : (0 : Int) ≤ (c : Int) := by omega
                  have s1 : (c : Int) < 4 := by omega
                  obtain ⟨t, ht⟩ : ∃ t, (c + i) % 4 = t := ⟨_, rfl⟩
                  have e1 : Int.tmod ((c : Int) + (i : Int)) 4 = (t : Int) := by rw [Int.tmod_eq_emod_of_nonneg (by omega)]; omega
                  have e2 : ((c : Int) + (i : Int)) % 4 = (t : Int) := by omega
                  have e3 : (0 : Int) ≤ (t : Int) := by omega
                  have e4 : (t : Int) < 4 := by omega
                  have ht4 : t < 4 := by omega
                  have cs := Row.u8 (HRS6.out.chg hch HNSN.out) (i := i * 4 + t) (by rw [HSLn.out]; omega)
                  have hx := HSX.out (i * 4 + t)
                  have HFS := fillN_set (boxT S) 16 (i * 4 + c) (by omega)
                  rw [boxT, show (i * 4 + c) / 4 = i from by omega, show (i * 4 + c) % 4 = c from by omega, ht] at HFS
                  have HFSS := Lib.hid HFS
                  have cn := Row.u8 hrow (i := i * 4 + c) (by rw [fillN_len _ _ _ (by omega)]; omega)
                  have hf := hrow.frozen (i * 4 + c)
                  have HSET := Lib.hid (hrow.set (i * 4 + c) (.int .u8 ((sbox (S.getD (i * 4 + t) 0) : Nat) : Int)))
                  have HTc : Hid (∀ x, sboxL.getD x 0 = sbox x) := Lib.hid (fun _ => rfl)
                  have cT := Row.u8 (HRT6.out.chg hch HNTN.out) (i := S.getD (i * 4 + t) 0) (by rw [sboxL_len]; exact hx)
                  rw [HTc.out] at cT
                  clear HFS ht hrow hch
                  generalize (fillN (boxT S) 16 (i * 4 + c)).getD (i * 4 + c) 0 = z at cn
                  generalize S.getD (i * 4 + t) 0 = x at cs hx HFSS HSET cT
                  generalize sbox x = y at HFSS HSET cT
                  have hx2 : (x : Int) < 256 := by omega
                  have hx3 : (0 : Int) ≤ (x : Int) := by omega
                  go_wp2
                  go_region
                  go_wp2
                  go_roundw
                  case rel => exact ⟨c + 1, by omega, by go_num, by rw [← Nat.add_assoc, ← HFSS.out, ← u8s_set]; exact HSET.out, HCc.out.drew.setCell (fun _ => rfl) _⟩
                  case measure => simp [intOf] <;> omega
                · have hc4 : c = 4 := by omega
                  subst hc4
                  have HR4 : Hid (Row wr wB.heap.size 132 (u8s (fillN (boxT S) 16 ((i + 1) * 4)))) := Lib.hid (by rw [show (i + 1) * 4 = i * 4 + 4 from by omega]; exact hrow)
                  clear hrow hch hc hlc
                  try simp only [show ((4 : Nat) : Int) = 4 from rfl]
                  go_wp2
                  go_roundw
                  case rel => exact ⟨i + 1, by omega, by go_num, HR4.out, HCc.out⟩
                  case measure => simp [intOf] <;> omega
            · have hi4 : i = 4 := by omega
              subst hi4
              obtain ⟨wD, hwD⟩ : ∃ x, x = wr := ⟨_, rfl⟩
              subst hwD
              have HRN : Hid (Row wD wB.heap.size 132 (u8s N)) := Lib.hid (by rw [show 4 * 4 = 16 from rfl, fillN_all, HBX0.out] at hrow; exact hrow)
              have HRSD := Lib.hid (HRS6.out.chg hch HNSN.out)
              have HRKD := Lib.hid (HRK6.out.chg hch HNKN.out)
              have HCDw := Lib.hid (HC6w.out.andThen hch (fun b h e => by have := HLN.out; omega))
              clear hrow hch hi hli HROWi HCi HRS6 HRK6 HRT6 HR6
              try simp only [show ((4 : Nat) : Int) = 4 from rfl]
              by_cases hk10 : k < 10
              · have hk10i : (k : Int) < 10 := by omega
                go_wp2_with (first | ((with_reducible show wpList _ _ _ (⟨some 67, .load 132 _, _, _, _, _⟩ :: _) _ _); refine wpList_load_Row rfl rfl rfl (HRN.out) Tryd.underlying132 rfl (by rw [u8s_length, HNL.out]; exact size61) ?_) | ((with_reducible show wpList _ _ _ (⟨some 13, .alloc 132, _, _, _, _⟩ :: _) _ _); refine wpList_alloc_Row rfl rfl (u8s (List.replicate 16 0)) zero61 ?_; intro w7 hr7 hc7 hs7; have HR7 := Lib.hid hr7; have HC7 := Lib.hid hc7; clear hr7 hc7 hs7) | ((with_reducible show wpList _ _ _ (⟨_, .store 132 (.tmp 13) _, _, _, _, _⟩ :: _) _ _); refine wpList_store_Row (xs := u8s N) rfl rfl rfl (HR7.out) (rfl) (by rw [u8s_length, u8s_length, HNL.out, List.length_replicate]) (by rw [u8s_length, HNL.out]; exact size61) (u8s_oneA _) ?_; intro w8 hr8 hc8 hs8; have HR8 := Lib.hid hr8; have HC8 := Lib.hid (hc8 none_ wD HC7.out (fun h => absurd h (Nat.lt_irrefl _))); clear hr8 hc8 hs8))
                have HRN8 := Lib.hid (HRN.out.chg HC8.out (fun h => h))
                have HRS8 := Lib.hid (HRSD.out.chg HC8.out (fun h => h))
                have HRK8 := Lib.hid (HRKD.out.chg HC8.out (fun h => h))
                have HC8w := Lib.hid (HCDw.out.trans (HC8.out.mono (fun _ _ h => h.elim)))
                have HNMN := Lib.hid (show ¬ wD.heap.size = wB.heap.size by have := HRN.out.lt; omega)
                go_loopw [14] (fun cv wr => ∃ c : Nat, c ≤ 4 ∧ cv = .int .i64 c ∧ Row wr wB.heap.size 132 (u8s (mixP N c)) ∧ Chg (· = wB.heap.size) w8 wr) (fun cv _ => 4 - (intOf cv).toNat)
                case atStart => exact ⟨0, Nat.zero_le _, rfl, by rw [mixP_0 _ HNL.out]; exact HRN8.out, Chg.refl _ _⟩
                case round =>
                  obtain ⟨c, hc, rfl, hrow, hch⟩ := hrel
                  by_cases hlc : c < 4
                  · have s0 : (0 : Int) ≤ (c : Int) := by omega
                    have s1 : (c : Int) < 4 := by omega
                    have HMS := mixP_set N c hlc
                    have HROW0 := Lib.hid hrow
                    have HRM0 := Lib.hid (HR8.out.chg hch HNMN.out)
                    have HCc0 := Lib.hid hch
                    have HLL0 := Lib.hid (mixP_len N c)
                    have hp := HNX.out c
                    have hq := HNX.out (4 + c)
                    have hr := HNX.out (8 + c)
                    have ht := HNX.out (12 + c)
                    rw [mixT0 N c hlc, mixT1 N c hlc, mixT2 N c hlc, mixT3 N c hlc] at HMS
                    clear hrow hch
                    generalize hL0 : mixP N c = L0 at HROW0 HMS HLL0
                    clear hL0
                    obtain ⟨p, hpe⟩ : ∃ p, N.getD c 0 = p := ⟨_, rfl⟩
                    obtain ⟨q, hqe⟩ : ∃ q, N.getD (4 + c) 0 = q := ⟨_, rfl⟩
                    obtain ⟨r, hre⟩ : ∃ r, N.getD (8 + c) 0 = r := ⟨_, rfl⟩
                    obtain ⟨t, hte⟩ : ∃ t, N.getD (12 + c) 0 = t := ⟨_, rfl⟩
                    rw [hpe, hqe, hre, hte] at HMS
                    rw [hpe] at hp
                    rw [hqe] at hq
                    rw [hre] at hr
                    rw [hte] at ht
                    obtain ⟨y1, y2, y3, y4⟩ := mixI hp hq hr ht
                    have HT1 := Lib.hid (fun w => rtimes_any p 2 hp (by decide) w)
                    have HT2 := Lib.hid (fun w => rtimes_any q 3 hq (by decide) w)
                    have HT3 := Lib.hid (fun w => rtimes_any q 2 hq (by decide) w)
                    have HT4 := Lib.hid (fun w => rtimes_any r 3 hr (by decide) w)
                    have HT5 := Lib.hid (fun w => rtimes_any r 2 hr (by decide) w)
                    have HT6 := Lib.hid (fun w => rtimes_any t 3 ht (by decide) w)
                    have HT7 := Lib.hid (fun w => rtimes_any p 3 hp (by decide) w)
                    have HT8 := Lib.hid (fun w => rtimes_any t 2 ht (by decide) w)
                    generalize mulN p 2 = p2 at y1 HT1
                    generalize mulN q 3 = q3 at y1 HT2
                    generalize mulN q 2 = q2 at y2 HT3
                    generalize mulN r 3 = r3 at y2 HT4
                    generalize mulN r 2 = r2 at y3 HT5
                    generalize mulN t 3 = t3 at y3 HT6
                    generalize mulN p 3 = p3 at y4 HT7
                    generalize mulN t 2 = t2 at y4 HT8
                    generalize mixC p q r t = m0 at y1 HMS
                    generalize mixC q r t p = m1 at y2 HMS
                    generalize mixC r t p q = m2 at y3 HMS
                    generalize mixC t p q r = m3 at y4 HMS
                    clear hp hq hr ht
                    have c0 := Row.u8 HRM0.out (i := c) (by rw [HNL.out]; omega)
                    have c1 := Row.u8 HRM0.out (i := 4 + c) (by rw [HNL.out]; omega)
                    have c2 := Row.u8 HRM0.out (i := 8 + c) (by rw [HNL.out]; omega)
                    have c3 := Row.u8 HRM0.out (i := 12 + c) (by rw [HNL.out]; omega)
                    rw [hpe] at c0
                    rw [hqe] at c1
                    rw [hre] at c2
                    rw [hte] at c3
                    have o0 := Row.u8 HROW0.out (i := c) (by rw [HLL0.out]; omega)
                    have f0 := HROW0.out.frozen (c)
                    generalize L0.getD (c) 0 = z0 at o0
                    go_wp2
                    refine wp_region_still_tail 24 (by kernel_rfl) (by kernel_rfl) ?_
                    simp only [List.take_succ_cons, List.take_zero, List.drop_succ_cons, List.drop_zero]
                    iterate 5 still_step
                    still_call ((HT1.out _).mono fun _ _ h => ⟨h.1, h.2.symm⟩)
                    iterate 4 still_step
                    still_call ((HT2.out _).mono fun _ _ h => ⟨h.1, h.2.symm⟩)
                    iterate 13 still_step
                    refine wpStill_nil ?_
                    change wpList _ _ _ _ _ (World.drew _)
                    go_wp2
                    obtain ⟨x1, hx_⟩ : ∃ x_ : World, x_ = (wr.setCell ⟨wB.heap.size, c, none⟩ (.int .u8 ((m0 : Nat) : Int))).drew := ⟨_, rfl⟩
                    obtain ⟨L1, hL_⟩ : ∃ L_, L_ = L0.set (c) m0 := ⟨_, rfl⟩
                    rw [← hx_]
                    have HROW1 : Hid (Row x1 wB.heap.size 132 (u8s L1)) := Lib.hid (by rw [hx_, hL_, ← u8s_set]; exact (HROW0.out.set _ _).drew)
                    have HCy : Hid (Chg (· = wB.heap.size) wr x1) := Lib.hid (by rw [hx_]; exact ((Chg.refl (· = wB.heap.size) wr).setCell (fun _ => rfl) _).drew)
                    have HRM1 := Lib.hid (HRM0.out.chg HCy.out HNMN.out)
                    have HCc1 := Lib.hid (HCc0.out.trans HCy.out)
                    have HLL1 : Hid (L1.length = 16) := Lib.hid (by rw [hL_, List.length_set]; exact HLL0.out)
                    rw [← hL_] at HMS
                    clear hx_ hL_ HCy c0 c1 c2 c3 o0 f0 HROW0 HRM0 HLL0 HCc0
                    have c0 := Row.u8 HRM1.out (i := c) (by rw [HNL.out]; omega)
                    have c1 := Row.u8 HRM1.out (i := 4 + c) (by rw [HNL.out]; omega)
                    have c2 := Row.u8 HRM1.out (i := 8 + c) (by rw [HNL.out]; omega)
                    have c3 := Row.u8 HRM1.out (i := 12 + c) (by rw [HNL.out]; omega)
                    rw [hpe] at c0
                    rw [hqe] at c1
                    rw [hre] at c2
                    rw [hte] at c3
                    have o0 := Row.u8 HROW1.out (i := 4 + c) (by rw [HLL1.out]; omega)
                    have f0 := HROW1.out.frozen (4 + c)
                    generalize L1.getD (4 + c) 0 = z0 at o0
                    refine wp_region_still_tail 24 (by kernel_rfl) (by kernel_rfl) ?_
                    simp only [List.take_succ_cons, List.take_zero, List.drop_succ_cons, List.drop_zero]
                    iterate 9 still_step
                    still_call ((HT3.out _).mono fun _ _ h => ⟨h.1, h.2.symm⟩)
                    iterate 5 still_step
                    still_call ((HT4.out _).mono fun _ _ h => ⟨h.1, h.2.symm⟩)
                    iterate 8 still_step
                    refine wpStill_nil ?_
                    change wpList _ _ _ _ _ (World.drew _)
                    go_wp2
                    obtain ⟨x2, hx_⟩ : ∃ x_ : World, x_ = (x1.setCell ⟨wB.heap.size, 4 + c, none⟩ (.int .u8 ((m1 : Nat) : Int))).drew := ⟨_, rfl⟩
                    obtain ⟨L2, hL_⟩ : ∃ L_, L_ = L1.set (4 + c) m1 := ⟨_, rfl⟩
                    rw [← hx_]
                    have HROW2 : Hid (Row x2 wB.heap.size 132 (u8s L2)) := Lib.hid (by rw [hx_, hL_, ← u8s_set]; exact (HROW1.out.set _ _).drew)
                    have HCy : Hid (Chg (· = wB.heap.size) x1 x2) := Lib.hid (by rw [hx_]; exact ((Chg.refl (· = wB.heap.size) x1).setCell (fun _ => rfl) _).drew)
                    have HRM2 := Lib.hid (HRM1.out.chg HCy.out HNMN.out)
                    have HCc2 := Lib.hid (HCc1.out.trans HCy.out)
                    have HLL2 : Hid (L2.length = 16) := Lib.hid (by rw [hL_, List.length_set]; exact HLL1.out)
                    rw [← hL_] at HMS
                    clear hx_ hL_ HCy c0 c1 c2 c3 o0 f0 HROW1 HRM1 HLL1 HCc1
                    have c0 := Row.u8 HRM2.out (i := c) (by rw [HNL.out]; omega)
                    have c1 := Row.u8 HRM2.out (i := 4 + c) (by rw [HNL.out]; omega)
                    have c2 := Row.u8 HRM2.out (i := 8 + c) (by rw [HNL.out]; omega)
                    have c3 := Row.u8 HRM2.out (i := 12 + c) (by rw [HNL.out]; omega)
                    rw [hpe] at c0
                    rw [hqe] at c1
                    rw [hre] at c2
                    rw [hte] at c3
                    have o0 := Row.u8 HROW2.out (i := 8 + c) (by rw [HLL2.out]; omega)
                    have f0 := HROW2.out.frozen (8 + c)
                    generalize L2.getD (8 + c) 0 = z0 at o0
                    refine wp_region_still_tail 24 (by kernel_rfl) (by kernel_rfl) ?_
                    simp only [List.take_succ_cons, List.take_zero, List.drop_succ_cons, List.drop_zero]
                    iterate 14 still_step
                    still_call ((HT5.out _).mono fun _ _ h => ⟨h.1, h.2.symm⟩)
                    iterate 5 still_step
                    still_call ((HT6.out _).mono fun _ _ h => ⟨h.1, h.2.symm⟩)
                    iterate 3 still_step
                    refine wpStill_nil ?_
                    change wpList _ _ _ _ _ (World.drew _)
                    go_wp2
                    obtain ⟨x3, hx_⟩ : ∃ x_ : World, x_ = (x2.setCell ⟨wB.heap.size, 8 + c, none⟩ (.int .u8 ((m2 : Nat) : Int))).drew := ⟨_, rfl⟩
                    obtain ⟨L3, hL_⟩ : ∃ L_, L_ = L2.set (8 + c) m2 := ⟨_, rfl⟩
                    rw [← hx_]
                    have HROW3 : Hid (Row x3 wB.heap.size 132 (u8s L3)) := Lib.hid (by rw [hx_, hL_, ← u8s_set]; exact (HROW2.out.set _ _).drew)
                    have HCy : Hid (Chg (· = wB.heap.size) x2 x3) := Lib.hid (by rw [hx_]; exact ((Chg.refl (· = wB.heap.size) x2).setCell (fun _ => rfl) _).drew)
                    have HRM3 := Lib.hid (HRM2.out.chg HCy.out HNMN.out)
                    have HCc3 := Lib.hid (HCc2.out.trans HCy.out)
                    have HLL3 : Hid (L3.length = 16) := Lib.hid (by rw [hL_, List.length_set]; exact HLL2.out)
                    rw [← hL_] at HMS
                    clear hx_ hL_ HCy c0 c1 c2 c3 o0 f0 HROW2 HRM2 HLL2 HCc2
                    have c0 := Row.u8 HRM3.out (i := c) (by rw [HNL.out]; omega)
                    have c1 := Row.u8 HRM3.out (i := 4 + c) (by rw [HNL.out]; omega)
                    have c2 := Row.u8 HRM3.out (i := 8 + c) (by rw [HNL.out]; omega)
                    have c3 := Row.u8 HRM3.out (i := 12 + c) (by rw [HNL.out]; omega)
                    rw [hpe] at c0
                    rw [hqe] at c1
                    rw [hre] at c2
                    rw [hte] at c3
                    have o0 := Row.u8 HROW3.out (i := 12 + c) (by rw [HLL3.out]; omega)
                    have f0 := HROW3.out.frozen (12 + c)
                    generalize L3.getD (12 + c) 0 = z0 at o0
                    refine wp_region_still_tail 24 (by kernel_rfl) (by kernel_rfl) ?_
                    simp only [List.take_succ_cons, List.take_zero, List.drop_succ_cons, List.drop_zero]
                    iterate 5 still_step
                    still_call ((HT7.out _).mono fun _ _ h => ⟨h.1, h.2.symm⟩)
                    iterate 14 still_step
                    still_call ((HT8.out _).mono fun _ _ h => ⟨h.1, h.2.symm⟩)
                    iterate 3 still_step
                    refine wpStill_nil ?_
                    change wpList _ _ _ _ _ (World.drew _)
                    go_wp2
                    obtain ⟨x4, hx_⟩ : ∃ x_ : World, x_ = (x3.setCell ⟨wB.heap.size, 12 + c, none⟩ (.int .u8 ((m3 : Nat) : Int))).drew := ⟨_, rfl⟩
                    obtain ⟨L4, hL_⟩ : ∃ L_, L_ = L3.set (12 + c) m3 := ⟨_, rfl⟩
                    rw [← hx_]
                    have HROW4 : Hid (Row x4 wB.heap.size 132 (u8s L4)) := Lib.hid (by rw [hx_, hL_, ← u8s_set]; exact (HROW3.out.set _ _).drew)
                    have HCy : Hid (Chg (· = wB.heap.size) x3 x4) := Lib.hid (by rw [hx_]; exact ((Chg.refl (· = wB.heap.size) x3).setCell (fun _ => rfl) _).drew)
                    have HRM4 := Lib.hid (HRM3.out.chg HCy.out HNMN.out)
                    have HCc4 := Lib.hid (HCc3.out.trans HCy.out)
                    have HLL4 : Hid (L4.length = 16) := Lib.hid (by rw [hL_, List.length_set]; exact HLL3.out)
                    rw [← hL_] at HMS
                    clear hx_ hL_ HCy c0 c1 c2 c3 o0 f0 HROW3 HRM3 HLL3 HCc3
                    go_roundw
                    case rel => exact ⟨c + 1, by omega, by go_num, by rw [← HMS]; exact HROW4.out, HCc4.out⟩
                    case measure => simp [intOf] <;> omega
                  · have hc4 : c = 4 := by omega
                    subst hc4
                    obtain ⟨wE, hwE⟩ : ∃ x, x = wr := ⟨_, rfl⟩
                    subst hwE
                    have HRNX := Lib.hid hrow
                    have HRKX := Lib.hid (HRK8.out.chg hch HNKN.out)
                    have HRSX := Lib.hid (HRS8.out.chg hch HNSN.out)
                    have HCX := Lib.hid (HC8w.out.andThen hch (fun b h e => by have := HLN.out; omega))
                    have HNNL := Lib.hid (mixP_len N 4)
                    have HNNX := HM4X
                    have hFF := HF1.out hk10
                    clear hrow hch hc hlc
                    try simp only [show ((4 : Nat) : Int) = 4 from rfl]
                    go_wp2
                    go_loopw [15] (fun iv wr => ∃ i : Nat, i ≤ 16 ∧ iv = .int .i64 i ∧ Row wr w4.heap.size 132 (u8s (trP (stepF ks (mixP N 4) k) S i)) ∧ Chg (· = w4.heap.size) wE wr) (fun iv _ => 16 - (intOf iv).toNat)
                    case atStart => exact ⟨0, Nat.zero_le _, rfl, by rw [trP_0 _ _ HSLn.out]; exact HRSX.out, Chg.refl _ _⟩
                    case round =>
                      obtain ⟨i, hi, rfl, hrow, hch⟩ := hrel
                      have HCi := Lib.hid hch
                      by_cases hlt : i < 16
                      · have q0 : (0 : Int) ≤ (i : Int) := by omega
                        have q1 : (i : Int) < 16 := by omega
                        obtain ⟨q, hq⟩ : ∃ q, i / 4 = q := ⟨_, rfl⟩
                        obtain ⟨r, hr⟩ : ∃ r, i % 4 = r := ⟨_, rfl⟩
                        have d1 : Int.tdiv (i : Int) 4 = (q : Int) := by rw [Int.tdiv_eq_ediv_of_nonneg (by omega)]; omega
                        have d2 : (i : Int) / 4 = (q : Int) := by omega
                        have d3 : Int.tmod (i : Int) 4 = (r : Int) := by rw [Int.tmod_eq_emod_of_nonneg (by omega)]; omega
                        have d4 : (i : Int) % 4 = (r : Int) := by omega
                        have d5 : (0 : Int) ≤ (q : Int) ∧ (0 : Int) ≤ (r : Int) := by omega
                        have d6 : (q : Int) < 4 := by omega
                        have d7 : (r : Int) < 4 := by omega
                        obtain ⟨d8, d9⟩ := d5
                        have hp : posT i = r * 4 + q := by unfold posT; rw [hr, hq]
                        have hk1 := HKB.out
                        have u0 : (0 : Int) ≤ 4 * (k : Int) + (q : Int) := by omega
                        have u1 : 4 * (k : Int) + (q : Int) < 44 := by omega
                        have u2 : (4 * (k : Int) + (q : Int)).toNat = 4 * k + q := by omega
                        have cn := Row.u8 (HRNX.out.chg hch HNN.out) (i := r * 4 + q) (by rw [HNNL.out]; omega)
                        have ck := Row.u8 (HRKX.out.chg hch HNK.out) (i := (4 * k + q) * 4 + r) (by rw [HK.out]; omega)
                        have cs := Row.u8 hrow (i := r * 4 + q) (by rw [trP_len]; omega)
                        have hf := hrow.frozen (r * 4 + q)
                        have HTS := trP_set (stepF ks (mixP N 4) k) S i hlt
                        rw [hp, stepF, hp] at HTS
                        rw [show (4 * k + q) * 4 + r = 16 * k + i from by omega] at ck
                        rw [show 16 * k + i = (4 * k + q) * 4 + r from by omega] at ck
                        have HXN := HNNX.out (r * 4 + q)
                        have HXK := HKX.out (16 * k + i)
                        have ek : ks.getD ((4 * k + q) * 4 + r) 0 = ks.getD (16 * k + i) 0 := by rw [show (4 * k + q) * 4 + r = 16 * k + i from by omega]
                        rw [ek] at ck
                        have HSET := Lib.hid (hrow.set (r * 4 + q) (.int .u8 (((mixP N 4).getD (r * 4 + q) 0 ^^^ ks.getD (16 * k + i) 0 : Nat) : Int)))
                        have HTSS := Lib.hid HTS
                        clear HTS ek
                        generalize (trP (stepF ks (mixP N 4) k) S i).getD (r * 4 + q) 0 = z at cs
                        generalize (mixP N 4).getD (r * 4 + q) 0 = x at cn HXN HTSS HSET
                        generalize ks.getD (16 * k + i) 0 = y at ck HXK HTSS HSET
                        have xx := u8_xor_nat x y HXN HXK
                        clear hrow hch hp hq hr
                        go_wp2
                        go_region
                        go_wp2
                        go_roundw
                        case rel => exact ⟨i + 1, by omega, by go_num, by rw [← HTSS.out, ← u8s_set]; exact HSET.out, HCi.out.drew.setCell (fun _ => rfl) _⟩
                        case measure => simp [intOf] <;> omega
                      · have hk16 : i = 16 := by omega
                        subst hk16
                        have HRS7 : Hid (Row wr w4.heap.size 132 (u8s (trB (roundsB ks b k)))) := Lib.hid (by rw [trP_all] at hrow; rw [hFF] at hrow; exact hrow)
                        have HKE := HKB.out
                        clear hrow hch hi hlt
                        try simp only [show ((16 : Nat) : Int) = 16 from rfl]
                        go_wp2
                        go_roundw
                        case rel => exact ⟨k + 1, by omega, by omega, by go_num, by rw [Nat.add_sub_cancel]; exact HRS7.out, HCX.out.trans HCi.out⟩
                        case measure => simp [intOf] <;> omega
              · have hk10i : ¬ (k : Int) < 10 := by omega
                have HRNX := HRN
                have HRKX := HRKD
                have HRSX := HRSD
                have HCX := HCDw
                have HNNL := HNL
                have HNNX := HNX
                have hFF := HF2.out hk10
                go_wp2
                go_loopw [15] (fun iv wr => ∃ i : Nat, i ≤ 16 ∧ iv = .int .i64 i ∧ Row wr w4.heap.size 132 (u8s (trP (stepF ks (N) k) S i)) ∧ Chg (· = w4.heap.size) wD wr) (fun iv _ => 16 - (intOf iv).toNat)
                case atStart => exact ⟨0, Nat.zero_le _, rfl, by rw [trP_0 _ _ HSLn.out]; exact HRSX.out, Chg.refl _ _⟩
                case round =>
                  obtain ⟨i, hi, rfl, hrow, hch⟩ := hrel
                  have HCi := Lib.hid hch
                  by_cases hlt : i < 16
                  · have q0 : (0 : Int) ≤ (i : Int) := by omega
                    have q1 : (i : Int) < 16 := by omega
                    obtain ⟨q, hq⟩ : ∃ q, i / 4 = q := ⟨_, rfl⟩
                    obtain ⟨r, hr⟩ : ∃ r, i % 4 = r := ⟨_, rfl⟩
                    have d1 : Int.tdiv (i : Int) 4 = (q : Int) := by rw [Int.tdiv_eq_ediv_of_nonneg (by omega)]; omega
                    have d2 : (i : Int) / 4 = (q : Int) := by omega
                    have d3 : Int.tmod (i : Int) 4 = (r : Int) := by rw [Int.tmod_eq_emod_of_nonneg (by omega)]; omega
                    have d4 : (i : Int) % 4 = (r : Int) := by omega
                    have d5 : (0 : Int) ≤ (q : Int) ∧ (0 : Int) ≤ (r : Int) := by omega
                    have d6 : (q : Int) < 4 := by omega
                    have d7 : (r : Int) < 4 := by omega
                    obtain ⟨d8, d9⟩ := d5
                    have hp : posT i = r * 4 + q := by unfold posT; rw [hr, hq]
                    have hk1 := HKB.out
                    have u0 : (0 : Int) ≤ 4 * (k : Int) + (q : Int) := by omega
                    have u1 : 4 * (k : Int) + (q : Int) < 44 := by omega
                    have u2 : (4 * (k : Int) + (q : Int)).toNat = 4 * k + q := by omega
                    have cn := Row.u8 (HRNX.out.chg hch HNN.out) (i := r * 4 + q) (by rw [HNNL.out]; omega)
                    have ck := Row.u8 (HRKX.out.chg hch HNK.out) (i := (4 * k + q) * 4 + r) (by rw [HK.out]; omega)
                    have cs := Row.u8 hrow (i := r * 4 + q) (by rw [trP_len]; omega)
                    have hf := hrow.frozen (r * 4 + q)
                    have HTS := trP_set (stepF ks (N) k) S i hlt
                    rw [hp, stepF, hp] at HTS
                    rw [show (4 * k + q) * 4 + r = 16 * k + i from by omega] at ck
                    rw [show 16 * k + i = (4 * k + q) * 4 + r from by omega] at ck
                    have HXN := HNNX.out (r * 4 + q)
                    have HXK := HKX.out (16 * k + i)
                    have ek : ks.getD ((4 * k + q) * 4 + r) 0 = ks.getD (16 * k + i) 0 := by rw [show (4 * k + q) * 4 + r = 16 * k + i from by omega]
                    rw [ek] at ck
                    have HSET := Lib.hid (hrow.set (r * 4 + q) (.int .u8 (((N).getD (r * 4 + q) 0 ^^^ ks.getD (16 * k + i) 0 : Nat) : Int)))
                    have HTSS := Lib.hid HTS
                    clear HTS ek
                    generalize (trP (stepF ks (N) k) S i).getD (r * 4 + q) 0 = z at cs
                    generalize (N).getD (r * 4 + q) 0 = x at cn HXN HTSS HSET
                    generalize ks.getD (16 * k + i) 0 = y at ck HXK HTSS HSET
                    have xx := u8_xor_nat x y HXN HXK
                    clear hrow hch hp hq hr
                    go_wp2
                    go_region
                    go_wp2
                    go_roundw
                    case rel => exact ⟨i + 1, by omega, by go_num, by rw [← HTSS.out, ← u8s_set]; exact HSET.out, HCi.out.drew.setCell (fun _ => rfl) _⟩
                    case measure => simp [intOf] <;> omega
                  · have hk16 : i = 16 := by omega
                    subst hk16
                    have HRS7 : Hid (Row wr w4.heap.size 132 (u8s (trB (roundsB ks b k)))) := Lib.hid (by rw [trP_all] at hrow; rw [hFF] at hrow; exact hrow)
                    have HKE := HKB.out
                    clear hrow hch hi hlt
                    try simp only [show ((16 : Nat) : Int) = 16 from rfl]
                    go_wp2
                    go_roundw
                    case rel => exact ⟨k + 1, by omega, by omega, by go_num, by rw [Nat.add_sub_cancel]; exact HRS7.out, HCX.out.trans HCi.out⟩
                    case measure => simp [intOf] <;> omega
        · have q9 : ¬ (k : Int) ≤ 10 := by omega
          have hk : k = 11 := by omega
          subst hk
          have HOUT : Hid ((List.range 16).map (outF (trB (roundsB ks b (11 - 1)))) = encN ks b) := Lib.hid (by rw [outF_all, trB_trB _ (roundsB_len _ _ _)]; rfl)
          have HRRB := Lib.hid (HRR.out.chg hch HNR.out)
          have HOL := Lib.hid (encN_len ks b)
          clear hrow hch hk1 hk11 hlt
          generalize trB (roundsB ks b (11 - 1)) = S at *
          obtain ⟨OO, hOO⟩ : ∃ OO, OO = encN ks b := ⟨_, rfl⟩
          rw [← hOO] at HOUT HOL
          have HOO := Lib.hid hOO
          clear hOO
          try simp only [show ((11 : Nat) : Int) = 11 from rfl]
          go_wp2_with (first | ((with_reducible show wpList _ _ _ (⟨some 16, .alloc 26, _, _, _, _⟩ :: _) _ _); refine wpList_alloc_Row rfl rfl (u8s (List.replicate 16 0)) zero26 ?_; intro w9 hr9 hc9 hs9; have HR9 := Lib.hid hr9; have HC9 := Lib.hid hc9; clear hr9 hc9 hs9))
          have HRS9 := Lib.hid (HRSB.out.chg HC9.out (fun h => h))
          have HRRw := Lib.hid (HRRB.out.chg HC9.out (fun h => h))
          have HC9w := Lib.hid (HCB.out.trans (HC9.out.mono (fun _ _ h => h.elim)))
          go_loopw [17] (fun iv wr => ∃ i : Nat, i ≤ 16 ∧ iv = .int .i64 i ∧ Row wr wB.heap.size 26 (u8s (fillN (outF S) 16 i)) ∧ Chg (· = wB.heap.size) w9 wr) (fun iv _ => 16 - (intOf iv).toNat)
          case atStart => exact ⟨0, Nat.zero_le _, rfl, by rw [fillN_0]; exact HR9.out, Chg.refl _ _⟩
          case round =>
            obtain ⟨i, hi, rfl, hrow, hch⟩ := hrel
            have HCi := Lib.hid hch
            by_cases hlt : i < 16
            · have q0 : (0 : Int) ≤ (i : Int) := by omega
              have q1 : (i : Int) < 16 := by omega
              obtain ⟨q, hq⟩ : ∃ q, i / 4 = q := ⟨_, rfl⟩
              obtain ⟨r, hr⟩ : ∃ r, i % 4 = r := ⟨_, rfl⟩
              have d1 : Int.tdiv (i : Int) 4 = (q : Int) := by rw [Int.tdiv_eq_ediv_of_nonneg (by omega)]; omega
              have d2 : (i : Int) / 4 = (q : Int) := by omega
              have d3 : Int.tmod (i : Int) 4 = (r : Int) := by rw [Int.tmod_eq_emod_of_nonneg (by omega)]; omega
              have d4 : (i : Int) % 4 = (r : Int) := by omega
              have d5 : (0 : Int) ≤ (q : Int) ∧ (0 : Int) ≤ (r : Int) := by omega
              have d6 : (q : Int) < 4 := by omega
              have d7 : (r : Int) < 4 := by omega
              obtain ⟨d8, d9⟩ := d5
              have hp : posT i = r * 4 + q := by unfold posT; rw [hr, hq]
              have cs := Row.u8 (HRS9.out.chg hch HNSN.out) (i := r * 4 + q) (by rw [HSLn.out]; omega)
              have co := Row.u8 hrow (i := i) (by rw [fillN_len _ _ _ hi]; exact hlt)
              have hf := hrow.frozen i
              have HFS := fillN_set (outF S) 16 i hlt
              rw [outF, hp] at HFS
              have HFSS := Lib.hid HFS
              have HSET := Lib.hid (hrow.set i (.int .u8 ((S.getD (r * 4 + q) 0 : Nat) : Int)))
              generalize (fillN (outF S) 16 i).getD i 0 = z at co
              generalize S.getD (r * 4 + q) 0 = x at cs HFSS HSET
              clear hrow hch hp hq hr HFS
              go_wp2
              go_roundw
              case rel => exact ⟨i + 1, by omega, by go_num, by rw [← HFSS.out, ← u8s_set]; exact HSET.out, HCi.out.setCell (fun _ => rfl) _⟩
              case measure => simp [intOf] <;> omega
            · have hk16 : i = 16 := by omega
              subst hk16
              obtain ⟨wD, hwD⟩ : ∃ x, x = wr := ⟨_, rfl⟩
              subst hwD
              have HRO : Hid (Row wD wB.heap.size 26 (u8s OO)) := Lib.hid (by rw [fillN_all, HOUT.out] at hrow; exact hrow)
              have HRR9 := Lib.hid (HRRw.out.chg hch HNRN.out)
              have HCE := Lib.hid (HC9w.out.andThen hch (fun b h e => by have := HLN.out; omega))
              clear hrow hch hi hlt
              try simp only [show ((16 : Nat) : Int) = 16 from rfl]
              go_wp2_with (first | ((with_reducible show wpList _ _ _ (⟨some 209, .load 26 _, _, _, _, _⟩ :: _) _ _); refine wpList_load_Row rfl rfl rfl (HRO.out) Tryd.underlying26 rfl (by rw [u8s_length, HOL.out]; exact size26) ?_) | ((with_reducible show wpList _ _ _ (⟨_, .store 26 (.tmp 6) _, _, _, _, _⟩ :: _) _ _); refine wpList_store_Row (xs := u8s OO) rfl rfl rfl (HRR9.out) (rfl) (by rw [u8s_length, u8s_length, HOL.out, List.length_replicate]) (by rw [u8s_length, HOL.out]; exact size26) (u8s_oneA _) ?_; intro w12 hr12 hc12 hs12; have HR12 := Lib.hid hr12; have HC12 := Lib.hid hc12; clear hr12 hc12 hs12))
              refine ret_row rfl rfl HR12.out Tryd.underlying26 rfl (by rw [u8s_length, HOL.out]; exact size26) rfl ?_
              exact ⟨by rw [HOO.out], HC12.out none_ w (HC5.out.andThen HCE.out (fun b h e => by have := HG1.out; omega)) (fun h => by have := HG1.out; omega)⟩
end Go.Proofs.YtidafbpiipjnlaaDoor
