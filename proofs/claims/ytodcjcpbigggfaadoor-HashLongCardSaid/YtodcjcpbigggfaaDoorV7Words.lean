/- Layer 7 (hash): the words of a block. -/
import Derived.Test.YtodcjcpbigggfaaDoorV7Small
import Derived.Test.YtodcjcpbigggfaaDoorAloc
import Derived.Test.YtodcjcpbigggfaaDoorBytes
import Derived.StillTailTactics
namespace Go.Proofs.YtodcjcpbigggfaaDoor
open Go.RowKit

/-- Words as values. -/
def u32s (l : List Nat) : List Value := l.map fun (x : Nat) => Value.int .u32 (x : Int)
@[simp] theorem u32s_length (l : List Nat) : (u32s l).length = l.length := by simp [u32s]
theorem u32s_get (l : List Nat) (i : Nat) : (u32s l)[i]? = l[i]?.map fun (x : Nat) => Value.int .u32 (x : Int) := by simp [u32s]
theorem u32s_set (l : List Nat) (i v : Nat) : (u32s l).set i (.int .u32 (v : Int)) = u32s (l.set i v) := by simp [u32s, List.map_set]
theorem u32s_one (l : List Nat) : (u32s l).all (·.oneCell') = true := by
  rw [List.all_eq_true]; intro u hu
  simp only [u32s, List.mem_map] at hu
  obtain ⟨x, _, rfl⟩ := hu
  rfl
theorem u8s_oneA (l : List Nat) : (u8s l).all (·.oneCell') = true := List.all_eq_true.2 (u8s_one l)
theorem Row.u32 {w : World} {g : Nat} {e : TypeId} {l : List Nat} (h : Row w g e (u32s l)) {i : Nat} (hi : i < l.length) : w.cell? ⟨g, i, none⟩ = some (.int .u32 ((l.getD i 0 : Nat) : Int)) := by
  rw [h.cell, u32s_get, List.getElem?_eq_getElem hi]
  simp [List.getD_eq_getElem?_getD, hi]
theorem Row.u8 {w : World} {g : Nat} {e : TypeId} {l : List Nat} (h : Row w g e (u8s l)) {i : Nat} (hi : i < l.length) : w.cell? ⟨g, i, none⟩ = some (.int .u8 ((l.getD i 0 : Nat) : Int)) := by
  rw [h.cell, u8s_get, List.getElem?_eq_getElem hi]
  simp [List.getD_eq_getElem?_getD, hi]

/-- A word, as far as its bytes came. -/
def partN (b : List Nat) (t : Nat) : Nat → Nat
  | 0 => 0
  | k + 1 => partN b t k * 256 + b.getD (4 * t + k) 0
def preN (b : List Nat) (i : Nat) : List Nat := (List.range 64).map fun t => partN b t (min 4 (i - 4 * t))
theorem preN_len (b : List Nat) (i : Nat) : (preN b i).length = 64 := by simp [preN]
theorem preN_0 (b : List Nat) : preN b 0 = List.replicate 64 0 := by
  apply List.ext_getElem (by simp [preN])
  intro i h1 h2
  rw [List.getElem_replicate]
  simp [preN, partN]
theorem preN_get (b : List Nat) (i t : Nat) (ht : t < 64) : (preN b i).getD t 0 = partN b t (min 4 (i - 4 * t)) := by
  rw [List.getD_eq_getElem?_getD, List.getElem?_eq_getElem (by simpa [preN] using ht)]
  simp [preN]
theorem preN_set (b : List Nat) (i : Nat) (hi : i < 64) : (preN b i).set (i / 4) ((preN b i).getD (i / 4) 0 * 256 + b.getD i 0) = preN b (i + 1) := by
  rw [preN_get b i (i / 4) (by omega)]
  apply List.ext_getElem (by simp [preN])
  intro j h1 h2
  have hj : j < 64 := by simpa [preN] using h2
  rw [List.getElem_set]
  simp only [preN, List.getElem_map, List.getElem_range]
  by_cases he : i / 4 = j
  · subst he
    rw [if_pos rfl, show min 4 (i + 1 - 4 * (i / 4)) = min 4 (i - 4 * (i / 4)) + 1 from by omega, partN]
    congr 2
    omega
  · rw [if_neg he]
    congr 1
    omega
theorem partN_lt {b : List Nat} (hb : ∀ x ∈ b, x < 256) (t : Nat) : ∀ k, partN b t k < 256 ^ k
  | 0 => by simp [partN]
  | k + 1 => by
    have h1 := partN_lt hb t k
    have h2 := getD_lt hb (4 * t + k) (by decide)
    rw [partN, Nat.pow_succ]
    omega
theorem partN_4 (b : List Nat) (t : Nat) : partN b t 4 = wordOf b t := by simp [partN, wordOf]
theorem wordsN_get (b : List Nat) : ∀ (n t : Nat), t < n → n ≤ 16 → (wordsN b n)[t]? = some (wordOf b t)
  | 0, t, h, _ => absurd h (by omega)
  | n + 1, t, h, hn => by
    rw [wordsN]
    by_cases he : t = n
    · subst he
      rw [List.getElem?_append_right (by rw [wordsN_len]; omega), wordsN_len, if_pos (by omega)]
      simp
    · rw [List.getElem?_append_left (by rw [wordsN_len]; omega)]
      exact wordsN_get b n t (by omega) (by omega)
theorem preN_64 (b : List Nat) : preN b 64 = wordsN b 16 ++ List.replicate 48 0 := by
  apply List.ext_getElem?
  intro t
  by_cases ht : t < 64
  · rw [List.getElem?_eq_getElem (by rw [preN_len]; exact ht)]
    simp only [preN, List.getElem_map, List.getElem_range]
    by_cases h16 : t < 16
    · rw [List.getElem?_append_left (by rw [wordsN_len]; exact h16), wordsN_get b 16 t h16 (by omega), show min 4 (64 - 4 * t) = 4 from by omega, partN_4]
    · rw [List.getElem?_append_right (by rw [wordsN_len]; omega), wordsN_len, show min 4 (64 - 4 * t) = 0 from by omega, List.getElem?_replicate, if_pos (by omega)]
      rfl
  · rw [List.getElem?_eq_none (by rw [preN_len]; omega), List.getElem?_eq_none (by simp [wordsN_len]; omega)]

/-- The words, as far as they are there. -/
def midN (b : List Nat) (i : Nat) : List Nat := wordsN b (16 + i) ++ List.replicate (48 - i) 0
theorem midN_len (b : List Nat) (i : Nat) (hi : i ≤ 48) : (midN b i).length = 64 := by simp [midN, wordsN_len]; omega
theorem midN_get (b : List Nat) (i t : Nat) (ht : t < 16 + i) : (midN b i).getD t 0 = (wordsN b (16 + i)).getD t 0 := by
  rw [List.getD_eq_getElem?_getD, List.getD_eq_getElem?_getD, midN, List.getElem?_append_left (by rw [wordsN_len]; exact ht)]
theorem midN_set (b : List Nat) (i : Nat) (hi : i < 48) : (midN b i).set (16 + i) (wordNext (wordsN b (16 + i)) (16 + i)) = midN b (i + 1) := by
  have e1 : List.replicate (48 - i) 0 = 0 :: List.replicate (48 - (i + 1)) 0 := by rw [show 48 - i = (48 - (i + 1)) + 1 from by omega, List.replicate_succ]
  unfold midN
  rw [e1, List.set_append_right _ _ (by rw [wordsN_len]; omega), wordsN_len, Nat.sub_self, List.set_cons_zero, show 16 + (i + 1) = (16 + i) + 1 from by omega, wordsN, if_neg (by omega)]
  simp
theorem midN_48 (b : List Nat) : midN b 48 = wordsN b 64 := by simp [midN]

theorem sum4 (a b c d : Nat) : IntKind.u32.wrap (IntKind.u32.wrap (IntKind.u32.wrap ((a : Int) + (b : Int)) + (c : Int)) + (d : Int)) = ((a + b + c + d) % 4294967296 : Nat) := by
  show (((((a : Int) + b) % 4294967296 + c) % 4294967296) + d) % 4294967296 = _
  omega
theorem mid0 (b : List Nat) : midN b 0 = wordsN b 16 ++ List.replicate 48 0 := rfl
theorem zero51 : (Tryd.prog.info? 51).map (·.zero) = some (some (.agg (u32s (List.replicate 64 0)).toArray)) := by kernel_rfl
theorem size51 : (Tryd.prog.info? 51).map (·.size) = some 64 := by kernel_rfl
theorem or_byte (x y : Nat) (hx : x < 16777216) (hy : y < 256) : bits .or .u32 (IntKind.u32.wrap ((x : Int) * 256)) (IntKind.u32.wrap (y : Int)) = ((x * 256 + y : Nat) : Int) := by
  have e : IntKind.u32.wrap ((x : Int) * 256) = ((x * 256 : Nat) : Int) := by show ((x : Int) * 256) % 4294967296 = _; omega
  have e2 : IntKind.u32.wrap (y : Int) = ((y : Nat) : Int) := by show (y : Int) % 4294967296 = _; omega
  rw [e, e2, u32_or_nat _ _ (by omega) (by omega), or_256 x y hy]

set_option maxRecDepth 100000 in
set_option maxHeartbeats 1000000 in
theorem words_any (b : List Nat) (w : World) (hl : b.length = 64) (hb : ∀ x ∈ b, x < 256) : Calls Tryd.prog 27 #[.agg (u8s b).toArray] w fun e w' => e = .returned (.agg (u32s (wordsN b 64)).toArray) ∧ Chg none_ w w' := by
  have HL := Lib.hid hl
  have HB := Lib.hid (fun i => getD_lt hb i (by decide))
  have HP := Lib.hid (partN_lt hb)
  have HBB := Lib.hid hb
  clear hl hb
  go_enter Tryd.func27, Tryd.ntmps27
  go_wp2_with (first | ((with_reducible show wpList _ _ _ (⟨_, .box 41 _, _, _, _, _⟩ :: _) _ _); refine wpList_box_Row rfl rfl (u8s b) rfl ?_; intro w1 hr1 hc1 hs1; have HR1 := Lib.hid hr1; have HC1 := Lib.hid hc1; have h1 := hc1.size; have HS1 := Lib.hid hs1; clear hr1 hc1 hs1) | ((with_reducible show wpList _ _ _ (⟨some 2, .alloc 51, _, _, _, _⟩ :: _) _ _); refine wpList_alloc_Row rfl rfl (u32s (List.replicate 64 0)) zero51 ?_; intro w2 hr2 hc2 hs2; have HR2 := Lib.hid hr2; have HC2 := Lib.hid hc2; have HS2 := Lib.hid hs2; clear hr2 hc2 hs2) | ((with_reducible show wpList _ _ _ (⟨some 3, .alloc 51, _, _, _, _⟩ :: _) _ _); refine wpList_alloc_Row rfl rfl (u32s (List.replicate 64 0)) zero51 ?_; intro w3 hr3 hc3 hs3; have HR3 := Lib.hid hr3; have HC3 := Lib.hid hc3; have HS3 := Lib.hid hs3; clear hr3 hc3 hs3))
  have hg1 : w.heap.size < w1.heap.size := HR1.out.lt
  have hg2 : w1.heap.size < w2.heap.size := HR2.out.lt
  have hg3 : w2.heap.size < w3.heap.size := HR3.out.lt
  generalize hG2 : w1.heap.size = g2 at *
  generalize hG3 : w2.heap.size = g3 at *
  have HG1 : Hid (Row w3 w.heap.size 41 (u8s b)) := Lib.hid ((HR1.out.chg HC2.out (fun h => h)).chg HC3.out (fun h => h))
  have HG2 : Hid (Row w3 g2 51 (u32s (List.replicate 64 0))) := Lib.hid (HR2.out.chg HC3.out (fun h => h))
  have HR3' : Hid (Row w3 g3 51 (u32s (List.replicate 64 0))) := HR3
  have HCH : Hid (Chg none_ w w3) := Lib.hid ((HC1.out.trans HC2.out).trans HC3.out)
  clear hG2 hG3
  clear HR1 HR2 HC1 HC2 HC3 HS1 HS2 HS3
  have HGW := Lib.hid (show ¬ g2 < w.heap.size ∧ ¬ g3 < w.heap.size ∧ w.heap.size ≠ g3 ∧ g2 ≠ g3 by omega)
  clear h1 hg1 hg2 hg3
  generalize hG1 : w.heap.size = g1 at HG1 ⊢
  have HE1 := Lib.hid hG1
  clear hG1
  go_loopw [7] (fun i wr => ∃ k : Nat, k ≤ 64 ∧ i = .int .i64 k ∧ Row wr g3 51 (u32s (preN b k)) ∧ Chg (· = g3) w3 wr) (fun i _ => 64 - (intOf i).toNat)
  case atStart => exact ⟨0, Nat.zero_le _, rfl, by rw [preN_0]; exact HR3'.out, Chg.refl _ _⟩
  case round =>
    obtain ⟨k, hk, rfl, hrow, hch⟩ := hrel
    have HROW := Lib.hid hrow
    have HCR := Lib.hid hch
    by_cases hlt : k < 64
    · have c1 := Row.u32 hrow (i := k / 4) (by rw [preN_len]; omega)
      have c2 := Row.u8 (HG1.out.chg hch (by rw [← HE1.out]; exact HGW.out.2.2.1)) (i := k) (by rw [HL.out]; exact hlt)
      have hf := hrow.frozen (k / 4)
      have hy := HB.out k
      have hx : (preN b k).getD (k / 4) 0 < 16777216 := by
        rw [preN_get b k (k / 4) (by omega)]
        refine Nat.lt_of_lt_of_le (HP.out _ _) ?_
        exact Nat.pow_le_pow_right (n := 256) (by omega) (by omega : min 4 (k - 4 * (k / 4)) ≤ 3)
      have HSET := Lib.hid (preN_set b k hlt)
      have HSR := Lib.hid (hrow.set (k / 4))
      clear hrow hch
      generalize (preN b k).getD (k / 4) 0 = x at c1 hx HSET
      generalize b.getD k 0 = y at c2 hy HSET
      have HO := Lib.hid (or_byte x y hx hy)
      go_wp2
      have q1 : IntKind.i64.wrap ((k : Int) / 4) = (k : Int) / 4 := IntWalk.i64_in _ (by omega)
      have q2 : (0 : Int) ≤ (k : Int) / 4 := by omega
      have q3 : (k : Int) / 4 < 64 := by omega
      have q4 : ((k : Int) / 4).toNat = k / 4 := by omega
      have q5 : (0 : Int) ≤ (k : Int) := by omega
      have q6 : (k : Int) < 64 := by omega
      go_still_tail 13, (by kernel_rfl)
      clear q1 q2 q3 q4 q5 q6
      rw [HO.out]
      change wpList _ _ _ _ _ wr.drew
      go_wp2
      go_roundw
      case rel =>
        refine ⟨k + 1, by omega, by go_num, ?_, HCR.out.drew.setCell (fun _ => rfl) _⟩
        rw [← HSET.out, ← u32s_set]
        exact HSR.out _
      case measure => simp [intOf]; omega
    · have hk64 : k = 64 := by omega
      subst hk64
      rw [show ((64 : Nat) : Int) = 64 from rfl]
      have HR4 := Lib.hid hrow
      have HC4 : Hid (Chg (· = g3) w3 wr) := Lib.hid hch
      clear hrow hch hk hlt HROW HCR
      go_wp2
      go_loopw [24] (fun i wr' => ∃ k : Nat, k ≤ 48 ∧ i = .int .i64 k ∧ Row wr' g3 51 (u32s (midN b k)) ∧ Chg (· = g3) w3 wr') (fun i _ => 48 - (intOf i).toNat)
      case atStart => exact ⟨0, Nat.zero_le _, rfl, by rw [mid0, ← preN_64]; exact HR4.out, HC4.out⟩
      case round =>
        obtain ⟨k, hk, rfl, hrow, hch⟩ := hrel
        clear HR4 HC4
        have HCR := Lib.hid hch
        by_cases hlt : k < 48
        · have hlm := midN_len b k hk
          have c1 := Row.u32 hrow (i := k + 14) (by omega)
          have c2 := Row.u32 hrow (i := k + 9) (by omega)
          have c3 := Row.u32 hrow (i := k + 1) (by omega)
          have c4 := Row.u32 hrow (i := k) (by omega)
          have c5 := Row.u32 hrow (i := k + 16) (by omega)
          generalize (midN b k).getD (k + 16) 0 = x5 at c5
          have hf := hrow.frozen (k + 16)
          have HSET := Lib.hid (midN_set b k hlt)
          have HSR := Lib.hid (hrow.set (k + 16))
          have hw := wordsN_lt HBB.out (16 + k)
          have h1 := getD_lt hw (k + 14) (by decide)
          have h3 := getD_lt hw (k + 1) (by decide)
          have hn : wordNext (wordsN b (16 + k)) (16 + k) = (sg1 ((wordsN b (16 + k)).getD (k + 14) 0) + (wordsN b (16 + k)).getD (k + 9) 0 + sg0 ((wordsN b (16 + k)).getD (k + 1) 0) + (wordsN b (16 + k)).getD k 0) % 4294967296 := by
            unfold wordNext
            rw [show 16 + k - 2 = k + 14 from by omega, show 16 + k - 7 = k + 9 from by omega, show 16 + k - 15 = k + 1 from by omega, show 16 + k - 16 = k from by omega]
          rw [midN_get b k _ (by omega)] at c1 c2 c3 c4
          have HN := Lib.hid hn
          clear hn
          clear hrow hch hw hlm
          generalize (wordsN b (16 + k)).getD (k + 14) 0 = x1 at c1 h1 HN
          generalize (wordsN b (16 + k)).getD (k + 9) 0 = x2 at c2 HN
          generalize (wordsN b (16 + k)).getD (k + 1) 0 = x3 at c3 h3 HN
          generalize (wordsN b (16 + k)).getD k 0 = x4 at c4 HN
          go_wp2
          have q1 : IntKind.i64.wrap ((k : Int) + 16 - 2) = (k : Int) + 14 := by rw [show (k : Int) + 16 - 2 = (k : Int) + 14 from by omega]; exact IntWalk.i64_in _ (by omega)
          have q2 : IntKind.i64.wrap ((k : Int) + 16 - 7) = (k : Int) + 9 := by rw [show (k : Int) + 16 - 7 = (k : Int) + 9 from by omega]; exact IntWalk.i64_in _ (by omega)
          have q3 : IntKind.i64.wrap ((k : Int) + 16 - 15) = (k : Int) + 1 := by rw [show (k : Int) + 16 - 15 = (k : Int) + 1 from by omega]; exact IntWalk.i64_in _ (by omega)
          have q4 : IntKind.i64.wrap (k : Int) = (k : Int) := by exact IntWalk.i64_in _ (by omega)
          have p1 : (0 : Int) ≤ (k : Int) + 14 := by omega
          have p2 : (0 : Int) ≤ (k : Int) + 9 := by omega
          have p3 : (0 : Int) ≤ (k : Int) + 1 := by omega
          have p4 : (0 : Int) ≤ (k : Int) := by omega
          have p5 : (0 : Int) ≤ (k : Int) + 16 := by omega
          have r1 : (k : Int) + 14 < 64 := by omega
          have r2 : (k : Int) + 9 < 64 := by omega
          have r3 : (k : Int) + 1 < 64 := by omega
          have r4 : (k : Int) < 64 := by omega
          have r5 : (k : Int) + 16 < 64 := by omega
          have t1 : ((k : Int) + 14).toNat = k + 14 := by omega
          have t2 : ((k : Int) + 9).toNat = k + 9 := by omega
          have t3 : ((k : Int) + 1).toNat = k + 1 := by omega
          have t5 : ((k : Int) + 16).toNat = k + 16 := by omega
          refine wp_region_still_tail 23 (by kernel_rfl) (by kernel_rfl) ?_
          simp only [List.take_succ_cons, List.take_zero, List.drop_succ_cons, List.drop_zero]
          repeat still_step
          still_call ((s1_any x1 h1 _).mono fun _ _ h => ⟨h.1, h.2.symm⟩)
          repeat still_step
          still_call ((s0_any x3 h3 _).mono fun _ _ h => ⟨h.1, h.2.symm⟩)
          repeat still_step
          try refine wpStill_nil ?_
          clear q1 q2 q3 q4 p1 p2 p3 p4 p5 r1 r2 r3 r4 r5 t1 t2 t3 t5
          have hv : IntKind.u32.wrap (IntKind.u32.wrap (IntKind.u32.wrap (((sg1 x1 : Nat) : Int) + (x2 : Int)) + ((sg0 x3 : Nat) : Int)) + (x4 : Int)) = ((wordNext (wordsN b (16 + k)) (16 + k) : Nat) : Int) := by
            rw [HN.out]
            exact sum4 _ _ _ _
          rw [hv]
          have HV := Lib.hid hv
          clear hv
          generalize wordNext (wordsN b (16 + k)) (16 + k) = nx at HSET HV HN ⊢
          change wpList _ _ _ _ _ wr.drew
          go_wp2
          go_roundw
          case rel =>
            refine ⟨k + 1, by omega, by go_num, ?_, HCR.out.drew.setCell (fun _ => rfl) _⟩
            rw [← HSET.out, ← u32s_set, Nat.add_comm 16 k]
            exact HSR.out _
          case measure => simp [intOf]; omega
        · have hk48 : k = 48 := by omega
          subst hk48
          rw [midN_48] at hrow
          have HR5 := Lib.hid hrow
          have HC5 := Lib.hid hch
          clear hrow hch
          go_wp2_with (first | ((with_reducible show wpList _ _ _ (⟨_, .load 51 _, _, _, _, _⟩ :: _) _ _); refine wpList_load_Row rfl rfl rfl HR5.out Tryd.underlying51 rfl (by rw [u32s_length, wordsN_len]; exact size51) ?_) | ((with_reducible show wpList _ _ _ (⟨_, .store 51 _ _, _, _, _, _⟩ :: _) _ _); refine wpList_store_Row (xs := u32s (wordsN b 64)) rfl rfl rfl (HG2.out.chg HC5.out HGW.out.2.2.2) rfl (by simp [wordsN_len]) (by rw [u32s_length, wordsN_len]; exact size51) (u32s_one _) ?_; intro w6 hr6 hc6 hs6; have HR6 := Lib.hid hr6; have HC6 := Lib.hid hc6; clear hr6 hc6 hs6))
          refine ret_row rfl rfl HR6.out Tryd.underlying51 rfl (by rw [u32s_length, wordsN_len]; exact size51) rfl ?_
          exact ⟨rfl, HC6.out none_ w (HCH.out.andThen HC5.out (fun b h e => HGW.out.2.1 (e ▸ h))) (fun h => absurd h HGW.out.1)⟩
end Go.Proofs.YtodcjcpbigggfaaDoor
