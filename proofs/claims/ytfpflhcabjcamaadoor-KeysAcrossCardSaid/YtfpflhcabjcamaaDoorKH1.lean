/- Texts joined: V7SmallP, V7Words, V7Behind, V7Key, V7Digest, V7Eq. -/
import Derived.Test.YtfpflhcabjcamaaDoorProg
import Derived.IntWalk
import Derived.Lib.Hide
import Derived.StillTailTactics
import Derived.BigQuiet
import Derived.Deep.QuietTactic
import Derived.ChangeKeysEq
import Derived.Test.YtfpflhcabjcamaaDoorK0
import Derived.Test.YtfpflhcabjcamaaDoorKM

namespace Go.Proofs.YtfpflhcabjcamaaDoor
open Go.RowKit

def turns : List Nat := [2, 6, 7, 11, 13, 17, 18, 19, 22, 25]
theorem ret_u32 {a b : Int} (h : a = b) : Ending.returned (.int .u32 a) = .returned (.int .u32 b) := by rw [h]
theorem cnt2 : bits .and .u64 (IntKind.u64.wrap (-2)) 31 = 30 := by decide +kernel
theorem cnt6 : bits .and .u64 (IntKind.u64.wrap (-6)) 31 = 26 := by decide +kernel
theorem cnt7 : bits .and .u64 (IntKind.u64.wrap (-7)) 31 = 25 := by decide +kernel
theorem cnt11 : bits .and .u64 (IntKind.u64.wrap (-11)) 31 = 21 := by decide +kernel
theorem cnt13 : bits .and .u64 (IntKind.u64.wrap (-13)) 31 = 19 := by decide +kernel
theorem cnt17 : bits .and .u64 (IntKind.u64.wrap (-17)) 31 = 15 := by decide +kernel
theorem cnt18 : bits .and .u64 (IntKind.u64.wrap (-18)) 31 = 14 := by decide +kernel
theorem cnt19 : bits .and .u64 (IntKind.u64.wrap (-19)) 31 = 13 := by decide +kernel
theorem cnt22 : bits .and .u64 (IntKind.u64.wrap (-22)) 31 = 10 := by decide +kernel
theorem cnt25 : bits .and .u64 (IntKind.u64.wrap (-25)) 31 = 7 := by decide +kernel

theorem rot_val (x n : Nat) (hx : x < 4294967296) : bits .or .u32 ((x : Int) * (2 ^ (32 - n) : Nat) % 4294967296) ((x : Int) / (2 ^ n : Nat)) = rotr x n := by
  rw [rotr_eq x n hx]
  have := u32_or_nat (x * 2 ^ (32 - n) % 4294967296) (x / 2 ^ n) (Nat.mod_lt _ (by decide)) (Nat.lt_of_le_of_lt (Nat.div_le_self _ _) hx)
  rw [← this, Int.natCast_emod, Int.natCast_mul]
  rfl
theorem rrot_val (x n : Nat) (hx : x < 4294967296) : (bits .or .u64 ((x : Int) / (2 ^ n : Nat)) ((x : Int) * (2 ^ (32 - n) : Nat))).tmod 4294967296 = rotr x n := by
  have h1 : x * 2 ^ (32 - n) < 18446744073709551616 := by
    have : 2 ^ (32 - n) ≤ 2 ^ 32 := Nat.pow_le_pow_right (by omega) (by omega)
    have := Nat.mul_le_mul (Nat.le_of_lt_succ (show x < 4294967295 + 1 from hx)) this
    omega
  have h2 : x / 2 ^ n < 18446744073709551616 := Nat.lt_of_le_of_lt (Nat.div_le_self _ _) (by omega)
  have := u64_or_nat (x / 2 ^ n) (x * 2 ^ (32 - n)) h2 h1
  unfold rotr
  rw [Nat.shiftLeft_eq, Nat.shiftRight_eq_div_pow]
  rw [← Int.natCast_mul, show ((x : Int) / (2 ^ n : Nat)) = ((x / 2 ^ n : Nat) : Int) from rfl, this]
  rfl
set_option maxHeartbeats 1000000 in
theorem rotl_any (x n : Nat) (hx : x < 4294967296) (hn : n ∈ turns) (w : World) : Calls Tryd.prog 66 #[.int .u32 x, .int .i64 (-(n : Int))] w fun e w' => e = .returned (.int .u32 (rotr x n)) ∧ w = w' := by
  have hr := fun n => rot_val x n hx
  have h2 := cnt2
  have h6 := cnt6
  have h7 := cnt7
  have h11 := cnt11
  have h13 := cnt13
  have h17 := cnt17
  have h18 := cnt18
  have h19 := cnt19
  have h22 := cnt22
  have h25 := cnt25
  simp only [turns, List.mem_cons, List.not_mem_nil, or_false] at hn
  have HR := Lib.hid hr
  clear hr
  rcases hn with rfl | rfl | rfl | rfl | rfl | rfl | rfl | rfl | rfl | rfl
  · go_enter Tryd.func66, Tryd.ntmps66
    go_wp2
    go_ret
    exact ⟨ret_u32 (HR.out 2), rfl⟩
  · go_enter Tryd.func66, Tryd.ntmps66
    go_wp2
    go_ret
    exact ⟨ret_u32 (HR.out 6), rfl⟩
  · go_enter Tryd.func66, Tryd.ntmps66
    go_wp2
    go_ret
    exact ⟨ret_u32 (HR.out 7), rfl⟩
  · go_enter Tryd.func66, Tryd.ntmps66
    go_wp2
    go_ret
    exact ⟨ret_u32 (HR.out 11), rfl⟩
  · go_enter Tryd.func66, Tryd.ntmps66
    go_wp2
    go_ret
    exact ⟨ret_u32 (HR.out 13), rfl⟩
  · go_enter Tryd.func66, Tryd.ntmps66
    go_wp2
    go_ret
    exact ⟨ret_u32 (HR.out 17), rfl⟩
  · go_enter Tryd.func66, Tryd.ntmps66
    go_wp2
    go_ret
    exact ⟨ret_u32 (HR.out 18), rfl⟩
  · go_enter Tryd.func66, Tryd.ntmps66
    go_wp2
    go_ret
    exact ⟨ret_u32 (HR.out 19), rfl⟩
  · go_enter Tryd.func66, Tryd.ntmps66
    go_wp2
    go_ret
    exact ⟨ret_u32 (HR.out 22), rfl⟩
  · go_enter Tryd.func66, Tryd.ntmps66
    go_wp2
    go_ret
    exact ⟨ret_u32 (HR.out 25), rfl⟩

theorem right_any (x n : Nat) (hx : x < 4294967296) (hn : n ∈ turns) (w : World) : Calls Tryd.prog 59 #[.int .u32 x, .int .i64 n] w fun e w' => e = .returned (.int .u32 (rotr x n)) ∧ w = w' := by
  have hl : n ≤ 25 := by revert hn; simp [turns]; omega
  go_enter Tryd.func59, Tryd.ntmps59
  go_wp2_with (go_at_call 66; refine (rotl_any x n hx hn _).mono ?_; rintro e w' ⟨rfl, rfl⟩)
  go_ret
  exact ⟨rfl, rfl⟩

theorem right_2 (x : Nat) (hx : x < 4294967296) (w : World) : Calls Tryd.prog 59 #[.int .u32 x, .int .i64 2] w fun e w' => e = .returned (.int .u32 (rotr x 2)) ∧ w = w' := right_any x 2 hx (by decide) w
theorem right_6 (x : Nat) (hx : x < 4294967296) (w : World) : Calls Tryd.prog 59 #[.int .u32 x, .int .i64 6] w fun e w' => e = .returned (.int .u32 (rotr x 6)) ∧ w = w' := right_any x 6 hx (by decide) w
theorem right_7 (x : Nat) (hx : x < 4294967296) (w : World) : Calls Tryd.prog 59 #[.int .u32 x, .int .i64 7] w fun e w' => e = .returned (.int .u32 (rotr x 7)) ∧ w = w' := right_any x 7 hx (by decide) w
theorem right_11 (x : Nat) (hx : x < 4294967296) (w : World) : Calls Tryd.prog 59 #[.int .u32 x, .int .i64 11] w fun e w' => e = .returned (.int .u32 (rotr x 11)) ∧ w = w' := right_any x 11 hx (by decide) w
theorem right_13 (x : Nat) (hx : x < 4294967296) (w : World) : Calls Tryd.prog 59 #[.int .u32 x, .int .i64 13] w fun e w' => e = .returned (.int .u32 (rotr x 13)) ∧ w = w' := right_any x 13 hx (by decide) w
theorem right_17 (x : Nat) (hx : x < 4294967296) (w : World) : Calls Tryd.prog 59 #[.int .u32 x, .int .i64 17] w fun e w' => e = .returned (.int .u32 (rotr x 17)) ∧ w = w' := right_any x 17 hx (by decide) w
theorem right_18 (x : Nat) (hx : x < 4294967296) (w : World) : Calls Tryd.prog 59 #[.int .u32 x, .int .i64 18] w fun e w' => e = .returned (.int .u32 (rotr x 18)) ∧ w = w' := right_any x 18 hx (by decide) w
theorem right_19 (x : Nat) (hx : x < 4294967296) (w : World) : Calls Tryd.prog 59 #[.int .u32 x, .int .i64 19] w fun e w' => e = .returned (.int .u32 (rotr x 19)) ∧ w = w' := right_any x 19 hx (by decide) w
theorem right_22 (x : Nat) (hx : x < 4294967296) (w : World) : Calls Tryd.prog 59 #[.int .u32 x, .int .i64 22] w fun e w' => e = .returned (.int .u32 (rotr x 22)) ∧ w = w' := right_any x 22 hx (by decide) w
theorem right_25 (x : Nat) (hx : x < 4294967296) (w : World) : Calls Tryd.prog 59 #[.int .u32 x, .int .i64 25] w fun e w' => e = .returned (.int .u32 (rotr x 25)) ∧ w = w' := right_any x 25 hx (by decide) w
theorem s0_any (x : Nat) (hx : x < 4294967296) (w : World) : Calls Tryd.prog 65 #[.int .u32 x] w fun e w' => e = .returned (.int .u32 (sg0 x)) ∧ w = w' := by
  go_enter Tryd.func65, Tryd.ntmps65
  go_wp2_with (go_at_call 59; first | ((with_reducible refine (right_7 x hx _).mono ?_); rintro e w' ⟨rfl, rfl⟩) | ((with_reducible refine (right_18 x hx _).mono ?_); rintro e w' ⟨rfl, rfl⟩))
  go_ret
  refine ⟨ret_u32 ?_, rfl⟩
  show bits .xor .u32 (bits .xor .u32 (rotr x 7) (rotr x 18)) ((x : Int) / 8) = _
  rw [u32_xor_nat _ _ (rotr_lt _ _) (rotr_lt _ _)]
  have := u32_xor_nat (rotr x 7 ^^^ rotr x 18) (x >>> 3) (xor_lt (rotr_lt _ _) (rotr_lt _ _)) (shr_lt _ hx)
  rw [Nat.shiftRight_eq_div_pow] at this
  unfold sg0
  rw [Nat.shiftRight_eq_div_pow]
  exact this

theorem s1_any (x : Nat) (hx : x < 4294967296) (w : World) : Calls Tryd.prog 64 #[.int .u32 x] w fun e w' => e = .returned (.int .u32 (sg1 x)) ∧ w = w' := by
  go_enter Tryd.func64, Tryd.ntmps64
  go_wp2_with (go_at_call 59; first | ((with_reducible refine (right_17 x hx _).mono ?_); rintro e w' ⟨rfl, rfl⟩) | ((with_reducible refine (right_19 x hx _).mono ?_); rintro e w' ⟨rfl, rfl⟩))
  go_ret
  refine ⟨ret_u32 ?_, rfl⟩
  show bits .xor .u32 (bits .xor .u32 (rotr x 17) (rotr x 19)) ((x : Int) / 1024) = _
  rw [u32_xor_nat _ _ (rotr_lt _ _) (rotr_lt _ _)]
  have := u32_xor_nat (rotr x 17 ^^^ rotr x 19) (x >>> 10) (xor_lt (rotr_lt _ _) (rotr_lt _ _)) (shr_lt _ hx)
  rw [Nat.shiftRight_eq_div_pow] at this
  unfold sg1
  rw [Nat.shiftRight_eq_div_pow]
  exact this

end Go.Proofs.YtfpflhcabjcamaaDoor

namespace Go.Proofs.YtfpflhcabjcamaaDoor
open Go.RowKit

/-- Words as values. -/
def u32s (l : List Nat) : List Value := l.map fun (x : Nat) => Value.int .u32 (x : Int)
@[simp] theorem u32s_length (l : List Nat) : (u32s l).length = l.length := by simp [u32s]
theorem u32s_get (l : List Nat) (i : Nat) : (u32s l)[i]? = l[i]?.map fun (x : Nat) => Value.int .u32 (x : Int) := by simp [u32s]
theorem u32s_set (l : List Nat) (i v : Nat) : (u32s l).set i (.int .u32 (v : Int)) = u32s (l.set i v) := by simp [u32s, List.map_set]
theorem u32s_one (l : List Nat) : (u32s l).all (·.oneCell') = true := by
  rw [List.all_eq_true]; intro u hu
  simp only [u32s, List.mem_map] at hu
  obtain ⟨x, _, rfl⟩ := hu
  rfl
theorem Row.u32 {w : World} {g : Nat} {e : TypeId} {l : List Nat} (h : Row w g e (u32s l)) {i : Nat} (hi : i < l.length) : w.cell? ⟨g, i, none⟩ = some (.int .u32 ((l.getD i 0 : Nat) : Int)) := by
  rw [h.cell, u32s_get, List.getElem?_eq_getElem hi]
  simp [List.getD_eq_getElem?_getD, hi]

/-- A word, as far as its bytes came. -/
def partN (b : List Nat) (t : Nat) : Nat → Nat
  | 0 => 0
  | k + 1 => partN b t k * 256 + b.getD (4 * t + k) 0
def preN (b : List Nat) (i : Nat) : List Nat := (List.range 64).map fun t => partN b t (min 4 (i - 4 * t))
theorem preN_len (b : List Nat) (i : Nat) : (preN b i).length = 64 := by simp [preN]
theorem preN_0 (b : List Nat) : preN b 0 = List.replicate 64 0 := by
  apply List.ext_getElem (by simp [preN])
  intro i h1 h2
  rw [List.getElem_replicate]
  simp [preN, partN]
theorem preN_get (b : List Nat) (i t : Nat) (ht : t < 64) : (preN b i).getD t 0 = partN b t (min 4 (i - 4 * t)) := by
  rw [List.getD_eq_getElem?_getD, List.getElem?_eq_getElem (by simpa [preN] using ht)]
  simp [preN]
theorem preN_set (b : List Nat) (i : Nat) (hi : i < 64) : (preN b i).set (i / 4) ((preN b i).getD (i / 4) 0 * 256 + b.getD i 0) = preN b (i + 1) := by
  rw [preN_get b i (i / 4) (by omega)]
  apply List.ext_getElem (by simp [preN])
  intro j h1 h2
  have hj : j < 64 := by simpa [preN] using h2
  rw [List.getElem_set]
  simp only [preN, List.getElem_map, List.getElem_range]
  by_cases he : i / 4 = j
  · subst he
    rw [if_pos rfl, show min 4 (i + 1 - 4 * (i / 4)) = min 4 (i - 4 * (i / 4)) + 1 from by omega, partN]
    congr 2
    omega
  · rw [if_neg he]
    congr 1
    omega
theorem partN_lt {b : List Nat} (hb : ∀ x ∈ b, x < 256) (t : Nat) : ∀ k, partN b t k < 256 ^ k
  | 0 => by simp [partN]
  | k + 1 => by
    have h1 := partN_lt hb t k
    have h2 := getD_lt hb (4 * t + k) (by decide)
    rw [partN, Nat.pow_succ]
    omega
theorem partN_4 (b : List Nat) (t : Nat) : partN b t 4 = wordOf b t := by simp [partN, wordOf]
theorem wordsN_get (b : List Nat) : ∀ (n t : Nat), t < n → n ≤ 16 → (wordsN b n)[t]? = some (wordOf b t)
  | 0, t, h, _ => absurd h (by omega)
  | n + 1, t, h, hn => by
    rw [wordsN]
    by_cases he : t = n
    · subst he
      rw [List.getElem?_append_right (by rw [wordsN_len]; omega), wordsN_len, if_pos (by omega)]
      simp
    · rw [List.getElem?_append_left (by rw [wordsN_len]; omega)]
      exact wordsN_get b n t (by omega) (by omega)
theorem preN_64 (b : List Nat) : preN b 64 = wordsN b 16 ++ List.replicate 48 0 := by
  apply List.ext_getElem?
  intro t
  by_cases ht : t < 64
  · rw [List.getElem?_eq_getElem (by rw [preN_len]; exact ht)]
    simp only [preN, List.getElem_map, List.getElem_range]
    by_cases h16 : t < 16
    · rw [List.getElem?_append_left (by rw [wordsN_len]; exact h16), wordsN_get b 16 t h16 (by omega), show min 4 (64 - 4 * t) = 4 from by omega, partN_4]
    · rw [List.getElem?_append_right (by rw [wordsN_len]; omega), wordsN_len, show min 4 (64 - 4 * t) = 0 from by omega, List.getElem?_replicate, if_pos (by omega)]
      rfl
  · rw [List.getElem?_eq_none (by rw [preN_len]; omega), List.getElem?_eq_none (by simp [wordsN_len]; omega)]

/-- The words, as far as they are there. -/
def midN (b : List Nat) (i : Nat) : List Nat := wordsN b (16 + i) ++ List.replicate (48 - i) 0
theorem midN_len (b : List Nat) (i : Nat) (hi : i ≤ 48) : (midN b i).length = 64 := by simp [midN, wordsN_len]; omega
theorem midN_get (b : List Nat) (i t : Nat) (ht : t < 16 + i) : (midN b i).getD t 0 = (wordsN b (16 + i)).getD t 0 := by
  rw [List.getD_eq_getElem?_getD, List.getD_eq_getElem?_getD, midN, List.getElem?_append_left (by rw [wordsN_len]; exact ht)]
theorem midN_set (b : List Nat) (i : Nat) (hi : i < 48) : (midN b i).set (16 + i) (wordNext (wordsN b (16 + i)) (16 + i)) = midN b (i + 1) := by
  have e1 : List.replicate (48 - i) 0 = 0 :: List.replicate (48 - (i + 1)) 0 := by rw [show 48 - i = (48 - (i + 1)) + 1 from by omega, List.replicate_succ]
  unfold midN
  rw [e1, List.set_append_right _ _ (by rw [wordsN_len]; omega), wordsN_len, Nat.sub_self, List.set_cons_zero, show 16 + (i + 1) = (16 + i) + 1 from by omega, wordsN, if_neg (by omega)]
  simp
theorem midN_48 (b : List Nat) : midN b 48 = wordsN b 64 := by simp [midN]

theorem sum4 (a b c d : Nat) : IntKind.u32.wrap (IntKind.u32.wrap (IntKind.u32.wrap ((a : Int) + (b : Int)) + (c : Int)) + (d : Int)) = ((a + b + c + d) % 4294967296 : Nat) := by
  show (((((a : Int) + b) % 4294967296 + c) % 4294967296) + d) % 4294967296 = _
  omega
theorem mid0 (b : List Nat) : midN b 0 = wordsN b 16 ++ List.replicate 48 0 := rfl
theorem zero51 : (Tryd.prog.info? 112).map (·.zero) = some (some (.agg (u32s (List.replicate 64 0)).toArray)) := by kernel_rfl
theorem size51 : (Tryd.prog.info? 112).map (·.size) = some 64 := by kernel_rfl
theorem or_byte (x y : Nat) (hx : x < 16777216) (hy : y < 256) : bits .or .u32 (IntKind.u32.wrap ((x : Int) * 256)) (IntKind.u32.wrap (y : Int)) = ((x * 256 + y : Nat) : Int) := by
  have e : IntKind.u32.wrap ((x : Int) * 256) = ((x * 256 : Nat) : Int) := by show ((x : Int) * 256) % 4294967296 = _; omega
  have e2 : IntKind.u32.wrap (y : Int) = ((y : Nat) : Int) := by show (y : Int) % 4294967296 = _; omega
  rw [e, e2, u32_or_nat _ _ (by omega) (by omega), or_256 x y hy]

set_option maxRecDepth 100000 in
set_option maxHeartbeats 1000000 in
theorem words_any (b : List Nat) (w : World) (hl : b.length = 64) (hb : ∀ x ∈ b, x < 256) : Calls Tryd.prog 58 #[.agg (u8s b).toArray] w fun e w' => e = .returned (.agg (u32s (wordsN b 64)).toArray) ∧ Chg none_ w w' := by
  have HL := Lib.hid hl
  have HB := Lib.hid (fun i => getD_lt hb i (by decide))
  have HP := Lib.hid (partN_lt hb)
  have HBB := Lib.hid hb
  clear hl hb
  go_enter Tryd.func58, Tryd.ntmps58
  go_wp2_with (first | ((with_reducible show wpList _ _ _ (⟨_, .box 75 _, _, _, _, _⟩ :: _) _ _); refine wpList_box_Row rfl rfl (u8s b) rfl ?_; intro w1 hr1 hc1 hs1; have HR1 := Lib.hid hr1; have HC1 := Lib.hid hc1; have h1 := hc1.size; have HS1 := Lib.hid hs1; clear hr1 hc1 hs1) | ((with_reducible show wpList _ _ _ (⟨some 2, .alloc 112, _, _, _, _⟩ :: _) _ _); refine wpList_alloc_Row rfl rfl (u32s (List.replicate 64 0)) zero51 ?_; intro w2 hr2 hc2 hs2; have HR2 := Lib.hid hr2; have HC2 := Lib.hid hc2; have HS2 := Lib.hid hs2; clear hr2 hc2 hs2) | ((with_reducible show wpList _ _ _ (⟨some 3, .alloc 112, _, _, _, _⟩ :: _) _ _); refine wpList_alloc_Row rfl rfl (u32s (List.replicate 64 0)) zero51 ?_; intro w3 hr3 hc3 hs3; have HR3 := Lib.hid hr3; have HC3 := Lib.hid hc3; have HS3 := Lib.hid hs3; clear hr3 hc3 hs3))
  have hg1 : w.heap.size < w1.heap.size := HR1.out.lt
  have hg2 : w1.heap.size < w2.heap.size := HR2.out.lt
  have hg3 : w2.heap.size < w3.heap.size := HR3.out.lt
  generalize hG2 : w1.heap.size = g2 at *
  generalize hG3 : w2.heap.size = g3 at *
  have HG1 : Hid (Row w3 w.heap.size 75 (u8s b)) := Lib.hid ((HR1.out.chg HC2.out (fun h => h)).chg HC3.out (fun h => h))
  have HG2 : Hid (Row w3 g2 112 (u32s (List.replicate 64 0))) := Lib.hid (HR2.out.chg HC3.out (fun h => h))
  have HR3' : Hid (Row w3 g3 112 (u32s (List.replicate 64 0))) := HR3
  have HCH : Hid (Chg none_ w w3) := Lib.hid ((HC1.out.trans HC2.out).trans HC3.out)
  clear hG2 hG3
  clear HR1 HR2 HC1 HC2 HC3 HS1 HS2 HS3
  have HGW := Lib.hid (show ¬ g2 < w.heap.size ∧ ¬ g3 < w.heap.size ∧ w.heap.size ≠ g3 ∧ g2 ≠ g3 by omega)
  clear h1 hg1 hg2 hg3
  generalize hG1 : w.heap.size = g1 at HG1 ⊢
  have HE1 := Lib.hid hG1
  clear hG1
  go_loopw [7] (fun i wr => ∃ k : Nat, k ≤ 64 ∧ i = .int .i64 k ∧ Row wr g3 112 (u32s (preN b k)) ∧ Chg (· = g3) w3 wr) (fun i _ => 64 - (intOf i).toNat)
  case atStart => exact ⟨0, Nat.zero_le _, rfl, by rw [preN_0]; exact HR3'.out, Chg.refl _ _⟩
  case round =>
    obtain ⟨k, hk, rfl, hrow, hch⟩ := hrel
    have HROW := Lib.hid hrow
    have HCR := Lib.hid hch
    by_cases hlt : k < 64
    · have c1 := Row.u32 hrow (i := k / 4) (by rw [preN_len]; omega)
      have c2 := Row.u8 (HG1.out.chg hch (by rw [← HE1.out]; exact HGW.out.2.2.1)) (i := k) (by rw [HL.out]; exact hlt)
      have hf := hrow.frozen (k / 4)
      have hy := HB.out k
      have hx : (preN b k).getD (k / 4) 0 < 16777216 := by
        rw [preN_get b k (k / 4) (by omega)]
        refine Nat.lt_of_lt_of_le (HP.out _ _) ?_
        exact Nat.pow_le_pow_right (n := 256) (by omega) (by omega : min 4 (k - 4 * (k / 4)) ≤ 3)
      have HSET := Lib.hid (preN_set b k hlt)
      have HSR := Lib.hid (hrow.set (k / 4))
      clear hrow hch
      generalize (preN b k).getD (k / 4) 0 = x at c1 hx HSET
      generalize b.getD k 0 = y at c2 hy HSET
      have HO := Lib.hid (or_byte x y hx hy)
      go_wp2
      have q1 : IntKind.i64.wrap ((k : Int) / 4) = (k : Int) / 4 := IntWalk.i64_in _ (by omega)
      have q2 : (0 : Int) ≤ (k : Int) / 4 := by omega
      have q3 : (k : Int) / 4 < 64 := by omega
      have q4 : ((k : Int) / 4).toNat = k / 4 := by omega
      have q5 : (0 : Int) ≤ (k : Int) := by omega
      have q6 : (k : Int) < 64 := by omega
      go_still_tail 13, (by kernel_rfl)
      clear q1 q2 q3 q4 q5 q6
      rw [HO.out]
      change wpList _ _ _ _ _ wr.drew
      go_wp2
      go_roundw
      case rel =>
        refine ⟨k + 1, by omega, by go_num, ?_, HCR.out.drew.setCell (fun _ => rfl) _⟩
        rw [← HSET.out, ← u32s_set]
        exact HSR.out _
      case measure => simp [intOf]; omega
    · have hk64 : k = 64 := by omega
      subst hk64
      rw [show ((64 : Nat) : Int) = 64 from rfl]
      have HR4 := Lib.hid hrow
      have HC4 : Hid (Chg (· = g3) w3 wr) := Lib.hid hch
      clear hrow hch hk hlt HROW HCR
      go_wp2
      go_loopw [24] (fun i wr' => ∃ k : Nat, k ≤ 48 ∧ i = .int .i64 k ∧ Row wr' g3 112 (u32s (midN b k)) ∧ Chg (· = g3) w3 wr') (fun i _ => 48 - (intOf i).toNat)
      case atStart => exact ⟨0, Nat.zero_le _, rfl, by rw [mid0, ← preN_64]; exact HR4.out, HC4.out⟩
      case round =>
        obtain ⟨k, hk, rfl, hrow, hch⟩ := hrel
        clear HR4 HC4
        have HCR := Lib.hid hch
        by_cases hlt : k < 48
        · have hlm := midN_len b k hk
          have c1 := Row.u32 hrow (i := k + 14) (by omega)
          have c2 := Row.u32 hrow (i := k + 9) (by omega)
          have c3 := Row.u32 hrow (i := k + 1) (by omega)
          have c4 := Row.u32 hrow (i := k) (by omega)
          have c5 := Row.u32 hrow (i := k + 16) (by omega)
          generalize (midN b k).getD (k + 16) 0 = x5 at c5
          have hf := hrow.frozen (k + 16)
          have HSET := Lib.hid (midN_set b k hlt)
          have HSR := Lib.hid (hrow.set (k + 16))
          have hw := wordsN_lt HBB.out (16 + k)
          have h1 := getD_lt hw (k + 14) (by decide)
          have h3 := getD_lt hw (k + 1) (by decide)
          have hn : wordNext (wordsN b (16 + k)) (16 + k) = (sg1 ((wordsN b (16 + k)).getD (k + 14) 0) + (wordsN b (16 + k)).getD (k + 9) 0 + sg0 ((wordsN b (16 + k)).getD (k + 1) 0) + (wordsN b (16 + k)).getD k 0) % 4294967296 := by
            unfold wordNext
            rw [show 16 + k - 2 = k + 14 from by omega, show 16 + k - 7 = k + 9 from by omega, show 16 + k - 15 = k + 1 from by omega, show 16 + k - 16 = k from by omega]
          rw [midN_get b k _ (by omega)] at c1 c2 c3 c4
          have HN := Lib.hid hn
          clear hn
          clear hrow hch hw hlm
          generalize (wordsN b (16 + k)).getD (k + 14) 0 = x1 at c1 h1 HN
          generalize (wordsN b (16 + k)).getD (k + 9) 0 = x2 at c2 HN
          generalize (wordsN b (16 + k)).getD (k + 1) 0 = x3 at c3 h3 HN
          generalize (wordsN b (16 + k)).getD k 0 = x4 at c4 HN
          go_wp2
          have q1 : IntKind.i64.wrap ((k : Int) + 16 - 2) = (k : Int) + 14 := by rw [show (k : Int) + 16 - 2 = (k : Int) + 14 from by omega]; exact IntWalk.i64_in _ (by omega)
          have q2 : IntKind.i64.wrap ((k : Int) + 16 - 7) = (k : Int) + 9 := by rw [show (k : Int) + 16 - 7 = (k : Int) + 9 from by omega]; exact IntWalk.i64_in _ (by omega)
          have q3 : IntKind.i64.wrap ((k : Int) + 16 - 15) = (k : Int) + 1 := by rw [show (k : Int) + 16 - 15 = (k : Int) + 1 from by omega]; exact IntWalk.i64_in _ (by omega)
          have q4 : IntKind.i64.wrap (k : Int) = (k : Int) := by exact IntWalk.i64_in _ (by omega)
          have p1 : (0 : Int) ≤ (k : Int) + 14 := by omega
          have p2 : (0 : Int) ≤ (k : Int) + 9 := by omega
          have p3 : (0 : Int) ≤ (k : Int) + 1 := by omega
          have p4 : (0 : Int) ≤ (k : Int) := by omega
          have p5 : (0 : Int) ≤ (k : Int) + 16 := by omega
          have r1 : (k : Int) + 14 < 64 := by omega
          have r2 : (k : Int) + 9 < 64 := by omega
          have r3 : (k : Int) + 1 < 64 := by omega
          have r4 : (k : Int) < 64 := by omega
          have r5 : (k : Int) + 16 < 64 := by omega
          have t1 : ((k : Int) + 14).toNat = k + 14 := by omega
          have t2 : ((k : Int) + 9).toNat = k + 9 := by omega
          have t3 : ((k : Int) + 1).toNat = k + 1 := by omega
          have t5 : ((k : Int) + 16).toNat = k + 16 := by omega
          refine wp_region_still_tail 23 (by kernel_rfl) (by kernel_rfl) ?_
          simp only [List.take_succ_cons, List.take_zero, List.drop_succ_cons, List.drop_zero]
          repeat still_step
          still_call ((s1_any x1 h1 _).mono fun _ _ h => ⟨h.1, h.2.symm⟩)
          repeat still_step
          still_call ((s0_any x3 h3 _).mono fun _ _ h => ⟨h.1, h.2.symm⟩)
          repeat still_step
          try refine wpStill_nil ?_
          clear q1 q2 q3 q4 p1 p2 p3 p4 p5 r1 r2 r3 r4 r5 t1 t2 t3 t5
          have hv : IntKind.u32.wrap (IntKind.u32.wrap (IntKind.u32.wrap (((sg1 x1 : Nat) : Int) + (x2 : Int)) + ((sg0 x3 : Nat) : Int)) + (x4 : Int)) = ((wordNext (wordsN b (16 + k)) (16 + k) : Nat) : Int) := by
            rw [HN.out]
            exact sum4 _ _ _ _
          rw [hv]
          have HV := Lib.hid hv
          clear hv
          generalize wordNext (wordsN b (16 + k)) (16 + k) = nx at HSET HV HN ⊢
          change wpList _ _ _ _ _ wr.drew
          go_wp2
          go_roundw
          case rel =>
            refine ⟨k + 1, by omega, by go_num, ?_, HCR.out.drew.setCell (fun _ => rfl) _⟩
            rw [← HSET.out, ← u32s_set, Nat.add_comm 16 k]
            exact HSR.out _
          case measure => simp [intOf]; omega
        · have hk48 : k = 48 := by omega
          subst hk48
          rw [midN_48] at hrow
          have HR5 := Lib.hid hrow
          have HC5 := Lib.hid hch
          clear hrow hch
          go_wp2_with (first | ((with_reducible show wpList _ _ _ (⟨_, .load 112 _, _, _, _, _⟩ :: _) _ _); refine wpList_load_Row rfl rfl rfl HR5.out Tryd.underlying112 rfl (by rw [u32s_length, wordsN_len]; exact size51) ?_) | ((with_reducible show wpList _ _ _ (⟨_, .store 112 _ _, _, _, _, _⟩ :: _) _ _); refine wpList_store_Row (xs := u32s (wordsN b 64)) rfl rfl rfl (HG2.out.chg HC5.out HGW.out.2.2.2) rfl (by simp [wordsN_len]) (by rw [u32s_length, wordsN_len]; exact size51) (u32s_one _) ?_; intro w6 hr6 hc6 hs6; have HR6 := Lib.hid hr6; have HC6 := Lib.hid hc6; clear hr6 hc6 hs6))
          refine ret_row rfl rfl HR6.out Tryd.underlying112 rfl (by rw [u32s_length, wordsN_len]; exact size51) rfl ?_
          exact ⟨rfl, HC6.out none_ w (HCH.out.andThen HC5.out (fun b h e => HGW.out.2.1 (e ▸ h))) (fun h => absurd h HGW.out.1)⟩
end Go.Proofs.YtfpflhcabjcamaaDoor

namespace Go.Proofs.YtfpflhcabjcamaaDoor
open Go.RowKit

/-- SHA-256's constants, and its first state. -/
structure HTab (w : World) : Prop where
  k : 2 < w.heap.size
  f : 1 < w.heap.size
  ks : ∀ i, i < 64 → w.cell? ⟨2, i, none⟩ = some (.int .u32 ((kN.getD i 0 : Nat) : Int))
  fs : w.rangeAt 1 0 (u32s first8.list)
theorem HTab.chg {w w' : World} {S : Nat → Prop} (h : HTab w) (hc : Chg S w w') (hs : ¬ S 2) (hs' : ¬ S 1) : HTab w' :=
  ⟨Nat.lt_of_lt_of_le h.k hc.size, Nat.lt_of_lt_of_le h.f hc.size, fun i hi => (hc.cell _ h.k hs).trans (h.ks i hi), fun j v hv => (hc.cell _ h.f hs').trans (h.fs j v hv)⟩

theorem zero37 : (Tryd.prog.info? 78).map (·.zero) = some (some (.agg (u32s (List.replicate 8 0)).toArray)) := by kernel_rfl
theorem size37 : (Tryd.prog.info? 78).map (·.size) = some 8 := by kernel_rfl
theorem size41 : (Tryd.prog.info? 75).map (·.size) = some 64 := by kernel_rfl
theorem St8.len (s : St8) : s.list.length = 8 := rfl

theorem not32 (x : Nat) (hx : x < 4294967296) : 4294967295 ^^^ x = 4294967295 - x := by
  apply Nat.eq_of_testBit_eq
  intro i
  rw [show 4294967295 - x = 2 ^ 32 - (x + 1) from by omega, Nat.testBit_two_pow_sub_succ hx, Nat.testBit_xor, show (4294967295 : Nat) = 2 ^ 32 - 1 from rfl, Nat.testBit_two_pow_sub_one]
  by_cases hi : i < 32
  · simp [hi]
  · have : x.testBit i = false := Nat.testBit_lt_two_pow (Nat.lt_of_lt_of_le hx (Nat.pow_le_pow_right (n := 2) (by omega) (by omega : 32 ≤ i)))
    simp [hi, this]
theorem bs1V (e : Nat) : bits .xor .u32 (bits .xor .u32 ((rotr e 6 : Nat) : Int) ((rotr e 11 : Nat) : Int)) ((rotr e 25 : Nat) : Int) = ((bs1 e : Nat) : Int) := by
  rw [u32_xor_nat _ _ (rotr_lt _ _) (rotr_lt _ _), u32_xor_nat _ _ (xor_lt (rotr_lt _ _) (rotr_lt _ _)) (rotr_lt _ _)]
  rfl
theorem bs0V (e : Nat) : bits .xor .u32 (bits .xor .u32 ((rotr e 2 : Nat) : Int) ((rotr e 13 : Nat) : Int)) ((rotr e 22 : Nat) : Int) = ((bs0 e : Nat) : Int) := by
  rw [u32_xor_nat _ _ (rotr_lt _ _) (rotr_lt _ _), u32_xor_nat _ _ (xor_lt (rotr_lt _ _) (rotr_lt _ _)) (rotr_lt _ _)]
  rfl
theorem chV (e f g : Nat) (he : e < 4294967296) (hf : f < 4294967296) (hg : g < 4294967296) : bits .xor .u32 (bits .and .u32 (e : Int) (f : Int)) (bits .and .u32 (bits .xor .u32 (if IntKind.u32.signed = true then -1 else IntKind.u32.max) (e : Int)) (g : Int)) = ((chN e f g : Nat) : Int) := by
  rw [show (if IntKind.u32.signed = true then -1 else IntKind.u32.max) = ((4294967295 : Nat) : Int) from rfl, u32_xor_nat _ _ (by decide) he, not32 e he, u32_and_nat _ _ (by omega) hg, u32_and_nat _ _ he hf, u32_xor_nat _ _ (and_lt _ he) (and_lt _ (by omega))]
  rfl
theorem majV (a b c : Nat) (ha : a < 4294967296) (hb : b < 4294967296) (hc : c < 4294967296) : bits .xor .u32 (bits .xor .u32 (bits .and .u32 (a : Int) (b : Int)) (bits .and .u32 (a : Int) (c : Int))) (bits .and .u32 (b : Int) (c : Int)) = ((majN a b c : Nat) : Int) := by
  rw [u32_and_nat _ _ ha hb, u32_and_nat _ _ ha hc, u32_and_nat _ _ hb hc, u32_xor_nat _ _ (and_lt _ ha) (and_lt _ ha), u32_xor_nat _ _ (xor_lt (and_lt _ ha) (and_lt _ ha)) (and_lt _ hb)]
  rfl

set_option maxRecDepth 100000 in
set_option maxHeartbeats 1000000 in
theorem behind_any (s : St8) (b : List Nat) (w : World) (hs : s.Ok) (hl : b.length = 64) (hb : ∀ x ∈ b, x < 256) (hT : HTab w) : Calls Tryd.prog 46 #[.agg (u32s s.list).toArray, .agg (u8s b).toArray] w fun e w' => e = .returned (.agg (u32s (turnN s b).list).toArray) ∧ Chg none_ w w' := by
  have HT := Lib.hid hT
  have HS := Lib.hid hs
  have HL := Lib.hid hl
  have HW := Lib.hid (fun w => words_any b w hl hb)
  have HWL := Lib.hid (wordsN_len b 64)
  have HWB := Lib.hid (wordsN_lt hb 64)
  have HTU : Hid (turnN s b = addN s (roundsN s (wordsN b 64) 64)) := Lib.hid rfl
  clear hT hs hb hl
  generalize wordsN b 64 = W at HW HWL HWB HTU
  go_enter Tryd.func46, Tryd.ntmps46
  go_wp2_with (first | ((with_reducible show wpList _ _ _ (⟨_, .box 78 _, _, _, _, _⟩ :: _) _ _); refine wpList_box_Row rfl rfl (u32s s.list) rfl ?_; intro w1 hr1 hc1 hs1; have HR1 := Lib.hid hr1; have HC1 := Lib.hid hc1; clear hr1 hc1 hs1) | ((with_reducible show wpList _ _ _ (⟨_, .box 75 _, _, _, _, _⟩ :: _) _ _); refine wpList_box_Row rfl rfl (u8s b) rfl ?_; intro w2 hr2 hc2 hs2; have HR2 := Lib.hid hr2; have HC2 := Lib.hid hc2; clear hr2 hc2 hs2) | ((with_reducible show wpList _ _ _ (⟨_, .alloc 78, _, _, _, _⟩ :: _) _ _); refine wpList_alloc_Row rfl rfl (u32s (List.replicate 8 0)) zero37 ?_; intro w3 hr3 hc3 hs3; have HR3 := Lib.hid hr3; have HC3 := Lib.hid hc3; clear hr3 hc3 hs3) | ((with_reducible show wpList _ _ _ (⟨_, .load 75 _, _, _, _, _⟩ :: _) _ _); refine wpList_load_Row rfl rfl rfl (HR2.out.chg HC3.out (fun h => h)) Tryd.underlying75 rfl (by rw [u8s_length, HL.out]; exact size41) ?_) | (go_at_call 58; refine (HW.out _).mono ?_; rintro e w4 ⟨rfl, hc4⟩; have HC4 := Lib.hid hc4; clear hc4) | ((with_reducible show wpList _ _ _ (⟨_, .alloc 112, _, _, _, _⟩ :: _) _ _); refine wpList_alloc_Row rfl rfl (u32s (List.replicate 64 0)) zero51 ?_; intro w5 hr5 hc5 hs5; have HR5 := Lib.hid hr5; have HC5 := Lib.hid hc5; clear hr5 hc5 hs5) | ((with_reducible show wpList _ _ _ (⟨_, .store 112 _ _, _, _, _, _⟩ :: _) _ _); refine wpList_store_Row (xs := u32s W) rfl rfl rfl (HR5.out) (rfl) (by rw [u32s_length, HWL.out]; simp) (by rw [u32s_length, HWL.out]; exact size51) (u32s_one _) ?_; intro w6 hr6 hc6 hs6; have HR6 := Lib.hid hr6; have HC6 := Lib.hid hc6; clear hr6 hc6 hs6))
  have hz4 : w3.heap.size ≤ w4.heap.size := HC4.out.size
  have HC36 := Lib.hid (HC6.out none_ w3 (HC4.out.trans HC5.out) (fun h => by omega))
  have HCH := Lib.hid (((HC1.out.trans HC2.out).trans HC3.out).trans HC36.out)
  have HX1 := Lib.hid (((HR1.out.chg HC2.out (fun h => h)).chg HC3.out (fun h => h)).chg HC36.out (fun h => h))
  have HX3 := Lib.hid (HR3.out.chg HC36.out (fun h => h))
  have HTX := Lib.hid (HT.out.chg HCH.out (fun h => h) (fun h => h))
  have hn2 : ¬ w2.heap.size < w.heap.size := by have := HC1.out.size; have := HC2.out.size; omega
  have HN2 := Lib.hid hn2
  clear hz4 hn2 HR1 HR2 HR3 HR5 HC2 HC3 HC4 HC5 HC6 HC36 HC1 HW
  generalize w4.heap.size = g5 at HR6 ⊢
  generalize hG3 : w2.heap.size = g3 at HX3 HN2 ⊢
  clear hG3
  generalize hG1 : w.heap.size = g1 at HX1 HN2 ⊢
  have HG1 := Lib.hid hG1
  clear hG1
  have c0 := Row.u32 HX1.out (i := 0) (by rw [St8.len]; decide)
  have c1 := Row.u32 HX1.out (i := 1) (by rw [St8.len]; decide)
  have c2 := Row.u32 HX1.out (i := 2) (by rw [St8.len]; decide)
  have c3 := Row.u32 HX1.out (i := 3) (by rw [St8.len]; decide)
  have c4 := Row.u32 HX1.out (i := 4) (by rw [St8.len]; decide)
  have c5 := Row.u32 HX1.out (i := 5) (by rw [St8.len]; decide)
  have c6 := Row.u32 HX1.out (i := 6) (by rw [St8.len]; decide)
  have c7 := Row.u32 HX1.out (i := 7) (by rw [St8.len]; decide)
  simp only [St8.list, List.getD_cons_zero, List.getD_cons_succ] at c0 c1 c2 c3 c4 c5 c6 c7
  simp only [Act.put, List.setIfInBounds_toArray, List.set_cons_zero, List.set_cons_succ]
  go_quiet (fail)
  go_wp2
  have CL : Hid (∀ m, Chg none_ w6 (w6.drewN m)) := Lib.hid (fun m => (Chg.refl none_ w6).drewN m)
  have HLT : Hid (∀ i, kN.getD i 0 < 4294967296 ∧ W.getD i 0 < 4294967296) := Lib.hid (fun i => ⟨getD_lt kN_lt i (by decide), getD_lt HWB.out i (by decide)⟩)
  have HRO := Lib.hid (fun k => roundsN_ok W HS.out k)
  have HKT := Lib.hid HTX.out.ks
  go_loopw [6, 7, 8, 9, 10, 11, 12, 13, 35] (fun a b c d e f g h i wr => ∃ (k : Nat) (r : St8), k ≤ 64 ∧ i = .int .i64 k ∧ Hid (r = roundsN s W k) ∧ a = .int .u32 r.a ∧ b = .int .u32 r.b ∧ c = .int .u32 r.c ∧ d = .int .u32 r.d ∧ e = .int .u32 r.e ∧ f = .int .u32 r.f ∧ g = .int .u32 r.g ∧ h = .int .u32 r.h ∧ Chg none_ w6 wr) (fun _ _ _ _ _ _ _ _ i _ => 64 - (intOf i).toNat)
  case atStart => exact ⟨0, s, Nat.zero_le _, rfl, Lib.hid rfl, rfl, rfl, rfl, rfl, rfl, rfl, rfl, rfl, CL.out _⟩
  case round =>
    obtain ⟨k, r, hk, rfl, HR, rfl, rfl, rfl, rfl, rfl, rfl, rfl, rfl, hch⟩ := hrel
    have HC := Lib.hid hch
    have hro := HRO.out k
    rw [← HR.out] at hro
    have HROK := Lib.hid hro
    clear c0 c1 c2 c3 c4 c5 c6 c7 hro
    obtain ⟨ra, rb, rc, rd, re, rf, rg, rh⟩ := r
    simp only
    by_cases hlt : k < 64
    · have d1 : wr.cell? ⟨2, k, none⟩ = some (.int .u32 ((kN.getD k 0 : Nat) : Int)) := (hch.cell _ HTX.out.k (fun h => h)).trans (HKT.out k hlt)
      have d2 := Row.u32 (HR6.out.chg hch (fun h => h)) (i := k) (by rw [HWL.out]; exact hlt)
      have HST : Hid (roundsN s W (k + 1) = stepN ⟨ra, rb, rc, rd, re, rf, rg, rh⟩ (kN.getD k 0) (W.getD k 0)) := Lib.hid (by rw [roundsN, HR.out])
      have hA : ra < 4294967296 := HROK.out.a
      have hE : re < 4294967296 := HROK.out.e
      generalize kN.getD k 0 = kk at d1 HST
      generalize W.getD k 0 = ww at d2 HST
      have q5 : (0 : Int) ≤ (k : Int) := by omega
      have q6 : (k : Int) < 64 := by omega
      clear hch
      go_wp2
      go_quiet ((go_at_call 59; first | (with_reducible exact Calls.quiet_of_same ((right_6 re hE _).mono fun _ _ h => ⟨h.1, h.2.symm⟩)) | (with_reducible exact Calls.quiet_of_same ((right_11 re hE _).mono fun _ _ h => ⟨h.1, h.2.symm⟩)) | (with_reducible exact Calls.quiet_of_same ((right_25 re hE _).mono fun _ _ h => ⟨h.1, h.2.symm⟩))))
      go_wp2_with (go_at_call 59; first | ((with_reducible refine (right_2 ra hA _).mono ?_); rintro e w' ⟨rfl, rfl⟩) | ((with_reducible refine (right_13 ra hA _).mono ?_); rintro e w' ⟨rfl, rfl⟩) | ((with_reducible refine (right_22 ra hA _).mono ?_); rintro e w' ⟨rfl, rfl⟩))
      go_roundw
      case rel =>
        refine ⟨k + 1, stepN ⟨ra, rb, rc, rd, re, rf, rg, rh⟩ kk ww, by omega, by go_num, Lib.hid HST.out.symm, ?_, rfl, rfl, rfl, ?_, rfl, rfl, rfl, HC.out.drewN _⟩
        · rw [bs1V, bs0V, chV re rf rg hE HROK.out.f HROK.out.g, majV ra rb rc hA HROK.out.b HROK.out.c]
          simp only [stepN, t1N, t2N]
          congr 1
        · rw [bs1V, chV re rf rg hE HROK.out.f HROK.out.g]
          simp only [stepN, t1N]
          congr 1
      case measure => simp [intOf]; omega
    · have hk64 : k = 64 := by omega
      subst hk64
      have c0 := Row.u32 (HX1.out.chg hch (fun h => h)) (i := 0) (by rw [St8.len]; decide)
      have c1 := Row.u32 (HX1.out.chg hch (fun h => h)) (i := 1) (by rw [St8.len]; decide)
      have c2 := Row.u32 (HX1.out.chg hch (fun h => h)) (i := 2) (by rw [St8.len]; decide)
      have c3 := Row.u32 (HX1.out.chg hch (fun h => h)) (i := 3) (by rw [St8.len]; decide)
      have c4 := Row.u32 (HX1.out.chg hch (fun h => h)) (i := 4) (by rw [St8.len]; decide)
      have c5 := Row.u32 (HX1.out.chg hch (fun h => h)) (i := 5) (by rw [St8.len]; decide)
      have c6 := Row.u32 (HX1.out.chg hch (fun h => h)) (i := 6) (by rw [St8.len]; decide)
      have c7 := Row.u32 (HX1.out.chg hch (fun h => h)) (i := 7) (by rw [St8.len]; decide)
      simp only [St8.list, List.getD_cons_zero, List.getD_cons_succ] at c0 c1 c2 c3 c4 c5 c6 c7
      have HV : Hid (u32s (turnN s b).list = [.int .u32 (((s.a : Int) + (ra : Int)) % 4294967296), .int .u32 (((s.b : Int) + (rb : Int)) % 4294967296), .int .u32 (((s.c : Int) + (rc : Int)) % 4294967296), .int .u32 (((s.d : Int) + (rd : Int)) % 4294967296), .int .u32 (((s.e : Int) + (re : Int)) % 4294967296), .int .u32 (((s.f : Int) + (rf : Int)) % 4294967296), .int .u32 (((s.g : Int) + (rg : Int)) % 4294967296), .int .u32 (((s.h : Int) + (rh : Int)) % 4294967296)]) := Lib.hid (by rw [HTU.out, ← HR.out]; rfl)
      rw [show ((64 : Nat) : Int) = 64 from rfl]
      clear hch hk hlt
      go_wp2_with ((with_reducible show wpList _ _ _ (⟨_, .store 78 _ _, _, _, _, _⟩ :: _) _ _); refine wpList_store_Row (xs := u32s (turnN s b).list) rfl rfl rfl (HX3.out.chg HC.out (fun h => h)) (by rw [HV.out]; rfl) (by rw [u32s_length, St8.len, u32s_length]; rfl) (by rw [u32s_length, St8.len]; exact size37) (u32s_one _) ?_; intro w7 hr7 hc7 hs7; have HR7 := Lib.hid hr7; have HC7 := Lib.hid hc7; clear hr7 hc7 hs7)
      refine ret_row rfl rfl HR7.out Tryd.underlying78 rfl (by rw [u32s_length, St8.len]; exact size37) rfl ?_
      exact ⟨rfl, HC7.out none_ w (HCH.out.trans HC.out) (fun h => by have := HG1.out; exact absurd h (by rw [this]; exact HN2.out))⟩
end Go.Proofs.YtfpflhcabjcamaaDoor

namespace Go.Proofs.YtfpflhcabjcamaaDoor
open Go.RowKit

theorem size36 : (Tryd.prog.info? 77).map (·.size) = some 8 := by kernel_rfl
theorem size25 : (Tryd.prog.info? 26).map (·.size) = some 32 := by kernel_rfl
theorem zero25 : (Tryd.prog.info? 26).map (·.zero) = some (some (.agg (u8s (List.replicate 32 0)).toArray)) := by kernel_rfl
theorem xorK_len (k : List Nat) (m : Nat) : (xorK k m).length = k.length := by simp [xorK]
theorem xorK_lt {k : List Nat} {m : Nat} (hk : ∀ x ∈ k, x < 256) (hm : m < 256) : ∀ x ∈ xorK k m, x < 256 := by
  intro x hx
  simp only [xorK, List.mem_map] at hx
  obtain ⟨y, hy, rfl⟩ := hx
  exact xor8_lt (hk y hy) hm
/-- A key, as far as it is turned. -/
def xorP (k : List Nat) (m i : Nat) : List Nat := xorK (k.take i) m ++ k.drop i
theorem xorP_len (k : List Nat) (m i : Nat) : (xorP k m i).length = k.length := by simp [xorP, xorK]; omega
theorem xorP_get (k : List Nat) (m i : Nat) (hi : i < k.length) : (xorP k m i).getD i 0 = k.getD i 0 := by
  rw [List.getD_eq_getElem?_getD, xorP, List.getElem?_append_right (by simp [xorK]; omega)]
  simp [xorK, List.getD_eq_getElem?_getD, Nat.min_eq_left (Nat.le_of_lt hi)]
theorem xorP_set (k : List Nat) (m i : Nat) (hi : i < k.length) : (xorP k m i).set i (k.getD i 0 ^^^ m) = xorP k m (i + 1) := by
  have hd : k.drop i = k.getD i 0 :: k.drop (i + 1) := by rw [List.drop_eq_getElem_cons hi]; simp [List.getD_eq_getElem?_getD, hi]
  unfold xorP
  rw [List.set_append_right _ _ (by simp [xorK]; omega), hd, show i - (xorK (k.take i) m).length = 0 from by simp [xorK]; omega, List.set_cons_zero]
  unfold xorK
  rw [show k.getD i 0 = k[i] from by simp [List.getD_eq_getElem?_getD, hi], List.take_succ_eq_append_getElem hi, List.map_append]
  simp only [List.map_cons, List.map_nil, List.append_assoc, List.cons_append, List.nil_append]

set_option maxRecDepth 100000 in
set_option maxHeartbeats 1000000 in
theorem behindKey_any (k : List Nat) (m : Nat) (w : World) (hl : k.length = 64) (hb : ∀ x ∈ k, x < 256) (hm : m < 256) (hT : HTab w) : Calls Tryd.prog 35 #[.agg (u8s k).toArray, .int .u8 m] w fun e w' => e = .returned (.agg (u32s (turnN first8 (xorK k m)).list).toArray) ∧ Chg none_ w w' := by
  have HT := Lib.hid hT
  have HL := Lib.hid hl
  have HB := Lib.hid (fun i => getD_lt hb i (by decide))
  have HBE := Lib.hid (fun w hT => behind_any first8 (xorK k m) w first8_ok (by rw [xorK_len]; exact hl) (xorK_lt hb hm) hT)
  have HTL := Lib.hid (St8.len (turnN first8 (xorK k m)))
  clear hT hb hl
  generalize (turnN first8 (xorK k m)).list = T at HBE HTL ⊢
  go_enter Tryd.func35, Tryd.ntmps35
  go_wp2_with (first | ((with_reducible show wpList _ _ _ (⟨_, .box 75 _, _, _, _, _⟩ :: _) _ _); refine wpList_box_Row rfl rfl (u8s k) rfl ?_; intro w1 hr1 hc1 hs1; have HR1 := Lib.hid hr1; have HC1 := Lib.hid hc1; clear hr1 hc1 hs1) | ((with_reducible show wpList _ _ _ (⟨_, .alloc 78, _, _, _, _⟩ :: _) _ _); refine wpList_alloc_Row rfl rfl (u32s (List.replicate 8 0)) zero37 ?_; intro w2 hr2 hc2 hs2; have HR2 := Lib.hid hr2; have HC2 := Lib.hid hc2; clear hr2 hc2 hs2))
  have HG12 := Lib.hid (show ¬ w1.heap.size < w.heap.size ∧ w1.heap.size ≠ w.heap.size by have := HR1.out.lt; omega)
  have HR1x := Lib.hid (HR1.out.chg HC2.out (fun h => h))
  have HCH := Lib.hid (HC1.out.trans HC2.out)
  have HTX : Hid (∀ wr, Chg (· = w.heap.size) w2 wr → HTab wr) := Lib.hid (fun wr hc => (HT.out.chg HCH.out (fun h => h) (fun h => h)).chg hc (by have := HT.out.k; omega) (by have := HT.out.f; omega))
  clear HR1
  go_loopw [6] (fun i wr => ∃ j : Nat, j ≤ 64 ∧ i = .int .i64 j ∧ Row wr w.heap.size 75 (u8s (xorP k m j)) ∧ Chg (· = w.heap.size) w2 wr) (fun i _ => 64 - (intOf i).toNat)
  case atStart => exact ⟨0, Nat.zero_le _, rfl, HR1x.out, Chg.refl _ _⟩
  case round =>
    obtain ⟨j, hj, rfl, hrow, hch⟩ := hrel
    have HROW := Lib.hid hrow
    have HC := Lib.hid hch
    by_cases hlt : j < 64
    · have c1 := Row.u8 hrow (i := j) (by rw [xorP_len, HL.out]; exact hlt)
      have hf := hrow.frozen j
      have hy := HB.out j
      have HSET := Lib.hid (xorP_set k m j (by rw [HL.out]; exact hlt))
      have HSR := Lib.hid (hrow.set j)
      rw [xorP_get k m j (by rw [HL.out]; exact hlt)] at c1
      clear hrow hch
      generalize k.getD j 0 = x at c1 hy HSET
      have HO := Lib.hid (u8_xor_nat x m hy hm)
      go_wp2
      go_roundw
      case rel =>
        refine ⟨j + 1, by omega, by go_num, ?_, HC.out.setCell (fun _ => rfl) _⟩
        rw [← HSET.out, ← u8s_set, HO.out]
        exact HSR.out _
      case measure => simp [intOf]; omega
    · have hj64 : j = 64 := by omega
      subst hj64
      rw [show xorP k m 64 = xorK k m from by rw [xorP, List.take_of_length_le (by rw [HL.out]; omega), List.drop_of_length_le (by rw [HL.out]; omega), List.append_nil]] at HROW
      have HN := HG12.out.1
      have HN2 := HG12.out.2
      clear hrow hch hj hlt
      go_wp2_with (first | ((with_reducible show wpList _ _ _ (⟨_, .load 77 _, _, _, _, _⟩ :: _) _ _); refine wpList_load_Mid (cs := u32s first8.list) rfl rfl rfl ((HTX.out _ HC.out).fs) Tryd.underlying77 rfl (size36) ?_) | ((with_reducible show wpList _ _ _ (⟨_, .load 75 _, _, _, _, _⟩ :: _) _ _); refine wpList_load_Row rfl rfl rfl (HROW.out) Tryd.underlying75 rfl (by rw [u8s_length, xorK_len, HL.out]; exact size41) ?_) | (go_at_call 46; refine (HBE.out _ (HTX.out _ HC.out)).mono ?_; rintro e w4 ⟨rfl, hc4⟩; have HC4 := Lib.hid hc4; clear hc4) | ((with_reducible show wpList _ _ _ (⟨_, .store 78 _ _, _, _, _, _⟩ :: _) _ _); refine wpList_store_Row (xs := u32s T) rfl rfl rfl ((HR2.out.chg HC.out (by omega)).chg HC4.out (fun h => h)) (rfl) (by rw [u32s_length, HTL.out, u32s_length]; rfl) (by rw [u32s_length, HTL.out]; exact size37) (u32s_one _) ?_; intro w5 hr5 hc5 hs5; have HR5 := Lib.hid hr5; have HC5 := Lib.hid hc5; clear hr5 hc5 hs5))
      refine ret_row rfl rfl HR5.out Tryd.underlying78 rfl (by rw [u32s_length, HTL.out]; exact size37) rfl ?_
      exact ⟨rfl, HC5.out none_ w ((HCH.out.andThen HC.out (fun b h e => by omega)).trans HC4.out) (fun h => absurd h HN)⟩

/-- A state's bytes, as far as they are laid. -/
def bytesP (s : St8) (i : Nat) : List Nat := (bytesN s).take i ++ List.replicate (32 - i) 0
theorem bytesN_get (s : St8) (i : Nat) (hi : i < 32) : (bytesN s)[i]? = some (s.list.getD (i / 4) 0 / 2 ^ (8 * (3 - i % 4)) % 256) := by simp [bytesN, hi]
theorem bytesP_len (s : St8) (i : Nat) (hi : i ≤ 32) : (bytesP s i).length = 32 := by simp [bytesP, bytesN_len]; omega
theorem bytesP_set (s : St8) (i : Nat) (hi : i < 32) : (bytesP s i).set i (s.list.getD (i / 4) 0 / 2 ^ (8 * (3 - i % 4)) % 256) = bytesP s (i + 1) := by
  have hl : i < (bytesN s).length := by rw [bytesN_len]; exact hi
  have hg := bytesN_get s i hi
  rw [List.getElem?_eq_getElem hl] at hg
  injection hg with hg
  unfold bytesP
  rw [List.set_append_right _ _ (by rw [List.length_take]; omega), show i - ((bytesN s).take i).length = 0 from by simp [bytesN_len]; omega, show 32 - i = (32 - (i + 1)) + 1 from by omega, List.replicate_succ, List.set_cons_zero, List.take_succ_eq_append_getElem hl, hg]
  simp
theorem list_lt {s : St8} (h : s.Ok) : ∀ x ∈ s.list, x < 4294967296 := by
  intro x hx
  simp only [St8.list, List.mem_cons, List.not_mem_nil, or_false] at hx
  rcases hx with rfl | rfl | rfl | rfl | rfl | rfl | rfl | rfl
  · exact h.a
  · exact h.b
  · exact h.c
  · exact h.d
  · exact h.e
  · exact h.f
  · exact h.g
  · exact h.h

set_option maxRecDepth 100000 in
set_option maxHeartbeats 1000000 in
theorem bytes_any (s : St8) (w : World) (hs : s.Ok) : Calls Tryd.prog 47 #[.agg (u32s s.list).toArray] w fun e w' => e = .returned (.agg (u8s (bytesN s)).toArray) ∧ Chg none_ w w' := by
  have HS := Lib.hid (fun i => getD_lt (list_lt hs) i (by decide))
  have HSL := Lib.hid (St8.len s)
  clear hs
  go_enter Tryd.func47, Tryd.ntmps47
  go_wp2_with (first | ((with_reducible show wpList _ _ _ (⟨_, .box 78 _, _, _, _, _⟩ :: _) _ _); refine wpList_box_Row rfl rfl (u32s s.list) rfl ?_; intro w1 hr1 hc1 hs1; have HR1 := Lib.hid hr1; have HC1 := Lib.hid hc1; clear hr1 hc1 hs1) | ((with_reducible show wpList _ _ _ (⟨some 2, .alloc 26, _, _, _, _⟩ :: _) _ _); refine wpList_alloc_Row rfl rfl (u8s (List.replicate 32 0)) zero25 ?_; intro w2 hr2 hc2 hs2; have HR2 := Lib.hid hr2; have HC2 := Lib.hid hc2; clear hr2 hc2 hs2) | ((with_reducible show wpList _ _ _ (⟨some 3, .alloc 26, _, _, _, _⟩ :: _) _ _); refine wpList_alloc_Row rfl rfl (u8s (List.replicate 32 0)) zero25 ?_; intro w3 hr3 hc3 hs3; have HR3 := Lib.hid hr3; have HC3 := Lib.hid hc3; clear hr3 hc3 hs3))
  have HG23 := Lib.hid (show w1.heap.size ≠ w2.heap.size by have := HR2.out.lt; omega)
  have HG13 := Lib.hid (show w.heap.size ≠ w2.heap.size by have := HR2.out.lt; have := HR1.out.lt; omega)
  have HN := Lib.hid (show ¬ w1.heap.size < w.heap.size by have := HR1.out.lt; omega)
  have HN2 := Lib.hid (show ¬ w2.heap.size < w.heap.size by have := HR1.out.lt; have := HR2.out.lt; omega)
  have HR1x := Lib.hid ((HR1.out.chg HC2.out (fun h => h)).chg HC3.out (fun h => h))
  have HR2x := Lib.hid (HR2.out.chg HC3.out (fun h => h))
  have HCH := Lib.hid ((HC1.out.trans HC2.out).trans HC3.out)
  clear HR1 HR2 HC1 HC2 HC3
  go_loopw [5] (fun i wr => ∃ j : Nat, j ≤ 32 ∧ i = .int .i64 j ∧ Row wr w2.heap.size 26 (u8s (bytesP s j)) ∧ Chg (· = w2.heap.size) w3 wr) (fun i _ => 32 - (intOf i).toNat)
  case atStart => exact ⟨0, Nat.zero_le _, rfl, HR3.out, Chg.refl _ _⟩
  case round =>
    obtain ⟨j, hj, rfl, hrow, hch⟩ := hrel
    have HROW := Lib.hid hrow
    have HC := Lib.hid hch
    by_cases hlt : j < 32
    · have c1 := Row.u32 (HR1x.out.chg hch HG13.out) (i := j / 4) (by rw [HSL.out]; omega)
      have c2 := Row.u8 hrow (i := j) (by rw [bytesP_len s j hj]; exact hlt)
      have hf := hrow.frozen j
      have hy := HS.out (j / 4)
      have HSET := Lib.hid (bytesP_set s j hlt)
      have HSR := Lib.hid (hrow.set j)
      clear hrow hch
      generalize s.list.getD (j / 4) 0 = x at c1 hy HSET
      generalize (bytesP s j).getD j 0 = y at c2
      go_wp2
      go_roundw
      case rel =>
        refine ⟨j + 1, by omega, by go_num, ?_, HC.out.setCell (fun _ => rfl) _⟩
        rw [← HSET.out, ← u8s_set]
        exact HSR.out _
      case measure => simp [intOf]; omega
    · have hj32 : j = 32 := by omega
      subst hj32
      rw [show bytesP s 32 = bytesN s from by rw [bytesP, List.take_of_length_le (by rw [bytesN_len]; omega)]; simp] at HROW
      clear hrow hch hj hlt
      go_wp2_with (first | ((with_reducible show wpList _ _ _ (⟨_, .load 26 _, _, _, _, _⟩ :: _) _ _); refine wpList_load_Row rfl rfl rfl (HROW.out) Tryd.underlying26 rfl (by rw [u8s_length, bytesN_len]; exact size25) ?_) | ((with_reducible show wpList _ _ _ (⟨_, .store 26 _ _, _, _, _, _⟩ :: _) _ _); refine wpList_store_Row (xs := u8s (bytesN s)) rfl rfl rfl (HR2x.out.chg HC.out HG23.out) (rfl) (by rw [u8s_length, bytesN_len, u8s_length]; rfl) (by rw [u8s_length, bytesN_len]; exact size25) (u8s_oneA _) ?_; intro w5 hr5 hc5 hs5; have HR5 := Lib.hid hr5; have HC5 := Lib.hid hc5; clear hr5 hc5 hs5))
      refine ret_row rfl rfl HR5.out Tryd.underlying26 rfl (by rw [u8s_length, bytesN_len]; exact size25) rfl ?_
      exact ⟨rfl, HC5.out none_ w (HCH.out.andThen HC.out (fun b h e => HN2.out (e ▸ h))) (fun h => absurd h HN.out)⟩
end Go.Proofs.YtfpflhcabjcamaaDoor

namespace Go.Proofs.YtfpflhcabjcamaaDoor
open Go.RowKit

theorem size5h : (Tryd.prog.info? 5).map (·.size) = some 1 := by kernel_rfl
theorem zero41 : (Tryd.prog.info? 75).map (·.zero) = some (some (.agg (u8s (List.replicate 64 0)).toArray)) := by kernel_rfl
theorem blk_range {w : World} {T : Nat → Prop} {A : Option Addr} {l : List Nat} {b o : Nat} (h : View w T A l.length (u8s l)) (hA : A = some ⟨b, o, none⟩) (j : Nat) (_hj : 64 * j + 64 ≤ l.length) : w.rangeAt b (o + 64 * j) (u8s (blkN l j)) := by
  subst hA
  intro i v hv
  obtain ⟨b', o', ha, _, _, hc⟩ := h.2 (by omega)
  injection ha with ha
  injection ha with h1 h2
  subst h1; subst h2
  have hi : i < 64 := by
    rcases Nat.lt_or_ge i 64 with h | h
    · exact h
    · rw [List.getElem?_eq_none (by simp [blkN]; omega)] at hv; cases hv
  rw [Nat.add_assoc, hc _ (by omega), ← hv, u8s_get, u8s_get]
  unfold blkN
  rw [List.getElem?_take, if_pos hi, List.getElem?_drop]

theorem zeros_lt : ∀ x ∈ List.replicate 64 0, x < 256 := by intro x hx; rw [(List.mem_replicate.1 hx).2]; decide
theorem last_set (l : List Nat) (M : Nat) (hM : l.length % 64 = M) : (tailN l ++ List.replicate (64 - M) 0).set M 128 = lastN l := by
  have hM64 : M < 64 := by omega
  have ht : (tailN l).length = M := by rw [tailN_len, hM]
  unfold lastN
  rw [hM, List.set_append_right _ _ (by omega), ht, Nat.sub_self, show 64 - M = (63 - M) + 1 from by omega, List.replicate_succ, List.set_cons_zero]

set_option maxRecDepth 100000 in
set_option maxHeartbeats 1500000 in
theorem digest_any (s : St8) (ahead : Nat) (T : Nat → Prop) (A : Option Addr) (cap : Nat) (l : List Nat) (w : World) (hs : s.Ok) (ha : ahead ≤ 64) (hv : View w T A l.length (u8s l)) (hl : l.length ≤ 1000000) (hlc : l.length ≤ cap) (hb : ∀ x ∈ l, x < 256) (hT : HTab w) :
    Calls Tryd.prog 36 #[.agg (u32s s.list).toArray, .int .i64 ahead, .slice A l.length cap] w fun e w' => e = .returned (.agg (u8s (digN s ahead l)).toArray) ∧ Chg none_ w w' := by
  have HT := Lib.hid hT
  have HS := Lib.hid hs
  have HLB := Lib.hid hb
  have HV := Lib.hid hv
  have HCAP := Lib.hid hlc
  clear hT hb hv hs
  go_enter Tryd.func36, Tryd.ntmps36
  go_wp2_with (first | ((with_reducible show wpList _ _ _ (⟨_, .box 78 _, _, _, _, _⟩ :: _) _ _); refine wpList_box_Row rfl rfl (u32s s.list) rfl ?_; intro w1 hr1 hc1 hs1; have HR1 := Lib.hid hr1; have HC1 := Lib.hid hc1; clear hr1 hc1 hs1) | ((with_reducible show wpList _ _ _ (⟨_, .alloc 26, _, _, _, _⟩ :: _) _ _); refine wpList_alloc_Row rfl rfl (u8s (List.replicate 32 0)) zero25 ?_; intro w2 hr2 hc2 hs2; have HR2 := Lib.hid hr2; have HC2 := Lib.hid hc2; clear hr2 hc2 hs2))
  have HG := Lib.hid (show w.heap.size < w1.heap.size ∧ w1.heap.size < w2.heap.size from ⟨HR1.out.lt, HR2.out.lt⟩)
  have HR1x := Lib.hid (HR1.out.chg HC2.out (fun h => h))
  have HCH := Lib.hid (HC1.out.trans HC2.out)
  have HTX : Hid (∀ wr, Chg (· = w.heap.size) w2 wr → HTab wr) := Lib.hid (fun wr hc => (HT.out.chg HCH.out (fun h => h) (fun h => h)).chg hc (by have := HT.out.k; omega) (by have := HT.out.f; omega))
  have HVX : Hid (∀ wr, Chg (· = w.heap.size) w2 wr → View wr (fun b => b < w.heap.size) A l.length (u8s l)) := Lib.hid (fun wr hc => ((HV.out.mono (T' := fun b => b < w.heap.size) (fun _ h _ => h)).chg HCH.out (fun _ _ h => h)).chg hc (fun b hb h => by omega))
  clear HR1 HC1 HC2
  go_loopw [24] (fun i wr => ∃ j : Nat, j ≤ l.length / 64 ∧ i = .int .i64 j ∧ Row wr w.heap.size 78 (u32s (runN s l j).list) ∧ Chg (· = w.heap.size) w2 wr) (fun i _ => l.length / 64 - (intOf i).toNat)
  case atStart => exact ⟨0, Nat.zero_le _, rfl, HR1x.out, Chg.refl _ _⟩
  case round =>
    obtain ⟨j, hj, rfl, hrow, hch⟩ := hrel
    have HROW := Lib.hid hrow
    have HC := Lib.hid hch
    by_cases hlt : j < l.length / 64
    · clear hrow
      obtain ⟨b, o, hA, _, _, _⟩ := HV.out.2 (by omega)
      have HRG : Hid (∀ w', Chg (· = w.heap.size) w2 w' → w'.rangeAt b (o + 64 * j) (u8s (blkN l j))) := Lib.hid (fun w' hc => blk_range (HVX.out w' hc) hA j (by omega))
      have HDA : Hid (dropA (some ⟨b, o, none⟩) cap (64 * j) = some ⟨b, o + 64 * j, none⟩) := Lib.hid (by have := HCAP.out; unfold dropA; rw [if_neg (by omega)]; simp [addr_add])
      have Q1 : Hid (IntKind.i64.wrap ((j : Int) * 64) = ((64 * j : Nat) : Int)) := Lib.hid (by rw [IntWalk.i64_in _ (by omega)]; omega)
      have hAA := hA
      subst hAA
      clear hch
      go_wp2
      refine wp_region_held_drew (S := fun w' => Chg (· = w.heap.size) w2 w') (by kernel_rfl) (HC.out.drew) (fun hch0 => ?_)
      refine wpAnyH_take (i := 1) (v := .slice (some ⟨b, o, none⟩) l.length cap) rfl (by kernel_rfl) (by kernel_rfl) (by kernel_rfl) (by first | exact fun _ _ _ h => h | exact fun _ _ _ h => nomatch h.1) (Or.inl ⟨by rfl, fun w_ hw_ => by go_simp⟩) hch0 ?_
      refine wpAnyH_take (i := 2) (v := .int .i64 (j : Nat)) rfl (by kernel_rfl) (by kernel_rfl) (by kernel_rfl) (by first | exact fun _ _ _ h => h | exact fun _ _ _ h => nomatch h.1) (Or.inl ⟨by rfl, fun w_ hw_ => by go_simp⟩) hch0 ?_
      refine wpAnyH_take (i := 3) (v := .int .i64 ((64 * j : Nat) : Int)) rfl (by kernel_rfl) (by kernel_rfl) (by kernel_rfl) (by first | exact fun _ _ _ h => h | exact fun _ _ _ h => nomatch h.1) (Or.inl ⟨by rfl, fun w_ hw_ => by go_simp; exact Q1.out⟩) hch0 ?_
      refine wpAnyH_take (i := 4) (v := .slice (some ⟨b, o + 64 * j, none⟩) (l.length - 64 * j) (cap - 64 * j)) rfl (by kernel_rfl) (by kernel_rfl) (by kernel_rfl) (by first | exact fun _ _ _ h => h | exact fun _ _ _ h => nomatch h.1) (yieldsIf_slice_low (by rfl) 22 5 _ _ rfl (some ⟨b, o, none⟩) l.length cap (64 * j) rfl rfl Tryd.underlying22 size5h (by omega) HDA.out) hch0 ?_
      refine wpAnyH_take (i := 5) (v := .pointer (some ⟨b, o + 64 * j, none⟩)) rfl (by kernel_rfl) (by kernel_rfl) (by kernel_rfl) (by first | exact fun _ _ _ h => h | exact fun _ _ _ h => nomatch h.1) (yieldsIf_arrayAt (by rfl) 75 5 64 _ rfl (some ⟨b, o + 64 * j, none⟩) (l.length - 64 * j) (cap - 64 * j) rfl Tryd.underlying75 (by omega)) hch0 ?_
      refine wpAnyH_take (i := 6) (v := .agg (u8s (blkN l j)).toArray) rfl (by kernel_rfl) (by kernel_rfl) (by kernel_rfl) (by first | exact fun _ _ _ h => h | exact fun _ _ _ h => nomatch h.1) (yieldsIf_load_mid (by rfl) 75 _ rfl b (o + 64 * j) rfl (u8s (blkN l j)) _ (fun w' hw' => HRG.out w' hw') Tryd.underlying75 rfl (by rw [u8s_length, blkN_len l j (by omega)]; exact size41)) hch0 ?_
      refine wpAnyH_ready (rs := [0]) (by kernel_rfl) (by simp) ?_
      refine AllReadyH.cons rfl (fun K hK => ?_) AllReadyH.nil
      rw [if_pos (by rfl)]
      try simp only [Act.put, List.setIfInBounds_toArray, List.set_cons_zero, List.set_cons_succ, List.getElem_toArray, List.getElem_cons_succ, List.getElem_cons_zero]
      refine wp_load_row (ty := 78) rfl rfl (HROW.out.drew) Tryd.underlying78 rfl (by rw [u32s_length, St8.len]; exact size37) ?_
      refine hK.out _ _ (hch0) (fun _ => ?_)
      clear hK K
      try simp only [Act.put, List.setIfInBounds_toArray, List.set_cons_zero, List.set_cons_succ]
      refine wpAnyH_ready (rs := [7]) (by kernel_rfl) (by simp) ?_
      refine AllReadyH.cons rfl (fun K hK => ?_) AllReadyH.nil
      rw [if_pos (by rfl)]
      try simp only [List.getElem_toArray, List.getElem_cons_succ, List.getElem_cons_zero]
      go_simp
      refine (behind_any (runN s l j) (blkN l j) _ (runN_ok l HS.out j) (blkN_len l j (by omega)) (blkN_lt HLB.out j) (HTX.out _ hch0)).mono ?_
      rintro e w4 ⟨rfl, hc4⟩
      have hch1 : Chg (· = w.heap.size) w2 w4 := hch0.trans (hc4.mono (fun _ _ h => h.elim))
      have hrow4 := HROW.out.drew.chg hc4 (fun h => h)
      refine hK.out _ _ (hch1) (fun _ => ?_)
      clear hK K
      try simp only [Act.put, List.setIfInBounds_toArray, List.set_cons_zero, List.set_cons_succ, List.getElem_toArray, List.getElem_cons_succ, List.getElem_cons_zero]
      refine wpAnyH_ready (rs := [8]) (by kernel_rfl) (by simp) ?_
      refine AllReadyH.cons rfl (fun K hK => ?_) AllReadyH.nil
      rw [if_pos (by rfl)]
      try simp only [List.getElem_toArray, List.getElem_cons_succ, List.getElem_cons_zero]
      refine wp_store_row (ty := 78) (xs := u32s (turnN (runN s l j) (blkN l j)).list) rfl rfl (hrow4) rfl (by rw [u32s_length, St8.len, u32s_length, St8.len]) (by rw [u32s_length, St8.len]; exact size37) (u32s_one _) ?_
      intro w5 hr_w5 hc_w5 hs_w5
      refine hK.out _ _ (hc_w5 _ w2 hch1 (fun _ => rfl)) (fun _ => ?_)
      clear hK K
      try simp only [Act.put]
      refine wpAnyH_done (by kernel_rfl) ?_ _
      go_wp2
      go_roundw
      case rel => exact ⟨j + 1, by omega, by go_num, by rw [runN]; exact hr_w5, hc_w5 _ w2 hch1 (fun _ => rfl)⟩
      case measure => simp [intOf]; omega
    · have HJ : Hid (j = l.length / 64) := Lib.hid (by omega)
      have hd : decide (((j : Nat) : Int) < (l.length : Int) / 64) = false := by simp; omega
      clear hrow hj
      go_wp2_with ((with_reducible show wpList _ _ _ (⟨_, .alloc 75, _, _, _, _⟩ :: _) _ _); refine wpList_alloc_Row rfl rfl (u8s (List.replicate 64 0)) zero41 ?_; intro w3 hr3 hc3 hs3; have HR3 := Lib.hid hr3; have HC3 := Lib.hid hc3; clear hr3 hc3 hs3)
      have hgl : w.heap.size < wr.heap.size ∧ w1.heap.size < wr.heap.size := by have := HG.out; have := hch.size; omega
      have HGL := Lib.hid hgl
      obtain ⟨M, hM⟩ : ∃ M, l.length % 64 = M := ⟨_, rfl⟩
      have hM64 : M < 64 := by omega
      have hLM : l.length - 64 * (l.length / 64) = M := by omega
      have HM := Lib.hid hM
      have HLM := Lib.hid hLM
      clear hch hd hlt hgl hM hLM
      have HROW3 := Lib.hid (HROW.out.chg HC3.out (fun h => h))
      have HCW3 := Lib.hid (HC.out.trans (HC3.out.mono (fun _ _ h => h.elim)))
      have HV3 := Lib.hid (HVX.out _ HCW3.out)
      have HVT : Hid (∀ w', Chg (· = wr.heap.size) w3 w' → View w' (fun b => b < w.heap.size) (dropA A cap (64 * (l.length / 64))) M (u8s (tailN l))) := Lib.hid (fun w' hc => by
        have hh := (HV3.out.chg hc (fun b hb h => by have := HGL.out; omega)).dropA (k := 64 * (l.length / 64)) HCAP.out
        rw [HLM.out] at hh
        have e : (u8s l).drop (64 * (l.length / 64)) = u8s (tailN l) := by simp [u8s, tailN]
        rw [e] at hh
        exact hh)
      have Q2 : Hid (IntKind.i64.wrap ((l.length : Int) / 64 * 64) = ((64 * (l.length / 64) : Nat) : Int)) := Lib.hid (by rw [IntWalk.i64_in _ (by omega)]; omega)
      generalize hgq : wr.heap.size = g at HR3 HVT HGL ⊢
      clear hgq
      refine wp_region_held_drew (S := fun w' => Chg (· = g) w3 w') (by kernel_rfl) ((Chg.refl _ _).drew) (fun hch0 => ?_)
      refine wpAnyH_take (i := 0) (v := .slice (some ⟨g, 0, none⟩) 64 64) rfl (by kernel_rfl) (by kernel_rfl) (by kernel_rfl) (by first | exact fun _ _ _ h => h | exact fun _ _ _ h => nomatch h.1) (Or.inl ⟨by rfl, fun w_ hw_ => by go_simp⟩) hch0 ?_
      refine wpAnyH_take (i := 1) (v := .slice A l.length cap) rfl (by kernel_rfl) (by kernel_rfl) (by kernel_rfl) (by first | exact fun _ _ _ h => h | exact fun _ _ _ h => nomatch h.1) (Or.inl ⟨by rfl, fun w_ hw_ => by go_simp⟩) hch0 ?_
      refine wpAnyH_take (i := 2) (v := .int .i64 ((l.length : Int) / 64)) rfl (by kernel_rfl) (by kernel_rfl) (by kernel_rfl) (by first | exact fun _ _ _ h => h | exact fun _ _ _ h => nomatch h.1) (Or.inl ⟨by rfl, fun w_ hw_ => by go_simp⟩) hch0 ?_
      refine wpAnyH_take (i := 3) (v := .int .i64 ((64 * (l.length / 64) : Nat) : Int)) rfl (by kernel_rfl) (by kernel_rfl) (by kernel_rfl) (by first | exact fun _ _ _ h => h | exact fun _ _ _ h => nomatch h.1) (Or.inl ⟨by rfl, fun w_ hw_ => by go_simp; exact Q2.out⟩) hch0 ?_
      refine wpAnyH_take (i := 4) (v := .slice (dropA A cap (64 * (l.length / 64))) (l.length - 64 * (l.length / 64)) (cap - 64 * (l.length / 64))) rfl (by kernel_rfl) (by kernel_rfl) (by kernel_rfl) (by first | exact fun _ _ _ h => h | exact fun _ _ _ h => nomatch h.1) (yieldsIf_slice_low (by rfl) 22 5 _ _ rfl A l.length cap (64 * (l.length / 64)) rfl rfl Tryd.underlying22 size5h (by omega) rfl) hch0 ?_
      refine wpAnyH_ready (rs := [5]) (by kernel_rfl) (by simp) ?_
      refine AllReadyH.cons rfl (fun K hK => ?_) AllReadyH.nil
      rw [if_pos (by rfl)]
      try simp only [Act.put, List.setIfInBounds_toArray, List.set_cons_zero, List.set_cons_succ, List.getElem_toArray, List.getElem_cons_succ, List.getElem_cons_zero]
      rw [HLM.out]
      refine wp_copy_min _ _ _ _ rfl (pre := []) (ys := u8s (List.replicate 64 0)) (post := []) (xs := u8s (tailN l)) (D := some ⟨g, 0, none⟩) rfl rfl (fun _ => rfl) Tryd.underlying22 size5h (by simpa using HR3.out.drew) (by simp) (HVT.out _ hch0) (u8s_one _) ?_
      intro w4 hr4 hc4
      rw [show min M 64 = M from by omega]
      refine hK.out _ _ (hch0.trans hc4) (fun hch1 => ?_)
      clear hK K
      try simp only [Act.put, List.setIfInBounds_toArray, List.set_cons_zero, List.set_cons_succ]
      refine wpAnyH_take (i := 6) (v := .int .i64 ((M : Nat) : Int)) rfl (by kernel_rfl) (by kernel_rfl) (by kernel_rfl) (by first | exact fun _ _ _ h => h | exact fun _ _ _ h => nomatch h.1) (Or.inl ⟨by rfl, fun w_ hw_ => by go_simp⟩) hch1 ?_
      refine wpAnyH_done (by kernel_rfl) ?_ _
      have HR4 : Hid (Row w4 g 75 (u8s (tailN l ++ List.replicate (64 - M) 0))) := Lib.hid (by
        have e : ([] ++ ((u8s (tailN l)).take 64 ++ (u8s (List.replicate 64 0)).drop M) ++ [] : List Value) = u8s (tailN l ++ List.replicate (64 - M) 0) := by
          rw [List.take_of_length_le (by rw [u8s_length, tailN_len]; omega), List.nil_append, List.append_nil]
          simp only [u8s, ← List.map_drop, List.drop_replicate, List.map_append]
        rw [← e]; exact hr4)
      have hlen : (tailN l ++ List.replicate (64 - M) 0).length = 64 := by rw [List.length_append, tailN_len, HM.out, List.length_replicate]; omega
      have c1 := Row.u8 HR4.out (i := M) (by omega)
      have hf := HR4.out.frozen M
      generalize (tailN l ++ List.replicate (64 - M) 0).getD M 0 = x1 at c1
      have HR5 : Hid (Row (w4.setCell ⟨g, M, none⟩ (.int .u8 128)) g 75 (u8s (lastN l))) := Lib.hid (by
        have hh := HR4.out.set M (.int .u8 ((128 : Nat) : Int))
        rw [u8s_set, last_set l M HM.out] at hh
        exact hh)
      have HROW5 : Hid (Row (w4.setCell ⟨g, M, none⟩ (.int .u8 128)) w.heap.size 78 (u32s (runN s l j).list)) := Lib.hid ((HROW3.out.chg (hch0.trans hc4) (fun h => by have := HGL.out; omega)).far (by have := HGL.out; simp; omega) _)
      have HC5 : Hid (Chg (fun b => b = w.heap.size ∨ b = g) w3 (w4.setCell ⟨g, M, none⟩ (.int .u8 128))) := Lib.hid (((hch0.trans hc4).mono (fun _ _ h => Or.inr h)).setCell (fun _ => Or.inr rfl) _)
      have HT5 : Hid (HTab (w4.setCell ⟨g, M, none⟩ (.int .u8 128))) := Lib.hid (HTab.chg (HTX.out _ HCW3.out) HC5.out (by have := HT.out.k; have := HGL.out; omega) (by have := HT.out.f; have := HGL.out; omega))
      clear hlen hr4 hc4 hch1 hch0 HR4 HROW3 HROW
      obtain ⟨N, hN⟩ : ∃ N, N = 8 * (ahead + l.length) := ⟨_, rfl⟩
      have e7 : (8 * ((ahead : Int) + (l.length : Int))) = (N : Int) := by omega
      simp only [e7]
      have HN := Lib.hid hN
      have hN2 : N ≤ 8000512 := by omega
      clear hN e7
      rcases Nat.lt_or_ge M 56 with h56 | h56
      · have hd56 : decide ((56 : Int) ≤ (M : Int)) = false := by simp; omega
        have HD : Hid (bytesN (turnN (runN s l j) ((lastN l).take 56 ++ be8 N)) = digN s ahead l) := Lib.hid (by rw [dig_short s ahead l (by rw [HM.out]; exact h56), HJ.out, HN.out])
        have HCW : Hid (Chg none_ w (w4.setCell ⟨g, M, none⟩ (.int .u8 128))) := Lib.hid ((HCH.out.andThen HCW3.out (fun b h e => absurd e (by omega))).andThen HC5.out (fun b h e => by have := HGL.out; omega))
        go_wp2
        generalize (w4.setCell ⟨g, M, none⟩ (.int .u8 128)) = wz at HR5 HROW5 HC5 HT5 HCW ⊢
        have HBL : Hid ((lastN l).length = 64) := Lib.hid (lastN_len l)
        have HRS := Lib.hid (HROW5.out)
        have HFL : Hid (((lastN l).take 56 ++ be8 N).length = 64) := Lib.hid (by rw [List.length_append, List.length_take, HBL.out, be8_len]; rfl)
        have HFB : Hid (∀ x ∈ ((lastN l).take 56 ++ be8 N), x < 256) := Lib.hid (fun x hx => by
          rcases List.mem_append.1 hx with h | h
          · exact (lastN_lt HLB.out) x (List.mem_of_mem_take h)
          · exact be8_lt N x h)
        have HR6x : Hid (Row wz w1.heap.size 26 (u8s (List.replicate 32 0))) := Lib.hid (by
          have h1 := (HR2.out.chg HCW3.out (by have := HG.out; omega)).chg HC5.out (by have := HGL.out; have := HG.out; omega)
          exact h1)
        have HGN := Lib.hid (show w.heap.size ≠ g by have := HGL.out; omega)
        have HG1N := Lib.hid (show w1.heap.size ≠ g by have := HGL.out; omega)
        have HN1 := Lib.hid (show ¬ w1.heap.size < w.heap.size by have := HG.out; omega)
        have HN2 := Lib.hid (show ¬ g < w.heap.size by have := HGL.out; omega)
        go_loopw [50] (fun i wr' => ∃ k : Nat, k ≤ 8 ∧ i = .int .i64 k ∧ Row wr' g 75 (u8s (cntP (lastN l) N k)) ∧ Chg (· = g) wz wr') (fun i _ => 8 - (intOf i).toNat)
        case atStart => exact ⟨0, Nat.zero_le _, rfl, by rw [cntP_0 _ _ HBL.out]; exact HR5.out, Chg.refl _ _⟩
        case round =>
          obtain ⟨k, hk, rfl, hrow, hch⟩ := hrel
          have HRk := Lib.hid hrow
          have HCk := Lib.hid hch
          by_cases hlt : k < 8
          · have c1 := Row.u8 hrow (i := 63 - k) (by rw [cntP_len _ _ k HBL.out hk]; omega)
            have hf := hrow.frozen (63 - k)
            have HSET := Lib.hid (cntP_set (lastN l) N k HBL.out hlt)
            have HSR := Lib.hid (hrow.set (63 - k))
            clear hrow hch
            generalize (cntP (lastN l) N k).getD (63 - k) 0 = x2 at c1
            go_wp2
            go_roundw
            case rel =>
              refine ⟨k + 1, by omega, by go_num, ?_, HCk.out.setCell (fun _ => rfl) _⟩
              rw [← HSET.out, ← u8s_set]
              exact HSR.out _
            case measure => simp [intOf]; omega
          · have hk8 : k = 8 := by omega
            subst hk8
            have HTk := Lib.hid (HTab.chg (HT5.out) hch (by have := HT.out.k; have := HGL.out; omega) (by have := HT.out.f; have := HGL.out; omega))
            clear hrow hch hk hlt
            rw [cntP_8] at HRk
            go_wp2_with (first | ((with_reducible show wpList _ _ _ (⟨some 62, .load 78 _, _, _, _, _⟩ :: _) _ _); refine wpList_load_Row rfl rfl rfl (HRS.out.chg HCk.out HGN.out) Tryd.underlying78 rfl (by rw [u32s_length, St8.len]; exact size37) ?_) | ((with_reducible show wpList _ _ _ (⟨some 63, .load 75 _, _, _, _, _⟩ :: _) _ _); refine wpList_load_Row rfl rfl rfl (HRk.out) Tryd.underlying75 rfl (by rw [u8s_length, HFL.out]; exact size41) ?_) | (go_at_call 46; refine (behind_any (runN s l j) ((lastN l).take 56 ++ be8 N) _ (runN_ok l HS.out j) HFL.out HFB.out HTk.out).mono ?_; rintro e wa ⟨rfl, hca⟩; have HCA := Lib.hid hca; clear hca) | (go_at_call 47; refine (bytes_any _ _ (turnN_ok _ _)).mono ?_; rintro e wb ⟨rfl, hcb⟩; rw [HD.out]; have HCB := Lib.hid hcb; clear hcb) | ((with_reducible show wpList _ _ _ (⟨_, .store 26 _ _, _, _, _, _⟩ :: _) _ _); refine wpList_store_Row (xs := u8s (digN s ahead l)) rfl rfl rfl (((HR6x.out.chg HCk.out HG1N.out).chg HCA.out (fun h => h)).chg HCB.out (fun h => h)) (rfl) (by rw [u8s_length, digN_len, u8s_length]; rfl) (by rw [u8s_length, digN_len]; exact size25) (u8s_oneA _) ?_; intro w9 hr9 hc9 hs9; have HR9 := Lib.hid hr9; have HC9 := Lib.hid hc9; clear hr9 hc9 hs9))
            refine ret_row rfl rfl HR9.out Tryd.underlying26 rfl (by rw [u8s_length, digN_len]; exact size25) rfl ?_
            exact ⟨rfl, HC9.out none_ w ((((HCW.out).andThen HCk.out (fun b h e => HN2.out (e ▸ h))).trans HCA.out).trans HCB.out) (fun h => absurd h HN1.out)⟩
      · go_wp2_with (first | ((with_reducible show wpList _ _ _ (⟨some 46, .load 78 _, _, _, _, _⟩ :: _) _ _); refine wpList_load_Row rfl rfl rfl (HROW5.out) Tryd.underlying78 rfl (by rw [u32s_length, St8.len]; exact size37) ?_) | ((with_reducible show wpList _ _ _ (⟨some 47, .load 75 _, _, _, _, _⟩ :: _) _ _); refine wpList_load_Row rfl rfl rfl (HR5.out) Tryd.underlying75 rfl (by rw [u8s_length, lastN_len]; exact size41) ?_) | (go_at_call 46; refine (behind_any (runN s l j) (lastN l) _ (runN_ok l HS.out j) (lastN_len l) (lastN_lt HLB.out) HT5.out).mono ?_; rintro e w6 ⟨rfl, hc6⟩; have HC6 := Lib.hid hc6; clear hc6) | ((with_reducible show wpList _ _ _ (⟨_, .store 78 _ _, _, _, _, _⟩ :: _) _ _); refine wpList_store_Row (xs := u32s (turnN (runN s l j) (lastN l)).list) rfl rfl rfl (HROW5.out.chg HC6.out (fun h => h)) (rfl) (by rw [u32s_length, St8.len, u32s_length, St8.len]) (by rw [u32s_length, St8.len]; exact size37) (u32s_one _) ?_; intro w7 hr7 hc7 hs7; have HR7 := Lib.hid hr7; have HC7 := Lib.hid hc7; clear hr7 hc7 hs7) | ((with_reducible show wpList _ _ _ (⟨_, .store 75 _ _, _, _, _, _⟩ :: _) _ _); refine wpList_store_Row (xs := u8s (List.replicate 64 0)) rfl rfl rfl ((HR5.out.chg HC6.out (fun h => h)).chg (HC7.out (· = w.heap.size) w6 (Chg.refl _ _) (fun _ => rfl)) (by have := HGL.out; omega)) (rfl) (by rw [u8s_length, u8s_length, lastN_len]; rfl) (by rw [u8s_length]; exact size41) (u8s_oneA _) ?_; intro w8 hr8 hc8 hs8; have HR8 := Lib.hid hr8; have HC8 := Lib.hid hc8; clear hr8 hc8 hs8))
        have HD : Hid (bytesN (turnN (turnN (runN s l j) (lastN l)) ((List.replicate 64 0).take 56 ++ be8 N)) = digN s ahead l) := Lib.hid (by rw [dig_long s ahead l (by rw [HM.out]; exact h56), HJ.out, HN.out]; rfl)
        have HC58 := Lib.hid (HC8.out (fun b => b = w.heap.size ∨ b = g) (w4.setCell ⟨g, M, none⟩ (.int .u8 128)) (HC7.out (fun b => b = w.heap.size ∨ b = g) (w4.setCell ⟨g, M, none⟩ (.int .u8 128)) ((Chg.refl _ _).trans (HC6.out.mono (fun _ _ h => h.elim))) (fun _ => Or.inl rfl)) (fun _ => Or.inr rfl))
        have HCW : Hid (Chg none_ w w8) := Lib.hid (((HCH.out.andThen HCW3.out (fun b h e => absurd e (by omega))).andThen HC5.out (fun b h e => by have := HGL.out; omega)).andThen HC58.out (fun b h e => by have := HGL.out; omega))
        have HR7x := Lib.hid (HR7.out.chg (HC8.out (· = g) w7 (Chg.refl _ _) (fun _ => rfl)) (by have := HGL.out; omega))
        have HT8 := Lib.hid (HT5.out.chg HC58.out (by have := HT.out.k; have := HGL.out; omega) (by have := HT.out.f; have := HGL.out; omega))
        obtain ⟨Z, hZ⟩ : ∃ Z, List.replicate 64 0 = Z := ⟨_, rfl⟩
        have hZL : Z.length = 64 := by rw [← hZ]; rfl
        have HZL := Lib.hid hZL
        have HZB : Hid (∀ x ∈ Z, x < 256) := Lib.hid (by rw [← hZ]; exact zeros_lt)
        rw [hZ] at HD HR8
        clear hZ hZL
        have HBL : Hid ((Z).length = 64) := Lib.hid (HZL.out)
        have HRS := Lib.hid (HR7x.out)
        have HFL : Hid (((Z).take 56 ++ be8 N).length = 64) := Lib.hid (by rw [List.length_append, List.length_take, HBL.out, be8_len]; rfl)
        have HFB : Hid (∀ x ∈ ((Z).take 56 ++ be8 N), x < 256) := Lib.hid (fun x hx => by
          rcases List.mem_append.1 hx with h | h
          · exact (HZB.out) x (List.mem_of_mem_take h)
          · exact be8_lt N x h)
        have HR6x : Hid (Row w8 w1.heap.size 26 (u8s (List.replicate 32 0))) := Lib.hid (by
          have h1 := (HR2.out.chg HCW3.out (by have := HG.out; omega)).chg HC5.out (by have := HGL.out; have := HG.out; omega)
          exact h1.chg HC58.out (by have := HGL.out; have := HG.out; omega))
        have HGN := Lib.hid (show w.heap.size ≠ g by have := HGL.out; omega)
        have HG1N := Lib.hid (show w1.heap.size ≠ g by have := HGL.out; omega)
        have HN1 := Lib.hid (show ¬ w1.heap.size < w.heap.size by have := HG.out; omega)
        have HN2 := Lib.hid (show ¬ g < w.heap.size by have := HGL.out; omega)
        go_loopw [50] (fun i wr' => ∃ k : Nat, k ≤ 8 ∧ i = .int .i64 k ∧ Row wr' g 75 (u8s (cntP (Z) N k)) ∧ Chg (· = g) w8 wr') (fun i _ => 8 - (intOf i).toNat)
        case atStart => exact ⟨0, Nat.zero_le _, rfl, by rw [cntP_0 _ _ HBL.out]; exact HR8.out, Chg.refl _ _⟩
        case round =>
          obtain ⟨k, hk, rfl, hrow, hch⟩ := hrel
          have HRk := Lib.hid hrow
          have HCk := Lib.hid hch
          by_cases hlt : k < 8
          · have c1 := Row.u8 hrow (i := 63 - k) (by rw [cntP_len _ _ k HBL.out hk]; omega)
            have hf := hrow.frozen (63 - k)
            have HSET := Lib.hid (cntP_set (Z) N k HBL.out hlt)
            have HSR := Lib.hid (hrow.set (63 - k))
            clear hrow hch
            generalize (cntP (Z) N k).getD (63 - k) 0 = x2 at c1
            go_wp2
            go_roundw
            case rel =>
              refine ⟨k + 1, by omega, by go_num, ?_, HCk.out.setCell (fun _ => rfl) _⟩
              rw [← HSET.out, ← u8s_set]
              exact HSR.out _
            case measure => simp [intOf]; omega
          · have hk8 : k = 8 := by omega
            subst hk8
            have HTk := Lib.hid (HTab.chg (HT8.out) hch (by have := HT.out.k; have := HGL.out; omega) (by have := HT.out.f; have := HGL.out; omega))
            clear hrow hch hk hlt
            rw [cntP_8] at HRk
            go_wp2_with (first | ((with_reducible show wpList _ _ _ (⟨some 62, .load 78 _, _, _, _, _⟩ :: _) _ _); refine wpList_load_Row rfl rfl rfl (HRS.out.chg HCk.out HGN.out) Tryd.underlying78 rfl (by rw [u32s_length, St8.len]; exact size37) ?_) | ((with_reducible show wpList _ _ _ (⟨some 63, .load 75 _, _, _, _, _⟩ :: _) _ _); refine wpList_load_Row rfl rfl rfl (HRk.out) Tryd.underlying75 rfl (by rw [u8s_length, HFL.out]; exact size41) ?_) | (go_at_call 46; refine (behind_any (turnN (runN s l j) (lastN l)) ((Z).take 56 ++ be8 N) _ (turnN_ok _ _) HFL.out HFB.out HTk.out).mono ?_; rintro e wa ⟨rfl, hca⟩; have HCA := Lib.hid hca; clear hca) | (go_at_call 47; refine (bytes_any _ _ (turnN_ok _ _)).mono ?_; rintro e wb ⟨rfl, hcb⟩; rw [HD.out]; have HCB := Lib.hid hcb; clear hcb) | ((with_reducible show wpList _ _ _ (⟨_, .store 26 _ _, _, _, _, _⟩ :: _) _ _); refine wpList_store_Row (xs := u8s (digN s ahead l)) rfl rfl rfl (((HR6x.out.chg HCk.out HG1N.out).chg HCA.out (fun h => h)).chg HCB.out (fun h => h)) (rfl) (by rw [u8s_length, digN_len, u8s_length]; rfl) (by rw [u8s_length, digN_len]; exact size25) (u8s_oneA _) ?_; intro w9 hr9 hc9 hs9; have HR9 := Lib.hid hr9; have HC9 := Lib.hid hc9; clear hr9 hc9 hs9))
            refine ret_row rfl rfl HR9.out Tryd.underlying26 rfl (by rw [u8s_length, digN_len]; exact size25) rfl ?_
            exact ⟨rfl, HC9.out none_ w ((((HCW.out).andThen HCk.out (fun b h e => HN2.out (e ▸ h))).trans HCA.out).trans HCB.out) (fun h => absurd h HN1.out)⟩
end Go.Proofs.YtfpflhcabjcamaaDoor

namespace Go.Proofs.YtfpflhcabjcamaaDoor
open Go.RowKit

theorem hash_eql (xs ys : List Nat) (hx : xs.length = 32) (hy : ys.length = 32) (w : World) :
    (Op.equalIn 10000 26 (.agg (u8s xs).toArray) (.agg (u8s ys).toArray)).run Tryd.prog w = .ok (decide (xs = ys)) w :=
  arr_eql _ 32 9998 Tryd.underlying26 xs ys hx hy w

/-- '==' of two digests that are the same. -/
theorem hash_refl (xs : List Nat) (hx : xs.length = 32) (w : World) : (Op.equalIn 10000 26 (.agg (u8s xs).toArray) (.agg (u8s xs).toArray)).run Tryd.prog w = .ok true w := by
  have := hash_eql xs xs hx hx w
  rwa [decide_eq_true rfl] at this
section
variable {ops : Array Oper} {rest : List Oper} {o : Oper} {a : Act} {w : World} {Q : Exit → Act → World → Prop}
theorem wpList_hash_eq (hw : Region.wanted o (yielded ops a.tmps) = true) (x y : Operand) {R : TypeId} (ho : o.op = .binOp .eql 26 x y R) (xs : List Nat) (hl : xs.length = 32) (hx : a.eval x = .agg (u8s xs).toArray) (hy : a.eval y = .agg (u8s xs).toArray)
    (k : wpList Tryd.prog ops Q rest (a.put o.dst (.bool true)) w) : wpList Tryd.prog ops Q (o :: rest) a w :=
  BigFrame.wpList_want hw fun _ hK => by
    have hg := run_eqGuard_agg (P := Tryd.prog) w .eql 26 x y (u8s xs).toArray (u8s xs).toArray Tryd.eqGuardType26
    have hh : (Op.equal 26 (.agg (u8s xs).toArray) (.agg (u8s xs).toArray)).run Tryd.prog w = .ok true w := hash_refl xs hl w
    unfold Oper.wp execOp
    simp only [ho, hx, hy, Sem.run_bind, Sem.run_pure, Result.andThen_ok, hg, binOp, hh]
    exact hK _ _ k
end
end Go.Proofs.YtfpflhcabjcamaaDoor
