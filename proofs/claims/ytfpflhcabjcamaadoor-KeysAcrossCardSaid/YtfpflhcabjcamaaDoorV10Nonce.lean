/- Layer 10 (keys): a packet's nonce, the program's. -/
import Derived.Test.YtfpflhcabjcamaaDoorV10Keys
namespace Go.Proofs.YtfpflhcabjcamaaDoor
open Go.RowKit

theorem zero12 : (Tryd.prog.info? 34).map (·.zero) = some (some (.agg (u8s (List.replicate 12 0)).toArray)) := by kernel_rfl
/-- A nonce of which so many bytes are turned. -/
def nonceP (iv : List Nat) (n : Int) (k : Nat) : List Nat := (List.range 12).map fun i => if 12 ≤ i + k then iv.getD i 0 ^^^ byteZ n (11 - i) else iv.getD i 0
theorem nonceP_len (iv : List Nat) (n : Int) (k : Nat) : (nonceP iv n k).length = 12 := by simp [nonceP]
theorem nonceP_0 (iv : List Nat) (n : Int) (h : iv.length = 12) : nonceP iv n 0 = iv := by
  conv => rhs; rw [← list_eta iv 12 h]
  unfold nonceP
  apply List.map_congr_left
  intro i hi
  have := List.mem_range.1 hi
  rw [if_neg (by omega)]
theorem nonceP_8 (iv : List Nat) (n : Int) : nonceP iv n 8 = nonceX iv n := by
  unfold nonceP nonceX
  apply List.map_congr_left
  intro i hi
  have := List.mem_range.1 hi
  by_cases h : i < 4
  · rw [if_pos h, if_neg (by omega)]
  · rw [if_neg h, if_pos (by omega)]
theorem nonceP_get (iv : List Nat) (n : Int) (k i : Nat) (hi : i + k = 11) : (nonceP iv n k).getD i 0 = iv.getD i 0 := by
  unfold nonceP
  rw [map_range_get _ _ _ (by omega), if_neg (by omega)]
theorem nonceP_set (iv : List Nat) (n : Int) (k i : Nat) (hi : i + k = 11) : (nonceP iv n k).set i (iv.getD i 0 ^^^ byteZ n k) = nonceP iv n (k + 1) := by
  apply List.ext_getElem?
  intro j
  unfold nonceP
  rw [List.getElem?_set]
  simp only [List.length_map, List.length_range, List.getElem?_map]
  rcases Nat.lt_or_ge j 12 with hj | hj
  · rw [List.getElem?_range hj]
    simp only [Option.map_some]
    by_cases e : i = j
    · subst e
      rw [if_pos rfl, if_pos hj, if_pos (by omega), show 11 - i = k from by omega]
    · rw [if_neg e]
      by_cases h : 12 ≤ j + k
      · rw [if_pos h, if_pos (by omega)]
      · rw [if_neg h, if_neg (by omega)]
  · rw [if_neg (by omega), List.getElem?_eq_none (by simpa using hj)]
    rfl
theorem byteZ_shr (n : Int) (k : Nat) : n / 2 ^ (8 * k) % 256 = ((byteZ n k : Nat) : Int) := by
  unfold byteZ
  rw [show (2 : Int) ^ (8 * k) = 256 ^ k from by rw [Int.pow_mul]; rfl]
  omega

set_option maxRecDepth 100000 in
set_option maxHeartbeats 2000000 in
theorem nonceOf_any (iv : List Nat) (n : Int) (w : World) (hl : iv.length = 12) (hb : ∀ x ∈ iv, x < 256) : Calls Tryd.prog 25 #[.agg (u8s iv).toArray, .int .i64 n] w fun e w' => e = .returned (.agg (u8s (nonceX iv n)).toArray) ∧ Chg none_ w w' := by
  have HL := Lib.hid hl
  have HNX := Lib.hid (nonceX_len iv n)
  have HB := Lib.hid (fun i => getD_lt hb i (by decide : 0 < 256))
  clear hb
  go_enter Tryd.func25, Tryd.ntmps25
  go_wp2_with (first | ((with_reducible show wpList _ _ _ (⟨some 2, .box 34 _, _, _, _, _⟩ :: _) _ _); refine wpList_box_Row rfl rfl (u8s iv) rfl ?_; intro w1 hr1 hc1 hs1; have HR1 := Lib.hid hr1; have HC1 := Lib.hid hc1; clear hr1 hc1 hs1) | ((with_reducible show wpList _ _ _ (⟨some 4, .alloc 34, _, _, _, _⟩ :: _) _ _); refine wpList_alloc_Row rfl rfl (u8s (List.replicate 12 0)) zero12 ?_; intro w2 hr2 hc2 hs2; have HR2 := Lib.hid hr2; have HC2 := Lib.hid (HC1.out.trans hc2); have HR1b := Lib.hid (HR1.out.chg hc2 (fun h => h)); have HG1 := Lib.hid (show w.heap.size < w1.heap.size from HR1.out.lt); clear hr2 hc2 hs2))
  go_loopw [5, 6] (fun _ v wr => ∃ k : Nat, k ≤ 8 ∧ v = .int .i64 k ∧ Row wr w.heap.size 34 (u8s (nonceP iv n k)) ∧ Chg (· = w.heap.size) w2 wr) (fun _ v _ => 8 - (intOf v).toNat)
  case atStart => exact ⟨0, Nat.zero_le _, rfl, by rw [nonceP_0 _ _ hl]; exact HR1b.out, Chg.refl _ _⟩
  case round =>
    obtain ⟨k, hk, rfl, hrow, hch⟩ := hrel
    have HC := Lib.hid hch
    by_cases hlt : k < 8
    · obtain ⟨i, hi⟩ : ∃ i, i + k = 11 := ⟨11 - k, by omega⟩
      have c1 := Row.u8 hrow (i := i) (by rw [nonceP_len]; omega)
      rw [nonceP_get _ _ _ _ hi] at c1
      have hf := hrow.frozen i
      have HSET := Lib.hid (hrow.set i (.int .u8 ((iv.getD i 0 ^^^ byteZ n k : Nat) : Int)))
      have HPS := Lib.hid (nonceP_set iv n k i hi)
      have hx := HB.out i
      have hy := byteZ_lt n k
      have hyv := byteZ_shr n k
      generalize iv.getD i 0 = x at c1 HSET HPS hx
      generalize byteZ n k = y at HSET HPS hyv hy
      have xx := u8_xor_nat x y hx hy
      have e1 : (11 : Int) - (k : Int) = (i : Int) := by omega
      have HE1 := Lib.hid hi
      obtain ⟨m, hm⟩ : ∃ m : Nat, m = 8 * k := ⟨_, rfl⟩
      have e2 : (8 : Int) * (k : Int) = (m : Int) := by omega
      rw [← hm] at hyv
      have q0 : (0 : Int) ≤ (i : Int) := by omega
      have q1 : (i : Int) < 12 := by omega
      have q2 : (k : Int) < 8 := by omega
      have q3 : (0 : Int) ≤ (m : Int) := by omega
      have q4 : m ≤ 56 := by omega
      have HLT := Lib.hid hlt
      clear hrow hch hk hlt hm hl hi
      go_wp2
      go_region
      go_wp2
      go_roundw
      case rel => exact ⟨k + 1, by have := HLT.out; omega, by go_num, by rw [← HPS.out, ← u8s_set]; exact HSET.out, (by first | exact (HC.out.setCell (fun _ => rfl) _).drew | exact (HC.out.drew.setCell (fun _ => rfl) _).drew)⟩
      case measure => have := HLT.out; simp [intOf]; omega
    · have hk8 : k = 8 := by omega
      subst hk8
      rw [nonceP_8] at hrow
      have HROW := Lib.hid hrow
      have HR2r := Lib.hid (HR2.out.chg hch (fun e => by have := HG1.out; omega))
      have HE := Lib.hid (HC2.out.andThen hch (fun b h e => by omega))
      have HG1' := HG1
      clear hrow hch hk hlt hl
      go_wp2_with (first | ((with_reducible show wpList _ _ _ (⟨some 21, .load 34 _, _, _, _, _⟩ :: _) _ _); refine wpList_load_Row rfl rfl rfl (HROW.out) Tryd.underlying34 rfl (by rw [u8s_length, HNX.out]; exact size12) ?_) | ((with_reducible show wpList _ _ _ (⟨_, .store 34 (.tmp 4) _, _, _, _, _⟩ :: _) _ _); refine wpList_store_Row (xs := u8s (nonceX iv n)) rfl rfl rfl (HR2r.out) (rfl) (by rw [u8s_length, u8s_length, HNX.out, List.length_replicate]) (by rw [u8s_length, HNX.out]; exact size12) (u8s_oneA _) ?_; intro w3 hr3 hc3 hs3; have HR3 := Lib.hid hr3; have HC3 := Lib.hid hc3; clear hr3 hc3 hs3))
      refine ret_row rfl rfl HR3.out Tryd.underlying34 rfl (by rw [u8s_length, HNX.out]; exact size12) rfl ?_
      exact ⟨rfl, HC3.out none_ w HE.out (fun h => by have := HG1'.out; omega)⟩
end Go.Proofs.YtfpflhcabjcamaaDoor
