/- Layer 7 (hash): the state behind a key, and a state's bytes. -/
import Derived.Test.YtodcjcpbigggfaaDoorV7Behind
namespace Go.Proofs.YtodcjcpbigggfaaDoor
open Go.RowKit

theorem size36 : (Tryd.prog.info? 36).map (·.size) = some 8 := by kernel_rfl
theorem size25 : (Tryd.prog.info? 25).map (·.size) = some 32 := by kernel_rfl
theorem zero25 : (Tryd.prog.info? 25).map (·.zero) = some (some (.agg (u8s (List.replicate 32 0)).toArray)) := by kernel_rfl
theorem xorK_len (k : List Nat) (m : Nat) : (xorK k m).length = k.length := by simp [xorK]
theorem xor8_lt {a b : Nat} (ha : a < 256) (hb : b < 256) : a ^^^ b < 256 := Nat.xor_lt_two_pow (n := 8) ha hb
theorem xorK_lt {k : List Nat} {m : Nat} (hk : ∀ x ∈ k, x < 256) (hm : m < 256) : ∀ x ∈ xorK k m, x < 256 := by
  intro x hx
  simp only [xorK, List.mem_map] at hx
  obtain ⟨y, hy, rfl⟩ := hx
  exact xor8_lt (hk y hy) hm
/-- A key, as far as it is turned. -/
def xorP (k : List Nat) (m i : Nat) : List Nat := xorK (k.take i) m ++ k.drop i
theorem xorP_len (k : List Nat) (m i : Nat) : (xorP k m i).length = k.length := by simp [xorP, xorK]; omega
theorem xorP_get (k : List Nat) (m i : Nat) (hi : i < k.length) : (xorP k m i).getD i 0 = k.getD i 0 := by
  rw [List.getD_eq_getElem?_getD, xorP, List.getElem?_append_right (by simp [xorK]; omega)]
  simp [xorK, List.getD_eq_getElem?_getD, Nat.min_eq_left (Nat.le_of_lt hi)]
theorem xorP_set (k : List Nat) (m i : Nat) (hi : i < k.length) : (xorP k m i).set i (k.getD i 0 ^^^ m) = xorP k m (i + 1) := by
  have hd : k.drop i = k.getD i 0 :: k.drop (i + 1) := by rw [List.drop_eq_getElem_cons hi]; simp [List.getD_eq_getElem?_getD, hi]
  unfold xorP
  rw [List.set_append_right _ _ (by simp [xorK]; omega), hd, show i - (xorK (k.take i) m).length = 0 from by simp [xorK]; omega, List.set_cons_zero]
  unfold xorK
  rw [show k.getD i 0 = k[i] from by simp [List.getD_eq_getElem?_getD, hi], List.take_succ_eq_append_getElem hi, List.map_append]
  simp only [List.map_cons, List.map_nil, List.append_assoc, List.cons_append, List.nil_append]

set_option maxRecDepth 100000 in
set_option maxHeartbeats 1000000 in
theorem behindKey_any (k : List Nat) (m : Nat) (w : World) (hl : k.length = 64) (hb : ∀ x ∈ k, x < 256) (hm : m < 256) (hT : HTab w) : Calls Tryd.prog 21 #[.agg (u8s k).toArray, .int .u8 m] w fun e w' => e = .returned (.agg (u32s (turnN first8 (xorK k m)).list).toArray) ∧ Chg none_ w w' := by
  have HT := Lib.hid hT
  have HL := Lib.hid hl
  have HB := Lib.hid (fun i => getD_lt hb i (by decide))
  have HBE := Lib.hid (fun w hT => behind_any first8 (xorK k m) w first8_ok (by rw [xorK_len]; exact hl) (xorK_lt hb hm) hT)
  have HTL := Lib.hid (St8.len (turnN first8 (xorK k m)))
  clear hT hb hl
  generalize (turnN first8 (xorK k m)).list = T at HBE HTL ⊢
  go_enter Tryd.func21, Tryd.ntmps21
  go_wp2_with (first | ((with_reducible show wpList _ _ _ (⟨_, .box 41 _, _, _, _, _⟩ :: _) _ _); refine wpList_box_Row rfl rfl (u8s k) rfl ?_; intro w1 hr1 hc1 hs1; have HR1 := Lib.hid hr1; have HC1 := Lib.hid hc1; clear hr1 hc1 hs1) | ((with_reducible show wpList _ _ _ (⟨_, .alloc 37, _, _, _, _⟩ :: _) _ _); refine wpList_alloc_Row rfl rfl (u32s (List.replicate 8 0)) zero37 ?_; intro w2 hr2 hc2 hs2; have HR2 := Lib.hid hr2; have HC2 := Lib.hid hc2; clear hr2 hc2 hs2))
  have HG12 := Lib.hid (show ¬ w1.heap.size < w.heap.size ∧ w1.heap.size ≠ w.heap.size by have := HR1.out.lt; omega)
  have HR1x := Lib.hid (HR1.out.chg HC2.out (fun h => h))
  have HCH := Lib.hid (HC1.out.trans HC2.out)
  have HTX : Hid (∀ wr, Chg (· = w.heap.size) w2 wr → HTab wr) := Lib.hid (fun wr hc => (HT.out.chg HCH.out (fun h => h) (fun h => h)).chg hc (by have := HT.out.k; omega) (by have := HT.out.f; omega))
  clear HR1
  go_loopw [6] (fun i wr => ∃ j : Nat, j ≤ 64 ∧ i = .int .i64 j ∧ Row wr w.heap.size 41 (u8s (xorP k m j)) ∧ Chg (· = w.heap.size) w2 wr) (fun i _ => 64 - (intOf i).toNat)
  case atStart => exact ⟨0, Nat.zero_le _, rfl, HR1x.out, Chg.refl _ _⟩
  case round =>
    obtain ⟨j, hj, rfl, hrow, hch⟩ := hrel
    have HROW := Lib.hid hrow
    have HC := Lib.hid hch
    by_cases hlt : j < 64
    · have c1 := Row.u8 hrow (i := j) (by rw [xorP_len, HL.out]; exact hlt)
      have hf := hrow.frozen j
      have hy := HB.out j
      have HSET := Lib.hid (xorP_set k m j (by rw [HL.out]; exact hlt))
      have HSR := Lib.hid (hrow.set j)
      rw [xorP_get k m j (by rw [HL.out]; exact hlt)] at c1
      clear hrow hch
      generalize k.getD j 0 = x at c1 hy HSET
      have HO := Lib.hid (u8_xor_nat x m hy hm)
      go_wp2
      go_roundw
      case rel =>
        refine ⟨j + 1, by omega, by go_num, ?_, HC.out.setCell (fun _ => rfl) _⟩
        rw [← HSET.out, ← u8s_set, HO.out]
        exact HSR.out _
      case measure => simp [intOf]; omega
    · have hj64 : j = 64 := by omega
      subst hj64
      rw [show xorP k m 64 = xorK k m from by rw [xorP, List.take_of_length_le (by rw [HL.out]; omega), List.drop_of_length_le (by rw [HL.out]; omega), List.append_nil]] at HROW
      have HN := HG12.out.1
      have HN2 := HG12.out.2
      clear hrow hch hj hlt
      go_wp2_with (first | ((with_reducible show wpList _ _ _ (⟨_, .load 36 _, _, _, _, _⟩ :: _) _ _); refine wpList_load_Mid (cs := u32s first8.list) rfl rfl rfl ((HTX.out _ HC.out).fs) Tryd.underlying36 rfl (size36) ?_) | ((with_reducible show wpList _ _ _ (⟨_, .load 41 _, _, _, _, _⟩ :: _) _ _); refine wpList_load_Row rfl rfl rfl (HROW.out) Tryd.underlying41 rfl (by rw [u8s_length, xorK_len, HL.out]; exact size41) ?_) | (go_at_call 23; refine (HBE.out _ (HTX.out _ HC.out)).mono ?_; rintro e w4 ⟨rfl, hc4⟩; have HC4 := Lib.hid hc4; clear hc4) | ((with_reducible show wpList _ _ _ (⟨_, .store 37 _ _, _, _, _, _⟩ :: _) _ _); refine wpList_store_Row (xs := u32s T) rfl rfl rfl ((HR2.out.chg HC.out (by omega)).chg HC4.out (fun h => h)) (rfl) (by rw [u32s_length, HTL.out, u32s_length]; rfl) (by rw [u32s_length, HTL.out]; exact size37) (u32s_one _) ?_; intro w5 hr5 hc5 hs5; have HR5 := Lib.hid hr5; have HC5 := Lib.hid hc5; clear hr5 hc5 hs5))
      refine ret_row rfl rfl HR5.out Tryd.underlying37 rfl (by rw [u32s_length, HTL.out]; exact size37) rfl ?_
      exact ⟨rfl, HC5.out none_ w ((HCH.out.andThen HC.out (fun b h e => by omega)).trans HC4.out) (fun h => absurd h HN)⟩

/-- A state's bytes, as far as they are laid. -/
def bytesP (s : St8) (i : Nat) : List Nat := (bytesN s).take i ++ List.replicate (32 - i) 0
theorem bytesN_get (s : St8) (i : Nat) (hi : i < 32) : (bytesN s)[i]? = some (s.list.getD (i / 4) 0 / 2 ^ (8 * (3 - i % 4)) % 256) := by simp [bytesN, hi]
theorem bytesP_len (s : St8) (i : Nat) (hi : i ≤ 32) : (bytesP s i).length = 32 := by simp [bytesP, bytesN_len]; omega
theorem bytesP_set (s : St8) (i : Nat) (hi : i < 32) : (bytesP s i).set i (s.list.getD (i / 4) 0 / 2 ^ (8 * (3 - i % 4)) % 256) = bytesP s (i + 1) := by
  have hl : i < (bytesN s).length := by rw [bytesN_len]; exact hi
  have hg := bytesN_get s i hi
  rw [List.getElem?_eq_getElem hl] at hg
  injection hg with hg
  unfold bytesP
  rw [List.set_append_right _ _ (by rw [List.length_take]; omega), show i - ((bytesN s).take i).length = 0 from by simp [bytesN_len]; omega, show 32 - i = (32 - (i + 1)) + 1 from by omega, List.replicate_succ, List.set_cons_zero, List.take_succ_eq_append_getElem hl, hg]
  simp
theorem list_lt {s : St8} (h : s.Ok) : ∀ x ∈ s.list, x < 4294967296 := by
  intro x hx
  simp only [St8.list, List.mem_cons, List.not_mem_nil, or_false] at hx
  rcases hx with rfl | rfl | rfl | rfl | rfl | rfl | rfl | rfl
  · exact h.a
  · exact h.b
  · exact h.c
  · exact h.d
  · exact h.e
  · exact h.f
  · exact h.g
  · exact h.h

set_option maxRecDepth 100000 in
set_option maxHeartbeats 1000000 in
theorem bytes_any (s : St8) (w : World) (hs : s.Ok) : Calls Tryd.prog 24 #[.agg (u32s s.list).toArray] w fun e w' => e = .returned (.agg (u8s (bytesN s)).toArray) ∧ Chg none_ w w' := by
  have HS := Lib.hid (fun i => getD_lt (list_lt hs) i (by decide))
  have HSL := Lib.hid (St8.len s)
  clear hs
  go_enter Tryd.func24, Tryd.ntmps24
  go_wp2_with (first | ((with_reducible show wpList _ _ _ (⟨_, .box 37 _, _, _, _, _⟩ :: _) _ _); refine wpList_box_Row rfl rfl (u32s s.list) rfl ?_; intro w1 hr1 hc1 hs1; have HR1 := Lib.hid hr1; have HC1 := Lib.hid hc1; clear hr1 hc1 hs1) | ((with_reducible show wpList _ _ _ (⟨some 2, .alloc 25, _, _, _, _⟩ :: _) _ _); refine wpList_alloc_Row rfl rfl (u8s (List.replicate 32 0)) zero25 ?_; intro w2 hr2 hc2 hs2; have HR2 := Lib.hid hr2; have HC2 := Lib.hid hc2; clear hr2 hc2 hs2) | ((with_reducible show wpList _ _ _ (⟨some 3, .alloc 25, _, _, _, _⟩ :: _) _ _); refine wpList_alloc_Row rfl rfl (u8s (List.replicate 32 0)) zero25 ?_; intro w3 hr3 hc3 hs3; have HR3 := Lib.hid hr3; have HC3 := Lib.hid hc3; clear hr3 hc3 hs3))
  have HG23 := Lib.hid (show w1.heap.size ≠ w2.heap.size by have := HR2.out.lt; omega)
  have HG13 := Lib.hid (show w.heap.size ≠ w2.heap.size by have := HR2.out.lt; have := HR1.out.lt; omega)
  have HN := Lib.hid (show ¬ w1.heap.size < w.heap.size by have := HR1.out.lt; omega)
  have HN2 := Lib.hid (show ¬ w2.heap.size < w.heap.size by have := HR1.out.lt; have := HR2.out.lt; omega)
  have HR1x := Lib.hid ((HR1.out.chg HC2.out (fun h => h)).chg HC3.out (fun h => h))
  have HR2x := Lib.hid (HR2.out.chg HC3.out (fun h => h))
  have HCH := Lib.hid ((HC1.out.trans HC2.out).trans HC3.out)
  clear HR1 HR2 HC1 HC2 HC3
  go_loopw [5] (fun i wr => ∃ j : Nat, j ≤ 32 ∧ i = .int .i64 j ∧ Row wr w2.heap.size 25 (u8s (bytesP s j)) ∧ Chg (· = w2.heap.size) w3 wr) (fun i _ => 32 - (intOf i).toNat)
  case atStart => exact ⟨0, Nat.zero_le _, rfl, HR3.out, Chg.refl _ _⟩
  case round =>
    obtain ⟨j, hj, rfl, hrow, hch⟩ := hrel
    have HROW := Lib.hid hrow
    have HC := Lib.hid hch
    by_cases hlt : j < 32
    · have c1 := Row.u32 (HR1x.out.chg hch HG13.out) (i := j / 4) (by rw [HSL.out]; omega)
      have c2 := Row.u8 hrow (i := j) (by rw [bytesP_len s j hj]; exact hlt)
      have hf := hrow.frozen j
      have hy := HS.out (j / 4)
      have HSET := Lib.hid (bytesP_set s j hlt)
      have HSR := Lib.hid (hrow.set j)
      clear hrow hch
      generalize s.list.getD (j / 4) 0 = x at c1 hy HSET
      generalize (bytesP s j).getD j 0 = y at c2
      go_wp2
      go_roundw
      case rel =>
        refine ⟨j + 1, by omega, by go_num, ?_, HC.out.setCell (fun _ => rfl) _⟩
        rw [← HSET.out, ← u8s_set]
        exact HSR.out _
      case measure => simp [intOf]; omega
    · have hj32 : j = 32 := by omega
      subst hj32
      rw [show bytesP s 32 = bytesN s from by rw [bytesP, List.take_of_length_le (by rw [bytesN_len]; omega)]; simp] at HROW
      clear hrow hch hj hlt
      go_wp2_with (first | ((with_reducible show wpList _ _ _ (⟨_, .load 25 _, _, _, _, _⟩ :: _) _ _); refine wpList_load_Row rfl rfl rfl (HROW.out) Tryd.underlying25 rfl (by rw [u8s_length, bytesN_len]; exact size25) ?_) | ((with_reducible show wpList _ _ _ (⟨_, .store 25 _ _, _, _, _, _⟩ :: _) _ _); refine wpList_store_Row (xs := u8s (bytesN s)) rfl rfl rfl (HR2x.out.chg HC.out HG23.out) (rfl) (by rw [u8s_length, bytesN_len, u8s_length]; rfl) (by rw [u8s_length, bytesN_len]; exact size25) (u8s_oneA _) ?_; intro w5 hr5 hc5 hs5; have HR5 := Lib.hid hr5; have HC5 := Lib.hid hc5; clear hr5 hc5 hs5))
      refine ret_row rfl rfl HR5.out Tryd.underlying25 rfl (by rw [u8s_length, bytesN_len]; exact size25) rfl ?_
      exact ⟨rfl, HC5.out none_ w (HCH.out.andThen HC.out (fun b h e => HN2.out (e ▸ h))) (fun h => absurd h HN.out)⟩
end Go.Proofs.YtodcjcpbigggfaaDoor
