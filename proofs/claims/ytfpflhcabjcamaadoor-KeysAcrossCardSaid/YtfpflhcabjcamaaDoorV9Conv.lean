/- Layer 9 (gcm): a block as a polynomial, and back, the program's. -/
import Derived.Test.YtfpflhcabjcamaaDoorV9Small
import Derived.Test.YtfpflhcabjcamaaDoorKA1
import Derived.Test.YtfpflhcabjcamaaDoorK0
import Derived.Deep.RegionHeld3
namespace Go.Proofs.YtfpflhcabjcamaaDoor
open Go.RowKit

section
variable {P : Program} {ops : Array Oper} {S : World → Prop} {o : Oper} {a : Act}
theorem yieldsIf_slice_arr_high (hw : Region.wanted o (yielded ops a.tmps) = true) (t e : TypeId) (x y : Operand) (ho : o.op = .slice t x none (some y) none) (n s k b off : Nat) (hx : a.eval x = .pointer (some ⟨b, off, none⟩)) (hy : a.eval y = .int .i64 (k : Int)) (hu : P.underlying t = some (.array n e)) (hs : (P.info? e).map (·.size) = some s) (hk : k ≤ n) : YieldsIf P ops S o (.slice (some ⟨b, off, none⟩) k n) a :=
  .inl ⟨hw, fun w _ => by
    have := run_slice_arr_high (P := P) w t e n s k b off hu hs hk
    unfold execOp
    simp [ho, hx, hy, this]⟩
theorem yieldsIf_slice_arr_low (hw : Region.wanted o (yielded ops a.tmps) = true) (t e : TypeId) (x y : Operand) (ho : o.op = .slice t x (some y) none none) (n s k b off : Nat) (hx : a.eval x = .pointer (some ⟨b, off, none⟩)) (hy : a.eval y = .int .i64 (k : Int)) (hu : P.underlying t = some (.array n e)) (hs : (P.info? e).map (·.size) = some s) (hk : k < n) : YieldsIf P ops S o (.slice (some ⟨b, off + k * s, none⟩) (n - k) (n - k)) a :=
  .inl ⟨hw, fun w _ => by
    have := run_slice_arr_low (P := P) w t e n s k b off hu hs hk
    unfold execOp
    simp [ho, hx, hy, this]⟩
end

set_option maxRecDepth 100000 in
set_option maxHeartbeats 1000000 in
theorem polynomialOf_any (b : List Nat) (w : World) (hb : b.length = 16) (hbb : ∀ x ∈ b, x < 256) : Calls Tryd.prog 39 #[.agg (u8s b).toArray] w fun e w' => e = .returned (.agg (pw (polB b)).toArray) ∧ Chg none_ w w' := by
  have HF := Lib.hid (fW_pol b hb hbb)
  have HLB := Lib.hid (lW_pol b hb hbb)
  have HW1 := Lib.hid (fun (T : Nat → Prop) A cap w => wordOf_any T A cap (b.take 8) w (by rw [List.length_take, hb]; rfl) (fun x hx => hbb x (List.mem_of_mem_take hx)))
  have HW2 := Lib.hid (fun (T : Nat → Prop) A cap w => wordOf_any T A cap (b.drop 8) w (by rw [List.length_drop, hb]) (fun x hx => hbb x (List.mem_of_mem_drop hx)))
  rw [HF.out] at HW1
  rw [HLB.out] at HW2
  have HB := Lib.hid hb
  clear hb hbb
  go_enter Tryd.func39, Tryd.ntmps39
  go_wp2_with (first | ((with_reducible show wpList _ _ _ (⟨_, .box 33 _, _, _, _, _⟩ :: _) _ _); refine wpList_box_Row rfl rfl (u8s b) rfl ?_; intro w1 hr1 hc1 hs1; have HR1 := Lib.hid hr1; have HC1 := Lib.hid hc1; clear hr1 hc1 hs1) | ((with_reducible show wpList _ _ _ (⟨_, .alloc 86, _, _, _, _⟩ :: _) _ _); refine wpList_alloc_Row rfl rfl (w2 0 0) zero45 ?_; intro w2 hr2 hc2 hs2; have HR2 := Lib.hid hr2; have HC2 := Lib.hid (HC1.out.trans hc2); have HR1b := Lib.hid (HR1.out.chg hc2 (fun h => h)); clear hr2 hc2 hs2))
  have HG1 := Lib.hid (show w.heap.size < w1.heap.size from HR1.out.lt)
  have HV : Hid (∀ w', Chg (· = w1.heap.size) w2 w' → View w' (fun _ => True) (some ⟨w.heap.size, 0, none⟩) 16 (u8s b)) := Lib.hid (fun w' h => View.all (HR1b.out.chg h (fun e => by have := HG1.out; omega)) (by rw [u8s_length, HB.out]) trivial)
  have HV1 : Hid (∀ w', Chg (· = w1.heap.size) w2 w' → View w' (fun _ => True) (some ⟨w.heap.size, 0, none⟩) 8 (u8s (b.take 8))) := Lib.hid (fun w' h => by have := (HV.out w' h).take (k := 8) (by decide); rwa [show (u8s b).take 8 = u8s (b.take 8) from by simp [u8s]] at this)
  have HV2 : Hid (∀ w', Chg (· = w1.heap.size) w2 w' → View w' (fun _ => True) (some ⟨w.heap.size, 8, none⟩) 8 (u8s (b.drop 8))) := Lib.hid (fun w' h => by have := (HV.out w' h).drop (k := 8); rw [show (u8s b).drop 8 = u8s (b.drop 8) from by simp [u8s]] at this; simpa [addr_add] using this)
  refine wp_region_held_drew (S := fun w' => Chg (· = w1.heap.size) w2 w') (by kernel_rfl) ((Chg.refl (· = w1.heap.size) w2).drew) (fun hch0 => ?_)
  refine wpAnyH_take (i := 0) (v := .slice (some ⟨w.heap.size, 0, none⟩) 8 16) rfl (by kernel_rfl) (by kernel_rfl) (by kernel_rfl) (by first | exact fun _ _ _ h => h | exact fun _ _ _ h => nomatch h.1) (yieldsIf_slice_arr_high (by rfl) 33 5 _ _ rfl 16 1 8 w.heap.size 0 rfl rfl Tryd.underlying33 size5 (by decide)) hch0 ?_
  refine wpAnyH_take (i := 2) (v := .slice (some ⟨w.heap.size, 8, none⟩) 8 8) rfl (by kernel_rfl) (by kernel_rfl) (by kernel_rfl) (by first | exact fun _ _ _ h => h | exact fun _ _ _ h => nomatch h.1) (yieldsIf_slice_arr_low (by rfl) 33 5 _ _ rfl 16 1 8 w.heap.size 0 rfl rfl Tryd.underlying33 size5 (by decide)) hch0 ?_
  try simp only [Act.put, List.setIfInBounds_toArray, List.set_cons_zero, List.set_cons_succ, List.getElem_toArray, List.getElem_cons_succ, List.getElem_cons_zero]
  refine wpAnyH_ready (rs := [1]) (by kernel_rfl) (by simp) ?_
  refine AllReadyH.cons rfl (fun K hK => ?_) AllReadyH.nil
  rw [if_pos (by rfl)]
  try simp only [List.getElem_toArray, List.getElem_cons_succ, List.getElem_cons_zero]
  go_simp
  refine (HW1.out _ _ _ _ (HV1.out _ hch0)).mono ?_
  rintro e wx ⟨rfl, rfl⟩
  refine hK.out _ _ (hch0) (fun _ => ?_)
  clear hK K
  try simp only [Act.put, List.setIfInBounds_toArray, List.set_cons_zero, List.set_cons_succ, List.getElem_toArray, List.getElem_cons_succ, List.getElem_cons_zero]
  refine wpAnyH_ready (rs := [3]) (by kernel_rfl) (by simp) ?_
  refine AllReadyH.cons rfl (fun K hK => ?_) AllReadyH.nil
  rw [if_pos (by rfl)]
  try simp only [List.getElem_toArray, List.getElem_cons_succ, List.getElem_cons_zero]
  go_simp
  refine (HW2.out _ _ _ _ (HV2.out _ hch0)).mono ?_
  rintro e wx ⟨rfl, rfl⟩
  refine hK.out _ _ (hch0) (fun _ => ?_)
  clear hK K
  try simp only [Act.put, List.setIfInBounds_toArray, List.set_cons_zero, List.set_cons_succ, List.getElem_toArray, List.getElem_cons_succ, List.getElem_cons_zero]
  refine wpAnyH_take (i := 4) (v := .agg #[.int .u64 (fW (polB b) : Nat), .int .u64 (lW (polB b) : Nat)]) rfl (by kernel_rfl) (by kernel_rfl) (by kernel_rfl) (by first | exact fun _ _ _ h => h | exact fun _ _ _ h => nomatch h.1) (Or.inl ⟨by rfl, fun w_ hw_ => by go_simp⟩) hch0 ?_
  try simp only [Act.put, List.setIfInBounds_toArray, List.set_cons_zero, List.set_cons_succ, List.getElem_toArray, List.getElem_cons_succ, List.getElem_cons_zero]
  refine wpAnyH_ready (rs := [5]) (by kernel_rfl) (by simp) ?_
  refine AllReadyH.cons rfl (fun K hK => ?_) AllReadyH.nil
  rw [if_pos (by rfl)]
  try simp only [List.getElem_toArray, List.getElem_cons_succ, List.getElem_cons_zero]
  refine wp_store_row (ty := 86) (xs := pw (polB b)) rfl rfl (HR2.out.drew) rfl (rfl) (size45) (rfl) ?_
  intro w5 hr_w5 hc_w5 hs_w5
  refine hK.out _ _ (hc_w5 _ w2 hch0 (fun _ => rfl)) (fun _ => ?_)
  clear hK K
  try simp only [Act.put]
  refine wpAnyH_done (by kernel_rfl) ?_ _
  go_wp2
  refine ret_row rfl rfl hr_w5 Tryd.underlying86 rfl size45 rfl ?_
  exact ⟨rfl, HC2.out.andThen (hc_w5 (· = w1.heap.size) w2 hch0 (fun _ => rfl)) (fun b h e => by have := HG1.out; omega)⟩

/-- A polynomial's bytes, the first k of each half laid. -/
def byS (n k : Nat) : List Nat := (List.range 16).map fun i => if i % 8 < k then byteN n i else 0
theorem byS_len (n k : Nat) : (byS n k).length = 16 := by simp [byS]
theorem byS_0 (n : Nat) : byS n 0 = List.replicate 16 0 := by
  unfold byS
  simp only [Nat.not_lt_zero, if_false]
  decide
theorem byS_8 (n : Nat) : byS n 8 = bpol n := by
  unfold byS bpol
  apply List.map_congr_left
  intro i _
  rw [if_pos (by omega)]
theorem byS_set (n k : Nat) (hk : k < 8) : ((byS n k).set k (byteN n k)).set (8 + k) (byteN n (8 + k)) = byS n (k + 1) := by
  apply List.ext_getElem (by simp [byS])
  intro i h1 h2
  have hi : i < 16 := by simpa [byS] using h2
  rw [List.getElem_set, List.getElem_set]
  simp only [byS, List.getElem_map, List.getElem_range]
  by_cases e1 : 8 + k = i
  · subst e1; rw [if_pos rfl, if_pos (by omega)]
  · rw [if_neg e1]
    by_cases e2 : k = i
    · subst e2; rw [if_pos rfl, if_pos (by omega)]
    · rw [if_neg e2]
      by_cases h : i % 8 < k
      · rw [if_pos h, if_pos (by omega)]
      · rw [if_neg h, if_neg (by omega)]
theorem zero22 : (Tryd.prog.info? 33).map (·.zero) = some (some (.agg (u8s (List.replicate 16 0)).toArray)) := by kernel_rfl
theorem size22 : (Tryd.prog.info? 33).map (·.size) = some 16 := by kernel_rfl

set_option maxRecDepth 100000 in
set_option maxHeartbeats 1000000 in
theorem bytes9_any (n : Nat) (w : World) : Calls Tryd.prog 42 #[.agg (pw n).toArray] w fun e w' => e = .returned (.agg (u8s (bpol n)).toArray) ∧ Chg none_ w w' := by
  have HBF := Lib.hid (fun i h => byte_fW n i h)
  have HBL := Lib.hid (fun i h => byte_lW n i h)
  have HFL := Lib.hid (fW_lt n)
  have HLL := Lib.hid (lW_lt n)
  have HPW : Hid (pw n = w2 (fW n) (lW n)) := Lib.hid rfl
  go_enter Tryd.func42, Tryd.ntmps42
  go_wp2_with (first | ((with_reducible show wpList _ _ _ (⟨_, .box 86 _, _, _, _, _⟩ :: _) _ _); refine wpList_box_Row rfl rfl (pw n) rfl ?_; intro w1 hr1 hc1 hs1; have HR1 := Lib.hid hr1; have HC1 := Lib.hid hc1; clear hr1 hc1 hs1) | ((with_reducible show wpList _ _ _ (⟨some 2, .alloc 33, _, _, _, _⟩ :: _) _ _); refine wpList_alloc_Row rfl rfl (u8s (List.replicate 16 0)) zero22 ?_; intro w2 hr2 hc2 hs2; have HR2 := Lib.hid hr2; have HC2 := Lib.hid (HC1.out.trans hc2); have HR1b := Lib.hid (HR1.out.chg hc2 (fun h => h)); clear hr2 hc2 hs2) | ((with_reducible show wpList _ _ _ (⟨some 3, .alloc 33, _, _, _, _⟩ :: _) _ _); refine wpList_alloc_Row rfl rfl (u8s (List.replicate 16 0)) zero22 ?_; intro w3 hr3 hc3 hs3; have HR3 := Lib.hid hr3; have HC3 := Lib.hid (HC2.out.trans hc3); have HR1c := Lib.hid (HR1b.out.chg hc3 (fun h => h)); have HR2b := Lib.hid (HR2.out.chg hc3 (fun h => h)); clear hr3 hc3 hs3))
  have HG1 := Lib.hid (show w.heap.size < w1.heap.size from HR1.out.lt)
  have HG2 := Lib.hid (show w1.heap.size < w2.heap.size from HR2.out.lt)
  clear HR1 HR1b HR2 HC1 HC2
  go_loopw [4, 5, 6] (fun _ _ i wr => ∃ k : Nat, k ≤ 8 ∧ i = .int .i64 k ∧ Row wr w2.heap.size 33 (u8s (byS n k)) ∧ Chg (· = w2.heap.size) w3 wr) (fun _ _ i _ => 8 - (intOf i).toNat)
  case atStart => exact ⟨0, Nat.zero_le _, rfl, by rw [byS_0]; exact HR3.out, Chg.refl _ _⟩
  case round =>
    obtain ⟨k, hk, rfl, hrow, hch⟩ := hrel
    have HC := Lib.hid hch
    have hr1 := HR1c.out.chg hch (fun e => by have := HG1.out; have := HG2.out; omega)
    by_cases hlt : k < 8
    · obtain ⟨r, hr⟩ : ∃ r, r = 8 * (7 - k) := ⟨_, rfl⟩
      have hf := hrow.frozen k
      have hf2 := hrow.frozen (8 + k)
      have c0 := Row.u8 hrow (i := k) (by rw [byS_len]; omega)
      have c1 := Row.u8 hrow (i := 8 + k) (by rw [byS_len]; omega)
      have f1 : wr.cell? ⟨w.heap.size, 0, none⟩ = some (.int .u64 (fW n : Nat)) := hr1.cell 0
      have f2 : wr.cell? ⟨w.heap.size, 1, none⟩ = some (.int .u64 (lW n : Nat)) := hr1.cell 1
      have HSET := Lib.hid ((hrow.set k (.int .u8 (byteN n k : Nat))).set (8 + k) (.int .u8 (byteN n (8 + k) : Nat)))
      have HSET2 := Lib.hid ((hrow.set (8 + k) (.int .u8 (byteN n (8 + k) : Nat))).set k (.int .u8 (byteN n k : Nat)))
      have HPS := Lib.hid (byS_set n k hlt)
      generalize (byS n k).getD k 0 = x0 at c0
      generalize (byS n k).getD (8 + k) 0 = x1 at c1
      have q0 : (0 : Int) ≤ (k : Int) := by omega
      have q1 : (k : Int) < 8 := by omega
      clear hrow hch hr1
      have q2 : (0 : Int) ≤ 8 * (7 - (k : Int)) := by omega
      have q3 : (8 : Int) + (k : Int) < 16 := by omega
      have q4 : (0 : Int) ≤ 8 + (k : Int) := by omega
      have n1 : ¬ w.heap.size = w2.heap.size := by have := HG1.out; have := HG2.out; omega
      have n2 : ¬ w2.heap.size = w.heap.size := fun e => n1 e.symm
      have n3 : ¬ k = 8 + k := by omega
      have n4 : ¬ 8 + k = k := by omega
      clear hr
      go_wp2
      go_region
      have v1 : ((fW n : Nat) : Int) / 2 ^ (8 * (7 - k)) % 256 = ((byteN n k : Nat) : Int) := by rw [← HBF.out k hlt]; simp
      have v2 : ((lW n : Nat) : Int) / 2 ^ (8 * (7 - k)) % 256 = ((byteN n (8 + k) : Nat) : Int) := by rw [← HBL.out k hlt]; simp
      rw [v1, v2]
      go_wp2
      go_roundw
      case rel => exact ⟨k + 1, by omega, by go_num, by rw [← HPS.out, ← u8s_set, ← u8s_set]; exact HSET.out, ((HC.out.setCell (fun _ => rfl) _).setCell (fun _ => rfl) _).drew⟩
      case measure => simp [intOf]; omega
    · have hk8 : k = 8 := by omega
      subst hk8
      rw [byS_8] at hrow
      have HROW := Lib.hid hrow
      have HR2c := Lib.hid (HR2b.out.chg hch (fun e => by have := HG2.out; omega))
      clear hrow hch hr1
      go_wp2_with (first | ((with_reducible show wpList _ _ _ (⟨some 28, .load 33 _, _, _, _, _⟩ :: _) _ _); refine wpList_load_Row rfl rfl rfl (HROW.out) Tryd.underlying33 rfl (by rw [u8s_length, bpol_len]; exact size22) ?_) | ((with_reducible show wpList _ _ _ (⟨_, .store 33 (.tmp 2) _, _, _, _, _⟩ :: _) _ _); refine wpList_store_Row (xs := u8s (bpol n)) rfl rfl rfl (HR2c.out) (rfl) (by rw [u8s_length, u8s_length, bpol_len, List.length_replicate]) (by rw [u8s_length, bpol_len]; exact size22) (u8s_oneA _) ?_; intro w9 hr9 hc9 hs9; have HR9 := Lib.hid hr9; have HC9 := Lib.hid hc9; clear hr9 hc9 hs9))
      refine ret_row rfl rfl HR9.out Tryd.underlying33 rfl (by rw [u8s_length, bpol_len]; exact size22) rfl ?_
      exact ⟨rfl, HC9.out none_ w (HC3.out.andThen HC.out (fun b h e => by have := HG1.out; have := HG2.out; omega)) (fun h => by have := HG1.out; omega)⟩
end Go.Proofs.YtfpflhcabjcamaaDoor
