/- Layer 9 (gcm): numbered blocks, products, and what a sum is behind a text, the program's. -/
import Derived.Test.YtfpflhcabjcamaaDoorV9Times
import Derived.Test.YtfpflhcabjcamaaDoorKM
import Derived.Test.YtfpflhcabjcamaaDoorKA2
namespace Go.Proofs.YtfpflhcabjcamaaDoor
open Go.RowKit

section
variable {P : Program} {ops : Array Oper} {S : World → Prop} {o : Oper} {a : Act} {rest : List Oper} {w : World} {Q : Exit → Act → World → Prop}
theorem run_slice_arr_all (w : World) (t e : TypeId) (n s : Nat) (b off : Nat) (hu : P.underlying t = some (.array n e)) (hs : (P.info? e).map (·.size) = some s) :
    (Instr.sliceAt t (.pointer (some ⟨b, off, none⟩)) none none none).run P w = .ok (.slice (some ⟨b, off, none⟩) n n) w := by
  cases hq : P.info? e with
  | none => rw [hq] at hs; cases hs
  | some i =>
    simp [Instr.sliceAt, run_underlying hu, Instr.sureAddr, Instr.sliceBounds, sizeOf, typeInfo, hq, addr_add]
theorem yieldsIf_slice_arr_all (hw : Region.wanted o (yielded ops a.tmps) = true) (t e : TypeId) (x : Operand) (ho : o.op = .slice t x none none none) (n s b off : Nat) (hx : a.eval x = .pointer (some ⟨b, off, none⟩)) (hu : P.underlying t = some (.array n e)) (hs : (P.info? e).map (·.size) = some s) : YieldsIf P ops S o (.slice (some ⟨b, off, none⟩) n n) a :=
  .inl ⟨hw, fun w _ => by
    have := run_slice_arr_all (P := P) w t e n s b off hu hs
    unfold execOp
    simp [ho, hx, this]⟩
theorem wpList_slice_arr_all (hw : Region.wanted o (yielded ops a.tmps) = true) (t e : TypeId) (x : Operand) (ho : o.op = .slice t x none none none) (n s b off : Nat) (hx : a.eval x = .pointer (some ⟨b, off, none⟩)) (hu : P.underlying t = some (.array n e)) (hs : (P.info? e).map (·.size) = some s)
    (h : wpList P ops Q rest (a.put o.dst (.slice (some ⟨b, off, none⟩) n n)) w) : wpList P ops Q (o :: rest) a w :=
  wpList_val hw _ (fun w => by
    have := run_slice_arr_all (P := P) w t e n s b off hu hs
    unfold execOp
    simp [ho, hx, this]) h
end
theorem sizeN12 : (Tryd.prog.info? 34).map (·.size) = some 12 := by kernel_rfl
theorem fill_num (nonce : List Nat) (k : Nat) (h : nonce.length = 12) : (u8s nonce).take 16 ++ (u8s (List.replicate 15 0 ++ [k])).drop 12 = u8s (jN nonce k) := by
  rw [List.take_of_length_le (by rw [u8s_length]; omega)]
  unfold jN u8s
  simp only [List.map_append]
  rfl
theorem jN_len (nonce : List Nat) (k : Nat) (h : nonce.length = 12) : (jN nonce k).length = 16 := by unfold jN; rw [List.length_append, h]; rfl
theorem jN_lt {nonce : List Nat} {k : Nat} (h : ∀ x ∈ nonce, x < 256) (hk : k < 256) : ∀ x ∈ jN nonce k, x < 256 := by
  intro x hx
  unfold jN at hx
  simp only [List.mem_append, List.mem_cons, List.not_mem_nil, or_false] at hx
  rcases hx with hx | rfl | rfl | rfl | rfl
  · exact h x hx
  all_goals omega
theorem run_build_num (k : Nat) (w : World) : (Instr.build 33 #[(15, .int .u8 (k : Int))]).run Tryd.prog w = .ok (.agg (u8s (List.replicate 15 0 ++ [k])).toArray) w :=
  run_build w _ _ _ (by kernel_rfl)
theorem run_build_none (w : World) : (Instr.build 33 #[]).run Tryd.prog w = .ok (.agg (u8s (List.replicate 16 0)).toArray) w :=
  run_build w _ _ _ (by kernel_rfl)
theorem run_build_zero (w : World) : (Instr.build 86 #[]).run Tryd.prog w = .ok (.agg (w2 0 0).toArray) w :=
  run_build w _ _ _ (by kernel_rfl)
theorem run_build_two (a b : Nat) (w : World) : (Instr.build 86 #[(0, .int .u64 (a : Int)), (1, .int .u64 (b : Int))]).run Tryd.prog w = .ok (.agg (w2 a b).toArray) w :=
  run_build w _ _ _ (by kernel_rfl)

set_option maxRecDepth 100000 in
set_option maxHeartbeats 1000000 in
theorem numbered_any (nonce : List Nat) (k : Nat) (w : World) (hn : nonce.length = 12) : Calls Tryd.prog 33 #[.agg (u8s nonce).toArray, .int .u8 (k : Int)] w fun e w' => e = .returned (.agg (u8s (jN nonce k)).toArray) ∧ Chg none_ w w' := by
  have HN := Lib.hid hn
  clear hn
  go_enter Tryd.func33, Tryd.ntmps33
  go_wp2_with (first | ((with_reducible show wpList _ _ _ (⟨_, .box 34 _, _, _, _, _⟩ :: _) _ _); refine wpList_box_Row rfl rfl (u8s nonce) rfl ?_; intro w1 hr1 hc1 hs1; have HR1 := Lib.hid hr1; have HC1 := Lib.hid hc1; clear hr1 hc1 hs1) | ((with_reducible show wpList _ _ _ (⟨some 4, .alloc 33, _, _, _, _⟩ :: _) _ _); refine wpList_alloc_Row rfl rfl (u8s (List.replicate 16 0)) zero22 ?_; intro w2 hr2 hc2 hs2; have HR2 := Lib.hid hr2; have HC2 := Lib.hid (HC1.out.trans hc2); have HR1b := Lib.hid (HR1.out.chg hc2 (fun h => h)); clear hr2 hc2 hs2) | ((with_reducible show wpList _ _ _ (⟨_, .build _ _, _, _, _, _⟩ :: _) _ _); refine wpList_val rfl (.agg (u8s (List.replicate 15 0 ++ [k])).toArray) (fun w => by unfold execOp; simp [Act.eval, run_build_num k]) ?_) | ((with_reducible show wpList _ _ _ (⟨some 5, .alloc 33, _, _, _, _⟩ :: _) _ _); refine wpList_alloc_Row rfl rfl (u8s (List.replicate 16 0)) zero22 ?_; intro w3 hr3 hc3 hs3; have HR3 := Lib.hid hr3; have HC3 := Lib.hid (HC2.out.trans hc3); have HR1c := Lib.hid (HR1b.out.chg hc3 (fun h => h)); have HR2b := Lib.hid (HR2.out.chg hc3 (fun h => h)); clear hr3 hc3 hs3) | ((with_reducible show wpList _ _ _ (⟨_, .store 33 (.tmp 5) _, _, _, _, _⟩ :: _) _ _); refine wpList_store_Row (xs := u8s (List.replicate 15 0 ++ [k])) rfl rfl rfl (HR3.out) (rfl) (by simp) (by rw [u8s_length]; exact size22) (u8s_oneA _) ?_; intro w4 hr4 hc4 hs4; have HR4 := Lib.hid hr4; have HC4 := Lib.hid (hc4 none_ w HC3.out (fun h => by have := HC2.out.size; omega)); have HR1d := Lib.hid (HR1c.out.chg (hc4 (· = w2.heap.size) w3 (Chg.refl _ _) (fun _ => rfl)) (fun e => by have := HR1b.out.lt; omega)); have HR2c := Lib.hid (HR2b.out.chg (hc4 (· = w2.heap.size) w3 (Chg.refl _ _) (fun _ => rfl)) (fun e => by have := HR2.out.lt; omega)); clear hr4 hc4 hs4))
  have HG1 := Lib.hid (show w.heap.size < w1.heap.size from HR1.out.lt)
  have HG2 := Lib.hid (show w1.heap.size < w2.heap.size from HR2.out.lt)
  have HVN : Hid (∀ w', Chg (· = w2.heap.size) w4 w' → View w' (fun _ => True) (some ⟨w.heap.size, 0, none⟩) 12 (u8s nonce)) := Lib.hid (fun w' h => View.all (HR1d.out.chg h (fun e => by have := HG1.out; have := HG2.out; omega)) (by rw [u8s_length, HN.out]) trivial)
  refine wp_region_held_drew (S := fun w' => Chg (· = w2.heap.size) w4 w') (by kernel_rfl) ((Chg.refl (· = w2.heap.size) w4).drew) (fun hch0 => ?_)
  refine wpAnyH_take (i := 0) (v := .slice (some ⟨w2.heap.size, 0, none⟩) 16 16) rfl (by kernel_rfl) (by kernel_rfl) (by kernel_rfl) (by first | exact fun _ _ _ h => h | exact fun _ _ _ h => nomatch h.1) (yieldsIf_slice_arr_all (by rfl) 33 5 _ rfl 16 1 w2.heap.size 0 rfl Tryd.underlying33 size5) hch0 ?_
  refine wpAnyH_take (i := 1) (v := .slice (some ⟨w.heap.size, 0, none⟩) 12 12) rfl (by kernel_rfl) (by kernel_rfl) (by kernel_rfl) (by first | exact fun _ _ _ h => h | exact fun _ _ _ h => nomatch h.1) (yieldsIf_slice_arr_all (by rfl) 34 5 _ rfl 12 1 w.heap.size 0 rfl Tryd.underlying34 size5) hch0 ?_
  try simp only [Act.put, List.setIfInBounds_toArray, List.set_cons_zero, List.set_cons_succ, List.getElem_toArray, List.getElem_cons_succ, List.getElem_cons_zero]
  refine wpAnyH_ready (rs := [2]) (by kernel_rfl) (by simp) ?_
  refine AllReadyH.cons rfl (fun K hK => ?_) AllReadyH.nil
  rw [if_pos (by rfl)]
  try simp only [List.getElem_toArray, List.getElem_cons_succ, List.getElem_cons_zero]
  refine wp_copy_min _ _ _ _ rfl (pre := []) (ys := u8s (List.replicate 15 0 ++ [k])) (post := []) (xs := u8s nonce) (D := some ⟨w2.heap.size, 0, none⟩) rfl rfl (fun _ => rfl) Tryd.underlying22 size5 (by rw [List.nil_append, List.append_nil]; exact HR4.out.drew) (by rw [u8s_length]; simp) (HVN.out _ hch0) (u8s_one _) ?_
  intro w5 hr5 hc5
  have hch5 : Chg (· = w2.heap.size) w4 w5 := hch0.trans hc5
  rw [List.nil_append, List.append_nil, fill_num nonce k HN.out] at hr5
  refine hK.out _ _ hch5 (fun _ => ?_)
  clear hK K
  try simp only [Act.put, List.setIfInBounds_toArray, List.set_cons_zero, List.set_cons_succ]
  refine wpAnyH_done (by kernel_rfl) ?_ _
  have HR5 := Lib.hid hr5
  have HR2d := Lib.hid (HR2c.out.chg hch5 (fun e => by have := HG2.out; omega))
  have HC5 := Lib.hid (HC4.out.andThen hch5 (fun b h e => by have := HG1.out; have := HG2.out; omega))
  have HJL : Hid ((jN nonce k).length = 16) := Lib.hid (by unfold jN; rw [List.length_append, HN.out]; rfl)
  clear hr5 hch5 hc5 hch0
  go_wp2_with (first | ((with_reducible show wpList _ _ _ (⟨some 11, .load 33 _, _, _, _, _⟩ :: _) _ _); refine wpList_load_Row rfl rfl rfl (HR5.out) Tryd.underlying33 rfl (by rw [u8s_length, HJL.out]; exact size22) ?_) | ((with_reducible show wpList _ _ _ (⟨_, .store 33 (.tmp 4) _, _, _, _, _⟩ :: _) _ _); refine wpList_store_Row (xs := u8s (jN nonce k)) rfl rfl rfl (HR2d.out) (rfl) (by rw [u8s_length, u8s_length, HJL.out, List.length_replicate]) (by rw [u8s_length, HJL.out]; exact size22) (u8s_oneA _) ?_; intro w9 hr9 hc9 hs9; have HR9 := Lib.hid hr9; have HC9 := Lib.hid hc9; clear hr9 hc9 hs9))
  refine ret_row rfl rfl HR9.out Tryd.underlying33 rfl (by rw [u8s_length, HJL.out]; exact size22) rfl ?_
  exact ⟨rfl, HC9.out none_ w HC5.out (fun h => by have := HG1.out; omega)⟩
end Go.Proofs.YtfpflhcabjcamaaDoor
