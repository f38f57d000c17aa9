/- Layer 10 (keys): keys updated; first secrets and later ones; nonces; packets sealed and opened, the program's. -/
import Derived.Test.YtfpflhcabjcamaaDoorV10Keys
import Derived.Test.YtfpflhcabjcamaaDoorV9Seal
import Derived.Test.YtfpflhcabjcamaaDoorRes
namespace Go.Proofs.YtfpflhcabjcamaaDoor
open Go.RowKit

/-- Two structs are handed back out of their cells. -/
theorem ret_rows2 {P : Program} {fn : Func} {p q : Tmp} {ty tz : TypeId} (hres : fn.results = #[.cell p ty, .cell q tz]) {a : Act} {w : World} {g g' : Nat} {e e' : TypeId} {cs cs' : List Value} {d d' : TypeDesc} {R : Ending → World → Prop}
    (hp : a.tmps.getD p undef = .pointer (some ⟨g, 0, none⟩)) (hr : Row w g e cs) (hu : P.underlying ty = some d) (hd : d.isRow = true) (hi : (P.info? ty).map (·.size) = some cs.length)
    (hp' : a.tmps.getD q undef = .pointer (some ⟨g', 0, none⟩)) (hr' : Row w g' e' cs') (hu' : P.underlying tz = some d') (hd' : d'.isRow = true) (hi' : (P.info? tz).map (·.size) = some cs'.length) (hdef : a.defers = [])
    (h : R (.returned (.tuple #[.agg cs.toArray, .agg cs'.toArray])) w) : bodyPost P fn R Exit.ret a w := by
  have h1 : a.tmps[p]?.getD undef = .pointer (some ⟨g, 0, none⟩) := by simpa using hp
  have h2 : a.tmps[q]?.getD undef = .pointer (some ⟨g', 0, none⟩) := by simpa using hp'
  refine bodyPost_ret ?_ hdef h
  simp [results, hres, h1, h2, asAddr, run_loadVar_row w g e ty cs.toArray (0, 0) d hr hu (by cases d <;> first | rfl | cases hd) (by simpa using hi), run_loadVar_row w g' e' tz cs'.toArray (0, 0) d' hr' hu' (by cases d' <;> first | rfl | cases hd') (by simpa using hi')]

theorem salt_row {w : World} {g : Nat} {e : TypeId} (h : Row w g e [.int .u8 100, .int .u8 111, .int .u8 111, .int .u8 114, .int .u8 119, .int .u8 97, .int .u8 114, .int .u8 100, .int .u8 32, .int .u8 102, .int .u8 105, .int .u8 114, .int .u8 115, .int .u8 116, .int .u8 32, .int .u8 115, .int .u8 97, .int .u8 108, .int .u8 116, .int .u8 46, .int .u8 46]) : Row w g e (u8s saltL) := h

theorem sc_at {w : World} {g : Nat} {e : TypeId} {s : Sc} (h : Row w g e (cellsS s)) (o : Nat) (xs : List Nat) (pre post : List Value) (he : cellsS s = pre ++ (u8s xs ++ post)) (ho : o = pre.length) : w.rangeAt g o (u8s xs) := by
  subst ho
  refine h.rangeMid _ _ (fun j v hv => ?_)
  have hj : j < (u8s xs).length := by
    rcases Nat.lt_or_ge j (u8s xs).length with h | h
    · exact h
    · rw [List.getElem?_eq_none h] at hv; cases hv
  rw [he, List.getElem?_append_right (Nat.le_add_right _ _), Nat.add_sub_cancel_left, List.getElem?_append_left hj]
  exact hv
theorem sc_key {w : World} {g : Nat} {e : TypeId} {s : Sc} (h : Row w g e (cellsS s)) : w.rangeAt g 0 (u8s s.key) := sc_at h 0 s.key [] _ rfl rfl
theorem sc_iv {w : World} {g : Nat} {e : TypeId} {s : Sc} (h : Row w g e (cellsS s)) (o : s.Ok) : w.rangeAt g 16 (u8s s.iv) := sc_at h 16 s.iv (u8s s.key) _ rfl (by rw [u8s_length, o.keyL])
theorem sc_next {w : World} {g : Nat} {e : TypeId} {s : Sc} (h : Row w g e (cellsS s)) (o : s.Ok) : w.rangeAt g 28 (u8s s.next) := sc_at h 28 s.next (u8s s.key ++ u8s s.iv) [.bool s.phase] (by unfold cellsS; simp) (by rw [List.length_append, u8s_length, u8s_length, o.keyL, o.ivL])
theorem sc_phase {w : World} {g : Nat} {e : TypeId} {s : Sc} (h : Row w g e (cellsS s)) (o : s.Ok) : w.cell? ⟨g, 60, none⟩ = some (.bool s.phase) := by
  rw [h.cell]
  have e : cellsS s = (u8s s.key ++ u8s s.iv ++ u8s s.next) ++ [.bool s.phase] := by unfold cellsS; simp
  rw [e, List.getElem?_append_right (by simp only [List.length_append, u8s_length, o.keyL, o.ivL, o.nextL]; omega)]
  simp only [List.length_append, u8s_length, o.keyL, o.ivL, o.nextL]
  rfl

set_option maxRecDepth 100000 in
set_option maxHeartbeats 2000000 in
theorem Update_any (s : Sc) (w : World) (o : s.Ok) (hT : KTab w) :
    Calls Tryd.prog 10 #[aggS s] w fun e w' => e = .returned (aggS (updateN s)) ∧ Chg none_ w w' := by
  have HO := Lib.hid o
  obtain ⟨M, hM⟩ : ∃ M, M = updateN s := ⟨_, rfl⟩
  have HMO : Hid (M.Ok) := Lib.hid (by rw [hM]; exact updateN_ok s)
  have HMK : Hid (∀ w', Chg none_ w w' → Calls Tryd.prog 8 #[.agg (u8s s.next).toArray, .bool (!s.phase)] w' fun e w'' => e = .returned (.agg (cellsS M).toArray) ∧ Chg none_ w' w'') := Lib.hid (fun w' hc => by rw [hM]; exact Make_any s.next (!s.phase) w' o.nextL o.nextB (hT.chg hc))
  rw [← hM]
  show Calls Tryd.prog 10 #[.agg (cellsS s).toArray] w fun e w' => e = .returned (.agg (cellsS M).toArray) ∧ Chg none_ w w'
  clear o hT hM
  go_enter Tryd.func10, Tryd.ntmps10
  go_wp2_with (first | ((with_reducible show wpList _ _ _ (⟨some 1, .box 36 _, _, _, _, _⟩ :: _) _ _); refine wpList_box_Row rfl rfl (cellsS s) rfl ?_; intro w1 hr1 hc1 hs1; have HRS := Lib.hid hr1; have HC1 := Lib.hid hc1; clear hr1 hc1 hs1) | ((with_reducible show wpList _ _ _ (⟨some 2, .alloc 36, _, _, _, _⟩ :: _) _ _); refine wpList_alloc_Row rfl rfl (zeroS) zeroSc ?_; intro w2 hr2 hc2 hs2; have HR2 := Lib.hid hr2; have HC2 := Lib.hid (HC1.out.trans hc2); have HRS2 := Lib.hid (HRS.out.chg hc2 (fun h => h)); have HSZ1 := Lib.hid HC1.out.size; have cph := sc_phase HRS2.out HO.out; clear hr2 hc2 hs2) | ((with_reducible show wpList _ _ _ (⟨some 4, .load 26 _, _, _, _, _⟩ :: _) _ _); refine wpList_load_Mid (cs := u8s s.next) rfl rfl rfl (sc_next HRS2.out HO.out) Tryd.underlying26 rfl (by rw [u8s_length, HO.out.nextL]; exact size25) ?_) | (go_at_call 8; with_reducible refine (HMK.out _ HC2.out).mono ?_; rintro e w3 ⟨rfl, hc3⟩; have HC3 := Lib.hid (HC2.out.trans hc3); have HR3 := Lib.hid (HR2.out.chg hc3 (fun h => h)); clear hc3) | ((with_reducible show wpList _ _ _ (⟨_, .store 36 _ _, _, _, _, _⟩ :: _) _ _); refine wpList_store_Row (xs := cellsS M) rfl rfl rfl (HR3.out) (rfl) (by rw [cellsS_len HMO.out]; rfl) (by rw [cellsS_len HMO.out]; exact sizeSc) (cellsS_one M) ?_; intro w4 hr4 hc4 hs4; have HR4 := Lib.hid hr4; have HC4 := Lib.hid (hc4 none_ w HC3.out (fun h => by have := HSZ1.out; omega)); clear hr4 hc4 hs4))
  refine ret_row rfl rfl HR4.out Tryd.underlying36 rfl (by rw [cellsS_len HMO.out]; exact sizeSc) rfl ?_
  exact ⟨rfl, HC4.out⟩

set_option maxRecDepth 100000 in
set_option maxHeartbeats 4000000 in
theorem Later_any (c t : List Nat) (T T' : Nat → Prop) (A A' : Option Addr) (cap cap' : Nat) (w : World) (hvc : View w T A c.length (u8s c)) (hvt : View w T' A' t.length (u8s t)) (hcl : c.length ≤ 100000) (htl : t.length ≤ 100000) (hcc : c.length ≤ cap) (htc : t.length ≤ cap') (hcb : ∀ x ∈ c, x < 256) (htb : ∀ x ∈ t, x < 256) (hT : KTab w) :
    Calls Tryd.prog 5 #[.slice A c.length cap, .slice A' t.length cap'] w fun e w' => e = .returned (.tuple #[.agg (u8s (laterN c t).1).toArray, .agg (u8s (laterN c t).2).toArray]) ∧ Chg none_ w w' := by
  obtain ⟨X, hX⟩ : ∃ X, X = tagN c t := ⟨_, rfl⟩
  have hXl : X.length = 32 := by rw [hX]; exact tagN_len _ _
  have hXb : ∀ x ∈ X, x < 256 := by rw [hX]; exact tagN_lt _ _
  have HXL := Lib.hid hXl
  have HEX : Hid (∀ w', Chg none_ w w' → Calls Tryd.prog 19 #[.slice A c.length cap, .slice A' t.length cap'] w' fun e w'' => e = .returned (.agg (u8s X).toArray) ∧ Chg none_ w' w'') := Lib.hid (fun w' hc => by rw [hX]; exact extract_any T T' A A' cap cap' c t w' (hvc.chg hc (fun _ _ h => h)) (hvt.chg hc (fun _ _ h => h)) (by omega) (by omega) hcc htc hcb htb (hT.chg hc).h)
  obtain ⟨Ka, hKa⟩ : ∃ K, K = labelN X capL 32 := ⟨_, rfl⟩
  obtain ⟨Kb, hKb⟩ : ∃ K, K = labelN X sapL 32 := ⟨_, rfl⟩
  have e1 : (laterN c t).1 = Ka := by rw [hKa, hX]; rfl
  have e2 : (laterN c t).2 = Kb := by rw [hKb, hX]; rfl
  rw [e1, e2]
  have HKa : Hid (Ka.length = 32) := Lib.hid (by rw [hKa]; exact labelN_len X capL 32 (by decide) (by decide))
  have HKb : Hid (Kb.length = 32) := Lib.hid (by rw [hKb]; exact labelN_len X sapL 32 (by decide) (by decide))
  obtain ⟨L5, hL5⟩ : ∃ L, L = lblB 5 := ⟨_, rfl⟩
  have HLS5 : Hid (∀ w', Chg none_ w w' → w'.cell? ⟨0, 5, none⟩ = some (.string L5)) := Lib.hid (fun w' hc => by rw [hL5]; exact (hT.chg hc).ls 5 (by decide))
  have HB5 : Hid (∀ w', Chg none_ w w' → Calls Tryd.prog 20 #[.agg (u8s X).toArray, .string L5] w' fun e w'' => e = .returned (.agg (u8s Ka).toArray) ∧ Chg none_ w' w'') := Lib.hid (fun w' hc => by rw [hL5, hKa]; exact secretOf_any X (lblB 5) w' (by decide) hXl hXb (hT.chg hc).h)
  obtain ⟨L6, hL6⟩ : ∃ L, L = lblB 6 := ⟨_, rfl⟩
  have HLS6 : Hid (∀ w', Chg none_ w w' → w'.cell? ⟨0, 6, none⟩ = some (.string L6)) := Lib.hid (fun w' hc => by rw [hL6]; exact (hT.chg hc).ls 6 (by decide))
  have HB6 : Hid (∀ w', Chg none_ w w' → Calls Tryd.prog 20 #[.agg (u8s X).toArray, .string L6] w' fun e w'' => e = .returned (.agg (u8s Kb).toArray) ∧ Chg none_ w' w'') := Lib.hid (fun w' hc => by rw [hL6, hKb]; exact secretOf_any X (lblB 6) w' (by decide) hXl hXb (hT.chg hc).h)
  clear hvc hvt hcl htl hcc htc hcb htb hT hX hXl hXb hKa hKb e1 e2 hL5 hL6
  go_enter Tryd.func5, Tryd.ntmps5
  go_wp2_with (first | ((with_reducible show wpList _ _ _ (⟨some 4, .alloc 26, _, _, _, _⟩ :: _) _ _); refine wpList_alloc_Row rfl rfl (u8s (List.replicate 32 0)) zero25 ?_; intro w1 hr1 hc1 hs1; have HRa1 := Lib.hid hr1; have HC1 := Lib.hid hc1; clear hr1 hc1 hs1) | ((with_reducible show wpList _ _ _ (⟨some 5, .alloc 26, _, _, _, _⟩ :: _) _ _); refine wpList_alloc_Row rfl rfl (u8s (List.replicate 32 0)) zero25 ?_; intro w2 hr2 hc2 hs2; have HRb2 := Lib.hid hr2; have HC2 := Lib.hid (HC1.out.trans hc2); have HRa2 := Lib.hid (HRa1.out.chg hc2 (fun h => h)); have HSZ1 := Lib.hid HC1.out.size; clear hr2 hc2 hs2) | (go_at_call 19; with_reducible refine (HEX.out _ HC2.out).mono ?_; rintro e w3 ⟨rfl, hc3⟩; have HC3 := Lib.hid (HC2.out.trans hc3); have HRa3 := Lib.hid (HRa2.out.chg hc3 (fun h => h)); have HRb3 := Lib.hid (HRb2.out.chg hc3 (fun h => h)); clear hc3) | ((with_reducible show wpList _ _ _ (⟨some 6, .alloc 26, _, _, _, _⟩ :: _) _ _); refine wpList_alloc_Row rfl rfl (u8s (List.replicate 32 0)) zero25 ?_; intro w4 hr4 hc4 hs4; have HR4 := Lib.hid hr4; have HC4 := Lib.hid (HC3.out.trans hc4); have HRa4 := Lib.hid (HRa3.out.chg hc4 (fun h => h)); have HRb4 := Lib.hid (HRb3.out.chg hc4 (fun h => h)); clear hr4 hc4 hs4) | ((with_reducible show wpList _ _ _ (⟨_, .store 26 (.tmp 6) _, _, _, _, _⟩ :: _) _ _); refine wpList_store_Row (xs := u8s X) rfl rfl rfl (HR4.out) (rfl) (by rw [u8s_length, u8s_length, HXL.out, List.length_replicate]) (by rw [u8s_length, HXL.out]; exact size25) (u8s_oneA _) ?_; intro w5 hr5 hc5 hs5; have HRX := Lib.hid hr5; have HC5 := Lib.hid (hc5 none_ w HC4.out (fun h => by have := HC3.out.size; omega)); have hcx5 := hc5 (· = w3.heap.size) w4 (Chg.refl _ _) (fun _ => rfl); have HRa5 := Lib.hid (HRa4.out.chg hcx5 (fun e => by have := HRa3.out.lt; omega)); have HRb5 := Lib.hid (HRb4.out.chg hcx5 (fun e => by have := HRb3.out.lt; omega)); clear hcx5; clear hr5 hc5 hs5))
  have HGG : Hid (w.heap.size < w1.heap.size ∧ w1.heap.size < w3.heap.size ∧ w3.heap.size < w5.heap.size) := Lib.hid ⟨HRa1.out.lt, HRb3.out.lt, HRX.out.lt⟩
  have HCW : Hid (∀ w', Chg (fun b => b = w.heap.size ∨ b = w1.heap.size) w5 w' → Chg none_ w w') := Lib.hid (fun w' hc => HC5.out.andThen hc (fun b hb e => by have := HGG.out; omega))
  have HRa := HRa5
  have HRb := HRb5
  try simp only [Act.put, List.setIfInBounds_toArray, List.set_cons_zero, List.set_cons_succ]
  have HL5 : Hid (∀ w', Chg (fun b => b = w.heap.size ∨ b = w1.heap.size) w5 w' → w'.cell? ⟨0, 5, none⟩ = some (.string L5)) := Lib.hid (fun w' hc => HLS5.out w' (HCW.out _ hc))
  have HL6 : Hid (∀ w', Chg (fun b => b = w.heap.size ∨ b = w1.heap.size) w5 w' → w'.cell? ⟨0, 6, none⟩ = some (.string L6)) := Lib.hid (fun w' hc => HLS6.out w' (HCW.out _ hc))
  refine wp_region_held_drew (S := fun w' => Chg (fun b => b = w.heap.size ∨ b = w1.heap.size) w5 w') (by kernel_rfl) ((Chg.refl _ w5).drew) (fun hch0 => ?_)
  have hch0_ : Chg none_ w5 w5.drew := (Chg.refl none_ w5).drew
  generalize w5.drew = wd at hch0 hch0_ ⊢
  refine wpAnyH_take (i := 0) (v := .agg (u8s X).toArray) rfl (by kernel_rfl) (by kernel_rfl) (by kernel_rfl) (by first | exact fun _ _ _ h => h | exact fun _ _ _ h => nomatch h.1) (yieldsIf_load_mid (by rfl) 26 _ rfl w3.heap.size 0 rfl (u8s X) _ (fun w' hw' => (HRX.out.chg hw' (fun e => by have := HGG.out; omega)).range) Tryd.underlying26 rfl (by rw [u8s_length, HXL.out]; exact size25)) hch0 ?_
  refine wpAnyH_take (i := 4) (v := .agg (u8s X).toArray) rfl (by kernel_rfl) (by kernel_rfl) (by kernel_rfl) (by first | exact fun _ _ _ h => h | exact fun _ _ _ h => nomatch h.1) (yieldsIf_load_mid (by rfl) 26 _ rfl w3.heap.size 0 rfl (u8s X) _ (fun w' hw' => (HRX.out.chg hw' (fun e => by have := HGG.out; omega)).range) Tryd.underlying26 rfl (by rw [u8s_length, HXL.out]; exact size25)) hch0 ?_
  refine wpAnyH_take (i := 1) (v := .pointer (some ⟨0, 5, none⟩)) rfl (by kernel_rfl) (by kernel_rfl) (by kernel_rfl) (by first | exact fun _ _ _ h => h | exact fun _ _ _ h => nomatch h.1) (Or.inl ⟨by rfl, fun w_ hw_ => by go_simp⟩) hch0 ?_
  refine wpAnyH_take (i := 5) (v := .pointer (some ⟨0, 6, none⟩)) rfl (by kernel_rfl) (by kernel_rfl) (by kernel_rfl) (by first | exact fun _ _ _ h => h | exact fun _ _ _ h => nomatch h.1) (Or.inl ⟨by rfl, fun w_ hw_ => by go_simp⟩) hch0 ?_
  try simp only [Act.put, List.setIfInBounds_toArray, List.set_cons_zero, List.set_cons_succ, List.getElem_toArray, List.getElem_cons_succ, List.getElem_cons_zero]
  refine wpAnyH_take (i := 2) (v := .string L5) rfl (by kernel_rfl) (by kernel_rfl) (by kernel_rfl) (by first | exact fun _ _ _ h => h | exact fun _ _ _ h => nomatch h.1) (Or.inl ⟨by rfl, fun w_ hw_ => by have hh := HL5.out w_ hw_; go_simp⟩) hch0 ?_
  refine wpAnyH_take (i := 6) (v := .string L6) rfl (by kernel_rfl) (by kernel_rfl) (by kernel_rfl) (by first | exact fun _ _ _ h => h | exact fun _ _ _ h => nomatch h.1) (Or.inl ⟨by rfl, fun w_ hw_ => by have hh := HL6.out w_ hw_; go_simp⟩) hch0 ?_
  try simp only [Act.put, List.setIfInBounds_toArray, List.set_cons_zero, List.set_cons_succ, List.getElem_toArray, List.getElem_cons_succ, List.getElem_cons_zero]
  refine wpAnyH_ready (rs := [3]) (by kernel_rfl) (by simp) ?_
  refine AllReadyH.cons rfl (fun K hK => ?_) AllReadyH.nil
  rw [if_pos (by rfl)]
  try simp only [List.getElem_toArray, List.getElem_cons_succ, List.getElem_cons_zero]
  go_simp
  refine (HB5.out _ (HCW.out _ hch0)).mono ?_
  rintro e x1 ⟨rfl, hcx1⟩
  have hch1 : Chg (fun b => b = w.heap.size ∨ b = w1.heap.size) w5 x1 := hch0.trans hcx1.ofN
  refine hK.out _ _ (hch1) (fun _ => ?_)
  clear hK K
  try simp only [Act.put, List.setIfInBounds_toArray, List.set_cons_zero, List.set_cons_succ, List.getElem_toArray, List.getElem_cons_succ, List.getElem_cons_zero]
  refine wpAnyH_ready (rs := [7]) (by kernel_rfl) (by simp) ?_
  refine AllReadyH.cons rfl (fun K hK => ?_) AllReadyH.nil
  rw [if_pos (by rfl)]
  try simp only [List.getElem_toArray, List.getElem_cons_succ, List.getElem_cons_zero]
  go_simp
  refine (HB6.out _ (HCW.out _ hch1)).mono ?_
  rintro e x2 ⟨rfl, hcx2⟩
  have hch2 : Chg (fun b => b = w.heap.size ∨ b = w1.heap.size) w5 x2 := hch1.trans hcx2.ofN
  have hra := (HRa.out.chg hch0_ (fun h => h)).chg hcx1 (fun h => h) |>.chg hcx2 (fun h => h)
  have hrb := (HRb.out.chg hch0_ (fun h => h)).chg hcx1 (fun h => h) |>.chg hcx2 (fun h => h)
  refine hK.out _ _ (hch2) (fun _ => ?_)
  clear hK K
  try simp only [Act.put, List.setIfInBounds_toArray, List.set_cons_zero, List.set_cons_succ, List.getElem_toArray, List.getElem_cons_succ, List.getElem_cons_zero]
  refine wpAnyH_ready (rs := [8]) (by kernel_rfl) (by simp) ?_
  refine AllReadyH.cons rfl (fun K hK => ?_) AllReadyH.nil
  rw [if_pos (by rfl)]
  try simp only [List.getElem_toArray, List.getElem_cons_succ, List.getElem_cons_zero]
  refine wp_store_row (ty := 26) (xs := u8s Ka) rfl rfl (hra) rfl (by rw [u8s_length, u8s_length, HKa.out, List.length_replicate]) (by rw [u8s_length, HKa.out]; exact size25) (u8s_oneA _) ?_
  intro x3 hr_x3 hc_x3 hs_x3
  refine hK.out _ _ (hc_x3 _ w5 hch2 (fun _ => Or.inl rfl)) (fun _ => ?_)
  clear hK K
  try simp only [Act.put]
  have hch3 : Chg (fun b => b = w.heap.size ∨ b = w1.heap.size) w5 x3 := hc_x3 _ w5 hch2 (fun _ => Or.inl rfl)
  have hrb3 := hrb.chg (hc_x3 (· = w.heap.size) x2 (Chg.refl _ _) (fun _ => rfl)) (fun e => by have := HGG.out; omega)
  refine wpAnyH_ready (rs := [9]) (by kernel_rfl) (by simp) ?_
  refine AllReadyH.cons rfl (fun K hK => ?_) AllReadyH.nil
  rw [if_pos (by rfl)]
  try simp only [List.getElem_toArray, List.getElem_cons_succ, List.getElem_cons_zero]
  refine wp_store_row (ty := 26) (xs := u8s Kb) rfl rfl (hrb3) rfl (by rw [u8s_length, u8s_length, HKb.out, List.length_replicate]) (by rw [u8s_length, HKb.out]; exact size25) (u8s_oneA _) ?_
  intro x4 hr_x4 hc_x4 hs_x4
  refine hK.out _ _ (hc_x4 _ w5 hch3 (fun _ => Or.inr rfl)) (fun _ => ?_)
  clear hK K
  try simp only [Act.put]
  have hch4 : Chg (fun b => b = w.heap.size ∨ b = w1.heap.size) w5 x4 := hc_x4 _ w5 hch3 (fun _ => Or.inr rfl)
  have hra4 := hr_x3.chg (hc_x4 (· = w1.heap.size) x3 (Chg.refl _ _) (fun _ => rfl)) (fun e => by have := HGG.out; omega)
  refine wpAnyH_done (by kernel_rfl) ?_ _
  go_wp2
  refine ret_rows2 rfl rfl hra4 Tryd.underlying26 rfl (by rw [u8s_length, HKa.out]; exact size25) rfl hr_x4 Tryd.underlying26 rfl (by rw [u8s_length, HKb.out]; exact size25) rfl ?_
  exact ⟨rfl, HCW.out _ hch4⟩

set_option maxRecDepth 100000 in
set_option maxHeartbeats 4000000 in
theorem First_any (t : List Nat) (T' : Nat → Prop) (A' : Option Addr) (cap' : Nat) (w : World) (hvt : View w T' A' t.length (u8s t)) (htl : t.length ≤ 100000) (htc : t.length ≤ cap') (htb : ∀ x ∈ t, x < 256) (hT : KTab w) :
    Calls Tryd.prog 18 #[.slice A' t.length cap'] w fun e w' => e = .returned (.tuple #[.agg (u8s (firstN t).1).toArray, .agg (u8s (firstN t).2).toArray]) ∧ Chg none_ w w' := by
  obtain ⟨X, hX⟩ : ∃ X, X = tagN saltL t := ⟨_, rfl⟩
  have hXl : X.length = 32 := by rw [hX]; exact tagN_len _ _
  have hXb : ∀ x ∈ X, x < 256 := by rw [hX]; exact tagN_lt _ _
  have HXL := Lib.hid hXl
  have HEX : Hid (∀ w' (T : Nat → Prop) A, Chg none_ w w' → View w' T A 21 (u8s saltL) → Calls Tryd.prog 19 #[.slice A 21 21, .slice A' t.length cap'] w' fun e w'' => e = .returned (.agg (u8s X).toArray) ∧ Chg none_ w' w'') := Lib.hid (fun w' T A hc hv => by rw [hX]; exact extract_any T T' A A' 21 cap' saltL t w' hv (hvt.chg hc (fun _ _ h => h)) (by decide) (by omega) (by decide) htc (by decide) htb (hT.chg hc).h)
  obtain ⟨Ka, hKa⟩ : ∃ K, K = labelN X cinL 32 := ⟨_, rfl⟩
  obtain ⟨Kb, hKb⟩ : ∃ K, K = labelN X sinL 32 := ⟨_, rfl⟩
  have e1 : (firstN t).1 = Ka := by rw [hKa, hX]; rfl
  have e2 : (firstN t).2 = Kb := by rw [hKb, hX]; rfl
  rw [e1, e2]
  have HKa : Hid (Ka.length = 32) := Lib.hid (by rw [hKa]; exact labelN_len X cinL 32 (by decide) (by decide))
  have HKb : Hid (Kb.length = 32) := Lib.hid (by rw [hKb]; exact labelN_len X sinL 32 (by decide) (by decide))
  obtain ⟨L3, hL3⟩ : ∃ L, L = lblB 3 := ⟨_, rfl⟩
  have HLS3 : Hid (∀ w', Chg none_ w w' → w'.cell? ⟨0, 3, none⟩ = some (.string L3)) := Lib.hid (fun w' hc => by rw [hL3]; exact (hT.chg hc).ls 3 (by decide))
  have HB3 : Hid (∀ w', Chg none_ w w' → Calls Tryd.prog 20 #[.agg (u8s X).toArray, .string L3] w' fun e w'' => e = .returned (.agg (u8s Ka).toArray) ∧ Chg none_ w' w'') := Lib.hid (fun w' hc => by rw [hL3, hKa]; exact secretOf_any X (lblB 3) w' (by decide) hXl hXb (hT.chg hc).h)
  obtain ⟨L4, hL4⟩ : ∃ L, L = lblB 4 := ⟨_, rfl⟩
  have HLS4 : Hid (∀ w', Chg none_ w w' → w'.cell? ⟨0, 4, none⟩ = some (.string L4)) := Lib.hid (fun w' hc => by rw [hL4]; exact (hT.chg hc).ls 4 (by decide))
  have HB4 : Hid (∀ w', Chg none_ w w' → Calls Tryd.prog 20 #[.agg (u8s X).toArray, .string L4] w' fun e w'' => e = .returned (.agg (u8s Kb).toArray) ∧ Chg none_ w' w'') := Lib.hid (fun w' hc => by rw [hL4, hKb]; exact secretOf_any X (lblB 4) w' (by decide) hXl hXb (hT.chg hc).h)
  clear hvt htl htc htb hT hX hXl hXb hKa hKb e1 e2 hL3 hL4
  go_enter Tryd.func18, Tryd.ntmps18
  go_wp2_with (first | ((with_reducible show wpList _ _ _ (⟨some 2, .alloc 26, _, _, _, _⟩ :: _) _ _); refine wpList_alloc_Row rfl rfl (u8s (List.replicate 32 0)) zero25 ?_; intro w1 hr1 hc1 hs1; have HRa1 := Lib.hid hr1; have HC1 := Lib.hid hc1; clear hr1 hc1 hs1) | ((with_reducible show wpList _ _ _ (⟨some 3, .alloc 26, _, _, _, _⟩ :: _) _ _); refine wpList_alloc_Row rfl rfl (u8s (List.replicate 32 0)) zero25 ?_; intro w2 hr2 hc2 hs2; have HRb2 := Lib.hid hr2; have HC2 := Lib.hid (HC1.out.trans hc2); have HRa2 := Lib.hid (HRa1.out.chg hc2 (fun h => h)); have HSZ1 := Lib.hid HC1.out.size; clear hr2 hc2 hs2) | ((with_reducible show wpList _ _ _ (⟨some 5, _, _, _, _, _⟩ :: _) _ _); refine wpList_new_row (v := fun g => .slice (some ⟨g, 0, none⟩) 21 21) (e := 5) (cs := [.int .u8 100, .int .u8 111, .int .u8 111, .int .u8 114, .int .u8 119, .int .u8 97, .int .u8 114, .int .u8 100, .int .u8 32, .int .u8 102, .int .u8 105, .int .u8 114, .int .u8 115, .int .u8 116, .int .u8 32, .int .u8 115, .int .u8 97, .int .u8 108, .int .u8 116, .int .u8 46, .int .u8 46]) rfl (fun w_ => by go_simp) ?_; intro w6 hr6 hc6 hs6; have HR6 := Lib.hid (salt_row hr6); have HN6 := Lib.hid hc6; have HC6 := Lib.hid (HC2.out.trans hc6); have HRa6 := Lib.hid (HRa2.out.chg hc6 (fun h => h)); have HRb6 := Lib.hid (HRb2.out.chg hc6 (fun h => h)); clear hr6 hc6 hs6) | ((with_reducible show wpList _ _ _ (⟨some 6, _, _, _, _, _⟩ :: _) _ _); refine wpList_bytes_mark rfl rfl (g := w2.heap.size) (n := 21) (c := 21) rfl Tryd.underlying22 Tryd.underlying5 HR6.out ?_; intro w7 hv7 hc7 hs7; have HV7 := Lib.hid hv7; have HC7 := Lib.hid (HC2.out.andThen (HN6.out.ofN.trans hc7) (fun b hb e => by have := HC2.out.size; omega)); have HRa7 := Lib.hid (HRa6.out.chg hc7 (fun e => by have := HRa2.out.lt; omega)); have HRb7 := Lib.hid (HRb6.out.chg hc7 (fun e => by have := HRb2.out.lt; omega)); clear hv7 hc7 hs7) | (go_at_call 19; with_reducible refine (HEX.out _ _ _ HC7.out HV7.out).mono ?_; rintro e w3 ⟨rfl, hc3⟩; have HC3 := Lib.hid (HC7.out.trans hc3); have HRa3 := Lib.hid (HRa7.out.chg hc3 (fun h => h)); have HRb3 := Lib.hid (HRb7.out.chg hc3 (fun h => h)); clear hc3) | ((with_reducible show wpList _ _ _ (⟨some 4, .alloc 26, _, _, _, _⟩ :: _) _ _); refine wpList_alloc_Row rfl rfl (u8s (List.replicate 32 0)) zero25 ?_; intro w4 hr4 hc4 hs4; have HR4 := Lib.hid hr4; have HC4 := Lib.hid (HC3.out.trans hc4); have HRa4 := Lib.hid (HRa3.out.chg hc4 (fun h => h)); have HRb4 := Lib.hid (HRb3.out.chg hc4 (fun h => h)); clear hr4 hc4 hs4) | ((with_reducible show wpList _ _ _ (⟨_, .store 26 (.tmp 4) _, _, _, _, _⟩ :: _) _ _); refine wpList_store_Row (xs := u8s X) rfl rfl rfl (HR4.out) (rfl) (by rw [u8s_length, u8s_length, HXL.out, List.length_replicate]) (by rw [u8s_length, HXL.out]; exact size25) (u8s_oneA _) ?_; intro w5 hr5 hc5 hs5; have HRX := Lib.hid hr5; have HC5 := Lib.hid (hc5 none_ w HC4.out (fun h => by have := HC3.out.size; omega)); have hcx5 := hc5 (· = w3.heap.size) w4 (Chg.refl _ _) (fun _ => rfl); have HRa5 := Lib.hid (HRa4.out.chg hcx5 (fun e => by have := HRa3.out.lt; omega)); have HRb5 := Lib.hid (HRb4.out.chg hcx5 (fun e => by have := HRb3.out.lt; omega)); clear hcx5; clear hr5 hc5 hs5))
  have HGG : Hid (w.heap.size < w1.heap.size ∧ w1.heap.size < w3.heap.size ∧ w3.heap.size < w5.heap.size) := Lib.hid ⟨HRa1.out.lt, HRb3.out.lt, HRX.out.lt⟩
  have HCW : Hid (∀ w', Chg (fun b => b = w.heap.size ∨ b = w1.heap.size) w5 w' → Chg none_ w w') := Lib.hid (fun w' hc => HC5.out.andThen hc (fun b hb e => by have := HGG.out; omega))
  have HRa := HRa5
  have HRb := HRb5
  try simp only [Act.put, List.setIfInBounds_toArray, List.set_cons_zero, List.set_cons_succ]
  have HL3 : Hid (∀ w', Chg (fun b => b = w.heap.size ∨ b = w1.heap.size) w5 w' → w'.cell? ⟨0, 3, none⟩ = some (.string L3)) := Lib.hid (fun w' hc => HLS3.out w' (HCW.out _ hc))
  have HL4 : Hid (∀ w', Chg (fun b => b = w.heap.size ∨ b = w1.heap.size) w5 w' → w'.cell? ⟨0, 4, none⟩ = some (.string L4)) := Lib.hid (fun w' hc => HLS4.out w' (HCW.out _ hc))
  refine wp_region_held_drew (S := fun w' => Chg (fun b => b = w.heap.size ∨ b = w1.heap.size) w5 w') (by kernel_rfl) ((Chg.refl _ w5).drew) (fun hch0 => ?_)
  have hch0_ : Chg none_ w5 w5.drew := (Chg.refl none_ w5).drew
  generalize w5.drew = wd at hch0 hch0_ ⊢
  refine wpAnyH_take (i := 0) (v := .agg (u8s X).toArray) rfl (by kernel_rfl) (by kernel_rfl) (by kernel_rfl) (by first | exact fun _ _ _ h => h | exact fun _ _ _ h => nomatch h.1) (yieldsIf_load_mid (by rfl) 26 _ rfl w3.heap.size 0 rfl (u8s X) _ (fun w' hw' => (HRX.out.chg hw' (fun e => by have := HGG.out; omega)).range) Tryd.underlying26 rfl (by rw [u8s_length, HXL.out]; exact size25)) hch0 ?_
  refine wpAnyH_take (i := 4) (v := .agg (u8s X).toArray) rfl (by kernel_rfl) (by kernel_rfl) (by kernel_rfl) (by first | exact fun _ _ _ h => h | exact fun _ _ _ h => nomatch h.1) (yieldsIf_load_mid (by rfl) 26 _ rfl w3.heap.size 0 rfl (u8s X) _ (fun w' hw' => (HRX.out.chg hw' (fun e => by have := HGG.out; omega)).range) Tryd.underlying26 rfl (by rw [u8s_length, HXL.out]; exact size25)) hch0 ?_
  refine wpAnyH_take (i := 1) (v := .pointer (some ⟨0, 3, none⟩)) rfl (by kernel_rfl) (by kernel_rfl) (by kernel_rfl) (by first | exact fun _ _ _ h => h | exact fun _ _ _ h => nomatch h.1) (Or.inl ⟨by rfl, fun w_ hw_ => by go_simp⟩) hch0 ?_
  refine wpAnyH_take (i := 5) (v := .pointer (some ⟨0, 4, none⟩)) rfl (by kernel_rfl) (by kernel_rfl) (by kernel_rfl) (by first | exact fun _ _ _ h => h | exact fun _ _ _ h => nomatch h.1) (Or.inl ⟨by rfl, fun w_ hw_ => by go_simp⟩) hch0 ?_
  try simp only [Act.put, List.setIfInBounds_toArray, List.set_cons_zero, List.set_cons_succ, List.getElem_toArray, List.getElem_cons_succ, List.getElem_cons_zero]
  refine wpAnyH_take (i := 2) (v := .string L3) rfl (by kernel_rfl) (by kernel_rfl) (by kernel_rfl) (by first | exact fun _ _ _ h => h | exact fun _ _ _ h => nomatch h.1) (Or.inl ⟨by rfl, fun w_ hw_ => by have hh := HL3.out w_ hw_; go_simp⟩) hch0 ?_
  refine wpAnyH_take (i := 6) (v := .string L4) rfl (by kernel_rfl) (by kernel_rfl) (by kernel_rfl) (by first | exact fun _ _ _ h => h | exact fun _ _ _ h => nomatch h.1) (Or.inl ⟨by rfl, fun w_ hw_ => by have hh := HL4.out w_ hw_; go_simp⟩) hch0 ?_
  try simp only [Act.put, List.setIfInBounds_toArray, List.set_cons_zero, List.set_cons_succ, List.getElem_toArray, List.getElem_cons_succ, List.getElem_cons_zero]
  refine wpAnyH_ready (rs := [3]) (by kernel_rfl) (by simp) ?_
  refine AllReadyH.cons rfl (fun K hK => ?_) AllReadyH.nil
  rw [if_pos (by rfl)]
  try simp only [List.getElem_toArray, List.getElem_cons_succ, List.getElem_cons_zero]
  go_simp
  refine (HB3.out _ (HCW.out _ hch0)).mono ?_
  rintro e x1 ⟨rfl, hcx1⟩
  have hch1 : Chg (fun b => b = w.heap.size ∨ b = w1.heap.size) w5 x1 := hch0.trans hcx1.ofN
  refine hK.out _ _ (hch1) (fun _ => ?_)
  clear hK K
  try simp only [Act.put, List.setIfInBounds_toArray, List.set_cons_zero, List.set_cons_succ, List.getElem_toArray, List.getElem_cons_succ, List.getElem_cons_zero]
  refine wpAnyH_ready (rs := [7]) (by kernel_rfl) (by simp) ?_
  refine AllReadyH.cons rfl (fun K hK => ?_) AllReadyH.nil
  rw [if_pos (by rfl)]
  try simp only [List.getElem_toArray, List.getElem_cons_succ, List.getElem_cons_zero]
  go_simp
  refine (HB4.out _ (HCW.out _ hch1)).mono ?_
  rintro e x2 ⟨rfl, hcx2⟩
  have hch2 : Chg (fun b => b = w.heap.size ∨ b = w1.heap.size) w5 x2 := hch1.trans hcx2.ofN
  have hra := (HRa.out.chg hch0_ (fun h => h)).chg hcx1 (fun h => h) |>.chg hcx2 (fun h => h)
  have hrb := (HRb.out.chg hch0_ (fun h => h)).chg hcx1 (fun h => h) |>.chg hcx2 (fun h => h)
  refine hK.out _ _ (hch2) (fun _ => ?_)
  clear hK K
  try simp only [Act.put, List.setIfInBounds_toArray, List.set_cons_zero, List.set_cons_succ, List.getElem_toArray, List.getElem_cons_succ, List.getElem_cons_zero]
  refine wpAnyH_ready (rs := [8]) (by kernel_rfl) (by simp) ?_
  refine AllReadyH.cons rfl (fun K hK => ?_) AllReadyH.nil
  rw [if_pos (by rfl)]
  try simp only [List.getElem_toArray, List.getElem_cons_succ, List.getElem_cons_zero]
  refine wp_store_row (ty := 26) (xs := u8s Ka) rfl rfl (hra) rfl (by rw [u8s_length, u8s_length, HKa.out, List.length_replicate]) (by rw [u8s_length, HKa.out]; exact size25) (u8s_oneA _) ?_
  intro x3 hr_x3 hc_x3 hs_x3
  refine hK.out _ _ (hc_x3 _ w5 hch2 (fun _ => Or.inl rfl)) (fun _ => ?_)
  clear hK K
  try simp only [Act.put]
  have hch3 : Chg (fun b => b = w.heap.size ∨ b = w1.heap.size) w5 x3 := hc_x3 _ w5 hch2 (fun _ => Or.inl rfl)
  have hrb3 := hrb.chg (hc_x3 (· = w.heap.size) x2 (Chg.refl _ _) (fun _ => rfl)) (fun e => by have := HGG.out; omega)
  refine wpAnyH_ready (rs := [9]) (by kernel_rfl) (by simp) ?_
  refine AllReadyH.cons rfl (fun K hK => ?_) AllReadyH.nil
  rw [if_pos (by rfl)]
  try simp only [List.getElem_toArray, List.getElem_cons_succ, List.getElem_cons_zero]
  refine wp_store_row (ty := 26) (xs := u8s Kb) rfl rfl (hrb3) rfl (by rw [u8s_length, u8s_length, HKb.out, List.length_replicate]) (by rw [u8s_length, HKb.out]; exact size25) (u8s_oneA _) ?_
  intro x4 hr_x4 hc_x4 hs_x4
  refine hK.out _ _ (hc_x4 _ w5 hch3 (fun _ => Or.inr rfl)) (fun _ => ?_)
  clear hK K
  try simp only [Act.put]
  have hch4 : Chg (fun b => b = w.heap.size ∨ b = w1.heap.size) w5 x4 := hc_x4 _ w5 hch3 (fun _ => Or.inr rfl)
  have hra4 := hr_x3.chg (hc_x4 (· = w1.heap.size) x3 (Chg.refl _ _) (fun _ => rfl)) (fun e => by have := HGG.out; omega)
  refine wpAnyH_done (by kernel_rfl) ?_ _
  go_wp2
  refine ret_rows2 rfl rfl hra4 Tryd.underlying26 rfl (by rw [u8s_length, HKa.out]; exact size25) rfl hr_x4 Tryd.underlying26 rfl (by rw [u8s_length, HKb.out]; exact size25) rfl ?_
  exact ⟨rfl, HCW.out _ hch4⟩

end Go.Proofs.YtfpflhcabjcamaaDoor
