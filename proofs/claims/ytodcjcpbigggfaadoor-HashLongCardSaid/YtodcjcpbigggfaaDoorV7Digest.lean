/- Layer 7 (hash): a text's digest behind a state. -/
import Derived.Test.YtodcjcpbigggfaaDoorV7Key
import Derived.Test.YtodcjcpbigggfaaDoorV7Pad
import Derived.Test.YtodcjcpbigggfaaDoorCopy
namespace Go.Proofs.YtodcjcpbigggfaaDoor
open Go.RowKit

theorem size5 : (Tryd.prog.info? 5).map (·.size) = some 1 := by kernel_rfl
theorem zero41 : (Tryd.prog.info? 41).map (·.zero) = some (some (.agg (u8s (List.replicate 64 0)).toArray)) := by kernel_rfl
theorem blk_range {w : World} {T : Nat → Prop} {A : Option Addr} {l : List Nat} {b o : Nat} (h : View w T A l.length (u8s l)) (hA : A = some ⟨b, o, none⟩) (j : Nat) (_hj : 64 * j + 64 ≤ l.length) : w.rangeAt b (o + 64 * j) (u8s (blkN l j)) := by
  subst hA
  intro i v hv
  obtain ⟨b', o', ha, _, _, hc⟩ := h.2 (by omega)
  injection ha with ha
  injection ha with h1 h2
  subst h1; subst h2
  have hi : i < 64 := by
    rcases Nat.lt_or_ge i 64 with h | h
    · exact h
    · rw [List.getElem?_eq_none (by simp [blkN]; omega)] at hv; cases hv
  rw [Nat.add_assoc, hc _ (by omega), ← hv, u8s_get, u8s_get]
  unfold blkN
  rw [List.getElem?_take, if_pos hi, List.getElem?_drop]

theorem zeros_lt : ∀ x ∈ List.replicate 64 0, x < 256 := by intro x hx; rw [(List.mem_replicate.1 hx).2]; decide
theorem last_set (l : List Nat) (M : Nat) (hM : l.length % 64 = M) : (tailN l ++ List.replicate (64 - M) 0).set M 128 = lastN l := by
  have hM64 : M < 64 := by omega
  have ht : (tailN l).length = M := by rw [tailN_len, hM]
  unfold lastN
  rw [hM, List.set_append_right _ _ (by omega), ht, Nat.sub_self, show 64 - M = (63 - M) + 1 from by omega, List.replicate_succ, List.set_cons_zero]

set_option maxRecDepth 100000 in
set_option maxHeartbeats 1500000 in
theorem digest_any (s : St8) (ahead : Nat) (T : Nat → Prop) (A : Option Addr) (cap : Nat) (l : List Nat) (w : World) (hs : s.Ok) (ha : ahead ≤ 64) (hv : View w T A l.length (u8s l)) (hl : l.length ≤ 1000000) (hlc : l.length ≤ cap) (hb : ∀ x ∈ l, x < 256) (hT : HTab w) :
    Calls Tryd.prog 19 #[.agg (u32s s.list).toArray, .int .i64 ahead, .slice A l.length cap] w fun e w' => e = .returned (.agg (u8s (digN s ahead l)).toArray) ∧ Chg none_ w w' := by
  have HT := Lib.hid hT
  have HS := Lib.hid hs
  have HLB := Lib.hid hb
  have HV := Lib.hid hv
  have HCAP := Lib.hid hlc
  clear hT hb hv hs
  go_enter Tryd.func19, Tryd.ntmps19
  go_wp2_with (first | ((with_reducible show wpList _ _ _ (⟨_, .box 37 _, _, _, _, _⟩ :: _) _ _); refine wpList_box_Row rfl rfl (u32s s.list) rfl ?_; intro w1 hr1 hc1 hs1; have HR1 := Lib.hid hr1; have HC1 := Lib.hid hc1; clear hr1 hc1 hs1) | ((with_reducible show wpList _ _ _ (⟨_, .alloc 25, _, _, _, _⟩ :: _) _ _); refine wpList_alloc_Row rfl rfl (u8s (List.replicate 32 0)) zero25 ?_; intro w2 hr2 hc2 hs2; have HR2 := Lib.hid hr2; have HC2 := Lib.hid hc2; clear hr2 hc2 hs2))
  have HG := Lib.hid (show w.heap.size < w1.heap.size ∧ w1.heap.size < w2.heap.size from ⟨HR1.out.lt, HR2.out.lt⟩)
  have HR1x := Lib.hid (HR1.out.chg HC2.out (fun h => h))
  have HCH := Lib.hid (HC1.out.trans HC2.out)
  have HTX : Hid (∀ wr, Chg (· = w.heap.size) w2 wr → HTab wr) := Lib.hid (fun wr hc => (HT.out.chg HCH.out (fun h => h) (fun h => h)).chg hc (by have := HT.out.k; omega) (by have := HT.out.f; omega))
  have HVX : Hid (∀ wr, Chg (· = w.heap.size) w2 wr → View wr (fun b => b < w.heap.size) A l.length (u8s l)) := Lib.hid (fun wr hc => ((HV.out.mono (T' := fun b => b < w.heap.size) (fun _ h _ => h)).chg HCH.out (fun _ _ h => h)).chg hc (fun b hb h => by omega))
  clear HR1 HC1 HC2
  go_loopw [24] (fun i wr => ∃ j : Nat, j ≤ l.length / 64 ∧ i = .int .i64 j ∧ Row wr w.heap.size 37 (u32s (runN s l j).list) ∧ Chg (· = w.heap.size) w2 wr) (fun i _ => l.length / 64 - (intOf i).toNat)
  case atStart => exact ⟨0, Nat.zero_le _, rfl, HR1x.out, Chg.refl _ _⟩
  case round =>
    obtain ⟨j, hj, rfl, hrow, hch⟩ := hrel
    have HROW := Lib.hid hrow
    have HC := Lib.hid hch
    by_cases hlt : j < l.length / 64
    · clear hrow
      obtain ⟨b, o, hA, _, _, _⟩ := HV.out.2 (by omega)
      have HRG : Hid (∀ w', Chg (· = w.heap.size) w2 w' → w'.rangeAt b (o + 64 * j) (u8s (blkN l j))) := Lib.hid (fun w' hc => blk_range (HVX.out w' hc) hA j (by omega))
      have HDA : Hid (dropA (some ⟨b, o, none⟩) cap (64 * j) = some ⟨b, o + 64 * j, none⟩) := Lib.hid (by have := HCAP.out; unfold dropA; rw [if_neg (by omega)]; simp [addr_add])
      have Q1 : Hid (IntKind.i64.wrap ((j : Int) * 64) = ((64 * j : Nat) : Int)) := Lib.hid (by rw [IntWalk.i64_in _ (by omega)]; omega)
      have hAA := hA
      subst hAA
      clear hch
      go_wp2
      refine wp_region_held_drew (S := fun w' => Chg (· = w.heap.size) w2 w') (by kernel_rfl) (HC.out.drew) (fun hch0 => ?_)
      refine wpAnyH_take (i := 1) (v := .slice (some ⟨b, o, none⟩) l.length cap) rfl (by kernel_rfl) (by kernel_rfl) (by kernel_rfl) (by first | exact fun _ _ _ h => h | exact fun _ _ _ h => nomatch h.1) (Or.inl ⟨by rfl, fun w_ hw_ => by go_simp⟩) hch0 ?_
      refine wpAnyH_take (i := 2) (v := .int .i64 (j : Nat)) rfl (by kernel_rfl) (by kernel_rfl) (by kernel_rfl) (by first | exact fun _ _ _ h => h | exact fun _ _ _ h => nomatch h.1) (Or.inl ⟨by rfl, fun w_ hw_ => by go_simp⟩) hch0 ?_
      refine wpAnyH_take (i := 3) (v := .int .i64 ((64 * j : Nat) : Int)) rfl (by kernel_rfl) (by kernel_rfl) (by kernel_rfl) (by first | exact fun _ _ _ h => h | exact fun _ _ _ h => nomatch h.1) (Or.inl ⟨by rfl, fun w_ hw_ => by go_simp; exact Q1.out⟩) hch0 ?_
      refine wpAnyH_take (i := 4) (v := .slice (some ⟨b, o + 64 * j, none⟩) (l.length - 64 * j) (cap - 64 * j)) rfl (by kernel_rfl) (by kernel_rfl) (by kernel_rfl) (by first | exact fun _ _ _ h => h | exact fun _ _ _ h => nomatch h.1) (yieldsIf_slice_low (by rfl) 22 5 _ _ rfl (some ⟨b, o, none⟩) l.length cap (64 * j) rfl rfl Tryd.underlying22 size5 (by omega) HDA.out) hch0 ?_
      refine wpAnyH_take (i := 5) (v := .pointer (some ⟨b, o + 64 * j, none⟩)) rfl (by kernel_rfl) (by kernel_rfl) (by kernel_rfl) (by first | exact fun _ _ _ h => h | exact fun _ _ _ h => nomatch h.1) (yieldsIf_arrayAt (by rfl) 41 5 64 _ rfl (some ⟨b, o + 64 * j, none⟩) (l.length - 64 * j) (cap - 64 * j) rfl Tryd.underlying41 (by omega)) hch0 ?_
      refine wpAnyH_take (i := 6) (v := .agg (u8s (blkN l j)).toArray) rfl (by kernel_rfl) (by kernel_rfl) (by kernel_rfl) (by first | exact fun _ _ _ h => h | exact fun _ _ _ h => nomatch h.1) (yieldsIf_load_mid (by rfl) 41 _ rfl b (o + 64 * j) rfl (u8s (blkN l j)) _ (fun w' hw' => HRG.out w' hw') Tryd.underlying41 rfl (by rw [u8s_length, blkN_len l j (by omega)]; exact size41)) hch0 ?_
      refine wpAnyH_ready (rs := [0]) (by kernel_rfl) (by simp) ?_
      refine AllReadyH.cons rfl (fun K hK => ?_) AllReadyH.nil
      rw [if_pos (by rfl)]
      try simp only [Act.put, List.setIfInBounds_toArray, List.set_cons_zero, List.set_cons_succ, List.getElem_toArray, List.getElem_cons_succ, List.getElem_cons_zero]
      refine wp_load_row (ty := 37) rfl rfl (HROW.out.drew) Tryd.underlying37 rfl (by rw [u32s_length, St8.len]; exact size37) ?_
      refine hK.out _ _ (hch0) (fun _ => ?_)
      clear hK K
      try simp only [Act.put, List.setIfInBounds_toArray, List.set_cons_zero, List.set_cons_succ, List.getElem_toArray, List.getElem_cons_succ, List.getElem_cons_zero]
      refine wpAnyH_ready (rs := [7]) (by kernel_rfl) (by simp) ?_
      refine AllReadyH.cons rfl (fun K hK => ?_) AllReadyH.nil
      rw [if_pos (by rfl)]
      try simp only [Act.put, List.setIfInBounds_toArray, List.set_cons_zero, List.set_cons_succ, List.getElem_toArray, List.getElem_cons_succ, List.getElem_cons_zero]
      go_simp
      refine (behind_any (runN s l j) (blkN l j) _ (runN_ok l HS.out j) (blkN_len l j (by omega)) (blkN_lt HLB.out j) (HTX.out _ hch0)).mono ?_
      rintro e w4 ⟨rfl, hc4⟩
      have hch1 : Chg (· = w.heap.size) w2 w4 := hch0.trans (hc4.mono (fun _ _ h => h.elim))
      have hrow4 := HROW.out.drew.chg hc4 (fun h => h)
      refine hK.out _ _ (hch1) (fun _ => ?_)
      clear hK K
      try simp only [Act.put, List.setIfInBounds_toArray, List.set_cons_zero, List.set_cons_succ, List.getElem_toArray, List.getElem_cons_succ, List.getElem_cons_zero]
      refine wpAnyH_ready (rs := [8]) (by kernel_rfl) (by simp) ?_
      refine AllReadyH.cons rfl (fun K hK => ?_) AllReadyH.nil
      rw [if_pos (by rfl)]
      try simp only [Act.put, List.setIfInBounds_toArray, List.set_cons_zero, List.set_cons_succ, List.getElem_toArray, List.getElem_cons_succ, List.getElem_cons_zero]
      refine wp_store_row (ty := 37) (xs := u32s (turnN (runN s l j) (blkN l j)).list) rfl rfl (hrow4) rfl (by rw [u32s_length, St8.len, u32s_length, St8.len]) (by rw [u32s_length, St8.len]; exact size37) (u32s_one _) ?_
      intro w5 hr_w5 hc_w5 hs_w5
      refine hK.out _ _ (hc_w5 _ w2 hch1 (fun _ => rfl)) (fun _ => ?_)
      clear hK K
      try simp only [Act.put, List.setIfInBounds_toArray, List.set_cons_zero, List.set_cons_succ, List.getElem_toArray, List.getElem_cons_succ, List.getElem_cons_zero]
      refine wpAnyH_done (by kernel_rfl) ?_ _
      go_wp2
      go_roundw
      case rel => exact ⟨j + 1, by omega, by go_num, by rw [runN]; exact hr_w5, hc_w5 _ w2 hch1 (fun _ => rfl)⟩
      case measure => simp [intOf]; omega
    · have HJ : Hid (j = l.length / 64) := Lib.hid (by omega)
      have hd : decide (((j : Nat) : Int) < (l.length : Int) / 64) = false := by simp; omega
      clear hrow hj
      go_wp2_with ((with_reducible show wpList _ _ _ (⟨_, .alloc 41, _, _, _, _⟩ :: _) _ _); refine wpList_alloc_Row rfl rfl (u8s (List.replicate 64 0)) zero41 ?_; intro w3 hr3 hc3 hs3; have HR3 := Lib.hid hr3; have HC3 := Lib.hid hc3; clear hr3 hc3 hs3)
      have hgl : w.heap.size < wr.heap.size ∧ w1.heap.size < wr.heap.size := by have := HG.out; have := hch.size; omega
      have HGL := Lib.hid hgl
      obtain ⟨M, hM⟩ : ∃ M, l.length % 64 = M := ⟨_, rfl⟩
      have hM64 : M < 64 := by omega
      have hLM : l.length - 64 * (l.length / 64) = M := by omega
      have HM := Lib.hid hM
      have HLM := Lib.hid hLM
      clear hch hd hlt hgl hM hLM
      have HROW3 := Lib.hid (HROW.out.chg HC3.out (fun h => h))
      have HCW3 := Lib.hid (HC.out.trans (HC3.out.mono (fun _ _ h => h.elim)))
      have HV3 := Lib.hid (HVX.out _ HCW3.out)
      have HVT : Hid (∀ w', Chg (· = wr.heap.size) w3 w' → View w' (fun b => b < w.heap.size) (dropA A cap (64 * (l.length / 64))) M (u8s (tailN l))) := Lib.hid (fun w' hc => by
        have hh := (HV3.out.chg hc (fun b hb h => by have := HGL.out; omega)).dropA (k := 64 * (l.length / 64)) HCAP.out
        rw [HLM.out] at hh
        have e : (u8s l).drop (64 * (l.length / 64)) = u8s (tailN l) := by simp [u8s, tailN]
        rw [e] at hh
        exact hh)
      have Q2 : Hid (IntKind.i64.wrap ((l.length : Int) / 64 * 64) = ((64 * (l.length / 64) : Nat) : Int)) := Lib.hid (by rw [IntWalk.i64_in _ (by omega)]; omega)
      generalize hgq : wr.heap.size = g at HR3 HVT HGL ⊢
      clear hgq
      refine wp_region_held_drew (S := fun w' => Chg (· = g) w3 w') (by kernel_rfl) ((Chg.refl _ _).drew) (fun hch0 => ?_)
      refine wpAnyH_take (i := 0) (v := .slice (some ⟨g, 0, none⟩) 64 64) rfl (by kernel_rfl) (by kernel_rfl) (by kernel_rfl) (by first | exact fun _ _ _ h => h | exact fun _ _ _ h => nomatch h.1) (Or.inl ⟨by rfl, fun w_ hw_ => by go_simp⟩) hch0 ?_
      refine wpAnyH_take (i := 1) (v := .slice A l.length cap) rfl (by kernel_rfl) (by kernel_rfl) (by kernel_rfl) (by first | exact fun _ _ _ h => h | exact fun _ _ _ h => nomatch h.1) (Or.inl ⟨by rfl, fun w_ hw_ => by go_simp⟩) hch0 ?_
      refine wpAnyH_take (i := 2) (v := .int .i64 ((l.length : Int) / 64)) rfl (by kernel_rfl) (by kernel_rfl) (by kernel_rfl) (by first | exact fun _ _ _ h => h | exact fun _ _ _ h => nomatch h.1) (Or.inl ⟨by rfl, fun w_ hw_ => by go_simp⟩) hch0 ?_
      refine wpAnyH_take (i := 3) (v := .int .i64 ((64 * (l.length / 64) : Nat) : Int)) rfl (by kernel_rfl) (by kernel_rfl) (by kernel_rfl) (by first | exact fun _ _ _ h => h | exact fun _ _ _ h => nomatch h.1) (Or.inl ⟨by rfl, fun w_ hw_ => by go_simp; exact Q2.out⟩) hch0 ?_
      refine wpAnyH_take (i := 4) (v := .slice (dropA A cap (64 * (l.length / 64))) (l.length - 64 * (l.length / 64)) (cap - 64 * (l.length / 64))) rfl (by kernel_rfl) (by kernel_rfl) (by kernel_rfl) (by first | exact fun _ _ _ h => h | exact fun _ _ _ h => nomatch h.1) (yieldsIf_slice_low (by rfl) 22 5 _ _ rfl A l.length cap (64 * (l.length / 64)) rfl rfl Tryd.underlying22 size5 (by omega) rfl) hch0 ?_
      refine wpAnyH_ready (rs := [5]) (by kernel_rfl) (by simp) ?_
      refine AllReadyH.cons rfl (fun K hK => ?_) AllReadyH.nil
      rw [if_pos (by rfl)]
      try simp only [Act.put, List.setIfInBounds_toArray, List.set_cons_zero, List.set_cons_succ, List.getElem_toArray, List.getElem_cons_succ, List.getElem_cons_zero]
      rw [HLM.out]
      refine wp_copy_min _ _ _ _ rfl (pre := []) (ys := u8s (List.replicate 64 0)) (post := []) (xs := u8s (tailN l)) (D := some ⟨g, 0, none⟩) rfl rfl (fun _ => rfl) Tryd.underlying22 size5 (by simpa using HR3.out.drew) (by simp) (HVT.out _ hch0) (u8s_one _) ?_
      intro w4 hr4 hc4
      rw [show min M 64 = M from by omega]
      refine hK.out _ _ (hch0.trans hc4) (fun hch1 => ?_)
      clear hK K
      try simp only [Act.put, List.setIfInBounds_toArray, List.set_cons_zero, List.set_cons_succ, List.getElem_toArray, List.getElem_cons_succ, List.getElem_cons_zero]
      refine wpAnyH_take (i := 6) (v := .int .i64 ((M : Nat) : Int)) rfl (by kernel_rfl) (by kernel_rfl) (by kernel_rfl) (by first | exact fun _ _ _ h => h | exact fun _ _ _ h => nomatch h.1) (Or.inl ⟨by rfl, fun w_ hw_ => by go_simp⟩) hch1 ?_
      refine wpAnyH_done (by kernel_rfl) ?_ _
      have HR4 : Hid (Row w4 g 41 (u8s (tailN l ++ List.replicate (64 - M) 0))) := Lib.hid (by
        have e : ([] ++ ((u8s (tailN l)).take 64 ++ (u8s (List.replicate 64 0)).drop M) ++ [] : List Value) = u8s (tailN l ++ List.replicate (64 - M) 0) := by
          rw [List.take_of_length_le (by rw [u8s_length, tailN_len]; omega), List.nil_append, List.append_nil]
          simp only [u8s, ← List.map_drop, List.drop_replicate, List.map_append]
        rw [← e]; exact hr4)
      have hlen : (tailN l ++ List.replicate (64 - M) 0).length = 64 := by rw [List.length_append, tailN_len, HM.out, List.length_replicate]; omega
      have c1 := Row.u8 HR4.out (i := M) (by omega)
      have hf := HR4.out.frozen M
      generalize (tailN l ++ List.replicate (64 - M) 0).getD M 0 = x1 at c1
      have HR5 : Hid (Row (w4.setCell ⟨g, M, none⟩ (.int .u8 128)) g 41 (u8s (lastN l))) := Lib.hid (by
        have hh := HR4.out.set M (.int .u8 ((128 : Nat) : Int))
        rw [u8s_set, last_set l M HM.out] at hh
        exact hh)
      have HROW5 : Hid (Row (w4.setCell ⟨g, M, none⟩ (.int .u8 128)) w.heap.size 37 (u32s (runN s l j).list)) := Lib.hid ((HROW3.out.chg (hch0.trans hc4) (fun h => by have := HGL.out; omega)).far (by have := HGL.out; simp; omega) _)
      have HC5 : Hid (Chg (fun b => b = w.heap.size ∨ b = g) w3 (w4.setCell ⟨g, M, none⟩ (.int .u8 128))) := Lib.hid (((hch0.trans hc4).mono (fun _ _ h => Or.inr h)).setCell (fun _ => Or.inr rfl) _)
      have HT5 : Hid (HTab (w4.setCell ⟨g, M, none⟩ (.int .u8 128))) := Lib.hid (HTab.chg (HTX.out _ HCW3.out) HC5.out (by have := HT.out.k; have := HGL.out; omega) (by have := HT.out.f; have := HGL.out; omega))
      clear hlen hr4 hc4 hch1 hch0 HR4 HROW3 HROW
      obtain ⟨N, hN⟩ : ∃ N, N = 8 * (ahead + l.length) := ⟨_, rfl⟩
      have e7 : (8 * ((ahead : Int) + (l.length : Int))) = (N : Int) := by omega
      simp only [e7]
      have HN := Lib.hid hN
      have hN2 : N ≤ 8000512 := by omega
      clear hN e7
      rcases Nat.lt_or_ge M 56 with h56 | h56
      · have hd56 : decide ((56 : Int) ≤ (M : Int)) = false := by simp; omega
        have HD : Hid (bytesN (turnN (runN s l j) ((lastN l).take 56 ++ be8 N)) = digN s ahead l) := Lib.hid (by rw [dig_short s ahead l (by rw [HM.out]; exact h56), HJ.out, HN.out])
        have HCW : Hid (Chg none_ w (w4.setCell ⟨g, M, none⟩ (.int .u8 128))) := Lib.hid ((HCH.out.andThen HCW3.out (fun b h e => absurd e (by omega))).andThen HC5.out (fun b h e => by have := HGL.out; omega))
        go_wp2
        generalize (w4.setCell ⟨g, M, none⟩ (.int .u8 128)) = wz at HR5 HROW5 HC5 HT5 HCW ⊢
        have HBL : Hid ((lastN l).length = 64) := Lib.hid (lastN_len l)
        have HRS := Lib.hid (HROW5.out)
        have HFL : Hid (((lastN l).take 56 ++ be8 N).length = 64) := Lib.hid (by rw [List.length_append, List.length_take, HBL.out, be8_len]; rfl)
        have HFB : Hid (∀ x ∈ ((lastN l).take 56 ++ be8 N), x < 256) := Lib.hid (fun x hx => by
          rcases List.mem_append.1 hx with h | h
          · exact (lastN_lt HLB.out) x (List.mem_of_mem_take h)
          · exact be8_lt N x h)
        have HR6x : Hid (Row wz w1.heap.size 25 (u8s (List.replicate 32 0))) := Lib.hid (by
          have h1 := (HR2.out.chg HCW3.out (by have := HG.out; omega)).chg HC5.out (by have := HGL.out; have := HG.out; omega)
          exact h1)
        have HGN := Lib.hid (show w.heap.size ≠ g by have := HGL.out; omega)
        have HG1N := Lib.hid (show w1.heap.size ≠ g by have := HGL.out; omega)
        have HN1 := Lib.hid (show ¬ w1.heap.size < w.heap.size by have := HG.out; omega)
        have HN2 := Lib.hid (show ¬ g < w.heap.size by have := HGL.out; omega)
        go_loopw [50] (fun i wr' => ∃ k : Nat, k ≤ 8 ∧ i = .int .i64 k ∧ Row wr' g 41 (u8s (cntP (lastN l) N k)) ∧ Chg (· = g) wz wr') (fun i _ => 8 - (intOf i).toNat)
        case atStart => exact ⟨0, Nat.zero_le _, rfl, by rw [cntP_0 _ _ HBL.out]; exact HR5.out, Chg.refl _ _⟩
        case round =>
          obtain ⟨k, hk, rfl, hrow, hch⟩ := hrel
          have HRk := Lib.hid hrow
          have HCk := Lib.hid hch
          by_cases hlt : k < 8
          · have c1 := Row.u8 hrow (i := 63 - k) (by rw [cntP_len _ _ k HBL.out hk]; omega)
            have hf := hrow.frozen (63 - k)
            have HSET := Lib.hid (cntP_set (lastN l) N k HBL.out hlt)
            have HSR := Lib.hid (hrow.set (63 - k))
            clear hrow hch
            generalize (cntP (lastN l) N k).getD (63 - k) 0 = x2 at c1
            go_wp2
            go_roundw
            case rel =>
              refine ⟨k + 1, by omega, by go_num, ?_, HCk.out.setCell (fun _ => rfl) _⟩
              rw [← HSET.out, ← u8s_set]
              exact HSR.out _
            case measure => simp [intOf]; omega
          · have hk8 : k = 8 := by omega
            subst hk8
            have HTk := Lib.hid (HTab.chg (HT5.out) hch (by have := HT.out.k; have := HGL.out; omega) (by have := HT.out.f; have := HGL.out; omega))
            clear hrow hch hk hlt
            rw [cntP_8] at HRk
            go_wp2_with (first | ((with_reducible show wpList _ _ _ (⟨some 62, .load 37 _, _, _, _, _⟩ :: _) _ _); refine wpList_load_Row rfl rfl rfl (HRS.out.chg HCk.out HGN.out) Tryd.underlying37 rfl (by rw [u32s_length, St8.len]; exact size37) ?_) | ((with_reducible show wpList _ _ _ (⟨some 63, .load 41 _, _, _, _, _⟩ :: _) _ _); refine wpList_load_Row rfl rfl rfl (HRk.out) Tryd.underlying41 rfl (by rw [u8s_length, HFL.out]; exact size41) ?_) | (go_at_call 23; refine (behind_any (runN s l j) ((lastN l).take 56 ++ be8 N) _ (runN_ok l HS.out j) HFL.out HFB.out HTk.out).mono ?_; rintro e wa ⟨rfl, hca⟩; have HCA := Lib.hid hca; clear hca) | (go_at_call 24; refine (bytes_any _ _ (turnN_ok _ _)).mono ?_; rintro e wb ⟨rfl, hcb⟩; rw [HD.out]; have HCB := Lib.hid hcb; clear hcb) | ((with_reducible show wpList _ _ _ (⟨_, .store 25 _ _, _, _, _, _⟩ :: _) _ _); refine wpList_store_Row (xs := u8s (digN s ahead l)) rfl rfl rfl (((HR6x.out.chg HCk.out HG1N.out).chg HCA.out (fun h => h)).chg HCB.out (fun h => h)) (rfl) (by rw [u8s_length, digN_len, u8s_length]; rfl) (by rw [u8s_length, digN_len]; exact size25) (u8s_oneA _) ?_; intro w9 hr9 hc9 hs9; have HR9 := Lib.hid hr9; have HC9 := Lib.hid hc9; clear hr9 hc9 hs9))
            refine ret_row rfl rfl HR9.out Tryd.underlying25 rfl (by rw [u8s_length, digN_len]; exact size25) rfl ?_
            exact ⟨rfl, HC9.out none_ w ((((HCW.out).andThen HCk.out (fun b h e => HN2.out (e ▸ h))).trans HCA.out).trans HCB.out) (fun h => absurd h HN1.out)⟩
      · go_wp2_with (first | ((with_reducible show wpList _ _ _ (⟨some 46, .load 37 _, _, _, _, _⟩ :: _) _ _); refine wpList_load_Row rfl rfl rfl (HROW5.out) Tryd.underlying37 rfl (by rw [u32s_length, St8.len]; exact size37) ?_) | ((with_reducible show wpList _ _ _ (⟨some 47, .load 41 _, _, _, _, _⟩ :: _) _ _); refine wpList_load_Row rfl rfl rfl (HR5.out) Tryd.underlying41 rfl (by rw [u8s_length, lastN_len]; exact size41) ?_) | (go_at_call 23; refine (behind_any (runN s l j) (lastN l) _ (runN_ok l HS.out j) (lastN_len l) (lastN_lt HLB.out) HT5.out).mono ?_; rintro e w6 ⟨rfl, hc6⟩; have HC6 := Lib.hid hc6; clear hc6) | ((with_reducible show wpList _ _ _ (⟨_, .store 37 _ _, _, _, _, _⟩ :: _) _ _); refine wpList_store_Row (xs := u32s (turnN (runN s l j) (lastN l)).list) rfl rfl rfl (HROW5.out.chg HC6.out (fun h => h)) (rfl) (by rw [u32s_length, St8.len, u32s_length, St8.len]) (by rw [u32s_length, St8.len]; exact size37) (u32s_one _) ?_; intro w7 hr7 hc7 hs7; have HR7 := Lib.hid hr7; have HC7 := Lib.hid hc7; clear hr7 hc7 hs7) | ((with_reducible show wpList _ _ _ (⟨_, .store 41 _ _, _, _, _, _⟩ :: _) _ _); refine wpList_store_Row (xs := u8s (List.replicate 64 0)) rfl rfl rfl ((HR5.out.chg HC6.out (fun h => h)).chg (HC7.out (· = w.heap.size) w6 (Chg.refl _ _) (fun _ => rfl)) (by have := HGL.out; omega)) (rfl) (by rw [u8s_length, u8s_length, lastN_len]; rfl) (by rw [u8s_length]; exact size41) (u8s_oneA _) ?_; intro w8 hr8 hc8 hs8; have HR8 := Lib.hid hr8; have HC8 := Lib.hid hc8; clear hr8 hc8 hs8))
        have HD : Hid (bytesN (turnN (turnN (runN s l j) (lastN l)) ((List.replicate 64 0).take 56 ++ be8 N)) = digN s ahead l) := Lib.hid (by rw [dig_long s ahead l (by rw [HM.out]; exact h56), HJ.out, HN.out]; rfl)
        have HC58 := Lib.hid (HC8.out (fun b => b = w.heap.size ∨ b = g) (w4.setCell ⟨g, M, none⟩ (.int .u8 128)) (HC7.out (fun b => b = w.heap.size ∨ b = g) (w4.setCell ⟨g, M, none⟩ (.int .u8 128)) ((Chg.refl _ _).trans (HC6.out.mono (fun _ _ h => h.elim))) (fun _ => Or.inl rfl)) (fun _ => Or.inr rfl))
        have HCW : Hid (Chg none_ w w8) := Lib.hid (((HCH.out.andThen HCW3.out (fun b h e => absurd e (by omega))).andThen HC5.out (fun b h e => by have := HGL.out; omega)).andThen HC58.out (fun b h e => by have := HGL.out; omega))
        have HR7x := Lib.hid (HR7.out.chg (HC8.out (· = g) w7 (Chg.refl _ _) (fun _ => rfl)) (by have := HGL.out; omega))
        have HT8 := Lib.hid (HT5.out.chg HC58.out (by have := HT.out.k; have := HGL.out; omega) (by have := HT.out.f; have := HGL.out; omega))
        obtain ⟨Z, hZ⟩ : ∃ Z, List.replicate 64 0 = Z := ⟨_, rfl⟩
        have hZL : Z.length = 64 := by rw [← hZ]; rfl
        have HZL := Lib.hid hZL
        have HZB : Hid (∀ x ∈ Z, x < 256) := Lib.hid (by rw [← hZ]; exact zeros_lt)
        rw [hZ] at HD HR8
        clear hZ hZL
        have HBL : Hid ((Z).length = 64) := Lib.hid (HZL.out)
        have HRS := Lib.hid (HR7x.out)
        have HFL : Hid (((Z).take 56 ++ be8 N).length = 64) := Lib.hid (by rw [List.length_append, List.length_take, HBL.out, be8_len]; rfl)
        have HFB : Hid (∀ x ∈ ((Z).take 56 ++ be8 N), x < 256) := Lib.hid (fun x hx => by
          rcases List.mem_append.1 hx with h | h
          · exact (HZB.out) x (List.mem_of_mem_take h)
          · exact be8_lt N x h)
        have HR6x : Hid (Row w8 w1.heap.size 25 (u8s (List.replicate 32 0))) := Lib.hid (by
          have h1 := (HR2.out.chg HCW3.out (by have := HG.out; omega)).chg HC5.out (by have := HGL.out; have := HG.out; omega)
          exact h1.chg HC58.out (by have := HGL.out; have := HG.out; omega))
        have HGN := Lib.hid (show w.heap.size ≠ g by have := HGL.out; omega)
        have HG1N := Lib.hid (show w1.heap.size ≠ g by have := HGL.out; omega)
        have HN1 := Lib.hid (show ¬ w1.heap.size < w.heap.size by have := HG.out; omega)
        have HN2 := Lib.hid (show ¬ g < w.heap.size by have := HGL.out; omega)
        go_loopw [50] (fun i wr' => ∃ k : Nat, k ≤ 8 ∧ i = .int .i64 k ∧ Row wr' g 41 (u8s (cntP (Z) N k)) ∧ Chg (· = g) w8 wr') (fun i _ => 8 - (intOf i).toNat)
        case atStart => exact ⟨0, Nat.zero_le _, rfl, by rw [cntP_0 _ _ HBL.out]; exact HR8.out, Chg.refl _ _⟩
        case round =>
          obtain ⟨k, hk, rfl, hrow, hch⟩ := hrel
          have HRk := Lib.hid hrow
          have HCk := Lib.hid hch
          by_cases hlt : k < 8
          · have c1 := Row.u8 hrow (i := 63 - k) (by rw [cntP_len _ _ k HBL.out hk]; omega)
            have hf := hrow.frozen (63 - k)
            have HSET := Lib.hid (cntP_set (Z) N k HBL.out hlt)
            have HSR := Lib.hid (hrow.set (63 - k))
            clear hrow hch
            generalize (cntP (Z) N k).getD (63 - k) 0 = x2 at c1
            go_wp2
            go_roundw
            case rel =>
              refine ⟨k + 1, by omega, by go_num, ?_, HCk.out.setCell (fun _ => rfl) _⟩
              rw [← HSET.out, ← u8s_set]
              exact HSR.out _
            case measure => simp [intOf]; omega
          · have hk8 : k = 8 := by omega
            subst hk8
            have HTk := Lib.hid (HTab.chg (HT8.out) hch (by have := HT.out.k; have := HGL.out; omega) (by have := HT.out.f; have := HGL.out; omega))
            clear hrow hch hk hlt
            rw [cntP_8] at HRk
            go_wp2_with (first | ((with_reducible show wpList _ _ _ (⟨some 62, .load 37 _, _, _, _, _⟩ :: _) _ _); refine wpList_load_Row rfl rfl rfl (HRS.out.chg HCk.out HGN.out) Tryd.underlying37 rfl (by rw [u32s_length, St8.len]; exact size37) ?_) | ((with_reducible show wpList _ _ _ (⟨some 63, .load 41 _, _, _, _, _⟩ :: _) _ _); refine wpList_load_Row rfl rfl rfl (HRk.out) Tryd.underlying41 rfl (by rw [u8s_length, HFL.out]; exact size41) ?_) | (go_at_call 23; refine (behind_any (turnN (runN s l j) (lastN l)) ((Z).take 56 ++ be8 N) _ (turnN_ok _ _) HFL.out HFB.out HTk.out).mono ?_; rintro e wa ⟨rfl, hca⟩; have HCA := Lib.hid hca; clear hca) | (go_at_call 24; refine (bytes_any _ _ (turnN_ok _ _)).mono ?_; rintro e wb ⟨rfl, hcb⟩; rw [HD.out]; have HCB := Lib.hid hcb; clear hcb) | ((with_reducible show wpList _ _ _ (⟨_, .store 25 _ _, _, _, _, _⟩ :: _) _ _); refine wpList_store_Row (xs := u8s (digN s ahead l)) rfl rfl rfl (((HR6x.out.chg HCk.out HG1N.out).chg HCA.out (fun h => h)).chg HCB.out (fun h => h)) (rfl) (by rw [u8s_length, digN_len, u8s_length]; rfl) (by rw [u8s_length, digN_len]; exact size25) (u8s_oneA _) ?_; intro w9 hr9 hc9 hs9; have HR9 := Lib.hid hr9; have HC9 := Lib.hid hc9; clear hr9 hc9 hs9))
            refine ret_row rfl rfl HR9.out Tryd.underlying25 rfl (by rw [u8s_length, digN_len]; exact size25) rfl ?_
            exact ⟨rfl, HC9.out none_ w ((((HCW.out).andThen HCk.out (fun b h e => HN2.out (e ▸ h))).trans HCA.out).trans HCB.out) (fun h => absurd h HN1.out)⟩
end Go.Proofs.YtodcjcpbigggfaaDoor
