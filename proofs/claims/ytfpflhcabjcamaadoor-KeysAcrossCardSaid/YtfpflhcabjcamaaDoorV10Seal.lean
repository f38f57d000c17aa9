/- Layer 10 (keys): packets sealed and opened, the program's. -/
import Derived.Test.YtfpflhcabjcamaaDoorV10Keys2
import Derived.Test.YtfpflhcabjcamaaDoorV10Nonce
import Derived.Test.YtfpflhcabjcamaaDoorV9Seal
namespace Go.Proofs.YtfpflhcabjcamaaDoor
open Go.RowKit

theorem Owned.lowK {w : World} {base b : Nat} {v : Value} {l : List Nat} (h : Owned w base v l) (hb : b ≤ base) : Owned w b v l := by
  refine ⟨h.1, ?_⟩
  rcases h.2 with h2 | ⟨g, cap, cur, h1, hg, h3⟩
  · exact .inl h2
  · exact .inr ⟨g, cap, cur, h1, Nat.le_trans hb hg, h3⟩

set_option maxRecDepth 100000 in
set_option maxHeartbeats 2000000 in
theorem kSeal_any (s : Sc) (n : Int) (more text : List Nat) (T T' : Nat → Prop) (A A' : Option Addr) (cap cap' : Nat) (w : World) (o : s.Ok) (hm : View w T A more.length (u8s more)) (hmc : more.length ≤ cap) (hml : more.length ≤ 100000) (hmb : ∀ x ∈ more, x < 256) (ht : View w T' A' text.length (u8s text)) (htl : text.length ≤ 100000) (htb : ∀ x ∈ text, x < 256) :
    Calls Tryd.prog 23 #[aggS s, .int .i64 n, .slice A more.length cap, .slice A' text.length cap'] w fun e w' => ∃ v, e = .returned v ∧ Owned w' w.heap.size v (sealK s n more text) ∧ Chg none_ w w' := by
  have HO := Lib.hid o
  have HNO : Hid (∀ w, Calls Tryd.prog 25 #[.agg (u8s s.iv).toArray, .int .i64 n] w fun e w' => e = .returned (.agg (u8s (nonceX s.iv n)).toArray) ∧ Chg none_ w w') := Lib.hid (fun w => nonceOf_any s.iv n w o.ivL o.ivB)
  obtain ⟨R, hR⟩ : ∃ R, R = sealK s n more text := ⟨_, rfl⟩
  rw [← hR]
  have HSE : Hid (∀ w', Chg none_ w w' → Calls Tryd.prog 30 #[.agg (u8s s.key).toArray, .agg (u8s (nonceX s.iv n)).toArray, .slice A more.length cap, .slice A' text.length cap'] w' fun e w'' => ∃ v, e = .returned v ∧ Owned w'' w'.heap.size v R ∧ Chg none_ w' w'') := Lib.hid (fun w' hc => by rw [hR]; exact Seal_any s.key (nonceX s.iv n) more text T T' A A' cap cap' w' o.keyL o.keyB (nonceX_len _ _) (nonceX_lt o.ivB n) (hm.chg hc (fun _ _ h => h)) hmc hml hmb (ht.chg hc (fun _ _ h => h)) htl htb)
  show Calls Tryd.prog 23 #[.agg (cellsS s).toArray, .int .i64 n, .slice A more.length cap, .slice A' text.length cap'] w _
  generalize nonceX s.iv n = NX at HNO HSE
  clear o hm hmc hml hmb ht htl htb hR
  go_enter Tryd.func23, Tryd.ntmps23
  go_wp2_with (first | ((with_reducible show wpList _ _ _ (⟨some 4, .box 36 _, _, _, _, _⟩ :: _) _ _); refine wpList_box_Row rfl rfl (cellsS s) rfl ?_; intro w1 hr1 hc1 hs1; have HR1 := Lib.hid hr1; have HC1 := Lib.hid hc1; clear hr1 hc1 hs1))
  try simp only [Act.put, List.setIfInBounds_toArray, List.set_cons_zero, List.set_cons_succ]
  refine wp_region_held_drew (S := fun w' => Chg none_ w1 w') (by kernel_rfl) ((Chg.refl none_ w1).drew) (fun hch0 => ?_)
  generalize w1.drew = wd at hch0 ⊢
  refine wpAnyH_take (i := 0) (v := .pointer (some ⟨w.heap.size, 0, none⟩)) rfl (by kernel_rfl) (by kernel_rfl) (by kernel_rfl) (by first | exact fun _ _ _ h => h | exact fun _ _ _ h => nomatch h.1) (Or.inl ⟨by rfl, fun w_ hw_ => by go_simp⟩) hch0 ?_
  refine wpAnyH_take (i := 2) (v := .pointer (some ⟨w.heap.size, 16, none⟩)) rfl (by kernel_rfl) (by kernel_rfl) (by kernel_rfl) (by first | exact fun _ _ _ h => h | exact fun _ _ _ h => nomatch h.1) (Or.inl ⟨by rfl, fun w_ hw_ => by go_simp⟩) hch0 ?_
  try simp only [Act.put, List.setIfInBounds_toArray, List.set_cons_zero, List.set_cons_succ, List.getElem_toArray, List.getElem_cons_succ, List.getElem_cons_zero]
  refine wpAnyH_take (i := 1) (v := .agg (u8s s.key).toArray) rfl (by kernel_rfl) (by kernel_rfl) (by kernel_rfl) (by first | exact fun _ _ _ h => h | exact fun _ _ _ h => nomatch h.1) (yieldsIf_load_mid (by rfl) 33 _ rfl w.heap.size 0 rfl (u8s s.key) _ (fun w' hw' => sc_key (HR1.out.chg hw' (fun h => h))) Tryd.underlying33 rfl (by rw [u8s_length, HO.out.keyL]; exact size16)) hch0 ?_
  refine wpAnyH_take (i := 3) (v := .agg (u8s s.iv).toArray) rfl (by kernel_rfl) (by kernel_rfl) (by kernel_rfl) (by first | exact fun _ _ _ h => h | exact fun _ _ _ h => nomatch h.1) (yieldsIf_load_mid (by rfl) 34 _ rfl w.heap.size 16 rfl (u8s s.iv) _ (fun w' hw' => sc_iv (HR1.out.chg hw' (fun h => h)) HO.out) Tryd.underlying34 rfl (by rw [u8s_length, HO.out.ivL]; exact size12)) hch0 ?_
  refine wpAnyH_take (i := 4) (v := .int .i64 n) rfl (by kernel_rfl) (by kernel_rfl) (by kernel_rfl) (by first | exact fun _ _ _ h => h | exact fun _ _ _ h => nomatch h.1) (Or.inl ⟨by rfl, fun w_ hw_ => by go_simp⟩) hch0 ?_
  refine wpAnyH_take (i := 6) (v := .slice A more.length cap) rfl (by kernel_rfl) (by kernel_rfl) (by kernel_rfl) (by first | exact fun _ _ _ h => h | exact fun _ _ _ h => nomatch h.1) (Or.inl ⟨by rfl, fun w_ hw_ => by go_simp⟩) hch0 ?_
  refine wpAnyH_take (i := 7) (v := .slice A' text.length cap') rfl (by kernel_rfl) (by kernel_rfl) (by kernel_rfl) (by first | exact fun _ _ _ h => h | exact fun _ _ _ h => nomatch h.1) (Or.inl ⟨by rfl, fun w_ hw_ => by go_simp⟩) hch0 ?_
  try simp only [Act.put, List.setIfInBounds_toArray, List.set_cons_zero, List.set_cons_succ, List.getElem_toArray, List.getElem_cons_succ, List.getElem_cons_zero]
  refine wpAnyH_ready (rs := [5]) (by kernel_rfl) (by simp) ?_
  refine AllReadyH.cons rfl (fun K hK => ?_) AllReadyH.nil
  rw [if_pos (by rfl)]
  try simp only [List.getElem_toArray, List.getElem_cons_succ, List.getElem_cons_zero]
  go_simp
  refine (HNO.out _).mono ?_
  rintro e x1 ⟨rfl, hcx1⟩
  have hch1 : Chg none_ w1 x1 := hch0.trans hcx1
  refine hK.out _ _ (hch1) (fun _ => ?_)
  clear hK K
  try simp only [Act.put, List.setIfInBounds_toArray, List.set_cons_zero, List.set_cons_succ, List.getElem_toArray, List.getElem_cons_succ, List.getElem_cons_zero]
  refine wpAnyH_ready (rs := [8]) (by kernel_rfl) (by simp) ?_
  refine AllReadyH.cons rfl (fun K hK => ?_) AllReadyH.nil
  rw [if_pos (by rfl)]
  try simp only [List.getElem_toArray, List.getElem_cons_succ, List.getElem_cons_zero]
  go_simp
  refine (HSE.out _ (HC1.out.trans hch1)).mono ?_
  rintro e x2 ⟨v2, rfl, ho2, hcx2⟩
  have hch2 : Chg none_ w1 x2 := hch1.trans hcx2
  refine hK.out _ _ (hch2) (fun _ => ?_)
  clear hK K
  try simp only [Act.put, List.setIfInBounds_toArray, List.set_cons_zero, List.set_cons_succ, List.getElem_toArray, List.getElem_cons_succ, List.getElem_cons_zero]
  refine wpAnyH_take (i := 9) (v := v2) rfl (by kernel_rfl) (by kernel_rfl) (by kernel_rfl) (by first | exact fun _ _ _ h => h | exact fun _ _ _ h => nomatch h.1) (Or.inl ⟨by rfl, fun w_ hw_ => by go_simp⟩) hch2 ?_
  try simp only [Act.put, List.setIfInBounds_toArray, List.set_cons_zero, List.set_cons_succ, List.getElem_toArray, List.getElem_cons_succ, List.getElem_cons_zero]
  refine wpAnyH_done (by kernel_rfl) ?_ _
  go_wp2
  go_ret
  exact ⟨v2, rfl, ho2.lowK (HC1.out.trans hch1).size, HC1.out.trans hch2⟩

set_option maxRecDepth 100000 in
set_option maxHeartbeats 2000000 in
theorem kOpen_any (s : Sc) (n : Int) (more text : List Nat) (T T' : Nat → Prop) (A A' : Option Addr) (cap cap' : Nat) (w : World) (o : s.Ok) (hm : View w T A more.length (u8s more)) (hmc : more.length ≤ cap) (htc : text.length ≤ cap') (hml : more.length ≤ 100000) (hmb : ∀ x ∈ more, x < 256) (ht : View w T' A' text.length (u8s text)) (htl : text.length ≤ 100000) (htb : ∀ x ∈ text, x < 256) :
    Calls Tryd.prog 12 #[aggS s, .int .i64 n, .slice A more.length cap, .slice A' text.length cap'] w fun e w' => ∃ v, e = .returned (.tuple #[v, .int .i64 (openK s n more text).2]) ∧ Owned w' w.heap.size v (openK s n more text).1 ∧ Chg none_ w w' := by
  have HO := Lib.hid o
  have HNO : Hid (∀ w, Calls Tryd.prog 25 #[.agg (u8s s.iv).toArray, .int .i64 n] w fun e w' => e = .returned (.agg (u8s (nonceX s.iv n)).toArray) ∧ Chg none_ w w') := Lib.hid (fun w => nonceOf_any s.iv n w o.ivL o.ivB)
  obtain ⟨z, hz⟩ : ∃ z, z = (openK s n more text).2 := ⟨_, rfl⟩
  obtain ⟨R, hR⟩ : ∃ R, R = (openK s n more text).1 := ⟨_, rfl⟩
  rw [← hz, ← hR]
  have HSE : Hid (∀ w', Chg none_ w w' → Calls Tryd.prog 24 #[.agg (u8s s.key).toArray, .agg (u8s (nonceX s.iv n)).toArray, .slice A more.length cap, .slice A' text.length cap'] w' fun e w'' => ∃ v, e = .returned (.tuple #[v, .int .i64 z]) ∧ Owned w'' w'.heap.size v R ∧ Chg none_ w' w'') := Lib.hid (fun w' hc => by rw [hz, hR]; exact Open_any s.key (nonceX s.iv n) more text T T' A A' cap cap' w' o.keyL o.keyB (nonceX_len _ _) (nonceX_lt o.ivB n) (hm.chg hc (fun _ _ h => h)) hmc hml hmb (ht.chg hc (fun _ _ h => h)) htc htl htb)
  show Calls Tryd.prog 12 #[.agg (cellsS s).toArray, .int .i64 n, .slice A more.length cap, .slice A' text.length cap'] w _
  generalize nonceX s.iv n = NX at HNO HSE
  clear o hm hmc hml hmb ht htc htl htb hR hz
  go_enter Tryd.func12, Tryd.ntmps12
  go_wp2_with (first | ((with_reducible show wpList _ _ _ (⟨some 4, .box 36 _, _, _, _, _⟩ :: _) _ _); refine wpList_box_Row rfl rfl (cellsS s) rfl ?_; intro w1 hr1 hc1 hs1; have HR1 := Lib.hid hr1; have HC1 := Lib.hid hc1; clear hr1 hc1 hs1))
  try simp only [Act.put, List.setIfInBounds_toArray, List.set_cons_zero, List.set_cons_succ]
  refine wp_region_held_drew (S := fun w' => Chg none_ w1 w') (by kernel_rfl) ((Chg.refl none_ w1).drew) (fun hch0 => ?_)
  generalize w1.drew = wd at hch0 ⊢
  refine wpAnyH_take (i := 0) (v := .pointer (some ⟨w.heap.size, 0, none⟩)) rfl (by kernel_rfl) (by kernel_rfl) (by kernel_rfl) (by first | exact fun _ _ _ h => h | exact fun _ _ _ h => nomatch h.1) (Or.inl ⟨by rfl, fun w_ hw_ => by go_simp⟩) hch0 ?_
  refine wpAnyH_take (i := 2) (v := .pointer (some ⟨w.heap.size, 16, none⟩)) rfl (by kernel_rfl) (by kernel_rfl) (by kernel_rfl) (by first | exact fun _ _ _ h => h | exact fun _ _ _ h => nomatch h.1) (Or.inl ⟨by rfl, fun w_ hw_ => by go_simp⟩) hch0 ?_
  try simp only [Act.put, List.setIfInBounds_toArray, List.set_cons_zero, List.set_cons_succ, List.getElem_toArray, List.getElem_cons_succ, List.getElem_cons_zero]
  refine wpAnyH_take (i := 1) (v := .agg (u8s s.key).toArray) rfl (by kernel_rfl) (by kernel_rfl) (by kernel_rfl) (by first | exact fun _ _ _ h => h | exact fun _ _ _ h => nomatch h.1) (yieldsIf_load_mid (by rfl) 33 _ rfl w.heap.size 0 rfl (u8s s.key) _ (fun w' hw' => sc_key (HR1.out.chg hw' (fun h => h))) Tryd.underlying33 rfl (by rw [u8s_length, HO.out.keyL]; exact size16)) hch0 ?_
  refine wpAnyH_take (i := 3) (v := .agg (u8s s.iv).toArray) rfl (by kernel_rfl) (by kernel_rfl) (by kernel_rfl) (by first | exact fun _ _ _ h => h | exact fun _ _ _ h => nomatch h.1) (yieldsIf_load_mid (by rfl) 34 _ rfl w.heap.size 16 rfl (u8s s.iv) _ (fun w' hw' => sc_iv (HR1.out.chg hw' (fun h => h)) HO.out) Tryd.underlying34 rfl (by rw [u8s_length, HO.out.ivL]; exact size12)) hch0 ?_
  refine wpAnyH_take (i := 4) (v := .int .i64 n) rfl (by kernel_rfl) (by kernel_rfl) (by kernel_rfl) (by first | exact fun _ _ _ h => h | exact fun _ _ _ h => nomatch h.1) (Or.inl ⟨by rfl, fun w_ hw_ => by go_simp⟩) hch0 ?_
  refine wpAnyH_take (i := 6) (v := .slice A more.length cap) rfl (by kernel_rfl) (by kernel_rfl) (by kernel_rfl) (by first | exact fun _ _ _ h => h | exact fun _ _ _ h => nomatch h.1) (Or.inl ⟨by rfl, fun w_ hw_ => by go_simp⟩) hch0 ?_
  refine wpAnyH_take (i := 7) (v := .slice A' text.length cap') rfl (by kernel_rfl) (by kernel_rfl) (by kernel_rfl) (by first | exact fun _ _ _ h => h | exact fun _ _ _ h => nomatch h.1) (Or.inl ⟨by rfl, fun w_ hw_ => by go_simp⟩) hch0 ?_
  try simp only [Act.put, List.setIfInBounds_toArray, List.set_cons_zero, List.set_cons_succ, List.getElem_toArray, List.getElem_cons_succ, List.getElem_cons_zero]
  refine wpAnyH_ready (rs := [5]) (by kernel_rfl) (by simp) ?_
  refine AllReadyH.cons rfl (fun K hK => ?_) AllReadyH.nil
  rw [if_pos (by rfl)]
  try simp only [List.getElem_toArray, List.getElem_cons_succ, List.getElem_cons_zero]
  go_simp
  refine (HNO.out _).mono ?_
  rintro e x1 ⟨rfl, hcx1⟩
  have hch1 : Chg none_ w1 x1 := hch0.trans hcx1
  refine hK.out _ _ (hch1) (fun _ => ?_)
  clear hK K
  try simp only [Act.put, List.setIfInBounds_toArray, List.set_cons_zero, List.set_cons_succ, List.getElem_toArray, List.getElem_cons_succ, List.getElem_cons_zero]
  refine wpAnyH_ready (rs := [8]) (by kernel_rfl) (by simp) ?_
  refine AllReadyH.cons rfl (fun K hK => ?_) AllReadyH.nil
  rw [if_pos (by rfl)]
  try simp only [List.getElem_toArray, List.getElem_cons_succ, List.getElem_cons_zero]
  go_simp
  refine (HSE.out _ (HC1.out.trans hch1)).mono ?_
  rintro e x2 ⟨v2, rfl, ho2, hcx2⟩
  have hch2 : Chg none_ w1 x2 := hch1.trans hcx2
  refine hK.out _ _ (hch2) (fun _ => ?_)
  clear hK K
  try simp only [Act.put, List.setIfInBounds_toArray, List.set_cons_zero, List.set_cons_succ, List.getElem_toArray, List.getElem_cons_succ, List.getElem_cons_zero]
  refine wpAnyH_take (i := 9) (v := v2) rfl (by kernel_rfl) (by kernel_rfl) (by kernel_rfl) (by first | exact fun _ _ _ h => h | exact fun _ _ _ h => nomatch h.1) (Or.inl ⟨by rfl, fun w_ hw_ => by go_simp⟩) hch2 ?_
  refine wpAnyH_take (i := 10) (v := .int .i64 z) rfl (by kernel_rfl) (by kernel_rfl) (by kernel_rfl) (by first | exact fun _ _ _ h => h | exact fun _ _ _ h => nomatch h.1) (Or.inl ⟨by rfl, fun w_ hw_ => by go_simp⟩) hch2 ?_
  try simp only [Act.put, List.setIfInBounds_toArray, List.set_cons_zero, List.set_cons_succ, List.getElem_toArray, List.getElem_cons_succ, List.getElem_cons_zero]
  refine wpAnyH_take (i := 11) (v := v2) rfl (by kernel_rfl) (by kernel_rfl) (by kernel_rfl) (by first | exact fun _ _ _ h => h | exact fun _ _ _ h => nomatch h.1) (Or.inl ⟨by rfl, fun w_ hw_ => by go_simp⟩) hch2 ?_
  refine wpAnyH_take (i := 12) (v := .int .i64 z) rfl (by kernel_rfl) (by kernel_rfl) (by kernel_rfl) (by first | exact fun _ _ _ h => h | exact fun _ _ _ h => nomatch h.1) (Or.inl ⟨by rfl, fun w_ hw_ => by go_simp⟩) hch2 ?_
  try simp only [Act.put, List.setIfInBounds_toArray, List.set_cons_zero, List.set_cons_succ, List.getElem_toArray, List.getElem_cons_succ, List.getElem_cons_zero]
  refine wpAnyH_done (by kernel_rfl) ?_ _
  go_wp2
  go_ret2
  exact ⟨v2, rfl, ho2.lowK (HC1.out.trans hch1).size, HC1.out.trans hch2⟩

end Go.Proofs.YtfpflhcabjcamaaDoor
