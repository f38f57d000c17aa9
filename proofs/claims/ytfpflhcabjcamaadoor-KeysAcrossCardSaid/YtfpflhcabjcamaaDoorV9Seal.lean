/- Layer 9 (gcm): texts sealed and opened, the program's. -/
import Derived.Test.YtfpflhcabjcamaaDoorV9Tag
import Derived.Test.YtfpflhcabjcamaaDoorKA2
import Derived.Test.YtfpflhcabjcamaaDoorK0
namespace Go.Proofs.YtfpflhcabjcamaaDoor
open Go.RowKit

set_option maxRecDepth 100000 in
set_option maxHeartbeats 4000000 in
theorem Seal_any (key nonce more text : List Nat) (T T' : Nat → Prop) (A A' : Option Addr) (cap cap' : Nat) (w : World) (hk : key.length = 16) (hkb : ∀ x ∈ key, x < 256) (hn : nonce.length = 12) (hnb : ∀ x ∈ nonce, x < 256) (hm : View w T A more.length (u8s more)) (hmc : more.length ≤ cap) (hml : more.length ≤ 100000) (hmb : ∀ x ∈ more, x < 256) (ht : View w T' A' text.length (u8s text)) (htl : text.length ≤ 100000) (htb : ∀ x ∈ text, x < 256) :
    Calls Tryd.prog 30 #[.agg (u8s key).toArray, .agg (u8s nonce).toArray, .slice A more.length cap, .slice A' text.length cap'] w fun e w' => ∃ v, e = .returned v ∧ Owned w' w.heap.size v (sealG key nonce more text) ∧ Chg none_ w w' := by
  have HKL := Lib.hid hk
  have HNL := Lib.hid hn
  have HNM := Lib.hid (fun w => numbered_any nonce 2 w hn)
  have HST := Lib.hid (fun w' (hc : Chg none_ w w') => Stream_any key (jN nonce 2) T' A' cap' text w' hk hkb (jN_len nonce 2 hn) (jN_lt hnb (by decide)) (ht.chg hc (fun _ _ h => h)) (by omega) htb)
  have hSTB := streamN_lt (text := text) hkb (jN_lt (k := 2) hnb (by decide)) htb
  have hSTL := streamN_len key (jN nonce 2) text
  have hSG : sealG key nonce more text = streamN key (jN nonce 2) text ++ tagG key nonce more (streamN key (jN nonce 2) text) := rfl
  rw [hSG]
  generalize streamN key (jN nonce 2) text = ST at HST hSTB hSTL
  have HTG : Hid (∀ w' g, Chg none_ w w' → Row w' g 5 (u8s ST) → Calls Tryd.prog 31 #[.agg (u8s key).toArray, .agg (u8s nonce).toArray, .slice A more.length cap, .slice (some ⟨g, 0, none⟩) text.length text.length] w' fun e w'' => e = .returned (.agg (u8s (tagG key nonce more ST)).toArray) ∧ Chg none_ w' w'') := Lib.hid (fun w' g hc hr => by
    have := tagOf_any key nonce more ST T (fun _ => True) A (some ⟨g, 0, none⟩) cap text.length w' hk hkb hn hnb (hm.chg hc (fun _ _ h => h)) hmc (by omega) hmb (View.all hr (by rw [u8s_length]) trivial) (by omega) (by omega) hSTB
    rw [hSTL] at this
    exact this)
  have HTL : Hid ((tagG key nonce more ST).length = 16) := Lib.hid (xorB_len' _ _)
  have HSTL := Lib.hid hSTL
  generalize tagG key nonce more ST = TG at HTG HTL
  clear hk hkb hn hnb hm ht hmb htb hmc hSTB hSTL hSG
  go_enter Tryd.func30, Tryd.ntmps30
  go_wp2_with (first | ((with_reducible show wpList _ _ _ (⟨some 4, .box 33 _, _, _, _, _⟩ :: _) _ _); refine wpList_box_Row rfl rfl (u8s key) rfl ?_; intro wK hrK hcK hsK; have HRK := Lib.hid hrK; have HCK := Lib.hid hcK; clear hrK hcK hsK) | ((with_reducible show wpList _ _ _ (⟨some 5, .box 34 _, _, _, _, _⟩ :: _) _ _); refine wpList_box_Row rfl rfl (u8s nonce) rfl ?_; intro wN hrN hcN hsN; have HRN := Lib.hid hrN; have HCN := Lib.hid (HCK.out.trans hcN); have HRK1 := Lib.hid (HRK.out.chg hcN (fun h => h)); clear hrN hcN hsN))
  try simp only [Act.put, List.setIfInBounds_toArray, List.set_cons_zero, List.set_cons_succ]
  refine wp_region_held_drew (S := fun w' => Chg none_ wN w') (by kernel_rfl) ((Chg.refl none_ wN).drew) (fun hch0 => ?_)
  generalize wN.drew = wd at hch0 ⊢
  refine wpAnyH_take (i := 0) (v := .agg (u8s key).toArray) rfl (by kernel_rfl) (by kernel_rfl) (by kernel_rfl) (by first | exact fun _ _ _ h => h | exact fun _ _ _ h => nomatch h.1) (yieldsIf_load_mid (by rfl) 33 _ rfl w.heap.size 0 rfl (u8s key) _ (fun w' hw' => (HRK1.out.chg hw' (fun h => h)).range) Tryd.underlying33 rfl (by rw [u8s_length, HKL.out]; exact size22)) hch0 ?_
  refine wpAnyH_take (i := 1) (v := .agg (u8s nonce).toArray) rfl (by kernel_rfl) (by kernel_rfl) (by kernel_rfl) (by first | exact fun _ _ _ h => h | exact fun _ _ _ h => nomatch h.1) (yieldsIf_load_mid (by rfl) 34 _ rfl wK.heap.size 0 rfl (u8s nonce) _ (fun w' hw' => (HRN.out.chg hw' (fun h => h)).range) Tryd.underlying34 rfl (by rw [u8s_length, HNL.out]; exact sizeN12)) hch0 ?_
  refine wpAnyH_take (i := 3) (v := .slice A' text.length cap') rfl (by kernel_rfl) (by kernel_rfl) (by kernel_rfl) (by first | exact fun _ _ _ h => h | exact fun _ _ _ h => nomatch h.1) (Or.inl ⟨by rfl, fun w_ hw_ => by go_simp⟩) hch0 ?_
  try simp only [Act.put, List.setIfInBounds_toArray, List.set_cons_zero, List.set_cons_succ, List.getElem_toArray, List.getElem_cons_succ, List.getElem_cons_zero]
  refine wpAnyH_ready (rs := [2]) (by kernel_rfl) (by simp) ?_
  refine AllReadyH.cons rfl (fun K hK => ?_) AllReadyH.nil
  rw [if_pos (by rfl)]
  try simp only [List.getElem_toArray, List.getElem_cons_succ, List.getElem_cons_zero]
  go_simp
  refine (HNM.out _).mono ?_
  rintro e x2 ⟨rfl, hc2⟩
  have hch2 : Chg none_ wN x2 := hch0.trans hc2
  refine hK.out _ _ (hch2) (fun _ => ?_)
  clear hK K
  try simp only [Act.put, List.setIfInBounds_toArray, List.set_cons_zero, List.set_cons_succ, List.getElem_toArray, List.getElem_cons_succ, List.getElem_cons_zero]
  refine wpAnyH_ready (rs := [4]) (by kernel_rfl) (by simp) ?_
  refine AllReadyH.cons rfl (fun K hK => ?_) AllReadyH.nil
  rw [if_pos (by rfl)]
  try simp only [List.getElem_toArray, List.getElem_cons_succ, List.getElem_cons_zero]
  go_simp
  refine (HST.out _ (HCN.out.trans hch2)).mono ?_
  rintro e x4 ⟨g, rfl, hge, hr4, hc4⟩
  have hch4 : Chg none_ wN x4 := hch2.trans hc4
  refine hK.out _ _ (hch4) (fun _ => ?_)
  clear hK K
  try simp only [Act.put, List.setIfInBounds_toArray, List.set_cons_zero, List.set_cons_succ, List.getElem_toArray, List.getElem_cons_succ, List.getElem_cons_zero]
  refine wpAnyH_take (i := 5) (v := .slice (some ⟨g, 0, none⟩) text.length text.length) rfl (by kernel_rfl) (by kernel_rfl) (by kernel_rfl) (by first | exact fun _ _ _ h => h | exact fun _ _ _ h => nomatch h.1) (Or.inl ⟨by rfl, fun w_ hw_ => by go_simp⟩) hch4 ?_
  try simp only [Act.put, List.setIfInBounds_toArray, List.set_cons_zero, List.set_cons_succ, List.getElem_toArray, List.getElem_cons_succ, List.getElem_cons_zero]
  refine wpAnyH_done (by kernel_rfl) ?_ _
  have HCX := Lib.hid (HCN.out.trans hch4)
  have HRK4 := Lib.hid (HRK1.out.chg hch4 (fun h => h))
  have HRN4 := Lib.hid (HRN.out.chg hch4 (fun h => h))
  have HR4 := Lib.hid hr4
  have HGE : Hid (w.heap.size ≤ g) := Lib.hid (by have := (HCN.out.trans hch2).size; omega)
  clear hr4 hge hch4 hch2 hch0 hc2 hc4
  go_wp2_with (first | ((with_reducible show wpList _ _ _ (⟨some 16, .load 33 _, _, _, _, _⟩ :: _) _ _); refine wpList_load_Row rfl rfl rfl (HRK4.out) Tryd.underlying33 rfl (by rw [u8s_length, HKL.out]; exact size22) ?_) | ((with_reducible show wpList _ _ _ (⟨some 17, .load 34 _, _, _, _, _⟩ :: _) _ _); refine wpList_load_Row rfl rfl rfl (HRN4.out) Tryd.underlying34 rfl (by rw [u8s_length, HNL.out]; exact sizeN12) ?_) | (go_at_call 31; refine (HTG.out _ g HCX.out HR4.out).mono ?_; rintro e w5 ⟨rfl, hc5⟩; have HC5 := Lib.hid (HCX.out.trans hc5); have HR5 := Lib.hid (HR4.out.chg hc5 (fun h => h)); clear hc5) | ((with_reducible show wpList _ _ _ (⟨some 10, .alloc 33, _, _, _, _⟩ :: _) _ _); refine wpList_alloc_Row rfl rfl (u8s (List.replicate 16 0)) zero22 ?_; intro w6 hr6 hc6 hs6; have HR6 := Lib.hid hr6; have HC6 := Lib.hid (HC5.out.trans hc6); have HR5b := Lib.hid (HR5.out.chg hc6 (fun h => h)); clear hr6 hc6 hs6) | ((with_reducible show wpList _ _ _ (⟨none, .store 33 (.tmp 10) _, _, _, _, _⟩ :: _) _ _); refine wpList_store_Row (xs := u8s TG) rfl rfl rfl HR6.out rfl (by rw [u8s_length, u8s_length, HTL.out, List.length_replicate]) (by rw [u8s_length, HTL.out]; exact size22) (u8s_oneA _) ?_; intro w7 hr7 hc7 hs7; have HR7 := Lib.hid hr7; have HC7 := Lib.hid (hc7 none_ w HC6.out (fun h => by have := HC5.out.size; omega)); have hx7 := hc7 (· = w5.heap.size) w6 (Chg.refl _ _) (fun _ => rfl); have HR5c := Lib.hid (HR5b.out.chg hx7 (fun e => by have := HR5.out.lt; omega)); have HO := Lib.hid (Owned.row HR5c.out HGE.out HSTL.out (by unfold maxLen; omega)); clear hr7 hc7 hs7 hx7) | ((with_reducible show wpList _ _ _ (⟨some 22, _, _, _, _, _⟩ :: _) _ _); refine wpList_slice_arr_all rfl 33 5 _ rfl 16 1 w5.heap.size 0 rfl Tryd.underlying33 size5 ?_) | ((with_reducible show wpList _ _ _ (⟨some 23, _, _, _, _, _⟩ :: _) _ _); refine wpList_append_bytes rfl _ _ _ rfl Tryd.underlying22 (base := w.heap.size) (v := .slice (some ⟨g, 0, none⟩) text.length text.length) (L := ST) (M := TG) (A := some ⟨w5.heap.size, 0, none⟩) (m := 16) (c := 16) (w0 := w) rfl HO.out rfl (View.all (T := fun _ => True) HR7.out (by rw [u8s_length, HTL.out]) trivial) (by have := HSTL.out; omega) HC7.out.size HC7.out (Nat.le_refl _) ?_; intro v8 w8 ho8 hc8; have HO8 := Lib.hid ho8; have HC8 := Lib.hid hc8; clear ho8 hc8))
  go_ret
  exact ⟨v8, rfl, HO8.out, HC8.out⟩

theorem yieldsIf_neq {P : Program} {ops : Array Oper} {S : World → Prop} {op : Oper} {a : Act} (hw : Region.wanted op (yielded ops a.tmps) = true) (T R : TypeId) (x y : Operand) (ho : op.op = .binOp .neq T x y R) (u v : Array Value) (hx : a.eval x = .agg u) (hy : a.eval y = .agg v) (b : Bool)
    (hg : ∀ w, (eqGuard .neq T x y (.agg u) (.agg v)).run P w = .ok () w) (h : ∀ w, S w → (Op.equalIn 10000 T (.agg u) (.agg v)).run P w = .ok b w) : YieldsIf P ops S op (.bool (!b)) a :=
  .inl ⟨hw, fun w hw' => by
    have hh : (Op.equal T (.agg u) (.agg v)).run P w = .ok b w := h w hw'
    unfold execOp
    simp only [ho, hx, hy, Sem.run_bind, Sem.run_pure, Result.andThen_ok, hg w, binOp, hh]⟩

set_option maxRecDepth 100000 in
set_option maxHeartbeats 1000000 in
theorem Open_short (key nonce more b : List Nat) (A A' : Option Addr) (cap cap' : Nat) (w : World) (hs : b.length < 16) : Calls Tryd.prog 24 #[.agg (u8s key).toArray, .agg (u8s nonce).toArray, .slice A more.length cap, .slice A' b.length cap'] w fun e w' => ∃ v, e = .returned (.tuple #[v, .int .i64 (openG key nonce more b).2]) ∧ Owned w' w.heap.size v (openG key nonce more b).1 ∧ Chg none_ w w' := by
  have e0 : openG key nonce more b = ([], 2) := short_open key nonce more b hs
  rw [e0]
  have hs2 : (b.length : Int) - 16 < 0 := by omega
  go_enter Tryd.func24, Tryd.ntmps24
  go_wp2_with (first | ((with_reducible show wpList _ _ _ (⟨some 4, .box 33 _, _, _, _, _⟩ :: _) _ _); refine wpList_box_Row rfl rfl (u8s key) rfl ?_; intro wK hrK hcK hsK; have HRK := Lib.hid hrK; have HCK := Lib.hid hcK; clear hrK hcK hsK) | ((with_reducible show wpList _ _ _ (⟨some 5, .box 34 _, _, _, _, _⟩ :: _) _ _); refine wpList_box_Row rfl rfl (u8s nonce) rfl ?_; intro wN hrN hcN hsN; have HRN := Lib.hid hrN; have HCN := Lib.hid (HCK.out.trans hcN); have HRK1 := Lib.hid (HRK.out.chg hcN (fun h => h)); clear hrN hcN hsN))
  go_ret2
  exact ⟨_, rfl, Owned.nil _ _, HCN.out⟩

set_option maxRecDepth 100000 in
set_option maxHeartbeats 4000000 in
theorem Open_long (key nonce more b : List Nat) (T T' : Nat → Prop) (A A' : Option Addr) (cap cap' : Nat) (w : World) (hk : key.length = 16) (hkb : ∀ x ∈ key, x < 256) (hn : nonce.length = 12) (hnb : ∀ x ∈ nonce, x < 256) (hm : View w T A more.length (u8s more)) (hmc : more.length ≤ cap) (hml : more.length ≤ 100000) (hmb : ∀ x ∈ more, x < 256) (ht : View w T' A' b.length (u8s b)) (htc : b.length ≤ cap') (htl : b.length ≤ 100000) (htb : ∀ x ∈ b, x < 256) (hs : 16 ≤ b.length) : Calls Tryd.prog 24 #[.agg (u8s key).toArray, .agg (u8s nonce).toArray, .slice A more.length cap, .slice A' b.length cap'] w fun e w' => ∃ v, e = .returned (.tuple #[v, .int .i64 (openG key nonce more b).2]) ∧ Owned w' w.heap.size v (openG key nonce more b).1 ∧ Chg none_ w w' := by
  obtain ⟨n, hn16⟩ : ∃ n, n = b.length - 16 := ⟨_, rfl⟩
  have e0 : openG key nonce more b = if tagG key nonce more (b.take n) = b.drop n then (streamN key (jN nonce 2) (b.take n), 0) else ([], 7) := by
    unfold openG
    rw [if_neg (by omega), ← hn16]
  rw [e0]
  have HKL := Lib.hid hk
  have HNL := Lib.hid hn
  have htn : (b.take n).length = n := by rw [List.length_take]; omega
  have htnb : ∀ x ∈ b.take n, x < 256 := fun x hx => htb x (List.mem_of_mem_take hx)
  have HVT : Hid (∀ w', Chg none_ w w' → View w' T' (highA A' cap') n (u8s (b.take n))) := Lib.hid (fun w' hc => (ht.chg hc (fun _ _ h => h)).upto cap' (by omega))
  have HNM := Lib.hid (fun w => numbered_any nonce 2 w hn)
  have HST : Hid (∀ w', Chg none_ w w' → Calls Tryd.prog 32 #[.agg (u8s key).toArray, .agg (u8s (jN nonce 2)).toArray, .slice (highA A' cap') n cap'] w' fun e w'' => ∃ g, e = .returned (.slice (some ⟨g, 0, none⟩) n n) ∧ w'.heap.size ≤ g ∧ Row w'' g 5 (u8s (streamN key (jN nonce 2) (b.take n))) ∧ Chg none_ w' w'') := Lib.hid (fun w' hc => by
    have := Stream_any key (jN nonce 2) T' (highA A' cap') cap' (b.take n) w' hk hkb (jN_len nonce 2 hn) (jN_lt hnb (by decide)) (by rw [htn]; exact HVT.out w' hc) (by omega) htnb
    rw [htn] at this
    exact this)
  have HTG : Hid (∀ w', Chg none_ w w' → Calls Tryd.prog 31 #[.agg (u8s key).toArray, .agg (u8s nonce).toArray, .slice A more.length cap, .slice (highA A' cap') n cap'] w' fun e w'' => e = .returned (.agg (u8s (tagG key nonce more (b.take n))).toArray) ∧ Chg none_ w' w'') := Lib.hid (fun w' hc => by
    have := tagOf_any key nonce more (b.take n) T T' A (highA A' cap') cap cap' w' hk hkb hn hnb (hm.chg hc (fun _ _ h => h)) hmc (by omega) hmb (by rw [htn]; exact HVT.out w' hc) (by omega) (by omega) htnb
    rw [htn] at this
    exact this)
  have hTL : (tagG key nonce more (b.take n)).length = 16 := xorB_len' _ _
  have hSL : (streamN key (jN nonce 2) (b.take n)).length = n := by rw [streamN_len, htn]
  obtain ⟨tg, htg⟩ : ∃ tg, tg = b.drop n := ⟨_, rfl⟩
  have htgl : tg.length = 16 := by rw [htg, List.length_drop]; omega
  have hvd : View w T' (dropA A' cap' n) (b.length - n) ((u8s b).drop n) := ht.dropA htc
  rw [show (u8s b).drop n = u8s tg from by rw [htg]; simp [u8s]] at hvd
  obtain ⟨bb, bo, hda, hbb, hbT, hcell⟩ := hvd.2 (by omega)
  have HTR : Hid (∀ w', Chg none_ w w' → w'.rangeAt bb bo (u8s tg)) := Lib.hid (fun w' hc j v hv => by
    have hj : j < b.length - n := by
      rcases Nat.lt_or_ge j (u8s tg).length with h | h
      · rw [u8s_length, htgl] at h; omega
      · rw [List.getElem?_eq_none h] at hv; cases hv
    rw [hc.cell _ hbb (fun h => h), hcell j hj]; exact hv)
  rw [← htg]
  generalize tagG key nonce more (b.take n) = TG at HTG hTL
  generalize streamN key (jN nonce 2) (b.take n) = ST at HST hSL
  have HQ := Lib.hid (fun w => blk_eql tg TG htgl hTL w)
  obtain ⟨RR, hRR⟩ : ∃ RR : List Nat × Int, RR = if TG = tg then (ST, 0) else ([], 7) := ⟨_, rfl⟩
  rw [← hRR]
  have HRR := Lib.hid hRR
  clear hRR
  have HTGL := Lib.hid htgl
  have HDA := Lib.hid hda
  have HNC : Hid (n ≤ cap') := Lib.hid (by omega)
  have HNB : Hid (n ≤ b.length) := Lib.hid (by omega)
  have HN16 : Hid (16 ≤ b.length - n) := Lib.hid (by omega)
  have HSL := Lib.hid hSL
  have hnn : (b.length : Int) - 16 = (n : Int) := by omega
  have hn0 : ¬ (n : Int) < 0 := by omega
  have HNM1 : Hid (n ≤ maxLen) := Lib.hid (by unfold maxLen; omega)
  clear hk hkb hn hnb hm ht hmb htb hmc htc htn htnb htg htgl hvd hda hbb hbT hcell e0 hTL hSL hs hn16 HVT
  go_enter Tryd.func24, Tryd.ntmps24
  go_wp2_with (first | ((with_reducible show wpList _ _ _ (⟨some 4, .box 33 _, _, _, _, _⟩ :: _) _ _); refine wpList_box_Row rfl rfl (u8s key) rfl ?_; intro wK hrK hcK hsK; have HRK := Lib.hid hrK; have HCK := Lib.hid hcK; clear hrK hcK hsK) | ((with_reducible show wpList _ _ _ (⟨some 5, .box 34 _, _, _, _, _⟩ :: _) _ _); refine wpList_box_Row rfl rfl (u8s nonce) rfl ?_; intro wN hrN hcN hsN; have HRN := Lib.hid hrN; have HCN := Lib.hid (HCK.out.trans hcN); have HRK1 := Lib.hid (HRK.out.chg hcN (fun h => h)); clear hrN hcN hsN))
  try simp only [Act.put, List.setIfInBounds_toArray, List.set_cons_zero, List.set_cons_succ]
  refine wp_region_held_drew (S := fun w' => Chg none_ wN w') (by kernel_rfl) ((Chg.refl none_ wN).drew) (fun hch0 => ?_)
  generalize wN.drew = wd at hch0 ⊢
  refine wpAnyH_take (i := 0) (v := .slice A' b.length cap') rfl (by kernel_rfl) (by kernel_rfl) (by kernel_rfl) (by first | exact fun _ _ _ h => h | exact fun _ _ _ h => nomatch h.1) (Or.inl ⟨by rfl, fun w_ hw_ => by go_simp⟩) hch0 ?_
  refine wpAnyH_take (i := 1) (v := .int .i64 (n : Int)) rfl (by kernel_rfl) (by kernel_rfl) (by kernel_rfl) (by first | exact fun _ _ _ h => h | exact fun _ _ _ h => nomatch h.1) (Or.inl ⟨by rfl, fun w_ hw_ => by go_simp⟩) hch0 ?_
  refine wpAnyH_take (i := 3) (v := .slice A' b.length cap') rfl (by kernel_rfl) (by kernel_rfl) (by kernel_rfl) (by first | exact fun _ _ _ h => h | exact fun _ _ _ h => nomatch h.1) (Or.inl ⟨by rfl, fun w_ hw_ => by go_simp⟩) hch0 ?_
  refine wpAnyH_take (i := 4) (v := .int .i64 (n : Int)) rfl (by kernel_rfl) (by kernel_rfl) (by kernel_rfl) (by first | exact fun _ _ _ h => h | exact fun _ _ _ h => nomatch h.1) (Or.inl ⟨by rfl, fun w_ hw_ => by go_simp⟩) hch0 ?_
  try simp only [Act.put, List.setIfInBounds_toArray, List.set_cons_zero, List.set_cons_succ, List.getElem_toArray, List.getElem_cons_succ, List.getElem_cons_zero]
  refine wpAnyH_take (i := 2) (v := .slice (highA A' cap') n cap') rfl (by kernel_rfl) (by kernel_rfl) (by kernel_rfl) (by first | exact fun _ _ _ h => h | exact fun _ _ _ h => nomatch h.1) (yieldsIf_slice_high (by rfl) 22 5 _ _ rfl A' b.length cap' n rfl rfl Tryd.underlying22 size5 HNC.out) hch0 ?_
  refine wpAnyH_take (i := 5) (v := .slice (some ⟨bb, bo, none⟩) (b.length - n) (cap' - n)) rfl (by kernel_rfl) (by kernel_rfl) (by kernel_rfl) (by first | exact fun _ _ _ h => h | exact fun _ _ _ h => nomatch h.1) (yieldsIf_slice_low (by rfl) 22 5 _ _ rfl A' b.length cap' n rfl rfl Tryd.underlying22 size5 HNB.out HDA.out) hch0 ?_
  try simp only [Act.put, List.setIfInBounds_toArray, List.set_cons_zero, List.set_cons_succ, List.getElem_toArray, List.getElem_cons_succ, List.getElem_cons_zero]
  refine wpAnyH_take (i := 6) (v := .pointer (some ⟨bb, bo, none⟩)) rfl (by kernel_rfl) (by kernel_rfl) (by kernel_rfl) (by first | exact fun _ _ _ h => h | exact fun _ _ _ h => nomatch h.1) (yieldsIf_arrayAt (by rfl) 33 5 16 _ rfl (some ⟨bb, bo, none⟩) (b.length - n) (cap' - n) rfl Tryd.underlying33 HN16.out) hch0 ?_
  try simp only [Act.put, List.setIfInBounds_toArray, List.set_cons_zero, List.set_cons_succ, List.getElem_toArray, List.getElem_cons_succ, List.getElem_cons_zero]
  refine wpAnyH_take (i := 7) (v := .agg (u8s tg).toArray) rfl (by kernel_rfl) (by kernel_rfl) (by kernel_rfl) (by first | exact fun _ _ _ h => h | exact fun _ _ _ h => nomatch h.1) (yieldsIf_load_mid (by rfl) 33 _ rfl bb bo rfl (u8s tg) _ (fun w' hw' => HTR.out w' (HCN.out.trans hw')) Tryd.underlying33 rfl (by rw [u8s_length, HTGL.out]; exact size22)) hch0 ?_
  refine wpAnyH_ready (rs := [8]) (by kernel_rfl) (by simp) ?_
  refine AllReadyH.cons rfl (fun K hK => ?_) AllReadyH.nil
  rw [if_pos (by rfl)]
  try simp only [Act.put, List.setIfInBounds_toArray, List.set_cons_zero, List.set_cons_succ, List.getElem_toArray, List.getElem_cons_succ, List.getElem_cons_zero]
  refine wp_alloc_row rfl (u8s (List.replicate 16 0)) zero22 ?_
  intro y8 hry8 hcy8 hsy8
  have hch8 : Chg none_ wN y8 := hch0.trans hcy8
  have hby := hch0.size
  refine hK.out _ _ (hch8) (fun _ => ?_)
  clear hK K
  try simp only [Act.put, List.setIfInBounds_toArray, List.set_cons_zero, List.set_cons_succ]
  refine wpAnyH_take (i := 9) (v := .slice (highA A' cap') n cap') rfl (by kernel_rfl) (by kernel_rfl) (by kernel_rfl) (by first | exact fun _ _ _ h => h | exact fun _ _ _ h => nomatch h.1) (Or.inl ⟨by rfl, fun w_ hw_ => by go_simp⟩) hch8 ?_
  try simp only [Act.put, List.setIfInBounds_toArray, List.set_cons_zero, List.set_cons_succ, List.getElem_toArray, List.getElem_cons_succ, List.getElem_cons_zero]
  refine wpAnyH_ready (rs := [10]) (by kernel_rfl) (by simp) ?_
  refine AllReadyH.cons rfl (fun K hK => ?_) AllReadyH.nil
  rw [if_pos (by rfl)]
  try simp only [List.getElem_toArray, List.getElem_cons_succ, List.getElem_cons_zero]
  refine wp_store_row (ty := 33) (xs := u8s tg) rfl rfl (hry8) rfl (by rw [u8s_length, u8s_length, HTGL.out, List.length_replicate]) (by rw [u8s_length, HTGL.out]; exact size22) (u8s_oneA _) ?_
  intro w4 hr_w4 hc_w4 hs_w4
  refine hK.out _ _ (hc_w4 none_ wN hch8 (fun h => by omega)) (fun _ => ?_)
  clear hK K
  try simp only [Act.put]
  have hchF : Chg none_ wN w4 := hc_w4 none_ wN hch8 (fun h => by omega)
  refine wpAnyH_done (by kernel_rfl) ?_ _
  have HCX := Lib.hid (HCN.out.trans hchF)
  have HRK4 := Lib.hid (HRK1.out.chg hchF (fun h => h))
  have HRN4 := Lib.hid (HRN.out.chg hchF (fun h => h))
  have HR12 := Lib.hid hr_w4
  clear hr_w4 hc_w4 hs_w4 hchF hch8 hry8 hcy8 hsy8
  go_wp2
  try simp only [Act.put, List.setIfInBounds_toArray, List.set_cons_zero, List.set_cons_succ]
  refine wp_region_held_drew (S := fun w' => Chg none_ w4 w') (by kernel_rfl) ((Chg.refl none_ w4).drew) (fun hch0 => ?_)
  generalize w4.drew = we at hch0 ⊢
  refine wpAnyH_take (i := 0) (v := .agg (u8s tg).toArray) rfl (by kernel_rfl) (by kernel_rfl) (by kernel_rfl) (by first | exact fun _ _ _ h => h | exact fun _ _ _ h => nomatch h.1) (yieldsIf_load_mid (by rfl) 33 _ rfl wd.heap.size 0 rfl (u8s tg) _ (fun w' hw' => (HR12.out.chg hw' (fun h => h)).range) Tryd.underlying33 rfl (by rw [u8s_length, HTGL.out]; exact size22)) hch0 ?_
  refine wpAnyH_take (i := 1) (v := .agg (u8s key).toArray) rfl (by kernel_rfl) (by kernel_rfl) (by kernel_rfl) (by first | exact fun _ _ _ h => h | exact fun _ _ _ h => nomatch h.1) (yieldsIf_load_mid (by rfl) 33 _ rfl w.heap.size 0 rfl (u8s key) _ (fun w' hw' => (HRK4.out.chg hw' (fun h => h)).range) Tryd.underlying33 rfl (by rw [u8s_length, HKL.out]; exact size22)) hch0 ?_
  refine wpAnyH_take (i := 2) (v := .agg (u8s nonce).toArray) rfl (by kernel_rfl) (by kernel_rfl) (by kernel_rfl) (by first | exact fun _ _ _ h => h | exact fun _ _ _ h => nomatch h.1) (yieldsIf_load_mid (by rfl) 34 _ rfl wK.heap.size 0 rfl (u8s nonce) _ (fun w' hw' => (HRN4.out.chg hw' (fun h => h)).range) Tryd.underlying34 rfl (by rw [u8s_length, HNL.out]; exact sizeN12)) hch0 ?_
  refine wpAnyH_take (i := 3) (v := .slice A more.length cap) rfl (by kernel_rfl) (by kernel_rfl) (by kernel_rfl) (by first | exact fun _ _ _ h => h | exact fun _ _ _ h => nomatch h.1) (Or.inl ⟨by rfl, fun w_ hw_ => by go_simp⟩) hch0 ?_
  refine wpAnyH_take (i := 4) (v := .slice (highA A' cap') n cap') rfl (by kernel_rfl) (by kernel_rfl) (by kernel_rfl) (by first | exact fun _ _ _ h => h | exact fun _ _ _ h => nomatch h.1) (Or.inl ⟨by rfl, fun w_ hw_ => by go_simp⟩) hch0 ?_
  try simp only [Act.put, List.setIfInBounds_toArray, List.set_cons_zero, List.set_cons_succ, List.getElem_toArray, List.getElem_cons_succ, List.getElem_cons_zero]
  refine wpAnyH_ready (rs := [5]) (by kernel_rfl) (by simp) ?_
  refine AllReadyH.cons rfl (fun K hK => ?_) AllReadyH.nil
  rw [if_pos (by rfl)]
  try simp only [List.getElem_toArray, List.getElem_cons_succ, List.getElem_cons_zero]
  go_simp
  refine (HTG.out _ (HCX.out.trans hch0)).mono ?_
  rintro e x5 ⟨rfl, hc5⟩
  have hch5 : Chg none_ w4 x5 := hch0.trans hc5
  refine hK.out _ _ (hch5) (fun _ => ?_)
  clear hK K
  try simp only [Act.put, List.setIfInBounds_toArray, List.set_cons_zero, List.set_cons_succ, List.getElem_toArray, List.getElem_cons_succ, List.getElem_cons_zero]
  refine wpAnyH_take (i := 6) (v := .bool (!(decide (tg = TG)))) rfl (by kernel_rfl) (by kernel_rfl) (by kernel_rfl) (by first | exact fun _ _ _ h => h | exact fun _ _ _ h => nomatch h.1) (yieldsIf_neq (by rfl) 33 _ _ _ rfl (u8s tg).toArray (u8s TG).toArray rfl rfl (decide (tg = TG)) (fun w => run_eqGuard_agg w .neq 33 _ _ _ _ Tryd.eqGuardType33) (fun w _ => HQ.out w)) hch5 ?_
  try simp only [Act.put, List.setIfInBounds_toArray, List.set_cons_zero, List.set_cons_succ, List.getElem_toArray, List.getElem_cons_succ, List.getElem_cons_zero]
  refine wpAnyH_done (by kernel_rfl) ?_ _
  have HCY := Lib.hid (HCX.out.trans hch5)
  have HRK5 := Lib.hid (HRK4.out.chg hch5 (fun h => h))
  have HRN5 := Lib.hid (HRN4.out.chg hch5 (fun h => h))
  clear hch5 hc5 hch0
  by_cases hq : tg = TG
  · have HRE : Hid (RR = (ST, 0)) := Lib.hid (by rw [HRR.out, if_pos hq.symm])
    have hd : (!(decide (tg = TG))) = false := by rw [decide_eq_true hq]; rfl
    rw [hd]
    clear hq hd
    go_wp2
    try simp only [Act.put, List.setIfInBounds_toArray, List.set_cons_zero, List.set_cons_succ]
    refine wp_region_held_drew (S := fun w' => Chg none_ x5 w') (by kernel_rfl) ((Chg.refl none_ x5).drew) (fun hch0 => ?_)
    generalize x5.drew = wf at hch0 ⊢
    refine wpAnyH_take (i := 0) (v := .agg (u8s key).toArray) rfl (by kernel_rfl) (by kernel_rfl) (by kernel_rfl) (by first | exact fun _ _ _ h => h | exact fun _ _ _ h => nomatch h.1) (yieldsIf_load_mid (by rfl) 33 _ rfl w.heap.size 0 rfl (u8s key) _ (fun w' hw' => (HRK5.out.chg hw' (fun h => h)).range) Tryd.underlying33 rfl (by rw [u8s_length, HKL.out]; exact size22)) hch0 ?_
    refine wpAnyH_take (i := 1) (v := .agg (u8s nonce).toArray) rfl (by kernel_rfl) (by kernel_rfl) (by kernel_rfl) (by first | exact fun _ _ _ h => h | exact fun _ _ _ h => nomatch h.1) (yieldsIf_load_mid (by rfl) 34 _ rfl wK.heap.size 0 rfl (u8s nonce) _ (fun w' hw' => (HRN5.out.chg hw' (fun h => h)).range) Tryd.underlying34 rfl (by rw [u8s_length, HNL.out]; exact sizeN12)) hch0 ?_
    refine wpAnyH_take (i := 3) (v := .slice (highA A' cap') n cap') rfl (by kernel_rfl) (by kernel_rfl) (by kernel_rfl) (by first | exact fun _ _ _ h => h | exact fun _ _ _ h => nomatch h.1) (Or.inl ⟨by rfl, fun w_ hw_ => by go_simp⟩) hch0 ?_
    try simp only [Act.put, List.setIfInBounds_toArray, List.set_cons_zero, List.set_cons_succ, List.getElem_toArray, List.getElem_cons_succ, List.getElem_cons_zero]
    refine wpAnyH_ready (rs := [2]) (by kernel_rfl) (by simp) ?_
    refine AllReadyH.cons rfl (fun K hK => ?_) AllReadyH.nil
    rw [if_pos (by rfl)]
    try simp only [List.getElem_toArray, List.getElem_cons_succ, List.getElem_cons_zero]
    go_simp
    refine (HNM.out _).mono ?_
    rintro e z2 ⟨rfl, hc2⟩
    have hch2 : Chg none_ x5 z2 := hch0.trans hc2
    refine hK.out _ _ (hch2) (fun _ => ?_)
    clear hK K
    try simp only [Act.put, List.setIfInBounds_toArray, List.set_cons_zero, List.set_cons_succ, List.getElem_toArray, List.getElem_cons_succ, List.getElem_cons_zero]
    refine wpAnyH_ready (rs := [4]) (by kernel_rfl) (by simp) ?_
    refine AllReadyH.cons rfl (fun K hK => ?_) AllReadyH.nil
    rw [if_pos (by rfl)]
    try simp only [List.getElem_toArray, List.getElem_cons_succ, List.getElem_cons_zero]
    go_simp
    refine (HST.out _ (HCY.out.trans hch2)).mono ?_
    rintro e z4 ⟨g, rfl, hge, hr4, hc4⟩
    have hch4 : Chg none_ x5 z4 := hch2.trans hc4
    refine hK.out _ _ (hch4) (fun _ => ?_)
    clear hK K
    try simp only [Act.put, List.setIfInBounds_toArray, List.set_cons_zero, List.set_cons_succ, List.getElem_toArray, List.getElem_cons_succ, List.getElem_cons_zero]
    refine wpAnyH_take (i := 5) (v := .slice (some ⟨g, 0, none⟩) n n) rfl (by kernel_rfl) (by kernel_rfl) (by kernel_rfl) (by first | exact fun _ _ _ h => h | exact fun _ _ _ h => nomatch h.1) (Or.inl ⟨by rfl, fun w_ hw_ => by go_simp⟩) hch4 ?_
    refine wpAnyH_take (i := 6) (v := .int .i64 0) rfl (by kernel_rfl) (by kernel_rfl) (by kernel_rfl) (by first | exact fun _ _ _ h => h | exact fun _ _ _ h => nomatch h.1) (Or.inl ⟨by rfl, fun w_ hw_ => by go_simp⟩) hch4 ?_
    try simp only [Act.put, List.setIfInBounds_toArray, List.set_cons_zero, List.set_cons_succ, List.getElem_toArray, List.getElem_cons_succ, List.getElem_cons_zero]
    refine wpAnyH_done (by kernel_rfl) ?_ _
    go_wp2
    go_ret2
    have hO : Owned z4 w.heap.size (.slice (some ⟨g, 0, none⟩) n n) ST := Owned.row hr4 (by have := (HCY.out.trans hch2).size; omega) HSL.out HNM1.out
    rw [HRE.out]
    exact ⟨_, rfl, hO, HCY.out.trans hch4⟩
  · have HRE : Hid (RR = ([], 7)) := Lib.hid (by rw [HRR.out, if_neg (fun e => hq e.symm)])
    have hd : (!(decide (tg = TG))) = true := by rw [decide_eq_false hq]; rfl
    rw [hd]
    clear hq hd
    go_wp2
    go_ret2
    rw [HRE.out]
    exact ⟨_, rfl, Owned.nil _ _, HCY.out⟩
theorem Open_any (key nonce more b : List Nat) (T T' : Nat → Prop) (A A' : Option Addr) (cap cap' : Nat) (w : World) (hk : key.length = 16) (hkb : ∀ x ∈ key, x < 256) (hn : nonce.length = 12) (hnb : ∀ x ∈ nonce, x < 256) (hm : View w T A more.length (u8s more)) (hmc : more.length ≤ cap) (hml : more.length ≤ 100000) (hmb : ∀ x ∈ more, x < 256) (ht : View w T' A' b.length (u8s b)) (htc : b.length ≤ cap') (htl : b.length ≤ 100000) (htb : ∀ x ∈ b, x < 256) : Calls Tryd.prog 24 #[.agg (u8s key).toArray, .agg (u8s nonce).toArray, .slice A more.length cap, .slice A' b.length cap'] w fun e w' => ∃ v, e = .returned (.tuple #[v, .int .i64 (openG key nonce more b).2]) ∧ Owned w' w.heap.size v (openG key nonce more b).1 ∧ Chg none_ w w' := by
  rcases Nat.lt_or_ge b.length 16 with hs | hs
  · exact Open_short key nonce more b A A' cap cap' w hs
  · exact Open_long key nonce more b T T' A A' cap cap' w hk hkb hn hnb hm hmc hml hmb ht htc htl htb hs
end Go.Proofs.YtfpflhcabjcamaaDoor
