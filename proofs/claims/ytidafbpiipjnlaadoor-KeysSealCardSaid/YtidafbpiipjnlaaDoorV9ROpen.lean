/- Layer 9 (gcm): what sealed bytes open to, the document's. -/
import Derived.Test.YtidafbpiipjnlaaDoorV9RSeal
import Derived.Test.YtidafbpiipjnlaaDoorK0

namespace Go.Proofs.YtidafbpiipjnlaaDoor
open Go.RowKit

/-- What opens, by what it would be sealed to. -/
theorem open_by_seal (key nonce more b : List Nat) (h : 16 ≤ b.length) : openG key nonce more b = if sealG key nonce more (streamN key (jN nonce 2) (b.take (b.length - 16))) = b then (streamN key (jN nonce 2) (b.take (b.length - 16)), 0) else ([], 7) := by
  have e : (sealG key nonce more (streamN key (jN nonce 2) (b.take (b.length - 16))) = b) ↔ (tagG key nonce more (b.take (b.length - 16)) = b.drop (b.length - 16)) := by
    unfold sealG
    rw [stream_back]
    constructor
    · intro h1
      have h2 : b.take (b.length - 16) ++ tagG key nonce more (b.take (b.length - 16)) = b.take (b.length - 16) ++ b.drop (b.length - 16) := by rw [h1, List.take_append_drop]
      exact List.append_cancel_left h2
    · intro h1
      rw [h1, List.take_append_drop]
  unfold openG
  rw [if_neg (by omega)]
  by_cases hh : tagG key nonce more (b.take (b.length - 16)) = b.drop (b.length - 16)
  · rw [if_pos hh, if_pos (e.2 hh)]
  · rw [if_neg hh, if_neg (fun x => hh (e.1 x))]

set_option maxRecDepth 100000 in
set_option maxHeartbeats 1000000 in
theorem ropen_short (key nonce more b : List Nat) (A A' : Option Addr) (cap cap' : Nat) (w : World) (hs : b.length < 16) : Calls Tryd.prog 37 #[.agg (u8s key).toArray, .agg (u8s nonce).toArray, .slice A more.length cap, .slice A' b.length cap'] w fun e w' => ∃ v, e = .returned (.tuple #[v, .int .i64 (openG key nonce more b).2]) ∧ Owned w' w.heap.size v (openG key nonce more b).1 ∧ Chg none_ w w' := by
  have e0 : openG key nonce more b = ([], 2) := short_open key nonce more b hs
  rw [e0]
  have hs2 : (b.length : Int) < 16 := by omega
  go_enter Tryd.func37, Tryd.ntmps37
  go_wp2_with (first | ((with_reducible show wpList _ _ _ (⟨some 4, .box 26 _, _, _, _, _⟩ :: _) _ _); refine wpList_box_Row rfl rfl (u8s key) rfl ?_; intro w1 hr1 hc1 hs1; have HRK1 := Lib.hid hr1; have HC1 := Lib.hid hc1; have HG1 := Lib.hid (show w.heap.size < w1.heap.size from hr1.lt); clear hr1 hc1 hs1) | ((with_reducible show wpList _ _ _ (⟨some 5, .box 27 _, _, _, _, _⟩ :: _) _ _); refine wpList_box_Row rfl rfl (u8s nonce) rfl ?_; intro w2 hr2 hc2 hs2; have HRN2 := Lib.hid hr2; have HC2 := Lib.hid (HC1.out.trans hc2); have HRK2 := Lib.hid (HRK1.out.chg hc2 (fun h => h)); have HG2 := Lib.hid (show w1.heap.size < w2.heap.size from hr2.lt); clear hr2 hc2 hs2))
  go_ret2
  exact ⟨_, rfl, Owned.nil _ _, HC2.out⟩

set_option maxRecDepth 100000 in
set_option maxHeartbeats 4000000 in
theorem ropen_long (key nonce more b : List Nat) (T T' : Nat → Prop) (A A' : Option Addr) (cap cap' : Nat) (w : World) (hk : key.length = 16) (hkb : ∀ x ∈ key, x < 256) (hn : nonce.length = 12) (hnb : ∀ x ∈ nonce, x < 256) (hm : View w T A more.length (u8s more)) (hml : more.length ≤ 10000) (hmb : ∀ x ∈ more, x < 256) (ht : View w T' A' b.length (u8s b)) (htc : b.length ≤ cap') (htl : b.length ≤ 10000) (htb : ∀ x ∈ b, x < 256) (hs : 16 ≤ b.length) : Calls Tryd.prog 37 #[.agg (u8s key).toArray, .agg (u8s nonce).toArray, .slice A more.length cap, .slice A' b.length cap'] w fun e w' => ∃ v, e = .returned (.tuple #[v, .int .i64 (openG key nonce more b).2]) ∧ Owned w' w.heap.size v (openG key nonce more b).1 ∧ Chg none_ w w' := by
  obtain ⟨n, hn16⟩ : ∃ n, n = b.length - 16 := ⟨_, rfl⟩
  have e0 := open_by_seal key nonce more b hs
  rw [← hn16] at e0
  rw [e0]
  have HKL := Lib.hid hk
  have HNL := Lib.hid hn
  have HJ0 := Lib.hid (nonce_part hn)
  have HJ2 := Lib.hid (nonce_set2 hn)
  have HJL0 : Hid ((nonce ++ [0, 0, 0, 0]).length = 16) := Lib.hid (by simp [hn])
  have HJL2 := Lib.hid (jN_len nonce 2 hn)
  have hj2 := jN_lt' (k := 2) hnb (by decide)
  obtain ⟨Z, hZ⟩ : ∃ Z, Z = List.replicate 16 0 := ⟨_, rfl⟩
  have HZR : Hid (∀ w g, Row w g 26 (u8s (List.replicate 16 0)) → Row w g 26 (u8s Z)) := Lib.hid (fun w g h => by rw [hZ]; exact h)
  have HZL : Hid (Z.length = 16) := Lib.hid (by rw [hZ]; exact List.length_replicate)
  rw [← hZ] at HJ0
  have htn : (b.take n).length = n := by rw [List.length_take]; omega
  have htnb : ∀ x ∈ b.take n, x < 256 := fun x hx => htb x (List.mem_of_mem_take hx)
  have hSB : ∀ x ∈ streamN key (jN nonce 2) (b.take n), x < 256 := streamN_lt hkb hj2 htnb
  have hSL : (streamN key (jN nonce 2) (b.take n)).length = n := by rw [streamN_len, htn]
  have HST : Hid (∀ w', Chg none_ w w' → Calls Tryd.prog 51 #[.agg (u8s key).toArray, .agg (u8s (jN nonce 2)).toArray, .slice (highA A' cap') n cap'] w' fun e w'' => ∃ A6 c6, e = .returned (.slice A6 n c6) ∧ Owned w'' w'.heap.size (.slice A6 n c6) (streamN key (jN nonce 2) (b.take n)) ∧ Chg none_ w' w'') := Lib.hid (fun w' hc => by
    have := rstream_own key (jN nonce 2) T' (highA A' cap') cap' (b.take n) w' hk hkb HJL2.out hj2 (by rw [htn]; exact (ht.chg hc (fun _ _ h => h)).upto cap' (by omega)) (by omega) htnb
    rw [htn] at this
    refine this.mono ?_
    rintro e w'' ⟨v, rfl, ho, hc2⟩
    obtain ⟨A6, c6, rfl, _, _⟩ := ho.viewLt9
    rw [hSL] at ho ⊢
    exact ⟨A6, c6, rfl, ho, hc2⟩)
  generalize streamN key (jN nonce 2) (b.take n) = ST at hSB hSL HST
  obtain ⟨L, hL⟩ : ∃ L, L = (sealG key nonce more ST).length := ⟨_, rfl⟩
  have hLn : L ≤ 20000 := by rw [hL, sealG_len, hSL]; omega
  have HSEAL : Hid (∀ w' base A6 c6, Chg none_ w w' → Owned w' base (.slice A6 n c6) ST → Calls Tryd.prog 40 #[.agg (u8s key).toArray, .agg (u8s nonce).toArray, .slice A more.length cap, .slice A6 n c6] w' fun e w'' => ∃ A7 c7, e = .returned (.slice A7 L c7) ∧ View w'' (fun b => b < w''.heap.size) A7 L (u8s (sealG key nonce more ST)) ∧ Chg none_ w' w'') := Lib.hid (fun w' base A6 c6 hc ho => by
    have := rseal_any key nonce more ST T _ A A6 cap c6 w' hk hkb hn hnb (hm.chg hc (fun _ _ h => h)) hml hmb ho.slice.2.2 (by omega) hSB
    rw [hSL] at this
    refine this.mono ?_
    rintro e w'' ⟨v, rfl, ho2, hc2⟩
    obtain ⟨A7, c7, rfl, _, hv⟩ := ho2.viewLt9
    rw [← hL] at hv ⊢
    exact ⟨A7, c7, rfl, hv, hc2⟩)
  have HSAME : Hid (∀ w' A7 c7, Chg none_ w w' → View w' (fun b => b < w'.heap.size) A7 L (u8s (sealG key nonce more ST)) → Calls Tryd.prog 18 #[.slice A7 L c7, .slice A' b.length cap'] w' fun e w'' => e = .returned (.bool (decide (sealG key nonce more ST = b))) ∧ ∃ k, w'' = w'.drewN k) := Lib.hid (fun w' A7 c7 hc hv => by
    have := same_any w' _ T' A7 A' c7 cap' (sealG key nonce more ST) b (by rw [← hL]; exact hv) (ht.chg hc (fun _ _ h => h)) (by omega)
    rw [← hL] at this
    exact this)
  obtain ⟨RR, hRR⟩ : ∃ RR : List Nat × Int, RR = if sealG key nonce more ST = b then (ST, 0) else ([], 7) := ⟨_, rfl⟩
  rw [← hRR]
  have HRR := Lib.hid hRR
  obtain ⟨SG, hSG⟩ : ∃ SG, SG = sealG key nonce more ST := ⟨_, rfl⟩
  rw [← hSG] at HSEAL HSAME HRR
  have hnn : (b.length : Int) - 16 = (n : Int) := by omega
  have hs2 : ¬ (b.length : Int) < 16 := by omega
  have QN : Hid (IntKind.i64.wrap (n : Int) = (n : Int)) := Lib.hid (IntWalk.i64_in _ (by omega))
  have HNC : Hid (n ≤ cap') := Lib.hid (by omega)
  have hbl : b.length ≤ 10000 := htl
  clear hk hkb hn hnb hm hml hmb ht htc htl htb hZ e0 hSB htn htnb hj2 hRR hSG hL hLn hs hn16
  go_enter Tryd.func37, Tryd.ntmps37
  go_wp2_with (first | ((with_reducible show wpList _ _ _ (⟨some 4, .box 26 _, _, _, _, _⟩ :: _) _ _); refine wpList_box_Row rfl rfl (u8s key) rfl ?_; intro w1 hr1 hc1 hs1; have HRK1 := Lib.hid hr1; have HC1 := Lib.hid hc1; have HG1 := Lib.hid (show w.heap.size < w1.heap.size from hr1.lt); clear hr1 hc1 hs1) | ((with_reducible show wpList _ _ _ (⟨some 5, .box 27 _, _, _, _, _⟩ :: _) _ _); refine wpList_box_Row rfl rfl (u8s nonce) rfl ?_; intro w2 hr2 hc2 hs2; have HRN2 := Lib.hid hr2; have HC2 := Lib.hid (HC1.out.trans hc2); have HRK2 := Lib.hid (HRK1.out.chg hc2 (fun h => h)); have HG2 := Lib.hid (show w1.heap.size < w2.heap.size from hr2.lt); clear hr2 hc2 hs2) | ((with_reducible show wpList _ _ _ (⟨some 10, .alloc 26, _, _, _, _⟩ :: _) _ _); refine wpList_alloc_Row rfl rfl (u8s (List.replicate 16 0)) zero22 ?_; intro w3 hr3 hc3 hs3; have HRJ3 := Lib.hid (HZR.out _ _ hr3); have HC3 := Lib.hid (HC2.out.trans hc3); have HRK3 := Lib.hid (HRK2.out.chg hc3 (fun h => h)); have HRN3 := Lib.hid (HRN2.out.chg hc3 (fun h => h)); have HG3 := Lib.hid (show w2.heap.size < w3.heap.size from hr3.lt); clear hr3 hc3 hs3))
  try simp only [Act.put, List.setIfInBounds_toArray, List.set_cons_zero, List.set_cons_succ]
  have HG := Lib.hid (show w.heap.size < w1.heap.size ∧ w1.heap.size < w2.heap.size ∧ w2.heap.size < w3.heap.size from ⟨HG1.out, HG2.out, HG3.out⟩)
  clear HG1 HG2 HG3 HC1 HC2 HRK1 HRK2 HRN2
  go_loopw [11] (fun iv wr => ∃ k : Nat, k ≤ 12 ∧ iv = .int .i64 k ∧ Row wr w2.heap.size 26 (u8s (partF (fun i => nonce.getD i 0) Z 16 k)) ∧ Chg (· = w2.heap.size) w3 wr) (fun iv _ => 12 - (intOf iv).toNat)
  case atStart => exact ⟨0, Nat.zero_le _, rfl, by rw [partF_0 _ _ _ HZL.out]; exact HRJ3.out, Chg.refl _ _⟩
  case round =>
    obtain ⟨k, hk, rfl, hrow, hch⟩ := hrel
    have HC := Lib.hid hch
    by_cases hlt : k < 12
    · have c1 := Row.u8 (HRN3.out.chg hch (fun e => by have := HG.out; omega)) (i := k) (by rw [HNL.out]; exact hlt)
      have c0 := Row.u8 hrow (i := k) (by rw [partF_len]; omega)
      have hf := hrow.frozen k
      have HSET := Lib.hid (hrow.set k (.int .u8 ((nonce.getD k 0 : Nat) : Int)))
      have HPS := Lib.hid (partF_set (fun i => nonce.getD i 0) Z 16 k)
      generalize (partF (fun i => nonce.getD i 0) Z 16 k).getD k 0 = z at c0
      generalize nonce.getD k 0 = x at c1 HSET HPS
      have q1 : (0 : Int) ≤ (k : Int) := by omega
      have q2 : (k : Int) < 16 := by omega
      have q3 : (k : Int) < 12 := by omega
      have HLK := Lib.hid hlt
      clear hrow hch hk hlt
      go_wp2
      go_roundw
      case rel => exact ⟨k + 1, by have := HLK.out; omega, by go_num, by rw [← HPS.out, ← u8s_set]; exact HSET.out, HC.out.setCell (fun _ => rfl) _⟩
      case measure => have := HLK.out; simp [intOf]; omega
    · have hk6 : k = 12 := by omega
      subst hk6
      rw [HJ0.out] at hrow
      obtain ⟨wL, hwL⟩ : ∃ x, x = wr := ⟨_, rfl⟩
      rw [← hwL] at hrow hch HC
      have HRJL := Lib.hid hrow
      have HRKL := Lib.hid (HRK3.out.chg hch (fun e => by have := HG.out; omega))
      have HRNL := Lib.hid (HRN3.out.chg hch (fun e => by have := HG.out; omega))
      have c0 := Row.u8 hrow (i := 15) (by rw [HJL0.out]; decide)
      have hf := hrow.frozen 15
      have HCW : Hid (∀ w', Chg (· = w2.heap.size) wL w' → Chg none_ w w') := Lib.hid (fun w' hc => HC3.out.andThen (HC.out.trans hc) (fun b hb e => by have := HG.out; omega))
      have q0 : ¬ (((12 : Nat) : Int) < 12) := by decide
      have HG' : Hid (w3.heap.size ≤ wL.heap.size) := Lib.hid hch.size
      rw [← hwL]
      clear hrow hch hk hlt hwL HC
      go_wp2
      try simp only [Act.put, List.setIfInBounds_toArray, List.set_cons_zero, List.set_cons_succ]
      obtain ⟨w5, hx5⟩ : ∃ x, x = wL.setCell ⟨w2.heap.size, 15, none⟩ (.int .u8 2) := ⟨_, rfl⟩
      rw [← hx5]
      have HRJ5 := Lib.hid (show Row w5 w2.heap.size 26 (u8s (jN nonce 2)) by rw [hx5]; exact row_set15_2 HRJL.out HJ2.out)
      have hc5 := (show Chg (· = w2.heap.size) wL w5 by rw [hx5]; exact chg_set_at _ _ _ _)
      have HC5 := Lib.hid (HCW.out _ hc5)
      have HRK5 := Lib.hid (HRKL.out.chg hc5 (fun e => by have := HG.out; omega))
      have HRN5 := Lib.hid (HRNL.out.chg hc5 (fun e => by have := HG.out; omega))
      clear hx5 hc5 c0 hf HRJL HRKL HRNL HCW
      refine wp_region_held_drew (S := fun w' => Chg none_ w5 w') (by kernel_rfl) ((Chg.refl none_ w5).drew) (fun hch0 => ?_)
      generalize w5.drew = wd at hch0 ⊢
      refine wpAnyH_take (i := 0) (v := .agg (u8s (key)).toArray) rfl (by kernel_rfl) (by kernel_rfl) (by kernel_rfl) (by first | exact fun _ _ _ h => h | exact fun _ _ _ h => nomatch h.1) (yieldsIf_load_mid (by rfl) 26 _ rfl w.heap.size 0 rfl (u8s (key)) _ (fun w' hw' => (HRK5.out.chg hw' (fun h => h)).range) Tryd.underlying26 rfl (by rw [u8s_length, HKL.out]; exact size22)) hch0 ?_
      refine wpAnyH_take (i := 1) (v := .agg (u8s (jN nonce 2)).toArray) rfl (by kernel_rfl) (by kernel_rfl) (by kernel_rfl) (by first | exact fun _ _ _ h => h | exact fun _ _ _ h => nomatch h.1) (yieldsIf_load_mid (by rfl) 26 _ rfl w2.heap.size 0 rfl (u8s (jN nonce 2)) _ (fun w' hw' => (HRJ5.out.chg hw' (fun h => h)).range) Tryd.underlying26 rfl (by rw [u8s_length, HJL2.out]; exact size22)) hch0 ?_
      refine wpAnyH_take (i := 2) (v := .slice A' b.length cap') rfl (by kernel_rfl) (by kernel_rfl) (by kernel_rfl) (by first | exact fun _ _ _ h => h | exact fun _ _ _ h => nomatch h.1) (Or.inl ⟨by rfl, fun w_ hw_ => by go_simp⟩) hch0 ?_
      refine wpAnyH_take (i := 3) (v := .slice A' b.length cap') rfl (by kernel_rfl) (by kernel_rfl) (by kernel_rfl) (by first | exact fun _ _ _ h => h | exact fun _ _ _ h => nomatch h.1) (Or.inl ⟨by rfl, fun w_ hw_ => by go_simp⟩) hch0 ?_
      try simp only [Act.put, List.setIfInBounds_toArray, List.set_cons_zero, List.set_cons_succ, List.getElem_toArray, List.getElem_cons_succ, List.getElem_cons_zero]
      refine wpAnyH_take (i := 4) (v := .int .i64 (b.length : Int)) rfl (by kernel_rfl) (by kernel_rfl) (by kernel_rfl) (by first | exact fun _ _ _ h => h | exact fun _ _ _ h => nomatch h.1) (Or.inl ⟨by rfl, fun w_ hw_ => by go_simp⟩) hch0 ?_
      refine wpAnyH_take (i := 5) (v := .int .i64 (n : Int)) rfl (by kernel_rfl) (by kernel_rfl) (by kernel_rfl) (by first | exact fun _ _ _ h => h | exact fun _ _ _ h => nomatch h.1) (Or.inl ⟨by rfl, fun w_ hw_ => by go_simp; exact QN.out⟩) hch0 ?_
      try simp only [Act.put, List.setIfInBounds_toArray, List.set_cons_zero, List.set_cons_succ, List.getElem_toArray, List.getElem_cons_succ, List.getElem_cons_zero]
      refine wpAnyH_take (i := 6) (v := .slice (highA A' cap') n cap') rfl (by kernel_rfl) (by kernel_rfl) (by kernel_rfl) (by first | exact fun _ _ _ h => h | exact fun _ _ _ h => nomatch h.1) (yieldsIf_slice_high (by rfl) 24 5 _ _ rfl A' b.length cap' n rfl rfl Tryd.underlying24 size5 HNC.out) hch0 ?_
      try simp only [Act.put, List.setIfInBounds_toArray, List.set_cons_zero, List.set_cons_succ, List.getElem_toArray, List.getElem_cons_succ, List.getElem_cons_zero]
      refine wpAnyH_ready (rs := [7]) (by kernel_rfl) (by simp) ?_
      refine AllReadyH.cons rfl (fun K hK => ?_) AllReadyH.nil
      rw [if_pos (by rfl)]
      try simp only [List.getElem_toArray, List.getElem_cons_succ, List.getElem_cons_zero]
      go_simp
      refine (HST.out _ (HC5.out.trans hch0)).mono ?_
      rintro e x6 ⟨A6, c6, rfl, ho6, hc6⟩
      have hch6 : Chg none_ w5 x6 := hch0.trans hc6
      refine hK.out _ _ (hch6) (fun _ => ?_)
      clear hK K
      try simp only [Act.put, List.setIfInBounds_toArray, List.set_cons_zero, List.set_cons_succ, List.getElem_toArray, List.getElem_cons_succ, List.getElem_cons_zero]
      refine wpAnyH_take (i := 8) (v := .slice A6 n c6) rfl (by kernel_rfl) (by kernel_rfl) (by kernel_rfl) (by first | exact fun _ _ _ h => h | exact fun _ _ _ h => nomatch h.1) (Or.inl ⟨by rfl, fun w_ hw_ => by go_simp⟩) hch6 ?_
      try simp only [Act.put, List.setIfInBounds_toArray, List.set_cons_zero, List.set_cons_succ, List.getElem_toArray, List.getElem_cons_succ, List.getElem_cons_zero]
      refine wpAnyH_done (by kernel_rfl) ?_ _
      have HC6 := Lib.hid (HC5.out.trans hch6)
      have HRK6 := Lib.hid (HRK5.out.chg hch6 (fun h => h))
      have HRN6 := Lib.hid (HRN5.out.chg hch6 (fun h => h))
      obtain ⟨base, hbase⟩ : ∃ b, b = wd.heap.size := ⟨_, rfl⟩
      rw [← hbase] at ho6
      have HO6 := Lib.hid ho6
      have HB : Hid (w.heap.size ≤ base) := Lib.hid (by rw [hbase]; have := (HC5.out.trans hch0).size; omega)
      clear hch6 ho6 hbase hc6 hch0 HRK5 HRN5 HRJ5
      by_cases heq : SG = b
      · have hd : decide (SG = b) = true := decide_eq_true heq
        have HR0 : Hid (RR = (ST, 0)) := Lib.hid (by rw [HRR.out, if_pos heq])
        clear heq
        go_wp2_with (first | ((with_reducible show wpList _ _ _ (⟨some 34, .load 26 _, _, _, _, _⟩ :: _) _ _); refine wpList_load_Row rfl rfl rfl (HRK6.out) Tryd.underlying26 rfl (by rw [u8s_length, HKL.out]; exact size22) ?_) | ((with_reducible show wpList _ _ _ (⟨some 35, .load 27 _, _, _, _, _⟩ :: _) _ _); refine wpList_load_Row rfl rfl rfl (HRN6.out) Tryd.underlying27 rfl (by rw [u8s_length, HNL.out]; exact sizeN12) ?_) | (go_at_call 40; with_reducible refine (HSEAL.out _ _ _ _ HC6.out HO6.out).mono ?_; rintro e w7 ⟨A7, c7, rfl, hv7, hc7⟩; have HC7 := Lib.hid (HC6.out.trans hc7); have HV7 := Lib.hid hv7; have HO7 := Lib.hid (HO6.out.chg hc7 (fun _ _ h => h)); clear hv7 hc7) | (go_at_call 18; with_reducible refine (HSAME.out _ _ _ HC7.out HV7.out).mono ?_; rintro e w8 ⟨rfl, nk, rfl⟩; have HC8 := Lib.hid (HC7.out.drewN nk); have HO8 : Hid (Owned (w7.drewN nk) base (.slice A6 n c6) ST) := Lib.hid (HO7.out.chg (S := none_) ((Chg.refl none_ w7).drewN nk) (fun _ _ h => h))))
        go_ret2
        rw [HR0.out]
        exact ⟨_, rfl, HO8.out.low HB.out, HC8.out⟩
      · have hd : decide (SG = b) = false := decide_eq_false heq
        have HR0 : Hid (RR = ([], 7)) := Lib.hid (by rw [HRR.out, if_neg heq])
        clear heq
        go_wp2_with (first | ((with_reducible show wpList _ _ _ (⟨some 34, .load 26 _, _, _, _, _⟩ :: _) _ _); refine wpList_load_Row rfl rfl rfl (HRK6.out) Tryd.underlying26 rfl (by rw [u8s_length, HKL.out]; exact size22) ?_) | ((with_reducible show wpList _ _ _ (⟨some 35, .load 27 _, _, _, _, _⟩ :: _) _ _); refine wpList_load_Row rfl rfl rfl (HRN6.out) Tryd.underlying27 rfl (by rw [u8s_length, HNL.out]; exact sizeN12) ?_) | (go_at_call 40; with_reducible refine (HSEAL.out _ _ _ _ HC6.out HO6.out).mono ?_; rintro e w7 ⟨A7, c7, rfl, hv7, hc7⟩; have HC7 := Lib.hid (HC6.out.trans hc7); have HV7 := Lib.hid hv7; have HO7 := Lib.hid (HO6.out.chg hc7 (fun _ _ h => h)); clear hv7 hc7) | (go_at_call 18; with_reducible refine (HSAME.out _ _ _ HC7.out HV7.out).mono ?_; rintro e w8 ⟨rfl, nk, rfl⟩; have HC8 := Lib.hid (HC7.out.drewN nk); have HO8 : Hid (Owned (w7.drewN nk) base (.slice A6 n c6) ST) := Lib.hid (HO7.out.chg (S := none_) ((Chg.refl none_ w7).drewN nk) (fun _ _ h => h))))
        go_ret2
        rw [HR0.out]
        exact ⟨_, rfl, Owned.nil _ _, HC8.out⟩

theorem ropen_any (key nonce more b : List Nat) (T T' : Nat → Prop) (A A' : Option Addr) (cap cap' : Nat) (w : World) (hk : key.length = 16) (hkb : ∀ x ∈ key, x < 256) (hn : nonce.length = 12) (hnb : ∀ x ∈ nonce, x < 256) (hm : View w T A more.length (u8s more)) (hml : more.length ≤ 10000) (hmb : ∀ x ∈ more, x < 256) (ht : View w T' A' b.length (u8s b)) (htc : b.length ≤ cap') (htl : b.length ≤ 10000) (htb : ∀ x ∈ b, x < 256) : Calls Tryd.prog 37 #[.agg (u8s key).toArray, .agg (u8s nonce).toArray, .slice A more.length cap, .slice A' b.length cap'] w fun e w' => ∃ v, e = .returned (.tuple #[v, .int .i64 (openG key nonce more b).2]) ∧ Owned w' w.heap.size v (openG key nonce more b).1 ∧ Chg none_ w w' := by
  rcases Nat.lt_or_ge b.length 16 with h | h
  · exact ropen_short key nonce more b A A' cap cap' w h
  · exact ropen_long key nonce more b T T' A A' cap cap' w hk hkb hn hnb hm hml hmb ht htc htl htb h
end Go.Proofs.YtidafbpiipjnlaaDoor
