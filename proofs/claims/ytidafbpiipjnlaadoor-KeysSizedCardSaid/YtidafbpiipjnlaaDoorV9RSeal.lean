/- Layer 9 (gcm): a text sealed, the document's. -/
import Derived.Test.YtidafbpiipjnlaaDoorV9RSum
import Derived.Test.YtidafbpiipjnlaaDoorV8RStream
import Derived.Test.YtidafbpiipjnlaaDoorV9Plain
import Derived.Test.YtidafbpiipjnlaaDoorV9Tag
namespace Go.Proofs.YtidafbpiipjnlaaDoor
open Go.RowKit

theorem wpList_name {P : Program} {ops : Array Oper} {Q : Exit → Act → World → Prop} {l : List Oper} {a : Act} {w : World} (k : ∀ x, x = w → wpList P ops Q l a x) : wpList P ops Q l a w := k w rfl
theorem Owned.viewLt9 {w : World} {base : Nat} {v : Value} {l : List Nat} (h : Owned w base v l) : ∃ A cap, v = .slice A l.length cap ∧ l.length ≤ cap ∧ View w (fun b => b < w.heap.size) A l.length (u8s l) := by
  obtain ⟨A, cap, e, h1, _, h3⟩ := h.view
  exact ⟨A, cap, e, h1, h3.mono (fun b hb _ => hb)⟩
theorem nonce_part {nonce : List Nat} (h : nonce.length = 12) : partF (fun i => nonce.getD i 0) (List.replicate 16 0) 16 12 = nonce ++ [0, 0, 0, 0] := by
  match nonce, h with
  | [a0, a1, a2, a3, a4, a5, a6, a7, a8, a9, a10, a11], _ => rfl
theorem nonce_set2 {nonce : List Nat} (h : nonce.length = 12) : (nonce ++ [0, 0, 0, 0]).set 15 2 = jN nonce 2 := by
  match nonce, h with
  | [a0, a1, a2, a3, a4, a5, a6, a7, a8, a9, a10, a11], _ => rfl
theorem nonce_set1 {nonce : List Nat} (h : nonce.length = 12) : (jN nonce 2).set 15 1 = jN nonce 1 := by
  match nonce, h with
  | [a0, a1, a2, a3, a4, a5, a6, a7, a8, a9, a10, a11], _ => rfl

theorem chg_set_at (w : World) (g i : Nat) (v : Value) : Chg (· = g) w (w.setCell ⟨g, i, none⟩ v) := (Chg.refl (· = g) w).setCell (fun _ => rfl) v
theorem row_set15_2 {w : World} {g : Nat} {ty : TypeId} {l l' : List Nat} (h : Row w g ty (u8s l)) (he : l.set 15 2 = l') : Row (w.setCell ⟨g, 15, none⟩ (.int .u8 2)) g ty (u8s l') := by
  rw [← he, ← u8s_set]
  exact h.set 15 _
theorem row_set15_1 {w : World} {g : Nat} {ty : TypeId} {l l' : List Nat} (h : Row w g ty (u8s l)) (he : l.set 15 1 = l') : Row (w.setCell ⟨g, 15, none⟩ (.int .u8 1)) g ty (u8s l') := by
  rw [← he, ← u8s_set]
  exact h.set 15 _

set_option maxRecDepth 100000 in
set_option maxHeartbeats 4000000 in
theorem rseal_any (key nonce more text : List Nat) (T T' : Nat → Prop) (A A' : Option Addr) (cap cap' : Nat) (w : World) (hk : key.length = 16) (hkb : ∀ x ∈ key, x < 256) (hn : nonce.length = 12) (hnb : ∀ x ∈ nonce, x < 256) (hm : View w T A more.length (u8s more)) (hml : more.length ≤ 10000) (hmb : ∀ x ∈ more, x < 256) (ht : View w T' A' text.length (u8s text)) (htl : text.length ≤ 10000) (htb : ∀ x ∈ text, x < 256) :
    Calls Tryd.prog 40 #[.agg (u8s key).toArray, .agg (u8s nonce).toArray, .slice A more.length cap, .slice A' text.length cap'] w fun e w' => ∃ v, e = .returned v ∧ Owned w' w.heap.size v (sealG key nonce more text) ∧ Chg none_ w w' := by
  have HKL := Lib.hid hk
  have HNL := Lib.hid hn
  have HTL := Lib.hid htl
  have HJ0 := Lib.hid (nonce_part hn)
  have HJ2 := Lib.hid (nonce_set2 hn)
  have HJ1 := Lib.hid (nonce_set1 hn)
  have HJL0 : Hid ((nonce ++ [0, 0, 0, 0]).length = 16) := Lib.hid (by simp [hn])
  have HJL2 := Lib.hid (jN_len nonce 2 hn)
  have HJL1 := Lib.hid (jN_len nonce 1 hn)
  have hj2 := jN_lt' (k := 2) hnb (by decide)
  have hj1 := jN_lt' (k := 1) hnb (by decide)
  have HNB := Lib.hid (fun i => getD_lt hnb i (by decide : 0 < 256))
  obtain ⟨Z, hZ⟩ : ∃ Z, Z = List.replicate 16 0 := ⟨_, rfl⟩
  have HZR : Hid (∀ w g, Row w g 26 (u8s (List.replicate 16 0)) → Row w g 26 (u8s Z)) := Lib.hid (fun w g h => by rw [hZ]; exact h)
  have HZL : Hid (Z.length = 16) := Lib.hid (by rw [hZ]; exact List.length_replicate)
  have hzb : ∀ x ∈ Z, x < 256 := by rw [hZ]; intro x hx; rw [List.eq_of_mem_replicate hx]; decide
  rw [← hZ] at HJ0
  have e0 : sealG key nonce more text = streamN key (jN nonce 2) text ++ xorB (sumG (cipherN key Z) more (streamN key (jN nonce 2) text)) (cipherN key (jN nonce 1)) := by rw [hZ]; rfl
  rw [e0]
  have hSB : ∀ x ∈ streamN key (jN nonce 2) text, x < 256 := streamN_lt hkb hj2 htb
  have hSL : (streamN key (jN nonce 2) text).length = text.length := streamN_len _ _ _
  have HST : Hid (∀ w', Chg none_ w w' → Calls Tryd.prog 51 #[.agg (u8s key).toArray, .agg (u8s (jN nonce 2)).toArray, .slice A' text.length cap'] w' fun e w'' => ∃ A6 c6, e = .returned (.slice A6 text.length c6) ∧ Owned w'' w'.heap.size (.slice A6 text.length c6) (streamN key (jN nonce 2) text) ∧ Chg none_ w' w'') := Lib.hid (fun w' hc => by
    refine (rstream_own key (jN nonce 2) T' A' cap' text w' hk hkb HJL2.out hj2 (ht.chg hc (fun _ _ h => h)) (by omega) htb).mono ?_
    rintro e w'' ⟨v, rfl, ho, hc2⟩
    obtain ⟨A6, c6, rfl, _, _⟩ := ho.viewLt9
    rw [hSL] at ho ⊢
    exact ⟨A6, c6, rfl, ho, hc2⟩)
  generalize streamN key (jN nonce 2) text = ST at hSB hSL HST
  have hcl : (cipherN key Z).length = 16 := cipherN_len _ _
  have hcb : ∀ x ∈ cipherN key Z, x < 256 := cipherN_lt hkb hzb
  have HE0 := Lib.hid (fun w => rencipher_any key Z w hk hkb HZL.out hzb)
  have HE1 := Lib.hid (fun w => rencipher_any key (jN nonce 1) w hk hkb HJL1.out hj1)
  have HSUM : Hid (∀ w' b A6 c6, Chg none_ w w' → Owned w' b (.slice A6 text.length c6) ST → Calls Tryd.prog 52 #[.agg (u8s (cipherN key Z)).toArray, .slice A more.length cap, .slice A6 text.length c6] w' fun e w'' => e = .returned (.agg (u8s (sumG (cipherN key Z) more ST)).toArray) ∧ Chg none_ w' w'') := Lib.hid (fun w' b A6 c6 hc ho => by
    have := rsum_any9 (cipherN key Z) more ST T _ A A6 cap c6 w' hcl hcb (hm.chg hc (fun _ _ h => h)) hml hmb (ho.slice.2.2) (by omega) hSB
    rw [hSL] at this
    exact this)
  have HSL : Hid ((sumG (cipherN key Z) more ST).length = 16) := Lib.hid (sumG_len _ _ _)
  have HSB := Lib.hid (fun i => getD_lt (sumG_lt (cipherN key Z) more ST) i (by decide : 0 < 256))
  have HEL := Lib.hid (cipherN_len key (jN nonce 1))
  have HEB := Lib.hid (fun i => getD_lt (cipherN_lt hkb hj1) i (by decide : 0 < 256))
  generalize sumG (cipherN key Z) more ST = SM at HSUM HSL HSB
  generalize cipherN key Z = HH at HE0 HSUM
  generalize cipherN key (jN nonce 1) = E1 at HE1 HEL HEB
  obtain ⟨outL, hout⟩ : ∃ f : Nat → List Nat, ∀ k, f k = ST ++ (List.range k).map (fun i => SM.getD i 0 ^^^ E1.getD i 0) := ⟨_, fun _ => rfl⟩
  have HOLn : Hid (∀ k, (outL k).length = text.length + k) := Lib.hid (fun k => by rw [hout, List.length_append, hSL]; simp)
  have HOSA : Hid (∀ k, outL (k + 1) = outL k ++ [SM.getD k 0 ^^^ E1.getD k 0]) := Lib.hid (fun k => by rw [hout, hout, List.range_succ, List.map_append, ← List.append_assoc]; rfl)
  have HOE : Hid (outL 16 = ST ++ xorB SM E1) := Lib.hid (hout _)
  have HO0 : Hid (outL 0 = ST) := Lib.hid (by rw [hout]; simp)
  clear hk hkb hn hnb hm hml hmb ht htl htb hZ hzb e0 hSB hSL hcl hcb hout hj1 hj2
  go_enter Tryd.func40, Tryd.ntmps40
  go_wp2_with (first | ((with_reducible show wpList _ _ _ (⟨some 4, .box 26 _, _, _, _, _⟩ :: _) _ _); refine wpList_box_Row rfl rfl (u8s key) rfl ?_; intro w1 hr1 hc1 hs1; have HRK1 := Lib.hid hr1; have HC1 := Lib.hid hc1; have HG1 := Lib.hid (show w.heap.size < w1.heap.size from hr1.lt); clear hr1 hc1 hs1) | ((with_reducible show wpList _ _ _ (⟨some 5, .box 27 _, _, _, _, _⟩ :: _) _ _); refine wpList_box_Row rfl rfl (u8s nonce) rfl ?_; intro w2 hr2 hc2 hs2; have HRN2 := Lib.hid hr2; have HC2 := Lib.hid (HC1.out.trans hc2); have HRK2 := Lib.hid (HRK1.out.chg hc2 (fun h => h)); have HG2 := Lib.hid (show w1.heap.size < w2.heap.size from hr2.lt); clear hr2 hc2 hs2) | ((with_reducible show wpList _ _ _ (⟨some 9, .alloc 26, _, _, _, _⟩ :: _) _ _); refine wpList_alloc_Row rfl rfl (u8s (List.replicate 16 0)) zero22 ?_; intro w3 hr3 hc3 hs3; have HRJ3 := Lib.hid (HZR.out _ _ hr3); have HC3 := Lib.hid (HC2.out.trans hc3); have HRK3 := Lib.hid (HRK2.out.chg hc3 (fun h => h)); have HRN3 := Lib.hid (HRN2.out.chg hc3 (fun h => h)); have HG3 := Lib.hid (show w2.heap.size < w3.heap.size from hr3.lt); clear hr3 hc3 hs3) | ((with_reducible show wpList _ _ _ (⟨some 10, .alloc 26, _, _, _, _⟩ :: _) _ _); refine wpList_alloc_Row rfl rfl (u8s (List.replicate 16 0)) zero22 ?_; intro w4 hr4 hc4 hs4; have HRZ4 := Lib.hid (HZR.out _ _ hr4); have HC4 := Lib.hid (HC3.out.trans hc4); have HRK4 := Lib.hid (HRK3.out.chg hc4 (fun h => h)); have HRN4 := Lib.hid (HRN3.out.chg hc4 (fun h => h)); have HRJ4 := Lib.hid (HRJ3.out.chg hc4 (fun h => h)); have HG4 := Lib.hid (show w3.heap.size < w4.heap.size from hr4.lt); clear hr4 hc4 hs4))
  try simp only [Act.put, List.setIfInBounds_toArray, List.set_cons_zero, List.set_cons_succ]
  have HG := Lib.hid (show w.heap.size < w1.heap.size ∧ w1.heap.size < w2.heap.size ∧ w2.heap.size < w3.heap.size ∧ w3.heap.size < w4.heap.size from ⟨HG1.out, HG2.out, HG3.out, HG4.out⟩)
  clear HG1 HG2 HG3 HG4 HC1 HC2 HC3 HRK1 HRK2 HRK3 HRN2 HRN3 HRJ3
  go_loopw [11] (fun iv wr => ∃ k : Nat, k ≤ 12 ∧ iv = .int .i64 k ∧ Row wr w2.heap.size 26 (u8s (partF (fun i => nonce.getD i 0) Z 16 k)) ∧ Chg (· = w2.heap.size) w4 wr) (fun iv _ => 12 - (intOf iv).toNat)
  case atStart => exact ⟨0, Nat.zero_le _, rfl, by rw [partF_0 _ _ _ HZL.out]; exact HRJ4.out, Chg.refl _ _⟩
  case round =>
    obtain ⟨k, hk, rfl, hrow, hch⟩ := hrel
    have HC := Lib.hid hch
    by_cases hlt : k < 12
    · have c1 := Row.u8 (HRN4.out.chg hch (fun e => by have := HG.out; omega)) (i := k) (by rw [HNL.out]; exact hlt)
      have c0 := Row.u8 hrow (i := k) (by rw [partF_len]; omega)
      have hf := hrow.frozen k
      have HSET := Lib.hid (hrow.set k (.int .u8 ((nonce.getD k 0 : Nat) : Int)))
      have HPS := Lib.hid (partF_set (fun i => nonce.getD i 0) Z 16 k)
      generalize (partF (fun i => nonce.getD i 0) Z 16 k).getD k 0 = z at c0
      generalize nonce.getD k 0 = x at c1 HSET HPS
      have q1 : (0 : Int) ≤ (k : Int) := by omega
      have q2 : (k : Int) < 16 := by omega
      have q3 : (k : Int) < 12 := by omega
      have HLK := Lib.hid hlt
      clear hrow hch hk hlt
      go_wp2
      go_roundw
      case rel => exact ⟨k + 1, by have := HLK.out; omega, by go_num, by rw [← HPS.out, ← u8s_set]; exact HSET.out, HC.out.setCell (fun _ => rfl) _⟩
      case measure => have := HLK.out; simp [intOf]; omega
    · have hk6 : k = 12 := by omega
      subst hk6
      rw [HJ0.out] at hrow
      obtain ⟨wL, hwL⟩ : ∃ x, x = wr := ⟨_, rfl⟩
      rw [← hwL] at hrow hch HC
      have HRJL := Lib.hid hrow
      have HRKL := Lib.hid (HRK4.out.chg hch (fun e => by have := HG.out; omega))
      have HRZL := Lib.hid (HRZ4.out.chg hch (fun e => by have := HG.out; omega))
      have HDL : Hid (Chg (· = w2.heap.size) wL wL) := Lib.hid (Chg.refl _ _)
      have c0 := Row.u8 hrow (i := 15) (by rw [HJL0.out]; decide)
      have hf := hrow.frozen 15
      have HCW : Hid (∀ w', Chg (· = w2.heap.size) wL w' → Chg none_ w w') := Lib.hid (fun w' hc => HC4.out.andThen (HC.out.trans hc) (fun b hb e => by have := HG.out; omega))
      have HG' : Hid (w4.heap.size ≤ wL.heap.size) := Lib.hid hch.size
      have q0 : ¬ (((12 : Nat) : Int) < 12) := by decide
      rw [← hwL]
      clear hrow hch hk hlt hwL HC
      go_wp2_with (first | ((with_reducible show wpList _ _ _ (⟨some 26, _, _, _, _, _⟩ :: _) _ _); refine wpList_name ?_; intro w5 hx5; have HRJ5 := Lib.hid (show Row w5 w2.heap.size 26 (u8s (jN nonce 2)) by (rw [hx5]; exact row_set15_2 HRJL.out HJ2.out)); have hc5 := (show Chg (· = w2.heap.size) wL w5 by (rw [hx5]; exact chg_set_at _ _ _ _)); have HD5 := Lib.hid (HDL.out.trans hc5); have HRK5 := Lib.hid (HRKL.out.chg hc5 (fun e => by have := HG.out; omega)); have HRZ5 := Lib.hid (HRZL.out.chg hc5 (fun e => by have := HG.out; omega)); clear hx5; clear hc5; refine wpList_load_Row rfl rfl rfl HRK5.out Tryd.underlying26 rfl (by rw [u8s_length, HKL.out]; exact size22) ?_) | ((with_reducible show wpList _ _ _ (⟨some 27, .load 26 _, _, _, _, _⟩ :: _) _ _); refine wpList_load_Row rfl rfl rfl (HRJ5.out) Tryd.underlying26 rfl (by rw [u8s_length, HJL2.out]; exact size22) ?_) | (go_at_call 51; with_reducible refine (HST.out _ (HCW.out _ HD5.out)).mono ?_; rintro e w6 ⟨A6, c6, rfl, ho6, hc6⟩; have HD6 := Lib.hid (HD5.out.trans hc6.ofNone); have HO6 := Lib.hid ho6; have HRK6 := Lib.hid (HRK5.out.chg hc6 (fun h => h)); have HRZ6 := Lib.hid (HRZ5.out.chg hc6 (fun h => h)); have HRJ6 := Lib.hid (HRJ5.out.chg hc6 (fun h => h)); have HM6 := Lib.hid (show w5.heap.size ≤ w6.heap.size from hc6.size); have c6_ := Row.u8 HRJ6.out (i := 15) (by rw [HJL2.out]; decide); have f6_ := HRJ6.out.frozen 15; have HG5 := Lib.hid (show w3.heap.size < w5.heap.size from Nat.lt_of_lt_of_le HG.out.2.2.2 (Nat.le_trans HG'.out HD5.out.size)); clear ho6 hc6) | ((with_reducible show wpList _ _ _ (⟨some 31, _, _, _, _, _⟩ :: _) _ _); refine wpList_name ?_; intro w7 hx7; have HRJ7 := Lib.hid (show Row w7 w2.heap.size 26 (u8s (jN nonce 1)) by (rw [hx7]; exact row_set15_1 HRJ6.out HJ1.out)); have hc7 := (show Chg (· = w2.heap.size) w6 w7 by (rw [hx7]; exact chg_set_at _ _ _ _)); have HD7 := Lib.hid (HD6.out.trans hc7); have HRK7 := Lib.hid (HRK6.out.chg hc7 (fun e => by have := HG.out; omega)); have HRZ7 := Lib.hid (HRZ6.out.chg hc7 (fun e => by have := HG.out; omega)); have HM7 := Lib.hid (Nat.le_trans HM6.out hc7.size); have HO7 := Lib.hid (HO6.out.chg hc7 (fun b hb e => by have := HG.out; have := HG5.out; omega)); clear hx7; clear hc7; refine wpList_load_Row rfl rfl rfl HRK7.out Tryd.underlying26 rfl (by rw [u8s_length, HKL.out]; exact size22) ?_) | ((with_reducible show wpList _ _ _ (⟨some 32, .load 26 _, _, _, _, _⟩ :: _) _ _); refine wpList_load_Row rfl rfl rfl (HRZ7.out) Tryd.underlying26 rfl (by rw [u8s_length, HZL.out]; exact size22) ?_) | (go_at_call 53; with_reducible refine (HE0.out _).mono ?_; rintro e w8 ⟨rfl, hc8⟩; have HM8 := Lib.hid (Nat.le_trans HM7.out hc8.size); have HD8 := Lib.hid (HD7.out.trans hc8.ofNone); have HO8 := Lib.hid (HO7.out.chg hc8 (fun _ _ h => h)); have HRK8 := Lib.hid (HRK7.out.chg hc8 (fun h => h)); have HRJ8 := Lib.hid (HRJ7.out.chg hc8 (fun h => h)); clear hc8) | (go_at_call 52; with_reducible refine (HSUM.out _ _ _ _ (HCW.out _ HD8.out) HO8.out).mono ?_; rintro e w9 ⟨rfl, hc9⟩; have HM9 := Lib.hid (Nat.le_trans HM8.out hc9.size); have HD9 := Lib.hid (HD8.out.trans hc9.ofNone); have HO9 := Lib.hid (HO8.out.chg hc9 (fun _ _ h => h)); have HRK9 := Lib.hid (HRK8.out.chg hc9 (fun h => h)); have HRJ9 := Lib.hid (HRJ8.out.chg hc9 (fun h => h)); clear hc9) | ((with_reducible show wpList _ _ _ (⟨some 13, .alloc 26, _, _, _, _⟩ :: _) _ _); refine wpList_alloc_Row rfl rfl (u8s (List.replicate 16 0)) zero22 ?_; intro w10 hr10 hc10 hs10; have HRS10 := Lib.hid (HZR.out _ _ hr10); have HD10 := Lib.hid (HD9.out.trans hc10.ofNone); have HO10 := Lib.hid (HO9.out.chg hc10 (fun _ _ h => h)); have HRK10 := Lib.hid (HRK9.out.chg hc10 (fun h => h)); have HRJ10 := Lib.hid (HRJ9.out.chg hc10 (fun h => h)); clear hr10 hc10 hs10) | ((with_reducible show wpList _ _ _ (⟨_, .store 26 (.tmp 13) _, _, _, _, _⟩ :: _) _ _); refine wpList_store_Row (xs := u8s SM) rfl rfl rfl HRS10.out rfl (by rw [u8s_length, u8s_length, HSL.out, HZL.out]) (by rw [u8s_length, HSL.out]; exact size22) (u8s_oneA _) ?_; intro w11 hr11 hc11 hs11; have HRS11 := Lib.hid hr11; have hcx11 := hc11 (· = w9.heap.size) w10 (Chg.refl _ _) (fun _ => rfl); have HD11 := Lib.hid (hc11 (· = w2.heap.size) wL HD10.out (fun h => by have := HD9.out.size; omega)); have HO11 := Lib.hid (HO10.out.chg' hcx11 (fun b hb e => by have := (HO9.out.lt hb).1; omega)); have HRK11 := Lib.hid (HRK10.out.chg hcx11 (fun e => by have := HRK9.out.lt; omega)); have HRJ11 := Lib.hid (HRJ10.out.chg hcx11 (fun e => by have := HRJ9.out.lt; omega)); clear hr11 hc11 hs11 hcx11) | ((with_reducible show wpList _ _ _ (⟨some 37, .load 26 _, _, _, _, _⟩ :: _) _ _); refine wpList_load_Row rfl rfl rfl (HRK11.out) Tryd.underlying26 rfl (by rw [u8s_length, HKL.out]; exact size22) ?_) | ((with_reducible show wpList _ _ _ (⟨some 38, .load 26 _, _, _, _, _⟩ :: _) _ _); refine wpList_load_Row rfl rfl rfl (HRJ11.out) Tryd.underlying26 rfl (by rw [u8s_length, HJL1.out]; exact size22) ?_) | (go_at_call 53; with_reducible refine (HE1.out _).mono ?_; rintro e w12 ⟨rfl, hc12⟩; have HD12 := Lib.hid (HD11.out.trans hc12.ofNone); have HO12 := Lib.hid (HO11.out.chg hc12 (fun _ _ h => h)); have HRS12 := Lib.hid (HRS11.out.chg hc12 (fun h => h)); clear hc12) | ((with_reducible show wpList _ _ _ (⟨some 14, .alloc 26, _, _, _, _⟩ :: _) _ _); refine wpList_alloc_Row rfl rfl (u8s (List.replicate 16 0)) zero22 ?_; intro w13 hr13 hc13 hs13; have HRE13 := Lib.hid (HZR.out _ _ hr13); have HD13 := Lib.hid (HD12.out.trans hc13.ofNone); have HO13 := Lib.hid (HO12.out.chg hc13 (fun _ _ h => h)); have HRS13 := Lib.hid (HRS12.out.chg hc13 (fun h => h)); clear hr13 hc13 hs13) | ((with_reducible show wpList _ _ _ (⟨_, .store 26 (.tmp 14) _, _, _, _, _⟩ :: _) _ _); refine wpList_store_Row (xs := u8s E1) rfl rfl rfl HRE13.out rfl (by rw [u8s_length, u8s_length, HEL.out, HZL.out]) (by rw [u8s_length, HEL.out]; exact size22) (u8s_oneA _) ?_; intro w14 hr14 hc14 hs14; have HRE14 := Lib.hid hr14; have hcx14 := hc14 (· = w12.heap.size) w13 (Chg.refl _ _) (fun _ => rfl); have HD14 := Lib.hid (hc14 (· = w2.heap.size) wL HD13.out (fun h => by have := HD12.out.size; omega)); have HO14 := Lib.hid (HO13.out.chg' hcx14 (fun b hb e => by have := (HO12.out.lt hb).1; omega)); have HRS14 := Lib.hid (HRS13.out.chg hcx14 (fun e => by have := HRS12.out.lt; omega)); have HNE : Hid (∀ b, (Value.slice A6 text.length c6).ownBlock = some b → b ≠ w9.heap.size ∧ b ≠ w12.heap.size) := Lib.hid (fun b h => by have h1 := (HO9.out.lt h).1; have h2 := HD9.out.size; have h3 := HRS12.out.lt; exact ⟨by omega, by omega⟩); clear hr14 hc14 hs14 hcx14))
      try simp only [Act.put, List.setIfInBounds_toArray, List.set_cons_zero, List.set_cons_succ]
      obtain ⟨base, hbase⟩ : ∃ b, b = w5.heap.size := ⟨_, rfl⟩
      obtain ⟨gS, hgS⟩ : ∃ b, b = w9.heap.size := ⟨_, rfl⟩
      obtain ⟨gE, hgE⟩ : ∃ b, b = w12.heap.size := ⟨_, rfl⟩
      rw [← hbase] at HO14 HG5 HM9
      rw [← hgS] at HM9
      rw [← hgS, ← hgE] at HNE
      rw [← hgS] at HRS14
      rw [← hgE] at HRE14
      rw [← hgS, ← hgE]
      have HB0 : Hid (w.heap.size < base) := Lib.hid (by have := HG.out; have := HG5.out; omega)
      have HB1 : Hid (base ≤ w14.heap.size) := Lib.hid (by have := HM9.out; have := HRS14.out.lt; omega)
      have HD := Lib.hid (HCW.out _ HD14.out)
      clear HRJ5 HD5 HRK5 HRZ5 HD6 HO6 HRK6 HRZ6 HRJ6 c6_ f6_ HG5 HRJ7 HD7 HRK7 HRZ7 HO7 HD8 HO8 HRK8 HRJ8 HD9 HO9 HRK9 HRJ9 HRS10 HD10 HO10 HRK10 HRJ10 HRS11 HD11 HO11 HRK11 HRJ11 HD12 HO12 HRS12 HRE13 HD13 HO13 HRS13 HM6 HM7 HM8 HM9 HRJL HRKL HRZL HDL c0 hf HCW HST HE0 HE1 HSUM HRK4 HRN4 HRJ4 HRZ4 HZR HZL HJ0 HJ1 HJ2 HJL0 HJL1 HJL2 HG' HNB hbase hgS hgE
      go_loopw [12, 15] (fun ov kv wr => ∃ (k : Nat) (ov' : Value), k ≤ 16 ∧ kv = .int .i64 k ∧ ov' = ov ∧ Owned wr base ov' (outL k) ∧ Hid (∀ b, ov'.ownBlock = some b → b ≠ gS ∧ b ≠ gE) ∧ Chg (fun b => base ≤ b ∧ b ≠ gS ∧ b ≠ gE) w14 wr) (fun _ kv _ => 16 - (intOf kv).toNat)
      case atStart => exact ⟨0, _, by omega, rfl, rfl, by rw [HO0.out]; exact HO14.out, HNE, Chg.refl _ _⟩
      case round =>
        clear HNE
        obtain ⟨k, ov, hk, rfl, rfl, hown, HNE, hch⟩ := hrel
        have HOW := Lib.hid hown
        have HC := Lib.hid hch
        by_cases hlt : k < 16
        · have CS0 := Row.u8 (HRS14.out.chg hch (fun h => h.2.1 rfl)) (i := k) (by rw [HSL.out]; exact hlt)
          have CE0 := Row.u8 (HRE14.out.chg hch (fun h => h.2.2 rfl)) (i := k) (by rw [HEL.out]; exact hlt)
          have HLTS := Lib.hid (show gS < wr.heap.size from Nat.lt_of_lt_of_le HRS14.out.lt hch.size)
          have HLTE := Lib.hid (show gE < wr.heap.size from Nat.lt_of_lt_of_le HRE14.out.lt hch.size)
          have HSZ := Lib.hid (show base ≤ wr.heap.size from Nat.le_trans HB1.out hch.size)
          have HOS0 := HOSA.out k
          have hxb := HSB.out k
          have hyb := HEB.out k
          obtain ⟨x, hx⟩ : ∃ x, SM.getD k 0 = x := ⟨_, rfl⟩
          obtain ⟨y, hy⟩ : ∃ y, E1.getD k 0 = y := ⟨_, rfl⟩
          rw [hx] at CS0 HOS0 hxb
          rw [hy] at CE0 HOS0 hyb
          have HOS : Hid (outL (k + 1) = outL k ++ [x ^^^ y]) := Lib.hid HOS0
          have xx := u8_xor_nat x y hxb hyb
          have CS : Hid (∀ w', Chg (fun b => ov.ownBlock = some b) wr w' → w'.cell? ⟨gS, k, none⟩ = some (.int .u8 (x : Int))) := Lib.hid (fun w' hc => by rw [hc.cell _ HLTS.out (fun h => (HNE.out _ h).1 rfl)]; exact CS0)
          have CE : Hid (∀ w', Chg (fun b => ov.ownBlock = some b) wr w' → w'.cell? ⟨gE, k, none⟩ = some (.int .u8 (y : Int))) := Lib.hid (fun w' hc => by rw [hc.cell _ HLTE.out (fun h => (HNE.out _ h).2 rfl)]; exact CE0)
          have q1 : (0 : Int) ≤ (k : Int) := by omega
          have q2 : (k : Int) < 16 := by omega
          have HLK := Lib.hid hlt
          clear hown hch CS0 CE0 HOS0 hx hy hlt hk
          go_wp2
          refine wp_region_held_drew (S := fun w' => Chg (fun b => ov.ownBlock = some b) wr w') (by kernel_rfl) ((Chg.refl _ wr).drew) (fun hch0 => ?_)
          refine wpAnyH_take (i := 0) (v := ov) rfl (by kernel_rfl) (by kernel_rfl) (by kernel_rfl) (by first | exact fun _ _ _ h => h | exact fun _ _ _ h => nomatch h.1) (Or.inl ⟨by rfl, fun w_ hw_ => by go_simp⟩) hch0 ?_
          refine wpAnyH_take (i := 1) (v := .int .i64 k) rfl (by kernel_rfl) (by kernel_rfl) (by kernel_rfl) (by first | exact fun _ _ _ h => h | exact fun _ _ _ h => nomatch h.1) (Or.inl ⟨by rfl, fun w_ hw_ => by go_simp⟩) hch0 ?_
          refine wpAnyH_take (i := 2) (v := .pointer (some ⟨gS, k, none⟩)) rfl (by kernel_rfl) (by kernel_rfl) (by kernel_rfl) (by first | exact fun _ _ _ h => h | exact fun _ _ _ h => nomatch h.1) (Or.inl ⟨by rfl, fun w_ hw_ => by go_simp⟩) hch0 ?_
          refine wpAnyH_take (i := 3) (v := .int .u8 x) rfl (by kernel_rfl) (by kernel_rfl) (by kernel_rfl) (by first | exact fun _ _ _ h => h | exact fun _ _ _ h => nomatch h.1) (Or.inl ⟨by rfl, fun w_ hw_ => by have hh := CS.out w_ hw_; go_simp⟩) hch0 ?_
          try simp only [Act.put, List.setIfInBounds_toArray, List.set_cons_zero, List.set_cons_succ, List.getElem_toArray, List.getElem_cons_succ, List.getElem_cons_zero]
          refine wpAnyH_take (i := 4) (v := .int .i64 k) rfl (by kernel_rfl) (by kernel_rfl) (by kernel_rfl) (by first | exact fun _ _ _ h => h | exact fun _ _ _ h => nomatch h.1) (Or.inl ⟨by rfl, fun w_ hw_ => by go_simp⟩) hch0 ?_
          refine wpAnyH_take (i := 5) (v := .pointer (some ⟨gE, k, none⟩)) rfl (by kernel_rfl) (by kernel_rfl) (by kernel_rfl) (by first | exact fun _ _ _ h => h | exact fun _ _ _ h => nomatch h.1) (Or.inl ⟨by rfl, fun w_ hw_ => by go_simp⟩) hch0 ?_
          refine wpAnyH_take (i := 6) (v := .int .u8 y) rfl (by kernel_rfl) (by kernel_rfl) (by kernel_rfl) (by first | exact fun _ _ _ h => h | exact fun _ _ _ h => nomatch h.1) (Or.inl ⟨by rfl, fun w_ hw_ => by have hh := CE.out w_ hw_; go_simp⟩) hch0 ?_
          refine wpAnyH_take (i := 7) (v := .int .u8 (x ^^^ y : Nat)) rfl (by kernel_rfl) (by kernel_rfl) (by kernel_rfl) (by first | exact fun _ _ _ h => h | exact fun _ _ _ h => nomatch h.1) (Or.inl ⟨by rfl, fun w_ hw_ => by go_simp⟩) hch0 ?_
          try simp only [Act.put, List.setIfInBounds_toArray, List.set_cons_zero, List.set_cons_succ, List.getElem_toArray, List.getElem_cons_succ, List.getElem_cons_zero]
          refine wpAnyH_ready (rs := [8]) (by kernel_rfl) (by simp) ?_
          refine AllReadyH.cons rfl (fun K hK => ?_) AllReadyH.nil
          rw [if_pos (by rfl)]
          try simp only [List.getElem_toArray, List.getElem_cons_succ, List.getElem_cons_zero]
          refine wp_new_row (v := fun g => .slice (some ⟨g, 0, none⟩) 1 1) (e := 5) (cs := [.int .u8 (x ^^^ y : Nat)]) (fun w_ => by go_simp) ?_
          intro x1 hr1 hc1 hs1
          have hch1 : Chg (fun b => ov.ownBlock = some b) wr x1 := hch0.trans (hc1.mono (fun _ _ h => h.elim))
          have hown1 : Owned x1 base ov (outL k) := HOW.out.chg' (((Chg.refl none_ wr).drew).trans hc1) (fun _ _ h => h)
          refine hK.out _ _ hch1 (fun _ => ?_)
          clear hK K
          try simp only [Act.put, List.setIfInBounds_toArray, List.set_cons_zero, List.set_cons_succ]
          refine wpAnyH_ready (rs := [9]) (by kernel_rfl) (by simp) ?_
          refine AllReadyH.cons rfl (fun K hK => ?_) AllReadyH.nil
          rw [if_pos (by rfl)]
          try simp only [List.getElem_toArray, List.getElem_cons_succ, List.getElem_cons_zero]
          refine wp_append_own2 _ _ 24 rfl Tryd.underlying24 (base := base) (v := ov) (L := outL k) (M := [x ^^^ y]) (T := fun b => b = wr.drew.heap.size) (A := some ⟨wr.drew.heap.size, 0, none⟩) (m := 1) (c := 1) rfl hown1 rfl (View.all hr1 rfl rfl) (by rw [HOLn.out]; have := HTL.out; omega) (by have := hch1.size; have := HSZ.out; omega) ?_
          intro v2 x2 hown2 hc2 hob2
          have hch2 : Chg (fun b => ov.ownBlock = some b) wr x2 := hch1.trans hc2
          refine hK.out _ _ hch2 (fun _ => ?_)
          clear hK K
          try simp only [Act.put, List.setIfInBounds_toArray, List.set_cons_zero, List.set_cons_succ]
          refine wpAnyH_take (i := 10) (v := v2) rfl (by kernel_rfl) (by kernel_rfl) (by kernel_rfl) (by first | exact fun _ _ _ h => h | exact fun _ _ _ h => nomatch h.1) (Or.inl ⟨by rfl, fun w_ hw_ => by go_simp⟩) hch2 ?_
          try simp only [Act.put, List.setIfInBounds_toArray, List.set_cons_zero, List.set_cons_succ, List.getElem_toArray, List.getElem_cons_succ, List.getElem_cons_zero]
          refine wpAnyH_done (by kernel_rfl) ?_ _
          have hsz1 : wr.heap.size ≤ x1.heap.size := hch1.size
          rw [← HOS.out] at hown2
          go_wp2
          go_roundw
          case rel => exact ⟨k + 1, v2, by have := HLK.out; omega, by go_num, rfl, hown2, Lib.hid (fun b hb => by
            rcases hob2 with h | h
            · exact HNE.out b (h ▸ hb)
            · rw [h] at hb; injection hb with hb; have := HLTS.out; have := HLTE.out; exact ⟨by omega, by omega⟩), HC.out.andThen hch2 (fun b hb h => ⟨(HOW.out.lt h).2, HNE.out b h⟩)⟩
          case measure => have := HLK.out; simp [intOf]; omega
        · have hk6 : k = 16 := by omega
          subst hk6
          have HE := Lib.hid (HD.out.andThen hch (fun b hb h => by have := HB0.out; omega))
          have HOX : Hid (Owned wr w.heap.size ov (ST ++ xorB SM E1)) := Lib.hid (by rw [← HOE.out]; exact hown.low (by have := HB0.out; omega))
          clear hown hch hk hlt
          go_wp2
          go_ret
          exact ⟨ov, rfl, HOX.out, HE.out⟩
end Go.Proofs.YtidafbpiipjnlaaDoor
