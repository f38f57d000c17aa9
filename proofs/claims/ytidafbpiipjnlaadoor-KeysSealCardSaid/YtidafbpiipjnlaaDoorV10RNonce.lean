/- Layer 10 (keys): a packet's nonce, the document's. -/
import Derived.Test.YtidafbpiipjnlaaDoorV10Keys2
import Derived.Test.YtidafbpiipjnlaaDoorV10Nonce
namespace Go.Proofs.YtidafbpiipjnlaaDoor
open Go.RowKit

theorem byteZ_u64 (n : Int) (k : Nat) (hk : k < 8) : (n % 18446744073709551616).toNat / 256 ^ k % 256 = byteZ n k := by
  unfold byteZ
  have h0 : (0 : Int) ≤ n % 18446744073709551616 := Int.emod_nonneg _ (by decide)
  obtain ⟨U, hU⟩ : ∃ U : Nat, n % 18446744073709551616 = (U : Int) := ⟨(n % 18446744073709551616).toNat, by omega⟩
  rw [hU, Int.toNat_natCast]
  have hk8 : k = 0 ∨ k = 1 ∨ k = 2 ∨ k = 3 ∨ k = 4 ∨ k = 5 ∨ k = 6 ∨ k = 7 := by omega
  rcases hk8 with rfl | rfl | rfl | rfl | rfl | rfl | rfl | rfl
  all_goals
    simp only [Nat.reducePow, Int.reducePow]
    omega

set_option maxRecDepth 100000 in
set_option maxHeartbeats 2000000 in
theorem rnonce_any (s : Sc) (n : Int) (w : World) (o : s.Ok) : Calls Tryd.prog 38 #[aggS s, .int .i64 n] w fun e w' => e = .returned (.agg (u8s (nonceX s.iv n)).toArray) ∧ Chg none_ w w' := by
  have HO := Lib.hid o
  have HL := Lib.hid o.ivL
  have HNX := Lib.hid (nonceX_len s.iv n)
  have HB := Lib.hid (fun i => getD_lt o.ivB i (by decide : 0 < 256))
  have HU8 := Lib.hid (byteZ_u64 n)
  obtain ⟨U, hU⟩ : ∃ U : Nat, n % 18446744073709551616 = (U : Int) := ⟨(n % 18446744073709551616).toNat, by have := Int.emod_nonneg n (show (18446744073709551616 : Int) ≠ 0 by decide); omega⟩
  have HW : Hid (IntKind.u64.wrap n = (U : Int)) := Lib.hid (by rw [← hU]; rfl)
  have hUb : U < 18446744073709551616 := by omega
  rw [hU, Int.toNat_natCast] at HU8
  show Calls Tryd.prog 38 #[.agg (cellsS s).toArray, .int .i64 n] w _
  clear o
  go_enter Tryd.func38, Tryd.ntmps38
  go_wp2_with (first | ((with_reducible show wpList _ _ _ (⟨some 2, .box 29 _, _, _, _, _⟩ :: _) _ _); refine wpList_box_Row rfl rfl (cellsS s) rfl ?_; intro w1 hr1 hc1 hs1; have HRS := Lib.hid hr1; have HC1 := Lib.hid hc1; clear hr1 hc1 hs1) | ((with_reducible show wpList _ _ _ (⟨some 4, .alloc 27, _, _, _, _⟩ :: _) _ _); refine wpList_alloc_Row rfl rfl (u8s (List.replicate 12 0)) zero12 ?_; intro w2 hr2 hc2 hs2; have HR2 := Lib.hid hr2; have HC2 := Lib.hid (HC1.out.trans hc2); have HRS2 := Lib.hid (HRS.out.chg hc2 (fun h => h)); have HG1 := Lib.hid HRS.out.lt; have HG2 := Lib.hid hr2.lt; clear hr2 hc2 hs2) | ((with_reducible show wpList _ _ _ (⟨some 9, .load 27 _, _, _, _, _⟩ :: _) _ _); refine wpList_load_Mid (cs := u8s s.iv) rfl rfl rfl (sc_iv HRS2.out HO.out) Tryd.underlying27 rfl (by rw [u8s_length, HL.out]; exact size12) ?_) | ((with_reducible show wpList _ _ _ (⟨some 5, .alloc 27, _, _, _, _⟩ :: _) _ _); refine wpList_alloc_Row rfl rfl (u8s (List.replicate 12 0)) zero12 ?_; intro w3 hr3 hc3 hs3; have HR3 := Lib.hid hr3; have HC3 := Lib.hid (HC2.out.trans hc3); have HR2b := Lib.hid (HR2.out.chg hc3 (fun h => h)); clear hr3 hc3 hs3) | ((with_reducible show wpList _ _ _ (⟨_, .store 27 (.tmp 5) _, _, _, _, _⟩ :: _) _ _); refine wpList_store_Row (xs := u8s s.iv) rfl rfl rfl (HR3.out) (rfl) (by rw [u8s_length, u8s_length, HL.out, List.length_replicate]) (by rw [u8s_length, HL.out]; exact size12) (u8s_oneA _) ?_; intro w4 hr4 hc4 hs4; have HR4 := Lib.hid hr4; have HC4 := Lib.hid (hc4 none_ w HC3.out (fun h => by have := HC2.out.size; omega)); have HR2c := Lib.hid (HR2b.out.chg (hc4 (· = w2.heap.size) w3 (Chg.refl _ _) (fun _ => rfl)) (fun e => by have := HG2.out; omega)); clear hr4 hc4 hs4))
  have HG : Hid (w.heap.size < w1.heap.size ∧ w1.heap.size < w2.heap.size) := Lib.hid ⟨HG1.out, HG2.out⟩
  clear HG1 HG2 hU
  go_loopw [6, 7] (fun u v wr => ∃ k : Nat, k ≤ 8 ∧ v = .int .i64 (11 - (k : Int)) ∧ u = .int .u64 ((U / 256 ^ k : Nat) : Int) ∧ Row wr w2.heap.size 27 (u8s (nonceP s.iv n k)) ∧ Chg (· = w2.heap.size) w4 wr) (fun _ v _ => (intOf v + 1).toNat)
  case atStart => exact ⟨0, Nat.zero_le _, rfl, by rw [Nat.pow_zero, Nat.div_one, HW.out], by rw [nonceP_0 _ _ HL.out]; exact HR4.out, Chg.refl _ _⟩
  case round =>
    obtain ⟨k, hk, rfl, rfl, hrow, hch⟩ := hrel
    have HC := Lib.hid hch
    by_cases hlt : k < 8
    · obtain ⟨i, hi⟩ : ∃ i, i + k = 11 := ⟨11 - k, by omega⟩
      have c1 := Row.u8 hrow (i := i) (by rw [nonceP_len]; omega)
      rw [nonceP_get _ _ _ _ hi] at c1
      have hf := hrow.frozen i
      have HSET := Lib.hid (hrow.set i (.int .u8 ((s.iv.getD i 0 ^^^ byteZ n k : Nat) : Int)))
      have HPS := Lib.hid (nonceP_set s.iv n k i hi)
      have hx := HB.out i
      have hy := byteZ_lt n k
      have HU : Hid (U / 256 ^ k % 256 = byteZ n k) := Lib.hid (HU8.out k hlt)
      have HND : Hid (U / 256 ^ (k + 1) = U / 256 ^ k / 256) := Lib.hid (by rw [Nat.pow_succ, ← Nat.div_div_eq_div_mul])
      have hle : U / 256 ^ k < 18446744073709551616 := Nat.lt_of_le_of_lt (Nat.div_le_self _ _) hUb
      generalize s.iv.getD i 0 = x at c1 HSET HPS hx
      generalize byteZ n k = y at HSET HPS HU hy
      generalize U / 256 ^ k = q at HU HND hle ⊢
      have hv : (q : Int) % 256 = (y : Int) := by have := HU.out; omega
      have HV2 : Hid ((q : Int) / 256 = ((q / 256 : Nat) : Int)) := Lib.hid (by omega)
      have xx := u8_xor_nat x y hx hy
      have e1 : (11 : Int) - (k : Int) = (i : Int) := by omega
      rw [e1]
      have HE1 : Hid ((i : Int) - 1 = 11 - ((k + 1 : Nat) : Int)) := Lib.hid (by omega)
      have q0 : (4 : Int) ≤ (i : Int) := by omega
      have q1 : (i : Int) < 12 := by omega
      have q2 : (0 : Int) ≤ (i : Int) := by omega
      have HLT := Lib.hid hlt
      have HI := Lib.hid hi
      have HYB := Lib.hid hy
      clear hrow hch hk hlt e1 hi
      go_wp2
      go_roundw
      case rel => exact ⟨k + 1, by have := HLT.out; omega, congrArg (Value.int .i64) HE1.out, by first | (rw [HND.out, HV2.out]; done) | rw [HND.out], by rw [← HPS.out, ← u8s_set]; exact HSET.out, (by first | exact (HC.out.setCell (fun _ => rfl) _) | exact (HC.out.setCell (fun _ => rfl) _).drew)⟩
      case measure => have := HLT.out; simp [intOf] <;> omega
    · have hk8 : k = 8 := by omega
      subst hk8
      rw [nonceP_8] at hrow
      have HROW := Lib.hid hrow
      have HR2r := Lib.hid (HR2c.out.chg hch (fun e => by have := HG.out; omega))
      have HE := Lib.hid (HC4.out.andThen hch (fun b h e => by have := HG.out; omega))
      have q0 : ¬ (4 : Int) ≤ 11 - ((8 : Nat) : Int) := by decide
      clear hrow hch hk hlt
      simp only [show (11 : Int) - ((8 : Nat) : Int) = 3 from by decide]
      go_wp2_with (first | ((with_reducible show wpList _ _ _ (⟨some 27, .load 27 _, _, _, _, _⟩ :: _) _ _); refine wpList_load_Row rfl rfl rfl (HROW.out) Tryd.underlying27 rfl (by rw [u8s_length, HNX.out]; exact size12) ?_) | ((with_reducible show wpList _ _ _ (⟨_, .store 27 (.tmp 4) _, _, _, _, _⟩ :: _) _ _); refine wpList_store_Row (xs := u8s (nonceX s.iv n)) rfl rfl rfl (HR2r.out) (rfl) (by rw [u8s_length, u8s_length, HNX.out, List.length_replicate]) (by rw [u8s_length, HNX.out]; exact size12) (u8s_oneA _) ?_; intro w5 hr5 hc5 hs5; have HR5 := Lib.hid hr5; have HC5 := Lib.hid hc5; clear hr5 hc5 hs5))
      refine ret_row rfl rfl HR5.out Tryd.underlying27 rfl (by rw [u8s_length, HNX.out]; exact size12) rfl ?_
      exact ⟨rfl, HC5.out none_ w HE.out (fun h => by have := HG.out; omega)⟩
end Go.Proofs.YtidafbpiipjnlaaDoor
