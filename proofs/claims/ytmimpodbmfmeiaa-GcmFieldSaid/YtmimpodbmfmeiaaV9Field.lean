/- Layer 9 (gcm): the walk of the law GcmField. -/
import Derived.Test.YtmimpodbmfmeiaaV9Alive
import Derived.Test.YtmimpodbmfmeiaaV9Open
namespace Go.Proofs.Ytmimpodbmfmeiaa
open Go.RowKit

theorem xorB_range (x y : List Nat) : (List.range 16).map (fun i => x.getD i 0 ^^^ y.getD i 0) = xorB x y := rfl
set_option maxRecDepth 100000 in
set_option maxHeartbeats 8000000 in
theorem walk_GcmField (a b c : List Nat) (W : World) (ha : a.length = 16) (hab : ∀ x ∈ a, x < 256) (hb : b.length = 16) (hbb : ∀ x ∈ b, x < 256) (hc : c.length = 16) (hcb : ∀ x ∈ c, x < 256) :
    Calls Try.prog 6 #[.agg (u8s a).toArray, .agg (u8s b).toArray, .agg (u8s c).toArray] W fun e w' => e = .returned (.bool true) ∧ Chg none_ W w' := by
  have HAL := Lib.hid ha
  have HBL := Lib.hid hb
  have HCL := Lib.hid hc
  have HTB := Lib.hid (fun w => Times_any a b w ha hab hb hbb)
  have HTC := Lib.hid (fun w => Times_any a c w ha hab hc hcb)
  have HBB := Lib.hid (fun i => getD_lt hbb i (by decide))
  have HCB8 := Lib.hid (fun i => getD_lt hcb i (by decide))
  have hsl : (xorB b c).length = 16 := by simp [xorB]
  have hsb : ∀ x ∈ xorB b c, x < 256 := xorB_lt hbb hcb
  have HTS := Lib.hid (fun w => Times_any a (xorB b c) w ha hab hsl hsb)
  rw [tmsB_xor] at HTS
  have HTBA := Lib.hid (fun w => Times_any b a w hb hbb ha hab)
  rw [tmsB_comm b a] at HTBA
  have HTO : Hid (∀ w, Calls Try.prog 10 #[.agg (u8s a).toArray, .agg (u8s one9).toArray] w fun e w' => e = .returned (.agg (u8s a).toArray) ∧ Chg none_ w w') := Lib.hid (fun w => by
    have := Times_any a one9 w ha hab rfl (by decide)
    rwa [show tmsB a one9 = a from tmsB_one ha hab] at this)
  have HEA := Lib.hid (fun w => blk_eql a a ha ha w)
  rw [decide_eq_true rfl] at HEA
  have HTXL := Lib.hid (tmsB_len a b)
  have HTYL := Lib.hid (tmsB_len a c)
  have HTXB := Lib.hid (fun i => getD_lt (tmsB_lt a b) i (by decide))
  have HTYB := Lib.hid (fun i => getD_lt (tmsB_lt a c) i (by decide))
  generalize tmsB a b = X at HTB HTS HTBA HTXL HTXB
  generalize tmsB a c = Y at HTC HTS HTYL HTYB
  have HEX := Lib.hid (fun w => blk_eql X X HTXL.out HTXL.out w)
  rw [decide_eq_true rfl] at HEX
  have htl : (xorB X Y).length = 16 := by simp [xorB]
  have HXYL := Lib.hid htl
  have HET := Lib.hid (fun w => blk_eql (xorB X Y) (xorB X Y) htl htl w)
  rw [decide_eq_true rfl] at HET
  have HSLN := Lib.hid hsl
  obtain ⟨ONE, hONE⟩ : ∃ x, x = one9 := ⟨_, rfl⟩
  have HONE := Lib.hid bldOne
  rw [← hONE] at HTO HONE
  clear ha hab hb hbb hc hcb hsl hsb htl hONE
  go_enter Try.func6, Try.ntmps6
  go_wp2_with (first | ((with_reducible show wpList _ _ _ (⟨some 3, .box 22 _, _, _, _, _⟩ :: _) _ _); refine wpList_box_Row rfl rfl (u8s a) rfl ?_; intro wA hrA hcA hsA; have HRA := Lib.hid hrA; have HCA := Lib.hid hcA; clear hrA hcA hsA) | ((with_reducible show wpList _ _ _ (⟨some 4, .box 22 _, _, _, _, _⟩ :: _) _ _); refine wpList_box_Row rfl rfl (u8s b) rfl ?_; intro wB hrB hcB hsB; have HRB := Lib.hid hrB; have HCB := Lib.hid (HCA.out.trans hcB); have HRA1 := Lib.hid (HRA.out.chg hcB (fun h => h)); clear hrB hcB hsB) | ((with_reducible show wpList _ _ _ (⟨some 5, .box 22 _, _, _, _, _⟩ :: _) _ _); refine wpList_box_Row rfl rfl (u8s c) rfl ?_; intro wC hrC hcC hsC; have HRC := Lib.hid hrC; have HCC := Lib.hid (HCB.out.trans hcC); have HRA2 := Lib.hid (HRA1.out.chg hcC (fun h => h)); have HRB2 := Lib.hid (HRB.out.chg hcC (fun h => h)); clear hrC hcC hsC) | (go_at_call 9; refine (alive_any _).mono ?_; rintro e w3 ⟨rfl, hc3⟩; have HC3 := Lib.hid (HCC.out.trans hc3); have HRA3 := Lib.hid (HRA2.out.chg hc3 (fun h => h)); have HRB3 := Lib.hid (HRB2.out.chg hc3 (fun h => h)); have HRC3 := Lib.hid (HRC.out.chg hc3 (fun h => h)); clear hc3) | ((with_reducible show wpList _ _ _ (⟨some 7, .alloc 22, _, _, _, _⟩ :: _) _ _); refine wpList_alloc_Row rfl rfl (u8s (List.replicate 16 0)) zero22 ?_; intro wS hrS hcS hsS; have HRS := Lib.hid hrS; have HCS := Lib.hid (HC3.out.trans hcS); have HRA4 := Lib.hid (HRA3.out.chg hcS (fun h => h)); have HRB4 := Lib.hid (HRB3.out.chg hcS (fun h => h)); have HRC4 := Lib.hid (HRC3.out.chg hcS (fun h => h)); clear hrS hcS hsS) | ((with_reducible show wpList _ _ _ (⟨some 8, .alloc 22, _, _, _, _⟩ :: _) _ _); refine wpList_alloc_Row rfl rfl (u8s (List.replicate 16 0)) zero22 ?_; intro wT hrT hcT hsT; have HRT := Lib.hid hrT; have HCT := Lib.hid (HCS.out.trans hcT); have HRA5 := Lib.hid (HRA4.out.chg hcT (fun h => h)); have HRB5 := Lib.hid (HRB4.out.chg hcT (fun h => h)); have HRC5 := Lib.hid (HRC4.out.chg hcT (fun h => h)); have HRS5 := Lib.hid (HRS.out.chg hcT (fun h => h)); clear hrT hcT hsT))
  have HGA := Lib.hid (show W.heap.size < wA.heap.size from HRA.out.lt)
  have HGB := Lib.hid (show wA.heap.size < wB.heap.size from HRB.out.lt)
  have HGC := Lib.hid (show wB.heap.size < w3.heap.size from HRC3.out.lt)
  have HGS := Lib.hid (show w3.heap.size < wS.heap.size from HRS.out.lt)
  clear HRA HRA1 HRA2 HRA3 HRA4 HRB HRB2 HRB3 HRB4 HRC HRC3 HRC4 HRS HCA HCB HCC HC3 HCS
  try simp only [Act.put, List.setIfInBounds_toArray, List.set_cons_zero, List.set_cons_succ]
  go_loopw [9] (fun i wr => ∃ k : Nat, k ≤ 16 ∧ i = .int .i64 k ∧ Row wr w3.heap.size 22 (u8s (fillN (fun i => b.getD i 0 ^^^ c.getD i 0) 16 k)) ∧ Chg (· = w3.heap.size) wT wr) (fun i _ => 16 - (intOf i).toNat)
  case atStart => exact ⟨0, Nat.zero_le _, rfl, by rw [fillN_0]; exact HRS5.out, Chg.refl _ _⟩
  case round =>
    obtain ⟨k, hk, rfl, hrow, hch⟩ := hrel
    have HC := Lib.hid hch
    have hrB := HRB5.out.chg hch (fun e => by have := HGA.out; have := HGB.out; have := HGC.out; have := HGS.out; omega)
    have hrC := HRC5.out.chg hch (fun e => by have := HGA.out; have := HGB.out; have := HGC.out; have := HGS.out; omega)
    by_cases hlt : k < 16
    · have HFS := Lib.hid (fillN_set (fun i => b.getD i 0 ^^^ c.getD i 0) 16 k hlt)
      have c0 := Row.u8 hrow (i := k) (by rw [fillN_len _ _ _ hk]; exact hlt)
      have f0 := hrow.frozen k
      have c1 := Row.u8 hrB (i := k) (by rw [HBL.out]; exact hlt)
      have c2 := Row.u8 hrC (i := k) (by rw [HCL.out]; exact hlt)
      have HX := Lib.hid (u8_xor_nat (b.getD k 0) (c.getD k 0) (HBB.out k) (HCB8.out k))
      have HSET := Lib.hid (hrow.set k (.int .u8 ((b.getD k 0 ^^^ c.getD k 0 : Nat) : Int)))
      generalize (fillN (fun i => b.getD i 0 ^^^ c.getD i 0) 16 k).getD k 0 = z0 at c0
      generalize b.getD k 0 = x at c1 HX HSET HFS
      generalize c.getD k 0 = y at c2 HX HSET HFS
      clear hrow hch hrB hrC
      have q0 : (0 : Int) ≤ (k : Int) := by omega
      have q1 : (k : Int) < 16 := by omega
      go_wp2
      go_region
      go_wp2
      go_roundw
      case rel => exact ⟨k + 1, by omega, by go_num, by rw [HX.out, ← HFS.out, ← u8s_set]; exact HSET.out, (by first | exact (HC.out.setCell (fun _ => rfl) _).drew | exact (HC.out.drew.setCell (fun _ => rfl) _).drew)⟩
      case measure => simp [intOf]; omega
    · have hk6 : k = 16 := by omega
      subst hk6
      rw [fillN_all, xorB_range] at hrow
      obtain ⟨wL, hwL⟩ : ∃ x, x = wr := ⟨_, rfl⟩
      subst hwL
      have HRSL := Lib.hid hrow
      have HRAL := Lib.hid (HRA5.out.chg hch (fun e => by have := HGA.out; have := HGB.out; have := HGC.out; have := HGS.out; omega))
      have HRBL := Lib.hid hrB
      have HRCL := Lib.hid hrC
      have HRTL := Lib.hid (HRT.out.chg hch (fun e => by have := HGA.out; have := HGB.out; have := HGC.out; have := HGS.out; omega))
      have HCL0 := Lib.hid (HCT.out.andThen hch (fun b h e => by have := HGA.out; have := HGB.out; have := HGC.out; have := HGS.out; omega))
      have HGT := Lib.hid (show wS.heap.size < wL.heap.size from by have := HRT.out.lt; have := hch.size; omega)
      clear hrow hch hrB hrC HRA5 HRB5 HRC5 HRS5 HRT HCT HC hk hlt
      go_wp2
      refine Code.wp_mono (Q := fun e A' w' => e = .normal ∧ ∃ x y, A' = ⟨#[.agg (u8s a).toArray, .agg (u8s b).toArray, .agg (u8s c).toArray, .pointer (some ⟨W.heap.size, 0, none⟩), .pointer (some ⟨wA.heap.size, 0, none⟩), .pointer (some ⟨wB.heap.size, 0, none⟩), .bool false, .pointer (some ⟨w3.heap.size, 0, none⟩), .pointer (some ⟨wS.heap.size, 0, none⟩), .int .i64 ((16 : Nat) : Int), .pointer (some ⟨x, 0, none⟩), .pointer (some ⟨y, 0, none⟩), undef, .bool true, .bool false, .int .i64 ((16 : Nat) : Int), .bool false, u17, u18, u19, u20, u21, u22, u23, u24, u25, u26, u27, .agg (u8s a).toArray, .agg (u8s b).toArray, .agg (u8s X).toArray, .agg (u8s a).toArray, .agg (u8s c).toArray, .agg (u8s Y).toArray, undef, undef, undef, undef, undef, undef, undef, undef, undef, undef, undef, undef, undef, undef, undef, undef, undef, undef, undef, undef, undef, undef, undef, undef, undef, undef, undef, undef, undef, undef, undef, undef], []⟩ ∧ Row w' x 22 (u8s X) ∧ Row w' y 22 (u8s Y) ∧ ¬ x = y ∧ wL.heap.size ≤ x ∧ wL.heap.size ≤ y ∧ Chg none_ wL w') ?hq ?_
      case hq =>
        rintro _ _ wM ⟨rfl, x, y, rfl, hrx, hry, hxy, hx, hy, hcM⟩
        have HRX := Lib.hid hrx
        have HRY := Lib.hid hry
        have HXY := Lib.hid hxy
        have HXG := Lib.hid hx
        have HYG := Lib.hid hy
        have HCM := Lib.hid (HCL0.out.trans hcM)
        have HRAM := Lib.hid (HRAL.out.chg hcM (fun h => h))
        have HRBM := Lib.hid (HRBL.out.chg hcM (fun h => h))
        have HRSM := Lib.hid (HRSL.out.chg hcM (fun h => h))
        have HRTM := Lib.hid (HRTL.out.chg hcM (fun h => h))
        clear hrx hry hxy hx hy hcM HRAL HRBL HRCL HRSL HRTL
        go_wp2
        go_loopw [12] (fun i wr => ∃ k : Nat, k ≤ 16 ∧ i = .int .i64 k ∧ Row wr wS.heap.size 22 (u8s (fillN (fun i => X.getD i 0 ^^^ Y.getD i 0) 16 k)) ∧ Chg (· = wS.heap.size) wM wr) (fun i _ => 16 - (intOf i).toNat)
        case atStart => exact ⟨0, Nat.zero_le _, rfl, by rw [fillN_0]; exact HRTM.out, Chg.refl _ _⟩
        case round =>
          obtain ⟨k, hk, rfl, hrow, hch⟩ := hrel
          have HC := Lib.hid hch
          have hrX := HRX.out.chg hch (fun e => by have := HXG.out; have := HGT.out; omega)
          have hrY := HRY.out.chg hch (fun e => by have := HYG.out; have := HGT.out; omega)
          by_cases hlt : k < 16
          · have HFS := Lib.hid (fillN_set (fun i => X.getD i 0 ^^^ Y.getD i 0) 16 k hlt)
            have c0 := Row.u8 hrow (i := k) (by rw [fillN_len _ _ _ hk]; exact hlt)
            have f0 := hrow.frozen k
            have c1 := Row.u8 hrX (i := k) (by rw [HTXL.out]; exact hlt)
            have c2 := Row.u8 hrY (i := k) (by rw [HTYL.out]; exact hlt)
            have HX := Lib.hid (u8_xor_nat (X.getD k 0) (Y.getD k 0) (HTXB.out k) (HTYB.out k))
            have HSET := Lib.hid (hrow.set k (.int .u8 ((X.getD k 0 ^^^ Y.getD k 0 : Nat) : Int)))
            generalize (fillN (fun i => X.getD i 0 ^^^ Y.getD i 0) 16 k).getD k 0 = z0 at c0
            generalize X.getD k 0 = p at c1 HX HSET HFS
            generalize Y.getD k 0 = q at c2 HX HSET HFS
            clear hrow hch hrX hrY
            have q0 : (0 : Int) ≤ (k : Int) := by omega
            have q1 : (k : Int) < 16 := by omega
            go_wp2
            go_region
            go_wp2
            go_roundw
            case rel => exact ⟨k + 1, by omega, by go_num, by rw [HX.out, ← HFS.out, ← u8s_set]; exact HSET.out, (by first | exact (HC.out.setCell (fun _ => rfl) _).drew | exact (HC.out.drew.setCell (fun _ => rfl) _).drew)⟩
            case measure => simp [intOf]; omega
          · have hk6 : k = 16 := by omega
            subst hk6
            rw [fillN_all, xorB_range] at hrow
            obtain ⟨wZ, hwZ⟩ : ∃ x, x = wr := ⟨_, rfl⟩
            subst hwZ
            have HRTZ := Lib.hid hrow
            have HRXZ := Lib.hid hrX
            have HRAZ := Lib.hid (HRAM.out.chg hch (fun e => by have := HGA.out; have := HGB.out; have := HGC.out; have := HGS.out; omega))
            have HRBZ := Lib.hid (HRBM.out.chg hch (fun e => by have := HGA.out; have := HGB.out; have := HGC.out; have := HGS.out; omega))
            have HRSZ := Lib.hid (HRSM.out.chg hch (fun e => by have := HGA.out; have := HGB.out; have := HGC.out; have := HGS.out; omega))
            have HCZ := Lib.hid (HCM.out.andThen hch (fun b h e => by have := HGA.out; have := HGB.out; have := HGC.out; have := HGS.out; omega))
            clear hrow hch hrX hrY HC hk hlt HRAM HRBM HRSM HRTM HRX HRY
            go_wp2
            refine wp_region_held_drew (S := fun w' => Chg none_ wZ w') (by kernel_rfl) ((Chg.refl none_ wZ).drew) (fun hch0 => ?_)
            generalize wZ.drew = we at hch0 ⊢
            refine wpAnyH_take (i := 0) (v := .agg (u8s X).toArray) rfl (by kernel_rfl) (by kernel_rfl) (by kernel_rfl) (by first | exact fun _ _ _ h => h | exact fun _ _ _ h => nomatch h.1) (yieldsIf_load_mid (by rfl) 22 _ rfl x 0 rfl (u8s X) _ (fun w' hw' => (HRXZ.out.chg hw' (fun h => h)).range) Try.underlying22 rfl (by rw [u8s_length, HTXL.out]; exact size22)) hch0 ?_
            refine wpAnyH_take (i := 1) (v := .agg (u8s b).toArray) rfl (by kernel_rfl) (by kernel_rfl) (by kernel_rfl) (by first | exact fun _ _ _ h => h | exact fun _ _ _ h => nomatch h.1) (yieldsIf_load_mid (by rfl) 22 _ rfl wA.heap.size 0 rfl (u8s b) _ (fun w' hw' => (HRBZ.out.chg hw' (fun h => h)).range) Try.underlying22 rfl (by rw [u8s_length, HBL.out]; exact size22)) hch0 ?_
            refine wpAnyH_take (i := 2) (v := .agg (u8s a).toArray) rfl (by kernel_rfl) (by kernel_rfl) (by kernel_rfl) (by first | exact fun _ _ _ h => h | exact fun _ _ _ h => nomatch h.1) (yieldsIf_load_mid (by rfl) 22 _ rfl W.heap.size 0 rfl (u8s a) _ (fun w' hw' => (HRAZ.out.chg hw' (fun h => h)).range) Try.underlying22 rfl (by rw [u8s_length, HAL.out]; exact size22)) hch0 ?_
            try simp only [Act.put, List.setIfInBounds_toArray, List.set_cons_zero, List.set_cons_succ, List.getElem_toArray, List.getElem_cons_succ, List.getElem_cons_zero]
            refine wpAnyH_ready (rs := [3]) (by kernel_rfl) (by simp) ?_
            refine AllReadyH.cons rfl (fun K hK => ?_) AllReadyH.nil
            rw [if_pos (by rfl)]
            try simp only [List.getElem_toArray, List.getElem_cons_succ, List.getElem_cons_zero]
            go_simp
            refine (HTBA.out _).mono ?_
            rintro e z3 ⟨rfl, hz3⟩
            have hch3 : Chg none_ wZ z3 := hch0.trans hz3
            refine hK.out _ _ (hch3) (fun _ => ?_)
            clear hK K
            try simp only [Act.put, List.setIfInBounds_toArray, List.set_cons_zero, List.set_cons_succ, List.getElem_toArray, List.getElem_cons_succ, List.getElem_cons_zero]
            refine wpAnyH_take (i := 4) (v := .bool true) rfl (by kernel_rfl) (by kernel_rfl) (by kernel_rfl) (by first | exact fun _ _ _ h => h | exact fun _ _ _ h => nomatch h.1) (yieldsIf_eql (by rfl) 22 _ _ _ rfl (u8s X).toArray (u8s X).toArray rfl rfl true (fun w => run_eqGuard_agg w .eql 22 _ _ _ _ Try.eqGuardType22) (fun w _ => HEX.out w)) hch3 ?_
            refine wpAnyH_take (i := 5) (v := .bool true) rfl (by kernel_rfl) (by kernel_rfl) (by kernel_rfl) (by first | exact fun _ _ _ h => h | exact fun _ _ _ h => nomatch h.1) (Or.inl ⟨by rfl, fun w_ hw_ => by go_simp⟩) hch3 ?_
            try simp only [Act.put, List.setIfInBounds_toArray, List.set_cons_zero, List.set_cons_succ, List.getElem_toArray, List.getElem_cons_succ, List.getElem_cons_zero]
            refine wpAnyH_take (i := 6) (v := .agg (u8s a).toArray) rfl (by kernel_rfl) (by kernel_rfl) (by kernel_rfl) (by first | exact fun _ _ _ h => h | exact fun _ _ _ h => nomatch h.1) (yieldsIf_load_mid (by rfl) 22 _ rfl W.heap.size 0 rfl (u8s a) _ (fun w' hw' => (HRAZ.out.chg hw' (fun h => h)).range) Try.underlying22 rfl (by rw [u8s_length, HAL.out]; exact size22)) hch3 ?_
            refine wpAnyH_take (i := 7) (v := .agg (u8s (xorB b c)).toArray) rfl (by kernel_rfl) (by kernel_rfl) (by kernel_rfl) (by first | exact fun _ _ _ h => h | exact fun _ _ _ h => nomatch h.1) (yieldsIf_load_mid (by rfl) 22 _ rfl w3.heap.size 0 rfl (u8s (xorB b c)) _ (fun w' hw' => (HRSZ.out.chg hw' (fun h => h)).range) Try.underlying22 rfl (by rw [u8s_length, HSLN.out]; exact size22)) hch3 ?_
            refine wpAnyH_take (i := 9) (v := .agg (u8s (xorB X Y)).toArray) rfl (by kernel_rfl) (by kernel_rfl) (by kernel_rfl) (by first | exact fun _ _ _ h => h | exact fun _ _ _ h => nomatch h.1) (yieldsIf_load_mid (by rfl) 22 _ rfl wS.heap.size 0 rfl (u8s (xorB X Y)) _ (fun w' hw' => (HRTZ.out.chg hw' (fun h => h)).range) Try.underlying22 rfl (by rw [u8s_length, HXYL.out]; exact size22)) hch3 ?_
            try simp only [Act.put, List.setIfInBounds_toArray, List.set_cons_zero, List.set_cons_succ, List.getElem_toArray, List.getElem_cons_succ, List.getElem_cons_zero]
            refine wpAnyH_ready (rs := [8]) (by kernel_rfl) (by simp) ?_
            refine AllReadyH.cons rfl (fun K hK => ?_) AllReadyH.nil
            rw [if_pos (by rfl)]
            try simp only [List.getElem_toArray, List.getElem_cons_succ, List.getElem_cons_zero]
            go_simp
            refine (HTS.out _).mono ?_
            rintro e z8 ⟨rfl, hz8⟩
            have hch8 : Chg none_ wZ z8 := hch3.trans hz8
            refine hK.out _ _ (hch8) (fun _ => ?_)
            clear hK K
            try simp only [Act.put, List.setIfInBounds_toArray, List.set_cons_zero, List.set_cons_succ, List.getElem_toArray, List.getElem_cons_succ, List.getElem_cons_zero]
            refine wpAnyH_take (i := 10) (v := .bool true) rfl (by kernel_rfl) (by kernel_rfl) (by kernel_rfl) (by first | exact fun _ _ _ h => h | exact fun _ _ _ h => nomatch h.1) (yieldsIf_eql (by rfl) 22 _ _ _ rfl (u8s (xorB X Y)).toArray (u8s (xorB X Y)).toArray rfl rfl true (fun w => run_eqGuard_agg w .eql 22 _ _ _ _ Try.eqGuardType22) (fun w _ => HET.out w)) hch8 ?_
            try simp only [Act.put, List.setIfInBounds_toArray, List.set_cons_zero, List.set_cons_succ, List.getElem_toArray, List.getElem_cons_succ, List.getElem_cons_zero]
            refine wpAnyH_take (i := 11) (v := .bool true) rfl (by kernel_rfl) (by kernel_rfl) (by kernel_rfl) (by first | exact fun _ _ _ h => h | exact fun _ _ _ h => nomatch h.1) (Or.inl ⟨by rfl, fun w_ hw_ => by go_simp⟩) hch8 ?_
            refine wpAnyH_take (i := 12) (v := .bool true) rfl (by kernel_rfl) (by kernel_rfl) (by kernel_rfl) (by first | exact fun _ _ _ h => h | exact fun _ _ _ h => nomatch h.1) (Or.inl ⟨by rfl, fun w_ hw_ => by go_simp⟩) hch8 ?_
            try simp only [Act.put, List.setIfInBounds_toArray, List.set_cons_zero, List.set_cons_succ, List.getElem_toArray, List.getElem_cons_succ, List.getElem_cons_zero]
            refine wpAnyH_take (i := 13) (v := .agg (u8s a).toArray) rfl (by kernel_rfl) (by kernel_rfl) (by kernel_rfl) (by first | exact fun _ _ _ h => h | exact fun _ _ _ h => nomatch h.1) (yieldsIf_load_mid (by rfl) 22 _ rfl W.heap.size 0 rfl (u8s a) _ (fun w' hw' => (HRAZ.out.chg hw' (fun h => h)).range) Try.underlying22 rfl (by rw [u8s_length, HAL.out]; exact size22)) hch8 ?_
            refine wpAnyH_take (i := 14) (v := .agg (u8s ONE).toArray) rfl (by kernel_rfl) (by kernel_rfl) (by kernel_rfl) (by first | exact fun _ _ _ h => h | exact fun _ _ _ h => nomatch h.1) (Or.inl ⟨by rfl, fun w_ hw_ => by have := HONE.out w_; unfold execOp; simp [Act.eval, this]⟩) hch8 ?_
            refine wpAnyH_take (i := 16) (v := .agg (u8s a).toArray) rfl (by kernel_rfl) (by kernel_rfl) (by kernel_rfl) (by first | exact fun _ _ _ h => h | exact fun _ _ _ h => nomatch h.1) (yieldsIf_load_mid (by rfl) 22 _ rfl W.heap.size 0 rfl (u8s a) _ (fun w' hw' => (HRAZ.out.chg hw' (fun h => h)).range) Try.underlying22 rfl (by rw [u8s_length, HAL.out]; exact size22)) hch8 ?_
            try simp only [Act.put, List.setIfInBounds_toArray, List.set_cons_zero, List.set_cons_succ, List.getElem_toArray, List.getElem_cons_succ, List.getElem_cons_zero]
            refine wpAnyH_ready (rs := [15]) (by kernel_rfl) (by simp) ?_
            refine AllReadyH.cons rfl (fun K hK => ?_) AllReadyH.nil
            rw [if_pos (by rfl)]
            try simp only [List.getElem_toArray, List.getElem_cons_succ, List.getElem_cons_zero]
            go_simp
            refine (HTO.out _).mono ?_
            rintro e z15 ⟨rfl, hz15⟩
            have hch15 : Chg none_ wZ z15 := hch8.trans hz15
            refine hK.out _ _ (hch15) (fun _ => ?_)
            clear hK K
            try simp only [Act.put, List.setIfInBounds_toArray, List.set_cons_zero, List.set_cons_succ, List.getElem_toArray, List.getElem_cons_succ, List.getElem_cons_zero]
            refine wpAnyH_take (i := 17) (v := .bool true) rfl (by kernel_rfl) (by kernel_rfl) (by kernel_rfl) (by first | exact fun _ _ _ h => h | exact fun _ _ _ h => nomatch h.1) (yieldsIf_eql (by rfl) 22 _ _ _ rfl (u8s a).toArray (u8s a).toArray rfl rfl true (fun w => run_eqGuard_agg w .eql 22 _ _ _ _ Try.eqGuardType22) (fun w _ => HEA.out w)) hch15 ?_
            try simp only [Act.put, List.setIfInBounds_toArray, List.set_cons_zero, List.set_cons_succ, List.getElem_toArray, List.getElem_cons_succ, List.getElem_cons_zero]
            refine wpAnyH_take (i := 18) (v := .bool true) rfl (by kernel_rfl) (by kernel_rfl) (by kernel_rfl) (by first | exact fun _ _ _ h => h | exact fun _ _ _ h => nomatch h.1) (Or.inl ⟨by rfl, fun w_ hw_ => by go_simp⟩) hch15 ?_
            try simp only [Act.put, List.setIfInBounds_toArray, List.set_cons_zero, List.set_cons_succ, List.getElem_toArray, List.getElem_cons_succ, List.getElem_cons_zero]
            refine wpAnyH_take (i := 19) (v := .bool true) rfl (by kernel_rfl) (by kernel_rfl) (by kernel_rfl) (by first | exact fun _ _ _ h => h | exact fun _ _ _ h => nomatch h.1) (Or.inl ⟨by rfl, fun w_ hw_ => by go_simp⟩) hch15 ?_
            try simp only [Act.put, List.setIfInBounds_toArray, List.set_cons_zero, List.set_cons_succ, List.getElem_toArray, List.getElem_cons_succ, List.getElem_cons_zero]
            refine wpAnyH_done (by kernel_rfl) ?_ _
            go_wp2
            go_ret
            exact ⟨rfl, HCZ.out.trans hch15⟩
      refine wp_region_held_drew (S := fun w' => Chg none_ wL w') (by kernel_rfl) ((Chg.refl none_ wL).drew) (fun hch0 => ?_)
      generalize wL.drew = wd at hch0 ⊢
      refine wpAnyH_take (i := 0) (v := .agg (u8s a).toArray) rfl (by kernel_rfl) (by kernel_rfl) (by kernel_rfl) (by first | exact fun _ _ _ h => h | exact fun _ _ _ h => nomatch h.1) (yieldsIf_load_mid (by rfl) 22 _ rfl W.heap.size 0 rfl (u8s a) _ (fun w' hw' => (HRAL.out.chg hw' (fun h => h)).range) Try.underlying22 rfl (by rw [u8s_length, HAL.out]; exact size22)) hch0 ?_
      refine wpAnyH_take (i := 1) (v := .agg (u8s b).toArray) rfl (by kernel_rfl) (by kernel_rfl) (by kernel_rfl) (by first | exact fun _ _ _ h => h | exact fun _ _ _ h => nomatch h.1) (yieldsIf_load_mid (by rfl) 22 _ rfl wA.heap.size 0 rfl (u8s b) _ (fun w' hw' => (HRBL.out.chg hw' (fun h => h)).range) Try.underlying22 rfl (by rw [u8s_length, HBL.out]; exact size22)) hch0 ?_
      refine wpAnyH_take (i := 3) (v := .agg (u8s a).toArray) rfl (by kernel_rfl) (by kernel_rfl) (by kernel_rfl) (by first | exact fun _ _ _ h => h | exact fun _ _ _ h => nomatch h.1) (yieldsIf_load_mid (by rfl) 22 _ rfl W.heap.size 0 rfl (u8s a) _ (fun w' hw' => (HRAL.out.chg hw' (fun h => h)).range) Try.underlying22 rfl (by rw [u8s_length, HAL.out]; exact size22)) hch0 ?_
      refine wpAnyH_take (i := 4) (v := .agg (u8s c).toArray) rfl (by kernel_rfl) (by kernel_rfl) (by kernel_rfl) (by first | exact fun _ _ _ h => h | exact fun _ _ _ h => nomatch h.1) (yieldsIf_load_mid (by rfl) 22 _ rfl wB.heap.size 0 rfl (u8s c) _ (fun w' hw' => (HRCL.out.chg hw' (fun h => h)).range) Try.underlying22 rfl (by rw [u8s_length, HCL.out]; exact size22)) hch0 ?_
      try simp only [Act.put, List.setIfInBounds_toArray, List.set_cons_zero, List.set_cons_succ, List.getElem_toArray, List.getElem_cons_succ, List.getElem_cons_zero]
      refine wpAnyH_ready (rs := [2, 6, 7]) (by kernel_rfl) (by simp) ?_
      refine (AllReadyH.cons rfl (fun K hK => ?_) (AllReadyH.cons rfl (fun K hK => ?_) (AllReadyH.cons rfl (fun K hK => ?_) AllReadyH.nil)))
      · rw [if_pos (by rfl)]
        try simp only [List.getElem_toArray, List.getElem_cons_succ, List.getElem_cons_zero]
        go_simp
        refine (HTB.out _).mono ?_
        rintro e y1 ⟨rfl, hcy1⟩
        have hch1 : Chg none_ wL y1 := hch0.trans hcy1
        refine hK.out _ _ (hch1) (fun _ => ?_)
        clear hK K
        try simp only [Act.put, List.setIfInBounds_toArray, List.set_cons_zero, List.set_cons_succ, List.getElem_toArray, List.getElem_cons_succ, List.getElem_cons_zero]
        refine wpAnyH_ready (rs := [5, 6, 7]) (by kernel_rfl) (by simp) ?_
        refine (AllReadyH.cons rfl (fun K hK => ?_) (AllReadyH.cons rfl (fun K hK => ?_) (AllReadyH.cons rfl (fun K hK => ?_) AllReadyH.nil)))
        · rw [if_pos (by rfl)]
          try simp only [List.getElem_toArray, List.getElem_cons_succ, List.getElem_cons_zero]
          go_simp
          refine (HTC.out _).mono ?_
          rintro e y2 ⟨rfl, hcy2⟩
          have hch2 : Chg none_ wL y2 := hch1.trans hcy2
          refine hK.out _ _ (hch2) (fun _ => ?_)
          clear hK K
          try simp only [Act.put, List.setIfInBounds_toArray, List.set_cons_zero, List.set_cons_succ, List.getElem_toArray, List.getElem_cons_succ, List.getElem_cons_zero]
          refine wpAnyH_ready (rs := [6, 7]) (by kernel_rfl) (by simp) ?_
          refine (AllReadyH.cons rfl (fun K hK => ?_) (AllReadyH.cons rfl (fun K hK => ?_) AllReadyH.nil))
          · rw [if_pos (by rfl)]
            try simp only [List.getElem_toArray, List.getElem_cons_succ, List.getElem_cons_zero]
            refine wp_alloc_row rfl (u8s (List.replicate 16 0)) zero22 ?_
            intro y3 hry3 hcy3 hsy3
            clear hsy3
            have hch3 : Chg none_ wL y3 := hch2.trans hcy3
            have hb3 := hch2.size
            refine hK.out _ _ (hch3) (fun _ => ?_)
            clear hK K
            try simp only [Act.put, List.setIfInBounds_toArray, List.set_cons_zero, List.set_cons_succ]
            refine wpAnyH_ready (rs := [7]) (by kernel_rfl) (by simp) ?_
            refine AllReadyH.cons rfl (fun K hK => ?_) AllReadyH.nil
            rw [if_pos (by rfl)]
            try simp only [List.getElem_toArray, List.getElem_cons_succ, List.getElem_cons_zero]
            refine wp_alloc_row rfl (u8s (List.replicate 16 0)) zero22 ?_
            intro y4 hry4 hcy4 hsy4
            clear hsy4
            have hch4 : Chg none_ wL y4 := hch3.trans hcy4
            have hb4 := hch3.size
            have hl4 := hry3.lt
            have hr4_6 := hry3.chg hcy4 (fun h => h)
            refine hK.out _ _ (hch4) (fun _ => ?_)
            clear hK K
            try simp only [Act.put, List.setIfInBounds_toArray, List.set_cons_zero, List.set_cons_succ]
            refine wpAnyH_ready (rs := [8]) (by kernel_rfl) (by simp) ?_
            refine AllReadyH.cons rfl (fun K hK => ?_) AllReadyH.nil
            rw [if_pos (by rfl)]
            try simp only [List.getElem_toArray, List.getElem_cons_succ, List.getElem_cons_zero]
            refine wp_store_row (ty := 22) (xs := u8s X) rfl rfl (hr4_6) rfl (by rw [u8s_length, u8s_length, HTXL.out, List.length_replicate]) (by rw [u8s_length, HTXL.out]; exact size22) (u8s_oneA _) ?_
            intro wS8 hr_wS8 hc_wS8 hs_wS8
            refine hK.out _ _ (hc_wS8 none_ wL hch4 (fun h => by omega)) (fun _ => ?_)
            clear hK K
            try simp only [Act.put]
            have hchS : Chg none_ wL wS8 := hc_wS8 none_ wL hch4 (fun h => by omega)
            have hry8 := hry4.chg (hc_wS8 (· = y2.heap.size) y4 (Chg.refl _ _) (fun _ => rfl)) (fun e => by omega)
            refine wpAnyH_ready (rs := [9]) (by kernel_rfl) (by simp) ?_
            refine AllReadyH.cons rfl (fun K hK => ?_) AllReadyH.nil
            rw [if_pos (by rfl)]
            try simp only [List.getElem_toArray, List.getElem_cons_succ, List.getElem_cons_zero]
            refine wp_store_row (ty := 22) (xs := u8s Y) rfl rfl (hry8) rfl (by rw [u8s_length, u8s_length, HTYL.out, List.length_replicate]) (by rw [u8s_length, HTYL.out]; exact size22) (u8s_oneA _) ?_
            intro wS9 hr_wS9 hc_wS9 hs_wS9
            refine hK.out _ _ (hc_wS9 none_ wL hchS (fun h => by omega)) (fun _ => ?_)
            clear hK K
            try simp only [Act.put]
            have hchT : Chg none_ wL wS9 := hc_wS9 none_ wL hchS (fun h => by omega)
            have hrx9 := hr_wS8.chg (hc_wS9 (· = y3.heap.size) wS8 (Chg.refl _ _) (fun _ => rfl)) (fun e => by omega)
            refine wpAnyH_done (by kernel_rfl) ?_ _
            exact ⟨rfl, y2.heap.size, y3.heap.size, rfl, hrx9, hr_wS9, by omega, by omega, by omega, hchT⟩
          · rw [if_pos (by rfl)]
            try simp only [List.getElem_toArray, List.getElem_cons_succ, List.getElem_cons_zero]
            refine wp_alloc_row rfl (u8s (List.replicate 16 0)) zero22 ?_
            intro y5 hry5 hcy5 hsy5
            clear hsy5
            have hch5 : Chg none_ wL y5 := hch2.trans hcy5
            have hb5 := hch2.size
            refine hK.out _ _ (hch5) (fun _ => ?_)
            clear hK K
            try simp only [Act.put, List.setIfInBounds_toArray, List.set_cons_zero, List.set_cons_succ]
            refine wpAnyH_ready (rs := [6]) (by kernel_rfl) (by simp) ?_
            refine AllReadyH.cons rfl (fun K hK => ?_) AllReadyH.nil
            rw [if_pos (by rfl)]
            try simp only [List.getElem_toArray, List.getElem_cons_succ, List.getElem_cons_zero]
            refine wp_alloc_row rfl (u8s (List.replicate 16 0)) zero22 ?_
            intro y6 hry6 hcy6 hsy6
            clear hsy6
            have hch6 : Chg none_ wL y6 := hch5.trans hcy6
            have hb6 := hch5.size
            have hl6 := hry5.lt
            have hr6_7 := hry5.chg hcy6 (fun h => h)
            refine hK.out _ _ (hch6) (fun _ => ?_)
            clear hK K
            try simp only [Act.put, List.setIfInBounds_toArray, List.set_cons_zero, List.set_cons_succ]
            refine wpAnyH_ready (rs := [8]) (by kernel_rfl) (by simp) ?_
            refine AllReadyH.cons rfl (fun K hK => ?_) AllReadyH.nil
            rw [if_pos (by rfl)]
            try simp only [List.getElem_toArray, List.getElem_cons_succ, List.getElem_cons_zero]
            refine wp_store_row (ty := 22) (xs := u8s X) rfl rfl (hry6) rfl (by rw [u8s_length, u8s_length, HTXL.out, List.length_replicate]) (by rw [u8s_length, HTXL.out]; exact size22) (u8s_oneA _) ?_
            intro wS8 hr_wS8 hc_wS8 hs_wS8
            refine hK.out _ _ (hc_wS8 none_ wL hch6 (fun h => by omega)) (fun _ => ?_)
            clear hK K
            try simp only [Act.put]
            have hchS : Chg none_ wL wS8 := hc_wS8 none_ wL hch6 (fun h => by omega)
            have hry8 := hr6_7.chg (hc_wS8 (· = y5.heap.size) y6 (Chg.refl _ _) (fun _ => rfl)) (fun e => by omega)
            refine wpAnyH_ready (rs := [9]) (by kernel_rfl) (by simp) ?_
            refine AllReadyH.cons rfl (fun K hK => ?_) AllReadyH.nil
            rw [if_pos (by rfl)]
            try simp only [List.getElem_toArray, List.getElem_cons_succ, List.getElem_cons_zero]
            refine wp_store_row (ty := 22) (xs := u8s Y) rfl rfl (hry8) rfl (by rw [u8s_length, u8s_length, HTYL.out, List.length_replicate]) (by rw [u8s_length, HTYL.out]; exact size22) (u8s_oneA _) ?_
            intro wS9 hr_wS9 hc_wS9 hs_wS9
            refine hK.out _ _ (hc_wS9 none_ wL hchS (fun h => by omega)) (fun _ => ?_)
            clear hK K
            try simp only [Act.put]
            have hchT : Chg none_ wL wS9 := hc_wS9 none_ wL hchS (fun h => by omega)
            have hrx9 := hr_wS8.chg (hc_wS9 (· = y2.heap.size) wS8 (Chg.refl _ _) (fun _ => rfl)) (fun e => by omega)
            refine wpAnyH_done (by kernel_rfl) ?_ _
            exact ⟨rfl, y5.heap.size, y2.heap.size, rfl, hrx9, hr_wS9, by omega, by omega, by omega, hchT⟩
        · rw [if_pos (by rfl)]
          try simp only [List.getElem_toArray, List.getElem_cons_succ, List.getElem_cons_zero]
          refine wp_alloc_row rfl (u8s (List.replicate 16 0)) zero22 ?_
          intro y7 hry7 hcy7 hsy7
          clear hsy7
          have hch7 : Chg none_ wL y7 := hch1.trans hcy7
          have hb7 := hch1.size
          refine hK.out _ _ (hch7) (fun _ => ?_)
          clear hK K
          try simp only [Act.put, List.setIfInBounds_toArray, List.set_cons_zero, List.set_cons_succ]
          refine wpAnyH_ready (rs := [5, 7]) (by kernel_rfl) (by simp) ?_
          refine (AllReadyH.cons rfl (fun K hK => ?_) (AllReadyH.cons rfl (fun K hK => ?_) AllReadyH.nil))
          · rw [if_pos (by rfl)]
            try simp only [List.getElem_toArray, List.getElem_cons_succ, List.getElem_cons_zero]
            go_simp
            refine (HTC.out _).mono ?_
            rintro e y8 ⟨rfl, hcy8⟩
            have hch8 : Chg none_ wL y8 := hch7.trans hcy8
            have hr8_6 := hry7.chg hcy8 (fun h => h)
            refine hK.out _ _ (hch8) (fun _ => ?_)
            clear hK K
            try simp only [Act.put, List.setIfInBounds_toArray, List.set_cons_zero, List.set_cons_succ, List.getElem_toArray, List.getElem_cons_succ, List.getElem_cons_zero]
            refine wpAnyH_ready (rs := [7]) (by kernel_rfl) (by simp) ?_
            refine AllReadyH.cons rfl (fun K hK => ?_) AllReadyH.nil
            rw [if_pos (by rfl)]
            try simp only [List.getElem_toArray, List.getElem_cons_succ, List.getElem_cons_zero]
            refine wp_alloc_row rfl (u8s (List.replicate 16 0)) zero22 ?_
            intro y9 hry9 hcy9 hsy9
            clear hsy9
            have hch9 : Chg none_ wL y9 := hch8.trans hcy9
            have hb9 := hch8.size
            have hl9 := hr8_6.lt
            have hr9_6 := hr8_6.chg hcy9 (fun h => h)
            refine hK.out _ _ (hch9) (fun _ => ?_)
            clear hK K
            try simp only [Act.put, List.setIfInBounds_toArray, List.set_cons_zero, List.set_cons_succ]
            refine wpAnyH_ready (rs := [8]) (by kernel_rfl) (by simp) ?_
            refine AllReadyH.cons rfl (fun K hK => ?_) AllReadyH.nil
            rw [if_pos (by rfl)]
            try simp only [List.getElem_toArray, List.getElem_cons_succ, List.getElem_cons_zero]
            refine wp_store_row (ty := 22) (xs := u8s X) rfl rfl (hr9_6) rfl (by rw [u8s_length, u8s_length, HTXL.out, List.length_replicate]) (by rw [u8s_length, HTXL.out]; exact size22) (u8s_oneA _) ?_
            intro wS8 hr_wS8 hc_wS8 hs_wS8
            refine hK.out _ _ (hc_wS8 none_ wL hch9 (fun h => by omega)) (fun _ => ?_)
            clear hK K
            try simp only [Act.put]
            have hchS : Chg none_ wL wS8 := hc_wS8 none_ wL hch9 (fun h => by omega)
            have hry8 := hry9.chg (hc_wS8 (· = y1.heap.size) y9 (Chg.refl _ _) (fun _ => rfl)) (fun e => by omega)
            refine wpAnyH_ready (rs := [9]) (by kernel_rfl) (by simp) ?_
            refine AllReadyH.cons rfl (fun K hK => ?_) AllReadyH.nil
            rw [if_pos (by rfl)]
            try simp only [List.getElem_toArray, List.getElem_cons_succ, List.getElem_cons_zero]
            refine wp_store_row (ty := 22) (xs := u8s Y) rfl rfl (hry8) rfl (by rw [u8s_length, u8s_length, HTYL.out, List.length_replicate]) (by rw [u8s_length, HTYL.out]; exact size22) (u8s_oneA _) ?_
            intro wS9 hr_wS9 hc_wS9 hs_wS9
            refine hK.out _ _ (hc_wS9 none_ wL hchS (fun h => by omega)) (fun _ => ?_)
            clear hK K
            try simp only [Act.put]
            have hchT : Chg none_ wL wS9 := hc_wS9 none_ wL hchS (fun h => by omega)
            have hrx9 := hr_wS8.chg (hc_wS9 (· = y8.heap.size) wS8 (Chg.refl _ _) (fun _ => rfl)) (fun e => by omega)
            refine wpAnyH_done (by kernel_rfl) ?_ _
            exact ⟨rfl, y1.heap.size, y8.heap.size, rfl, hrx9, hr_wS9, by omega, by omega, by omega, hchT⟩
          · rw [if_pos (by rfl)]
            try simp only [List.getElem_toArray, List.getElem_cons_succ, List.getElem_cons_zero]
            refine wp_alloc_row rfl (u8s (List.replicate 16 0)) zero22 ?_
            intro y10 hry10 hcy10 hsy10
            clear hsy10
            have hch10 : Chg none_ wL y10 := hch7.trans hcy10
            have hb10 := hch7.size
            have hl10 := hry7.lt
            have hr10_6 := hry7.chg hcy10 (fun h => h)
            refine hK.out _ _ (hch10) (fun _ => ?_)
            clear hK K
            try simp only [Act.put, List.setIfInBounds_toArray, List.set_cons_zero, List.set_cons_succ]
            refine wpAnyH_ready (rs := [5]) (by kernel_rfl) (by simp) ?_
            refine AllReadyH.cons rfl (fun K hK => ?_) AllReadyH.nil
            rw [if_pos (by rfl)]
            try simp only [List.getElem_toArray, List.getElem_cons_succ, List.getElem_cons_zero]
            go_simp
            refine (HTC.out _).mono ?_
            rintro e y11 ⟨rfl, hcy11⟩
            have hch11 : Chg none_ wL y11 := hch10.trans hcy11
            have hr11_6 := hr10_6.chg hcy11 (fun h => h)
            have hr11_7 := hry10.chg hcy11 (fun h => h)
            refine hK.out _ _ (hch11) (fun _ => ?_)
            clear hK K
            try simp only [Act.put, List.setIfInBounds_toArray, List.set_cons_zero, List.set_cons_succ, List.getElem_toArray, List.getElem_cons_succ, List.getElem_cons_zero]
            refine wpAnyH_ready (rs := [8]) (by kernel_rfl) (by simp) ?_
            refine AllReadyH.cons rfl (fun K hK => ?_) AllReadyH.nil
            rw [if_pos (by rfl)]
            try simp only [List.getElem_toArray, List.getElem_cons_succ, List.getElem_cons_zero]
            refine wp_store_row (ty := 22) (xs := u8s X) rfl rfl (hr11_6) rfl (by rw [u8s_length, u8s_length, HTXL.out, List.length_replicate]) (by rw [u8s_length, HTXL.out]; exact size22) (u8s_oneA _) ?_
            intro wS8 hr_wS8 hc_wS8 hs_wS8
            refine hK.out _ _ (hc_wS8 none_ wL hch11 (fun h => by omega)) (fun _ => ?_)
            clear hK K
            try simp only [Act.put]
            have hchS : Chg none_ wL wS8 := hc_wS8 none_ wL hch11 (fun h => by omega)
            have hry8 := hr11_7.chg (hc_wS8 (· = y1.heap.size) y11 (Chg.refl _ _) (fun _ => rfl)) (fun e => by omega)
            refine wpAnyH_ready (rs := [9]) (by kernel_rfl) (by simp) ?_
            refine AllReadyH.cons rfl (fun K hK => ?_) AllReadyH.nil
            rw [if_pos (by rfl)]
            try simp only [List.getElem_toArray, List.getElem_cons_succ, List.getElem_cons_zero]
            refine wp_store_row (ty := 22) (xs := u8s Y) rfl rfl (hry8) rfl (by rw [u8s_length, u8s_length, HTYL.out, List.length_replicate]) (by rw [u8s_length, HTYL.out]; exact size22) (u8s_oneA _) ?_
            intro wS9 hr_wS9 hc_wS9 hs_wS9
            refine hK.out _ _ (hc_wS9 none_ wL hchS (fun h => by omega)) (fun _ => ?_)
            clear hK K
            try simp only [Act.put]
            have hchT : Chg none_ wL wS9 := hc_wS9 none_ wL hchS (fun h => by omega)
            have hrx9 := hr_wS8.chg (hc_wS9 (· = y7.heap.size) wS8 (Chg.refl _ _) (fun _ => rfl)) (fun e => by omega)
            refine wpAnyH_done (by kernel_rfl) ?_ _
            exact ⟨rfl, y1.heap.size, y7.heap.size, rfl, hrx9, hr_wS9, by omega, by omega, by omega, hchT⟩
        · rw [if_pos (by rfl)]
          try simp only [List.getElem_toArray, List.getElem_cons_succ, List.getElem_cons_zero]
          refine wp_alloc_row rfl (u8s (List.replicate 16 0)) zero22 ?_
          intro y12 hry12 hcy12 hsy12
          clear hsy12
          have hch12 : Chg none_ wL y12 := hch1.trans hcy12
          have hb12 := hch1.size
          refine hK.out _ _ (hch12) (fun _ => ?_)
          clear hK K
          try simp only [Act.put, List.setIfInBounds_toArray, List.set_cons_zero, List.set_cons_succ]
          refine wpAnyH_ready (rs := [5, 6]) (by kernel_rfl) (by simp) ?_
          refine (AllReadyH.cons rfl (fun K hK => ?_) (AllReadyH.cons rfl (fun K hK => ?_) AllReadyH.nil))
          · rw [if_pos (by rfl)]
            try simp only [List.getElem_toArray, List.getElem_cons_succ, List.getElem_cons_zero]
            go_simp
            refine (HTC.out _).mono ?_
            rintro e y13 ⟨rfl, hcy13⟩
            have hch13 : Chg none_ wL y13 := hch12.trans hcy13
            have hr13_7 := hry12.chg hcy13 (fun h => h)
            refine hK.out _ _ (hch13) (fun _ => ?_)
            clear hK K
            try simp only [Act.put, List.setIfInBounds_toArray, List.set_cons_zero, List.set_cons_succ, List.getElem_toArray, List.getElem_cons_succ, List.getElem_cons_zero]
            refine wpAnyH_ready (rs := [6]) (by kernel_rfl) (by simp) ?_
            refine AllReadyH.cons rfl (fun K hK => ?_) AllReadyH.nil
            rw [if_pos (by rfl)]
            try simp only [List.getElem_toArray, List.getElem_cons_succ, List.getElem_cons_zero]
            refine wp_alloc_row rfl (u8s (List.replicate 16 0)) zero22 ?_
            intro y14 hry14 hcy14 hsy14
            clear hsy14
            have hch14 : Chg none_ wL y14 := hch13.trans hcy14
            have hb14 := hch13.size
            have hl14 := hr13_7.lt
            have hr14_7 := hr13_7.chg hcy14 (fun h => h)
            refine hK.out _ _ (hch14) (fun _ => ?_)
            clear hK K
            try simp only [Act.put, List.setIfInBounds_toArray, List.set_cons_zero, List.set_cons_succ]
            refine wpAnyH_ready (rs := [8]) (by kernel_rfl) (by simp) ?_
            refine AllReadyH.cons rfl (fun K hK => ?_) AllReadyH.nil
            rw [if_pos (by rfl)]
            try simp only [List.getElem_toArray, List.getElem_cons_succ, List.getElem_cons_zero]
            refine wp_store_row (ty := 22) (xs := u8s X) rfl rfl (hry14) rfl (by rw [u8s_length, u8s_length, HTXL.out, List.length_replicate]) (by rw [u8s_length, HTXL.out]; exact size22) (u8s_oneA _) ?_
            intro wS8 hr_wS8 hc_wS8 hs_wS8
            refine hK.out _ _ (hc_wS8 none_ wL hch14 (fun h => by omega)) (fun _ => ?_)
            clear hK K
            try simp only [Act.put]
            have hchS : Chg none_ wL wS8 := hc_wS8 none_ wL hch14 (fun h => by omega)
            have hry8 := hr14_7.chg (hc_wS8 (· = y13.heap.size) y14 (Chg.refl _ _) (fun _ => rfl)) (fun e => by omega)
            refine wpAnyH_ready (rs := [9]) (by kernel_rfl) (by simp) ?_
            refine AllReadyH.cons rfl (fun K hK => ?_) AllReadyH.nil
            rw [if_pos (by rfl)]
            try simp only [List.getElem_toArray, List.getElem_cons_succ, List.getElem_cons_zero]
            refine wp_store_row (ty := 22) (xs := u8s Y) rfl rfl (hry8) rfl (by rw [u8s_length, u8s_length, HTYL.out, List.length_replicate]) (by rw [u8s_length, HTYL.out]; exact size22) (u8s_oneA _) ?_
            intro wS9 hr_wS9 hc_wS9 hs_wS9
            refine hK.out _ _ (hc_wS9 none_ wL hchS (fun h => by omega)) (fun _ => ?_)
            clear hK K
            try simp only [Act.put]
            have hchT : Chg none_ wL wS9 := hc_wS9 none_ wL hchS (fun h => by omega)
            have hrx9 := hr_wS8.chg (hc_wS9 (· = y1.heap.size) wS8 (Chg.refl _ _) (fun _ => rfl)) (fun e => by omega)
            refine wpAnyH_done (by kernel_rfl) ?_ _
            exact ⟨rfl, y13.heap.size, y1.heap.size, rfl, hrx9, hr_wS9, by omega, by omega, by omega, hchT⟩
          · rw [if_pos (by rfl)]
            try simp only [List.getElem_toArray, List.getElem_cons_succ, List.getElem_cons_zero]
            refine wp_alloc_row rfl (u8s (List.replicate 16 0)) zero22 ?_
            intro y15 hry15 hcy15 hsy15
            clear hsy15
            have hch15 : Chg none_ wL y15 := hch12.trans hcy15
            have hb15 := hch12.size
            have hl15 := hry12.lt
            have hr15_7 := hry12.chg hcy15 (fun h => h)
            refine hK.out _ _ (hch15) (fun _ => ?_)
            clear hK K
            try simp only [Act.put, List.setIfInBounds_toArray, List.set_cons_zero, List.set_cons_succ]
            refine wpAnyH_ready (rs := [5]) (by kernel_rfl) (by simp) ?_
            refine AllReadyH.cons rfl (fun K hK => ?_) AllReadyH.nil
            rw [if_pos (by rfl)]
            try simp only [List.getElem_toArray, List.getElem_cons_succ, List.getElem_cons_zero]
            go_simp
            refine (HTC.out _).mono ?_
            rintro e y16 ⟨rfl, hcy16⟩
            have hch16 : Chg none_ wL y16 := hch15.trans hcy16
            have hr16_7 := hr15_7.chg hcy16 (fun h => h)
            have hr16_6 := hry15.chg hcy16 (fun h => h)
            refine hK.out _ _ (hch16) (fun _ => ?_)
            clear hK K
            try simp only [Act.put, List.setIfInBounds_toArray, List.set_cons_zero, List.set_cons_succ, List.getElem_toArray, List.getElem_cons_succ, List.getElem_cons_zero]
            refine wpAnyH_ready (rs := [8]) (by kernel_rfl) (by simp) ?_
            refine AllReadyH.cons rfl (fun K hK => ?_) AllReadyH.nil
            rw [if_pos (by rfl)]
            try simp only [List.getElem_toArray, List.getElem_cons_succ, List.getElem_cons_zero]
            refine wp_store_row (ty := 22) (xs := u8s X) rfl rfl (hr16_6) rfl (by rw [u8s_length, u8s_length, HTXL.out, List.length_replicate]) (by rw [u8s_length, HTXL.out]; exact size22) (u8s_oneA _) ?_
            intro wS8 hr_wS8 hc_wS8 hs_wS8
            refine hK.out _ _ (hc_wS8 none_ wL hch16 (fun h => by omega)) (fun _ => ?_)
            clear hK K
            try simp only [Act.put]
            have hchS : Chg none_ wL wS8 := hc_wS8 none_ wL hch16 (fun h => by omega)
            have hry8 := hr16_7.chg (hc_wS8 (· = y12.heap.size) y16 (Chg.refl _ _) (fun _ => rfl)) (fun e => by omega)
            refine wpAnyH_ready (rs := [9]) (by kernel_rfl) (by simp) ?_
            refine AllReadyH.cons rfl (fun K hK => ?_) AllReadyH.nil
            rw [if_pos (by rfl)]
            try simp only [List.getElem_toArray, List.getElem_cons_succ, List.getElem_cons_zero]
            refine wp_store_row (ty := 22) (xs := u8s Y) rfl rfl (hry8) rfl (by rw [u8s_length, u8s_length, HTYL.out, List.length_replicate]) (by rw [u8s_length, HTYL.out]; exact size22) (u8s_oneA _) ?_
            intro wS9 hr_wS9 hc_wS9 hs_wS9
            refine hK.out _ _ (hc_wS9 none_ wL hchS (fun h => by omega)) (fun _ => ?_)
            clear hK K
            try simp only [Act.put]
            have hchT : Chg none_ wL wS9 := hc_wS9 none_ wL hchS (fun h => by omega)
            have hrx9 := hr_wS8.chg (hc_wS9 (· = y1.heap.size) wS8 (Chg.refl _ _) (fun _ => rfl)) (fun e => by omega)
            refine wpAnyH_done (by kernel_rfl) ?_ _
            exact ⟨rfl, y12.heap.size, y1.heap.size, rfl, hrx9, hr_wS9, by omega, by omega, by omega, hchT⟩
      · rw [if_pos (by rfl)]
        try simp only [List.getElem_toArray, List.getElem_cons_succ, List.getElem_cons_zero]
        refine wp_alloc_row rfl (u8s (List.replicate 16 0)) zero22 ?_
        intro y17 hry17 hcy17 hsy17
        clear hsy17
        have hch17 : Chg none_ wL y17 := hch0.trans hcy17
        have hb17 := hch0.size
        refine hK.out _ _ (hch17) (fun _ => ?_)
        clear hK K
        try simp only [Act.put, List.setIfInBounds_toArray, List.set_cons_zero, List.set_cons_succ]
        refine wpAnyH_ready (rs := [2, 7]) (by kernel_rfl) (by simp) ?_
        refine (AllReadyH.cons rfl (fun K hK => ?_) (AllReadyH.cons rfl (fun K hK => ?_) AllReadyH.nil))
        · rw [if_pos (by rfl)]
          try simp only [List.getElem_toArray, List.getElem_cons_succ, List.getElem_cons_zero]
          go_simp
          refine (HTB.out _).mono ?_
          rintro e y18 ⟨rfl, hcy18⟩
          have hch18 : Chg none_ wL y18 := hch17.trans hcy18
          have hr18_6 := hry17.chg hcy18 (fun h => h)
          refine hK.out _ _ (hch18) (fun _ => ?_)
          clear hK K
          try simp only [Act.put, List.setIfInBounds_toArray, List.set_cons_zero, List.set_cons_succ, List.getElem_toArray, List.getElem_cons_succ, List.getElem_cons_zero]
          refine wpAnyH_ready (rs := [5, 7]) (by kernel_rfl) (by simp) ?_
          refine (AllReadyH.cons rfl (fun K hK => ?_) (AllReadyH.cons rfl (fun K hK => ?_) AllReadyH.nil))
          · rw [if_pos (by rfl)]
            try simp only [List.getElem_toArray, List.getElem_cons_succ, List.getElem_cons_zero]
            go_simp
            refine (HTC.out _).mono ?_
            rintro e y19 ⟨rfl, hcy19⟩
            have hch19 : Chg none_ wL y19 := hch18.trans hcy19
            have hr19_6 := hr18_6.chg hcy19 (fun h => h)
            refine hK.out _ _ (hch19) (fun _ => ?_)
            clear hK K
            try simp only [Act.put, List.setIfInBounds_toArray, List.set_cons_zero, List.set_cons_succ, List.getElem_toArray, List.getElem_cons_succ, List.getElem_cons_zero]
            refine wpAnyH_ready (rs := [7]) (by kernel_rfl) (by simp) ?_
            refine AllReadyH.cons rfl (fun K hK => ?_) AllReadyH.nil
            rw [if_pos (by rfl)]
            try simp only [List.getElem_toArray, List.getElem_cons_succ, List.getElem_cons_zero]
            refine wp_alloc_row rfl (u8s (List.replicate 16 0)) zero22 ?_
            intro y20 hry20 hcy20 hsy20
            clear hsy20
            have hch20 : Chg none_ wL y20 := hch19.trans hcy20
            have hb20 := hch19.size
            have hl20 := hr19_6.lt
            have hr20_6 := hr19_6.chg hcy20 (fun h => h)
            refine hK.out _ _ (hch20) (fun _ => ?_)
            clear hK K
            try simp only [Act.put, List.setIfInBounds_toArray, List.set_cons_zero, List.set_cons_succ]
            refine wpAnyH_ready (rs := [8]) (by kernel_rfl) (by simp) ?_
            refine AllReadyH.cons rfl (fun K hK => ?_) AllReadyH.nil
            rw [if_pos (by rfl)]
            try simp only [List.getElem_toArray, List.getElem_cons_succ, List.getElem_cons_zero]
            refine wp_store_row (ty := 22) (xs := u8s X) rfl rfl (hr20_6) rfl (by rw [u8s_length, u8s_length, HTXL.out, List.length_replicate]) (by rw [u8s_length, HTXL.out]; exact size22) (u8s_oneA _) ?_
            intro wS8 hr_wS8 hc_wS8 hs_wS8
            refine hK.out _ _ (hc_wS8 none_ wL hch20 (fun h => by omega)) (fun _ => ?_)
            clear hK K
            try simp only [Act.put]
            have hchS : Chg none_ wL wS8 := hc_wS8 none_ wL hch20 (fun h => by omega)
            have hry8 := hry20.chg (hc_wS8 (· = wd.heap.size) y20 (Chg.refl _ _) (fun _ => rfl)) (fun e => by omega)
            refine wpAnyH_ready (rs := [9]) (by kernel_rfl) (by simp) ?_
            refine AllReadyH.cons rfl (fun K hK => ?_) AllReadyH.nil
            rw [if_pos (by rfl)]
            try simp only [List.getElem_toArray, List.getElem_cons_succ, List.getElem_cons_zero]
            refine wp_store_row (ty := 22) (xs := u8s Y) rfl rfl (hry8) rfl (by rw [u8s_length, u8s_length, HTYL.out, List.length_replicate]) (by rw [u8s_length, HTYL.out]; exact size22) (u8s_oneA _) ?_
            intro wS9 hr_wS9 hc_wS9 hs_wS9
            refine hK.out _ _ (hc_wS9 none_ wL hchS (fun h => by omega)) (fun _ => ?_)
            clear hK K
            try simp only [Act.put]
            have hchT : Chg none_ wL wS9 := hc_wS9 none_ wL hchS (fun h => by omega)
            have hrx9 := hr_wS8.chg (hc_wS9 (· = y19.heap.size) wS8 (Chg.refl _ _) (fun _ => rfl)) (fun e => by omega)
            refine wpAnyH_done (by kernel_rfl) ?_ _
            exact ⟨rfl, wd.heap.size, y19.heap.size, rfl, hrx9, hr_wS9, by omega, by omega, by omega, hchT⟩
          · rw [if_pos (by rfl)]
            try simp only [List.getElem_toArray, List.getElem_cons_succ, List.getElem_cons_zero]
            refine wp_alloc_row rfl (u8s (List.replicate 16 0)) zero22 ?_
            intro y21 hry21 hcy21 hsy21
            clear hsy21
            have hch21 : Chg none_ wL y21 := hch18.trans hcy21
            have hb21 := hch18.size
            have hl21 := hr18_6.lt
            have hr21_6 := hr18_6.chg hcy21 (fun h => h)
            refine hK.out _ _ (hch21) (fun _ => ?_)
            clear hK K
            try simp only [Act.put, List.setIfInBounds_toArray, List.set_cons_zero, List.set_cons_succ]
            refine wpAnyH_ready (rs := [5]) (by kernel_rfl) (by simp) ?_
            refine AllReadyH.cons rfl (fun K hK => ?_) AllReadyH.nil
            rw [if_pos (by rfl)]
            try simp only [List.getElem_toArray, List.getElem_cons_succ, List.getElem_cons_zero]
            go_simp
            refine (HTC.out _).mono ?_
            rintro e y22 ⟨rfl, hcy22⟩
            have hch22 : Chg none_ wL y22 := hch21.trans hcy22
            have hr22_6 := hr21_6.chg hcy22 (fun h => h)
            have hr22_7 := hry21.chg hcy22 (fun h => h)
            refine hK.out _ _ (hch22) (fun _ => ?_)
            clear hK K
            try simp only [Act.put, List.setIfInBounds_toArray, List.set_cons_zero, List.set_cons_succ, List.getElem_toArray, List.getElem_cons_succ, List.getElem_cons_zero]
            refine wpAnyH_ready (rs := [8]) (by kernel_rfl) (by simp) ?_
            refine AllReadyH.cons rfl (fun K hK => ?_) AllReadyH.nil
            rw [if_pos (by rfl)]
            try simp only [List.getElem_toArray, List.getElem_cons_succ, List.getElem_cons_zero]
            refine wp_store_row (ty := 22) (xs := u8s X) rfl rfl (hr22_6) rfl (by rw [u8s_length, u8s_length, HTXL.out, List.length_replicate]) (by rw [u8s_length, HTXL.out]; exact size22) (u8s_oneA _) ?_
            intro wS8 hr_wS8 hc_wS8 hs_wS8
            refine hK.out _ _ (hc_wS8 none_ wL hch22 (fun h => by omega)) (fun _ => ?_)
            clear hK K
            try simp only [Act.put]
            have hchS : Chg none_ wL wS8 := hc_wS8 none_ wL hch22 (fun h => by omega)
            have hry8 := hr22_7.chg (hc_wS8 (· = wd.heap.size) y22 (Chg.refl _ _) (fun _ => rfl)) (fun e => by omega)
            refine wpAnyH_ready (rs := [9]) (by kernel_rfl) (by simp) ?_
            refine AllReadyH.cons rfl (fun K hK => ?_) AllReadyH.nil
            rw [if_pos (by rfl)]
            try simp only [List.getElem_toArray, List.getElem_cons_succ, List.getElem_cons_zero]
            refine wp_store_row (ty := 22) (xs := u8s Y) rfl rfl (hry8) rfl (by rw [u8s_length, u8s_length, HTYL.out, List.length_replicate]) (by rw [u8s_length, HTYL.out]; exact size22) (u8s_oneA _) ?_
            intro wS9 hr_wS9 hc_wS9 hs_wS9
            refine hK.out _ _ (hc_wS9 none_ wL hchS (fun h => by omega)) (fun _ => ?_)
            clear hK K
            try simp only [Act.put]
            have hchT : Chg none_ wL wS9 := hc_wS9 none_ wL hchS (fun h => by omega)
            have hrx9 := hr_wS8.chg (hc_wS9 (· = y18.heap.size) wS8 (Chg.refl _ _) (fun _ => rfl)) (fun e => by omega)
            refine wpAnyH_done (by kernel_rfl) ?_ _
            exact ⟨rfl, wd.heap.size, y18.heap.size, rfl, hrx9, hr_wS9, by omega, by omega, by omega, hchT⟩
        · rw [if_pos (by rfl)]
          try simp only [List.getElem_toArray, List.getElem_cons_succ, List.getElem_cons_zero]
          refine wp_alloc_row rfl (u8s (List.replicate 16 0)) zero22 ?_
          intro y23 hry23 hcy23 hsy23
          clear hsy23
          have hch23 : Chg none_ wL y23 := hch17.trans hcy23
          have hb23 := hch17.size
          have hl23 := hry17.lt
          have hr23_6 := hry17.chg hcy23 (fun h => h)
          refine hK.out _ _ (hch23) (fun _ => ?_)
          clear hK K
          try simp only [Act.put, List.setIfInBounds_toArray, List.set_cons_zero, List.set_cons_succ]
          refine wpAnyH_ready (rs := [2]) (by kernel_rfl) (by simp) ?_
          refine AllReadyH.cons rfl (fun K hK => ?_) AllReadyH.nil
          rw [if_pos (by rfl)]
          try simp only [List.getElem_toArray, List.getElem_cons_succ, List.getElem_cons_zero]
          go_simp
          refine (HTB.out _).mono ?_
          rintro e y24 ⟨rfl, hcy24⟩
          have hch24 : Chg none_ wL y24 := hch23.trans hcy24
          have hr24_6 := hr23_6.chg hcy24 (fun h => h)
          have hr24_7 := hry23.chg hcy24 (fun h => h)
          refine hK.out _ _ (hch24) (fun _ => ?_)
          clear hK K
          try simp only [Act.put, List.setIfInBounds_toArray, List.set_cons_zero, List.set_cons_succ, List.getElem_toArray, List.getElem_cons_succ, List.getElem_cons_zero]
          refine wpAnyH_ready (rs := [5]) (by kernel_rfl) (by simp) ?_
          refine AllReadyH.cons rfl (fun K hK => ?_) AllReadyH.nil
          rw [if_pos (by rfl)]
          try simp only [List.getElem_toArray, List.getElem_cons_succ, List.getElem_cons_zero]
          go_simp
          refine (HTC.out _).mono ?_
          rintro e y25 ⟨rfl, hcy25⟩
          have hch25 : Chg none_ wL y25 := hch24.trans hcy25
          have hr25_6 := hr24_6.chg hcy25 (fun h => h)
          have hr25_7 := hr24_7.chg hcy25 (fun h => h)
          refine hK.out _ _ (hch25) (fun _ => ?_)
          clear hK K
          try simp only [Act.put, List.setIfInBounds_toArray, List.set_cons_zero, List.set_cons_succ, List.getElem_toArray, List.getElem_cons_succ, List.getElem_cons_zero]
          refine wpAnyH_ready (rs := [8]) (by kernel_rfl) (by simp) ?_
          refine AllReadyH.cons rfl (fun K hK => ?_) AllReadyH.nil
          rw [if_pos (by rfl)]
          try simp only [List.getElem_toArray, List.getElem_cons_succ, List.getElem_cons_zero]
          refine wp_store_row (ty := 22) (xs := u8s X) rfl rfl (hr25_6) rfl (by rw [u8s_length, u8s_length, HTXL.out, List.length_replicate]) (by rw [u8s_length, HTXL.out]; exact size22) (u8s_oneA _) ?_
          intro wS8 hr_wS8 hc_wS8 hs_wS8
          refine hK.out _ _ (hc_wS8 none_ wL hch25 (fun h => by omega)) (fun _ => ?_)
          clear hK K
          try simp only [Act.put]
          have hchS : Chg none_ wL wS8 := hc_wS8 none_ wL hch25 (fun h => by omega)
          have hry8 := hr25_7.chg (hc_wS8 (· = wd.heap.size) y25 (Chg.refl _ _) (fun _ => rfl)) (fun e => by omega)
          refine wpAnyH_ready (rs := [9]) (by kernel_rfl) (by simp) ?_
          refine AllReadyH.cons rfl (fun K hK => ?_) AllReadyH.nil
          rw [if_pos (by rfl)]
          try simp only [List.getElem_toArray, List.getElem_cons_succ, List.getElem_cons_zero]
          refine wp_store_row (ty := 22) (xs := u8s Y) rfl rfl (hry8) rfl (by rw [u8s_length, u8s_length, HTYL.out, List.length_replicate]) (by rw [u8s_length, HTYL.out]; exact size22) (u8s_oneA _) ?_
          intro wS9 hr_wS9 hc_wS9 hs_wS9
          refine hK.out _ _ (hc_wS9 none_ wL hchS (fun h => by omega)) (fun _ => ?_)
          clear hK K
          try simp only [Act.put]
          have hchT : Chg none_ wL wS9 := hc_wS9 none_ wL hchS (fun h => by omega)
          have hrx9 := hr_wS8.chg (hc_wS9 (· = y17.heap.size) wS8 (Chg.refl _ _) (fun _ => rfl)) (fun e => by omega)
          refine wpAnyH_done (by kernel_rfl) ?_ _
          exact ⟨rfl, wd.heap.size, y17.heap.size, rfl, hrx9, hr_wS9, by omega, by omega, by omega, hchT⟩
      · rw [if_pos (by rfl)]
        try simp only [List.getElem_toArray, List.getElem_cons_succ, List.getElem_cons_zero]
        refine wp_alloc_row rfl (u8s (List.replicate 16 0)) zero22 ?_
        intro y26 hry26 hcy26 hsy26
        clear hsy26
        have hch26 : Chg none_ wL y26 := hch0.trans hcy26
        have hb26 := hch0.size
        refine hK.out _ _ (hch26) (fun _ => ?_)
        clear hK K
        try simp only [Act.put, List.setIfInBounds_toArray, List.set_cons_zero, List.set_cons_succ]
        refine wpAnyH_ready (rs := [2, 6]) (by kernel_rfl) (by simp) ?_
        refine (AllReadyH.cons rfl (fun K hK => ?_) (AllReadyH.cons rfl (fun K hK => ?_) AllReadyH.nil))
        · rw [if_pos (by rfl)]
          try simp only [List.getElem_toArray, List.getElem_cons_succ, List.getElem_cons_zero]
          go_simp
          refine (HTB.out _).mono ?_
          rintro e y27 ⟨rfl, hcy27⟩
          have hch27 : Chg none_ wL y27 := hch26.trans hcy27
          have hr27_7 := hry26.chg hcy27 (fun h => h)
          refine hK.out _ _ (hch27) (fun _ => ?_)
          clear hK K
          try simp only [Act.put, List.setIfInBounds_toArray, List.set_cons_zero, List.set_cons_succ, List.getElem_toArray, List.getElem_cons_succ, List.getElem_cons_zero]
          refine wpAnyH_ready (rs := [5, 6]) (by kernel_rfl) (by simp) ?_
          refine (AllReadyH.cons rfl (fun K hK => ?_) (AllReadyH.cons rfl (fun K hK => ?_) AllReadyH.nil))
          · rw [if_pos (by rfl)]
            try simp only [List.getElem_toArray, List.getElem_cons_succ, List.getElem_cons_zero]
            go_simp
            refine (HTC.out _).mono ?_
            rintro e y28 ⟨rfl, hcy28⟩
            have hch28 : Chg none_ wL y28 := hch27.trans hcy28
            have hr28_7 := hr27_7.chg hcy28 (fun h => h)
            refine hK.out _ _ (hch28) (fun _ => ?_)
            clear hK K
            try simp only [Act.put, List.setIfInBounds_toArray, List.set_cons_zero, List.set_cons_succ, List.getElem_toArray, List.getElem_cons_succ, List.getElem_cons_zero]
            refine wpAnyH_ready (rs := [6]) (by kernel_rfl) (by simp) ?_
            refine AllReadyH.cons rfl (fun K hK => ?_) AllReadyH.nil
            rw [if_pos (by rfl)]
            try simp only [List.getElem_toArray, List.getElem_cons_succ, List.getElem_cons_zero]
            refine wp_alloc_row rfl (u8s (List.replicate 16 0)) zero22 ?_
            intro y29 hry29 hcy29 hsy29
            clear hsy29
            have hch29 : Chg none_ wL y29 := hch28.trans hcy29
            have hb29 := hch28.size
            have hl29 := hr28_7.lt
            have hr29_7 := hr28_7.chg hcy29 (fun h => h)
            refine hK.out _ _ (hch29) (fun _ => ?_)
            clear hK K
            try simp only [Act.put, List.setIfInBounds_toArray, List.set_cons_zero, List.set_cons_succ]
            refine wpAnyH_ready (rs := [8]) (by kernel_rfl) (by simp) ?_
            refine AllReadyH.cons rfl (fun K hK => ?_) AllReadyH.nil
            rw [if_pos (by rfl)]
            try simp only [List.getElem_toArray, List.getElem_cons_succ, List.getElem_cons_zero]
            refine wp_store_row (ty := 22) (xs := u8s X) rfl rfl (hry29) rfl (by rw [u8s_length, u8s_length, HTXL.out, List.length_replicate]) (by rw [u8s_length, HTXL.out]; exact size22) (u8s_oneA _) ?_
            intro wS8 hr_wS8 hc_wS8 hs_wS8
            refine hK.out _ _ (hc_wS8 none_ wL hch29 (fun h => by omega)) (fun _ => ?_)
            clear hK K
            try simp only [Act.put]
            have hchS : Chg none_ wL wS8 := hc_wS8 none_ wL hch29 (fun h => by omega)
            have hry8 := hr29_7.chg (hc_wS8 (· = y28.heap.size) y29 (Chg.refl _ _) (fun _ => rfl)) (fun e => by omega)
            refine wpAnyH_ready (rs := [9]) (by kernel_rfl) (by simp) ?_
            refine AllReadyH.cons rfl (fun K hK => ?_) AllReadyH.nil
            rw [if_pos (by rfl)]
            try simp only [List.getElem_toArray, List.getElem_cons_succ, List.getElem_cons_zero]
            refine wp_store_row (ty := 22) (xs := u8s Y) rfl rfl (hry8) rfl (by rw [u8s_length, u8s_length, HTYL.out, List.length_replicate]) (by rw [u8s_length, HTYL.out]; exact size22) (u8s_oneA _) ?_
            intro wS9 hr_wS9 hc_wS9 hs_wS9
            refine hK.out _ _ (hc_wS9 none_ wL hchS (fun h => by omega)) (fun _ => ?_)
            clear hK K
            try simp only [Act.put]
            have hchT : Chg none_ wL wS9 := hc_wS9 none_ wL hchS (fun h => by omega)
            have hrx9 := hr_wS8.chg (hc_wS9 (· = wd.heap.size) wS8 (Chg.refl _ _) (fun _ => rfl)) (fun e => by omega)
            refine wpAnyH_done (by kernel_rfl) ?_ _
            exact ⟨rfl, y28.heap.size, wd.heap.size, rfl, hrx9, hr_wS9, by omega, by omega, by omega, hchT⟩
          · rw [if_pos (by rfl)]
            try simp only [List.getElem_toArray, List.getElem_cons_succ, List.getElem_cons_zero]
            refine wp_alloc_row rfl (u8s (List.replicate 16 0)) zero22 ?_
            intro y30 hry30 hcy30 hsy30
            clear hsy30
            have hch30 : Chg none_ wL y30 := hch27.trans hcy30
            have hb30 := hch27.size
            have hl30 := hr27_7.lt
            have hr30_7 := hr27_7.chg hcy30 (fun h => h)
            refine hK.out _ _ (hch30) (fun _ => ?_)
            clear hK K
            try simp only [Act.put, List.setIfInBounds_toArray, List.set_cons_zero, List.set_cons_succ]
            refine wpAnyH_ready (rs := [5]) (by kernel_rfl) (by simp) ?_
            refine AllReadyH.cons rfl (fun K hK => ?_) AllReadyH.nil
            rw [if_pos (by rfl)]
            try simp only [List.getElem_toArray, List.getElem_cons_succ, List.getElem_cons_zero]
            go_simp
            refine (HTC.out _).mono ?_
            rintro e y31 ⟨rfl, hcy31⟩
            have hch31 : Chg none_ wL y31 := hch30.trans hcy31
            have hr31_7 := hr30_7.chg hcy31 (fun h => h)
            have hr31_6 := hry30.chg hcy31 (fun h => h)
            refine hK.out _ _ (hch31) (fun _ => ?_)
            clear hK K
            try simp only [Act.put, List.setIfInBounds_toArray, List.set_cons_zero, List.set_cons_succ, List.getElem_toArray, List.getElem_cons_succ, List.getElem_cons_zero]
            refine wpAnyH_ready (rs := [8]) (by kernel_rfl) (by simp) ?_
            refine AllReadyH.cons rfl (fun K hK => ?_) AllReadyH.nil
            rw [if_pos (by rfl)]
            try simp only [List.getElem_toArray, List.getElem_cons_succ, List.getElem_cons_zero]
            refine wp_store_row (ty := 22) (xs := u8s X) rfl rfl (hr31_6) rfl (by rw [u8s_length, u8s_length, HTXL.out, List.length_replicate]) (by rw [u8s_length, HTXL.out]; exact size22) (u8s_oneA _) ?_
            intro wS8 hr_wS8 hc_wS8 hs_wS8
            refine hK.out _ _ (hc_wS8 none_ wL hch31 (fun h => by omega)) (fun _ => ?_)
            clear hK K
            try simp only [Act.put]
            have hchS : Chg none_ wL wS8 := hc_wS8 none_ wL hch31 (fun h => by omega)
            have hry8 := hr31_7.chg (hc_wS8 (· = y27.heap.size) y31 (Chg.refl _ _) (fun _ => rfl)) (fun e => by omega)
            refine wpAnyH_ready (rs := [9]) (by kernel_rfl) (by simp) ?_
            refine AllReadyH.cons rfl (fun K hK => ?_) AllReadyH.nil
            rw [if_pos (by rfl)]
            try simp only [List.getElem_toArray, List.getElem_cons_succ, List.getElem_cons_zero]
            refine wp_store_row (ty := 22) (xs := u8s Y) rfl rfl (hry8) rfl (by rw [u8s_length, u8s_length, HTYL.out, List.length_replicate]) (by rw [u8s_length, HTYL.out]; exact size22) (u8s_oneA _) ?_
            intro wS9 hr_wS9 hc_wS9 hs_wS9
            refine hK.out _ _ (hc_wS9 none_ wL hchS (fun h => by omega)) (fun _ => ?_)
            clear hK K
            try simp only [Act.put]
            have hchT : Chg none_ wL wS9 := hc_wS9 none_ wL hchS (fun h => by omega)
            have hrx9 := hr_wS8.chg (hc_wS9 (· = wd.heap.size) wS8 (Chg.refl _ _) (fun _ => rfl)) (fun e => by omega)
            refine wpAnyH_done (by kernel_rfl) ?_ _
            exact ⟨rfl, y27.heap.size, wd.heap.size, rfl, hrx9, hr_wS9, by omega, by omega, by omega, hchT⟩
        · rw [if_pos (by rfl)]
          try simp only [List.getElem_toArray, List.getElem_cons_succ, List.getElem_cons_zero]
          refine wp_alloc_row rfl (u8s (List.replicate 16 0)) zero22 ?_
          intro y32 hry32 hcy32 hsy32
          clear hsy32
          have hch32 : Chg none_ wL y32 := hch26.trans hcy32
          have hb32 := hch26.size
          have hl32 := hry26.lt
          have hr32_7 := hry26.chg hcy32 (fun h => h)
          refine hK.out _ _ (hch32) (fun _ => ?_)
          clear hK K
          try simp only [Act.put, List.setIfInBounds_toArray, List.set_cons_zero, List.set_cons_succ]
          refine wpAnyH_ready (rs := [2]) (by kernel_rfl) (by simp) ?_
          refine AllReadyH.cons rfl (fun K hK => ?_) AllReadyH.nil
          rw [if_pos (by rfl)]
          try simp only [List.getElem_toArray, List.getElem_cons_succ, List.getElem_cons_zero]
          go_simp
          refine (HTB.out _).mono ?_
          rintro e y33 ⟨rfl, hcy33⟩
          have hch33 : Chg none_ wL y33 := hch32.trans hcy33
          have hr33_7 := hr32_7.chg hcy33 (fun h => h)
          have hr33_6 := hry32.chg hcy33 (fun h => h)
          refine hK.out _ _ (hch33) (fun _ => ?_)
          clear hK K
          try simp only [Act.put, List.setIfInBounds_toArray, List.set_cons_zero, List.set_cons_succ, List.getElem_toArray, List.getElem_cons_succ, List.getElem_cons_zero]
          refine wpAnyH_ready (rs := [5]) (by kernel_rfl) (by simp) ?_
          refine AllReadyH.cons rfl (fun K hK => ?_) AllReadyH.nil
          rw [if_pos (by rfl)]
          try simp only [List.getElem_toArray, List.getElem_cons_succ, List.getElem_cons_zero]
          go_simp
          refine (HTC.out _).mono ?_
          rintro e y34 ⟨rfl, hcy34⟩
          have hch34 : Chg none_ wL y34 := hch33.trans hcy34
          have hr34_7 := hr33_7.chg hcy34 (fun h => h)
          have hr34_6 := hr33_6.chg hcy34 (fun h => h)
          refine hK.out _ _ (hch34) (fun _ => ?_)
          clear hK K
          try simp only [Act.put, List.setIfInBounds_toArray, List.set_cons_zero, List.set_cons_succ, List.getElem_toArray, List.getElem_cons_succ, List.getElem_cons_zero]
          refine wpAnyH_ready (rs := [8]) (by kernel_rfl) (by simp) ?_
          refine AllReadyH.cons rfl (fun K hK => ?_) AllReadyH.nil
          rw [if_pos (by rfl)]
          try simp only [List.getElem_toArray, List.getElem_cons_succ, List.getElem_cons_zero]
          refine wp_store_row (ty := 22) (xs := u8s X) rfl rfl (hr34_6) rfl (by rw [u8s_length, u8s_length, HTXL.out, List.length_replicate]) (by rw [u8s_length, HTXL.out]; exact size22) (u8s_oneA _) ?_
          intro wS8 hr_wS8 hc_wS8 hs_wS8
          refine hK.out _ _ (hc_wS8 none_ wL hch34 (fun h => by omega)) (fun _ => ?_)
          clear hK K
          try simp only [Act.put]
          have hchS : Chg none_ wL wS8 := hc_wS8 none_ wL hch34 (fun h => by omega)
          have hry8 := hr34_7.chg (hc_wS8 (· = y26.heap.size) y34 (Chg.refl _ _) (fun _ => rfl)) (fun e => by omega)
          refine wpAnyH_ready (rs := [9]) (by kernel_rfl) (by simp) ?_
          refine AllReadyH.cons rfl (fun K hK => ?_) AllReadyH.nil
          rw [if_pos (by rfl)]
          try simp only [List.getElem_toArray, List.getElem_cons_succ, List.getElem_cons_zero]
          refine wp_store_row (ty := 22) (xs := u8s Y) rfl rfl (hry8) rfl (by rw [u8s_length, u8s_length, HTYL.out, List.length_replicate]) (by rw [u8s_length, HTYL.out]; exact size22) (u8s_oneA _) ?_
          intro wS9 hr_wS9 hc_wS9 hs_wS9
          refine hK.out _ _ (hc_wS9 none_ wL hchS (fun h => by omega)) (fun _ => ?_)
          clear hK K
          try simp only [Act.put]
          have hchT : Chg none_ wL wS9 := hc_wS9 none_ wL hchS (fun h => by omega)
          have hrx9 := hr_wS8.chg (hc_wS9 (· = wd.heap.size) wS8 (Chg.refl _ _) (fun _ => rfl)) (fun e => by omega)
          refine wpAnyH_done (by kernel_rfl) ?_ _
          exact ⟨rfl, y26.heap.size, wd.heap.size, rfl, hrx9, hr_wS9, by omega, by omega, by omega, hchT⟩
end Go.Proofs.Ytmimpodbmfmeiaa
