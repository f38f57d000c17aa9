/- Layer 7 (hash): the state behind a block. -/
import Derived.Test.YtodcjcpbigggfaaDoorV7Words
import Derived.BigQuiet
import Derived.Deep.QuietTactic
namespace Go.Proofs.YtodcjcpbigggfaaDoor
open Go.RowKit

/-- SHA-256's constants, and its first state. -/
structure HTab (w : World) : Prop where
  k : 1 < w.heap.size
  f : 0 < w.heap.size
  ks : ∀ i, i < 64 → w.cell? ⟨1, i, none⟩ = some (.int .u32 ((kN.getD i 0 : Nat) : Int))
  fs : w.rangeAt 0 0 (u32s first8.list)
theorem HTab.chg {w w' : World} {S : Nat → Prop} (h : HTab w) (hc : Chg S w w') (hs : ¬ S 1) (hs' : ¬ S 0) : HTab w' :=
  ⟨Nat.lt_of_lt_of_le h.k hc.size, Nat.lt_of_lt_of_le h.f hc.size, fun i hi => (hc.cell _ h.k hs).trans (h.ks i hi), fun j v hv => (hc.cell _ h.f hs').trans (h.fs j v hv)⟩

theorem zero37 : (Tryd.prog.info? 37).map (·.zero) = some (some (.agg (u32s (List.replicate 8 0)).toArray)) := by kernel_rfl
theorem size37 : (Tryd.prog.info? 37).map (·.size) = some 8 := by kernel_rfl
theorem size41 : (Tryd.prog.info? 41).map (·.size) = some 64 := by kernel_rfl
theorem St8.len (s : St8) : s.list.length = 8 := rfl

theorem not32 (x : Nat) (hx : x < 4294967296) : 4294967295 ^^^ x = 4294967295 - x := by
  apply Nat.eq_of_testBit_eq
  intro i
  rw [show 4294967295 - x = 2 ^ 32 - (x + 1) from by omega, Nat.testBit_two_pow_sub_succ hx, Nat.testBit_xor, show (4294967295 : Nat) = 2 ^ 32 - 1 from rfl, Nat.testBit_two_pow_sub_one]
  by_cases hi : i < 32
  · simp [hi]
  · have : x.testBit i = false := Nat.testBit_lt_two_pow (Nat.lt_of_lt_of_le hx (Nat.pow_le_pow_right (n := 2) (by omega) (by omega : 32 ≤ i)))
    simp [hi, this]
theorem bs1V (e : Nat) : bits .xor .u32 (bits .xor .u32 ((rotr e 6 : Nat) : Int) ((rotr e 11 : Nat) : Int)) ((rotr e 25 : Nat) : Int) = ((bs1 e : Nat) : Int) := by
  rw [u32_xor_nat _ _ (rotr_lt _ _) (rotr_lt _ _), u32_xor_nat _ _ (xor_lt (rotr_lt _ _) (rotr_lt _ _)) (rotr_lt _ _)]
  rfl
theorem bs0V (e : Nat) : bits .xor .u32 (bits .xor .u32 ((rotr e 2 : Nat) : Int) ((rotr e 13 : Nat) : Int)) ((rotr e 22 : Nat) : Int) = ((bs0 e : Nat) : Int) := by
  rw [u32_xor_nat _ _ (rotr_lt _ _) (rotr_lt _ _), u32_xor_nat _ _ (xor_lt (rotr_lt _ _) (rotr_lt _ _)) (rotr_lt _ _)]
  rfl
theorem chV (e f g : Nat) (he : e < 4294967296) (hf : f < 4294967296) (hg : g < 4294967296) : bits .xor .u32 (bits .and .u32 (e : Int) (f : Int)) (bits .and .u32 (bits .xor .u32 (if IntKind.u32.signed = true then -1 else IntKind.u32.max) (e : Int)) (g : Int)) = ((chN e f g : Nat) : Int) := by
  rw [show (if IntKind.u32.signed = true then -1 else IntKind.u32.max) = ((4294967295 : Nat) : Int) from rfl, u32_xor_nat _ _ (by decide) he, not32 e he, u32_and_nat _ _ (by omega) hg, u32_and_nat _ _ he hf, u32_xor_nat _ _ (and_lt _ he) (and_lt _ (by omega))]
  rfl
theorem majV (a b c : Nat) (ha : a < 4294967296) (hb : b < 4294967296) (hc : c < 4294967296) : bits .xor .u32 (bits .xor .u32 (bits .and .u32 (a : Int) (b : Int)) (bits .and .u32 (a : Int) (c : Int))) (bits .and .u32 (b : Int) (c : Int)) = ((majN a b c : Nat) : Int) := by
  rw [u32_and_nat _ _ ha hb, u32_and_nat _ _ ha hc, u32_and_nat _ _ hb hc, u32_xor_nat _ _ (and_lt _ ha) (and_lt _ ha), u32_xor_nat _ _ (xor_lt (and_lt _ ha) (and_lt _ ha)) (and_lt _ hb)]
  rfl

set_option maxRecDepth 100000 in
set_option maxHeartbeats 1000000 in
theorem behind_any (s : St8) (b : List Nat) (w : World) (hs : s.Ok) (hl : b.length = 64) (hb : ∀ x ∈ b, x < 256) (hT : HTab w) : Calls Tryd.prog 23 #[.agg (u32s s.list).toArray, .agg (u8s b).toArray] w fun e w' => e = .returned (.agg (u32s (turnN s b).list).toArray) ∧ Chg none_ w w' := by
  have HT := Lib.hid hT
  have HS := Lib.hid hs
  have HL := Lib.hid hl
  have HW := Lib.hid (fun w => words_any b w hl hb)
  have HWL := Lib.hid (wordsN_len b 64)
  have HWB := Lib.hid (wordsN_lt hb 64)
  have HTU : Hid (turnN s b = addN s (roundsN s (wordsN b 64) 64)) := Lib.hid rfl
  clear hT hs hb hl
  generalize wordsN b 64 = W at HW HWL HWB HTU
  go_enter Tryd.func23, Tryd.ntmps23
  go_wp2_with (first | ((with_reducible show wpList _ _ _ (⟨_, .box 37 _, _, _, _, _⟩ :: _) _ _); refine wpList_box_Row rfl rfl (u32s s.list) rfl ?_; intro w1 hr1 hc1 hs1; have HR1 := Lib.hid hr1; have HC1 := Lib.hid hc1; clear hr1 hc1 hs1) | ((with_reducible show wpList _ _ _ (⟨_, .box 41 _, _, _, _, _⟩ :: _) _ _); refine wpList_box_Row rfl rfl (u8s b) rfl ?_; intro w2 hr2 hc2 hs2; have HR2 := Lib.hid hr2; have HC2 := Lib.hid hc2; clear hr2 hc2 hs2) | ((with_reducible show wpList _ _ _ (⟨_, .alloc 37, _, _, _, _⟩ :: _) _ _); refine wpList_alloc_Row rfl rfl (u32s (List.replicate 8 0)) zero37 ?_; intro w3 hr3 hc3 hs3; have HR3 := Lib.hid hr3; have HC3 := Lib.hid hc3; clear hr3 hc3 hs3) | ((with_reducible show wpList _ _ _ (⟨_, .load 41 _, _, _, _, _⟩ :: _) _ _); refine wpList_load_Row rfl rfl rfl (HR2.out.chg HC3.out (fun h => h)) Tryd.underlying41 rfl (by rw [u8s_length, HL.out]; exact size41) ?_) | (go_at_call 27; refine (HW.out _).mono ?_; rintro e w4 ⟨rfl, hc4⟩; have HC4 := Lib.hid hc4; clear hc4) | ((with_reducible show wpList _ _ _ (⟨_, .alloc 51, _, _, _, _⟩ :: _) _ _); refine wpList_alloc_Row rfl rfl (u32s (List.replicate 64 0)) zero51 ?_; intro w5 hr5 hc5 hs5; have HR5 := Lib.hid hr5; have HC5 := Lib.hid hc5; clear hr5 hc5 hs5) | ((with_reducible show wpList _ _ _ (⟨_, .store 51 _ _, _, _, _, _⟩ :: _) _ _); refine wpList_store_Row (xs := u32s W) rfl rfl rfl (HR5.out) (rfl) (by rw [u32s_length, HWL.out]; simp) (by rw [u32s_length, HWL.out]; exact size51) (u32s_one _) ?_; intro w6 hr6 hc6 hs6; have HR6 := Lib.hid hr6; have HC6 := Lib.hid hc6; clear hr6 hc6 hs6))
  have hz4 : w3.heap.size ≤ w4.heap.size := HC4.out.size
  have HC36 := Lib.hid (HC6.out none_ w3 (HC4.out.trans HC5.out) (fun h => by omega))
  have HCH := Lib.hid (((HC1.out.trans HC2.out).trans HC3.out).trans HC36.out)
  have HX1 := Lib.hid (((HR1.out.chg HC2.out (fun h => h)).chg HC3.out (fun h => h)).chg HC36.out (fun h => h))
  have HX3 := Lib.hid (HR3.out.chg HC36.out (fun h => h))
  have HTX := Lib.hid (HT.out.chg HCH.out (fun h => h) (fun h => h))
  have hn2 : ¬ w2.heap.size < w.heap.size := by have := HC1.out.size; have := HC2.out.size; omega
  have HN2 := Lib.hid hn2
  clear hz4 hn2 HR1 HR2 HR3 HR5 HC2 HC3 HC4 HC5 HC6 HC36 HC1 HW
  generalize w4.heap.size = g5 at HR6 ⊢
  generalize hG3 : w2.heap.size = g3 at HX3 HN2 ⊢
  clear hG3
  generalize hG1 : w.heap.size = g1 at HX1 HN2 ⊢
  have HG1 := Lib.hid hG1
  clear hG1
  have c0 := Row.u32 HX1.out (i := 0) (by rw [St8.len]; decide)
  have c1 := Row.u32 HX1.out (i := 1) (by rw [St8.len]; decide)
  have c2 := Row.u32 HX1.out (i := 2) (by rw [St8.len]; decide)
  have c3 := Row.u32 HX1.out (i := 3) (by rw [St8.len]; decide)
  have c4 := Row.u32 HX1.out (i := 4) (by rw [St8.len]; decide)
  have c5 := Row.u32 HX1.out (i := 5) (by rw [St8.len]; decide)
  have c6 := Row.u32 HX1.out (i := 6) (by rw [St8.len]; decide)
  have c7 := Row.u32 HX1.out (i := 7) (by rw [St8.len]; decide)
  simp only [St8.list, List.getD_cons_zero, List.getD_cons_succ] at c0 c1 c2 c3 c4 c5 c6 c7
  simp only [Act.put, List.setIfInBounds_toArray, List.set_cons_zero, List.set_cons_succ]
  go_quiet (fail)
  go_wp2
  have CL : Hid (∀ m, Chg none_ w6 (w6.drewN m)) := Lib.hid (fun m => (Chg.refl none_ w6).drewN m)
  have HLT : Hid (∀ i, kN.getD i 0 < 4294967296 ∧ W.getD i 0 < 4294967296) := Lib.hid (fun i => ⟨getD_lt kN_lt i (by decide), getD_lt HWB.out i (by decide)⟩)
  have HRO := Lib.hid (fun k => roundsN_ok W HS.out k)
  have HKT := Lib.hid HTX.out.ks
  go_loopw [6, 7, 8, 9, 10, 11, 12, 13, 35] (fun a b c d e f g h i wr => ∃ (k : Nat) (r : St8), k ≤ 64 ∧ i = .int .i64 k ∧ Hid (r = roundsN s W k) ∧ a = .int .u32 r.a ∧ b = .int .u32 r.b ∧ c = .int .u32 r.c ∧ d = .int .u32 r.d ∧ e = .int .u32 r.e ∧ f = .int .u32 r.f ∧ g = .int .u32 r.g ∧ h = .int .u32 r.h ∧ Chg none_ w6 wr) (fun _ _ _ _ _ _ _ _ i _ => 64 - (intOf i).toNat)
  case atStart => exact ⟨0, s, Nat.zero_le _, rfl, Lib.hid rfl, rfl, rfl, rfl, rfl, rfl, rfl, rfl, rfl, CL.out _⟩
  case round =>
    obtain ⟨k, r, hk, rfl, HR, rfl, rfl, rfl, rfl, rfl, rfl, rfl, rfl, hch⟩ := hrel
    have HC := Lib.hid hch
    have hro := HRO.out k
    rw [← HR.out] at hro
    have HROK := Lib.hid hro
    clear c0 c1 c2 c3 c4 c5 c6 c7 hro
    obtain ⟨ra, rb, rc, rd, re, rf, rg, rh⟩ := r
    simp only
    by_cases hlt : k < 64
    · have d1 : wr.cell? ⟨1, k, none⟩ = some (.int .u32 ((kN.getD k 0 : Nat) : Int)) := (hch.cell _ HTX.out.k (fun h => h)).trans (HKT.out k hlt)
      have d2 := Row.u32 (HR6.out.chg hch (fun h => h)) (i := k) (by rw [HWL.out]; exact hlt)
      have HST : Hid (roundsN s W (k + 1) = stepN ⟨ra, rb, rc, rd, re, rf, rg, rh⟩ (kN.getD k 0) (W.getD k 0)) := Lib.hid (by rw [roundsN, HR.out])
      have hA : ra < 4294967296 := HROK.out.a
      have hE : re < 4294967296 := HROK.out.e
      generalize kN.getD k 0 = kk at d1 HST
      generalize W.getD k 0 = ww at d2 HST
      have q5 : (0 : Int) ≤ (k : Int) := by omega
      have q6 : (k : Int) < 64 := by omega
      clear hch
      go_wp2
      go_quiet ((go_at_call 28; first | (with_reducible exact Calls.quiet_of_same ((right_6 re hE _).mono fun _ _ h => ⟨h.1, h.2.symm⟩)) | (with_reducible exact Calls.quiet_of_same ((right_11 re hE _).mono fun _ _ h => ⟨h.1, h.2.symm⟩)) | (with_reducible exact Calls.quiet_of_same ((right_25 re hE _).mono fun _ _ h => ⟨h.1, h.2.symm⟩))))
      go_wp2_with (go_at_call 28; first | ((with_reducible refine (right_2 ra hA _).mono ?_); rintro e w' ⟨rfl, rfl⟩) | ((with_reducible refine (right_13 ra hA _).mono ?_); rintro e w' ⟨rfl, rfl⟩) | ((with_reducible refine (right_22 ra hA _).mono ?_); rintro e w' ⟨rfl, rfl⟩))
      go_roundw
      case rel =>
        refine ⟨k + 1, stepN ⟨ra, rb, rc, rd, re, rf, rg, rh⟩ kk ww, by omega, by go_num, Lib.hid HST.out.symm, ?_, rfl, rfl, rfl, ?_, rfl, rfl, rfl, HC.out.drewN _⟩
        · rw [bs1V, bs0V, chV re rf rg hE HROK.out.f HROK.out.g, majV ra rb rc hA HROK.out.b HROK.out.c]
          simp only [stepN, t1N, t2N]
          congr 1
        · rw [bs1V, chV re rf rg hE HROK.out.f HROK.out.g]
          simp only [stepN, t1N]
          congr 1
      case measure => simp [intOf]; omega
    · have hk64 : k = 64 := by omega
      subst hk64
      have c0 := Row.u32 (HX1.out.chg hch (fun h => h)) (i := 0) (by rw [St8.len]; decide)
      have c1 := Row.u32 (HX1.out.chg hch (fun h => h)) (i := 1) (by rw [St8.len]; decide)
      have c2 := Row.u32 (HX1.out.chg hch (fun h => h)) (i := 2) (by rw [St8.len]; decide)
      have c3 := Row.u32 (HX1.out.chg hch (fun h => h)) (i := 3) (by rw [St8.len]; decide)
      have c4 := Row.u32 (HX1.out.chg hch (fun h => h)) (i := 4) (by rw [St8.len]; decide)
      have c5 := Row.u32 (HX1.out.chg hch (fun h => h)) (i := 5) (by rw [St8.len]; decide)
      have c6 := Row.u32 (HX1.out.chg hch (fun h => h)) (i := 6) (by rw [St8.len]; decide)
      have c7 := Row.u32 (HX1.out.chg hch (fun h => h)) (i := 7) (by rw [St8.len]; decide)
      simp only [St8.list, List.getD_cons_zero, List.getD_cons_succ] at c0 c1 c2 c3 c4 c5 c6 c7
      have HV : Hid (u32s (turnN s b).list = [.int .u32 (((s.a : Int) + (ra : Int)) % 4294967296), .int .u32 (((s.b : Int) + (rb : Int)) % 4294967296), .int .u32 (((s.c : Int) + (rc : Int)) % 4294967296), .int .u32 (((s.d : Int) + (rd : Int)) % 4294967296), .int .u32 (((s.e : Int) + (re : Int)) % 4294967296), .int .u32 (((s.f : Int) + (rf : Int)) % 4294967296), .int .u32 (((s.g : Int) + (rg : Int)) % 4294967296), .int .u32 (((s.h : Int) + (rh : Int)) % 4294967296)]) := Lib.hid (by rw [HTU.out, ← HR.out]; rfl)
      rw [show ((64 : Nat) : Int) = 64 from rfl]
      clear hch hk hlt
      go_wp2_with ((with_reducible show wpList _ _ _ (⟨_, .store 37 _ _, _, _, _, _⟩ :: _) _ _); refine wpList_store_Row (xs := u32s (turnN s b).list) rfl rfl rfl (HX3.out.chg HC.out (fun h => h)) (by rw [HV.out]; rfl) (by rw [u32s_length, St8.len, u32s_length]; rfl) (by rw [u32s_length, St8.len]; exact size37) (u32s_one _) ?_; intro w7 hr7 hc7 hs7; have HR7 := Lib.hid hr7; have HC7 := Lib.hid hc7; clear hr7 hc7 hs7)
      refine ret_row rfl rfl HR7.out Tryd.underlying37 rfl (by rw [u32s_length, St8.len]; exact size37) rfl ?_
      exact ⟨rfl, HC7.out none_ w (HCH.out.trans HC.out) (fun h => by have := HG1.out; exact absurd h (by rw [this]; exact HN2.out))⟩
end Go.Proofs.YtodcjcpbigggfaaDoor
