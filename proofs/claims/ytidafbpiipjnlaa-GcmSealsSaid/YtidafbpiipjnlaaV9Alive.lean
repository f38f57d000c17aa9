/- Layer 9 (gcm): the laws' own look that the program answers at all. -/
import Derived.Test.YtidafbpiipjnlaaV9Seal
import Derived.Test.YtidafbpiipjnlaaV9Ev
import Derived.Test.YtidafbpiipjnlaaK0

import Derived.Test.YtidafbpiipjnlaaV9TopT
namespace Go.Proofs.Ytidafbpiipjnlaa
open Go.RowKit

section
variable {P : Program} {ops : Array Oper} {rest : List Oper} {o : Oper} {a : Act} {w : World} {Q : Exit → Act → World → Prop}
/-- '==' of two arrays. -/
theorem wpList_eql (hw : Region.wanted o (yielded ops a.tmps) = true) (T R : TypeId) (x y : Operand) (ho : o.op = .binOp .eql T x y R) (u v : Array Value) (hx : a.eval x = .agg u) (hy : a.eval y = .agg v) (b : Bool)
    (hg : (eqGuard .eql T x y (.agg u) (.agg v)).run P w = .ok () w) (h : (Op.equalIn 10000 T (.agg u) (.agg v)).run P w = .ok b w) (k : wpList P ops Q rest (a.put o.dst (.bool b)) w) : wpList P ops Q (o :: rest) a w :=
  BigFrame.wpList_want hw fun _ hK => by
    have hh : (Op.equal T (.agg u) (.agg v)).run P w = .ok b w := h
    have hr : (execOp a.eval o).run P w = .ok (.value (.bool b)) w := by
      unfold execOp
      simp only [ho, hx, hy, Sem.run_bind, Sem.run_pure, Result.andThen_ok, hg, binOp, hh]
    unfold Oper.wp
    rw [hr]
    exact hK _ _ k
end
theorem bldK9 (w : World) : (Instr.build 22 #[(0, .int .u8 1)]).run Try.prog w = .ok (.agg (u8s key9).toArray) w := run_build w _ _ _ (by kernel_rfl)
theorem bldN9 (w : World) : (Instr.build 23 #[(0, .int .u8 2)]).run Try.prog w = .ok (.agg (u8s nonce9).toArray) w := run_build w _ _ _ (by kernel_rfl)
theorem bldZ12 (w : World) : (Instr.build 23 #[]).run Try.prog w = .ok (.agg (u8s (List.replicate 12 0)).toArray) w := run_build w _ _ _ (by kernel_rfl)
theorem bldOne (w : World) : (Instr.build 22 #[(0, .int .u8 128)]).run Try.prog w = .ok (.agg (u8s one9).toArray) w := run_build w _ _ _ (by kernel_rfl)
theorem bldSv (w : World) : (Instr.build 22 #[(0, .int .u8 7)]).run Try.prog w = .ok (.agg (u8s seven9).toArray) w := run_build w _ _ _ (by kernel_rfl)
theorem Owned.viewLt {w : World} {base : Nat} {v : Value} {l : List Nat} (h : Owned w base v l) : ∃ A cap, v = .slice A l.length cap ∧ l.length ≤ cap ∧ View w (fun b => b < w.heap.size) A l.length (u8s l) := by
  obtain ⟨A, cap, e, h1, _, h3⟩ := h.view
  exact ⟨A, cap, e, h1, h3.mono (fun b hb _ => hb)⟩

set_option maxRecDepth 100000 in
set_option maxHeartbeats 4000000 in
theorem alive_any (W : World) : Calls Try.prog 4 #[] W fun e w' => e = .returned (.bool true) ∧ Chg none_ W w' := by
  have hz : ∀ n, ∀ x ∈ List.replicate n 0, x < 256 := fun n x hx => by rw [List.eq_of_mem_replicate hx]; decide
  have hk9l : key9.length = 16 := rfl
  have hn9l : nonce9.length = 12 := rfl
  have hk9 : ∀ x ∈ key9, x < 256 := by decide
  have hn9 : ∀ x ∈ nonce9, x < 256 := by decide
  have hm9 : ∀ x ∈ more9, x < 256 := by decide
  have hr9 : ∀ x ∈ mora9, x < 256 := by decide
  have ht9 : ∀ x ∈ text9, x < 256 := by decide
  obtain ⟨Z16, hZ16⟩ : ∃ Z, Z = List.replicate 16 0 := ⟨_, rfl⟩
  obtain ⟨Z12, hZ12⟩ : ∃ Z, Z = List.replicate 12 0 := ⟨_, rfl⟩
  have HZ16 : Hid (∀ w, (Instr.build 22 #[]).run Try.prog w = .ok (.agg (u8s Z16).toArray) w) := Lib.hid (fun w => by rw [hZ16]; exact run_build_none w)
  have HZ12 : Hid (∀ w, (Instr.build 23 #[]).run Try.prog w = .ok (.agg (u8s Z12).toArray) w) := Lib.hid (fun w => by rw [hZ12]; exact bldZ12 w)
  have HK9 := Lib.hid bldK9
  have HN9 := Lib.hid bldN9
  have HONE := Lib.hid bldOne
  have HSV := Lib.hid bldSv
  have HS0 : Hid (∀ w, Calls Try.prog 8 #[.agg (u8s Z16).toArray, .agg (u8s Z12).toArray, .slice none 0 0, .slice none 0 0] w fun e w' => ∃ b0 o0 c0, e = .returned (.slice (some ⟨b0, o0, none⟩) 16 c0) ∧ View w' (fun b => b < w'.heap.size) (some ⟨b0, o0, none⟩) 16 (u8s [0x58, 0xe2, 0xfc, 0xce, 0xfa, 0x7e, 0x30, 0x61, 0x36, 0x7f, 0x1d, 0x57, 0xa4, 0xe7, 0x45, 0x5a]) ∧ Chg none_ w w') := Lib.hid (fun w => by
    rw [hZ16, hZ12]
    refine (Seal_any (List.replicate 16 0) (List.replicate 12 0) [] [] (fun _ => True) (fun _ => True) none none 0 0 w (by simp) (hz 16) (by simp) (hz 12) (View.none_ _ _ _) (Nat.le_refl _) (by simp) (by simp) (View.none_ _ _ _) (by simp) (by simp)).mono ?_
    rintro e w' ⟨v, rfl, ho, hc⟩
    rw [seal_ev] at ho
    obtain ⟨A, c, rfl, _, hv⟩ := ho.viewLt
    obtain ⟨b, o, rfl, _⟩ := hv.2 (by decide)
    exact ⟨b, o, c, rfl, hv, hc⟩)
  have hCL : (sealG key9 nonce9 more9 text9).length = 20 := by rw [sealG_len]; rfl
  have hCB : ∀ x ∈ sealG key9 nonce9 more9 text9, x < 256 := sealG_lt hk9 hn9 ht9
  have hO1 := open_more
  have hO2 := open_mora
  have HS1 : Hid (∀ T T' A A' w, View w T A 4 (u8s more9) → View w T' A' 4 (u8s text9) → Calls Try.prog 8 #[.agg (u8s key9).toArray, .agg (u8s nonce9).toArray, .slice A 4 4, .slice A' 4 4] w fun e w' => ∃ A c, e = .returned (.slice A 20 c) ∧ 20 ≤ c ∧ View w' (fun b => b < w'.heap.size) A 20 (u8s (sealG key9 nonce9 more9 text9)) ∧ Chg none_ w w') := Lib.hid (fun T T' A A' w h1 h2 => by
    refine (Seal_any key9 nonce9 more9 text9 T T' A A' 4 4 w hk9l hk9 hn9l hn9 h1 (by decide) (by decide) hm9 h2 (by decide) ht9).mono ?_
    rintro e w' ⟨v, rfl, ho, hc⟩
    obtain ⟨A, c, rfl, h3, hv⟩ := ho.viewLt
    rw [hCL] at h3 hv ⊢
    exact ⟨A, c, rfl, h3, hv, hc⟩)
  generalize sealG key9 nonce9 more9 text9 = CT at hCL hCB hO1 hO2 HS1
  have HO1 : Hid (∀ T T' A A' c w, View w T A 4 (u8s more9) → View w T' A' 20 (u8s CT) → 20 ≤ c → Calls Try.prog 5 #[.agg (u8s key9).toArray, .agg (u8s nonce9).toArray, .slice A 4 4, .slice A' 20 c] w fun e w' => ∃ A c, e = .returned (.tuple #[.slice A 4 c, .int .i64 0]) ∧ View w' (fun b => b < w'.heap.size) A 4 (u8s text9) ∧ Chg none_ w w') := Lib.hid (fun T T' A A' c w h1 h2 h3 => by
    have := Open_any key9 nonce9 more9 CT T T' A A' 4 c w hk9l hk9 hn9l hn9 h1 (by decide) (by decide) hm9 (by rw [hCL]; exact h2) (by rw [hCL]; exact h3) (by rw [hCL]; decide) hCB
    rw [hCL, hO1] at this
    refine this.mono ?_
    rintro e w' ⟨v, rfl, ho, hc⟩
    obtain ⟨A, c, rfl, _, hv⟩ := ho.viewLt
    exact ⟨A, c, rfl, hv, hc⟩)
  have HO2 : Hid (∀ T T' A A' c w, View w T A 4 (u8s mora9) → View w T' A' 20 (u8s CT) → 20 ≤ c → Calls Try.prog 5 #[.agg (u8s key9).toArray, .agg (u8s nonce9).toArray, .slice A 4 4, .slice A' 20 c] w fun e w' => ∃ A c, e = .returned (.tuple #[.slice A 0 c, .int .i64 7]) ∧ Chg none_ w w') := Lib.hid (fun T T' A A' c w h1 h2 h3 => by
    have := Open_any key9 nonce9 mora9 CT T T' A A' 4 c w hk9l hk9 hn9l hn9 h1 (by decide) (by decide) hr9 (by rw [hCL]; exact h2) (by rw [hCL]; exact h3) (by rw [hCL]; decide) hCB
    rw [hCL, hO2] at this
    refine this.mono ?_
    rintro e w' ⟨v, rfl, ho, hc⟩
    obtain ⟨A, c, rfl, _, _⟩ := ho.viewLt
    exact ⟨A, c, rfl, hc⟩)
  have HTI : Hid (∀ w, Calls Try.prog 10 #[.agg (u8s one9).toArray, .agg (u8s seven9).toArray] w fun e w' => e = .returned (.agg (u8s seven9).toArray) ∧ Chg none_ w w') := Lib.hid (fun w => by
    have := Times_any one9 seven9 w rfl (by decide) rfl (by decide)
    rwa [times_one] at this)
  have HEQ : Hid (∀ w, (Op.equalIn 10000 22 (.agg (u8s seven9).toArray) (.agg (u8s seven9).toArray)).run Try.prog w = .ok true w) := Lib.hid (fun w => by have := blk_eql seven9 seven9 rfl rfl w; rwa [decide_eq_true rfl] at this)
  have HCE0 : Hid (∀ w (T : Nat → Prop) b o, View w T (some ⟨b, o, none⟩) 16 (u8s [0x58, 0xe2, 0xfc, 0xce, 0xfa, 0x7e, 0x30, 0x61, 0x36, 0x7f, 0x1d, 0x57, 0xa4, 0xe7, 0x45, 0x5a]) → w.cell? ⟨b, o, none⟩ = some (.int .u8 88)) := Lib.hid (fun w T b o h => by
    obtain ⟨b', o', e, _, _, hc⟩ := h.2 (by decide)
    injection e with e
    injection e with e1 e2
    subst e1; subst e2
    exact hc 0 (by decide))
  have HCE1 : Hid (∀ w (T : Nat → Prop) b o, View w T (some ⟨b, o, none⟩) 16 (u8s [0x58, 0xe2, 0xfc, 0xce, 0xfa, 0x7e, 0x30, 0x61, 0x36, 0x7f, 0x1d, 0x57, 0xa4, 0xe7, 0x45, 0x5a]) → w.cell? ⟨b, o + 1, none⟩ = some (.int .u8 226)) := Lib.hid (fun w T b o h => by
    obtain ⟨b', o', e, _, _, hc⟩ := h.2 (by decide)
    injection e with e
    injection e with e1 e2
    subst e1; subst e2
    exact hc 1 (by decide))
  have HCV : Hid (∀ w (T : Nat → Prop) A c, View w T A 4 (u8s text9) → (convert 24 9 (.slice A 4 c)).run Try.prog w = .ok (.string ⟨#[116, 101, 120, 116]⟩) w) := Lib.hid (fun w T A c h => run_string_view w T A 4 c text9 h)
  obtain ⟨K9, hK9⟩ : ∃ x, x = key9 := ⟨_, rfl⟩
  obtain ⟨N9, hN9⟩ : ∃ x, x = nonce9 := ⟨_, rfl⟩
  obtain ⟨ONE, hONE⟩ : ∃ x, x = one9 := ⟨_, rfl⟩
  obtain ⟨SV, hSV⟩ : ∃ x, x = seven9 := ⟨_, rfl⟩
  rw [← hK9] at HK9 HS1 HO1 HO2
  rw [← hN9] at HN9 HS1 HO1 HO2
  rw [← hONE] at HONE HTI
  rw [← hSV] at HSV HTI HEQ
  clear hz hk9l hn9l hk9 hn9 hm9 hr9 ht9 hZ16 hZ12 hCL hCB hO1 hO2 hK9 hN9 hONE hSV
  go_enter Try.func4, Try.ntmps4
  go_wp2_with (first | ((with_reducible show wpList _ _ _ (⟨some 7, _, _, _, _, _⟩ :: _) _ _); refine wpList_val rfl (.agg (u8s Z16).toArray) (fun w => by have := HZ16.out w; unfold execOp; simp [Act.eval, this]) ?_) | ((with_reducible show wpList _ _ _ (⟨some 8, _, _, _, _, _⟩ :: _) _ _); refine wpList_val rfl (.agg (u8s Z12).toArray) (fun w => by have := HZ12.out w; unfold execOp; simp [Act.eval, this]) ?_) | (go_at_call 8; with_reducible refine (HS0.out _).mono ?_; rintro e w1 ⟨b0, o0, c0, rfl, hv0, hc1⟩; have HV0 := Lib.hid hv0; have HC1 := Lib.hid hc1; have HD1 := Lib.hid (Chg.refl none_ w1); clear hv0 hc1 HS0) | ((with_reducible show wpList _ _ _ (⟨some 10, _, _, _, _, _⟩ :: _) _ _); refine wpList_val rfl (.agg (u8s K9).toArray) (fun w => by have := HK9.out w; unfold execOp; simp [Act.eval, this]) ?_) | ((with_reducible show wpList _ _ _ (⟨some 11, _, _, _, _, _⟩ :: _) _ _); refine wpList_val rfl (.agg (u8s N9).toArray) (fun w => by have := HN9.out w; unfold execOp; simp [Act.eval, this]) ?_) | ((with_reducible show wpList _ _ _ (⟨some 12, _, _, _, _, _⟩ :: _) _ _); refine wpList_new_row (v := fun g => .slice (some ⟨g, 0, none⟩) 4 4) (e := 5) (cs := [.int .u8 109, .int .u8 111, .int .u8 114, .int .u8 101]) rfl (fun w_ => by go_simp) ?_; intro w2 hr2 hc2 hs2; have HR2 := Lib.hid hr2; have HN2 := Lib.hid hc2; have HC2 := Lib.hid (HC1.out.trans hc2); have HD2 := Lib.hid (HD1.out.trans hc2); clear hr2 hc2 hs2) | ((with_reducible show wpList _ _ _ (⟨some 13, _, _, _, _, _⟩ :: _) _ _); refine wpList_bytes_mark rfl rfl rfl Try.underlying24 Try.underlying5 (HR2.out) ?_; intro w3 hv3 hc3 hs3; have HV3 : Hid (View w3 (fun b => b = w1.heap.size) (some ⟨w1.heap.size, 0, none⟩) 4 (u8s more9)) := Lib.hid hv3; have HX3 := Lib.hid hc3; have HC3 := Lib.hid (HC2.out.andThen hc3 (fun b h e => by have := HC1.out.size; omega)); have HD3 := Lib.hid (HD2.out.andThen hc3 (fun b h e => by have := HD1.out.size; omega)); clear hv3 hc3 hs3) | ((with_reducible show wpList _ _ _ (⟨some 14, _, _, _, _, _⟩ :: _) _ _); refine wpList_new_row (v := fun g => .slice (some ⟨g, 0, none⟩) 4 4) (e := 5) (cs := [.int .u8 116, .int .u8 101, .int .u8 120, .int .u8 116]) rfl (fun w_ => by go_simp) ?_; intro w4 hr4 hc4 hs4; have HR4 := Lib.hid hr4; have HN4 := Lib.hid hc4; have HC4 := Lib.hid (HC3.out.trans hc4); have HD4 := Lib.hid (HD3.out.trans hc4); clear hr4 hc4 hs4) | ((with_reducible show wpList _ _ _ (⟨some 15, _, _, _, _, _⟩ :: _) _ _); refine wpList_bytes_mark rfl rfl rfl Try.underlying24 Try.underlying5 (HR4.out) ?_; intro w5 hv5 hc5 hs5; have HV5 : Hid (View w5 (fun b => b = w3.heap.size) (some ⟨w3.heap.size, 0, none⟩) 4 (u8s text9)) := Lib.hid hv5; have HX5 := Lib.hid hc5; have HC5 := Lib.hid (HC4.out.andThen hc5 (fun b h e => by have := HC3.out.size; omega)); have HD5 := Lib.hid (HD4.out.andThen hc5 (fun b h e => by have := HD3.out.size; omega)); have HV3b := Lib.hid ((HV3.out.chg HN4.out (fun _ _ h => h)).chg hc5 (fun b hb e => by have := HR2.out.lt; have := HX3.out.size; omega)); clear hv5 hc5 hs5) | (go_at_call 8; with_reducible refine (HS1.out _ _ _ _ _ HV3b.out HV5.out).mono ?_; rintro e w6 ⟨A1, c1, rfl, hc1c, hv1, hc6⟩; have HV1 := Lib.hid hv1; have HCC := Lib.hid hc1c; have HC6 := Lib.hid (HC5.out.trans hc6); have HD6 := Lib.hid (HD5.out.trans hc6); clear hv1 hc6 hc1c HS1) | ((with_reducible show wpList _ _ _ (⟨some 18, _, _, _, _, _⟩ :: _) _ _); refine wpList_val rfl (.agg (u8s K9).toArray) (fun w => by have := HK9.out w; unfold execOp; simp [Act.eval, this]) ?_) | ((with_reducible show wpList _ _ _ (⟨some 19, _, _, _, _, _⟩ :: _) _ _); refine wpList_val rfl (.agg (u8s N9).toArray) (fun w => by have := HN9.out w; unfold execOp; simp [Act.eval, this]) ?_) | ((with_reducible show wpList _ _ _ (⟨some 20, _, _, _, _, _⟩ :: _) _ _); refine wpList_new_row (v := fun g => .slice (some ⟨g, 0, none⟩) 4 4) (e := 5) (cs := [.int .u8 109, .int .u8 111, .int .u8 114, .int .u8 101]) rfl (fun w_ => by go_simp) ?_; intro w7 hr7 hc7 hs7; have HR7 := Lib.hid hr7; have HN7 := Lib.hid hc7; have HC7 := Lib.hid (HC6.out.trans hc7); have HD7 := Lib.hid (HD6.out.trans hc7); clear hr7 hc7 hs7) | ((with_reducible show wpList _ _ _ (⟨some 21, _, _, _, _, _⟩ :: _) _ _); refine wpList_bytes_mark rfl rfl rfl Try.underlying24 Try.underlying5 (HR7.out) ?_; intro w8 hv8 hc8 hs8; have HV8 : Hid (View w8 (fun b => b = w6.heap.size) (some ⟨w6.heap.size, 0, none⟩) 4 (u8s more9)) := Lib.hid hv8; have HX8 := Lib.hid hc8; have HC8 := Lib.hid (HC7.out.andThen hc8 (fun b h e => by have := HC6.out.size; omega)); have HD8 := Lib.hid (HD7.out.andThen hc8 (fun b h e => by have := HD6.out.size; omega)); have HV1b := Lib.hid ((HV1.out.chg HN7.out (fun _ _ h => h)).chg hc8 (fun b hb e => by omega)); clear hv8 hc8 hs8) | (go_at_call 5; with_reducible refine (HO1.out _ _ _ _ _ _ HV8.out HV1b.out HCC.out).mono ?_; rintro e w9 ⟨A2, c2, rfl, hv2, hc9⟩; have HV2 := Lib.hid hv2; have HC9 := Lib.hid (HC8.out.trans hc9); have HD9 := Lib.hid (HD8.out.trans hc9); have HV1c := Lib.hid (HV1b.out.chg hc9 (fun _ _ h => h)); have HG9 := Lib.hid (show w6.heap.size ≤ w9.heap.size from by have := HN7.out.size; have := HX8.out.size; have := hc9.size; omega); clear hv2 hc9 HO1) | ((with_reducible show wpList _ _ _ (⟨some 27, _, _, _, _, _⟩ :: _) _ _); refine wpList_val rfl (.agg (u8s K9).toArray) (fun w => by have := HK9.out w; unfold execOp; simp [Act.eval, this]) ?_) | ((with_reducible show wpList _ _ _ (⟨some 28, _, _, _, _, _⟩ :: _) _ _); refine wpList_val rfl (.agg (u8s N9).toArray) (fun w => by have := HN9.out w; unfold execOp; simp [Act.eval, this]) ?_) | ((with_reducible show wpList _ _ _ (⟨some 29, _, _, _, _, _⟩ :: _) _ _); refine wpList_new_row (v := fun g => .slice (some ⟨g, 0, none⟩) 4 4) (e := 5) (cs := [.int .u8 109, .int .u8 111, .int .u8 114, .int .u8 97]) rfl (fun w_ => by go_simp) ?_; intro w10 hr10 hc10 hs10; have HR10 := Lib.hid hr10; have HN10 := Lib.hid hc10; have HC10 := Lib.hid (HC9.out.trans hc10); have HD10 := Lib.hid (HD9.out.trans hc10); clear hr10 hc10 hs10) | ((with_reducible show wpList _ _ _ (⟨some 30, _, _, _, _, _⟩ :: _) _ _); refine wpList_bytes_mark rfl rfl rfl Try.underlying24 Try.underlying5 (HR10.out) ?_; intro w11 hv11 hc11 hs11; have HV11 : Hid (View w11 (fun b => b = w9.heap.size) (some ⟨w9.heap.size, 0, none⟩) 4 (u8s mora9)) := Lib.hid hv11; have HX11 := Lib.hid hc11; have HC11 := Lib.hid (HC10.out.andThen hc11 (fun b h e => by have := HC9.out.size; omega)); have HD11 := Lib.hid (HD10.out.andThen hc11 (fun b h e => by have := HD9.out.size; omega)); have HV1d := Lib.hid ((HV1c.out.chg HN10.out (fun _ _ h => h)).chg hc11 (fun b hb e => by have := HG9.out; omega)); have HV2b := Lib.hid ((HV2.out.chg HN10.out (fun _ _ h => h)).chg hc11 (fun b hb e => by omega)); clear hv11 hc11 hs11) | (go_at_call 5; with_reducible refine (HO2.out _ _ _ _ _ _ HV11.out HV1d.out HCC.out).mono ?_; rintro e w12 ⟨A3, c3, rfl, hc12⟩; have HC12 := Lib.hid (HC11.out.trans hc12); have HV0b := HV0.out.chg (HD11.out.trans hc12) (fun _ _ h => h); have k0 := HCE0.out w12 _ _ _ HV0b; have k1 := HCE1.out w12 _ _ _ HV0b; have hcv := HCV.out _ _ _ c2 (HV2b.out.chg hc12 (fun _ _ h => h)); clear hc12 HO2 HV0b) | ((with_reducible show wpList _ _ _ (⟨some 69, _, _, _, _, _⟩ :: _) _ _); refine wpList_val rfl (.agg (u8s ONE).toArray) (fun w => by have := HONE.out w; unfold execOp; simp [Act.eval, this]) ?_) | ((with_reducible show wpList _ _ _ (⟨some 70, _, _, _, _, _⟩ :: _) _ _); refine wpList_val rfl (.agg (u8s SV).toArray) (fun w => by have := HSV.out w; unfold execOp; simp [Act.eval, this]) ?_) | (go_at_call 10; refine (HTI.out _).mono ?_; rintro e w13 ⟨rfl, hc13⟩; have HC13 := Lib.hid (HC12.out.trans hc13); clear hc13) | ((with_reducible show wpList _ _ _ (⟨some 72, _, _, _, _, _⟩ :: _) _ _); refine wpList_val rfl (.agg (u8s SV).toArray) (fun w => by have := HSV.out w; unfold execOp; simp [Act.eval, this]) ?_) | ((with_reducible show wpList _ _ _ (⟨some 73, _, _, _, _, _⟩ :: _) _ _); refine wpList_eql rfl 22 _ _ _ rfl (u8s SV).toArray (u8s SV).toArray rfl rfl true (run_eqGuard_agg _ .eql 22 _ _ _ _ Try.eqGuardType22) (HEQ.out _) ?_))
  go_ret
  exact ⟨rfl, HC13.out⟩
end Go.Proofs.Ytidafbpiipjnlaa
