/- Layer 6 (hframe): the law HframeJoins. -/
import Derived.Test.YtcdnjeojgjakdaaDoorV6Alive
import Derived.Test.YtcdnjeojgjakdaaDoorV6Open
import Derived.Test.YtcdnjeojgjakdaaDoorV6RSame
import Derived.Test.YtcdnjeojgjakdaaDoorAppN
namespace Go.Proofs.YtcdnjeojgjakdaaDoor
open Go.RowKit

theorem pack_yes {l : List Fld} (h : fieldsB l = true) : packH l = packE l := by unfold packH; rw [h, if_pos rfl]
theorem packE_append (l m : List Fld) : packE (l ++ m) = packE l ++ packE m := by simp [packE]
theorem fields_append {l m : List Fld} (h1 : fieldsB l = true) (h2 : fieldsB m = true) (h : (l ++ m).length ≤ 32) : fieldsB (l ++ m) = true := by
  unfold fieldsB at *
  simp only [Bool.and_eq_true, Bool.not_eq_true', decide_eq_true_eq, List.any_append, Bool.or_eq_false_iff] at *
  exact ⟨h, h1.2, h2.2⟩
theorem unpack_two {l m : List Fld} (h1 : fieldsB l = true) (h2 : fieldsB m = true) (w' : World) (T : Nat → Prop) (A' : Option Addr) (k : Nat) (hv : View w' T A' ((packH l).length + (packH m).length) (u8s (packH l ++ packH m))) :
    Calls Tryd.prog 24 #[.slice A' ((packH l).length + (packH m).length) k] w' (UnpackPost (if (l ++ m).length ≤ 32 then (l ++ m, 0) else ([], 3)) w') := by
  have ha := fields_all h1
  have hb := fields_all h2
  have hL : (packH l ++ packH m).length = (packH l).length + (packH m).length := List.length_append
  have h := unpack_any w' T A' k (packH l ++ packH m) (by rw [hL]; exact hv) (by
    rw [hL, pack_yes h1, pack_yes h2]
    have := packE_len l ha.2
    have := packE_len m hb.2
    omega) (fun x hx => by
    rw [pack_yes h1, pack_yes h2] at hx
    exact (List.mem_append.1 hx).elim (packE_lt l x) (packE_lt m x))
  rw [hL, show unpackH (packH l ++ packH m) = if (l ++ m).length ≤ 32 then (l ++ m, 0) else ([], 3) by
    rw [pack_yes h1, pack_yes h2, ← packE_append]
    exact unpack_pack _ (fun x hx => (List.mem_append.1 hx).elim (ha.2 x) (hb.2 x))] at h
  exact h

section
variable (l m : List Fld) (A B : Option Addr) (c d : Nat) (W : World)

set_option maxRecDepth 100000 in
set_option maxHeartbeats 2000000 in
theorem joins_0 (hvl : View W (fun _ => True) A (2 * l.length) (fcells l)) (hvm : View W (fun _ => True) B (2 * m.length) (fcells m)) (hT : Tab W) (q1 : fieldsB l = false) :
    Calls Tryd.prog 8 #[.slice A l.length c, .slice B m.length d] W fun e w' => e = .returned (.bool true) ∧ Chg none_ W w' := by
  have HAL := Lib.hid (alive_any W hT)
  have HGL := Lib.hid (fun w' (hc : Chg none_ W w') => great_flds l A c w' _ (hvl.chg hc (fun _ _ h => h)))
  have HGM := Lib.hid (fun w' (hc : Chg none_ W w') => great_flds m B d w' _ (hvm.chg hc (fun _ _ h => h)))
  have HFL := Lib.hid (fun w' (hc : Chg none_ W w') => fields_any w' _ A c l (hvl.chg hc (fun _ _ h => h)))
  have HFM := Lib.hid (fun w' (hc : Chg none_ W w') => fields_any w' _ B d m (hvm.chg hc (fun _ _ h => h)))
  rw [q1] at HFL
  clear hvl hvm hT q1 HFM
  go_enter Tryd.func8, Tryd.ntmps8
  go_wp2_with (go_at_call 10; refine HAL.out.mono ?_; rintro e w1 ⟨rfl, c1⟩)
  refine (HGL.out _ c1).mono ?_
  rintro e w2 ⟨⟨b, rfl, _⟩, k2, rfl⟩
  have c2 := c1.drewN k2
  generalize w1.drewN k2 = w2 at c2 ⊢
  clear HAL HGL c1
  cases b
  case true =>
    go_wp2
    go_ret
    exact ⟨rfl, c2⟩
  go_wp2_with fail
  refine (HGM.out _ c2).mono ?_
  rintro e w3 ⟨⟨b, rfl, _⟩, k3, rfl⟩
  have c3 := c2.drewN k3
  generalize w2.drewN k3 = w3 at c3 ⊢
  clear HGM c2
  cases b
  case true =>
    go_wp2
    go_ret
    exact ⟨rfl, c3⟩
  go_wp2_with fail
  refine (HFL.out _ c3).mono ?_
  rintro e w4 ⟨rfl, d4⟩
  have c4 := c3.trans d4
  clear HFL d4 c3
  go_wp2
  go_ret
  exact ⟨rfl, c4⟩

set_option maxRecDepth 100000 in
set_option maxHeartbeats 2000000 in
theorem joins_10 (hvl : View W (fun _ => True) A (2 * l.length) (fcells l)) (hvm : View W (fun _ => True) B (2 * m.length) (fcells m)) (hT : Tab W) (q1 : fieldsB l = true) (q2 : fieldsB m = false) :
    Calls Tryd.prog 8 #[.slice A l.length c, .slice B m.length d] W fun e w' => e = .returned (.bool true) ∧ Chg none_ W w' := by
  have HAL := Lib.hid (alive_any W hT)
  have HGL := Lib.hid (fun w' (hc : Chg none_ W w') => great_flds l A c w' _ (hvl.chg hc (fun _ _ h => h)))
  have HGM := Lib.hid (fun w' (hc : Chg none_ W w') => great_flds m B d w' _ (hvm.chg hc (fun _ _ h => h)))
  have HFL := Lib.hid (fun w' (hc : Chg none_ W w') => fields_any w' _ A c l (hvl.chg hc (fun _ _ h => h)))
  have HFM := Lib.hid (fun w' (hc : Chg none_ W w') => fields_any w' _ B d m (hvm.chg hc (fun _ _ h => h)))
  rw [q1] at HFL
  rw [q2] at HFM
  clear hvl hvm hT q1 q2
  go_enter Tryd.func8, Tryd.ntmps8
  go_wp2_with (go_at_call 10; refine HAL.out.mono ?_; rintro e w1 ⟨rfl, c1⟩)
  refine (HGL.out _ c1).mono ?_
  rintro e w2 ⟨⟨b, rfl, _⟩, k2, rfl⟩
  have c2 := c1.drewN k2
  generalize w1.drewN k2 = w2 at c2 ⊢
  clear HAL HGL c1
  cases b
  case true =>
    go_wp2
    go_ret
    exact ⟨rfl, c2⟩
  go_wp2_with fail
  refine (HGM.out _ c2).mono ?_
  rintro e w3 ⟨⟨b, rfl, _⟩, k3, rfl⟩
  have c3 := c2.drewN k3
  generalize w2.drewN k3 = w3 at c3 ⊢
  clear HGM c2
  cases b
  case true =>
    go_wp2
    go_ret
    exact ⟨rfl, c3⟩
  go_wp2_with fail
  refine (HFL.out _ c3).mono ?_
  rintro e w4 ⟨rfl, d4⟩
  have c4 := c3.trans d4
  clear HFL d4 c3
  go_wp2_with fail
  refine (HFM.out _ c4).mono ?_
  rintro e w5 ⟨rfl, d5⟩
  have c5 := c4.trans d5
  clear HFM d5 c4
  go_wp2
  go_ret
  exact ⟨rfl, c5⟩

set_option maxRecDepth 100000 in
set_option maxHeartbeats 4000000 in
theorem joins_11 (hvl : View W (fun _ => True) A (2 * l.length) (fcells l)) (hvm : View W (fun _ => True) B (2 * m.length) (fcells m)) (hT : Tab W) (q1 : fieldsB l = true) (q2 : fieldsB m = true) (qs : (l ++ m).length ≤ 32) :
    Calls Tryd.prog 8 #[.slice A l.length c, .slice B m.length d] W fun e w' => e = .returned (.bool true) ∧ Chg none_ W w' := by
  have HAL := Lib.hid (alive_any W hT)
  have HGL := Lib.hid (fun w' (hc : Chg none_ W w') => great_flds l A c w' _ (hvl.chg hc (fun _ _ h => h)))
  have HGM := Lib.hid (fun w' (hc : Chg none_ W w') => great_flds m B d w' _ (hvm.chg hc (fun _ _ h => h)))
  have HFL := Lib.hid (fun w' (hc : Chg none_ W w') => fields_any w' _ A c l (hvl.chg hc (fun _ _ h => h)))
  have HFM := Lib.hid (fun w' (hc : Chg none_ W w') => fields_any w' _ B d m (hvm.chg hc (fun _ _ h => h)))
  have hl32 := (fields_all q1).1
  have hm32 := (fields_all q2).1
  have HPL := Lib.hid (fun w' (hc : Chg none_ W w') => pack_any l w' _ A c (hvl.chg hc (fun _ _ h => h)) (hT.chg hc (fun h => h)))
  have HPM := Lib.hid (fun w' (hc : Chg none_ W w') => pack_any m w' _ B d (hvm.chg hc (fun _ _ h => h)) (hT.chg hc (fun h => h)))
  have HUP := Lib.hid (unpack_two (l := l) (m := m) q1 q2)
  have HVL : Hid (∀ w', Chg none_ W w' → View w' (fun _ => True) A (l.length * 2) (fcells l)) := fun w' hc => by rw [Nat.mul_comm]; exact hvl.chg hc (fun _ _ h => h)
  have HVM : Hid (∀ w', Chg none_ W w' → View w' (fun _ => True) B (m.length * 2) (fcells m)) := fun w' hc => by rw [Nat.mul_comm]; exact hvm.chg hc (fun _ _ h => h)
  have HTW := Lib.hid (fun w' (hc : Chg none_ W w') => hT.chg hc (fun h => h))
  have hpl : (packH l).length ≤ 9000 := by rw [pack_yes q1]; have := packE_len l (fields_all q1).2; omega
  have hpm : (packH m).length ≤ 9000 := by rw [pack_yes q2]; have := packE_len m (fields_all q2).2; omega

  have HPA : Hid (packH l ++ packH m = packH (l ++ m)) := by show _ = _; rw [pack_yes q1, pack_yes q2, pack_yes (fields_append q1 q2 qs), packE_append]
  rw [if_pos qs] at HUP
  rw [List.length_append] at qs
  have h32 : ¬ (32 : Int) < (l.length : Int) + (m.length : Int) := by omega
  rw [q1] at HFL
  rw [q2] at HFM
  obtain ⟨i0, hi, hz0, hz1, hz2⟩ := info_parts info5
  obtain ⟨iF, hF, hF0, hF1, hF2⟩ := info_parts infoF
  clear hvl hvm hT q1 q2 qs
  go_enter Tryd.func8, Tryd.ntmps8
  go_wp2_with (go_at_call 10; refine HAL.out.mono ?_; rintro e w1 ⟨rfl, c1⟩)
  refine (HGL.out _ c1).mono ?_
  rintro e w2 ⟨⟨b, rfl, _⟩, k2, rfl⟩
  have c2 := c1.drewN k2
  generalize w1.drewN k2 = w2 at c2 ⊢
  clear HAL HGL c1
  cases b
  case true =>
    go_wp2
    go_ret
    exact ⟨rfl, c2⟩
  go_wp2_with fail
  refine (HGM.out _ c2).mono ?_
  rintro e w3 ⟨⟨b, rfl, _⟩, k3, rfl⟩
  have c3 := c2.drewN k3
  generalize w2.drewN k3 = w3 at c3 ⊢
  clear HGM c2
  cases b
  case true =>
    go_wp2
    go_ret
    exact ⟨rfl, c3⟩
  go_wp2_with fail
  refine (HFL.out _ c3).mono ?_
  rintro e w4 ⟨rfl, d4⟩
  have c4 := c3.trans d4
  clear HFL d4 c3
  go_wp2_with fail
  refine (HFM.out _ c4).mono ?_
  rintro e w5 ⟨rfl, d5⟩
  have c5 := c4.trans d5
  clear HFM d5 c4
  have HO5 := Lib.hid (own_noneN w5 52 2)
  have e5 := (Chg.refl none_ w5).alloc (.cells #[] 52)
  go_wp2_with (first | (at_builtin; refine wpList_append_viewN rfl _ _ 38 rfl 52 iF _ 2 _ Tryd.underlying38 hF hF0 hF1 hF2 rfl (by decide) w5.heap.size (.slice (some ⟨w5.heap.size, 0, none⟩) 0 0) (0) ([]) rfl HO5.out _ A _ c (fcells l) rfl (HVL.out _ (c5.trans e5)) (fcells_one l) (by unfold maxLen; omega) (by omega) e5.size ?_; intro v6 w6 hown6 hgrow6; have e6 := e5.appendN (Nat.le_refl _) HO5.out hgrow6; have HO6 := Lib.hid hown6; clear hown6 hgrow6) | (at_builtin; refine wpList_append_viewN rfl _ _ 38 rfl 52 iF _ 2 _ Tryd.underlying38 hF hF0 hF1 hF2 rfl (by decide) w5.heap.size v6 (0 + l.length) ([] ++ fcells l) rfl HO6.out _ B _ d (fcells m) rfl (HVM.out _ (c5.trans e6)) (fcells_one m) (by unfold maxLen; omega) (by omega) e6.size ?_; intro v7 w7 hown7 hgrow7; have e7 := e6.appendN (Nat.le_refl _) HO6.out hgrow7; have HO7 := Lib.hid hown7; clear hown7 hgrow7))
  obtain ⟨A7, k7, rfl, _, _, hv7⟩ := view_ownN HO7.out
  have HV7 : Hid (∀ w', Chg none_ w7 w' → View w' (fun _ => True) A7 (2 * (l ++ m).length) (fcells (l ++ m))) := fun w' hc => by
    have h := hv7.mono (T' := fun _ => True) (fun _ _ _ => trivial)
    rw [List.nil_append, ← fcells_append, show (0 + l.length + m.length) * 2 = 2 * (l ++ m).length by rw [List.length_append]; omega] at h
    exact h.chg hc (fun _ _ h => h)
  have c7 := c5.trans e7
  clear hv7 e6 e5 HO5 HO6 HO7 e7
  refine (HPL.out _ c7).mono ?_
  rintro e w8 ⟨A8, k8, rfl, s8, d8⟩
  go_wp2_with fail
  refine (HPM.out _ (c7.trans d8)).mono ?_
  rintro e w9 ⟨A9, k9, rfl, s9, d9⟩
  have d89 := d8.trans d9
  clear HPL HPM
  go_wp2_with (first | (at_builtin; refine wpList_append_view rfl _ _ 24 rfl 5 i0 _ 1 Tryd.underlying24 hi hz0 hz1 hz2 rfl w7.heap.size (.slice A8 (packH l).length k8) ((packH l).length) (u8s (packH l)) rfl (own_chg s8.own d9 (fun _ _ h => h)) _ A9 _ k9 (u8s (packH m)) rfl s9.view (u8s_one _) (by unfold maxLen; omega) (by omega) d89.size ?_; intro v10 w10 hown10 hgrow10 _; have e10 := d89.append (Nat.le_refl _) (own_chg s8.own d9 (fun _ _ h => h)) hgrow10; rw [u8s_append] at hown10; have HO10 := Lib.hid hown10; clear hown10 hgrow10))
  have d10 := e10
  obtain ⟨A10, k10, rfl, _, _, hv10⟩ := View.own (T := fun _ => True) HO10.out (fun _ _ => trivial)
  refine (HUP.out w10 _ A10 k10 hv10).mono ?_
  rintro e w11 ⟨A11, k11, rfl, hv11, d11⟩
  have HC11 := Lib.hid (c7.trans (d10.trans d11))
  have HD11 := Lib.hid (d10.trans d11)
  have HE11 := Lib.hid d11
  have HV10 := Lib.hid hv10
  have HV11 := Lib.hid hv11
  clear HUP hv10 hv11 d11 d10 e10 s8 s9 d8 d9 d89 c7 c5 HO10
  simp only
  go_wp2_with fail
  have HLI := Lib.hid (List_any w11 _ _ A11 A7 k11 k7 (l ++ m) (l ++ m) HV11.out (HV7.out _ HD11.out) (by rw [List.length_append]; omega))
  rw [decide_eq_true rfl] at HLI
  have HPK := Lib.hid (fun w' (hc : Chg none_ w11 w') => pack_any (l ++ m) w' _ A7 k7 (HV7.out _ (HD11.out.trans hc)) (HTW.out _ (HC11.out.trans hc)))
  rw [← HPA.out] at HPK
  rw [List.length_append] at HLI HPK
  refine HLI.out.mono ?_
  rintro e w12 ⟨rfl, k12, rfl⟩
  have d12 := (Chg.refl none_ w11).drewN k12
  generalize w11.drewN k12 = w12 at d12 ⊢
  go_wp2_with fail
  refine (HPK.out _ d12).mono ?_
  rintro e w13 ⟨A13, k13, rfl, s13, d13⟩
  have HSM := Lib.hid (same_any w13 _ _ A10 A13 k10 k13 (packH l ++ packH m) (packH l ++ packH m) (by rw [List.length_append]; exact HV10.out.chg (HE11.out.trans (d12.trans d13)) (fun _ _ h => h)) s13.view (by rw [List.length_append]; omega))
  rw [decide_eq_true rfl] at HSM
  have HC13 := Lib.hid (HC11.out.trans (d12.trans d13))
  clear s13 d13 d12
  rw [List.length_append] at HSM ⊢
  go_wp2_with fail
  refine HSM.out.mono ?_
  rintro e w14 ⟨rfl, k14, rfl⟩
  go_wp2
  go_ret
  exact ⟨rfl, HC13.out.drewN k14⟩

set_option maxRecDepth 100000 in
set_option maxHeartbeats 4000000 in
theorem joins_12 (hvl : View W (fun _ => True) A (2 * l.length) (fcells l)) (hvm : View W (fun _ => True) B (2 * m.length) (fcells m)) (hT : Tab W) (q1 : fieldsB l = true) (q2 : fieldsB m = true) (qs : 32 < (l ++ m).length) :
    Calls Tryd.prog 8 #[.slice A l.length c, .slice B m.length d] W fun e w' => e = .returned (.bool true) ∧ Chg none_ W w' := by
  have HAL := Lib.hid (alive_any W hT)
  have HGL := Lib.hid (fun w' (hc : Chg none_ W w') => great_flds l A c w' _ (hvl.chg hc (fun _ _ h => h)))
  have HGM := Lib.hid (fun w' (hc : Chg none_ W w') => great_flds m B d w' _ (hvm.chg hc (fun _ _ h => h)))
  have HFL := Lib.hid (fun w' (hc : Chg none_ W w') => fields_any w' _ A c l (hvl.chg hc (fun _ _ h => h)))
  have HFM := Lib.hid (fun w' (hc : Chg none_ W w') => fields_any w' _ B d m (hvm.chg hc (fun _ _ h => h)))
  have hl32 := (fields_all q1).1
  have hm32 := (fields_all q2).1
  have HPL := Lib.hid (fun w' (hc : Chg none_ W w') => pack_any l w' _ A c (hvl.chg hc (fun _ _ h => h)) (hT.chg hc (fun h => h)))
  have HPM := Lib.hid (fun w' (hc : Chg none_ W w') => pack_any m w' _ B d (hvm.chg hc (fun _ _ h => h)) (hT.chg hc (fun h => h)))
  have HUP := Lib.hid (unpack_two (l := l) (m := m) q1 q2)
  have HVL : Hid (∀ w', Chg none_ W w' → View w' (fun _ => True) A (l.length * 2) (fcells l)) := fun w' hc => by rw [Nat.mul_comm]; exact hvl.chg hc (fun _ _ h => h)
  have HVM : Hid (∀ w', Chg none_ W w' → View w' (fun _ => True) B (m.length * 2) (fcells m)) := fun w' hc => by rw [Nat.mul_comm]; exact hvm.chg hc (fun _ _ h => h)
  have HTW := Lib.hid (fun w' (hc : Chg none_ W w') => hT.chg hc (fun h => h))
  have hpl : (packH l).length ≤ 9000 := by rw [pack_yes q1]; have := packE_len l (fields_all q1).2; omega
  have hpm : (packH m).length ≤ 9000 := by rw [pack_yes q2]; have := packE_len m (fields_all q2).2; omega

  rw [if_neg (by omega)] at HUP
  rw [List.length_append] at qs
  have h32 : (32 : Int) < (l.length : Int) + (m.length : Int) := by omega
  rw [q1] at HFL
  rw [q2] at HFM
  obtain ⟨i0, hi, hz0, hz1, hz2⟩ := info_parts info5
  obtain ⟨iF, hF, hF0, hF1, hF2⟩ := info_parts infoF
  clear hvl hvm hT q1 q2 qs
  go_enter Tryd.func8, Tryd.ntmps8
  go_wp2_with (go_at_call 10; refine HAL.out.mono ?_; rintro e w1 ⟨rfl, c1⟩)
  refine (HGL.out _ c1).mono ?_
  rintro e w2 ⟨⟨b, rfl, _⟩, k2, rfl⟩
  have c2 := c1.drewN k2
  generalize w1.drewN k2 = w2 at c2 ⊢
  clear HAL HGL c1
  cases b
  case true =>
    go_wp2
    go_ret
    exact ⟨rfl, c2⟩
  go_wp2_with fail
  refine (HGM.out _ c2).mono ?_
  rintro e w3 ⟨⟨b, rfl, _⟩, k3, rfl⟩
  have c3 := c2.drewN k3
  generalize w2.drewN k3 = w3 at c3 ⊢
  clear HGM c2
  cases b
  case true =>
    go_wp2
    go_ret
    exact ⟨rfl, c3⟩
  go_wp2_with fail
  refine (HFL.out _ c3).mono ?_
  rintro e w4 ⟨rfl, d4⟩
  have c4 := c3.trans d4
  clear HFL d4 c3
  go_wp2_with fail
  refine (HFM.out _ c4).mono ?_
  rintro e w5 ⟨rfl, d5⟩
  have c5 := c4.trans d5
  clear HFM d5 c4
  have HO5 := Lib.hid (own_noneN w5 52 2)
  have e5 := (Chg.refl none_ w5).alloc (.cells #[] 52)
  go_wp2_with (first | (at_builtin; refine wpList_append_viewN rfl _ _ 38 rfl 52 iF _ 2 _ Tryd.underlying38 hF hF0 hF1 hF2 rfl (by decide) w5.heap.size (.slice (some ⟨w5.heap.size, 0, none⟩) 0 0) (0) ([]) rfl HO5.out _ A _ c (fcells l) rfl (HVL.out _ (c5.trans e5)) (fcells_one l) (by unfold maxLen; omega) (by omega) e5.size ?_; intro v6 w6 hown6 hgrow6; have e6 := e5.appendN (Nat.le_refl _) HO5.out hgrow6; have HO6 := Lib.hid hown6; clear hown6 hgrow6) | (at_builtin; refine wpList_append_viewN rfl _ _ 38 rfl 52 iF _ 2 _ Tryd.underlying38 hF hF0 hF1 hF2 rfl (by decide) w5.heap.size v6 (0 + l.length) ([] ++ fcells l) rfl HO6.out _ B _ d (fcells m) rfl (HVM.out _ (c5.trans e6)) (fcells_one m) (by unfold maxLen; omega) (by omega) e6.size ?_; intro v7 w7 hown7 hgrow7; have e7 := e6.appendN (Nat.le_refl _) HO6.out hgrow7; have HO7 := Lib.hid hown7; clear hown7 hgrow7))
  obtain ⟨A7, k7, rfl, _, _, hv7⟩ := view_ownN HO7.out
  have HV7 : Hid (∀ w', Chg none_ w7 w' → View w' (fun _ => True) A7 (2 * (l ++ m).length) (fcells (l ++ m))) := fun w' hc => by
    have h := hv7.mono (T' := fun _ => True) (fun _ _ _ => trivial)
    rw [List.nil_append, ← fcells_append, show (0 + l.length + m.length) * 2 = 2 * (l ++ m).length by rw [List.length_append]; omega] at h
    exact h.chg hc (fun _ _ h => h)
  have c7 := c5.trans e7
  clear hv7 e6 e5 HO5 HO6 HO7 e7
  refine (HPL.out _ c7).mono ?_
  rintro e w8 ⟨A8, k8, rfl, s8, d8⟩
  go_wp2_with fail
  refine (HPM.out _ (c7.trans d8)).mono ?_
  rintro e w9 ⟨A9, k9, rfl, s9, d9⟩
  have d89 := d8.trans d9
  clear HPL HPM
  go_wp2_with (first | (at_builtin; refine wpList_append_view rfl _ _ 24 rfl 5 i0 _ 1 Tryd.underlying24 hi hz0 hz1 hz2 rfl w7.heap.size (.slice A8 (packH l).length k8) ((packH l).length) (u8s (packH l)) rfl (own_chg s8.own d9 (fun _ _ h => h)) _ A9 _ k9 (u8s (packH m)) rfl s9.view (u8s_one _) (by unfold maxLen; omega) (by omega) d89.size ?_; intro v10 w10 hown10 hgrow10 _; have e10 := d89.append (Nat.le_refl _) (own_chg s8.own d9 (fun _ _ h => h)) hgrow10; rw [u8s_append] at hown10; have HO10 := Lib.hid hown10; clear hown10 hgrow10))
  have d10 := e10
  obtain ⟨A10, k10, rfl, _, _, hv10⟩ := View.own (T := fun _ => True) HO10.out (fun _ _ => trivial)
  refine (HUP.out w10 _ A10 k10 hv10).mono ?_
  rintro e w11 ⟨A11, k11, rfl, hv11, d11⟩
  have HC11 := Lib.hid (c7.trans (d10.trans d11))
  have HD11 := Lib.hid (d10.trans d11)
  have HE11 := Lib.hid d11
  have HV10 := Lib.hid hv10
  have HV11 := Lib.hid hv11
  clear HUP hv10 hv11 d11 d10 e10 s8 s9 d8 d9 d89 c7 c5 HO10
  simp only
  go_wp2_with fail
  go_ret
  exact ⟨rfl, HC11.out⟩

end

theorem walk_HframeJoins (l : List Fld) (A : Option Addr) (c : Nat) (m : List Fld) (B : Option Addr) (d : Nat) (W : World) (_ : l.length ≤ c ∧ c ≤ maxLen) (hvl : View W (fun _ => True) A (2 * l.length) (fcells l)) (_ : m.length ≤ d ∧ d ≤ maxLen) (hvm : View W (fun _ => True) B (2 * m.length) (fcells m)) (hT : Tab W) :
    Calls Tryd.prog 8 #[.slice A l.length c, .slice B m.length d] W fun e w' => e = .returned (.bool true) ∧ Chg none_ W w' := by
  cases q1 : fieldsB l with
  | false => exact joins_0 l m A B c d W hvl hvm hT q1
  | true =>
    cases q2 : fieldsB m with
    | false => exact joins_10 l m A B c d W hvl hvm hT q1 q2
    | true =>
      by_cases qs : (l ++ m).length ≤ 32
      · exact joins_11 l m A B c d W hvl hvm hT q1 q2 qs
      · exact joins_12 l m A B c d W hvl hvm hT q1 q2 (by omega)
end Go.Proofs.YtcdnjeojgjakdaaDoor
