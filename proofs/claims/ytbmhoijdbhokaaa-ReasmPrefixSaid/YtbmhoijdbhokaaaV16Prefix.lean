/- Layer 16 (reasm): the law ReasmPrefix. -/
import Derived.Test.YtbmhoijdbhokaaaV16PrefM
import Derived.Test.YtbmhoijdbhokaaaV16OpenP
namespace Go.Proofs.Ytbmhoijdbhokaaa
open Go.RowKit

theorem getD_memP {α : Type} (d : α) {l : List α} {k : Nat} (h : k < l.length) : l.getD k d ∈ l := by
  rw [List.getD_eq_getElem?_getD, List.getElem?_eq_getElem h]
  exact List.getElem_mem h

theorem wpList_slice_bothP {P : Program} {ops : Array Oper} {rest : List Oper} {o : Oper} {a : Act} {w : World} {Q : Exit → Act → World → Prop} (hw : Region.wanted o (yielded ops a.tmps) = true) (t e : TypeId) (x y z : Operand) (ho : o.op = .slice t x (some y) (some z) none) (A : Option Addr) (n cap i j : Nat) (hx : a.eval x = .slice A n cap) (hy : a.eval y = .int .i64 (i : Int)) (hz : a.eval z = .int .i64 (j : Int))
    (hu : P.underlying t = some (.slice e)) (hs : (P.info? e).map (·.size) = some 1) (hi : i ≤ j) (hj : j ≤ cap) (h : wpList P ops Q rest (a.put o.dst (.slice (dropA A cap i) (j - i) (cap - i))) w) : wpList P ops Q (o :: rest) a w :=
  BigFrame.wpList_want hw fun _ hK => by
    have := run_slice_both (P := P) w t e A n cap i j hu hs hi hj
    have k' := hK _ _ h
    unfold Oper.wp execOp
    simp [ho, hx, hy, hz, Instr.sliceAt, run_underlying hu, this]
    exact k'
theorem wpList_slice_highP {P : Program} {ops : Array Oper} {rest : List Oper} {o : Oper} {a : Act} {w : World} {Q : Exit → Act → World → Prop} (hw : Region.wanted o (yielded ops a.tmps) = true) (t e : TypeId) (x z : Operand) (ho : o.op = .slice t x none (some z) none) (A : Option Addr) (n cap j : Nat) (hx : a.eval x = .slice A n cap) (hz : a.eval z = .int .i64 (j : Int))
    (hu : P.underlying t = some (.slice e)) (hs : (P.info? e).map (·.size) = some 1) (hj : j ≤ cap) (h : wpList P ops Q rest (a.put o.dst (.slice (highA A cap) j cap)) w) : wpList P ops Q (o :: rest) a w :=
  BigFrame.wpList_want hw fun _ hK => by
    have := run_slice_high (P := P) w t e A n cap j hu hs hj
    have k' := hK _ _ h
    unfold Oper.wp execOp
    simp [ho, hx, hz, Instr.sliceAt, run_underlying hu, this]
    exact k'
theorem wown {w : World} {base n : Nat} {A : Option Addr} {c : Nat} {xs : List Nat} (h : Owned w base (.slice A n c) (xs.take n)) (hn : n ≤ xs.length) : View w (fun b => base ≤ b) A n (u8s (xs.take n)) := by
  have h2 := h.slice.2.2
  rwa [show (xs.take n).length = n by rw [List.length_take]; omega] at h2
theorem take_two (xs : List Nat) (a k : Nat) : xs.take a ++ (xs.drop a).take k = xs.take (a + k) := (List.take_add).symm

set_option maxRecDepth 100000 in
set_option maxHeartbeats 16000000 in
theorem walk_ReasmPrefix (A : Option Addr) (len cap : Nat) (zs : List Int) (l : List (Nat × Nat)) (B : Option Addr) (capB : Nat) (C : Option Addr) (lenC capC : Nat) (zc : List Int) (W : World) (hz : IsRow .u8 W A len cap zs) (_hcB : l.length ≤ capB ∧ capB ≤ maxLen) (hv2 : View W (fun _ => True) B (l.length * 2) (l.flatMap prc)) (hi : ∀ x ∈ l, x.1 < 256 ∧ x.2 < 256) (hzc : IsRow .u8 W C lenC capC zc) :
    Calls Try.prog 3 #[.slice A len cap, .slice B l.length capB, .slice C lenC capC] W fun e w' => e = .returned (.bool true) ∧ Chg none_ W w' := by
  obtain ⟨xs, rfl, hcap, hmx, hb, hv⟩ := hz.u8
  obtain ⟨rs, rfl, hcapC, hmxC, hbC, hvC⟩ := hzc.u8
  have HAL := Lib.hid (fun w => alive_any w)
  have HV : Hid (∀ w', Chg none_ W w' → View w' (fun b => b < W.heap.size) A xs.length (u8s xs)) := Lib.hid (fun w' h => (row_ahead hv).chg h (fun _ _ h => h))
  have HVC : Hid (∀ w', Chg none_ W w' → View w' (fun _ => True) C rs.length (u8s rs)) := Lib.hid (fun w' h => hvC.chg h (fun _ _ h => h))
  have HVL := Lib.hid hv2
  have HI := Lib.hid hi
  have HB := Lib.hid hb
  have HBC := Lib.hid hbC
  clear hz hzc hv hvC hv2 hi hb hbC hmx hmxC hcapC _hcB
  by_cases hl : xs.length ≤ 200
  · have l1 : (xs.length : Int) ≤ 200 := by omega
    have l0 : (0 : Int) ≤ (xs.length : Int) := by omega
    by_cases hl2 : l.length ≤ 60
    · have l2 : (l.length : Int) ≤ 60 := by omega
      have rc0 : (0 : Int) ≤ (rs.length : Int) := by omega
      have HL := Lib.hid (And.intro hl (And.intro hl2 hcap))
      have HNW : Hid (∀ w, Chg none_ W w → Calls Try.prog 9 #[.int .i64 200] w fun e w' => ∃ g m, e = .returned (.pointer (some ⟨g, 0, none⟩)) ∧ W.heap.size ≤ g ∧ W.heap.size ≤ m ∧ BA w' g m (newB 200) ∧ Chg none_ W w') := Lib.hid (fun w hw => qNew hw)
      clear hl hl2 hcap
      go_enter Try.func3, Try.ntmps3
      go_wp2_with (first | (go_at_call 8; refine (HAL.out _).mono ?_; rintro e w0 ⟨rfl, hc⟩; have HC := Lib.hid hc; clear hc) | (go_at_call 9; refine (HNW.out _ HC.out).mono ?_; rintro e w1 ⟨g, m, rfl, hg, hm, hb, hc⟩; have HG := Lib.hid (And.intro hg hm); have HBB := Lib.hid hb; have HC := Lib.hid hc; clear hg hm hb hc) | ((with_reducible show wpList _ _ _ (⟨some 9, .alloc _, _, _, _, _⟩ :: _) _ _); refine wpList_alloc_Row rfl rfl (List.replicate 200 (.bool false)) zeroHad ?_; intro w2 hr hx hs; rw [hC_zero] at hr; have HF := Lib.hid (And.intro HBB.out.at_.row.lt HBB.out.at_.map.lt); have HPI := Lib.hid (show PI W w2 g m w1.heap.size xs (fun _ => false) (fun _ => false) (newB 200) (.slice none 0 0) [] from ⟨HBB.out.chg hx (fun h => h) (fun h => h), hr, Owned.nil _ _, HC.out.trans hx, HG.out.1, HG.out.2, HC.out.size, fun e => absurd HF.out.1 (by omega), fun e => absurd HF.out.2 (by omega), PS.new xs⟩); clear hr hx hs))
      clear HBB HF HNW
      go_loopw [8, 10, 11, 12, 13] (fun vv iv _ _ _ wr => ∃ (j n0 c5 : Nat) (A5 : Option Addr) (s : Rb) (H : Nat → Bool), iv = .int .i64 (j : Int) ∧ vv = .slice A5 n0 c5 ∧ j ≤ l.length ∧ Hid (PI W wr g m w1.heap.size xs H H s (.slice A5 n0 c5) (xs.take n0) ∧ s.rd = n0 ∧ n0 ≤ xs.length)) (fun _ iv _ _ _ _ => l.length - (intOf iv).toNat)
      case atStart => exact ⟨0, 0, 0, none, newB 200, fun _ => false, rfl, rfl, Nat.zero_le _, Lib.hid ⟨HPI.out, rfl, Nat.zero_le _⟩⟩
      case round =>
        clear HPI
        obtain ⟨j, n0, c5, A5, s, H, rfl, rfl, hj, HPI⟩ := hrel
        have j0 : (0 : Int) ≤ (j : Int) := by omega
        have nn0 : (0 : Int) ≤ (n0 : Int) := by omega
        have nn1 : (n0 : Int) ≤ 200 := by have := HPI.out.2.2; have := HL.out.1; omega
        by_cases hlt : j < l.length
        · have k1 : (j : Int) < (l.length : Int) := by omega
          obtain ⟨b, o, hA, hb, _, hra⟩ := HVL.out.elemAt prc_len (by decide) (0, 0) hlt
          have hr := hra j hlt
          have hmx := HI.out _ (getD_memP (0, 0) hlt)
          obtain ⟨x, hx⟩ : ∃ x, l.getD j (0, 0) = x := ⟨_, rfl⟩
          rw [hx] at hr hmx
          obtain ⟨pa, pn⟩ := x
          have e0 : wr.cell? ⟨b, o + j * 2, none⟩ = some (.int .u8 (pa : Int)) := (HPI.out.1.chg.cell _ hb (fun h => h)).trans (hr 0 _ rfl)
          have e1 : wr.cell? ⟨b, o + j * 2 + 1, none⟩ = some (.int .u8 (pn : Int)) := (HPI.out.1.chg.cell _ hb (fun h => h)).trans (hr 1 _ rfl)
          have p1 : (pa : Int) ≤ 255 := by have := hmx.1; simp only at this; omega
          have p2 : (pn : Int) ≤ 255 := by have := hmx.2; simp only at this; omega
          have p3 : (0 : Int) ≤ (pa : Int) := by omega
          have p4 : (0 : Int) ≤ (pn : Int) := by omega
          clear hra hr hmx hx hb
          subst hA
          obtain ⟨a, ha⟩ : ∃ a, a = pa % (xs.length + 1) := ⟨_, rfl⟩
          have hax : a ≤ xs.length := by have := Nat.mod_lt pa (show 0 < xs.length + 1 by omega); omega
          have r1 : Int.tmod (pa : Int) ((xs.length : Int) + 1) = (a : Int) := by rw [ha, Int.tmod_eq_emod_of_nonneg (by omega)]; push_cast; rfl
          have r2 : ((xs.length : Int) + 1 == 0) = false := by rw [beq_eq_false_iff_ne]; omega
          have a0 : (0 : Int) ≤ (a : Int) := by omega
          have a1 : (a : Int) ≤ (xs.length : Int) := by omega
          clear ha
          by_cases hgt : xs.length < a + pn
          · have q1 : (xs.length : Int) < (a : Int) + (pn : Int) := by omega
            have HAE : Hid (a ≤ xs.length ∧ xs.length ≤ xs.length) := Lib.hid (by omega)
            have HLT : Hid (true = decide (xs.length = xs.length)) := Lib.hid (by first | exact (decide_eq_true rfl).symm | exact (decide_eq_false (by omega)).symm)
            have HSV : Hid (∀ w', Chg none_ W w' → View w' (fun b => b < W.heap.size) (dropA A cap a) (xs.length - a) (u8s ((xs.drop a).take (xs.length - a)))) := Lib.hid (fun w' h => by have h1 := ((HV.out w' h).dropA (k := a) (cap := cap) HL.out.2.2).take (k := xs.length - a) (by have := HAE.out; omega); rwa [show ((u8s xs).drop a).take (xs.length - a) = u8s ((xs.drop a).take (xs.length - a)) by simp [u8s, List.map_drop, List.map_take]] at h1)
            have b1 : (a : Int) ≤ (xs.length : Nat) := by omega
            have b2 : ((xs.length : Nat) : Int) ≤ (xs.length : Int) := by omega
            clear hax
            go_wp2_with (first | ((with_reducible show wpList _ _ _ (⟨some 62, _, _, _, _, _⟩ :: _) _ _); refine wpList_slice_bothP rfl 22 5 _ _ _ rfl A xs.length cap a xs.length rfl rfl rfl Try.underlying22 size5 HAE.out.1 (Nat.le_trans HAE.out.2 HL.out.2.2) ?_) | (go_at_call 10; refine (qPut HPI.out.1 HL.out.1 HB.out (HSV.out _ HPI.out.1.chg) HAE.out.1 HAE.out.2 (HLT.out)).mono ?_; rintro e w5 ⟨rfl, s1, hrd, hp⟩; have HR1 := Lib.hid (hrd.trans HPI.out.2.1); have HP := Lib.hid hp; clear hrd hp))
            go_loopw [13] (fun kv wk => ∃ k : Nat, kv = .int .i64 (k : Int) ∧ a ≤ k ∧ k ≤ xs.length ∧ Hid (PI W wk g m w1.heap.size xs (onH H a k) (onH H a xs.length) s1 (.slice A5 n0 c5) (xs.take n0))) (fun kv _ => xs.length - (intOf kv).toNat)
            case atStart => exact ⟨a, rfl, Nat.le_refl _, HAE.out.1, by rw [onH_none]; exact HP⟩
            case round =>
              clear HP
              obtain ⟨k, rfl, hk1, hk2, HP⟩ := hrel
              have kk0 : (0 : Int) ≤ (k : Int) := by omega
              rcases Nat.lt_or_ge k (xs.length) with hke | hke
              · have kk1 : (k : Int) < ((xs.length : Nat) : Int) := by omega
                have kk2 : (k : Int) < 200 := by omega
                have zc := HP.out.row.cell k
                rw [hC_get _ k (by have := HL.out.1; have := HAE.out; omega)] at zc
                have zf := HP.out.row.frozen k
                go_wp2
                go_roundw
                case rel => exact ⟨k + 1, by push_cast; rfl, by omega, hke, Lib.hid (by rw [← onH_step H a k hk1]; exact HP.out.had)⟩
                case measure => simp [intOf]; omega
              · have hke2 : xs.length = k := by omega
                subst hke2
                clear hk1 hk2 hke
                by_cases hjr : j < rs.length
                · have j1 : (j : Int) < (rs.length : Int) := by omega
                  obtain ⟨b2, o2, rfl, _, _, hcr⟩ := (HVC.out _ HP.out.chg).at_ hjr
                  obtain ⟨r, hr⟩ : ∃ r, r = rs.getD j 0 := ⟨_, rfl⟩
                  rw [← hr] at hcr
                  have hr256 : r < 256 := by rw [hr, List.getD_eq_getElem?_getD, List.getElem?_eq_getElem hjr]; exact HBC.out _ (List.getElem_mem hjr)
                  have r1_ : (r : Int) ≤ 255 := by omega
                  have r0_ : (0 : Int) ≤ (r : Int) := by omega
                  clear hr
                  go_wp2_with (first | ((with_reducible show Calls _ 11 #[_, _] _ _); refine (qRead HP.out HL.out.1 _).mono ?_; rintro e w6 ⟨A7, k2, c7, s2, rfl, hv, h1, h2, h3, h4, hp⟩; have HVR := Lib.hid hv; rw [HR1.out] at HVR h1 h3; have HRD := Lib.hid (And.intro h1 h3); have HK2 := Lib.hid h2; have HALL := Lib.hid h4; have HP := Lib.hid hp; have n2 : (n0 : Int) + (k2 : Int) ≤ 200 := (by have := HL.out.1; omega); clear hv h1 h2 h3 h4 hp) | ((with_reducible show wpList _ _ _ (⟨some 89, _, _, _, _, _⟩ :: _) _ _); refine wpList_append_own2 rfl _ _ 22 rfl Try.underlying22 (base := W.heap.size) (v := .slice A5 n0 c5) (L := xs.take n0) (M := (xs.drop n0).take k2) (A := A7) (m := k2) (c := c7) ?u2_1 ?u2_2 ?u2_3 HVR.out ?u2_5 ?u2_6 ?u2_7; (case u2_1 => exact rfl); (case u2_2 => exact HP.out.own); (case u2_3 => exact rfl); (case u2_5 => rw [List.length_take]; have := HL.out.1; have := HK2.out; omega); (case u2_6 => exact HP.out.chg.size); intro v_ w7 ho hc _; rw [take_two] at ho; obtain ⟨A6, c6, hv6, _, _, _⟩ := ho.view; rw [show (xs.take (n0 + k2)).length = n0 + k2 by rw [List.length_take]; have := HRD.out.2; omega] at hv6; subst hv6; have HP := Lib.hid (HP.out.app hc ho); clear ho hc) | (go_at_call 12; refine (qHeld HP.out).mono ?_; rintro e w_ ⟨nh, rfl, hnh, hw_⟩; have hw_ := hw_.symm; subst hw_))
                  go_roundw
                  case rel => exact ⟨j + 1, n0 + k2, c6, A6, s2, onH H a xs.length, by push_cast; rfl, rfl, hlt, Lib.hid ⟨HP.out, HRD.out.1, HRD.out.2⟩⟩
                  case measure => simp [intOf]; omega
                · have j1 : (rs.length : Int) ≤ (j : Int) := by omega
                  go_wp2_with (first | (go_at_call 12; refine (qHeld HP.out).mono ?_; rintro e w_ ⟨nh, rfl, hnh, hw_⟩; have hw_ := hw_.symm; subst hw_))
                  go_roundw
                  case rel => exact ⟨j + 1, n0, c5, A5, s1, onH H a xs.length, by push_cast; rfl, rfl, hlt, Lib.hid ⟨HP.out, HR1.out, HPI.out.2.2⟩⟩
                  case measure => simp [intOf]; omega
      
          · by_cases heq : a + pn = xs.length
            · have q1 : (a : Int) + (pn : Int) = (xs.length : Int) := by omega
              have HAE : Hid (a ≤ xs.length ∧ xs.length ≤ xs.length) := Lib.hid (by omega)
              have HLT : Hid (true = decide (xs.length = xs.length)) := Lib.hid (by first | exact (decide_eq_true rfl).symm | exact (decide_eq_false (by omega)).symm)
              have HSV : Hid (∀ w', Chg none_ W w' → View w' (fun b => b < W.heap.size) (dropA A cap a) (xs.length - a) (u8s ((xs.drop a).take (xs.length - a)))) := Lib.hid (fun w' h => by have h1 := ((HV.out w' h).dropA (k := a) (cap := cap) HL.out.2.2).take (k := xs.length - a) (by have := HAE.out; omega); rwa [show ((u8s xs).drop a).take (xs.length - a) = u8s ((xs.drop a).take (xs.length - a)) by simp [u8s, List.map_drop, List.map_take]] at h1)
              have b1 : (a : Int) ≤ (xs.length : Nat) := by omega
              have b2 : ((xs.length : Nat) : Int) ≤ (xs.length : Int) := by omega
              clear hax
              go_wp2_with (first | ((with_reducible show wpList _ _ _ (⟨some 62, _, _, _, _, _⟩ :: _) _ _); refine wpList_slice_bothP rfl 22 5 _ _ _ rfl A xs.length cap a xs.length rfl rfl rfl Try.underlying22 size5 HAE.out.1 (Nat.le_trans HAE.out.2 HL.out.2.2) ?_) | (go_at_call 10; refine (qPut HPI.out.1 HL.out.1 HB.out (HSV.out _ HPI.out.1.chg) HAE.out.1 HAE.out.2 (HLT.out)).mono ?_; rintro e w5 ⟨rfl, s1, hrd, hp⟩; have HR1 := Lib.hid (hrd.trans HPI.out.2.1); have HP := Lib.hid hp; clear hrd hp))
              go_loopw [13] (fun kv wk => ∃ k : Nat, kv = .int .i64 (k : Int) ∧ a ≤ k ∧ k ≤ xs.length ∧ Hid (PI W wk g m w1.heap.size xs (onH H a k) (onH H a xs.length) s1 (.slice A5 n0 c5) (xs.take n0))) (fun kv _ => xs.length - (intOf kv).toNat)
              case atStart => exact ⟨a, rfl, Nat.le_refl _, HAE.out.1, by rw [onH_none]; exact HP⟩
              case round =>
                clear HP
                obtain ⟨k, rfl, hk1, hk2, HP⟩ := hrel
                have kk0 : (0 : Int) ≤ (k : Int) := by omega
                rcases Nat.lt_or_ge k (xs.length) with hke | hke
                · have kk1 : (k : Int) < ((xs.length : Nat) : Int) := by omega
                  have kk2 : (k : Int) < 200 := by omega
                  have zc := HP.out.row.cell k
                  rw [hC_get _ k (by have := HL.out.1; have := HAE.out; omega)] at zc
                  have zf := HP.out.row.frozen k
                  go_wp2
                  go_roundw
                  case rel => exact ⟨k + 1, by push_cast; rfl, by omega, hke, Lib.hid (by rw [← onH_step H a k hk1]; exact HP.out.had)⟩
                  case measure => simp [intOf]; omega
                · have hke2 : xs.length = k := by omega
                  subst hke2
                  clear hk1 hk2 hke
                  by_cases hjr : j < rs.length
                  · have j1 : (j : Int) < (rs.length : Int) := by omega
                    obtain ⟨b2, o2, rfl, _, _, hcr⟩ := (HVC.out _ HP.out.chg).at_ hjr
                    obtain ⟨r, hr⟩ : ∃ r, r = rs.getD j 0 := ⟨_, rfl⟩
                    rw [← hr] at hcr
                    have hr256 : r < 256 := by rw [hr, List.getD_eq_getElem?_getD, List.getElem?_eq_getElem hjr]; exact HBC.out _ (List.getElem_mem hjr)
                    have r1_ : (r : Int) ≤ 255 := by omega
                    have r0_ : (0 : Int) ≤ (r : Int) := by omega
                    clear hr
                    go_wp2_with (first | ((with_reducible show Calls _ 11 #[_, _] _ _); refine (qRead HP.out HL.out.1 _).mono ?_; rintro e w6 ⟨A7, k2, c7, s2, rfl, hv, h1, h2, h3, h4, hp⟩; have HVR := Lib.hid hv; rw [HR1.out] at HVR h1 h3; have HRD := Lib.hid (And.intro h1 h3); have HK2 := Lib.hid h2; have HALL := Lib.hid h4; have HP := Lib.hid hp; have n2 : (n0 : Int) + (k2 : Int) ≤ 200 := (by have := HL.out.1; omega); clear hv h1 h2 h3 h4 hp) | ((with_reducible show wpList _ _ _ (⟨some 89, _, _, _, _, _⟩ :: _) _ _); refine wpList_append_own2 rfl _ _ 22 rfl Try.underlying22 (base := W.heap.size) (v := .slice A5 n0 c5) (L := xs.take n0) (M := (xs.drop n0).take k2) (A := A7) (m := k2) (c := c7) ?u3_1 ?u3_2 ?u3_3 HVR.out ?u3_5 ?u3_6 ?u3_7; (case u3_1 => exact rfl); (case u3_2 => exact HP.out.own); (case u3_3 => exact rfl); (case u3_5 => rw [List.length_take]; have := HL.out.1; have := HK2.out; omega); (case u3_6 => exact HP.out.chg.size); intro v_ w7 ho hc _; rw [take_two] at ho; obtain ⟨A6, c6, hv6, _, _, _⟩ := ho.view; rw [show (xs.take (n0 + k2)).length = n0 + k2 by rw [List.length_take]; have := HRD.out.2; omega] at hv6; subst hv6; have HP := Lib.hid (HP.out.app hc ho); clear ho hc) | (go_at_call 12; refine (qHeld HP.out).mono ?_; rintro e w_ ⟨nh, rfl, hnh, hw_⟩; have hw_ := hw_.symm; subst hw_))
                    go_roundw
                    case rel => exact ⟨j + 1, n0 + k2, c6, A6, s2, onH H a xs.length, by push_cast; rfl, rfl, hlt, Lib.hid ⟨HP.out, HRD.out.1, HRD.out.2⟩⟩
                    case measure => simp [intOf]; omega
                  · have j1 : (rs.length : Int) ≤ (j : Int) := by omega
                    go_wp2_with (first | (go_at_call 12; refine (qHeld HP.out).mono ?_; rintro e w_ ⟨nh, rfl, hnh, hw_⟩; have hw_ := hw_.symm; subst hw_))
                    go_roundw
                    case rel => exact ⟨j + 1, n0, c5, A5, s1, onH H a xs.length, by push_cast; rfl, rfl, hlt, Lib.hid ⟨HP.out, HR1.out, HPI.out.2.2⟩⟩
                    case measure => simp [intOf]; omega
      
            · obtain ⟨en, hen⟩ : ∃ en, en = a + pn := ⟨_, rfl⟩
              have q1 : (a : Int) + (pn : Int) = (en : Int) := by omega
              have q2 : (en : Int) < (xs.length : Int) := by omega
              have q3 : ((en : Int) == (xs.length : Int)) = false := by rw [beq_eq_false_iff_ne]; omega
              have hen2 : a ≤ en ∧ en < xs.length := by omega
              clear hen heq hgt
              have HAE : Hid (a ≤ en ∧ en ≤ xs.length) := Lib.hid (by omega)
              have HLT : Hid (false = decide (en = xs.length)) := Lib.hid (by first | exact (decide_eq_true rfl).symm | exact (decide_eq_false (by omega)).symm)
              have HSV : Hid (∀ w', Chg none_ W w' → View w' (fun b => b < W.heap.size) (dropA A cap a) (en - a) (u8s ((xs.drop a).take (en - a)))) := Lib.hid (fun w' h => by have h1 := ((HV.out w' h).dropA (k := a) (cap := cap) HL.out.2.2).take (k := en - a) (by have := HAE.out; omega); rwa [show ((u8s xs).drop a).take (en - a) = u8s ((xs.drop a).take (en - a)) by simp [u8s, List.map_drop, List.map_take]] at h1)
              have b1 : (a : Int) ≤ (en : Nat) := by omega
              have b2 : ((en : Nat) : Int) ≤ (xs.length : Int) := by omega
              clear hax
              go_wp2_with (first | ((with_reducible show wpList _ _ _ (⟨some 62, _, _, _, _, _⟩ :: _) _ _); refine wpList_slice_bothP rfl 22 5 _ _ _ rfl A xs.length cap a en rfl rfl rfl Try.underlying22 size5 HAE.out.1 (Nat.le_trans HAE.out.2 HL.out.2.2) ?_) | (go_at_call 10; refine (qPut HPI.out.1 HL.out.1 HB.out (HSV.out _ HPI.out.1.chg) HAE.out.1 HAE.out.2 (HLT.out)).mono ?_; rintro e w5 ⟨rfl, s1, hrd, hp⟩; have HR1 := Lib.hid (hrd.trans HPI.out.2.1); have HP := Lib.hid hp; clear hrd hp))
              go_loopw [13] (fun kv wk => ∃ k : Nat, kv = .int .i64 (k : Int) ∧ a ≤ k ∧ k ≤ en ∧ Hid (PI W wk g m w1.heap.size xs (onH H a k) (onH H a en) s1 (.slice A5 n0 c5) (xs.take n0))) (fun kv _ => en - (intOf kv).toNat)
              case atStart => exact ⟨a, rfl, Nat.le_refl _, HAE.out.1, by rw [onH_none]; exact HP⟩
              case round =>
                clear HP
                obtain ⟨k, rfl, hk1, hk2, HP⟩ := hrel
                have kk0 : (0 : Int) ≤ (k : Int) := by omega
                rcases Nat.lt_or_ge k (en) with hke | hke
                · have kk1 : (k : Int) < ((en : Nat) : Int) := by omega
                  have kk2 : (k : Int) < 200 := by omega
                  have zc := HP.out.row.cell k
                  rw [hC_get _ k (by have := HL.out.1; have := HAE.out; omega)] at zc
                  have zf := HP.out.row.frozen k
                  go_wp2
                  go_roundw
                  case rel => exact ⟨k + 1, by push_cast; rfl, by omega, hke, Lib.hid (by rw [← onH_step H a k hk1]; exact HP.out.had)⟩
                  case measure => simp [intOf]; omega
                · have hke2 : en = k := by omega
                  subst hke2
                  clear hk1 hk2 hke
                  by_cases hjr : j < rs.length
                  · have j1 : (j : Int) < (rs.length : Int) := by omega
                    obtain ⟨b2, o2, rfl, _, _, hcr⟩ := (HVC.out _ HP.out.chg).at_ hjr
                    obtain ⟨r, hr⟩ : ∃ r, r = rs.getD j 0 := ⟨_, rfl⟩
                    rw [← hr] at hcr
                    have hr256 : r < 256 := by rw [hr, List.getD_eq_getElem?_getD, List.getElem?_eq_getElem hjr]; exact HBC.out _ (List.getElem_mem hjr)
                    have r1_ : (r : Int) ≤ 255 := by omega
                    have r0_ : (0 : Int) ≤ (r : Int) := by omega
                    clear hr
                    go_wp2_with (first | ((with_reducible show Calls _ 11 #[_, _] _ _); refine (qRead HP.out HL.out.1 _).mono ?_; rintro e w6 ⟨A7, k2, c7, s2, rfl, hv, h1, h2, h3, h4, hp⟩; have HVR := Lib.hid hv; rw [HR1.out] at HVR h1 h3; have HRD := Lib.hid (And.intro h1 h3); have HK2 := Lib.hid h2; have HALL := Lib.hid h4; have HP := Lib.hid hp; have n2 : (n0 : Int) + (k2 : Int) ≤ 200 := (by have := HL.out.1; omega); clear hv h1 h2 h3 h4 hp) | ((with_reducible show wpList _ _ _ (⟨some 89, _, _, _, _, _⟩ :: _) _ _); refine wpList_append_own2 rfl _ _ 22 rfl Try.underlying22 (base := W.heap.size) (v := .slice A5 n0 c5) (L := xs.take n0) (M := (xs.drop n0).take k2) (A := A7) (m := k2) (c := c7) ?u4_1 ?u4_2 ?u4_3 HVR.out ?u4_5 ?u4_6 ?u4_7; (case u4_1 => exact rfl); (case u4_2 => exact HP.out.own); (case u4_3 => exact rfl); (case u4_5 => rw [List.length_take]; have := HL.out.1; have := HK2.out; omega); (case u4_6 => exact HP.out.chg.size); intro v_ w7 ho hc _; rw [take_two] at ho; obtain ⟨A6, c6, hv6, _, _, _⟩ := ho.view; rw [show (xs.take (n0 + k2)).length = n0 + k2 by rw [List.length_take]; have := HRD.out.2; omega] at hv6; subst hv6; have HP := Lib.hid (HP.out.app hc ho); clear ho hc) | (go_at_call 12; refine (qHeld HP.out).mono ?_; rintro e w_ ⟨nh, rfl, hnh, hw_⟩; have hw_ := hw_.symm; subst hw_))
                    go_roundw
                    case rel => exact ⟨j + 1, n0 + k2, c6, A6, s2, onH H a en, by push_cast; rfl, rfl, hlt, Lib.hid ⟨HP.out, HRD.out.1, HRD.out.2⟩⟩
                    case measure => simp [intOf]; omega
                  · have j1 : (rs.length : Int) ≤ (j : Int) := by omega
                    go_wp2_with (first | (go_at_call 12; refine (qHeld HP.out).mono ?_; rintro e w_ ⟨nh, rfl, hnh, hw_⟩; have hw_ := hw_.symm; subst hw_))
                    go_roundw
                    case rel => exact ⟨j + 1, n0, c5, A5, s1, onH H a en, by push_cast; rfl, rfl, hlt, Lib.hid ⟨HP.out, HR1.out, HPI.out.2.2⟩⟩
                    case measure => simp [intOf]; omega
        · have k1 : (l.length : Int) ≤ (j : Int) := by omega
          have HR1 := Lib.hid HPI.out.2.1
          have HP := Lib.hid HPI.out.1
          go_wp2_with (first | ((with_reducible show Calls _ 11 #[_, .int .i64 1000] _ _); refine (qRead HP.out HL.out.1 _).mono ?_; rintro e w6 ⟨A7, k2, c7, s2, rfl, hv, h1, h2, h3, h4, hp⟩; have HVR := Lib.hid hv; rw [HR1.out] at HVR h1 h3; have HRD := Lib.hid (And.intro h1 h3); have HK2 := Lib.hid h2; have HALL := Lib.hid h4; have HP := Lib.hid hp; have n2 : (n0 : Int) + (k2 : Int) ≤ 200 := (by have := HL.out.1; omega); clear hv h1 h2 h3 h4 hp) | ((with_reducible show wpList _ _ _ (⟨some 96, _, _, _, _, _⟩ :: _) _ _); refine wpList_append_own2 rfl _ _ 22 rfl Try.underlying22 (base := W.heap.size) (v := .slice A5 n0 c5) (L := xs.take n0) (M := (xs.drop n0).take k2) (A := A7) (m := k2) (c := c7) ?u1_1 ?u1_2 ?u1_3 HVR.out ?u1_5 ?u1_6 ?u1_7; (case u1_1 => exact rfl); (case u1_2 => exact HP.out.own); (case u1_3 => exact rfl); (case u1_5 => rw [List.length_take]; have := HL.out.1; have := HK2.out; omega); (case u1_6 => exact HP.out.chg.size); intro v_ w7 ho hc _; rw [take_two] at ho; obtain ⟨A6, c6, hv6, _, _, _⟩ := ho.view; rw [show (xs.take (n0 + k2)).length = n0 + k2 by rw [List.length_take]; have := HRD.out.2; omega] at hv6; subst hv6; have HP := Lib.hid (HP.out.app hc ho); clear ho hc))
          go_loopw [14] (fun mv wm => ∃ mm : Nat, mv = .int .i64 (mm : Int) ∧ mm ≤ xs.length ∧ Hid (∀ p, p < mm → H p = true) ∧ Hid (PI W wm g m w1.heap.size xs H H s2 (.slice A6 (n0 + k2) c6) (xs.take (n0 + k2)))) (fun mv _ => xs.length - (intOf mv).toNat)
          case atStart => exact ⟨0, rfl, Nat.zero_le _, Lib.hid (fun p hp => absurd hp (Nat.not_lt_zero p)), HP⟩
          case round =>
            clear HP
            obtain ⟨mm, rfl, hmm, HM, HP⟩ := hrel
            have m0 : (0 : Int) ≤ (mm : Int) := by omega
            rcases Nat.lt_or_ge mm xs.length with hmx | hmx
            · have m1 : (mm : Int) < (xs.length : Int) := by omega
              have m2 : (mm : Int) < 200 := by omega
              have zc := HP.out.row.cell mm
              rw [hC_get _ mm (by have := HL.out.1; omega)] at zc
              cases hH : H mm
              · rw [hH] at zc
                have HN := Lib.hid hH
                clear hH
                have HG2 := Lib.hid ((HP.out.ps.gap_is HP.out.ba.ok HM.out HN.out))
                have HNM : Hid (n0 + k2 = mm) := Lib.hid (by rw [← HRD.out.1, HALL.out (by decide), HG2.out])
                have HSM : Hid (∀ w (T T' : Nat → Prop) (A1 A2 : Option Addr) (c1 c2 : Nat), View w T A1 (n0 + k2) (u8s (xs.take (n0 + k2))) → View w T' A2 mm (u8s (xs.take mm)) → Calls Try.prog 13 #[.slice A1 (n0 + k2) c1, .slice A2 mm c2] w fun e w' => e = .returned (.bool true) ∧ ∃ k, w' = w.drewN k) := Lib.hid (fun w T T' A1 A2 c1 c2 h h' => by
                  rw [HNM.out] at h ⊢
                  have e : (xs.take mm).length = mm := by rw [List.length_take]; omega
                  have := same_any w T T' A1 A2 c1 c2 (xs.take mm) (xs.take mm) (by rw [e]; exact h) (by rw [e]; exact h') (by rw [e]; have := HL.out.1; omega)
                  rw [decide_eq_true rfl, e] at this
                  exact this)
                have HMC : Hid (mm ≤ cap) := Lib.hid (Nat.le_trans hmm HL.out.2.2)
                have HMX : Hid (mm ≤ xs.length) := Lib.hid hmm
                go_wp2_with (first | (go_at_call 8; refine (HAL.out _).mono ?_; rintro e w8 ⟨rfl, hc⟩; have HP := Lib.hid (HP.out.quiet hc); clear hc) | ((with_reducible show wpList _ _ _ (⟨some 113, _, _, _, _, _⟩ :: _) _ _); refine wpList_slice_highP rfl 22 5 _ _ rfl A xs.length cap mm rfl rfl Try.underlying22 size5 HMC.out ?_) | ((with_reducible show Calls _ 13 _ _ _); refine (HSM.out _ _ _ _ _ _ _ (wown HP.out.own HRD.out.2) ((HV.out _ HP.out.chg).upto cap HMX.out)).mono ?_; rintro e w9 ⟨rfl, k9, hw⟩; have hq : Chg none_ w8 w9 := (by rw [hw]; exact (Chg.refl none_ w8).drewN k9); have HP := Lib.hid (HP.out.quiet hq); clear hw hq) | (go_at_call 14; refine (qReady HP.out (HALL.out (by decide))).mono ?_; rintro e w10 ⟨rfl, k10, hw⟩; have HC := Lib.hid (by rw [hw]; exact HP.out.chg.drewN k10 : Chg none_ W w10); clear hw))
                go_ret
                exact ⟨rfl, HC.out⟩
              · rw [hH] at zc
                have HM2 : Hid (∀ p, p < mm + 1 → H p = true) := Lib.hid (fun p hp => by
                  rcases Nat.lt_or_ge p mm with h | h
                  · exact HM.out p h
                  · rw [show p = mm by omega]; exact hH)
                clear hH
                go_wp2
                go_roundw
                case rel => exact ⟨mm + 1, by push_cast; rfl, hmx, HM2, HP⟩
                case measure => simp [intOf]; omega
            · have m1 : (xs.length : Int) ≤ (mm : Int) := by omega
              have HN : Hid (H mm = false) := Lib.hid (by
                cases hH : H mm
                · rfl
                · have := HP.out.ps.H mm hH; omega)
              have HG2 := Lib.hid ((HP.out.ps.gap_is HP.out.ba.ok HM.out HN.out))
              have HNM : Hid (n0 + k2 = mm) := Lib.hid (by rw [← HRD.out.1, HALL.out (by decide), HG2.out])
              have HSM : Hid (∀ w (T T' : Nat → Prop) (A1 A2 : Option Addr) (c1 c2 : Nat), View w T A1 (n0 + k2) (u8s (xs.take (n0 + k2))) → View w T' A2 mm (u8s (xs.take mm)) → Calls Try.prog 13 #[.slice A1 (n0 + k2) c1, .slice A2 mm c2] w fun e w' => e = .returned (.bool true) ∧ ∃ k, w' = w.drewN k) := Lib.hid (fun w T T' A1 A2 c1 c2 h h' => by
                rw [HNM.out] at h ⊢
                have e : (xs.take mm).length = mm := by rw [List.length_take]; omega
                have := same_any w T T' A1 A2 c1 c2 (xs.take mm) (xs.take mm) (by rw [e]; exact h) (by rw [e]; exact h') (by rw [e]; have := HL.out.1; omega)
                rw [decide_eq_true rfl, e] at this
                exact this)
              have HMC : Hid (mm ≤ cap) := Lib.hid (Nat.le_trans hmm HL.out.2.2)
              have HMX : Hid (mm ≤ xs.length) := Lib.hid hmm
              go_wp2_with (first | (go_at_call 8; refine (HAL.out _).mono ?_; rintro e w8 ⟨rfl, hc⟩; have HP := Lib.hid (HP.out.quiet hc); clear hc) | ((with_reducible show wpList _ _ _ (⟨some 113, _, _, _, _, _⟩ :: _) _ _); refine wpList_slice_highP rfl 22 5 _ _ rfl A xs.length cap mm rfl rfl Try.underlying22 size5 HMC.out ?_) | ((with_reducible show Calls _ 13 _ _ _); refine (HSM.out _ _ _ _ _ _ _ (wown HP.out.own HRD.out.2) ((HV.out _ HP.out.chg).upto cap HMX.out)).mono ?_; rintro e w9 ⟨rfl, k9, hw⟩; have hq : Chg none_ w8 w9 := (by rw [hw]; exact (Chg.refl none_ w8).drewN k9); have HP := Lib.hid (HP.out.quiet hq); clear hw hq) | (go_at_call 14; refine (qReady HP.out (HALL.out (by decide))).mono ?_; rintro e w10 ⟨rfl, k10, hw⟩; have HC := Lib.hid (by rw [hw]; exact HP.out.chg.drewN k10 : Chg none_ W w10); clear hw))
              go_ret
              exact ⟨rfl, HC.out⟩
    · have l2 : (60 : Int) < (l.length : Int) := by omega
      go_enter Try.func3, Try.ntmps3
      go_wp2_with (go_at_call 8; refine (HAL.out _).mono ?_; rintro e w0 ⟨rfl, hc⟩; have HC := Lib.hid hc; clear hc)
      go_ret
      exact ⟨rfl, HC.out⟩
  · have l1 : (200 : Int) < (xs.length : Int) := by omega
    go_enter Try.func3, Try.ntmps3
    go_wp2_with (go_at_call 8; refine (HAL.out _).mono ?_; rintro e w0 ⟨rfl, hc⟩; have HC := Lib.hid hc; clear hc)
    go_ret
    exact ⟨rfl, HC.out⟩
end Go.Proofs.Ytbmhoijdbhokaaa
