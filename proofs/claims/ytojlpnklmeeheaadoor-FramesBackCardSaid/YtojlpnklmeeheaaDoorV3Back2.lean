/- Layer 3 (frames): laws walked: what is put is parsed again. -/
import Derived.Test.YtojlpnklmeeheaaDoorV3Open
import Derived.Test.YtojlpnklmeeheaaDoorV3TwoM
import Derived.Test.YtojlpnklmeeheaaDoorV3PutM
import Derived.Test.YtojlpnklmeeheaaDoorV3Alive
namespace Go.Proofs.YtojlpnklmeeheaaDoor
open Go.RowKit

theorem putM_few {f : Fr} (of : f.Ok) (ht : f.tok.length = 16) (hr : rightB f = true) : (putM f).length ≤ 200000 := by
  have h1 := flat_len f (partsOf f) (parts_small of ht hr)
  have h2 := encI_len (typM f)
  have h3 : (partsOf f).length ≤ 100 := by
    unfold partsOf
    cases hd : kdM (keyM f.kind) with
    | none => exact Nat.zero_le _
    | some d => exact Nat.le_trans (parts_len d (kdM_good hd) (typM f)) (by decide)
  unfold putM
  rw [if_pos hr, List.length_append]
  omega
theorem next_zero (r : List Nat) : (nextM (0 :: r, 0)).1.kind = 0 := by
  have h1 : rdInt (0 :: r, 0) = (0, (r, 0)) := by
    unfold rdInt
    simp [needs, foldB]
  unfold nextM
  rw [h1]
  dsimp only
  split
  · rfl
  · split
    · rw [(readAll_kind _ _).1]
      rfl
    · rfl
theorem head_ne {g : Fr} (og : g.Ok) (tg : g.tok.length = 16) (lg : g.data.length ≤ 1000000) (rg : rightB g = true) (hk : g.kind ≠ 0) : (putM g).head? ≠ some 0 := by
  intro h
  have h2 := next_right og tg lg rg [] (fun _ => Or.inr (by simp))
  rw [List.append_nil] at h2
  rcases hp : putM g with _ | ⟨x, r⟩
  · rw [hp] at h; cases h
  · rw [hp] at h h2
    simp only [List.head?_cons, Option.some.injEq] at h
    subst h
    have h3 := next_zero r
    rw [h2] at h3
    exact hk h3
theorem two_back {f g : Fr} (of : f.Ok) (og : g.Ok) (tf : f.tok.length = 16) (tg : g.tok.length = 16) (lf : f.data.length ≤ 1000000) (lg : g.data.length ≤ 1000000) (rf : rightB f = true) (rg : rightB g = true) (hk : ¬ (f.kind = 0 ∧ g.kind = 0)) : parseM (putM f ++ putM g) = ([f, g], 0) := by
  have h : loopP [] (putM f ++ putM g, 0) = ([f, g], ([], 0)) := by
    rw [loop_more of tf lf rf [] (putM g) (fun h0 => Or.inr (head_ne og tg lg rg (fun h1 => hk ⟨h0, h1⟩))), loop_one og tg lg rg]
    rfl
  rw [parseM_eq _ _ _ h]
  rfl
set_option maxRecDepth 100000 in
set_option maxHeartbeats 800000 in
theorem walk_FramesBack (f : Fr) (sd sr : Value) (g : Fr) (td tr : Value) (w : World) (hf : FrIn w f sd sr) (of : f.Ok) (hg : FrIn w g td tr) (og : g.Ok) (hT : Tab w) :
    Calls Tryd.prog 4 #[aggF f sd sr, aggF g td tr] w fun e w' => e = .returned (.bool true) ∧ Chg none_ w w' := by
  have HT := Lib.hid hT
  have HTF := Lib.hid hf.tok
  have HTG := Lib.hid hg.tok
  have HGF : Hid (∀ w', Chg none_ w w' → Calls Tryd.prog 9 #[.agg (cellsF f sd sr).toArray] w' fun e w'' => e = .returned (.bool (greatB f)) ∧ Chg none_ w' w'') := Lib.hid (fun w' hc => Great_any f sd sr w' (hf.chg hc))
  have HGG : Hid (∀ w', Chg none_ w w' → Calls Tryd.prog 9 #[.agg (cellsF g td tr).toArray] w' fun e w'' => e = .returned (.bool (greatB g)) ∧ Chg none_ w' w'') := Lib.hid (fun w' hc => Great_any g td tr w' (hg.chg hc))
  unfold aggF
  cases g1 : greatB f with
  | true =>
    rw [g1] at HGF
    clear hf of hg og hT
    go_enter Tryd.func4, Tryd.ntmps4
    go_wp2_with (first | ((with_reducible show wpList _ _ _ (⟨some 2, .box _ _, _, _, _, _⟩ :: _) _ _); refine wpList_box_Row rfl rfl (cellsF f sd sr) rfl ?_; intro w1 hr1 hc1 hs1; have HR1 := Lib.hid hr1; have HC1 := Lib.hid hc1; have HS1 := Lib.hid hs1; clear hr1 hc1 hs1) | ((with_reducible show wpList _ _ _ (⟨some 3, .box _ _, _, _, _, _⟩ :: _) _ _); refine wpList_box_Row rfl rfl (cellsF g td tr) rfl ?_; intro w2 hr2 hc2 hs2; have HRW := Lib.hid (show ∀ w', Chg none_ w2 w' → Row w' w.heap.size 27 (cellsF f sd sr) ∧ Row w' w1.heap.size 27 (cellsF g td tr) from fun w' hc => ⟨(HR1.out.chg hc2 (fun h => h)).chg hc (fun h => h), hr2.chg hc (fun h => h)⟩); have HC := Lib.hid (Chg.refl none_ w2); have HW2 := Lib.hid (HC1.out.trans hc2); clear hr2 hc2 hs2 HR1) | (go_at_call 8; refine (alive_any _ (HT.out.chg (HW2.out.trans HC.out) (fun h => h))).mono ?_; rintro e w3 ⟨rfl, hc⟩; have HC := Lib.hid (HC.out.trans hc); clear hc) | ((with_reducible show wpList _ _ _ (⟨some 9, .load _ _, _, _, _, _⟩ :: _) _ _); refine wpList_load_Row (cs := cellsF f sd sr) rfl rfl rfl (HRW.out _ HC.out).1 Tryd.underlying27 rfl (by rw [cF_len _ _ _ HTF.out]; exact size27) ?_) | (go_at_call 9; (with_reducible show Calls _ _ #[.agg (cellsF f sd sr).toArray] _ _); refine (HGF.out _ (HW2.out.trans HC.out)).mono ?_; rintro e w4 ⟨rfl, hc⟩; have HC := Lib.hid (HC.out.trans hc); clear hc))
    go_ret
    exact ⟨rfl, HW2.out.trans HC.out⟩
  | false =>
    rw [g1] at HGF
    obtain ⟨df, lf⟩ := hf.small g1
    have HRF : Hid (∀ w', Chg none_ w w' → Calls Tryd.prog 10 #[.agg (cellsF f sd sr).toArray] w' fun e w'' => e = .returned (.bool (rightB f)) ∧ Chg none_ w' w'') := Lib.hid (fun w' hc => Right_any f sd sr w' _ (df.chg hc (fun _ _ h => h)) of)
    cases g2 : greatB g with
    | true =>
      rw [g2] at HGG
      clear hf of hg og hT df lf HRF
      go_enter Tryd.func4, Tryd.ntmps4
      go_wp2_with (first | ((with_reducible show wpList _ _ _ (⟨some 2, .box _ _, _, _, _, _⟩ :: _) _ _); refine wpList_box_Row rfl rfl (cellsF f sd sr) rfl ?_; intro w1 hr1 hc1 hs1; have HR1 := Lib.hid hr1; have HC1 := Lib.hid hc1; have HS1 := Lib.hid hs1; clear hr1 hc1 hs1) | ((with_reducible show wpList _ _ _ (⟨some 3, .box _ _, _, _, _, _⟩ :: _) _ _); refine wpList_box_Row rfl rfl (cellsF g td tr) rfl ?_; intro w2 hr2 hc2 hs2; have HRW := Lib.hid (show ∀ w', Chg none_ w2 w' → Row w' w.heap.size 27 (cellsF f sd sr) ∧ Row w' w1.heap.size 27 (cellsF g td tr) from fun w' hc => ⟨(HR1.out.chg hc2 (fun h => h)).chg hc (fun h => h), hr2.chg hc (fun h => h)⟩); have HC := Lib.hid (Chg.refl none_ w2); have HW2 := Lib.hid (HC1.out.trans hc2); clear hr2 hc2 hs2 HR1) | (go_at_call 8; refine (alive_any _ (HT.out.chg (HW2.out.trans HC.out) (fun h => h))).mono ?_; rintro e w3 ⟨rfl, hc⟩; have HC := Lib.hid (HC.out.trans hc); clear hc) | ((with_reducible show wpList _ _ _ (⟨some 9, .load _ _, _, _, _, _⟩ :: _) _ _); refine wpList_load_Row (cs := cellsF f sd sr) rfl rfl rfl (HRW.out _ HC.out).1 Tryd.underlying27 rfl (by rw [cF_len _ _ _ HTF.out]; exact size27) ?_) | (go_at_call 9; (with_reducible show Calls _ _ #[.agg (cellsF f sd sr).toArray] _ _); refine (HGF.out _ (HW2.out.trans HC.out)).mono ?_; rintro e w4 ⟨rfl, hc⟩; have HC := Lib.hid (HC.out.trans hc); clear hc) | ((with_reducible show wpList _ _ _ (⟨some 12, .load _ _, _, _, _, _⟩ :: _) _ _); refine wpList_load_Row (cs := cellsF g td tr) rfl rfl rfl (HRW.out _ HC.out).2 Tryd.underlying27 rfl (by rw [cF_len _ _ _ HTG.out]; exact size27) ?_) | (go_at_call 9; (with_reducible show Calls _ _ #[.agg (cellsF g td tr).toArray] _ _); refine (HGG.out _ (HW2.out.trans HC.out)).mono ?_; rintro e w5 ⟨rfl, hc⟩; have HC := Lib.hid (HC.out.trans hc); clear hc))
      go_ret
      exact ⟨rfl, HW2.out.trans HC.out⟩
    | false =>
      rw [g2] at HGG
      obtain ⟨dg, lg⟩ := hg.small g2
      have HRG : Hid (∀ w', Chg none_ w w' → Calls Tryd.prog 10 #[.agg (cellsF g td tr).toArray] w' fun e w'' => e = .returned (.bool (rightB g)) ∧ Chg none_ w' w'') := Lib.hid (fun w' hc => Right_any g td tr w' _ (dg.chg hc (fun _ _ h => h)) og)
      cases r1 : rightB f with
      | false =>
        rw [r1] at HRF
        clear hf of hg og hT df lf dg lg HRG
        go_enter Tryd.func4, Tryd.ntmps4
        go_wp2_with (first | ((with_reducible show wpList _ _ _ (⟨some 2, .box _ _, _, _, _, _⟩ :: _) _ _); refine wpList_box_Row rfl rfl (cellsF f sd sr) rfl ?_; intro w1 hr1 hc1 hs1; have HR1 := Lib.hid hr1; have HC1 := Lib.hid hc1; have HS1 := Lib.hid hs1; clear hr1 hc1 hs1) | ((with_reducible show wpList _ _ _ (⟨some 3, .box _ _, _, _, _, _⟩ :: _) _ _); refine wpList_box_Row rfl rfl (cellsF g td tr) rfl ?_; intro w2 hr2 hc2 hs2; have HRW := Lib.hid (show ∀ w', Chg none_ w2 w' → Row w' w.heap.size 27 (cellsF f sd sr) ∧ Row w' w1.heap.size 27 (cellsF g td tr) from fun w' hc => ⟨(HR1.out.chg hc2 (fun h => h)).chg hc (fun h => h), hr2.chg hc (fun h => h)⟩); have HC := Lib.hid (Chg.refl none_ w2); have HW2 := Lib.hid (HC1.out.trans hc2); clear hr2 hc2 hs2 HR1) | (go_at_call 8; refine (alive_any _ (HT.out.chg (HW2.out.trans HC.out) (fun h => h))).mono ?_; rintro e w3 ⟨rfl, hc⟩; have HC := Lib.hid (HC.out.trans hc); clear hc) | ((with_reducible show wpList _ _ _ (⟨some 9, .load _ _, _, _, _, _⟩ :: _) _ _); refine wpList_load_Row (cs := cellsF f sd sr) rfl rfl rfl (HRW.out _ HC.out).1 Tryd.underlying27 rfl (by rw [cF_len _ _ _ HTF.out]; exact size27) ?_) | (go_at_call 9; (with_reducible show Calls _ _ #[.agg (cellsF f sd sr).toArray] _ _); refine (HGF.out _ (HW2.out.trans HC.out)).mono ?_; rintro e w4 ⟨rfl, hc⟩; have HC := Lib.hid (HC.out.trans hc); clear hc) | ((with_reducible show wpList _ _ _ (⟨some 12, .load _ _, _, _, _, _⟩ :: _) _ _); refine wpList_load_Row (cs := cellsF g td tr) rfl rfl rfl (HRW.out _ HC.out).2 Tryd.underlying27 rfl (by rw [cF_len _ _ _ HTG.out]; exact size27) ?_) | (go_at_call 9; (with_reducible show Calls _ _ #[.agg (cellsF g td tr).toArray] _ _); refine (HGG.out _ (HW2.out.trans HC.out)).mono ?_; rintro e w5 ⟨rfl, hc⟩; have HC := Lib.hid (HC.out.trans hc); clear hc) | ((with_reducible show wpList _ _ _ (⟨some 16, .load _ _, _, _, _, _⟩ :: _) _ _); refine wpList_load_Row (cs := cellsF f sd sr) rfl rfl rfl (HRW.out _ HC.out).1 Tryd.underlying27 rfl (by rw [cF_len _ _ _ HTF.out]; exact size27) ?_) | (go_at_call 10; (with_reducible show Calls _ _ #[.agg (cellsF f sd sr).toArray] _ _); refine (HRF.out _ (HW2.out.trans HC.out)).mono ?_; rintro e w6 ⟨rfl, hc⟩; have HC := Lib.hid (HC.out.trans hc); clear hc))
        go_ret
        exact ⟨rfl, HW2.out.trans HC.out⟩
      | true =>
        rw [r1] at HRF
        cases r2 : rightB g with
        | false =>
          rw [r2] at HRG
          clear hf of hg og hT df lf dg lg
          go_enter Tryd.func4, Tryd.ntmps4
          go_wp2_with (first | ((with_reducible show wpList _ _ _ (⟨some 2, .box _ _, _, _, _, _⟩ :: _) _ _); refine wpList_box_Row rfl rfl (cellsF f sd sr) rfl ?_; intro w1 hr1 hc1 hs1; have HR1 := Lib.hid hr1; have HC1 := Lib.hid hc1; have HS1 := Lib.hid hs1; clear hr1 hc1 hs1) | ((with_reducible show wpList _ _ _ (⟨some 3, .box _ _, _, _, _, _⟩ :: _) _ _); refine wpList_box_Row rfl rfl (cellsF g td tr) rfl ?_; intro w2 hr2 hc2 hs2; have HRW := Lib.hid (show ∀ w', Chg none_ w2 w' → Row w' w.heap.size 27 (cellsF f sd sr) ∧ Row w' w1.heap.size 27 (cellsF g td tr) from fun w' hc => ⟨(HR1.out.chg hc2 (fun h => h)).chg hc (fun h => h), hr2.chg hc (fun h => h)⟩); have HC := Lib.hid (Chg.refl none_ w2); have HW2 := Lib.hid (HC1.out.trans hc2); clear hr2 hc2 hs2 HR1) | (go_at_call 8; refine (alive_any _ (HT.out.chg (HW2.out.trans HC.out) (fun h => h))).mono ?_; rintro e w3 ⟨rfl, hc⟩; have HC := Lib.hid (HC.out.trans hc); clear hc) | ((with_reducible show wpList _ _ _ (⟨some 9, .load _ _, _, _, _, _⟩ :: _) _ _); refine wpList_load_Row (cs := cellsF f sd sr) rfl rfl rfl (HRW.out _ HC.out).1 Tryd.underlying27 rfl (by rw [cF_len _ _ _ HTF.out]; exact size27) ?_) | (go_at_call 9; (with_reducible show Calls _ _ #[.agg (cellsF f sd sr).toArray] _ _); refine (HGF.out _ (HW2.out.trans HC.out)).mono ?_; rintro e w4 ⟨rfl, hc⟩; have HC := Lib.hid (HC.out.trans hc); clear hc) | ((with_reducible show wpList _ _ _ (⟨some 12, .load _ _, _, _, _, _⟩ :: _) _ _); refine wpList_load_Row (cs := cellsF g td tr) rfl rfl rfl (HRW.out _ HC.out).2 Tryd.underlying27 rfl (by rw [cF_len _ _ _ HTG.out]; exact size27) ?_) | (go_at_call 9; (with_reducible show Calls _ _ #[.agg (cellsF g td tr).toArray] _ _); refine (HGG.out _ (HW2.out.trans HC.out)).mono ?_; rintro e w5 ⟨rfl, hc⟩; have HC := Lib.hid (HC.out.trans hc); clear hc) | ((with_reducible show wpList _ _ _ (⟨some 16, .load _ _, _, _, _, _⟩ :: _) _ _); refine wpList_load_Row (cs := cellsF f sd sr) rfl rfl rfl (HRW.out _ HC.out).1 Tryd.underlying27 rfl (by rw [cF_len _ _ _ HTF.out]; exact size27) ?_) | (go_at_call 10; (with_reducible show Calls _ _ #[.agg (cellsF f sd sr).toArray] _ _); refine (HRF.out _ (HW2.out.trans HC.out)).mono ?_; rintro e w6 ⟨rfl, hc⟩; have HC := Lib.hid (HC.out.trans hc); clear hc) | ((with_reducible show wpList _ _ _ (⟨some 21, .load _ _, _, _, _, _⟩ :: _) _ _); refine wpList_load_Row (cs := cellsF g td tr) rfl rfl rfl (HRW.out _ HC.out).2 Tryd.underlying27 rfl (by rw [cF_len _ _ _ HTG.out]; exact size27) ?_) | (go_at_call 10; (with_reducible show Calls _ _ #[.agg (cellsF g td tr).toArray] _ _); refine (HRG.out _ (HW2.out.trans HC.out)).mono ?_; rintro e w7 ⟨rfl, hc⟩; have HC := Lib.hid (HC.out.trans hc); clear hc))
          go_ret
          exact ⟨rfl, HW2.out.trans HC.out⟩
        | true =>
          rw [r2] at HRG
          by_cases hk0 : f.kind = 0 ∧ g.kind = 0
          · have e1 : (f.kind == 0) = true := by rw [beq_iff_eq]; exact hk0.1
            have e2 : (g.kind == 0) = true := by rw [beq_iff_eq]; exact hk0.2
            have a0 := cF_0 f sd sr
            have b0 := cF_0 g td tr
            have HC0 := Lib.hid a0
            have HD0 := Lib.hid b0
            clear hf of hg og hT df lf dg lg hk0 a0 b0
            go_enter Tryd.func4, Tryd.ntmps4
            go_wp2_with (first | ((with_reducible show wpList _ _ _ (⟨some 2, .box _ _, _, _, _, _⟩ :: _) _ _); refine wpList_box_Row rfl rfl (cellsF f sd sr) rfl ?_; intro w1 hr1 hc1 hs1; have HR1 := Lib.hid hr1; have HC1 := Lib.hid hc1; have HS1 := Lib.hid hs1; clear hr1 hc1 hs1) | ((with_reducible show wpList _ _ _ (⟨some 3, .box _ _, _, _, _, _⟩ :: _) _ _); refine wpList_box_Row rfl rfl (cellsF g td tr) rfl ?_; intro w2 hr2 hc2 hs2; have HRW := Lib.hid (show ∀ w', Chg none_ w2 w' → Row w' w.heap.size 27 (cellsF f sd sr) ∧ Row w' w1.heap.size 27 (cellsF g td tr) from fun w' hc => ⟨(HR1.out.chg hc2 (fun h => h)).chg hc (fun h => h), hr2.chg hc (fun h => h)⟩); have HC := Lib.hid (Chg.refl none_ w2); have HW2 := Lib.hid (HC1.out.trans hc2); clear hr2 hc2 hs2 HR1) | (go_at_call 8; refine (alive_any _ (HT.out.chg (HW2.out.trans HC.out) (fun h => h))).mono ?_; rintro e w3 ⟨rfl, hc⟩; have HC := Lib.hid (HC.out.trans hc); clear hc) | ((with_reducible show wpList _ _ _ (⟨some 9, .load _ _, _, _, _, _⟩ :: _) _ _); refine wpList_load_Row (cs := cellsF f sd sr) rfl rfl rfl (HRW.out _ HC.out).1 Tryd.underlying27 rfl (by rw [cF_len _ _ _ HTF.out]; exact size27) ?_) | (go_at_call 9; (with_reducible show Calls _ _ #[.agg (cellsF f sd sr).toArray] _ _); refine (HGF.out _ (HW2.out.trans HC.out)).mono ?_; rintro e w4 ⟨rfl, hc⟩; have HC := Lib.hid (HC.out.trans hc); clear hc) | ((with_reducible show wpList _ _ _ (⟨some 12, .load _ _, _, _, _, _⟩ :: _) _ _); refine wpList_load_Row (cs := cellsF g td tr) rfl rfl rfl (HRW.out _ HC.out).2 Tryd.underlying27 rfl (by rw [cF_len _ _ _ HTG.out]; exact size27) ?_) | (go_at_call 9; (with_reducible show Calls _ _ #[.agg (cellsF g td tr).toArray] _ _); refine (HGG.out _ (HW2.out.trans HC.out)).mono ?_; rintro e w5 ⟨rfl, hc⟩; have HC := Lib.hid (HC.out.trans hc); clear hc) | ((with_reducible show wpList _ _ _ (⟨some 16, .load _ _, _, _, _, _⟩ :: _) _ _); refine wpList_load_Row (cs := cellsF f sd sr) rfl rfl rfl (HRW.out _ HC.out).1 Tryd.underlying27 rfl (by rw [cF_len _ _ _ HTF.out]; exact size27) ?_) | (go_at_call 10; (with_reducible show Calls _ _ #[.agg (cellsF f sd sr).toArray] _ _); refine (HRF.out _ (HW2.out.trans HC.out)).mono ?_; rintro e w6 ⟨rfl, hc⟩; have HC := Lib.hid (HC.out.trans hc); clear hc) | ((with_reducible show wpList _ _ _ (⟨some 21, .load _ _, _, _, _, _⟩ :: _) _ _); refine wpList_load_Row (cs := cellsF g td tr) rfl rfl rfl (HRW.out _ HC.out).2 Tryd.underlying27 rfl (by rw [cF_len _ _ _ HTG.out]; exact size27) ?_) | (go_at_call 10; (with_reducible show Calls _ _ #[.agg (cellsF g td tr).toArray] _ _); refine (HRG.out _ (HW2.out.trans HC.out)).mono ?_; rintro e w7 ⟨rfl, hc⟩; have HC := Lib.hid (HC.out.trans hc); clear hc; have hk1 := ((HRW.out _ HC.out).1.cell 0).trans HC0.out; have hk2 := ((HRW.out _ HC.out).2.cell 0).trans HD0.out))
            go_ret
            exact ⟨rfl, HW2.out.trans HC.out⟩
          · have HKK : Hid ((f.kind == 0) = false ∨ ((f.kind == 0) = true ∧ (g.kind == 0) = false)) := Lib.hid (by
              by_cases h : f.kind = 0
              · refine Or.inr ⟨by rw [beq_iff_eq]; exact h, by rw [beq_eq_false_iff_ne]; exact fun h2 => hk0 ⟨h, h2⟩⟩
              · exact Or.inl (by rw [beq_eq_false_iff_ne]; exact h))
            have HC0 := Lib.hid (cF_0 f sd sr)
            have HD0 := Lib.hid (cF_0 g td tr)
            have HPF : Hid (∀ w', Chg none_ w w' → Calls Tryd.prog 13 #[.agg (cellsF f sd sr).toArray] w' (OwnNew w' (putM f))) := Lib.hid (fun w' hc => Put_own f sd sr w' _ (HT.out.chg hc (fun h => h)) (df.chg hc (fun _ _ h => h)) of)
            have HPG : Hid (∀ w', Chg none_ w w' → Calls Tryd.prog 13 #[.agg (cellsF g td tr).toArray] w' (BytesNew w' (putM g))) := Lib.hid (fun w' hc => Put_any g td tr w' _ (HT.out.chg hc (fun h => h)) (dg.chg hc (fun _ _ h => h)) og)
            have HSM : Hid ((putM f).length + (putM g).length ≤ 1000000) := Lib.hid (by have := putM_few of hf.tok r1; have := putM_few og hg.tok r2; omega)
            have HPA : Hid (∀ w' T A c, View w' T A (putM f ++ putM g).length (u8s (putM f ++ putM g)) → Calls Tryd.prog 18 #[.slice A (putM f ++ putM g).length c] w' (ParsePost ([f, g], 0) w')) := Lib.hid (fun w' T A c hv => by
              have := parse_any w' T A c (putM f ++ putM g) hv (by rw [List.length_append]; exact HSM.out) (fun x hx => by
                rcases List.mem_append.1 hx with h | h
                · exact putM_lt f of x h
                · exact putM_lt g og x h)
              rw [two_back of og hf.tok hg.tok (by omega) (by omega) r1 r2 hk0] at this
              exact this)
            have HDF := Lib.hid df
            have HDG := Lib.hid dg
            have HOF := Lib.hid of
            have HOG := Lib.hid og
            clear hk0 hf hg hT df dg of og lf lg
            rcases HKK.out with e1 | ⟨e1, e2⟩
            · go_enter Tryd.func4, Tryd.ntmps4
              go_wp2_with (first | ((with_reducible show wpList _ _ _ (⟨some 2, .box _ _, _, _, _, _⟩ :: _) _ _); refine wpList_box_Row rfl rfl (cellsF f sd sr) rfl ?_; intro w1 hr1 hc1 hs1; have HR1 := Lib.hid hr1; have HC1 := Lib.hid hc1; have HS1 := Lib.hid hs1; clear hr1 hc1 hs1) | ((with_reducible show wpList _ _ _ (⟨some 3, .box _ _, _, _, _, _⟩ :: _) _ _); refine wpList_box_Row rfl rfl (cellsF g td tr) rfl ?_; intro w2 hr2 hc2 hs2; have HRW := Lib.hid (show ∀ w', Chg none_ w2 w' → Row w' w.heap.size 27 (cellsF f sd sr) ∧ Row w' w1.heap.size 27 (cellsF g td tr) from fun w' hc => ⟨(HR1.out.chg hc2 (fun h => h)).chg hc (fun h => h), hr2.chg hc (fun h => h)⟩); have HC := Lib.hid (Chg.refl none_ w2); have HW2 := Lib.hid (HC1.out.trans hc2); clear hr2 hc2 hs2 HR1) | (go_at_call 8; refine (alive_any _ (HT.out.chg (HW2.out.trans HC.out) (fun h => h))).mono ?_; rintro e w3 ⟨rfl, hc⟩; have HC := Lib.hid (HC.out.trans hc); clear hc) | ((with_reducible show wpList _ _ _ (⟨some 9, .load _ _, _, _, _, _⟩ :: _) _ _); refine wpList_load_Row (cs := cellsF f sd sr) rfl rfl rfl (HRW.out _ HC.out).1 Tryd.underlying27 rfl (by rw [cF_len _ _ _ HTF.out]; exact size27) ?_) | (go_at_call 9; (with_reducible show Calls _ _ #[.agg (cellsF f sd sr).toArray] _ _); refine (HGF.out _ (HW2.out.trans HC.out)).mono ?_; rintro e w4 ⟨rfl, hc⟩; have HC := Lib.hid (HC.out.trans hc); clear hc) | ((with_reducible show wpList _ _ _ (⟨some 12, .load _ _, _, _, _, _⟩ :: _) _ _); refine wpList_load_Row (cs := cellsF g td tr) rfl rfl rfl (HRW.out _ HC.out).2 Tryd.underlying27 rfl (by rw [cF_len _ _ _ HTG.out]; exact size27) ?_) | (go_at_call 9; (with_reducible show Calls _ _ #[.agg (cellsF g td tr).toArray] _ _); refine (HGG.out _ (HW2.out.trans HC.out)).mono ?_; rintro e w5 ⟨rfl, hc⟩; have HC := Lib.hid (HC.out.trans hc); clear hc) | ((with_reducible show wpList _ _ _ (⟨some 16, .load _ _, _, _, _, _⟩ :: _) _ _); refine wpList_load_Row (cs := cellsF f sd sr) rfl rfl rfl (HRW.out _ HC.out).1 Tryd.underlying27 rfl (by rw [cF_len _ _ _ HTF.out]; exact size27) ?_) | (go_at_call 10; (with_reducible show Calls _ _ #[.agg (cellsF f sd sr).toArray] _ _); refine (HRF.out _ (HW2.out.trans HC.out)).mono ?_; rintro e w6 ⟨rfl, hc⟩; have HC := Lib.hid (HC.out.trans hc); clear hc) | ((with_reducible show wpList _ _ _ (⟨some 21, .load _ _, _, _, _, _⟩ :: _) _ _); refine wpList_load_Row (cs := cellsF g td tr) rfl rfl rfl (HRW.out _ HC.out).2 Tryd.underlying27 rfl (by rw [cF_len _ _ _ HTG.out]; exact size27) ?_) | (go_at_call 10; (with_reducible show Calls _ _ #[.agg (cellsF g td tr).toArray] _ _); refine (HRG.out _ (HW2.out.trans HC.out)).mono ?_; rintro e w7 ⟨rfl, hc⟩; have HC := Lib.hid (HC.out.trans hc); clear hc; have hk1 := ((HRW.out _ HC.out).1.cell 0).trans HC0.out; have hk2 := ((HRW.out _ HC.out).2.cell 0).trans HD0.out))
              have HRX := Lib.hid (show ∀ x, Chg none_ w7 x → Row x w.heap.size 27 (cellsF f sd sr) ∧ Row x w1.heap.size 27 (cellsF g td tr) from fun x hx => HRW.out x (HC.out.trans hx))
              have HWX := Lib.hid (show ∀ x, Chg none_ w7 x → Chg none_ w x from fun x hx => (HW2.out.trans HC.out).trans hx)
              obtain ⟨i0, hi, hz0, hz1, hz2⟩ := info_parts info5
              refine wp_region_held_drew (S := fun x => Chg none_ w7 x) (by kernel_rfl) ((Chg.refl none_ w7).drew) (fun hch0 => ?_)
              have hz : Chg none_ w7 w7.drew := (Chg.refl none_ w7).drew
              generalize w7.drew = wz at hz ⊢
              clear hch0
              refine wpAnyH_take (i := 0) (v := .agg (cellsF f sd sr).toArray) rfl (by kernel_rfl) (by kernel_rfl) (by kernel_rfl) (by first | exact fun _ _ _ h => h | exact fun _ _ _ h => nomatch h.1) (yieldsIf_load_mid (by rfl) 27 _ rfl w.heap.size 0 rfl (cellsF f sd sr) _ (fun x hx => (HRX.out x hx).1.rangeMid 0 _ (fun j v hv => by rw [Nat.zero_add]; exact hv)) Tryd.underlying27 rfl (by rw [cF_len _ _ _ HTF.out]; exact size27)) hz ?_
              try simp only [Act.put, List.setIfInBounds_toArray, List.set_cons_zero, List.set_cons_succ, List.getElem_toArray, List.getElem_cons_zero]
              refine wpAnyH_take (i := 2) (v := .agg (cellsF g td tr).toArray) rfl (by kernel_rfl) (by kernel_rfl) (by kernel_rfl) (by first | exact fun _ _ _ h => h | exact fun _ _ _ h => nomatch h.1) (yieldsIf_load_mid (by rfl) 27 _ rfl w1.heap.size 0 rfl (cellsF g td tr) _ (fun x hx => (HRX.out x hx).2.rangeMid 0 _ (fun j v hv => by rw [Nat.zero_add]; exact hv)) Tryd.underlying27 rfl (by rw [cF_len _ _ _ HTG.out]; exact size27)) hz ?_
              try simp only [Act.put, List.setIfInBounds_toArray, List.set_cons_zero, List.set_cons_succ, List.getElem_toArray, List.getElem_cons_succ, List.getElem_cons_zero]
              refine wpAnyH_ready (rs := [1]) (by kernel_rfl) (by simp) ?_
              refine AllReadyH.cons rfl (fun K hK => ?_) AllReadyH.nil
              rw [if_pos (by rfl)]
              try simp only [List.getElem_toArray, List.getElem_cons_succ, List.getElem_cons_zero]
              go_simp
              refine (HPF.out _ (HWX.out _ hz)).mono ?_
              rintro e x1 ⟨v1, rfl, ho1, hcx1⟩
              have hzz := hz
              have hz := hz.trans hcx1
              refine hK.out _ _ hz (fun _ => ?_)
              clear hK K
              try simp only [Act.put, List.setIfInBounds_toArray, List.set_cons_zero, List.set_cons_succ, List.getElem_toArray, List.getElem_cons_succ, List.getElem_cons_zero]
              refine wpAnyH_ready (rs := [3]) (by kernel_rfl) (by simp) ?_
              refine AllReadyH.cons rfl (fun K hK => ?_) AllReadyH.nil
              rw [if_pos (by rfl)]
              try simp only [List.getElem_toArray, List.getElem_cons_succ, List.getElem_cons_zero]
              go_simp
              refine (HPG.out _ (HWX.out _ hz)).mono ?_
              rintro e x2 ⟨A2, c2, rfl, hv2, hcx2⟩
              have hz := hz.trans hcx2
              refine hK.out _ _ hz (fun _ => ?_)
              clear hK K
              try simp only [Act.put, List.setIfInBounds_toArray, List.set_cons_zero, List.set_cons_succ, List.getElem_toArray, List.getElem_cons_succ, List.getElem_cons_zero]
              refine wpAnyH_ready (rs := [4]) (by kernel_rfl) (by simp) ?_
              refine AllReadyH.cons rfl (fun K hK => ?_) AllReadyH.nil
              rw [if_pos (by rfl)]
              try simp only [List.getElem_toArray, List.getElem_cons_succ, List.getElem_cons_zero]
              refine wp_append_view (.tmp 35) (.tmp 37) 23 rfl 5 i0 _ 1 Tryd.underlying23 hi hz0 hz1 hz2 rfl wz.heap.size v1 (putM f).length (u8s (putM f)) rfl (ownsRow_chg ho1 hcx2) _ A2 (putM g).length c2 (u8s (putM g)) rfl hv2 (u8s_one _) (by have := HSM.out; unfold maxLen; omega) (by have := HSM.out; omega) (Nat.le_trans hcx1.size hcx2.size) ?_
              intro v3 x3 ho3 hg3 _
              have hz : Chg none_ w7 x3 := hz.grown hg3 (fun k hk hlt => by have := (ho1.lt k hk).1; have := hzz.size; omega)
              refine hK.out _ _ hz (fun _ => ?_)
              clear hK K
              try simp only [Act.put, List.setIfInBounds_toArray, List.set_cons_zero, List.set_cons_succ]
              obtain ⟨A3, c3, rfl, _, _, hv3⟩ := View.own (T := fun b => True) ho3 (fun _ _ => trivial)
              have HPR := Lib.hid (HPA.out x3 (fun _ => True) A3 c3 (by rw [List.length_append, ← u8s_append]; exact hv3))
              rw [List.length_append] at HPR
              refine wpAnyH_ready (rs := [5]) (by kernel_rfl) (by simp) ?_
              refine AllReadyH.cons rfl (fun K hK => ?_) AllReadyH.nil
              rw [if_pos (by rfl)]
              try simp only [List.getElem_toArray, List.getElem_cons_succ, List.getElem_cons_zero]
              go_simp
              refine (HPR.out).mono ?_
              rintro e x4 ⟨v4, L, base, T4, rfl, hfs, hbase, hL, hcx4⟩
              have hz := hz.trans hcx4
              refine hK.out _ _ hz (fun _ => ?_)
              clear hK K
              refine wpAnyH_take (i := 6) (v := .tuple #[v4, .int .i64 0]) rfl (by kernel_rfl) (by kernel_rfl) (by kernel_rfl) (by first | exact fun _ _ _ h => h | exact fun _ _ _ h => nomatch h.1) (Or.inl ⟨by rfl, fun w_ hw_ => by go_simp⟩) hz ?_
              try simp only [Act.put, List.setIfInBounds_toArray, List.set_cons_zero, List.set_cons_succ, List.getElem_toArray, List.getElem_cons_succ, List.getElem_cons_zero]
              refine wpAnyH_take (i := 7) (v := v4) rfl (by kernel_rfl) (by kernel_rfl) (by kernel_rfl) (by first | exact fun _ _ _ h => h | exact fun _ _ _ h => nomatch h.1) (Or.inl ⟨by rfl, fun w_ hw_ => by go_simp⟩) hz ?_
              try simp only [Act.put, List.setIfInBounds_toArray, List.set_cons_zero, List.set_cons_succ, List.getElem_toArray, List.getElem_cons_succ, List.getElem_cons_zero]
              refine wpAnyH_take (i := 8) (v := .int .i64 0) rfl (by kernel_rfl) (by kernel_rfl) (by kernel_rfl) (by first | exact fun _ _ _ h => h | exact fun _ _ _ h => nomatch h.1) (Or.inl ⟨by rfl, fun w_ hw_ => by go_simp⟩) hz ?_
              try simp only [Act.put, List.setIfInBounds_toArray, List.set_cons_zero, List.set_cons_succ, List.getElem_toArray, List.getElem_cons_succ, List.getElem_cons_zero]
              refine wpAnyH_take (i := 9) (v := v4) rfl (by kernel_rfl) (by kernel_rfl) (by kernel_rfl) (by first | exact fun _ _ _ h => h | exact fun _ _ _ h => nomatch h.1) (Or.inl ⟨by rfl, fun w_ hw_ => by go_simp⟩) hz ?_
              try simp only [Act.put, List.setIfInBounds_toArray, List.set_cons_zero, List.set_cons_succ, List.getElem_toArray, List.getElem_cons_succ, List.getElem_cons_zero]
              refine wpAnyH_take (i := 10) (v := .int .i64 0) rfl (by kernel_rfl) (by kernel_rfl) (by kernel_rfl) (by first | exact fun _ _ _ h => h | exact fun _ _ _ h => nomatch h.1) (Or.inl ⟨by rfl, fun w_ hw_ => by go_simp⟩) hz ?_
              try simp only [Act.put, List.setIfInBounds_toArray, List.set_cons_zero, List.set_cons_succ, List.getElem_toArray, List.getElem_cons_succ, List.getElem_cons_zero]
              refine wpAnyH_done (by kernel_rfl) ?_ _
              obtain ⟨sa, ra, ss, rs, rfl⟩ : ∃ sa ra ss rs, L = [(f, sa, ra), (g, ss, rs)] := by
                rcases L with _ | ⟨⟨f1, a1, b1⟩, _ | ⟨⟨f2, a2, b2⟩, _ | ⟨y, L⟩⟩⟩
                · cases hL
                · cases hL
                · simp only [List.map_cons, List.map_nil, List.cons.injEq, and_true] at hL
                  obtain ⟨rfl, rfl⟩ := hL
                  exact ⟨_, _, _, _, rfl⟩
                · simp at hL
              have HD1 : Hid (FrD x4 T4 f sa ra) := Lib.hid (hfs.at_ (f, sa, ra) (by simp))
              have HD2 : Hid (FrD x4 T4 g ss rs) := Lib.hid (hfs.at_ (g, ss, rs) (by simp))
              obtain ⟨g4, cap4, rfl, HVW⟩ : ∃ g4 cap, v4 = .slice (some ⟨g4, 0, none⟩) 2 cap ∧ Hid (View x4 (fun _ => True) (some ⟨g4, 0, none⟩) 48 (cellsF f sa ra ++ cellsF g ss rs)) := by
                obtain ⟨A, cap, h1, _, _, h4⟩ := view_ownN hfs.own
                rcases hfs.own.2 with ⟨h2, _⟩ | ⟨g4, cap2, cur, h2, _⟩
                · rw [h1] at h2; cases h2
                · rw [h1] at h2
                  simp only [Value.slice.injEq] at h2
                  obtain ⟨rfl, _, rfl⟩ := h2
                  refine ⟨g4, cap, h1, Lib.hid ?_⟩
                  have h5 : View x4 _ (some ⟨g4, 0, none⟩) (2 * 24) (fcellsL [(f, sa, ra), (g, ss, rs)]) := h4
                  have h6 : fcellsL [(f, sa, ra), (g, ss, rs)] = cellsF f sa ra ++ cellsF g ss rs := by simp [fcellsL]
                  rw [h6] at h5
                  exact h5.mono (fun _ _ _ => trivial)
              have HZ := Lib.hid hz
              have HL1 : Hid ((cellsF f sa ra).length = 24) := Lib.hid (cF_len _ _ _ HTF.out)
              have HL2 : Hid ((cellsF g ss rs).length = 24) := Lib.hid (cF_len _ _ _ HTG.out)
              have HG0 : Hid (∀ w', Chg none_ x4 w' → w'.rangeAt g4 0 (cellsF f sa ra) ∧ w'.rangeAt g4 24 (cellsF g ss rs)) := Lib.hid (fun w' hc => by
                obtain ⟨b, o, hA, hb, _, hcell⟩ := HVW.out.2 (by omega)
                injection hA with hA
                injection hA with hb1 ho1
                subst hb1 ho1
                refine ⟨fun j v hv => ?_, fun j v hv => ?_⟩
                · have hj : j < 24 := by
                    have := (List.getElem?_eq_some_iff.1 hv).1
                    rwa [HL1.out] at this
                  have h1 := hcell j (by omega)
                  rw [List.getElem?_append_left (by rw [HL1.out]; exact hj)] at h1
                  exact ((hc.cell _ hb (fun h => h)).trans h1).trans hv
                · have hj : j < 24 := by
                    have := (List.getElem?_eq_some_iff.1 hv).1
                    rwa [HL2.out] at this
                  have h1 := hcell (24 + j) (by omega)
                  rw [List.getElem?_append_right (by rw [HL1.out]; omega), HL1.out, Nat.add_sub_cancel_left, Nat.zero_add] at h1
                  exact ((hc.cell _ hb (fun h => h)).trans h1).trans hv)
              have HSA : Hid (∀ w', Chg none_ x4 w' → Calls Tryd.prog 15 #[.agg (cellsF f sa ra).toArray, .agg (cellsF f sd sr).toArray] w' fun e w'' => e = .returned (.bool true) ∧ Chg none_ w' w'') := Lib.hid (fun w' hc => by
                have := sameF_any f f sa ra sd sr w' _ _ (HD1.out.chg hc (fun _ _ h => h)) (HDF.out.chg (HWX.out _ (HZ.out.trans hc)) (fun _ _ h => h)) HOF.out HOF.out
                rwa [decide_eq_true rfl] at this)
              have HSG : Hid (∀ w', Chg none_ x4 w' → Calls Tryd.prog 15 #[.agg (cellsF g ss rs).toArray, .agg (cellsF g td tr).toArray] w' fun e w'' => e = .returned (.bool true) ∧ Chg none_ w' w'') := Lib.hid (fun w' hc => by
                have := sameF_any g g ss rs td tr w' _ _ (HD2.out.chg hc (fun _ _ h => h)) (HDG.out.chg (HWX.out _ (HZ.out.trans hc)) (fun _ _ h => h)) HOG.out HOG.out
                rwa [decide_eq_true rfl] at this)
              have HRX := Lib.hid (show ∀ x, Chg none_ x4 x → Row x w.heap.size 27 (cellsF f sd sr) ∧ Row x w1.heap.size 27 (cellsF g td tr) from fun x hx => HRX.out x (HZ.out.trans hx))
              clear hfs hbase hL hcx4 hz hzz hcx1 hcx2 ho1 ho3 hg3 hv2 hv3 HPR HPA HPF HPG hk1 hk2
              go_wp2
              refine wp_region_held_drew (S := fun x => Chg none_ x4 x) (by kernel_rfl) ((Chg.refl none_ x4).drew) (fun hch0 => ?_)
              have hz : Chg none_ x4 x4.drew := (Chg.refl none_ x4).drew
              generalize x4.drew = wy at hz ⊢
              clear hch0
              refine wpAnyH_take (i := 0) (v := .int .i64 0) rfl (by kernel_rfl) (by kernel_rfl) (by kernel_rfl) (by first | exact fun _ _ _ h => h | exact fun _ _ _ h => nomatch h.1) (Or.inl ⟨by rfl, fun w_ hw_ => by go_simp⟩) hz ?_
              try simp only [Act.put, List.setIfInBounds_toArray, List.set_cons_zero, List.set_cons_succ, List.getElem_toArray, List.getElem_cons_zero]
              refine wpAnyH_take (i := 1) (v := .bool true) rfl (by kernel_rfl) (by kernel_rfl) (by kernel_rfl) (by first | exact fun _ _ _ h => h | exact fun _ _ _ h => nomatch h.1) (Or.inl ⟨by rfl, fun w_ hw_ => by go_simp⟩) hz ?_
              try simp only [Act.put, List.setIfInBounds_toArray, List.set_cons_zero, List.set_cons_succ, List.getElem_toArray, List.getElem_cons_succ, List.getElem_cons_zero]
              refine wpAnyH_take (i := 2) (v := .bool true) rfl (by kernel_rfl) (by kernel_rfl) (by kernel_rfl) (by first | exact fun _ _ _ h => h | exact fun _ _ _ h => nomatch h.1) (Or.inl ⟨by rfl, fun w_ hw_ => by go_simp⟩) hz ?_
              try simp only [Act.put, List.setIfInBounds_toArray, List.set_cons_zero, List.set_cons_succ, List.getElem_toArray, List.getElem_cons_succ, List.getElem_cons_zero]
              refine wpAnyH_take (i := 3) (v := .slice (some ⟨g4, 0, none⟩) 2 cap4) rfl (by kernel_rfl) (by kernel_rfl) (by kernel_rfl) (by first | exact fun _ _ _ h => h | exact fun _ _ _ h => nomatch h.1) (Or.inl ⟨by rfl, fun w_ hw_ => by go_simp⟩) hz ?_
              try simp only [Act.put, List.setIfInBounds_toArray, List.set_cons_zero, List.set_cons_succ, List.getElem_toArray, List.getElem_cons_succ, List.getElem_cons_zero]
              refine wpAnyH_take (i := 4) (v := .int .i64 2) rfl (by kernel_rfl) (by kernel_rfl) (by kernel_rfl) (by first | exact fun _ _ _ h => h | exact fun _ _ _ h => nomatch h.1) (Or.inl ⟨by rfl, fun w_ hw_ => by go_simp⟩) hz ?_
              try simp only [Act.put, List.setIfInBounds_toArray, List.set_cons_zero, List.set_cons_succ, List.getElem_toArray, List.getElem_cons_succ, List.getElem_cons_zero]
              refine wpAnyH_take (i := 5) (v := .bool true) rfl (by kernel_rfl) (by kernel_rfl) (by kernel_rfl) (by first | exact fun _ _ _ h => h | exact fun _ _ _ h => nomatch h.1) (Or.inl ⟨by rfl, fun w_ hw_ => by go_simp⟩) hz ?_
              try simp only [Act.put, List.setIfInBounds_toArray, List.set_cons_zero, List.set_cons_succ, List.getElem_toArray, List.getElem_cons_succ, List.getElem_cons_zero]
              refine wpAnyH_take (i := 6) (v := .bool true) rfl (by kernel_rfl) (by kernel_rfl) (by kernel_rfl) (by first | exact fun _ _ _ h => h | exact fun _ _ _ h => nomatch h.1) (Or.inl ⟨by rfl, fun w_ hw_ => by go_simp⟩) hz ?_
              try simp only [Act.put, List.setIfInBounds_toArray, List.set_cons_zero, List.set_cons_succ, List.getElem_toArray, List.getElem_cons_succ, List.getElem_cons_zero]
              refine wpAnyH_take (i := 7) (v := .bool true) rfl (by kernel_rfl) (by kernel_rfl) (by kernel_rfl) (by first | exact fun _ _ _ h => h | exact fun _ _ _ h => nomatch h.1) (Or.inl ⟨by rfl, fun w_ hw_ => by go_simp⟩) hz ?_
              try simp only [Act.put, List.setIfInBounds_toArray, List.set_cons_zero, List.set_cons_succ, List.getElem_toArray, List.getElem_cons_succ, List.getElem_cons_zero]
              refine wpAnyH_take (i := 8) (v := .slice (some ⟨g4, 0, none⟩) 2 cap4) rfl (by kernel_rfl) (by kernel_rfl) (by kernel_rfl) (by first | exact fun _ _ _ h => h | exact fun _ _ _ h => nomatch h.1) (Or.inl ⟨by rfl, fun w_ hw_ => by go_simp⟩) hz ?_
              try simp only [Act.put, List.setIfInBounds_toArray, List.set_cons_zero, List.set_cons_succ, List.getElem_toArray, List.getElem_cons_succ, List.getElem_cons_zero]
              refine wpAnyH_take (i := 9) (v := .pointer (some ⟨g4, 0, none⟩)) rfl (by kernel_rfl) (by kernel_rfl) (by kernel_rfl) (by first | exact fun _ _ _ h => h | exact fun _ _ _ h => nomatch h.1) (Or.inl ⟨by rfl, fun w_ hw_ => by go_simp⟩) hz ?_
              try simp only [Act.put, List.setIfInBounds_toArray, List.set_cons_zero, List.set_cons_succ, List.getElem_toArray, List.getElem_cons_succ, List.getElem_cons_zero]
              refine wpAnyH_take (i := 10) (v := .agg (cellsF f sa ra).toArray) rfl (by kernel_rfl) (by kernel_rfl) (by kernel_rfl) (by first | exact fun _ _ _ h => h | exact fun _ _ _ h => nomatch h.1) (yieldsIf_load_mid (by rfl) 27 _ rfl g4 0 rfl (cellsF f sa ra) _ (fun x hx => (HG0.out x hx).1) Tryd.underlying27 rfl (by rw [HL1.out]; exact size27)) hz ?_
              try simp only [Act.put, List.setIfInBounds_toArray, List.set_cons_zero, List.set_cons_succ, List.getElem_toArray, List.getElem_cons_succ, List.getElem_cons_zero]
              refine wpAnyH_take (i := 11) (v := .agg (cellsF f sd sr).toArray) rfl (by kernel_rfl) (by kernel_rfl) (by kernel_rfl) (by first | exact fun _ _ _ h => h | exact fun _ _ _ h => nomatch h.1) (yieldsIf_load_mid (by rfl) 27 _ rfl w.heap.size 0 rfl (cellsF f sd sr) _ (fun x hx => (HRX.out x hx).1.rangeMid 0 _ (fun j v hv => by rw [Nat.zero_add]; exact hv)) Tryd.underlying27 rfl (by rw [cF_len _ _ _ HTF.out]; exact size27)) hz ?_
              try simp only [Act.put, List.setIfInBounds_toArray, List.set_cons_zero, List.set_cons_succ, List.getElem_toArray, List.getElem_cons_succ, List.getElem_cons_zero]
              refine wpAnyH_ready (rs := [12]) (by kernel_rfl) (by simp) ?_
              refine AllReadyH.cons rfl (fun K hK => ?_) AllReadyH.nil
              rw [if_pos (by rfl)]
              try simp only [List.getElem_toArray, List.getElem_cons_succ, List.getElem_cons_zero]
              go_simp
              refine (HSA.out _ hz).mono ?_
              rintro e y1 ⟨rfl, hcx⟩
              have hz := hz.trans hcx
              refine hK.out _ _ hz (fun _ => ?_)
              clear hK K hcx
              try simp only [Act.put, List.setIfInBounds_toArray, List.set_cons_zero, List.set_cons_succ, List.getElem_toArray, List.getElem_cons_succ, List.getElem_cons_zero]
              refine wpAnyH_take (i := 13) (v := .bool true) rfl (by kernel_rfl) (by kernel_rfl) (by kernel_rfl) (by first | exact fun _ _ _ h => h | exact fun _ _ _ h => nomatch h.1) (Or.inl ⟨by rfl, fun w_ hw_ => by go_simp⟩) hz ?_
              try simp only [Act.put, List.setIfInBounds_toArray, List.set_cons_zero, List.set_cons_succ, List.getElem_toArray, List.getElem_cons_succ, List.getElem_cons_zero]
              refine wpAnyH_take (i := 14) (v := .bool true) rfl (by kernel_rfl) (by kernel_rfl) (by kernel_rfl) (by first | exact fun _ _ _ h => h | exact fun _ _ _ h => nomatch h.1) (Or.inl ⟨by rfl, fun w_ hw_ => by go_simp⟩) hz ?_
              try simp only [Act.put, List.setIfInBounds_toArray, List.set_cons_zero, List.set_cons_succ, List.getElem_toArray, List.getElem_cons_succ, List.getElem_cons_zero]
              refine wpAnyH_take (i := 15) (v := .slice (some ⟨g4, 0, none⟩) 2 cap4) rfl (by kernel_rfl) (by kernel_rfl) (by kernel_rfl) (by first | exact fun _ _ _ h => h | exact fun _ _ _ h => nomatch h.1) (Or.inl ⟨by rfl, fun w_ hw_ => by go_simp⟩) hz ?_
              try simp only [Act.put, List.setIfInBounds_toArray, List.set_cons_zero, List.set_cons_succ, List.getElem_toArray, List.getElem_cons_succ, List.getElem_cons_zero]
              refine wpAnyH_take (i := 16) (v := .pointer (some ⟨g4, 24, none⟩)) rfl (by kernel_rfl) (by kernel_rfl) (by kernel_rfl) (by first | exact fun _ _ _ h => h | exact fun _ _ _ h => nomatch h.1) (Or.inl ⟨by rfl, fun w_ hw_ => by go_simp⟩) hz ?_
              try simp only [Act.put, List.setIfInBounds_toArray, List.set_cons_zero, List.set_cons_succ, List.getElem_toArray, List.getElem_cons_succ, List.getElem_cons_zero]
              refine wpAnyH_take (i := 17) (v := .agg (cellsF g ss rs).toArray) rfl (by kernel_rfl) (by kernel_rfl) (by kernel_rfl) (by first | exact fun _ _ _ h => h | exact fun _ _ _ h => nomatch h.1) (yieldsIf_load_mid (by rfl) 27 _ rfl g4 24 rfl (cellsF g ss rs) _ (fun x hx => (HG0.out x hx).2) Tryd.underlying27 rfl (by rw [HL2.out]; exact size27)) hz ?_
              try simp only [Act.put, List.setIfInBounds_toArray, List.set_cons_zero, List.set_cons_succ, List.getElem_toArray, List.getElem_cons_succ, List.getElem_cons_zero]
              refine wpAnyH_take (i := 18) (v := .agg (cellsF g td tr).toArray) rfl (by kernel_rfl) (by kernel_rfl) (by kernel_rfl) (by first | exact fun _ _ _ h => h | exact fun _ _ _ h => nomatch h.1) (yieldsIf_load_mid (by rfl) 27 _ rfl w1.heap.size 0 rfl (cellsF g td tr) _ (fun x hx => (HRX.out x hx).2.rangeMid 0 _ (fun j v hv => by rw [Nat.zero_add]; exact hv)) Tryd.underlying27 rfl (by rw [cF_len _ _ _ HTG.out]; exact size27)) hz ?_
              try simp only [Act.put, List.setIfInBounds_toArray, List.set_cons_zero, List.set_cons_succ, List.getElem_toArray, List.getElem_cons_succ, List.getElem_cons_zero]
              refine wpAnyH_ready (rs := [19]) (by kernel_rfl) (by simp) ?_
              refine AllReadyH.cons rfl (fun K hK => ?_) AllReadyH.nil
              rw [if_pos (by rfl)]
              try simp only [List.getElem_toArray, List.getElem_cons_succ, List.getElem_cons_zero]
              go_simp
              refine (HSG.out _ hz).mono ?_
              rintro e y2 ⟨rfl, hcx⟩
              have hz := hz.trans hcx
              refine hK.out _ _ hz (fun _ => ?_)
              clear hK K hcx
              try simp only [Act.put, List.setIfInBounds_toArray, List.set_cons_zero, List.set_cons_succ, List.getElem_toArray, List.getElem_cons_succ, List.getElem_cons_zero]
              refine wpAnyH_take (i := 20) (v := .bool true) rfl (by kernel_rfl) (by kernel_rfl) (by kernel_rfl) (by first | exact fun _ _ _ h => h | exact fun _ _ _ h => nomatch h.1) (Or.inl ⟨by rfl, fun w_ hw_ => by go_simp⟩) hz ?_
              try simp only [Act.put, List.setIfInBounds_toArray, List.set_cons_zero, List.set_cons_succ, List.getElem_toArray, List.getElem_cons_succ, List.getElem_cons_zero]
              refine wpAnyH_take (i := 21) (v := .bool true) rfl (by kernel_rfl) (by kernel_rfl) (by kernel_rfl) (by first | exact fun _ _ _ h => h | exact fun _ _ _ h => nomatch h.1) (Or.inl ⟨by rfl, fun w_ hw_ => by go_simp⟩) hz ?_
              try simp only [Act.put, List.setIfInBounds_toArray, List.set_cons_zero, List.set_cons_succ, List.getElem_toArray, List.getElem_cons_succ, List.getElem_cons_zero]
              refine wpAnyH_done (by kernel_rfl) ?_ _
              go_wp2
              go_ret
              exact ⟨rfl, HWX.out _ (HZ.out.trans hz)⟩
            · go_enter Tryd.func4, Tryd.ntmps4
              go_wp2_with (first | ((with_reducible show wpList _ _ _ (⟨some 2, .box _ _, _, _, _, _⟩ :: _) _ _); refine wpList_box_Row rfl rfl (cellsF f sd sr) rfl ?_; intro w1 hr1 hc1 hs1; have HR1 := Lib.hid hr1; have HC1 := Lib.hid hc1; have HS1 := Lib.hid hs1; clear hr1 hc1 hs1) | ((with_reducible show wpList _ _ _ (⟨some 3, .box _ _, _, _, _, _⟩ :: _) _ _); refine wpList_box_Row rfl rfl (cellsF g td tr) rfl ?_; intro w2 hr2 hc2 hs2; have HRW := Lib.hid (show ∀ w', Chg none_ w2 w' → Row w' w.heap.size 27 (cellsF f sd sr) ∧ Row w' w1.heap.size 27 (cellsF g td tr) from fun w' hc => ⟨(HR1.out.chg hc2 (fun h => h)).chg hc (fun h => h), hr2.chg hc (fun h => h)⟩); have HC := Lib.hid (Chg.refl none_ w2); have HW2 := Lib.hid (HC1.out.trans hc2); clear hr2 hc2 hs2 HR1) | (go_at_call 8; refine (alive_any _ (HT.out.chg (HW2.out.trans HC.out) (fun h => h))).mono ?_; rintro e w3 ⟨rfl, hc⟩; have HC := Lib.hid (HC.out.trans hc); clear hc) | ((with_reducible show wpList _ _ _ (⟨some 9, .load _ _, _, _, _, _⟩ :: _) _ _); refine wpList_load_Row (cs := cellsF f sd sr) rfl rfl rfl (HRW.out _ HC.out).1 Tryd.underlying27 rfl (by rw [cF_len _ _ _ HTF.out]; exact size27) ?_) | (go_at_call 9; (with_reducible show Calls _ _ #[.agg (cellsF f sd sr).toArray] _ _); refine (HGF.out _ (HW2.out.trans HC.out)).mono ?_; rintro e w4 ⟨rfl, hc⟩; have HC := Lib.hid (HC.out.trans hc); clear hc) | ((with_reducible show wpList _ _ _ (⟨some 12, .load _ _, _, _, _, _⟩ :: _) _ _); refine wpList_load_Row (cs := cellsF g td tr) rfl rfl rfl (HRW.out _ HC.out).2 Tryd.underlying27 rfl (by rw [cF_len _ _ _ HTG.out]; exact size27) ?_) | (go_at_call 9; (with_reducible show Calls _ _ #[.agg (cellsF g td tr).toArray] _ _); refine (HGG.out _ (HW2.out.trans HC.out)).mono ?_; rintro e w5 ⟨rfl, hc⟩; have HC := Lib.hid (HC.out.trans hc); clear hc) | ((with_reducible show wpList _ _ _ (⟨some 16, .load _ _, _, _, _, _⟩ :: _) _ _); refine wpList_load_Row (cs := cellsF f sd sr) rfl rfl rfl (HRW.out _ HC.out).1 Tryd.underlying27 rfl (by rw [cF_len _ _ _ HTF.out]; exact size27) ?_) | (go_at_call 10; (with_reducible show Calls _ _ #[.agg (cellsF f sd sr).toArray] _ _); refine (HRF.out _ (HW2.out.trans HC.out)).mono ?_; rintro e w6 ⟨rfl, hc⟩; have HC := Lib.hid (HC.out.trans hc); clear hc) | ((with_reducible show wpList _ _ _ (⟨some 21, .load _ _, _, _, _, _⟩ :: _) _ _); refine wpList_load_Row (cs := cellsF g td tr) rfl rfl rfl (HRW.out _ HC.out).2 Tryd.underlying27 rfl (by rw [cF_len _ _ _ HTG.out]; exact size27) ?_) | (go_at_call 10; (with_reducible show Calls _ _ #[.agg (cellsF g td tr).toArray] _ _); refine (HRG.out _ (HW2.out.trans HC.out)).mono ?_; rintro e w7 ⟨rfl, hc⟩; have HC := Lib.hid (HC.out.trans hc); clear hc; have hk1 := ((HRW.out _ HC.out).1.cell 0).trans HC0.out; have hk2 := ((HRW.out _ HC.out).2.cell 0).trans HD0.out))
              have HRX := Lib.hid (show ∀ x, Chg none_ w7 x → Row x w.heap.size 27 (cellsF f sd sr) ∧ Row x w1.heap.size 27 (cellsF g td tr) from fun x hx => HRW.out x (HC.out.trans hx))
              have HWX := Lib.hid (show ∀ x, Chg none_ w7 x → Chg none_ w x from fun x hx => (HW2.out.trans HC.out).trans hx)
              obtain ⟨i0, hi, hz0, hz1, hz2⟩ := info_parts info5
              refine wp_region_held_drew (S := fun x => Chg none_ w7 x) (by kernel_rfl) ((Chg.refl none_ w7).drew) (fun hch0 => ?_)
              have hz : Chg none_ w7 w7.drew := (Chg.refl none_ w7).drew
              generalize w7.drew = wz at hz ⊢
              clear hch0
              refine wpAnyH_take (i := 0) (v := .agg (cellsF f sd sr).toArray) rfl (by kernel_rfl) (by kernel_rfl) (by kernel_rfl) (by first | exact fun _ _ _ h => h | exact fun _ _ _ h => nomatch h.1) (yieldsIf_load_mid (by rfl) 27 _ rfl w.heap.size 0 rfl (cellsF f sd sr) _ (fun x hx => (HRX.out x hx).1.rangeMid 0 _ (fun j v hv => by rw [Nat.zero_add]; exact hv)) Tryd.underlying27 rfl (by rw [cF_len _ _ _ HTF.out]; exact size27)) hz ?_
              try simp only [Act.put, List.setIfInBounds_toArray, List.set_cons_zero, List.set_cons_succ, List.getElem_toArray, List.getElem_cons_zero]
              refine wpAnyH_take (i := 2) (v := .agg (cellsF g td tr).toArray) rfl (by kernel_rfl) (by kernel_rfl) (by kernel_rfl) (by first | exact fun _ _ _ h => h | exact fun _ _ _ h => nomatch h.1) (yieldsIf_load_mid (by rfl) 27 _ rfl w1.heap.size 0 rfl (cellsF g td tr) _ (fun x hx => (HRX.out x hx).2.rangeMid 0 _ (fun j v hv => by rw [Nat.zero_add]; exact hv)) Tryd.underlying27 rfl (by rw [cF_len _ _ _ HTG.out]; exact size27)) hz ?_
              try simp only [Act.put, List.setIfInBounds_toArray, List.set_cons_zero, List.set_cons_succ, List.getElem_toArray, List.getElem_cons_succ, List.getElem_cons_zero]
              refine wpAnyH_ready (rs := [1]) (by kernel_rfl) (by simp) ?_
              refine AllReadyH.cons rfl (fun K hK => ?_) AllReadyH.nil
              rw [if_pos (by rfl)]
              try simp only [List.getElem_toArray, List.getElem_cons_succ, List.getElem_cons_zero]
              go_simp
              refine (HPF.out _ (HWX.out _ hz)).mono ?_
              rintro e x1 ⟨v1, rfl, ho1, hcx1⟩
              have hzz := hz
              have hz := hz.trans hcx1
              refine hK.out _ _ hz (fun _ => ?_)
              clear hK K
              try simp only [Act.put, List.setIfInBounds_toArray, List.set_cons_zero, List.set_cons_succ, List.getElem_toArray, List.getElem_cons_succ, List.getElem_cons_zero]
              refine wpAnyH_ready (rs := [3]) (by kernel_rfl) (by simp) ?_
              refine AllReadyH.cons rfl (fun K hK => ?_) AllReadyH.nil
              rw [if_pos (by rfl)]
              try simp only [List.getElem_toArray, List.getElem_cons_succ, List.getElem_cons_zero]
              go_simp
              refine (HPG.out _ (HWX.out _ hz)).mono ?_
              rintro e x2 ⟨A2, c2, rfl, hv2, hcx2⟩
              have hz := hz.trans hcx2
              refine hK.out _ _ hz (fun _ => ?_)
              clear hK K
              try simp only [Act.put, List.setIfInBounds_toArray, List.set_cons_zero, List.set_cons_succ, List.getElem_toArray, List.getElem_cons_succ, List.getElem_cons_zero]
              refine wpAnyH_ready (rs := [4]) (by kernel_rfl) (by simp) ?_
              refine AllReadyH.cons rfl (fun K hK => ?_) AllReadyH.nil
              rw [if_pos (by rfl)]
              try simp only [List.getElem_toArray, List.getElem_cons_succ, List.getElem_cons_zero]
              refine wp_append_view (.tmp 35) (.tmp 37) 23 rfl 5 i0 _ 1 Tryd.underlying23 hi hz0 hz1 hz2 rfl wz.heap.size v1 (putM f).length (u8s (putM f)) rfl (ownsRow_chg ho1 hcx2) _ A2 (putM g).length c2 (u8s (putM g)) rfl hv2 (u8s_one _) (by have := HSM.out; unfold maxLen; omega) (by have := HSM.out; omega) (Nat.le_trans hcx1.size hcx2.size) ?_
              intro v3 x3 ho3 hg3 _
              have hz : Chg none_ w7 x3 := hz.grown hg3 (fun k hk hlt => by have := (ho1.lt k hk).1; have := hzz.size; omega)
              refine hK.out _ _ hz (fun _ => ?_)
              clear hK K
              try simp only [Act.put, List.setIfInBounds_toArray, List.set_cons_zero, List.set_cons_succ]
              obtain ⟨A3, c3, rfl, _, _, hv3⟩ := View.own (T := fun b => True) ho3 (fun _ _ => trivial)
              have HPR := Lib.hid (HPA.out x3 (fun _ => True) A3 c3 (by rw [List.length_append, ← u8s_append]; exact hv3))
              rw [List.length_append] at HPR
              refine wpAnyH_ready (rs := [5]) (by kernel_rfl) (by simp) ?_
              refine AllReadyH.cons rfl (fun K hK => ?_) AllReadyH.nil
              rw [if_pos (by rfl)]
              try simp only [List.getElem_toArray, List.getElem_cons_succ, List.getElem_cons_zero]
              go_simp
              refine (HPR.out).mono ?_
              rintro e x4 ⟨v4, L, base, T4, rfl, hfs, hbase, hL, hcx4⟩
              have hz := hz.trans hcx4
              refine hK.out _ _ hz (fun _ => ?_)
              clear hK K
              refine wpAnyH_take (i := 6) (v := .tuple #[v4, .int .i64 0]) rfl (by kernel_rfl) (by kernel_rfl) (by kernel_rfl) (by first | exact fun _ _ _ h => h | exact fun _ _ _ h => nomatch h.1) (Or.inl ⟨by rfl, fun w_ hw_ => by go_simp⟩) hz ?_
              try simp only [Act.put, List.setIfInBounds_toArray, List.set_cons_zero, List.set_cons_succ, List.getElem_toArray, List.getElem_cons_succ, List.getElem_cons_zero]
              refine wpAnyH_take (i := 7) (v := v4) rfl (by kernel_rfl) (by kernel_rfl) (by kernel_rfl) (by first | exact fun _ _ _ h => h | exact fun _ _ _ h => nomatch h.1) (Or.inl ⟨by rfl, fun w_ hw_ => by go_simp⟩) hz ?_
              try simp only [Act.put, List.setIfInBounds_toArray, List.set_cons_zero, List.set_cons_succ, List.getElem_toArray, List.getElem_cons_succ, List.getElem_cons_zero]
              refine wpAnyH_take (i := 8) (v := .int .i64 0) rfl (by kernel_rfl) (by kernel_rfl) (by kernel_rfl) (by first | exact fun _ _ _ h => h | exact fun _ _ _ h => nomatch h.1) (Or.inl ⟨by rfl, fun w_ hw_ => by go_simp⟩) hz ?_
              try simp only [Act.put, List.setIfInBounds_toArray, List.set_cons_zero, List.set_cons_succ, List.getElem_toArray, List.getElem_cons_succ, List.getElem_cons_zero]
              refine wpAnyH_take (i := 9) (v := v4) rfl (by kernel_rfl) (by kernel_rfl) (by kernel_rfl) (by first | exact fun _ _ _ h => h | exact fun _ _ _ h => nomatch h.1) (Or.inl ⟨by rfl, fun w_ hw_ => by go_simp⟩) hz ?_
              try simp only [Act.put, List.setIfInBounds_toArray, List.set_cons_zero, List.set_cons_succ, List.getElem_toArray, List.getElem_cons_succ, List.getElem_cons_zero]
              refine wpAnyH_take (i := 10) (v := .int .i64 0) rfl (by kernel_rfl) (by kernel_rfl) (by kernel_rfl) (by first | exact fun _ _ _ h => h | exact fun _ _ _ h => nomatch h.1) (Or.inl ⟨by rfl, fun w_ hw_ => by go_simp⟩) hz ?_
              try simp only [Act.put, List.setIfInBounds_toArray, List.set_cons_zero, List.set_cons_succ, List.getElem_toArray, List.getElem_cons_succ, List.getElem_cons_zero]
              refine wpAnyH_done (by kernel_rfl) ?_ _
              obtain ⟨sa, ra, ss, rs, rfl⟩ : ∃ sa ra ss rs, L = [(f, sa, ra), (g, ss, rs)] := by
                rcases L with _ | ⟨⟨f1, a1, b1⟩, _ | ⟨⟨f2, a2, b2⟩, _ | ⟨y, L⟩⟩⟩
                · cases hL
                · cases hL
                · simp only [List.map_cons, List.map_nil, List.cons.injEq, and_true] at hL
                  obtain ⟨rfl, rfl⟩ := hL
                  exact ⟨_, _, _, _, rfl⟩
                · simp at hL
              have HD1 : Hid (FrD x4 T4 f sa ra) := Lib.hid (hfs.at_ (f, sa, ra) (by simp))
              have HD2 : Hid (FrD x4 T4 g ss rs) := Lib.hid (hfs.at_ (g, ss, rs) (by simp))
              obtain ⟨g4, cap4, rfl, HVW⟩ : ∃ g4 cap, v4 = .slice (some ⟨g4, 0, none⟩) 2 cap ∧ Hid (View x4 (fun _ => True) (some ⟨g4, 0, none⟩) 48 (cellsF f sa ra ++ cellsF g ss rs)) := by
                obtain ⟨A, cap, h1, _, _, h4⟩ := view_ownN hfs.own
                rcases hfs.own.2 with ⟨h2, _⟩ | ⟨g4, cap2, cur, h2, _⟩
                · rw [h1] at h2; cases h2
                · rw [h1] at h2
                  simp only [Value.slice.injEq] at h2
                  obtain ⟨rfl, _, rfl⟩ := h2
                  refine ⟨g4, cap, h1, Lib.hid ?_⟩
                  have h5 : View x4 _ (some ⟨g4, 0, none⟩) (2 * 24) (fcellsL [(f, sa, ra), (g, ss, rs)]) := h4
                  have h6 : fcellsL [(f, sa, ra), (g, ss, rs)] = cellsF f sa ra ++ cellsF g ss rs := by simp [fcellsL]
                  rw [h6] at h5
                  exact h5.mono (fun _ _ _ => trivial)
              have HZ := Lib.hid hz
              have HL1 : Hid ((cellsF f sa ra).length = 24) := Lib.hid (cF_len _ _ _ HTF.out)
              have HL2 : Hid ((cellsF g ss rs).length = 24) := Lib.hid (cF_len _ _ _ HTG.out)
              have HG0 : Hid (∀ w', Chg none_ x4 w' → w'.rangeAt g4 0 (cellsF f sa ra) ∧ w'.rangeAt g4 24 (cellsF g ss rs)) := Lib.hid (fun w' hc => by
                obtain ⟨b, o, hA, hb, _, hcell⟩ := HVW.out.2 (by omega)
                injection hA with hA
                injection hA with hb1 ho1
                subst hb1 ho1
                refine ⟨fun j v hv => ?_, fun j v hv => ?_⟩
                · have hj : j < 24 := by
                    have := (List.getElem?_eq_some_iff.1 hv).1
                    rwa [HL1.out] at this
                  have h1 := hcell j (by omega)
                  rw [List.getElem?_append_left (by rw [HL1.out]; exact hj)] at h1
                  exact ((hc.cell _ hb (fun h => h)).trans h1).trans hv
                · have hj : j < 24 := by
                    have := (List.getElem?_eq_some_iff.1 hv).1
                    rwa [HL2.out] at this
                  have h1 := hcell (24 + j) (by omega)
                  rw [List.getElem?_append_right (by rw [HL1.out]; omega), HL1.out, Nat.add_sub_cancel_left, Nat.zero_add] at h1
                  exact ((hc.cell _ hb (fun h => h)).trans h1).trans hv)
              have HSA : Hid (∀ w', Chg none_ x4 w' → Calls Tryd.prog 15 #[.agg (cellsF f sa ra).toArray, .agg (cellsF f sd sr).toArray] w' fun e w'' => e = .returned (.bool true) ∧ Chg none_ w' w'') := Lib.hid (fun w' hc => by
                have := sameF_any f f sa ra sd sr w' _ _ (HD1.out.chg hc (fun _ _ h => h)) (HDF.out.chg (HWX.out _ (HZ.out.trans hc)) (fun _ _ h => h)) HOF.out HOF.out
                rwa [decide_eq_true rfl] at this)
              have HSG : Hid (∀ w', Chg none_ x4 w' → Calls Tryd.prog 15 #[.agg (cellsF g ss rs).toArray, .agg (cellsF g td tr).toArray] w' fun e w'' => e = .returned (.bool true) ∧ Chg none_ w' w'') := Lib.hid (fun w' hc => by
                have := sameF_any g g ss rs td tr w' _ _ (HD2.out.chg hc (fun _ _ h => h)) (HDG.out.chg (HWX.out _ (HZ.out.trans hc)) (fun _ _ h => h)) HOG.out HOG.out
                rwa [decide_eq_true rfl] at this)
              have HRX := Lib.hid (show ∀ x, Chg none_ x4 x → Row x w.heap.size 27 (cellsF f sd sr) ∧ Row x w1.heap.size 27 (cellsF g td tr) from fun x hx => HRX.out x (HZ.out.trans hx))
              clear hfs hbase hL hcx4 hz hzz hcx1 hcx2 ho1 ho3 hg3 hv2 hv3 HPR HPA HPF HPG hk1 hk2
              go_wp2
              refine wp_region_held_drew (S := fun x => Chg none_ x4 x) (by kernel_rfl) ((Chg.refl none_ x4).drew) (fun hch0 => ?_)
              have hz : Chg none_ x4 x4.drew := (Chg.refl none_ x4).drew
              generalize x4.drew = wy at hz ⊢
              clear hch0
              refine wpAnyH_take (i := 0) (v := .int .i64 0) rfl (by kernel_rfl) (by kernel_rfl) (by kernel_rfl) (by first | exact fun _ _ _ h => h | exact fun _ _ _ h => nomatch h.1) (Or.inl ⟨by rfl, fun w_ hw_ => by go_simp⟩) hz ?_
              try simp only [Act.put, List.setIfInBounds_toArray, List.set_cons_zero, List.set_cons_succ, List.getElem_toArray, List.getElem_cons_zero]
              refine wpAnyH_take (i := 1) (v := .bool true) rfl (by kernel_rfl) (by kernel_rfl) (by kernel_rfl) (by first | exact fun _ _ _ h => h | exact fun _ _ _ h => nomatch h.1) (Or.inl ⟨by rfl, fun w_ hw_ => by go_simp⟩) hz ?_
              try simp only [Act.put, List.setIfInBounds_toArray, List.set_cons_zero, List.set_cons_succ, List.getElem_toArray, List.getElem_cons_succ, List.getElem_cons_zero]
              refine wpAnyH_take (i := 2) (v := .bool true) rfl (by kernel_rfl) (by kernel_rfl) (by kernel_rfl) (by first | exact fun _ _ _ h => h | exact fun _ _ _ h => nomatch h.1) (Or.inl ⟨by rfl, fun w_ hw_ => by go_simp⟩) hz ?_
              try simp only [Act.put, List.setIfInBounds_toArray, List.set_cons_zero, List.set_cons_succ, List.getElem_toArray, List.getElem_cons_succ, List.getElem_cons_zero]
              refine wpAnyH_take (i := 3) (v := .slice (some ⟨g4, 0, none⟩) 2 cap4) rfl (by kernel_rfl) (by kernel_rfl) (by kernel_rfl) (by first | exact fun _ _ _ h => h | exact fun _ _ _ h => nomatch h.1) (Or.inl ⟨by rfl, fun w_ hw_ => by go_simp⟩) hz ?_
              try simp only [Act.put, List.setIfInBounds_toArray, List.set_cons_zero, List.set_cons_succ, List.getElem_toArray, List.getElem_cons_succ, List.getElem_cons_zero]
              refine wpAnyH_take (i := 4) (v := .int .i64 2) rfl (by kernel_rfl) (by kernel_rfl) (by kernel_rfl) (by first | exact fun _ _ _ h => h | exact fun _ _ _ h => nomatch h.1) (Or.inl ⟨by rfl, fun w_ hw_ => by go_simp⟩) hz ?_
              try simp only [Act.put, List.setIfInBounds_toArray, List.set_cons_zero, List.set_cons_succ, List.getElem_toArray, List.getElem_cons_succ, List.getElem_cons_zero]
              refine wpAnyH_take (i := 5) (v := .bool true) rfl (by kernel_rfl) (by kernel_rfl) (by kernel_rfl) (by first | exact fun _ _ _ h => h | exact fun _ _ _ h => nomatch h.1) (Or.inl ⟨by rfl, fun w_ hw_ => by go_simp⟩) hz ?_
              try simp only [Act.put, List.setIfInBounds_toArray, List.set_cons_zero, List.set_cons_succ, List.getElem_toArray, List.getElem_cons_succ, List.getElem_cons_zero]
              refine wpAnyH_take (i := 6) (v := .bool true) rfl (by kernel_rfl) (by kernel_rfl) (by kernel_rfl) (by first | exact fun _ _ _ h => h | exact fun _ _ _ h => nomatch h.1) (Or.inl ⟨by rfl, fun w_ hw_ => by go_simp⟩) hz ?_
              try simp only [Act.put, List.setIfInBounds_toArray, List.set_cons_zero, List.set_cons_succ, List.getElem_toArray, List.getElem_cons_succ, List.getElem_cons_zero]
              refine wpAnyH_take (i := 7) (v := .bool true) rfl (by kernel_rfl) (by kernel_rfl) (by kernel_rfl) (by first | exact fun _ _ _ h => h | exact fun _ _ _ h => nomatch h.1) (Or.inl ⟨by rfl, fun w_ hw_ => by go_simp⟩) hz ?_
              try simp only [Act.put, List.setIfInBounds_toArray, List.set_cons_zero, List.set_cons_succ, List.getElem_toArray, List.getElem_cons_succ, List.getElem_cons_zero]
              refine wpAnyH_take (i := 8) (v := .slice (some ⟨g4, 0, none⟩) 2 cap4) rfl (by kernel_rfl) (by kernel_rfl) (by kernel_rfl) (by first | exact fun _ _ _ h => h | exact fun _ _ _ h => nomatch h.1) (Or.inl ⟨by rfl, fun w_ hw_ => by go_simp⟩) hz ?_
              try simp only [Act.put, List.setIfInBounds_toArray, List.set_cons_zero, List.set_cons_succ, List.getElem_toArray, List.getElem_cons_succ, List.getElem_cons_zero]
              refine wpAnyH_take (i := 9) (v := .pointer (some ⟨g4, 0, none⟩)) rfl (by kernel_rfl) (by kernel_rfl) (by kernel_rfl) (by first | exact fun _ _ _ h => h | exact fun _ _ _ h => nomatch h.1) (Or.inl ⟨by rfl, fun w_ hw_ => by go_simp⟩) hz ?_
              try simp only [Act.put, List.setIfInBounds_toArray, List.set_cons_zero, List.set_cons_succ, List.getElem_toArray, List.getElem_cons_succ, List.getElem_cons_zero]
              refine wpAnyH_take (i := 10) (v := .agg (cellsF f sa ra).toArray) rfl (by kernel_rfl) (by kernel_rfl) (by kernel_rfl) (by first | exact fun _ _ _ h => h | exact fun _ _ _ h => nomatch h.1) (yieldsIf_load_mid (by rfl) 27 _ rfl g4 0 rfl (cellsF f sa ra) _ (fun x hx => (HG0.out x hx).1) Tryd.underlying27 rfl (by rw [HL1.out]; exact size27)) hz ?_
              try simp only [Act.put, List.setIfInBounds_toArray, List.set_cons_zero, List.set_cons_succ, List.getElem_toArray, List.getElem_cons_succ, List.getElem_cons_zero]
              refine wpAnyH_take (i := 11) (v := .agg (cellsF f sd sr).toArray) rfl (by kernel_rfl) (by kernel_rfl) (by kernel_rfl) (by first | exact fun _ _ _ h => h | exact fun _ _ _ h => nomatch h.1) (yieldsIf_load_mid (by rfl) 27 _ rfl w.heap.size 0 rfl (cellsF f sd sr) _ (fun x hx => (HRX.out x hx).1.rangeMid 0 _ (fun j v hv => by rw [Nat.zero_add]; exact hv)) Tryd.underlying27 rfl (by rw [cF_len _ _ _ HTF.out]; exact size27)) hz ?_
              try simp only [Act.put, List.setIfInBounds_toArray, List.set_cons_zero, List.set_cons_succ, List.getElem_toArray, List.getElem_cons_succ, List.getElem_cons_zero]
              refine wpAnyH_ready (rs := [12]) (by kernel_rfl) (by simp) ?_
              refine AllReadyH.cons rfl (fun K hK => ?_) AllReadyH.nil
              rw [if_pos (by rfl)]
              try simp only [List.getElem_toArray, List.getElem_cons_succ, List.getElem_cons_zero]
              go_simp
              refine (HSA.out _ hz).mono ?_
              rintro e y1 ⟨rfl, hcx⟩
              have hz := hz.trans hcx
              refine hK.out _ _ hz (fun _ => ?_)
              clear hK K hcx
              try simp only [Act.put, List.setIfInBounds_toArray, List.set_cons_zero, List.set_cons_succ, List.getElem_toArray, List.getElem_cons_succ, List.getElem_cons_zero]
              refine wpAnyH_take (i := 13) (v := .bool true) rfl (by kernel_rfl) (by kernel_rfl) (by kernel_rfl) (by first | exact fun _ _ _ h => h | exact fun _ _ _ h => nomatch h.1) (Or.inl ⟨by rfl, fun w_ hw_ => by go_simp⟩) hz ?_
              try simp only [Act.put, List.setIfInBounds_toArray, List.set_cons_zero, List.set_cons_succ, List.getElem_toArray, List.getElem_cons_succ, List.getElem_cons_zero]
              refine wpAnyH_take (i := 14) (v := .bool true) rfl (by kernel_rfl) (by kernel_rfl) (by kernel_rfl) (by first | exact fun _ _ _ h => h | exact fun _ _ _ h => nomatch h.1) (Or.inl ⟨by rfl, fun w_ hw_ => by go_simp⟩) hz ?_
              try simp only [Act.put, List.setIfInBounds_toArray, List.set_cons_zero, List.set_cons_succ, List.getElem_toArray, List.getElem_cons_succ, List.getElem_cons_zero]
              refine wpAnyH_take (i := 15) (v := .slice (some ⟨g4, 0, none⟩) 2 cap4) rfl (by kernel_rfl) (by kernel_rfl) (by kernel_rfl) (by first | exact fun _ _ _ h => h | exact fun _ _ _ h => nomatch h.1) (Or.inl ⟨by rfl, fun w_ hw_ => by go_simp⟩) hz ?_
              try simp only [Act.put, List.setIfInBounds_toArray, List.set_cons_zero, List.set_cons_succ, List.getElem_toArray, List.getElem_cons_succ, List.getElem_cons_zero]
              refine wpAnyH_take (i := 16) (v := .pointer (some ⟨g4, 24, none⟩)) rfl (by kernel_rfl) (by kernel_rfl) (by kernel_rfl) (by first | exact fun _ _ _ h => h | exact fun _ _ _ h => nomatch h.1) (Or.inl ⟨by rfl, fun w_ hw_ => by go_simp⟩) hz ?_
              try simp only [Act.put, List.setIfInBounds_toArray, List.set_cons_zero, List.set_cons_succ, List.getElem_toArray, List.getElem_cons_succ, List.getElem_cons_zero]
              refine wpAnyH_take (i := 17) (v := .agg (cellsF g ss rs).toArray) rfl (by kernel_rfl) (by kernel_rfl) (by kernel_rfl) (by first | exact fun _ _ _ h => h | exact fun _ _ _ h => nomatch h.1) (yieldsIf_load_mid (by rfl) 27 _ rfl g4 24 rfl (cellsF g ss rs) _ (fun x hx => (HG0.out x hx).2) Tryd.underlying27 rfl (by rw [HL2.out]; exact size27)) hz ?_
              try simp only [Act.put, List.setIfInBounds_toArray, List.set_cons_zero, List.set_cons_succ, List.getElem_toArray, List.getElem_cons_succ, List.getElem_cons_zero]
              refine wpAnyH_take (i := 18) (v := .agg (cellsF g td tr).toArray) rfl (by kernel_rfl) (by kernel_rfl) (by kernel_rfl) (by first | exact fun _ _ _ h => h | exact fun _ _ _ h => nomatch h.1) (yieldsIf_load_mid (by rfl) 27 _ rfl w1.heap.size 0 rfl (cellsF g td tr) _ (fun x hx => (HRX.out x hx).2.rangeMid 0 _ (fun j v hv => by rw [Nat.zero_add]; exact hv)) Tryd.underlying27 rfl (by rw [cF_len _ _ _ HTG.out]; exact size27)) hz ?_
              try simp only [Act.put, List.setIfInBounds_toArray, List.set_cons_zero, List.set_cons_succ, List.getElem_toArray, List.getElem_cons_succ, List.getElem_cons_zero]
              refine wpAnyH_ready (rs := [19]) (by kernel_rfl) (by simp) ?_
              refine AllReadyH.cons rfl (fun K hK => ?_) AllReadyH.nil
              rw [if_pos (by rfl)]
              try simp only [List.getElem_toArray, List.getElem_cons_succ, List.getElem_cons_zero]
              go_simp
              refine (HSG.out _ hz).mono ?_
              rintro e y2 ⟨rfl, hcx⟩
              have hz := hz.trans hcx
              refine hK.out _ _ hz (fun _ => ?_)
              clear hK K hcx
              try simp only [Act.put, List.setIfInBounds_toArray, List.set_cons_zero, List.set_cons_succ, List.getElem_toArray, List.getElem_cons_succ, List.getElem_cons_zero]
              refine wpAnyH_take (i := 20) (v := .bool true) rfl (by kernel_rfl) (by kernel_rfl) (by kernel_rfl) (by first | exact fun _ _ _ h => h | exact fun _ _ _ h => nomatch h.1) (Or.inl ⟨by rfl, fun w_ hw_ => by go_simp⟩) hz ?_
              try simp only [Act.put, List.setIfInBounds_toArray, List.set_cons_zero, List.set_cons_succ, List.getElem_toArray, List.getElem_cons_succ, List.getElem_cons_zero]
              refine wpAnyH_take (i := 21) (v := .bool true) rfl (by kernel_rfl) (by kernel_rfl) (by kernel_rfl) (by first | exact fun _ _ _ h => h | exact fun _ _ _ h => nomatch h.1) (Or.inl ⟨by rfl, fun w_ hw_ => by go_simp⟩) hz ?_
              try simp only [Act.put, List.setIfInBounds_toArray, List.set_cons_zero, List.set_cons_succ, List.getElem_toArray, List.getElem_cons_succ, List.getElem_cons_zero]
              refine wpAnyH_done (by kernel_rfl) ?_ _
              go_wp2
              go_ret
              exact ⟨rfl, HWX.out _ (HZ.out.trans hz)⟩
end Go.Proofs.YtojlpnklmeeheaaDoor
