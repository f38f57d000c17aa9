/- Layer 3 (frames): laws walked: two right frames have the same bytes just if they are the same. -/
import Derived.Test.YtojlpnklmeeheaaDoorV3Open
import Derived.Test.YtojlpnklmeeheaaDoorV3TwoM
import Derived.Test.YtojlpnklmeeheaaDoorV3Alive
import Derived.Test.YtojlpnklmeeheaaDoorV3PutM
namespace Go.Proofs.YtojlpnklmeeheaaDoor
open Go.RowKit

/-- What two right frames are put to tells them. -/
theorem put_inj {f g : Fr} (of : f.Ok) (og : g.Ok) (tf : f.tok.length = 16) (tg : g.tok.length = 16) (lf : f.data.length ≤ 1000000) (lg : g.data.length ≤ 1000000) (rf : rightB f = true) (rg : rightB g = true) : putM f = putM g ↔ f = g := by
  constructor
  · intro h
    have h1 := next_right of tf lf rf [] (fun _ => Or.inr (by simp))
    have h2 := next_right og tg lg rg [] (fun _ => Or.inr (by simp))
    rw [h, h2] at h1
    exact (congrArg Prod.fst h1).symm
  · intro h; rw [h]

set_option maxRecDepth 100000 in
set_option maxHeartbeats 800000 in
theorem walk_FramesApart (f : Fr) (sd sr : Value) (g : Fr) (td tr : Value) (w : World) (hf : FrIn w f sd sr) (of : f.Ok) (hg : FrIn w g td tr) (og : g.Ok) (hT : Tab w) :
    Calls Tryd.prog 6 #[aggF f sd sr, aggF g td tr] w fun e w' => e = .returned (.bool true) ∧ Chg none_ w w' := by
  have HT := Lib.hid hT
  have HTF := Lib.hid hf.tok
  have HTG := Lib.hid hg.tok
  have HGF : Hid (∀ w', Chg none_ w w' → Calls Tryd.prog 9 #[.agg (cellsF f sd sr).toArray] w' fun e w'' => e = .returned (.bool (greatB f)) ∧ Chg none_ w' w'') := Lib.hid (fun w' hc => Great_any f sd sr w' (hf.chg hc))
  have HGG : Hid (∀ w', Chg none_ w w' → Calls Tryd.prog 9 #[.agg (cellsF g td tr).toArray] w' fun e w'' => e = .returned (.bool (greatB g)) ∧ Chg none_ w' w'') := Lib.hid (fun w' hc => Great_any g td tr w' (hg.chg hc))
  unfold aggF
  cases g1 : greatB f with
  | true =>
    rw [g1] at HGF
    clear hf of hg og hT
    go_enter Tryd.func6, Tryd.ntmps6
    go_wp2_with (first | ((with_reducible show wpList _ _ _ (⟨some 2, .box _ _, _, _, _, _⟩ :: _) _ _); refine wpList_box_Row rfl rfl (cellsF f sd sr) rfl ?_; intro w1 hr1 hc1 hs1; have HR1 := Lib.hid hr1; have HC1 := Lib.hid hc1; have HS1 := Lib.hid hs1; clear hr1 hc1 hs1) | ((with_reducible show wpList _ _ _ (⟨some 3, .box _ _, _, _, _, _⟩ :: _) _ _); refine wpList_box_Row rfl rfl (cellsF g td tr) rfl ?_; intro w2 hr2 hc2 hs2; have HRW := Lib.hid (show ∀ w', Chg none_ w2 w' → Row w' w.heap.size 27 (cellsF f sd sr) ∧ Row w' w1.heap.size 27 (cellsF g td tr) from fun w' hc => ⟨(HR1.out.chg hc2 (fun h => h)).chg hc (fun h => h), hr2.chg hc (fun h => h)⟩); have HC := Lib.hid (Chg.refl none_ w2); have HW2 := Lib.hid (HC1.out.trans hc2); clear hr2 hc2 hs2 HR1) | (go_at_call 8; refine (alive_any _ (HT.out.chg (HW2.out.trans HC.out) (fun h => h))).mono ?_; rintro e w3 ⟨rfl, hc⟩; have HC := Lib.hid (HC.out.trans hc); clear hc) | ((with_reducible show wpList _ _ _ (⟨some 7, .load _ _, _, _, _, _⟩ :: _) _ _); refine wpList_load_Row (cs := cellsF f sd sr) rfl rfl rfl (HRW.out _ HC.out).1 Tryd.underlying27 rfl (by rw [cF_len _ _ _ HTF.out]; exact size27) ?_) | (go_at_call 9; (with_reducible show Calls _ _ #[.agg (cellsF f sd sr).toArray] _ _); refine (HGF.out _ (HW2.out.trans HC.out)).mono ?_; rintro e w4 ⟨rfl, hc⟩; have HC := Lib.hid (HC.out.trans hc); clear hc))
    go_ret
    exact ⟨rfl, HW2.out.trans HC.out⟩
  | false =>
    rw [g1] at HGF
    obtain ⟨df, lf⟩ := hf.small g1
    have HRF : Hid (∀ w', Chg none_ w w' → Calls Tryd.prog 10 #[.agg (cellsF f sd sr).toArray] w' fun e w'' => e = .returned (.bool (rightB f)) ∧ Chg none_ w' w'') := Lib.hid (fun w' hc => Right_any f sd sr w' _ (df.chg hc (fun _ _ h => h)) of)
    cases g2 : greatB g with
    | true =>
      rw [g2] at HGG
      clear hf of hg og hT df lf HRF
      go_enter Tryd.func6, Tryd.ntmps6
      go_wp2_with (first | ((with_reducible show wpList _ _ _ (⟨some 2, .box _ _, _, _, _, _⟩ :: _) _ _); refine wpList_box_Row rfl rfl (cellsF f sd sr) rfl ?_; intro w1 hr1 hc1 hs1; have HR1 := Lib.hid hr1; have HC1 := Lib.hid hc1; have HS1 := Lib.hid hs1; clear hr1 hc1 hs1) | ((with_reducible show wpList _ _ _ (⟨some 3, .box _ _, _, _, _, _⟩ :: _) _ _); refine wpList_box_Row rfl rfl (cellsF g td tr) rfl ?_; intro w2 hr2 hc2 hs2; have HRW := Lib.hid (show ∀ w', Chg none_ w2 w' → Row w' w.heap.size 27 (cellsF f sd sr) ∧ Row w' w1.heap.size 27 (cellsF g td tr) from fun w' hc => ⟨(HR1.out.chg hc2 (fun h => h)).chg hc (fun h => h), hr2.chg hc (fun h => h)⟩); have HC := Lib.hid (Chg.refl none_ w2); have HW2 := Lib.hid (HC1.out.trans hc2); clear hr2 hc2 hs2 HR1) | (go_at_call 8; refine (alive_any _ (HT.out.chg (HW2.out.trans HC.out) (fun h => h))).mono ?_; rintro e w3 ⟨rfl, hc⟩; have HC := Lib.hid (HC.out.trans hc); clear hc) | ((with_reducible show wpList _ _ _ (⟨some 7, .load _ _, _, _, _, _⟩ :: _) _ _); refine wpList_load_Row (cs := cellsF f sd sr) rfl rfl rfl (HRW.out _ HC.out).1 Tryd.underlying27 rfl (by rw [cF_len _ _ _ HTF.out]; exact size27) ?_) | (go_at_call 9; (with_reducible show Calls _ _ #[.agg (cellsF f sd sr).toArray] _ _); refine (HGF.out _ (HW2.out.trans HC.out)).mono ?_; rintro e w4 ⟨rfl, hc⟩; have HC := Lib.hid (HC.out.trans hc); clear hc) | ((with_reducible show wpList _ _ _ (⟨some 10, .load _ _, _, _, _, _⟩ :: _) _ _); refine wpList_load_Row (cs := cellsF g td tr) rfl rfl rfl (HRW.out _ HC.out).2 Tryd.underlying27 rfl (by rw [cF_len _ _ _ HTG.out]; exact size27) ?_) | (go_at_call 9; (with_reducible show Calls _ _ #[.agg (cellsF g td tr).toArray] _ _); refine (HGG.out _ (HW2.out.trans HC.out)).mono ?_; rintro e w5 ⟨rfl, hc⟩; have HC := Lib.hid (HC.out.trans hc); clear hc))
      go_ret
      exact ⟨rfl, HW2.out.trans HC.out⟩
    | false =>
      rw [g2] at HGG
      obtain ⟨dg, lg⟩ := hg.small g2
      have HRG : Hid (∀ w', Chg none_ w w' → Calls Tryd.prog 10 #[.agg (cellsF g td tr).toArray] w' fun e w'' => e = .returned (.bool (rightB g)) ∧ Chg none_ w' w'') := Lib.hid (fun w' hc => Right_any g td tr w' _ (dg.chg hc (fun _ _ h => h)) og)
      cases r1 : rightB f with
      | false =>
        rw [r1] at HRF
        clear hf of hg og hT df lf dg lg HRG
        go_enter Tryd.func6, Tryd.ntmps6
        go_wp2_with (first | ((with_reducible show wpList _ _ _ (⟨some 2, .box _ _, _, _, _, _⟩ :: _) _ _); refine wpList_box_Row rfl rfl (cellsF f sd sr) rfl ?_; intro w1 hr1 hc1 hs1; have HR1 := Lib.hid hr1; have HC1 := Lib.hid hc1; have HS1 := Lib.hid hs1; clear hr1 hc1 hs1) | ((with_reducible show wpList _ _ _ (⟨some 3, .box _ _, _, _, _, _⟩ :: _) _ _); refine wpList_box_Row rfl rfl (cellsF g td tr) rfl ?_; intro w2 hr2 hc2 hs2; have HRW := Lib.hid (show ∀ w', Chg none_ w2 w' → Row w' w.heap.size 27 (cellsF f sd sr) ∧ Row w' w1.heap.size 27 (cellsF g td tr) from fun w' hc => ⟨(HR1.out.chg hc2 (fun h => h)).chg hc (fun h => h), hr2.chg hc (fun h => h)⟩); have HC := Lib.hid (Chg.refl none_ w2); have HW2 := Lib.hid (HC1.out.trans hc2); clear hr2 hc2 hs2 HR1) | (go_at_call 8; refine (alive_any _ (HT.out.chg (HW2.out.trans HC.out) (fun h => h))).mono ?_; rintro e w3 ⟨rfl, hc⟩; have HC := Lib.hid (HC.out.trans hc); clear hc) | ((with_reducible show wpList _ _ _ (⟨some 7, .load _ _, _, _, _, _⟩ :: _) _ _); refine wpList_load_Row (cs := cellsF f sd sr) rfl rfl rfl (HRW.out _ HC.out).1 Tryd.underlying27 rfl (by rw [cF_len _ _ _ HTF.out]; exact size27) ?_) | (go_at_call 9; (with_reducible show Calls _ _ #[.agg (cellsF f sd sr).toArray] _ _); refine (HGF.out _ (HW2.out.trans HC.out)).mono ?_; rintro e w4 ⟨rfl, hc⟩; have HC := Lib.hid (HC.out.trans hc); clear hc) | ((with_reducible show wpList _ _ _ (⟨some 10, .load _ _, _, _, _, _⟩ :: _) _ _); refine wpList_load_Row (cs := cellsF g td tr) rfl rfl rfl (HRW.out _ HC.out).2 Tryd.underlying27 rfl (by rw [cF_len _ _ _ HTG.out]; exact size27) ?_) | (go_at_call 9; (with_reducible show Calls _ _ #[.agg (cellsF g td tr).toArray] _ _); refine (HGG.out _ (HW2.out.trans HC.out)).mono ?_; rintro e w5 ⟨rfl, hc⟩; have HC := Lib.hid (HC.out.trans hc); clear hc) | ((with_reducible show wpList _ _ _ (⟨some 14, .load _ _, _, _, _, _⟩ :: _) _ _); refine wpList_load_Row (cs := cellsF f sd sr) rfl rfl rfl (HRW.out _ HC.out).1 Tryd.underlying27 rfl (by rw [cF_len _ _ _ HTF.out]; exact size27) ?_) | (go_at_call 10; (with_reducible show Calls _ _ #[.agg (cellsF f sd sr).toArray] _ _); refine (HRF.out _ (HW2.out.trans HC.out)).mono ?_; rintro e w6 ⟨rfl, hc⟩; have HC := Lib.hid (HC.out.trans hc); clear hc))
        go_ret
        exact ⟨rfl, HW2.out.trans HC.out⟩
      | true =>
        rw [r1] at HRF
        cases r2 : rightB g with
        | false =>
          rw [r2] at HRG
          clear hf of hg og hT df lf dg lg
          go_enter Tryd.func6, Tryd.ntmps6
          go_wp2_with (first | ((with_reducible show wpList _ _ _ (⟨some 2, .box _ _, _, _, _, _⟩ :: _) _ _); refine wpList_box_Row rfl rfl (cellsF f sd sr) rfl ?_; intro w1 hr1 hc1 hs1; have HR1 := Lib.hid hr1; have HC1 := Lib.hid hc1; have HS1 := Lib.hid hs1; clear hr1 hc1 hs1) | ((with_reducible show wpList _ _ _ (⟨some 3, .box _ _, _, _, _, _⟩ :: _) _ _); refine wpList_box_Row rfl rfl (cellsF g td tr) rfl ?_; intro w2 hr2 hc2 hs2; have HRW := Lib.hid (show ∀ w', Chg none_ w2 w' → Row w' w.heap.size 27 (cellsF f sd sr) ∧ Row w' w1.heap.size 27 (cellsF g td tr) from fun w' hc => ⟨(HR1.out.chg hc2 (fun h => h)).chg hc (fun h => h), hr2.chg hc (fun h => h)⟩); have HC := Lib.hid (Chg.refl none_ w2); have HW2 := Lib.hid (HC1.out.trans hc2); clear hr2 hc2 hs2 HR1) | (go_at_call 8; refine (alive_any _ (HT.out.chg (HW2.out.trans HC.out) (fun h => h))).mono ?_; rintro e w3 ⟨rfl, hc⟩; have HC := Lib.hid (HC.out.trans hc); clear hc) | ((with_reducible show wpList _ _ _ (⟨some 7, .load _ _, _, _, _, _⟩ :: _) _ _); refine wpList_load_Row (cs := cellsF f sd sr) rfl rfl rfl (HRW.out _ HC.out).1 Tryd.underlying27 rfl (by rw [cF_len _ _ _ HTF.out]; exact size27) ?_) | (go_at_call 9; (with_reducible show Calls _ _ #[.agg (cellsF f sd sr).toArray] _ _); refine (HGF.out _ (HW2.out.trans HC.out)).mono ?_; rintro e w4 ⟨rfl, hc⟩; have HC := Lib.hid (HC.out.trans hc); clear hc) | ((with_reducible show wpList _ _ _ (⟨some 10, .load _ _, _, _, _, _⟩ :: _) _ _); refine wpList_load_Row (cs := cellsF g td tr) rfl rfl rfl (HRW.out _ HC.out).2 Tryd.underlying27 rfl (by rw [cF_len _ _ _ HTG.out]; exact size27) ?_) | (go_at_call 9; (with_reducible show Calls _ _ #[.agg (cellsF g td tr).toArray] _ _); refine (HGG.out _ (HW2.out.trans HC.out)).mono ?_; rintro e w5 ⟨rfl, hc⟩; have HC := Lib.hid (HC.out.trans hc); clear hc) | ((with_reducible show wpList _ _ _ (⟨some 14, .load _ _, _, _, _, _⟩ :: _) _ _); refine wpList_load_Row (cs := cellsF f sd sr) rfl rfl rfl (HRW.out _ HC.out).1 Tryd.underlying27 rfl (by rw [cF_len _ _ _ HTF.out]; exact size27) ?_) | (go_at_call 10; (with_reducible show Calls _ _ #[.agg (cellsF f sd sr).toArray] _ _); refine (HRF.out _ (HW2.out.trans HC.out)).mono ?_; rintro e w6 ⟨rfl, hc⟩; have HC := Lib.hid (HC.out.trans hc); clear hc) | ((with_reducible show wpList _ _ _ (⟨some 19, .load _ _, _, _, _, _⟩ :: _) _ _); refine wpList_load_Row (cs := cellsF g td tr) rfl rfl rfl (HRW.out _ HC.out).2 Tryd.underlying27 rfl (by rw [cF_len _ _ _ HTG.out]; exact size27) ?_) | (go_at_call 10; (with_reducible show Calls _ _ #[.agg (cellsF g td tr).toArray] _ _); refine (HRG.out _ (HW2.out.trans HC.out)).mono ?_; rintro e w7 ⟨rfl, hc⟩; have HC := Lib.hid (HC.out.trans hc); clear hc))
          go_ret
          exact ⟨rfl, HW2.out.trans HC.out⟩
        | true =>
          rw [r2] at HRG
          have HPF : Hid (∀ w', Chg none_ w w' → Calls Tryd.prog 13 #[.agg (cellsF f sd sr).toArray] w' (BytesNew w' (putM f))) := Lib.hid (fun w' hc => Put_any f sd sr w' _ (HT.out.chg hc (fun h => h)) (df.chg hc (fun _ _ h => h)) of)
          have HPG : Hid (∀ w', Chg none_ w w' → Calls Tryd.prog 13 #[.agg (cellsF g td tr).toArray] w' (BytesNew w' (putM g))) := Lib.hid (fun w' hc => Put_any g td tr w' _ (HT.out.chg hc (fun h => h)) (dg.chg hc (fun _ _ h => h)) og)
          have HSF : Hid (∀ w', Chg none_ w w' → Calls Tryd.prog 15 #[.agg (cellsF f sd sr).toArray, .agg (cellsF g td tr).toArray] w' fun e w'' => e = .returned (.bool (decide (f = g))) ∧ Chg none_ w' w'') := Lib.hid (fun w' hc => sameF_any f g sd sr td tr w' _ _ (df.chg hc (fun _ _ h => h)) (dg.chg hc (fun _ _ h => h)) of og)
          have HSB : Hid (∀ w' T T' A A' c c', View w' T A (putM f).length (u8s (putM f)) → View w' T' A' (putM g).length (u8s (putM g)) → Calls Tryd.prog 12 #[.slice A (putM f).length c, .slice A' (putM g).length c'] w' fun e w'' => e = .returned (.bool (decide (f = g))) ∧ Chg none_ w' w'') := Lib.hid (fun w' T T' A A' c c' h1 h2 => by
            refine (same_any w' T T' A A' c c' (putM f) (putM g) h1 h2 (putM_small of hf.tok r1)).mono ?_
            rintro e w'' ⟨a, k, rfl⟩
            refine ⟨?_, (Chg.refl none_ w').drewN k⟩
            rw [a, show decide (putM f = putM g) = decide (f = g) from decide_eq_decide.2 (put_inj of og hf.tok hg.tok (by omega) (by omega) r1 r2)])
          clear hf of hg og hT df lf dg lg
          generalize decide (f = g) = same at *
          generalize putM f = pf at *
          generalize putM g = pg at *
          go_enter Tryd.func6, Tryd.ntmps6
          go_wp2_with (first | ((with_reducible show wpList _ _ _ (⟨some 2, .box _ _, _, _, _, _⟩ :: _) _ _); refine wpList_box_Row rfl rfl (cellsF f sd sr) rfl ?_; intro w1 hr1 hc1 hs1; have HR1 := Lib.hid hr1; have HC1 := Lib.hid hc1; have HS1 := Lib.hid hs1; clear hr1 hc1 hs1) | ((with_reducible show wpList _ _ _ (⟨some 3, .box _ _, _, _, _, _⟩ :: _) _ _); refine wpList_box_Row rfl rfl (cellsF g td tr) rfl ?_; intro w2 hr2 hc2 hs2; have HRW := Lib.hid (show ∀ w', Chg none_ w2 w' → Row w' w.heap.size 27 (cellsF f sd sr) ∧ Row w' w1.heap.size 27 (cellsF g td tr) from fun w' hc => ⟨(HR1.out.chg hc2 (fun h => h)).chg hc (fun h => h), hr2.chg hc (fun h => h)⟩); have HC := Lib.hid (Chg.refl none_ w2); have HW2 := Lib.hid (HC1.out.trans hc2); clear hr2 hc2 hs2 HR1) | (go_at_call 8; refine (alive_any _ (HT.out.chg (HW2.out.trans HC.out) (fun h => h))).mono ?_; rintro e w3 ⟨rfl, hc⟩; have HC := Lib.hid (HC.out.trans hc); clear hc) | ((with_reducible show wpList _ _ _ (⟨some 7, .load _ _, _, _, _, _⟩ :: _) _ _); refine wpList_load_Row (cs := cellsF f sd sr) rfl rfl rfl (HRW.out _ HC.out).1 Tryd.underlying27 rfl (by rw [cF_len _ _ _ HTF.out]; exact size27) ?_) | (go_at_call 9; (with_reducible show Calls _ _ #[.agg (cellsF f sd sr).toArray] _ _); refine (HGF.out _ (HW2.out.trans HC.out)).mono ?_; rintro e w4 ⟨rfl, hc⟩; have HC := Lib.hid (HC.out.trans hc); clear hc) | ((with_reducible show wpList _ _ _ (⟨some 10, .load _ _, _, _, _, _⟩ :: _) _ _); refine wpList_load_Row (cs := cellsF g td tr) rfl rfl rfl (HRW.out _ HC.out).2 Tryd.underlying27 rfl (by rw [cF_len _ _ _ HTG.out]; exact size27) ?_) | (go_at_call 9; (with_reducible show Calls _ _ #[.agg (cellsF g td tr).toArray] _ _); refine (HGG.out _ (HW2.out.trans HC.out)).mono ?_; rintro e w5 ⟨rfl, hc⟩; have HC := Lib.hid (HC.out.trans hc); clear hc) | ((with_reducible show wpList _ _ _ (⟨some 14, .load _ _, _, _, _, _⟩ :: _) _ _); refine wpList_load_Row (cs := cellsF f sd sr) rfl rfl rfl (HRW.out _ HC.out).1 Tryd.underlying27 rfl (by rw [cF_len _ _ _ HTF.out]; exact size27) ?_) | (go_at_call 10; (with_reducible show Calls _ _ #[.agg (cellsF f sd sr).toArray] _ _); refine (HRF.out _ (HW2.out.trans HC.out)).mono ?_; rintro e w6 ⟨rfl, hc⟩; have HC := Lib.hid (HC.out.trans hc); clear hc) | ((with_reducible show wpList _ _ _ (⟨some 19, .load _ _, _, _, _, _⟩ :: _) _ _); refine wpList_load_Row (cs := cellsF g td tr) rfl rfl rfl (HRW.out _ HC.out).2 Tryd.underlying27 rfl (by rw [cF_len _ _ _ HTG.out]; exact size27) ?_) | (go_at_call 10; (with_reducible show Calls _ _ #[.agg (cellsF g td tr).toArray] _ _); refine (HRG.out _ (HW2.out.trans HC.out)).mono ?_; rintro e w7 ⟨rfl, hc⟩; have HC := Lib.hid (HC.out.trans hc); clear hc))
          have HRX := Lib.hid (show ∀ x, Chg none_ w7 x → Row x w.heap.size 27 (cellsF f sd sr) ∧ Row x w1.heap.size 27 (cellsF g td tr) from fun x hx => HRW.out x (HC.out.trans hx))
          have HWX := Lib.hid (show ∀ x, Chg none_ w7 x → Chg none_ w x from fun x hx => (HW2.out.trans HC.out).trans hx)
          refine wp_region_held_drew (S := fun x => Chg none_ w7 x) (by kernel_rfl) ((Chg.refl none_ w7).drew) (fun hch0 => ?_)
          have hz : Chg none_ w7 w7.drew := (Chg.refl none_ w7).drew
          generalize w7.drew = wz at hz ⊢
          clear hch0
          refine wpAnyH_take (i := 0) (v := .agg (cellsF f sd sr).toArray) rfl (by kernel_rfl) (by kernel_rfl) (by kernel_rfl) (by first | exact fun _ _ _ h => h | exact fun _ _ _ h => nomatch h.1) (yieldsIf_load_mid (by rfl) 27 _ rfl w.heap.size 0 rfl (cellsF f sd sr) _ (fun x hx => (HRX.out x hx).1.rangeMid 0 _ (fun j v hv => by rw [Nat.zero_add]; exact hv)) Tryd.underlying27 rfl (by rw [cF_len _ _ _ HTF.out]; exact size27)) hz ?_
          try simp only [Act.put, List.setIfInBounds_toArray, List.set_cons_zero, List.set_cons_succ, List.getElem_toArray, List.getElem_cons_zero]
          refine wpAnyH_take (i := 2) (v := .agg (cellsF g td tr).toArray) rfl (by kernel_rfl) (by kernel_rfl) (by kernel_rfl) (by first | exact fun _ _ _ h => h | exact fun _ _ _ h => nomatch h.1) (yieldsIf_load_mid (by rfl) 27 _ rfl w1.heap.size 0 rfl (cellsF g td tr) _ (fun x hx => (HRX.out x hx).2.rangeMid 0 _ (fun j v hv => by rw [Nat.zero_add]; exact hv)) Tryd.underlying27 rfl (by rw [cF_len _ _ _ HTG.out]; exact size27)) hz ?_
          try simp only [Act.put, List.setIfInBounds_toArray, List.set_cons_zero, List.set_cons_succ, List.getElem_toArray, List.getElem_cons_succ, List.getElem_cons_zero]
          refine wpAnyH_take (i := 5) (v := .agg (cellsF f sd sr).toArray) rfl (by kernel_rfl) (by kernel_rfl) (by kernel_rfl) (by first | exact fun _ _ _ h => h | exact fun _ _ _ h => nomatch h.1) (yieldsIf_load_mid (by rfl) 27 _ rfl w.heap.size 0 rfl (cellsF f sd sr) _ (fun x hx => (HRX.out x hx).1.rangeMid 0 _ (fun j v hv => by rw [Nat.zero_add]; exact hv)) Tryd.underlying27 rfl (by rw [cF_len _ _ _ HTF.out]; exact size27)) hz ?_
          try simp only [Act.put, List.setIfInBounds_toArray, List.set_cons_zero, List.set_cons_succ, List.getElem_toArray, List.getElem_cons_succ, List.getElem_cons_zero]
          refine wpAnyH_take (i := 6) (v := .agg (cellsF g td tr).toArray) rfl (by kernel_rfl) (by kernel_rfl) (by kernel_rfl) (by first | exact fun _ _ _ h => h | exact fun _ _ _ h => nomatch h.1) (yieldsIf_load_mid (by rfl) 27 _ rfl w1.heap.size 0 rfl (cellsF g td tr) _ (fun x hx => (HRX.out x hx).2.rangeMid 0 _ (fun j v hv => by rw [Nat.zero_add]; exact hv)) Tryd.underlying27 rfl (by rw [cF_len _ _ _ HTG.out]; exact size27)) hz ?_
          try simp only [Act.put, List.setIfInBounds_toArray, List.set_cons_zero, List.set_cons_succ, List.getElem_toArray, List.getElem_cons_succ, List.getElem_cons_zero]
          refine wpAnyH_ready (rs := [1]) (by kernel_rfl) (by simp) ?_
          refine AllReadyH.cons rfl (fun K hK => ?_) AllReadyH.nil
          rw [if_pos (by rfl)]
          try simp only [List.getElem_toArray, List.getElem_cons_succ, List.getElem_cons_zero]
          go_simp
          refine (HPF.out _ (HWX.out _ hz)).mono ?_
          rintro e x1 ⟨A1, c1, rfl, hv1, hcx⟩
          have hz := hz.trans hcx
          refine hK.out _ _ hz (fun _ => ?_)
          clear hK K hcx
          try simp only [Act.put, List.setIfInBounds_toArray, List.set_cons_zero, List.set_cons_succ, List.getElem_toArray, List.getElem_cons_succ, List.getElem_cons_zero]
          refine wpAnyH_ready (rs := [3]) (by kernel_rfl) (by simp) ?_
          refine AllReadyH.cons rfl (fun K hK => ?_) AllReadyH.nil
          rw [if_pos (by rfl)]
          try simp only [List.getElem_toArray, List.getElem_cons_succ, List.getElem_cons_zero]
          go_simp
          refine (HPG.out _ (HWX.out _ hz)).mono ?_
          rintro e x2 ⟨A2, c2, rfl, hv2, hcx⟩
          have hv1 := hv1.chg hcx (fun _ _ h => h)
          have hz := hz.trans hcx
          refine hK.out _ _ hz (fun _ => ?_)
          clear hK K hcx
          try simp only [Act.put, List.setIfInBounds_toArray, List.set_cons_zero, List.set_cons_succ, List.getElem_toArray, List.getElem_cons_succ, List.getElem_cons_zero]
          refine wpAnyH_ready (rs := [4]) (by kernel_rfl) (by simp) ?_
          refine AllReadyH.cons rfl (fun K hK => ?_) AllReadyH.nil
          rw [if_pos (by rfl)]
          try simp only [List.getElem_toArray, List.getElem_cons_succ, List.getElem_cons_zero]
          go_simp
          refine (HSB.out _ _ _ _ _ _ _ hv1 hv2).mono ?_
          rintro e x3 ⟨rfl, hcx⟩
          have hz := hz.trans hcx
          refine hK.out _ _ hz (fun _ => ?_)
          clear hK K hcx
          try simp only [Act.put, List.setIfInBounds_toArray, List.set_cons_zero, List.set_cons_succ, List.getElem_toArray, List.getElem_cons_succ, List.getElem_cons_zero]
          refine wpAnyH_ready (rs := [7]) (by kernel_rfl) (by simp) ?_
          refine AllReadyH.cons rfl (fun K hK => ?_) AllReadyH.nil
          rw [if_pos (by rfl)]
          try simp only [List.getElem_toArray, List.getElem_cons_succ, List.getElem_cons_zero]
          go_simp
          refine (HSF.out _ (HWX.out _ hz)).mono ?_
          rintro e x4 ⟨rfl, hcx⟩
          have hz := hz.trans hcx
          refine hK.out _ _ hz (fun _ => ?_)
          clear hK K hcx
          try simp only [Act.put, List.setIfInBounds_toArray, List.set_cons_zero, List.set_cons_succ, List.getElem_toArray, List.getElem_cons_succ, List.getElem_cons_zero]
          refine wpAnyH_take (i := 8) (v := .bool true) rfl (by kernel_rfl) (by kernel_rfl) (by kernel_rfl) (by first | exact fun _ _ _ h => h | exact fun _ _ _ h => nomatch h.1) (Or.inl ⟨by rfl, fun w_ hw_ => by cases same <;> go_simp⟩) hz ?_
          try simp only [Act.put, List.setIfInBounds_toArray, List.set_cons_zero, List.set_cons_succ, List.getElem_toArray, List.getElem_cons_succ, List.getElem_cons_zero]
          refine wpAnyH_take (i := 9) (v := .bool true) rfl (by kernel_rfl) (by kernel_rfl) (by kernel_rfl) (by first | exact fun _ _ _ h => h | exact fun _ _ _ h => nomatch h.1) (Or.inl ⟨by rfl, fun w_ hw_ => by go_simp⟩) hz ?_
          try simp only [Act.put, List.setIfInBounds_toArray, List.set_cons_zero, List.set_cons_succ, List.getElem_toArray, List.getElem_cons_succ, List.getElem_cons_zero]
          refine wpAnyH_done (by kernel_rfl) ?_ _
          go_wp2
          go_ret
          exact ⟨rfl, HWX.out _ hz⟩
end Go.Proofs.YtojlpnklmeeheaaDoor
