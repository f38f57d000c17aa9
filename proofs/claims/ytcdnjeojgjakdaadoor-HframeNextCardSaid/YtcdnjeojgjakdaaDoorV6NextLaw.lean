/- Layer 6 (hframe): the frame that bytes begin with, by the document's words, whatever they are; the law HframeNext. -/
import Derived.Test.YtcdnjeojgjakdaaDoorV6RNextI
import Derived.Test.YtcdnjeojgjakdaaDoorV6RNextS
import Derived.Test.YtcdnjeojgjakdaaDoorV6Alive
import Derived.Test.YtcdnjeojgjakdaaDoorV6RDoc
namespace Go.Proofs.YtcdnjeojgjakdaaDoor
open Go.RowKit

theorem rnextM_eq (b : List Nat) (tag n : Nat) (s1 s2 : St) (own : List Nat) (s3 : St) (e1 : rdInt (b, 0) = (tag, s1)) (e2 : rdInt s1 = (n, s2)) (e3 : rdBytes n s2 = (own, s3)) :
    rnextM b = (if s1.2 = 0 ∧ forbN tag = true then ({}, 0, 3) else if s3.2 ≠ 0 then ({}, 0, 2) else match kkM tag with
      | none => ({}, b.length - s3.1.length, 6)
      | some k => if (rtakeK k own { kind := tag }).2 && hasK k (rtakeK k own { kind := tag }).1 then ((rtakeK k own { kind := tag }).1, b.length - s3.1.length, 0) else ({}, 0, 3) : Hf × Nat × Int) := by
  unfold rnextM rsplitM
  simp only [e1, e2, e3]
  by_cases h1 : s1.2 = 0 ∧ forbN tag = true
  · simp [h1]
  · by_cases h2 : s3.2 = 0
    · simp only [if_neg h1, h2]
      rfl
    · simp [if_neg h1, h2]
theorem rdInt_bad {s : St} (h : s.2 ≠ 0) : (rdInt s).2.2 ≠ 0 := by unfold rdInt; rw [if_pos h]; exact h
theorem rdBytes_bad {n : Nat} {s : St} (h : s.2 ≠ 0) : (rdBytes n s).2.2 ≠ 0 := by unfold rdBytes; rw [if_pos h]; exact h
theorem kk_not {tag : Nat} (h : kkM tag = none) : ¬ (tag = 0 ∨ tag = 1 ∨ tag = 3 ∨ tag = 7 ∨ tag = 13 ∨ tag = 4) := by
  rintro (rfl | rfl | rfl | rfl | rfl | rfl) <;> revert h <;> decide

theorem rnext_any (w : World) (A : Option Addr) (c : Nat) (b : List Nat) (hv : View w (fun _ => True) A b.length (u8s b)) (hm : b.length ≤ 1000000) (hcap : b.length ≤ c) (hb : ∀ x ∈ b, x < 256) :
    Calls Tryd.prog 20 #[.slice A b.length c] w (RNextPost (rnextM b) w) := by
  obtain ⟨tag, s1, e1⟩ : ∃ tag s1, rdInt (b, 0) = (tag, s1) := ⟨_, _, rfl⟩
  obtain ⟨n, s2, e2⟩ : ∃ n s2, rdInt s1 = (n, s2) := ⟨_, _, rfl⟩
  obtain ⟨own, s3, e3⟩ : ∃ own s3, rdBytes n s2 = (own, s3) := ⟨_, _, rfl⟩
  rw [rnextM_eq b tag n s1 s2 own s3 e1 e2 e3]
  by_cases h1 : s1.2 = 0 ∧ forbN tag = true
  · rw [if_pos h1]
    exact rnext_forb w A c b hv hm hcap hb tag s1 e1 h1.1 (of_decide_eq_true h1.2)
  · rw [if_neg h1]
    have hf : ¬ (s1.2 = 0 ∧ (tag = 2 ∨ tag = 6 ∨ tag = 8 ∨ tag = 9)) := fun q => h1 ⟨q.1, decide_eq_true q.2⟩
    by_cases h2 : s3.2 = 0
    · rw [if_neg (fun q => q h2)]
      have hz2 : s2.2 = 0 := by
        apply Classical.byContradiction
        intro q
        have q2 := rdBytes_bad (n := n) q
        rw [e3] at q2
        exact q2 h2
      have hz1 : s1.2 = 0 := by
        apply Classical.byContradiction
        intro q
        have q2 := rdInt_bad q
        rw [e2] at q2
        exact q2 hz2
      have hf2 : ¬ (tag = 2 ∨ tag = 6 ∨ tag = 8 ∨ tag = 9) := fun q => hf ⟨hz1, q⟩
      cases hk : kkM tag with
      | none => exact rnext_none w A c b hv hm hcap hb tag n s1 s2 own s3 e1 hf2 e2 e3 hz1 h2 (kk_not hk)
      | some k =>
        have hR : ∀ f : Hf, f.kind = (tag : Int) → rightH f = hasK k f := fun f hfk => right_of (n := tag) hfk (by
          have e : keyM (tag : Int) = tag := by
            have := kkM_some hk
            unfold keyM; omega
          rw [e]; exact hk)
        simp only
        rcases kkM_some hk with ⟨ht, rfl⟩ | ⟨ht, rfl⟩ | ⟨ht, rfl⟩ | ⟨ht, rfl⟩ | ⟨ht, rfl⟩ | ⟨ht, rfl⟩
        case inl | inr.inl =>
          show Calls _ _ _ _ (RNextPost (if (true && hasK .data { kind := (tag : Int), data := own }) = true then _ else _) w)
          rw [Bool.true_and, ← hR { kind := (tag : Int), data := own } rfl]
          cases hr : rightH { kind := (tag : Int), data := own } with
          | true => exact rnext_data_ok w A c b hv hm hcap hb tag n s1 s2 own s3 e1 hf2 e2 e3 hz1 h2 (by omega) hr
          | false => exact rnext_data_no w A c b hv hm hcap hb tag n s1 s2 own s3 e1 hf2 e2 e3 hz1 h2 (by omega) hr
        case inr.inr.inl | inr.inr.inr.inr.inl | inr.inr.inr.inr.inr =>
          obtain ⟨id, st, e5⟩ : ∃ id st, rdInt (own, 0) = (id, st) := ⟨_, _, rfl⟩
          have hk3 : tag = 3 ∨ tag = 7 ∨ tag = 13 := by omega
          show Calls _ _ _ _ (RNextPost (if (decide ((rdInt (own, 0)).2.2 = 0 ∧ (rdInt (own, 0)).2.1 = []) && hasK .id { kind := (tag : Int), id := (rdInt (own, 0)).1 }) = true then (({ kind := (tag : Int), id := (rdInt (own, 0)).1 } : Hf), _, _) else _) w)
          rw [e5, ← hR { kind := (tag : Int), id := id } rfl]
          simp only
          by_cases q1 : st.2 = 0
          · by_cases q2 : st.1 = []
            · have hst : st = ([], 0) := Prod.ext q2 q1
              rw [decide_eq_true ⟨q1, q2⟩, Bool.true_and]
              cases hr : rightH { kind := (tag : Int), id := id } with
              | true => exact rnext_id_ok w A c b hv hm hcap hb tag n s1 s2 own s3 e1 hf2 e2 e3 hz1 h2 id st e5 hk3 hst hr
              | false => exact rnext_id_no w A c b hv hm hcap hb tag n s1 s2 own s3 e1 hf2 e2 e3 hz1 h2 id st e5 hk3 hst hr
            · rw [decide_eq_false (fun q => q2 q.2), Bool.false_and]
              exact rnext_id_left w A c b hv hm hcap hb tag n s1 s2 own s3 e1 hf2 e2 e3 hz1 h2 id st e5 hk3 q1 q2
          · rw [decide_eq_false (fun q => q1 q.1), Bool.false_and]
            exact rnext_id_bad w A c b hv hm hcap hb tag n s1 s2 own s3 e1 hf2 e2 e3 hz1 h2 id st e5 hk3 q1
        case inr.inr.inr.inl =>
          obtain ⟨L, st, e5⟩ : ∃ L st, takeS 17 [] (own, 0) = (L, st) := ⟨_, _, rfl⟩
          show Calls _ _ _ _ (RNextPost (if (decide ((takeS 17 [] (own, 0)).2.2 = 0 ∧ (takeS 17 [] (own, 0)).2.1 = []) && hasK .sets { kind := (tag : Int), sets := (takeS 17 [] (own, 0)).1 }) = true then (({ kind := (tag : Int), sets := (takeS 17 [] (own, 0)).1 } : Hf), _, _) else _) w)
          rw [e5, ← hR { kind := (tag : Int), sets := L } rfl]
          simp only
          by_cases q1 : st.2 = 0
          · by_cases q2 : st.1 = []
            · have hst : st = ([], 0) := Prod.ext q2 q1
              rw [decide_eq_true ⟨q1, q2⟩, Bool.true_and]
              cases hr : rightH { kind := (tag : Int), sets := L } with
              | true => exact rnext_sets_ok w A c b hv hm hcap hb tag n s1 s2 own s3 e1 hf2 e2 e3 hz1 h2 L st e5 ht hst hr
              | false => exact rnext_sets_no w A c b hv hm hcap hb tag n s1 s2 own s3 e1 hf2 e2 e3 hz1 h2 L st e5 ht hst hr
            · rw [decide_eq_false (fun q => q2 q.2), Bool.false_and]
              exact rnext_sets_left w A c b hv hm hcap hb tag n s1 s2 own s3 e1 hf2 e2 e3 hz1 h2 L st e5 ht q1 q2
          · rw [decide_eq_false (fun q => q1 q.1), Bool.false_and]
            exact rnext_sets_bad w A c b hv hm hcap hb tag n s1 s2 own s3 e1 hf2 e2 e3 hz1 h2 L st e5 ht q1
    · rw [if_pos h2]
      exact rnext_short w A c b hv hm hcap hb tag n s1 s2 (own, s3) e1 hf e2 e3 h2
theorem one_hd {w : World} {T : Nat → Prop} {f : Hf} {ss sd : Value} (h : HfD w T f ss sd) : (cellsH f ss sd).all (·.oneCell') = true := by
  obtain ⟨⟨_, _, rfl, _⟩, ⟨_, _, rfl, _⟩⟩ := h; rfl

set_option maxRecDepth 100000 in
set_option maxHeartbeats 2000000 in
theorem next_law (A : Option Addr) (c : Nat) (b : List Nat) (W : World) (hv : View W (fun _ => True) A b.length (u8s b)) (hcap : b.length ≤ c) (hb : ∀ x ∈ b, x < 256) (hT : Tab W) :
    Calls Tryd.prog 4 #[.slice A b.length c] W fun e w' => e = .returned (.bool true) ∧ Chg none_ W w' := by
  have HAL := Lib.hid (alive_any W hT)
  by_cases h15 : 1500 < b.length
  · have h1 : (1500 : Int) < (b.length : Int) := by omega
    clear hv hcap hb hT h15
    go_enter Tryd.func4, Tryd.ntmps4
    go_wp2_with (go_at_call 10; refine HAL.out.mono ?_; rintro e w1 ⟨rfl, c1⟩)
    go_ret
    exact ⟨rfl, c1⟩
  · have h1 : ¬ (1500 : Int) < (b.length : Int) := by omega
    have HN := Lib.hid (fun w' (hc : Chg none_ W w') => next_any w' _ A c b (hv.chg hc (fun _ _ h => h)) (by omega) hcap hb)
    have HR := Lib.hid (fun w' (hc : Chg none_ W w') => rnext_any w' A c b (hv.chg hc (fun _ _ h => h)) (by omega) hcap hb)
    rw [← next_same b hb] at HR
    clear hv hcap hb hT h15
    obtain ⟨⟨f, n, er⟩, hm⟩ : ∃ m, nextH b = m := ⟨_, rfl⟩
    rw [hm] at HN HR
    clear hm
    go_enter Tryd.func4, Tryd.ntmps4
    go_wp2_with (go_at_call 10; refine HAL.out.mono ?_; rintro e w1 ⟨rfl, c1⟩)
    refine (HN.out _ c1).mono ?_
    rintro e w2 ⟨ss2, sd2, rfl, hd2, d2⟩
    have o2 := Lib.hid (one_hd hd2)
    have HD2 := Lib.hid (hd2.mono (T' := fun _ => True) (fun _ _ _ => trivial))
    have HC2 := Lib.hid (c1.trans d2)
    clear hd2 c1 d2 HN HAL
    unfold aggH
    simp only
    go_wp2_with ((with_reducible show wpList _ _ _ (⟨_, .store 26 (.tmp 3) _, _, _, _, _⟩ :: _) _ _); refine wpList_store_Row (xs := cellsH f ss2 sd2) rfl rfl rfl (Row.new w2 26 zcH) rfl rfl sizeH o2.out ?_; intro w3 hr3 hch3 _; have c3 := hch3 none_ w2 ((Chg.refl none_ w2).alloc _) (fun h => absurd h (by omega)); clear hch3)
    refine (HR.out _ (HC2.out.trans c3)).mono ?_
    rintro e w4 ⟨ss4, sd4, rfl, hd4, d4⟩
    have o4 := Lib.hid (one_hd hd4)
    have HD4 := Lib.hid hd4
    have HC4 := Lib.hid (HC2.out.trans (c3.trans d4))
    have HX3 := Lib.hid (fun w' (hc : Chg none_ w4 w') => hr3.chg (d4.trans hc) (fun h => h))
    have HD24 := Lib.hid (HD2.out.chg (c3.trans d4) (fun _ _ h => h))
    clear hd4 d4 c3 HR hr3 HD2 HC2
    unfold aggH
    simp only
    have HSM := Lib.hid (fun w' (hc : Chg none_ w4 w') => rsame_any f f ss2 sd2 ss4 sd4 w' _ _ (HD24.out.chg hc (fun _ _ h => h)) (HD4.out.chg hc (fun _ _ h => h)))
    rw [decide_eq_true rfl] at HSM
    unfold aggH at HSM
    go_wp2_with (first | ((with_reducible show wpList _ _ _ (⟨_, .store 26 (.tmp 6) _, _, _, _, _⟩ :: _) _ _); refine wpList_store_Row (xs := cellsH f ss4 sd4) rfl rfl rfl (Row.new w4 26 zcH) rfl rfl sizeH o4.out ?_; intro w5 hr5 hch5 _; have c5 := hch5 none_ w4 ((Chg.refl none_ w4).alloc _) (fun h => absurd h (by omega)); clear hch5) | ((with_reducible show wpList _ _ _ (⟨_, .load 26 (.tmp 3), _, _, _, _⟩ :: _) _ _); refine wpList_load_Row rfl rfl rfl (HX3.out _ c5) Tryd.underlying26 rfl sizeH ?_) | ((with_reducible show wpList _ _ _ (⟨_, .load 26 (.tmp 6), _, _, _, _⟩ :: _) _ _); refine wpList_load_Row rfl rfl rfl hr5 Tryd.underlying26 rfl sizeH ?_) | (go_at_call 18; refine (HSM.out _ c5).mono ?_; rintro e w6 ⟨rfl, d6⟩))
    go_ret
    exact ⟨rfl, (HC4.out.trans c5).trans d6⟩

theorem walk_HframeNext (A : Option Addr) (len c : Nat) (zs : List Int) (W : World) (hz : IsRow .u8 W A len c zs) (hT : Tab W) :
    Calls Tryd.prog 4 #[.slice A len c] W fun e w' => e = .returned (.bool true) ∧ Chg none_ W w' := by
  obtain ⟨m, rfl, hl, _, hmb, hvm⟩ := hz.u8
  exact next_law A c m W hvm hl hmb hT
end Go.Proofs.YtcdnjeojgjakdaaDoor
