/- Layer 3 (frames): which lists of frames are the same, the document's. -/
import Derived.Test.YtakoeamfmmbdiaaV3RSame
import Derived.Test.YtakoeamfmmbdiaaV3FrL
import Derived.Deep.RegionHeld3
namespace Go.Proofs.Ytakoeamfmmbdiaa
open Go.RowKit

set_option maxRecDepth 100000 in
set_option maxHeartbeats 4000000 in
theorem rlist3_any (w : World) (A A' : Option Addr) (c c' : Nat) (L L' : List FrV) (h : FrsV w A L) (h' : FrsV w A' L') (hl : L.length ≤ 1000000) :
    Calls Try.prog 38 #[.slice A L.length c, .slice A' L'.length c'] w fun e w' => e = .returned (.bool (decide (L.map (·.1) = L'.map (·.1)))) ∧ Chg none_ w w' := by
  have HF := Lib.hid h
  have HF' := Lib.hid h'
  clear h h'
  by_cases hlen : L.length = L'.length
  · have hne : (((L.length : Nat) : Int) != (L'.length : Int)) = false := by rw [bne_eq_false_iff_eq]; omega
    have HLE := Lib.hid hlen
    clear hlen
    go_enter Try.func38, Try.ntmps38
    go_wp2
    go_loopw [5] (fun i wr => ∃ k : Nat, k ≤ L.length ∧ i = .int .i64 (k : Int) ∧ Hid (Chg none_ w wr) ∧ Hid (∀ j, j < k → (L.getD j fv0).1 = (L'.getD j fv0).1)) (fun i _ => L.length - (intOf i).toNat)
    case atStart => exact ⟨0, Nat.zero_le _, rfl, Lib.hid (Chg.refl _ _), Lib.hid (fun j hj => absurd hj (by omega))⟩
    case round =>
      obtain ⟨k, hk, rfl, HC, hpre⟩ := hrel
      by_cases hlt : k < L.length
      · have hlt' : k < L'.length := by have := HLE.out; omega
        have hk1 : (k : Int) < (L.length : Int) := by omega
        have hk2 : (k : Int) < (L'.length : Int) := by omega
        have hk0 : (0 : Int) ≤ (k : Int) := by omega
        have hF := HF.out.chg HC.out
        have hF' := HF'.out.chg HC.out
        obtain ⟨b, o, rfl, hb, _, hra⟩ := hF.view.fAt hF.tok hlt
        obtain ⟨b', o', rfl, hb', _, hra'⟩ := hF'.view.fAt hF'.tok hlt'
        have hmx : L.getD k fv0 ∈ L := by rw [List.getD_eq_getElem?_getD, List.getElem?_eq_getElem hlt]; exact List.getElem_mem hlt
        have hmy : L'.getD k fv0 ∈ L' := by rw [List.getD_eq_getElem?_getD, List.getElem?_eq_getElem hlt']; exact List.getElem_mem hlt'
        have dx := hF.each _ hmx
        have dy := hF'.each _ hmy
        generalize hx : L.getD k fv0 = x at *
        generalize hy : L'.getD k fv0 = y at *
        have HXA := Lib.hid (fun x_ (hx_ : Chg none_ wr x_) => rangeAt_chg hra hx_ hb (fun h => h))
        have HYA := Lib.hid (fun x_ (hx_ : Chg none_ wr x_) => rangeAt_chg hra' hx_ hb' (fun h => h))
        have HXAL := Lib.hid dx.tok
        have HYAL := Lib.hid dy.tok
        have HSM : Hid (∀ x_, Chg none_ wr x_ → Calls Try.prog 45 #[.agg (cellsF x.1 x.2.1 x.2.2).toArray, .agg (cellsF y.1 y.2.1 y.2.2).toArray] x_ fun e w'' => e = .returned (.bool (decide (x.1 = y.1))) ∧ Chg none_ x_ w'') := Lib.hid (fun x_ hx_ => rsameF_any x.1 y.1 x.2.1 x.2.2 y.2.1 y.2.2 x_ _ _ (dx.chg hx_ (fun _ _ h => h)) (dy.chg hx_ (fun _ _ h => h)))
        have HX := Lib.hid hx
        have HY := Lib.hid hy
        clear hra hra' hb hb' hmx hmy dx dy hx hy hF hF'
        by_cases hs : x.1 = y.1
        · have hd : decide (x.1 = y.1) = true := by simpa using hs
          rw [hd] at HSM
          have HS := Lib.hid hs
          clear hs hd
          go_wp2
          refine wp_region_held_drew (S := fun x => Chg none_ wr x) (by kernel_rfl) ((Chg.refl none_ wr).drew) (fun hch0 => ?_)
          have hz : Chg none_ wr wr.drew := (Chg.refl none_ wr).drew
          generalize wr.drew = wz at hz ⊢
          clear hch0
          refine wpAnyH_take (i := 0) (v := .slice (some ⟨b, o, none⟩) L.length c) rfl (by kernel_rfl) (by kernel_rfl) (by kernel_rfl) (by first | exact fun _ _ _ h => h | exact fun _ _ _ h => nomatch h.1) (Or.inl ⟨by rfl, fun w_ hw_ => by go_simp⟩) hz ?_
          try simp only [Act.put, List.setIfInBounds_toArray, List.set_cons_zero, List.set_cons_succ, List.getElem_toArray, List.getElem_cons_zero]
          refine wpAnyH_take (i := 1) (v := .int .i64 (k : Int)) rfl (by kernel_rfl) (by kernel_rfl) (by kernel_rfl) (by first | exact fun _ _ _ h => h | exact fun _ _ _ h => nomatch h.1) (Or.inl ⟨by rfl, fun w_ hw_ => by go_simp⟩) hz ?_
          try simp only [Act.put, List.setIfInBounds_toArray, List.set_cons_zero, List.set_cons_succ, List.getElem_toArray, List.getElem_cons_succ, List.getElem_cons_zero]
          refine wpAnyH_take (i := 2) (v := .pointer (some ⟨b, o + k * 24, none⟩)) rfl (by kernel_rfl) (by kernel_rfl) (by kernel_rfl) (by first | exact fun _ _ _ h => h | exact fun _ _ _ h => nomatch h.1) (Or.inl ⟨by rfl, fun w_ hw_ => by go_simp⟩) hz ?_
          try simp only [Act.put, List.setIfInBounds_toArray, List.set_cons_zero, List.set_cons_succ, List.getElem_toArray, List.getElem_cons_succ, List.getElem_cons_zero]
          refine wpAnyH_take (i := 3) (v := .agg (cellsF x.1 x.2.1 x.2.2).toArray) rfl (by kernel_rfl) (by kernel_rfl) (by kernel_rfl) (by first | exact fun _ _ _ h => h | exact fun _ _ _ h => nomatch h.1) (yieldsIf_load_mid (by rfl) 70 _ rfl b (o + k * 24) rfl (cellsF x.1 x.2.1 x.2.2) _ (fun x_ hx_ => HXA.out x_ hx_) Try.underlying70 rfl (by rw [cF_len _ _ _ HXAL.out]; exact size27)) hz ?_
          try simp only [Act.put, List.setIfInBounds_toArray, List.set_cons_zero, List.set_cons_succ, List.getElem_toArray, List.getElem_cons_succ, List.getElem_cons_zero]
          refine wpAnyH_take (i := 4) (v := .slice (some ⟨b', o', none⟩) L'.length c') rfl (by kernel_rfl) (by kernel_rfl) (by kernel_rfl) (by first | exact fun _ _ _ h => h | exact fun _ _ _ h => nomatch h.1) (Or.inl ⟨by rfl, fun w_ hw_ => by go_simp⟩) hz ?_
          try simp only [Act.put, List.setIfInBounds_toArray, List.set_cons_zero, List.set_cons_succ, List.getElem_toArray, List.getElem_cons_succ, List.getElem_cons_zero]
          refine wpAnyH_take (i := 5) (v := .int .i64 (k : Int)) rfl (by kernel_rfl) (by kernel_rfl) (by kernel_rfl) (by first | exact fun _ _ _ h => h | exact fun _ _ _ h => nomatch h.1) (Or.inl ⟨by rfl, fun w_ hw_ => by go_simp⟩) hz ?_
          try simp only [Act.put, List.setIfInBounds_toArray, List.set_cons_zero, List.set_cons_succ, List.getElem_toArray, List.getElem_cons_succ, List.getElem_cons_zero]
          refine wpAnyH_take (i := 6) (v := .pointer (some ⟨b', o' + k * 24, none⟩)) rfl (by kernel_rfl) (by kernel_rfl) (by kernel_rfl) (by first | exact fun _ _ _ h => h | exact fun _ _ _ h => nomatch h.1) (Or.inl ⟨by rfl, fun w_ hw_ => by go_simp⟩) hz ?_
          try simp only [Act.put, List.setIfInBounds_toArray, List.set_cons_zero, List.set_cons_succ, List.getElem_toArray, List.getElem_cons_succ, List.getElem_cons_zero]
          refine wpAnyH_take (i := 7) (v := .agg (cellsF y.1 y.2.1 y.2.2).toArray) rfl (by kernel_rfl) (by kernel_rfl) (by kernel_rfl) (by first | exact fun _ _ _ h => h | exact fun _ _ _ h => nomatch h.1) (yieldsIf_load_mid (by rfl) 70 _ rfl b' (o' + k * 24) rfl (cellsF y.1 y.2.1 y.2.2) _ (fun x_ hx_ => HYA.out x_ hx_) Try.underlying70 rfl (by rw [cF_len _ _ _ HYAL.out]; exact size27)) hz ?_
          try simp only [Act.put, List.setIfInBounds_toArray, List.set_cons_zero, List.set_cons_succ, List.getElem_toArray, List.getElem_cons_succ, List.getElem_cons_zero]
          refine wpAnyH_ready (rs := [8]) (by kernel_rfl) (by simp) ?_
          refine AllReadyH.cons rfl (fun K hK => ?_) AllReadyH.nil
          rw [if_pos (by rfl)]
          try simp only [List.getElem_toArray, List.getElem_cons_succ, List.getElem_cons_zero]
          go_simp
          refine (HSM.out _ hz).mono ?_
          rintro e y1 ⟨rfl, hcx⟩
          have hz := hz.trans hcx
          clear hcx
          refine hK.out _ _ hz (fun _ => ?_)
          clear hK K
          try simp only [Act.put, List.setIfInBounds_toArray, List.set_cons_zero, List.set_cons_succ, List.getElem_toArray, List.getElem_cons_succ, List.getElem_cons_zero]
          refine wpAnyH_take (i := 9) (v := .bool false) rfl (by kernel_rfl) (by kernel_rfl) (by kernel_rfl) (by first | exact fun _ _ _ h => h | exact fun _ _ _ h => nomatch h.1) (Or.inl ⟨by rfl, fun w_ hw_ => by go_simp⟩) hz ?_
          try simp only [Act.put, List.setIfInBounds_toArray, List.set_cons_zero, List.set_cons_succ, List.getElem_toArray, List.getElem_cons_succ, List.getElem_cons_zero]
          refine wpAnyH_done (by kernel_rfl) ?_ _
          go_wp2
          go_roundw
          case rel =>
            refine ⟨k + 1, by omega, by go_num, Lib.hid (HC.out.trans hz), Lib.hid (fun j hj => ?_)⟩
            rcases Nat.lt_or_ge j k with hjk | hjk
            · exact hpre.out j hjk
            · have : j = k := by omega
              subst this
              rw [HX.out, HY.out]; exact HS.out
          case measure => simp [intOf]; omega
        · have hd : decide (x.1 = y.1) = false := by simpa using hs
          rw [hd] at HSM
          have HNE : Hid (L.map (·.1) ≠ L'.map (·.1)) := Lib.hid (fun e => hs (by
            have h1 := congrArg (fun (m : List Fr) => m.getD k ({} : Fr)) e
            simp only [List.getD_eq_getElem?_getD, List.getElem?_map, List.getElem?_eq_getElem hlt, List.getElem?_eq_getElem hlt', Option.map_some, Option.getD_some] at h1
            have h2 := HX.out
            have h3 := HY.out
            rw [List.getD_eq_getElem?_getD, List.getElem?_eq_getElem hlt, Option.getD_some] at h2
            rw [List.getD_eq_getElem?_getD, List.getElem?_eq_getElem hlt', Option.getD_some] at h3
            rw [← h2, ← h3]; exact h1))
          clear hs hd
          go_wp2
          refine wp_region_held_drew (S := fun x => Chg none_ wr x) (by kernel_rfl) ((Chg.refl none_ wr).drew) (fun hch0 => ?_)
          have hz : Chg none_ wr wr.drew := (Chg.refl none_ wr).drew
          generalize wr.drew = wz at hz ⊢
          clear hch0
          refine wpAnyH_take (i := 0) (v := .slice (some ⟨b, o, none⟩) L.length c) rfl (by kernel_rfl) (by kernel_rfl) (by kernel_rfl) (by first | exact fun _ _ _ h => h | exact fun _ _ _ h => nomatch h.1) (Or.inl ⟨by rfl, fun w_ hw_ => by go_simp⟩) hz ?_
          try simp only [Act.put, List.setIfInBounds_toArray, List.set_cons_zero, List.set_cons_succ, List.getElem_toArray, List.getElem_cons_zero]
          refine wpAnyH_take (i := 1) (v := .int .i64 (k : Int)) rfl (by kernel_rfl) (by kernel_rfl) (by kernel_rfl) (by first | exact fun _ _ _ h => h | exact fun _ _ _ h => nomatch h.1) (Or.inl ⟨by rfl, fun w_ hw_ => by go_simp⟩) hz ?_
          try simp only [Act.put, List.setIfInBounds_toArray, List.set_cons_zero, List.set_cons_succ, List.getElem_toArray, List.getElem_cons_succ, List.getElem_cons_zero]
          refine wpAnyH_take (i := 2) (v := .pointer (some ⟨b, o + k * 24, none⟩)) rfl (by kernel_rfl) (by kernel_rfl) (by kernel_rfl) (by first | exact fun _ _ _ h => h | exact fun _ _ _ h => nomatch h.1) (Or.inl ⟨by rfl, fun w_ hw_ => by go_simp⟩) hz ?_
          try simp only [Act.put, List.setIfInBounds_toArray, List.set_cons_zero, List.set_cons_succ, List.getElem_toArray, List.getElem_cons_succ, List.getElem_cons_zero]
          refine wpAnyH_take (i := 3) (v := .agg (cellsF x.1 x.2.1 x.2.2).toArray) rfl (by kernel_rfl) (by kernel_rfl) (by kernel_rfl) (by first | exact fun _ _ _ h => h | exact fun _ _ _ h => nomatch h.1) (yieldsIf_load_mid (by rfl) 70 _ rfl b (o + k * 24) rfl (cellsF x.1 x.2.1 x.2.2) _ (fun x_ hx_ => HXA.out x_ hx_) Try.underlying70 rfl (by rw [cF_len _ _ _ HXAL.out]; exact size27)) hz ?_
          try simp only [Act.put, List.setIfInBounds_toArray, List.set_cons_zero, List.set_cons_succ, List.getElem_toArray, List.getElem_cons_succ, List.getElem_cons_zero]
          refine wpAnyH_take (i := 4) (v := .slice (some ⟨b', o', none⟩) L'.length c') rfl (by kernel_rfl) (by kernel_rfl) (by kernel_rfl) (by first | exact fun _ _ _ h => h | exact fun _ _ _ h => nomatch h.1) (Or.inl ⟨by rfl, fun w_ hw_ => by go_simp⟩) hz ?_
          try simp only [Act.put, List.setIfInBounds_toArray, List.set_cons_zero, List.set_cons_succ, List.getElem_toArray, List.getElem_cons_succ, List.getElem_cons_zero]
          refine wpAnyH_take (i := 5) (v := .int .i64 (k : Int)) rfl (by kernel_rfl) (by kernel_rfl) (by kernel_rfl) (by first | exact fun _ _ _ h => h | exact fun _ _ _ h => nomatch h.1) (Or.inl ⟨by rfl, fun w_ hw_ => by go_simp⟩) hz ?_
          try simp only [Act.put, List.setIfInBounds_toArray, List.set_cons_zero, List.set_cons_succ, List.getElem_toArray, List.getElem_cons_succ, List.getElem_cons_zero]
          refine wpAnyH_take (i := 6) (v := .pointer (some ⟨b', o' + k * 24, none⟩)) rfl (by kernel_rfl) (by kernel_rfl) (by kernel_rfl) (by first | exact fun _ _ _ h => h | exact fun _ _ _ h => nomatch h.1) (Or.inl ⟨by rfl, fun w_ hw_ => by go_simp⟩) hz ?_
          try simp only [Act.put, List.setIfInBounds_toArray, List.set_cons_zero, List.set_cons_succ, List.getElem_toArray, List.getElem_cons_succ, List.getElem_cons_zero]
          refine wpAnyH_take (i := 7) (v := .agg (cellsF y.1 y.2.1 y.2.2).toArray) rfl (by kernel_rfl) (by kernel_rfl) (by kernel_rfl) (by first | exact fun _ _ _ h => h | exact fun _ _ _ h => nomatch h.1) (yieldsIf_load_mid (by rfl) 70 _ rfl b' (o' + k * 24) rfl (cellsF y.1 y.2.1 y.2.2) _ (fun x_ hx_ => HYA.out x_ hx_) Try.underlying70 rfl (by rw [cF_len _ _ _ HYAL.out]; exact size27)) hz ?_
          try simp only [Act.put, List.setIfInBounds_toArray, List.set_cons_zero, List.set_cons_succ, List.getElem_toArray, List.getElem_cons_succ, List.getElem_cons_zero]
          refine wpAnyH_ready (rs := [8]) (by kernel_rfl) (by simp) ?_
          refine AllReadyH.cons rfl (fun K hK => ?_) AllReadyH.nil
          rw [if_pos (by rfl)]
          try simp only [List.getElem_toArray, List.getElem_cons_succ, List.getElem_cons_zero]
          go_simp
          refine (HSM.out _ hz).mono ?_
          rintro e y1 ⟨rfl, hcx⟩
          have hz := hz.trans hcx
          clear hcx
          refine hK.out _ _ hz (fun _ => ?_)
          clear hK K
          try simp only [Act.put, List.setIfInBounds_toArray, List.set_cons_zero, List.set_cons_succ, List.getElem_toArray, List.getElem_cons_succ, List.getElem_cons_zero]
          refine wpAnyH_take (i := 9) (v := .bool true) rfl (by kernel_rfl) (by kernel_rfl) (by kernel_rfl) (by first | exact fun _ _ _ h => h | exact fun _ _ _ h => nomatch h.1) (Or.inl ⟨by rfl, fun w_ hw_ => by go_simp⟩) hz ?_
          try simp only [Act.put, List.setIfInBounds_toArray, List.set_cons_zero, List.set_cons_succ, List.getElem_toArray, List.getElem_cons_succ, List.getElem_cons_zero]
          refine wpAnyH_done (by kernel_rfl) ?_ _
          go_wp2
          go_ret
          exact ⟨ret_bool (decide_eq_false HNE.out).symm, HC.out.trans hz⟩
      · have hkl : k = L.length := by omega
        have HK := Lib.hid hkl
        clear hkl
        have hn : ¬ (k : Int) < (L.length : Int) := by omega
        go_wp2
        go_ret
        refine ⟨ret_bool ?_, HC.out⟩
        symm
        rw [decide_eq_true_eq]
        apply List.ext_getElem (by simpa using HLE.out)
        intro j h1 h2
        have h1' : j < L.length := by simpa using h1
        have h2' : j < L'.length := by simpa using h2
        have := hpre.out j (by rw [HK.out]; exact h1')
        simpa [List.getD_eq_getElem?_getD, h1', h2'] using this
  · have hne : (((L.length : Nat) : Int) != (L'.length : Int)) = true := by simp; omega
    have hd : decide (L.map (·.1) = L'.map (·.1)) = false := by
      rw [decide_eq_false_iff_not]; intro e; exact hlen (by have := congrArg List.length e; simpa using this)
    rw [hd]
    go_enter Try.func38, Try.ntmps38
    go_wp2
    go_ret
    exact ⟨rfl, Chg.refl _ _⟩
end Go.Proofs.Ytakoeamfmmbdiaa
