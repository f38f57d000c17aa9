/- Layer 3 (frames): the walk of the law FramesAgain. -/
import Derived.Test.YteojolbcmgchpaaDoorV3Alive
import Derived.Test.YteojolbcmgchpaaDoorV3AgainM
import Derived.Test.YteojolbcmgchpaaDoorV3PutM
import Derived.Test.YteojolbcmgchpaaDoorV3Frs
namespace Go.Proofs.YteojolbcmgchpaaDoor
open Go.RowKit

theorem fcellsL_get : ∀ (L : List FrV), (∀ x ∈ L, x.1.tok.length = 16) → ∀ (j : Nat) (x : FrV) (c : Nat), L[j]? = some x → c < 24 → (fcellsL L)[j * 24 + c]? = (cellsF x.1 x.2.1 x.2.2)[c]?
  | [], _, j, x, c, h, _ => by simp at h
  | y :: L, ht, j, x, c, h, hc => by
    have hl : (cellsF y.1 y.2.1 y.2.2).length = 24 := cF_len _ _ _ (ht y (by simp))
    show (cellsF y.1 y.2.1 y.2.2 ++ fcellsL L)[j * 24 + c]? = _
    cases j with
    | zero =>
      obtain rfl : y = x := by simpa using h
      rw [Nat.zero_mul, Nat.zero_add, List.getElem?_append_left (by omega)]
    | succ j =>
      rw [List.getElem?_append_right (by omega), hl, show (j + 1) * 24 + c - 24 = j * 24 + c by omega]
      exact fcellsL_get L (fun z hz => ht z (by simp [hz])) j x c (by simpa using h) hc

theorem parse_one {f : Fr} (of : f.Ok) (ht : f.tok.length = 16) (hl : f.data.length ≤ 1000000) (hr : rightB f = true) : parseM (putM f) = ([f], 0) := by
  rw [parseM_eq _ _ _ (loop_one of ht hl hr [])]
  rfl

theorem w64in (n : Int) (h0 : 0 ≤ n) (h1 : n ≤ 9223372036854775807) : wrap64 n = n := by unfold wrap64; omega

set_option maxRecDepth 100000 in
set_option maxHeartbeats 4000000 in
theorem walk_FramesAgain (A : Option Addr) (len cap : Nat) (zs : List Int) (w : World) (x0 : IsRow .u8 w A len cap zs) (hT : Tab w) : Calls Tryd.prog 7 #[.slice A len cap] w fun e w' => e = .returned (.bool true) ∧ Chg none_ w w' := by
  obtain ⟨bb, rfl, _, hm, hb, hv⟩ := x0.u8
  have hmx : bb.length ≤ maxLen := by omega
  have HAL := Lib.hid (alive_any w hT)
  by_cases hlong : 2000 < bb.length
  · have q0 : (2000 : Int) < (bb.length : Int) := by omega
    clear hv hb
    go_enter Tryd.func7, Tryd.ntmps7
    go_wp2_with (go_at_call 10; refine HAL.out.mono ?_; rintro e w1 ⟨rfl, hc1⟩; have HC1 := Lib.hid hc1; clear hc1)
    go_ret
    exact ⟨rfl, HC1.out⟩
  have q0 : ¬ (2000 : Int) < (bb.length : Int) := by omega
  have HPR := Lib.hid (fun w' (hc : Chg none_ w w') => parse_any w' _ A cap bb (hv.chg hc (fun _ _ h => h)) (by omega) hb)
  have HRT := Lib.hid (parse_right bb)
  have HOK := Lib.hid (parse_ok bb hb)
  have hERR := parse_err bb
  have HT := Lib.hid hT
  clear hv hb hT
  generalize parseM bb = U at *
  by_cases he : U.2 = 0
  · have q1 : (U.2 != 0) = false := by rw [he]; rfl
    clear hERR
    go_enter Tryd.func7, Tryd.ntmps7
    go_wp2_with (first | (go_at_call 10; refine HAL.out.mono ?_; rintro e w1 ⟨rfl, hc1⟩; have HC1 := Lib.hid hc1; clear hc1) | (go_at_call 20; refine (HPR.out _ HC1.out).mono ?_; rintro e w3 ⟨v3, L, base, T3, rfl, hfs, hbase, hL, hc3⟩; have HFS := Lib.hid hfs; have HLL := Lib.hid hL; have HC3 := Lib.hid (HC1.out.trans hc3); clear hfs hbase hL hc3))
    obtain ⟨A3, cap3, hv3, _, _, hvw⟩ := view_ownN HFS.out.own
    subst hv3
    have HV := Lib.hid hvw
    clear hvw
    go_loopw [5] (fun i wr => ∃ j : Nat, j ≤ L.length ∧ i = .int .i64 (j : Int) ∧ Hid (Chg none_ w3 wr)) (fun i _ => L.length - (intOf i).toNat)
    case atStart => exact ⟨0, Nat.zero_le _, rfl, Lib.hid (Chg.refl _ _)⟩
    case round =>
      obtain ⟨j, hj, rfl, HCR⟩ := hrel
      by_cases hlt : j < L.length
      · have HLT := Lib.hid hlt
        have HJM : Hid (j + 1 ≤ 9223372036854775807) := Lib.hid (by have h1 : maxLen ≤ 9223372036854775807 := by (unfold maxLen; omega)
                                                                    omega)
        obtain ⟨b, o, hA, hbl, _, hcell⟩ := HV.out.2 (by omega)
        subst hA
        obtain ⟨⟨f, sd, sr⟩, hx⟩ : ∃ x, x = L[j] := ⟨_, rfl⟩
        have hmem : (f, sd, sr) ∈ L := by rw [hx]; exact List.getElem_mem hlt
        have hfd := HFS.out.at_ _ hmem
        have hfm : f ∈ U.1 := by rw [← HLL.out]; exact List.mem_map.2 ⟨_, hmem, rfl⟩
        have hr := HRT.out f hfm
        have hok := HOK.out f hfm
        have hdl : f.data.length ≤ 1000000 := by obtain ⟨_, ⟨_, _, _, h, _⟩, _⟩ := hfd; exact h
        have HTK : Hid (f.tok.length = 16) := Lib.hid hfd.tok
        have HG : Hid (∀ w', Chg none_ w3 w' → w'.rangeAt b (o + j * 24) (cellsF f sd sr)) := Lib.hid (fun w' hc c v hv => by
          have hc24 : c < 24 := by
            rcases Nat.lt_or_ge c 24 with h | h
            · exact h
            · rw [List.getElem?_eq_none (by rw [cF_len _ _ _ HTK.out]; exact h)] at hv; cases hv
          have h1 := hcell (j * 24 + c) (by omega)
          rw [fcellsL_get L (fun x hx => (HFS.out.at_ x hx).tok) j (f, sd, sr) c (by rw [hx]; exact List.getElem?_eq_getElem hlt) hc24, ← Nat.add_assoc] at h1
          exact ((hc.cell _ hbl (fun h => h)).trans h1).trans hv)
        have HPT : Hid (∀ w', Chg none_ w3 w' → Calls Tryd.prog 15 #[.agg (cellsF f sd sr).toArray] w' (BytesNew w' (putM f))) := Lib.hid (fun w' hc => Put_any f sd sr w' _ (HT.out.chg (HC3.out.trans hc) (fun h => h)) (hfd.chg hc (fun _ _ h => h)) hok)
        have HP1 : Hid (∀ w' T A c, View w' T A (putM f).length (u8s (putM f)) → Calls Tryd.prog 20 #[.slice A (putM f).length c] w' (ParsePost ([f], 0) w')) := Lib.hid (fun w' T A c hv => by
          have := parse_any w' T A c (putM f) hv (putM_small hok hfd.tok hr) (putM_lt f hok)
          rw [parse_one hok hfd.tok hdl hr] at this
          exact this)
        have HFD := Lib.hid hfd
        have HOKF := Lib.hid hok
        have hj0 : (0 : Int) ≤ (j : Int) := by omega
        have hj1 : (j : Int) < (L.length : Int) := by omega
        clear hcell hx hmem hfd hfm hr hok hdl hj
        generalize putM f = PB at *
        go_wp2_with (first | ((with_reducible show wpList _ _ _ (⟨some 33, _, _, _, _, _⟩ :: _) _ _); refine wpList_load_Mid (cs := cellsF f sd sr) rfl rfl rfl (HG.out _ HCR.out) Tryd.underlying27 rfl (by rw [cF_len _ _ _ HTK.out]; exact size27) ?_) | (go_at_call 15; refine (HPT.out _ HCR.out).mono ?_; rintro e w4 ⟨A4, c4, rfl, hv4, hc4⟩; have HV4 := Lib.hid hv4; have HC4 := Lib.hid (HCR.out.trans hc4); clear hv4 hc4) | (go_at_call 20; refine (HP1.out _ _ _ _ HV4.out).mono ?_; rintro e w5 ⟨v5, L5, b5, T5, rfl, hfs5, _, hL5, hc5⟩; have HFS5 := Lib.hid hfs5; have HL5 := Lib.hid hL5; have HC5 := Lib.hid (HC4.out.trans hc5); clear hfs5 hL5 hc5))
        have hL5 : L5.map (·.1) = [f] := HL5.out
        obtain ⟨sd5, sr5, rfl⟩ : ∃ a b, L5 = [(f, a, b)] := by
          rcases L5 with _ | ⟨⟨f1, a1, b1⟩, _ | ⟨y, L5⟩⟩
          · cases hL5
          · simp only [List.map_cons, List.map_nil, List.cons.injEq, and_true] at hL5
            subst hL5
            exact ⟨_, _, rfl⟩
          · simp at hL5
        obtain ⟨g5, cap5, rfl, HV5⟩ : ∃ g cap, v5 = .slice (some ⟨g, 0, none⟩) 1 cap ∧ Hid (View w5 (fun _ => True) (some ⟨g, 0, none⟩) 24 (cellsF f sd5 sr5)) := by
          obtain ⟨A, cap, h1, _, _, h4⟩ := view_ownN HFS5.out.own
          rcases HFS5.out.own.2 with ⟨h2, _⟩ | ⟨g, cap2, cur, h2, _⟩
          · rw [h1] at h2; cases h2
          · rw [h1] at h2
            simp only [Value.slice.injEq] at h2
            obtain ⟨rfl, _, rfl⟩ := h2
            refine ⟨g, cap, h1, Lib.hid ?_⟩
            have h5 : View w5 _ (some ⟨g, 0, none⟩) (1 * 24) (fcellsL [(f, sd5, sr5)]) := h4
            have h6 : fcellsL [(f, sd5, sr5)] = cellsF f sd5 sr5 := by simp [fcellsL]
            rw [h6] at h5
            exact h5.mono (fun _ _ _ => trivial)
        have HD5 : Hid (FrD w5 T5 f sd5 sr5) := Lib.hid (HFS5.out.at_ (f, sd5, sr5) (by simp))
        have HG5 : Hid (∀ w', Chg none_ w5 w' → w'.rangeAt g5 0 (cellsF f sd5 sr5)) := Lib.hid (fun w' hc c v hv => by
          have hc24 : c < 24 := by
            rcases Nat.lt_or_ge c 24 with h | h
            · exact h
            · rw [List.getElem?_eq_none (by rw [cF_len _ _ _ HTK.out]; exact h)] at hv; cases hv
          obtain ⟨b1, o1, hA, hb1, _, hcell⟩ := HV5.out.2 (by omega)
          cases hA
          exact ((hc.cell _ hb1 (fun h => h)).trans (hcell c (by omega))).trans hv)
        have HG3 : Hid (∀ w', Chg none_ w5 w' → w'.rangeAt b (o + j * 24) (cellsF f sd sr)) := Lib.hid (fun w' hc => HG.out w' (HC5.out.trans hc))
        have HSF : Hid (∀ w', Chg none_ w5 w' → Calls Tryd.prog 17 #[.agg (cellsF f sd5 sr5).toArray, .agg (cellsF f sd sr).toArray] w' fun e w'' => e = .returned (.bool true) ∧ Chg none_ w' w'') := Lib.hid (fun w' hc => by
          have := sameF_any f f sd5 sr5 sd sr w' _ _ (HD5.out.chg hc (fun _ _ h => h)) (HFD.out.chg (HC5.out.trans hc) (fun _ _ h => h)) HOKF.out HOKF.out
          rw [decide_eq_true rfl] at this
          exact this)
        try simp only [Act.put, List.setIfInBounds_toArray, List.set_cons_zero, List.set_cons_succ]
        refine wp_region_held_drew (S := fun w' => Chg none_ w5 w') (by kernel_rfl) ((Chg.refl none_ w5).drew) (fun hch0 => ?_)
        generalize w5.drew = wd at hch0 ⊢
        refine wpAnyH_take (i := 0) (v := .int .i64 0) rfl (by kernel_rfl) (by kernel_rfl) (by kernel_rfl) (by first | exact fun _ _ _ h => h | exact fun _ _ _ h => nomatch h.1) (Or.inl ⟨by rfl, fun w_ hw_ => by go_simp⟩) hch0 ?_
        try simp only [Act.put, List.setIfInBounds_toArray, List.set_cons_zero, List.set_cons_succ, List.getElem_toArray, List.getElem_cons_zero]
        refine wpAnyH_take (i := 1) (v := .bool false) rfl (by kernel_rfl) (by kernel_rfl) (by kernel_rfl) (by first | exact fun _ _ _ h => h | exact fun _ _ _ h => nomatch h.1) (Or.inl ⟨by rfl, fun w_ hw_ => by go_simp⟩) hch0 ?_
        try simp only [Act.put, List.setIfInBounds_toArray, List.set_cons_zero, List.set_cons_succ, List.getElem_toArray, List.getElem_cons_succ, List.getElem_cons_zero]
        refine wpAnyH_take (i := 2) (v := .bool false) rfl (by kernel_rfl) (by kernel_rfl) (by kernel_rfl) (by first | exact fun _ _ _ h => h | exact fun _ _ _ h => nomatch h.1) (Or.inl ⟨by rfl, fun w_ hw_ => by go_simp⟩) hch0 ?_
        try simp only [Act.put, List.setIfInBounds_toArray, List.set_cons_zero, List.set_cons_succ, List.getElem_toArray, List.getElem_cons_succ, List.getElem_cons_zero]
        refine wpAnyH_take (i := 3) (v := .slice (some ⟨g5, 0, none⟩) 1 cap5) rfl (by kernel_rfl) (by kernel_rfl) (by kernel_rfl) (by first | exact fun _ _ _ h => h | exact fun _ _ _ h => nomatch h.1) (Or.inl ⟨by rfl, fun w_ hw_ => by go_simp⟩) hch0 ?_
        try simp only [Act.put, List.setIfInBounds_toArray, List.set_cons_zero, List.set_cons_succ, List.getElem_toArray, List.getElem_cons_succ, List.getElem_cons_zero]
        refine wpAnyH_take (i := 4) (v := .int .i64 1) rfl (by kernel_rfl) (by kernel_rfl) (by kernel_rfl) (by first | exact fun _ _ _ h => h | exact fun _ _ _ h => nomatch h.1) (Or.inl ⟨by rfl, fun w_ hw_ => by go_simp⟩) hch0 ?_
        try simp only [Act.put, List.setIfInBounds_toArray, List.set_cons_zero, List.set_cons_succ, List.getElem_toArray, List.getElem_cons_succ, List.getElem_cons_zero]
        refine wpAnyH_take (i := 5) (v := .bool false) rfl (by kernel_rfl) (by kernel_rfl) (by kernel_rfl) (by first | exact fun _ _ _ h => h | exact fun _ _ _ h => nomatch h.1) (Or.inl ⟨by rfl, fun w_ hw_ => by go_simp⟩) hch0 ?_
        try simp only [Act.put, List.setIfInBounds_toArray, List.set_cons_zero, List.set_cons_succ, List.getElem_toArray, List.getElem_cons_succ, List.getElem_cons_zero]
        refine wpAnyH_take (i := 6) (v := .bool false) rfl (by kernel_rfl) (by kernel_rfl) (by kernel_rfl) (by first | exact fun _ _ _ h => h | exact fun _ _ _ h => nomatch h.1) (Or.inl ⟨by rfl, fun w_ hw_ => by go_simp⟩) hch0 ?_
        try simp only [Act.put, List.setIfInBounds_toArray, List.set_cons_zero, List.set_cons_succ, List.getElem_toArray, List.getElem_cons_succ, List.getElem_cons_zero]
        refine wpAnyH_take (i := 7) (v := .bool false) rfl (by kernel_rfl) (by kernel_rfl) (by kernel_rfl) (by first | exact fun _ _ _ h => h | exact fun _ _ _ h => nomatch h.1) (Or.inl ⟨by rfl, fun w_ hw_ => by go_simp⟩) hch0 ?_
        try simp only [Act.put, List.setIfInBounds_toArray, List.set_cons_zero, List.set_cons_succ, List.getElem_toArray, List.getElem_cons_succ, List.getElem_cons_zero]
        refine wpAnyH_take (i := 8) (v := .slice (some ⟨g5, 0, none⟩) 1 cap5) rfl (by kernel_rfl) (by kernel_rfl) (by kernel_rfl) (by first | exact fun _ _ _ h => h | exact fun _ _ _ h => nomatch h.1) (Or.inl ⟨by rfl, fun w_ hw_ => by go_simp⟩) hch0 ?_
        try simp only [Act.put, List.setIfInBounds_toArray, List.set_cons_zero, List.set_cons_succ, List.getElem_toArray, List.getElem_cons_succ, List.getElem_cons_zero]
        refine wpAnyH_take (i := 9) (v := .pointer (some ⟨g5, 0, none⟩)) rfl (by kernel_rfl) (by kernel_rfl) (by kernel_rfl) (by first | exact fun _ _ _ h => h | exact fun _ _ _ h => nomatch h.1) (Or.inl ⟨by rfl, fun w_ hw_ => by go_simp⟩) hch0 ?_
        try simp only [Act.put, List.setIfInBounds_toArray, List.set_cons_zero, List.set_cons_succ, List.getElem_toArray, List.getElem_cons_succ, List.getElem_cons_zero]
        refine wpAnyH_take (i := 10) (v := .agg (cellsF f sd5 sr5).toArray) rfl (by kernel_rfl) (by kernel_rfl) (by kernel_rfl) (by first | exact fun _ _ _ h => h | exact fun _ _ _ h => nomatch h.1) (yieldsIf_load_mid (by rfl) 27 _ rfl g5 0 rfl (cellsF f sd5 sr5) _ (fun w' hw' => HG5.out w' hw') Tryd.underlying27 rfl (by rw [cF_len _ _ _ HTK.out]; exact size27)) hch0 ?_
        try simp only [Act.put, List.setIfInBounds_toArray, List.set_cons_zero, List.set_cons_succ, List.getElem_toArray, List.getElem_cons_succ, List.getElem_cons_zero]
        refine wpAnyH_take (i := 11) (v := .slice (some ⟨b, o, none⟩) L.length cap3) rfl (by kernel_rfl) (by kernel_rfl) (by kernel_rfl) (by first | exact fun _ _ _ h => h | exact fun _ _ _ h => nomatch h.1) (Or.inl ⟨by rfl, fun w_ hw_ => by go_simp⟩) hch0 ?_
        try simp only [Act.put, List.setIfInBounds_toArray, List.set_cons_zero, List.set_cons_succ, List.getElem_toArray, List.getElem_cons_succ, List.getElem_cons_zero]
        refine wpAnyH_take (i := 12) (v := .int .i64 j) rfl (by kernel_rfl) (by kernel_rfl) (by kernel_rfl) (by first | exact fun _ _ _ h => h | exact fun _ _ _ h => nomatch h.1) (Or.inl ⟨by rfl, fun w_ hw_ => by go_simp⟩) hch0 ?_
        try simp only [Act.put, List.setIfInBounds_toArray, List.set_cons_zero, List.set_cons_succ, List.getElem_toArray, List.getElem_cons_succ, List.getElem_cons_zero]
        refine wpAnyH_take (i := 13) (v := .pointer (some ⟨b, o + j * 24, none⟩)) rfl (by kernel_rfl) (by kernel_rfl) (by kernel_rfl) (by first | exact fun _ _ _ h => h | exact fun _ _ _ h => nomatch h.1) (Or.inl ⟨by rfl, fun w_ hw_ => by go_simp⟩) hch0 ?_
        try simp only [Act.put, List.setIfInBounds_toArray, List.set_cons_zero, List.set_cons_succ, List.getElem_toArray, List.getElem_cons_succ, List.getElem_cons_zero]
        refine wpAnyH_take (i := 14) (v := .agg (cellsF f sd sr).toArray) rfl (by kernel_rfl) (by kernel_rfl) (by kernel_rfl) (by first | exact fun _ _ _ h => h | exact fun _ _ _ h => nomatch h.1) (yieldsIf_load_mid (by rfl) 27 _ rfl b (o + j * 24) rfl (cellsF f sd sr) _ (fun w' hw' => HG3.out w' hw') Tryd.underlying27 rfl (by rw [cF_len _ _ _ HTK.out]; exact size27)) hch0 ?_
        try simp only [Act.put, List.setIfInBounds_toArray, List.set_cons_zero, List.set_cons_succ, List.getElem_toArray, List.getElem_cons_succ, List.getElem_cons_zero]
        refine wpAnyH_ready (rs := [15]) (by kernel_rfl) (by simp) ?_
        refine AllReadyH.cons rfl (fun K hK => ?_) AllReadyH.nil
        rw [if_pos (by rfl)]
        try simp only [List.getElem_toArray, List.getElem_cons_succ, List.getElem_cons_zero]
        go_simp
        refine (HSF.out _ hch0).mono ?_
        rintro e y1 ⟨rfl, hcy1⟩
        have hch1 : Chg none_ w5 y1 := hch0.trans hcy1
        refine hK.out _ _ (hch1) (fun _ => ?_)
        clear hK K
        try simp only [Act.put, List.setIfInBounds_toArray, List.set_cons_zero, List.set_cons_succ, List.getElem_toArray, List.getElem_cons_succ, List.getElem_cons_zero]
        refine wpAnyH_take (i := 16) (v := .bool false) rfl (by kernel_rfl) (by kernel_rfl) (by kernel_rfl) (by first | exact fun _ _ _ h => h | exact fun _ _ _ h => nomatch h.1) (Or.inl ⟨by rfl, fun w_ hw_ => by go_simp⟩) hch1 ?_
        try simp only [Act.put, List.setIfInBounds_toArray, List.set_cons_zero, List.set_cons_succ, List.getElem_toArray, List.getElem_cons_succ, List.getElem_cons_zero]
        refine wpAnyH_take (i := 17) (v := .bool false) rfl (by kernel_rfl) (by kernel_rfl) (by kernel_rfl) (by first | exact fun _ _ _ h => h | exact fun _ _ _ h => nomatch h.1) (Or.inl ⟨by rfl, fun w_ hw_ => by go_simp⟩) hch1 ?_
        try simp only [Act.put, List.setIfInBounds_toArray, List.set_cons_zero, List.set_cons_succ, List.getElem_toArray, List.getElem_cons_succ, List.getElem_cons_zero]
        refine wpAnyH_done (by kernel_rfl) ?_ _
        go_wp2
        go_roundw
        case rel => exact ⟨j + 1, by have := HLT.out; omega, by (have := HJM.out; rw [w64in _ (by omega) (by omega)]; rfl), Lib.hid (HC5.out.trans hch1)⟩
        case measure =>
          have hl1 := HLT.out
          have hj1 := HJM.out
          rw [w64in _ (by omega) (by omega)]
          simp only [intOf]
          omega
      · have hjl : j = L.length := by omega
        subst hjl
        have q2 : ¬ ((L.length : Nat) : Int) < ((L.length : Nat) : Int) := by omega
        go_wp2
        go_ret
        exact ⟨rfl, HC3.out.trans HCR.out⟩
  · have q1 : (U.2 != 0) = true := by rw [bne_iff_ne]; exact he
    have hu := hERR he
    clear hERR
    go_enter Tryd.func7, Tryd.ntmps7
    go_wp2_with (first | (go_at_call 10; refine HAL.out.mono ?_; rintro e w1 ⟨rfl, hc1⟩; have HC1 := Lib.hid hc1; clear hc1) | (go_at_call 20; refine (HPR.out _ HC1.out).mono ?_; rintro e w3 ⟨v3, L, base, T3, rfl, hfs, hbase, hL, hc3⟩; obtain ⟨A3, cap3, hv3, _, _, _⟩ := view_ownN hfs.own; subst hv3; have HFS := Lib.hid hfs; have HLL := Lib.hid hL; have HC3 := Lib.hid (HC1.out.trans hc3); clear hfs hbase hL hc3))
    have hl0 : L.length = 0 := by have := congrArg List.length HLL.out; rw [hu, List.length_map] at this; exact this
    have hl9 : ((L.length : Nat) : Int) = 0 := by omega
    go_ret
    exact ⟨by simp [hl9], HC3.out⟩
end Go.Proofs.YteojolbcmgchpaaDoor
