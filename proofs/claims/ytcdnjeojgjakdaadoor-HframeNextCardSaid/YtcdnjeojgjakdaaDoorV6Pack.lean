/- Layer 6 (hframe): a text behind its length; Pack. -/
import Derived.Test.YtcdnjeojgjakdaaDoorV6Wrong
import Derived.Test.YtcdnjeojgjakdaaDoorV6Math
import Derived.Test.YtcdnjeojgjakdaaDoorCatG
import Derived.Deep.RegionHeld3
namespace Go.Proofs.YtcdnjeojgjakdaaDoor
open Go.RowKit

theorem sizeF : (Tryd.prog.info? 52).map (·.size) = some 2 := by kernel_rfl
set_option maxRecDepth 100000 in
theorem counted_any (s : ByteArray) (w : World) (hT : Tab w) (hs : s.size ≤ 100000) : Calls Tryd.prog 38 #[.string s] w (GotBytes w (textE s)) := by
  obtain ⟨i0, hi, hz0, hz1, hz2⟩ := info_parts info5
  have HP := Lib.hid (put_any s.size w hT)
  have hw64 : IntKind.u64.wrap ((s.size : Nat) : Int) = (s.size : Int) := IntWalk.u64_in _ (by omega)
  clear hT
  go_enter Tryd.func38, Tryd.ntmps38
  go_wp2_with fail
  refine HP.out.mono ?_
  rintro e w1 ⟨v, rfl, hv⟩
  have hE := encI_len8 s.size
  have hown := own_of_new hv (by unfold maxLen; unfold encI at hE; omega)
  have HOWN := Lib.hid hown
  have HC1 := Lib.hid hv.1
  have HE : Hid ((wideB s.size (szN s.size)).length ≤ 8) := hE
  have HLT : Hid (textE s = wideB s.size (szN s.size) ++ bs s) := rfl
  clear hown hv hE hw64
  generalize wideB s.size (szN s.size) = L at *
  have hl8 := HE.out
  go_wp2_with (at_builtin; refine Lib.wpList_append_own_string _ rfl _ _ 24 9 rfl w.heap.size 5 i0 Tryd.underlying24 Tryd.underlying9 hi hz0 hz1 hz2 v L.length (u8s L) rfl HOWN.out s rfl (by unfold maxLen; omega) (by omega) HC1.out.size ?_; intro v2 w2 hown2 hgrow2 _)
  rw [bs_cells, u8s_append] at hown2
  obtain ⟨A2, c2, rfl, _, _, hv2⟩ := View.own (T := fun b => w.heap.size ≤ b) hown2 (fun _ h => h)
  have HG : Hid (GotBytes w (textE s) (.returned (.slice A2 (L.length + s.size) c2)) w2) := by
    have hlen : (L ++ bs s).length = L.length + s.size := by rw [List.length_append, bs_len]
    rw [← hlen] at hv2 hown2 ⊢
    show GotBytes _ _ _ _
    rw [HLT.out]
    exact ⟨A2, c2, rfl, ⟨hv2, hown2⟩, HC1.out.append (Nat.le_refl _) HOWN.out hgrow2⟩
  clear hown2 hgrow2 hv2
  go_wp2
  go_ret
  exact HG.out

theorem packE_snoc (l : List Fld) (k : Nat) (x : Fld) (hk : k < l.length) (h : l.getD k fld0 = x) : packE (l.take (k + 1)) = packE (l.take k) ++ ([32] ++ (textE x.1 ++ textE x.2)) := by
  rw [List.take_succ_eq_append_getElem hk]
  rw [List.getD_eq_getElem?_getD, List.getElem?_eq_getElem hk] at h
  simp only [Option.getD_some] at h
  simp [packE, h, chunkF]

set_option maxRecDepth 100000 in
set_option maxHeartbeats 2000000 in
theorem pack_any (l : List Fld) (w : World) (T : Nat → Prop) (A : Option Addr) (c : Nat) (hv : View w T A (2 * l.length) (fcells l)) (hT : Tab w) :
    Calls Tryd.prog 23 #[.slice A l.length c] w (GotBytes w (packH l)) := by
  have HF := Lib.hid (fields_any w T A c l hv)
  cases hfb : fieldsB l
  · have HP : Hid (packH l = []) := by show _ = _; unfold packH; rw [hfb]; rfl
    rw [hfb] at HF
    clear hv hT hfb
    go_enter Tryd.func23, Tryd.ntmps23
    go_wp2_with fail
    refine HF.out.mono ?_
    rintro e w1 ⟨rfl, hc⟩
    go_wp2
    go_ret
    rw [HP.out]
    exact ⟨none, 0, rfl, Fresh.nil _ _, hc⟩
  · have HP : Hid (packH l = packE l) := by show _ = _; unfold packH; rw [hfb]; rfl
    have HFA := Lib.hid (fields_all hfb)
    have h32 := HFA.out.1
    have HV := Lib.hid hv
    have HT := Lib.hid hT
    rw [hfb] at HF
    clear hv hT hfb
    go_enter Tryd.func23, Tryd.ntmps23
    go_wp2_with fail
    refine HF.out.mono ?_
    rintro e w1 ⟨rfl, hch1⟩
    have HC1 := Lib.hid hch1
    clear HF hch1
    go_wp2
    go_loopw [3, 11] (fun v i wr => ∃ (k : Nat) (A1 : Option Addr) (c1 : Nat), k ≤ l.length ∧ i = .int .i64 k ∧ v = .slice A1 (packE (l.take k)).length c1 ∧ Fresh wr w.heap.size A1 c1 (packE (l.take k)) ∧ Chg none_ w wr) (fun _ i _ => l.length - (intOf i).toNat)
    case atStart => exact ⟨0, none, 0, Nat.zero_le _, rfl, rfl, Fresh.nil _ _, HC1.out⟩
    case round =>
      obtain ⟨k, A1, c1, hk, rfl, rfl, hs1, hch⟩ := hrel
      by_cases hlt : k < l.length
      · obtain ⟨b, o, rfl, hbl, _, hc⟩ := HV.out.flds (by omega)
        obtain ⟨q1, q2⟩ := hc k hlt
        rw [← hch.cell _ hbl (fun h => h)] at q1 q2
        have hk0 : (0 : Int) ≤ (k : Int) := by omega
        have hk1 : (k : Int) < (l.length : Int) := by omega
        have HCH := Lib.hid hch
        have HS1 : Hid (Slc wr A1 (packE (l.take k))) := ⟨hs1.view.mono (fun _ _ _ => trivial)⟩
        clear hc hch hs1
        have hxm : l.getD k fld0 ∈ l := by rw [List.getD_eq_getElem?_getD, List.getElem?_eq_getElem hlt]; exact List.getElem_mem _
        have hwl := wrong_le (HFA.out.2 _ hxm)
        generalize hx : l.getD k fld0 = x at q1 q2 hwl
        have HSN := Lib.hid (packE_snoc l k x hlt hx)
        clear hx hxm
        obtain ⟨nm, vl⟩ := x
        simp only at q1 q2 hwl
        have hle := packE_len (l.take k) (fun x hx => HFA.out.2 x (List.mem_of_mem_take hx))
        have hlk : (l.take k).length ≤ k := by rw [List.length_take]; omega
        have hE1 : (textE nm).length ≤ 68 := by have := encI_len8 nm.size; simp only [textE, List.length_append, bs_len]; omega
        have hE2 : (textE vl).length ≤ 208 := by have := encI_len8 vl.size; simp only [textE, List.length_append, bs_len]; omega
        generalize packE (l.take k) = L at HS1 HSN hle ⊢
        go_wp2_with ((with_reducible show wpList _ _ _ (⟨_, .store 52 _ _, _, _, _, _⟩ :: _) _ _); refine wpList_store_Row (xs := [.string nm, .string vl]) rfl rfl rfl (Row.new wr 52 [.string ByteArray.empty, .string ByteArray.empty]) rfl rfl sizeF rfl ?_; intro w3 hr3 hch3 hs3; have HD3 := Lib.hid (hch3 none_ wr ((Chg.refl none_ wr).alloc _) (fun h => absurd h (by omega))); have HR3 := Lib.hid hr3; clear hr3 hch3 hs3)
        have hch0 : Chg none_ w3 w3.drew := (Chg.refl none_ w3).drew
        have HX := Lib.hid (fun w' (hc : Chg none_ w3 w') => HR3.out.chg hc (fun h => h))
        have HTX := Lib.hid (fun w' (hc : Chg none_ w3 w') => ((HT.out.chg HCH.out (fun h => h)).chg HD3.out (fun h => h)).chg hc (fun h => h))
        have HSX := Lib.hid (fun w' (hc : Chg none_ w3 w') => ((HS1.out.chg HD3.out)).chg hc)
        refine wp_region_held_drew (S := fun w' => Chg none_ w3 w') (by kernel_rfl) hch0 (fun _ => ?_)
        refine wpAnyH_take (i := 0) (v := .slice A1 L.length c1) rfl (by kernel_rfl) (by kernel_rfl) (by kernel_rfl) (by first | exact fun _ _ _ h => h | exact fun _ _ _ h => nomatch h.1) (Or.inl ⟨by rfl, fun w' hw' => by go_simp⟩) hch0 ?_
        refine wpAnyH_take (i := 2) (v := .pointer (some ⟨wr.heap.size, 0, none⟩)) rfl (by kernel_rfl) (by kernel_rfl) (by kernel_rfl) (by first | exact fun _ _ _ h => h | exact fun _ _ _ h => nomatch h.1) (Or.inl ⟨by rfl, fun w' hw' => by go_simp⟩) hch0 ?_
        refine wpAnyH_take (i := 3) (v := .string nm) rfl (by kernel_rfl) (by kernel_rfl) (by kernel_rfl) (by first | exact fun _ _ _ h => h | exact fun _ _ _ h => nomatch h.1) (Or.inl ⟨by rfl, fun w' hw' => by have hh := (HX.out w' hw').cell 0; simp only [List.getElem?_cons_zero] at hh; go_simp⟩) hch0 ?_
        refine wpAnyH_take (i := 5) (v := .pointer (some ⟨wr.heap.size, 1, none⟩)) rfl (by kernel_rfl) (by kernel_rfl) (by kernel_rfl) (by first | exact fun _ _ _ h => h | exact fun _ _ _ h => nomatch h.1) (Or.inl ⟨by rfl, fun w' hw' => by go_simp⟩) hch0 ?_
        refine wpAnyH_take (i := 6) (v := .string vl) rfl (by kernel_rfl) (by kernel_rfl) (by kernel_rfl) (by first | exact fun _ _ _ h => h | exact fun _ _ _ h => nomatch h.1) (Or.inl ⟨by rfl, fun w' hw' => by have hh := (HX.out w' hw').cell 1; simp only [List.getElem?_cons_zero, List.getElem?_cons_succ] at hh; go_simp⟩) hch0 ?_
        refine wpAnyH_ready (rs := [1, 4]) (by kernel_rfl) (by simp) ?_
        refine AllReadyH.cons rfl (fun K hK => ?_) (AllReadyH.cons rfl (fun K hK => ?_) AllReadyH.nil)
        · rw [if_pos (by rfl)]
          try simp only [List.getElem_toArray, List.getElem_cons_succ, List.getElem_cons_zero]
          go_simp
          have hch_1 : Chg none_ w3 _ := hch0.alloc (.cells #[.int .u8 32] 5)
          refine hK.out _ _ hch_1 (fun _ => ?_)
          clear hK K
          try simp only [Act.put, List.setIfInBounds_toArray, List.set_cons_zero, List.set_cons_succ, List.getElem_toArray, List.getElem_cons_succ, List.getElem_cons_zero]
          have s32 : Slc (w3.drew.alloc (.cells #[.int .u8 32] 5)) (some ⟨w3.heap.size, 0, none⟩) [32] := ⟨View.row (cs := u8s [32]) (Row.new w3.drew 5 (u8s [32])) (by simp) trivial⟩
          refine wpAnyH_ready (rs := [4]) (by kernel_rfl) (by simp) ?_
          refine AllReadyH.cons rfl (fun K hK => ?_) AllReadyH.nil
          rw [if_pos (by rfl)]
          try simp only [List.getElem_toArray, List.getElem_cons_succ, List.getElem_cons_zero]
          go_simp
          refine (counted_any nm _ (HTX.out _ hch_1) (by omega)).mono ?_
          rintro e w4 ⟨A4, c4, rfl, fs4, hcw4⟩
          have hch_14 := hch_1.trans hcw4
          have s4 : Slc w4 A4 (textE nm) := ⟨fs4.view.mono (fun _ _ _ => trivial)⟩
          have s32 := s32.chg hcw4
          refine hK.out _ _ hch_14 (fun _ => ?_)
          clear hK K
          try simp only [Act.put, List.setIfInBounds_toArray, List.set_cons_zero, List.set_cons_succ, List.getElem_toArray, List.getElem_cons_succ, List.getElem_cons_zero]
          refine wpAnyH_ready (rs := [7]) (by kernel_rfl) (by simp) ?_
          refine AllReadyH.cons rfl (fun K hK => ?_) AllReadyH.nil
          rw [if_pos (by rfl)]
          try simp only [List.getElem_toArray, List.getElem_cons_succ, List.getElem_cons_zero]
          go_simp
          refine (counted_any vl _ (HTX.out _ hch_14) (by omega)).mono ?_
          rintro e w5 ⟨A5, c5, rfl, fs5, hcw5⟩
          have hch_147 := hch_14.trans hcw5
          have s5 : Slc w5 A5 (textE vl) := ⟨fs5.view.mono (fun _ _ _ => trivial)⟩
          have s32 := s32.chg hcw5
          have s4 := s4.chg hcw5
          refine hK.out _ _ hch_147 (fun _ => ?_)
          clear hK K
          try simp only [Act.put, List.setIfInBounds_toArray, List.set_cons_zero, List.set_cons_succ, List.getElem_toArray, List.getElem_cons_succ, List.getElem_cons_zero]
          refine wpAnyH_ready (rs := [8]) (by kernel_rfl) (by simp) ?_
          refine AllReadyH.cons rfl (fun K hK => ?_) AllReadyH.nil
          rw [if_pos (by rfl)]
          try simp only [List.getElem_toArray, List.getElem_cons_succ, List.getElem_cons_zero]
          go_simp
          have hch6 : Chg none_ w3 _ := hch_147.alloc (.cells #[.slice A1 L.length c1, .slice (some ⟨w3.heap.size, 0, none⟩) 1 1, .slice A4 (textE nm).length c4, .slice A5 (textE vl).length c5] 24)
          refine hK.out _ _ hch6 (fun _ => ?_)
          clear hK K
          try simp only [Act.put, List.setIfInBounds_toArray, List.set_cons_zero, List.set_cons_succ, List.getElem_toArray, List.getElem_cons_succ, List.getElem_cons_zero]
          refine wpAnyH_ready (rs := [9]) (by kernel_rfl) (by simp) ?_
          refine AllReadyH.cons rfl (fun K hK => ?_) AllReadyH.nil
          rw [if_pos (by rfl)]
          try simp only [List.getElem_toArray, List.getElem_cons_succ, List.getElem_cons_zero]
          go_simp
          have hcat := cat4G w5 A1 (some ⟨w3.heap.size, 0, none⟩) A4 A5 c1 1 c4 c5 L [32] (textE nm) (textE vl) (HSX.out _ hch_147) s32 s4 s5 (by simp only [List.length_cons, List.length_nil]; omega)
          refine hcat.mono ?_
          rintro e w7 ⟨A7, c7, rfl, s7, hc7⟩
          have hch7 := hch_147.trans hc7
          refine hK.out _ _ hch7 (fun _ => ?_)
          clear hK K
          try simp only [Act.put, List.setIfInBounds_toArray, List.set_cons_zero, List.set_cons_succ, List.getElem_toArray, List.getElem_cons_succ, List.getElem_cons_zero]
          refine wpAnyH_take (i := 10) (v := .slice A7 (L ++ ([32] ++ (textE nm ++ textE vl))).length c7) rfl (by kernel_rfl) (by kernel_rfl) (by kernel_rfl) (by first | exact fun _ _ _ h => h | exact fun _ _ _ h => nomatch h.1) (Or.inl ⟨by rfl, fun w' hw' => by go_simp⟩) hch7 ?_
          refine wpAnyH_done (by kernel_rfl) ?_ _
          try simp only [Act.put, List.setIfInBounds_toArray, List.set_cons_zero, List.set_cons_succ, List.getElem_toArray, List.getElem_cons_succ, List.getElem_cons_zero]
          have HD7 := Lib.hid (HCH.out.trans (HD3.out.trans hch7))
          have HV7 := Lib.hid (s7.base (Nat.le_trans (HCH.out.trans HD3.out).size hch_147.size))
          clear hch0 hch6 hch7 hc7 s4 s5 s7 s32
          go_wp2
          go_roundw
          case rel => exact ⟨k + 1, A7, c7, by omega, by go_num, by rw [HSN.out], by rw [HSN.out]; exact HV7.out, HD7.out⟩
          case measure => simp [intOf]; omega
        · rw [if_pos (by rfl)]
          try simp only [List.getElem_toArray, List.getElem_cons_succ, List.getElem_cons_zero]
          go_simp
          refine (counted_any nm _ (HTX.out _ hch0) (by omega)).mono ?_
          rintro e w4 ⟨A4, c4, rfl, fs4, hcw4⟩
          have hch_4 := hch0.trans hcw4
          have s4 : Slc w4 A4 (textE nm) := ⟨fs4.view.mono (fun _ _ _ => trivial)⟩
          refine hK.out _ _ hch_4 (fun _ => ?_)
          clear hK K
          try simp only [Act.put, List.setIfInBounds_toArray, List.set_cons_zero, List.set_cons_succ, List.getElem_toArray, List.getElem_cons_succ, List.getElem_cons_zero]
          refine wpAnyH_ready (rs := [1, 7]) (by kernel_rfl) (by simp) ?_
          refine AllReadyH.cons rfl (fun K hK => ?_) (AllReadyH.cons rfl (fun K hK => ?_) AllReadyH.nil)
          · rw [if_pos (by rfl)]
            try simp only [List.getElem_toArray, List.getElem_cons_succ, List.getElem_cons_zero]
            go_simp
            have hch_41 : Chg none_ w3 _ := hch_4.alloc (.cells #[.int .u8 32] 5)
            have s4 := s4.chg ((Chg.refl none_ _).alloc (.cells #[.int .u8 32] 5))
            refine hK.out _ _ hch_41 (fun _ => ?_)
            clear hK K
            try simp only [Act.put, List.setIfInBounds_toArray, List.set_cons_zero, List.set_cons_succ, List.getElem_toArray, List.getElem_cons_succ, List.getElem_cons_zero]
            have s32 : Slc (w4.alloc (.cells #[.int .u8 32] 5)) (some ⟨w4.heap.size, 0, none⟩) [32] := ⟨View.row (cs := u8s [32]) (Row.new w4 5 (u8s [32])) (by simp) trivial⟩
            refine wpAnyH_ready (rs := [7]) (by kernel_rfl) (by simp) ?_
            refine AllReadyH.cons rfl (fun K hK => ?_) AllReadyH.nil
            rw [if_pos (by rfl)]
            try simp only [List.getElem_toArray, List.getElem_cons_succ, List.getElem_cons_zero]
            go_simp
            refine (counted_any vl _ (HTX.out _ hch_41) (by omega)).mono ?_
            rintro e w5 ⟨A5, c5, rfl, fs5, hcw5⟩
            have hch_417 := hch_41.trans hcw5
            have s5 : Slc w5 A5 (textE vl) := ⟨fs5.view.mono (fun _ _ _ => trivial)⟩
            have s4 := s4.chg hcw5
            have s32 := s32.chg hcw5
            refine hK.out _ _ hch_417 (fun _ => ?_)
            clear hK K
            try simp only [Act.put, List.setIfInBounds_toArray, List.set_cons_zero, List.set_cons_succ, List.getElem_toArray, List.getElem_cons_succ, List.getElem_cons_zero]
            refine wpAnyH_ready (rs := [8]) (by kernel_rfl) (by simp) ?_
            refine AllReadyH.cons rfl (fun K hK => ?_) AllReadyH.nil
            rw [if_pos (by rfl)]
            try simp only [List.getElem_toArray, List.getElem_cons_succ, List.getElem_cons_zero]
            go_simp
            have hch6 : Chg none_ w3 _ := hch_417.alloc (.cells #[.slice A1 L.length c1, .slice (some ⟨w4.heap.size, 0, none⟩) 1 1, .slice A4 (textE nm).length c4, .slice A5 (textE vl).length c5] 24)
            refine hK.out _ _ hch6 (fun _ => ?_)
            clear hK K
            try simp only [Act.put, List.setIfInBounds_toArray, List.set_cons_zero, List.set_cons_succ, List.getElem_toArray, List.getElem_cons_succ, List.getElem_cons_zero]
            refine wpAnyH_ready (rs := [9]) (by kernel_rfl) (by simp) ?_
            refine AllReadyH.cons rfl (fun K hK => ?_) AllReadyH.nil
            rw [if_pos (by rfl)]
            try simp only [List.getElem_toArray, List.getElem_cons_succ, List.getElem_cons_zero]
            go_simp
            have hcat := cat4G w5 A1 (some ⟨w4.heap.size, 0, none⟩) A4 A5 c1 1 c4 c5 L [32] (textE nm) (textE vl) (HSX.out _ hch_417) s32 s4 s5 (by simp only [List.length_cons, List.length_nil]; omega)
            refine hcat.mono ?_
            rintro e w7 ⟨A7, c7, rfl, s7, hc7⟩
            have hch7 := hch_417.trans hc7
            refine hK.out _ _ hch7 (fun _ => ?_)
            clear hK K
            try simp only [Act.put, List.setIfInBounds_toArray, List.set_cons_zero, List.set_cons_succ, List.getElem_toArray, List.getElem_cons_succ, List.getElem_cons_zero]
            refine wpAnyH_take (i := 10) (v := .slice A7 (L ++ ([32] ++ (textE nm ++ textE vl))).length c7) rfl (by kernel_rfl) (by kernel_rfl) (by kernel_rfl) (by first | exact fun _ _ _ h => h | exact fun _ _ _ h => nomatch h.1) (Or.inl ⟨by rfl, fun w' hw' => by go_simp⟩) hch7 ?_
            refine wpAnyH_done (by kernel_rfl) ?_ _
            try simp only [Act.put, List.setIfInBounds_toArray, List.set_cons_zero, List.set_cons_succ, List.getElem_toArray, List.getElem_cons_succ, List.getElem_cons_zero]
            have HD7 := Lib.hid (HCH.out.trans (HD3.out.trans hch7))
            have HV7 := Lib.hid (s7.base (Nat.le_trans (HCH.out.trans HD3.out).size hch_417.size))
            clear hch0 hch6 hch7 hc7 s4 s5 s7 s32
            go_wp2
            go_roundw
            case rel => exact ⟨k + 1, A7, c7, by omega, by go_num, by rw [HSN.out], by rw [HSN.out]; exact HV7.out, HD7.out⟩
            case measure => simp [intOf]; omega
          · rw [if_pos (by rfl)]
            try simp only [List.getElem_toArray, List.getElem_cons_succ, List.getElem_cons_zero]
            go_simp
            refine (counted_any vl _ (HTX.out _ hch_4) (by omega)).mono ?_
            rintro e w5 ⟨A5, c5, rfl, fs5, hcw5⟩
            have hch_47 := hch_4.trans hcw5
            have s5 : Slc w5 A5 (textE vl) := ⟨fs5.view.mono (fun _ _ _ => trivial)⟩
            have s4 := s4.chg hcw5
            refine hK.out _ _ hch_47 (fun _ => ?_)
            clear hK K
            try simp only [Act.put, List.setIfInBounds_toArray, List.set_cons_zero, List.set_cons_succ, List.getElem_toArray, List.getElem_cons_succ, List.getElem_cons_zero]
            refine wpAnyH_ready (rs := [1]) (by kernel_rfl) (by simp) ?_
            refine AllReadyH.cons rfl (fun K hK => ?_) AllReadyH.nil
            rw [if_pos (by rfl)]
            try simp only [List.getElem_toArray, List.getElem_cons_succ, List.getElem_cons_zero]
            go_simp
            have hch_471 : Chg none_ w3 _ := hch_47.alloc (.cells #[.int .u8 32] 5)
            have s4 := s4.chg ((Chg.refl none_ _).alloc (.cells #[.int .u8 32] 5))
            have s5 := s5.chg ((Chg.refl none_ _).alloc (.cells #[.int .u8 32] 5))
            refine hK.out _ _ hch_471 (fun _ => ?_)
            clear hK K
            try simp only [Act.put, List.setIfInBounds_toArray, List.set_cons_zero, List.set_cons_succ, List.getElem_toArray, List.getElem_cons_succ, List.getElem_cons_zero]
            have s32 : Slc (w5.alloc (.cells #[.int .u8 32] 5)) (some ⟨w5.heap.size, 0, none⟩) [32] := ⟨View.row (cs := u8s [32]) (Row.new w5 5 (u8s [32])) (by simp) trivial⟩
            refine wpAnyH_ready (rs := [8]) (by kernel_rfl) (by simp) ?_
            refine AllReadyH.cons rfl (fun K hK => ?_) AllReadyH.nil
            rw [if_pos (by rfl)]
            try simp only [List.getElem_toArray, List.getElem_cons_succ, List.getElem_cons_zero]
            go_simp
            have hch6 : Chg none_ w3 _ := hch_471.alloc (.cells #[.slice A1 L.length c1, .slice (some ⟨w5.heap.size, 0, none⟩) 1 1, .slice A4 (textE nm).length c4, .slice A5 (textE vl).length c5] 24)
            refine hK.out _ _ hch6 (fun _ => ?_)
            clear hK K
            try simp only [Act.put, List.setIfInBounds_toArray, List.set_cons_zero, List.set_cons_succ, List.getElem_toArray, List.getElem_cons_succ, List.getElem_cons_zero]
            refine wpAnyH_ready (rs := [9]) (by kernel_rfl) (by simp) ?_
            refine AllReadyH.cons rfl (fun K hK => ?_) AllReadyH.nil
            rw [if_pos (by rfl)]
            try simp only [List.getElem_toArray, List.getElem_cons_succ, List.getElem_cons_zero]
            go_simp
            have hcat := cat4G (w5.alloc (.cells #[.int .u8 32] 5)) A1 (some ⟨w5.heap.size, 0, none⟩) A4 A5 c1 1 c4 c5 L [32] (textE nm) (textE vl) (HSX.out _ hch_471) s32 s4 s5 (by simp only [List.length_cons, List.length_nil]; omega)
            rw [show (w5.alloc (.cells #[.int .u8 32] 5)).heap.size = w5.heap.size + 1 from by simp] at hcat
            refine hcat.mono ?_
            rintro e w7 ⟨A7, c7, rfl, s7, hc7⟩
            have hch7 := hch_471.trans hc7
            refine hK.out _ _ hch7 (fun _ => ?_)
            clear hK K
            try simp only [Act.put, List.setIfInBounds_toArray, List.set_cons_zero, List.set_cons_succ, List.getElem_toArray, List.getElem_cons_succ, List.getElem_cons_zero]
            refine wpAnyH_take (i := 10) (v := .slice A7 (L ++ ([32] ++ (textE nm ++ textE vl))).length c7) rfl (by kernel_rfl) (by kernel_rfl) (by kernel_rfl) (by first | exact fun _ _ _ h => h | exact fun _ _ _ h => nomatch h.1) (Or.inl ⟨by rfl, fun w' hw' => by go_simp⟩) hch7 ?_
            refine wpAnyH_done (by kernel_rfl) ?_ _
            try simp only [Act.put, List.setIfInBounds_toArray, List.set_cons_zero, List.set_cons_succ, List.getElem_toArray, List.getElem_cons_succ, List.getElem_cons_zero]
            have HD7 := Lib.hid (HCH.out.trans (HD3.out.trans hch7))
            have HV7 := Lib.hid (s7.base (Nat.le_trans (HCH.out.trans HD3.out).size hch_471.size))
            clear hch0 hch6 hch7 hc7 s4 s5 s7 s32
            go_wp2
            go_roundw
            case rel => exact ⟨k + 1, A7, c7, by omega, by go_num, by rw [HSN.out], by rw [HSN.out]; exact HV7.out, HD7.out⟩
            case measure => simp [intOf]; omega
      · have hkl : k = l.length := by omega
        have HK := Lib.hid hkl
        have HCH := Lib.hid hch
        have HS1 := Lib.hid hs1
        clear hkl hch hs1
        have : ¬ (k : Int) < (l.length : Int) := by omega
        go_wp2
        go_ret
        have e1 : l.take k = l := by rw [HK.out, List.take_length]
        rw [e1] at HS1 ⊢
        rw [HP.out]
        exact ⟨A1, c1, rfl, HS1.out, HCH.out⟩
end Go.Proofs.YtcdnjeojgjakdaaDoor
