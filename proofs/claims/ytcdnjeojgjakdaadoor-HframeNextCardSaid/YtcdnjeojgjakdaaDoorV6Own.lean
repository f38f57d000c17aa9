/- Layer 6 (hframe): a frame's own bytes. -/
import Derived.Test.YtcdnjeojgjakdaaDoorV6Has
import Derived.Test.YtcdnjeojgjakdaaDoorV6Math
import Derived.Test.YtcdnjeojgjakdaaDoorCatG
import Derived.Deep.RegionHeld3
namespace Go.Proofs.YtcdnjeojgjakdaaDoor
open Go.RowKit

theorem cat3G (w : World) (A1 A2 A3 : Option Addr) (c1 c2 c3 : Nat) (l1 l2 l3 : List Nat) (h1 : Slc w A1 l1) (h2 : Slc w A2 l2) (h3 : Slc w A3 l3) (ht : l1.length + (l2.length + l3.length) ≤ 1000000) :
    Calls Tryd.prog 27 #[.slice (some ⟨w.heap.size, 0, none⟩) 3 3] (w.alloc (.cells #[.slice A1 l1.length c1, .slice A2 l2.length c2, .slice A3 l3.length c3] 24)) (GotBytes w (l1 ++ (l2 ++ l3))) := by
  have := cat_newG w (fun _ => True) [.slice A1 l1.length c1, .slice A2 l2.length c2, .slice A3 l3.length c3] [l1, l2, l3] rfl (fun i hi => by
    match i, hi with
    | 0, _ => exact ⟨A1, c1, rfl, h1.v⟩
    | 1, _ => exact ⟨A2, c2, rfl, h2.v⟩
    | 2, _ => exact ⟨A3, c3, rfl, h3.v⟩) (by simp [total]; omega) (by simp)
  simpa using this

/-- Bytes are told, wherever they lie. -/
def TellSlc (w : World) (l : List Nat) (e : Ending) (w' : World) : Prop := ∃ A c, e = .returned (.slice A l.length c) ∧ Slc w' A l ∧ Chg none_ w w'

section
variable (f : Hf) (ss sd : Value) (w : World) (T : Nat → Prop)
theorem putData_any (hf : HfD w T f ss sd) : Calls Tryd.prog 45 #[aggH f ss sd] w (TellSlc w f.data) := by
  obtain ⟨⟨A, c, rfl, ha, hva⟩, ⟨B, d, rfl, hb, hvb⟩⟩ := hf
  have hbx := boxed w f (.slice A f.sets.length c) (.slice B f.data.length d)
  have k3 := hbx.k3
  have HC := Lib.hid hbx.chg
  have HV := Lib.hid hvb
  clear hvb hva
  unfold aggH
  generalize hcs : cellsH f (.slice A f.sets.length c) (.slice B f.data.length d) = cs at *
  clear hbx hcs
  go_enter Tryd.func45, Tryd.ntmps45
  go_wp2
  go_ret
  exact ⟨B, d, rfl, ⟨(HV.out.chg HC.out (fun _ _ h => h)).mono (fun _ _ _ => trivial)⟩, HC.out⟩
theorem putId_any (hT : Tab w) : Calls Tryd.prog 48 #[aggH f ss sd] w (TellSlc w (encI f.id)) := by
  have hbx := boxed w f ss sd
  have k1 := hbx.k1
  have HC := Lib.hid hbx.chg
  have HP := Lib.hid (putSlc f.id _ (hT.chg HC.out (fun h => h)))
  unfold aggH
  generalize hcs : cellsH f ss sd = cs at *
  clear hbx hcs hT
  go_enter Tryd.func48, Tryd.ntmps48
  go_wp2_with fail
  refine HP.out.mono ?_
  rintro e w1 ⟨A, c, rfl, hs, hc⟩
  go_wp2
  go_ret
  exact ⟨A, c, rfl, hs, HC.out.trans hc⟩

theorem setsE_snoc (l : List (Nat × Nat)) (k x1 x2 : Nat) (hk : k < l.length) (h : l.getD k (0, 0) = (x1, x2)) : setsE (l.take (k + 1)) = setsE (l.take k) ++ (encI x1 ++ encI x2) := by
  rw [List.take_succ_eq_append_getElem hk]
  rw [List.getD_eq_getElem?_getD, List.getElem?_eq_getElem hk] at h
  simp only [Option.getD_some] at h
  simp [setsE, h]

set_option maxRecDepth 100000 in
set_option maxHeartbeats 1000000 in
theorem putSettings_any (hf : HfD w T f ss sd) (hT : Tab w) (h16 : f.sets.length ≤ 16) : Calls Tryd.prog 51 #[aggH f ss sd] w (TellSlc w (setsE f.sets)) := by
  obtain ⟨⟨A, c, rfl, ha, hva⟩, ⟨B, d, rfl, hb, hvb⟩⟩ := hf
  have hbx := boxed w f (.slice A f.sets.length c) (.slice B f.data.length d)
  have k2 := hbx.k2
  have HC := Lib.hid hbx.chg
  have HV := Lib.hid (hva.chg HC.out (fun _ _ h => h))
  have HT := Lib.hid (hT.chg HC.out (fun h => h))
  unfold aggH
  generalize hcs : cellsH f (.slice A f.sets.length c) (.slice B f.data.length d) = cs at *
  generalize f.sets = l at *
  clear hbx hcs hva hvb hb ha hT
  generalize hW : w.alloc (.cells cs.toArray 26) = W at *
  go_enter Tryd.func51, Tryd.ntmps51
  go_wp2
  have HW := Lib.hid hW
  clear hW
  go_loopw [3, 9] (fun v i wr => ∃ (k : Nat) (A1 : Option Addr) (c1 : Nat), k ≤ l.length ∧ i = .int .i64 k ∧ v = .slice A1 (setsE (l.take k)).length c1 ∧ Slc wr A1 (setsE (l.take k)) ∧ Chg none_ W wr) (fun _ i _ => l.length - (intOf i).toNat)
  case atStart => exact ⟨0, none, 0, Nat.zero_le _, rfl, rfl, ⟨View.none_ _ _ _⟩, Chg.refl _ _⟩
  case round =>
    obtain ⟨k, A1, c1, hk, rfl, rfl, hs1, hch⟩ := hrel
    by_cases hlt : k < l.length
    · obtain ⟨b, o, rfl, hbl, _, hc⟩ := HV.out.pairs (by omega)
      obtain ⟨q1, q2⟩ := hc k hlt
      rw [← hch.cell _ hbl (fun h => h)] at q1 q2
      have hk0 : (0 : Int) ≤ (k : Int) := by omega
      have hk1 : (k : Int) < (l.length : Int) := by omega
      have HCH := Lib.hid hch
      have HS1 := Lib.hid hs1
      clear hc hch hs1
      generalize hx : l.getD k (0, 0) = x at q1 q2
      have HXE := Lib.hid hx
      clear hx
      obtain ⟨x1, x2⟩ := x
      simp only at q1 q2
      have HSN := Lib.hid (setsE_snoc l k x1 x2 hlt HXE.out)
      have hle := setsE_len (l.take k)
      have hlk : (l.take k).length ≤ k := by rw [List.length_take]; omega
      generalize setsE (l.take k) = L at HS1 HSN hle ⊢
      go_wp2_with ((with_reducible show wpList _ _ _ (⟨_, .store 49 _ _, _, _, _, _⟩ :: _) _ _); refine wpList_store_Row (xs := [.int .u64 (x1 : Int), .int .u64 (x2 : Int)]) rfl rfl rfl (Row.new wr 49 [.int .u64 0, .int .u64 0]) rfl rfl sizeS rfl ?_; intro w3 hr3 hch3 hs3; have HD3 := Lib.hid (hch3 none_ wr ((Chg.refl none_ wr).alloc _) (fun h => absurd h (by omega))); have HR3 := Lib.hid hr3; clear hr3 hch3 hs3)
      have hch0 : Chg none_ w3 w3.drew := (Chg.refl none_ w3).drew
      have HX := Lib.hid (fun w' (hc : Chg none_ w3 w') => HR3.out.chg hc (fun h => h))
      have HTX := Lib.hid (fun w' (hc : Chg none_ w3 w') => ((HT.out.chg HCH.out (fun h => h)).chg HD3.out (fun h => h)).chg hc (fun h => h))
      have HSX := Lib.hid (fun w' (hc : Chg none_ w3 w') => ((HS1.out.chg HD3.out)).chg hc)
      have hE1 := encI_len8 x1
      have hE2 := encI_len8 x2
      refine wp_region_held_drew (S := fun w' => Chg none_ w3 w') (by kernel_rfl) hch0 (fun _ => ?_)
      refine wpAnyH_take (i := 0) (v := .slice A1 L.length c1) rfl (by kernel_rfl) (by kernel_rfl) (by kernel_rfl) (by first | exact fun _ _ _ h => h | exact fun _ _ _ h => nomatch h.1) (Or.inl ⟨by rfl, fun w' hw' => by go_simp⟩) hch0 ?_
      refine wpAnyH_take (i := 1) (v := .pointer (some ⟨wr.heap.size, 0, none⟩)) rfl (by kernel_rfl) (by kernel_rfl) (by kernel_rfl) (by first | exact fun _ _ _ h => h | exact fun _ _ _ h => nomatch h.1) (Or.inl ⟨by rfl, fun w' hw' => by go_simp⟩) hch0 ?_
      refine wpAnyH_take (i := 2) (v := .int .u64 (x1 : Int)) rfl (by kernel_rfl) (by kernel_rfl) (by kernel_rfl) (by first | exact fun _ _ _ h => h | exact fun _ _ _ h => nomatch h.1) (Or.inl ⟨by rfl, fun w' hw' => by have hh := (HX.out w' hw').cell 0; simp only [List.getElem?_cons_zero] at hh; go_simp⟩) hch0 ?_
      refine wpAnyH_take (i := 4) (v := .pointer (some ⟨wr.heap.size, 1, none⟩)) rfl (by kernel_rfl) (by kernel_rfl) (by kernel_rfl) (by first | exact fun _ _ _ h => h | exact fun _ _ _ h => nomatch h.1) (Or.inl ⟨by rfl, fun w' hw' => by go_simp⟩) hch0 ?_
      refine wpAnyH_take (i := 5) (v := .int .u64 (x2 : Int)) rfl (by kernel_rfl) (by kernel_rfl) (by kernel_rfl) (by first | exact fun _ _ _ h => h | exact fun _ _ _ h => nomatch h.1) (Or.inl ⟨by rfl, fun w' hw' => by have hh := (HX.out w' hw').cell 1; simp only [List.getElem?_cons_zero, List.getElem?_cons_succ] at hh; go_simp⟩) hch0 ?_
      refine wpAnyH_ready (rs := [3]) (by kernel_rfl) (by simp) ?_
      refine AllReadyH.cons rfl (fun K hK => ?_) AllReadyH.nil
      rw [if_pos (by rfl)]
      try simp only [List.getElem_toArray, List.getElem_cons_succ, List.getElem_cons_zero]
      go_simp
      refine (putSlc x1 _ (HTX.out _ hch0)).mono ?_
      rintro e w4 ⟨A4, c4, rfl, s4, hc4⟩
      have hch4 := hch0.trans hc4
      refine hK.out _ _ hch4 (fun _ => ?_)
      clear hK K
      try simp only [Act.put, List.setIfInBounds_toArray, List.set_cons_zero, List.set_cons_succ, List.getElem_toArray, List.getElem_cons_succ, List.getElem_cons_zero]
      refine wpAnyH_ready (rs := [6]) (by kernel_rfl) (by simp) ?_
      refine AllReadyH.cons rfl (fun K hK => ?_) AllReadyH.nil
      rw [if_pos (by rfl)]
      try simp only [List.getElem_toArray, List.getElem_cons_succ, List.getElem_cons_zero]
      go_simp
      refine (putSlc x2 _ (HTX.out _ hch4)).mono ?_
      rintro e w5 ⟨A5, c5, rfl, s5, hc5⟩
      have hch5 := hch4.trans hc5
      refine hK.out _ _ hch5 (fun _ => ?_)
      clear hK K
      try simp only [Act.put, List.setIfInBounds_toArray, List.set_cons_zero, List.set_cons_succ, List.getElem_toArray, List.getElem_cons_succ, List.getElem_cons_zero]
      refine wpAnyH_ready (rs := [7]) (by kernel_rfl) (by simp) ?_
      refine AllReadyH.cons rfl (fun K hK => ?_) AllReadyH.nil
      rw [if_pos (by rfl)]
      try simp only [List.getElem_toArray, List.getElem_cons_succ, List.getElem_cons_zero]
      go_simp
      have hch6 : Chg none_ w3 _ := hch5.alloc (.cells #[.slice A1 L.length c1, .slice A4 (encI x1).length c4, .slice A5 (encI x2).length c5] 24)
      refine hK.out _ _ hch6 (fun _ => ?_)
      clear hK K
      try simp only [Act.put, List.setIfInBounds_toArray, List.set_cons_zero, List.set_cons_succ, List.getElem_toArray, List.getElem_cons_succ, List.getElem_cons_zero]
      refine wpAnyH_ready (rs := [8]) (by kernel_rfl) (by simp) ?_
      refine AllReadyH.cons rfl (fun K hK => ?_) AllReadyH.nil
      rw [if_pos (by rfl)]
      try simp only [List.getElem_toArray, List.getElem_cons_succ, List.getElem_cons_zero]
      go_simp
      refine (cat3G w5 A1 A4 A5 c1 c4 c5 L (encI x1) (encI x2) (HSX.out _ hch5) (s4.chg hc5) (s5) (by omega)).mono ?_
      rintro e w7 ⟨A7, c7, rfl, s7, hc7⟩
      have hch7 := hch5.trans hc7
      refine hK.out _ _ hch7 (fun _ => ?_)
      clear hK K
      try simp only [Act.put, List.setIfInBounds_toArray, List.set_cons_zero, List.set_cons_succ, List.getElem_toArray, List.getElem_cons_succ, List.getElem_cons_zero]
      refine wpAnyH_take (i := 9) (v := .slice A7 (L ++ (encI x1 ++ encI x2)).length c7) rfl (by kernel_rfl) (by kernel_rfl) (by kernel_rfl) (by first | exact fun _ _ _ h => h | exact fun _ _ _ h => nomatch h.1) (Or.inl ⟨by rfl, fun w' hw' => by go_simp⟩) hch7 ?_
      refine wpAnyH_done (by kernel_rfl) ?_ _
      try simp only [Act.put, List.setIfInBounds_toArray, List.set_cons_zero, List.set_cons_succ, List.getElem_toArray, List.getElem_cons_succ, List.getElem_cons_zero]
      have HD7 := Lib.hid (HD3.out.trans hch7)
      have HV7 := Lib.hid s7.view
      clear hch0 hch4 hch5 hch6 hch7 hc4 hc5 hc7 s4 s5 s7
      go_wp2
      go_roundw
      case rel => exact ⟨k + 1, A7, c7, by omega, by go_num, by rw [HSN.out], ⟨by rw [HSN.out]; exact HV7.out.mono (fun _ _ _ => trivial)⟩, HCH.out.trans HD7.out⟩
      case measure => simp [intOf]; omega
    · have hkl : k = l.length := by omega
      have HK := Lib.hid hkl
      have HCH := Lib.hid hch
      have HS1 := Lib.hid hs1
      clear hkl hch hs1
      have : ¬ (k : Int) < (l.length : Int) := by omega
      go_wp2
      go_ret
      have e1 : l.take k = l := by rw [HK.out, List.take_length]
      rw [e1] at HS1 ⊢
      exact ⟨A1, c1, rfl, HS1.out, HC.out.trans HCH.out⟩

theorem putK_any (k : KK) (hf : HfD w T f ss sd) (hT : Tab w) (hk : hasK k f = true) : Calls Tryd.prog (putFn k) #[aggH f ss sd] w (TellSlc w (ownK k f)) := by
  cases k
  · exact putData_any f ss sd w T hf
  · exact putId_any f ss sd w hT
  · simp only [hasK, Bool.and_eq_true] at hk
    exact putSettings_any f ss sd w T hf hT (sets_le hk.1).1
end
end Go.Proofs.YtcdnjeojgjakdaaDoor
