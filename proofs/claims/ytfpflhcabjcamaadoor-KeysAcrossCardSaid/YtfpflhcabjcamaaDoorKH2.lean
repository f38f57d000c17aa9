/- Texts joined: Concat, ConcatG, V7Tag, V7Expand, V7Label. -/
import Derived.Test.YtfpflhcabjcamaaDoorProg
import Derived.Lib.AppendZeros
import Derived.Lib.Hide
import Derived.Lib.SliceRun
import Derived.IntWalk
import Derived.Test.YtfpflhcabjcamaaDoorK0
import Derived.Test.YtfpflhcabjcamaaDoorKH1

namespace Go.Proofs.YtfpflhcabjcamaaDoor
open Go.RowKit

/-- New bytes are handed back. -/
def BytesNew (w : World) (l : List Nat) (e : Ending) (w' : World) : Prop :=
  ∃ A cap, e = .returned (.slice A l.length cap) ∧ View w' (fun b => w.heap.size ≤ b) A l.length (u8s l) ∧ Chg none_ w w'

/-- Room that the call itself has made. -/
def RoomPost (w : World) (e : Ending) (w' : World) : Prop := ∃ v, e = .returned v ∧ w'.ownsRow w.heap.size 5 1 v 0 [] ∧ Chg none_ w w'

set_option maxRecDepth 100000 in
set_option maxHeartbeats 1000000 in
theorem grow_nil (n : Nat) (w : World) (hn : n ≤ 1000000) : Calls Tryd.prog 37 #[.slice none 0 0, .int .i64 n] w (RoomPost w) := by
  obtain ⟨i0, hi, hz0, hz1, hz2⟩ := info_parts info5
  by_cases h0 : n = 0
  · subst h0
    go_enter Tryd.func37, Tryd.ntmps37
    go_wp2
    go_ret
    exact ⟨_, rfl, World.ownsRow_nil _ _ _ _, Chg.refl _ _⟩
  · have hrz := fun ty => Lib.run_append_nil_zeros (P := Tryd.prog) w 22 3 ty 5 i0 _ .i64 .i64 Tryd.underlying22 Tryd.underlying3 hi hz0 n (by omega) (by omega) (by omega) (by rw [hz2]; omega)
    have hG := grownCap_ge w n 0 5
    have hGm := grownCap_le_maxLen w n 0 5 (by unfold maxLen; omega)
    generalize grownCap w n 0 5 = G at hrz hG hGm
    have hn1 : (0 : Int) < (n : Int) := by omega
    go_enter Tryd.func37, Tryd.ntmps37
    go_wp2_with (at_builtin; refine Lib.wpList_append_run _ rfl _ _ _ _ rfl _ _ rfl rfl _ _ (hrz _) ?_)
    go_ret
    refine ⟨_, rfl, ⟨rfl, .inr ⟨w.heap.size, G, _, rfl, Nat.le_refl _, heap_alloc_new w _, Nat.zero_le _, hGm, ?_, rfl⟩⟩, ((Chg.refl none_ w).alloc _).drew⟩
    simp [size_zeroCells]
    omega

theorem u8s_append' (l m : List Nat) : u8s l ++ u8s m = u8s (l ++ m) := by simp [u8s]
/-- How many bytes there are in all. -/
def total (l : List (List Nat)) : Nat := (l.map List.length).sum
theorem total_snoc (l : List (List Nat)) (x : List Nat) : total (l ++ [x]) = total l + x.length := by simp [total]
theorem total_take (l : List (List Nat)) (k : Nat) : total (l.take k) ≤ total l := by
  have h : total (l.take k ++ l.drop k) = total (l.take k) + total (l.drop k) := by simp only [total, List.map_append, List.sum_append]
  rw [List.take_append_drop] at h
  omega
theorem flatten_len (l : List (List Nat)) : l.flatten.length = total l := by simp [total, List.length_flatten]

set_option maxRecDepth 100000 in
set_option maxHeartbeats 1000000 in
theorem concat_any (w : World) (T : Nat → Prop) (A : Option Addr) (c : Nat) (vs : List Value) (ls : List (List Nat)) (hv : View w T A vs.length vs) (hl : vs.length = ls.length)
    (hx : ∀ i (_ : i < vs.length), ∃ A' c', vs[i]? = some (.slice A' (ls.getD i []).length c') ∧ View w T A' (ls.getD i []).length (u8s (ls.getD i []))) (ht : total ls ≤ 1000000) (hn : vs.length ≤ 1000) :
    Calls Tryd.prog 28 #[.slice A vs.length c] w (BytesNew w ls.flatten) := by
  obtain ⟨i0, hi, hz0, hz1, hz2⟩ := info_parts info5
  have HV := Lib.hid hv
  have HX := Lib.hid hx
  have HLN := Lib.hid hl
  have HTK := Lib.hid (fun k => total_take ls k)
  have HFL := Lib.hid (fun k => flatten_len (ls.take k))
  have HG := Lib.hid (fun w' => grow_nil (total ls) w' ht)
  have HT := Lib.hid ht
  clear hv hx hl ht
  go_enter Tryd.func28, Tryd.ntmps28
  go_wp2
  go_loop [3, 11] (fun t i => ∃ k : Nat, k ≤ vs.length ∧ i = .int .i64 k ∧ t = .int .i64 (total (ls.take k))) (fun _ i => vs.length - (intOf i).toNat)
  case atStart => exact ⟨0, Nat.zero_le _, rfl, rfl⟩
  case round =>
    obtain ⟨k, hk, rfl, rfl⟩ := hrel
    by_cases hlt : k < vs.length
    · obtain ⟨A', c', hval, _⟩ := HX.out k hlt
      obtain ⟨b, o, rfl, hb, _, hc⟩ := HV.out.2 (by omega)
      have hck : w.cell? ⟨b, o + k, none⟩ = some (.slice A' (ls.getD k []).length c') := (hc k hlt).trans hval
      have hk0 : (0 : Int) ≤ (k : Int) := by omega
      have hk1 : (k : Int) < (vs.length : Int) := by omega
      have h1 := HTK.out k
      have h2 := HTK.out (k + 1)
      have h3 := HT.out
      have hst : total (ls.take (k + 1)) = total (ls.take k) + (ls.getD k []).length := by
        have hkl : k < ls.length := by have := HLN.out; omega
        rw [List.take_succ_eq_append_getElem hkl, total_snoc]
        simp [List.getD_eq_getElem?_getD, hkl]
      rw [hst] at h2
      have HST := Lib.hid hst
      clear hst hc hval
      generalize total (ls.take k) = m at h1 h2 HST ⊢
      generalize (ls.getD k []).length = n at h2 HST hck
      go_wp2
      go_round
      case rel => exact ⟨k + 1, by omega, by go_num, by rw [HST.out]; go_num⟩
      case measure => simp [intOf]; omega
    · have hkn : k = vs.length := by omega
      subst hkn
      have e1 : total (ls.take vs.length) = total ls := by rw [HLN.out, List.take_length]
      rw [e1]
      clear e1
      go_wp2_with fail
      refine (HG.out _).mono ?_
      rintro e w1 ⟨v, rfl, hown, hch⟩
      have HO := Lib.hid hown
      have HC := Lib.hid hch
      clear hown hch
      go_wp2
      go_loopw [6, 27] (fun l i wr => ∃ k : Nat, k ≤ vs.length ∧ i = .int .i64 k ∧ wr.ownsRow w.heap.size 5 1 l (total (ls.take k)) (u8s (ls.take k).flatten) ∧ Chg none_ w wr) (fun _ i _ => vs.length - (intOf i).toNat)
      case atStart => exact ⟨0, Nat.zero_le _, rfl, by simpa [total, u8s] using HO.out, HC.out⟩
      case round =>
        obtain ⟨k, hk, rfl, hown, hch⟩ := hrel
        by_cases hlt : k < vs.length
        · obtain ⟨A', c', hval, hvw⟩ := HX.out k hlt
          obtain ⟨b, o, rfl, hb, _, hc⟩ := HV.out.2 (by omega)
          have hck : wr.cell? ⟨b, o + k, none⟩ = some (.slice A' (ls.getD k []).length c') := (hch.cell _ hb (fun h => h)).trans ((hc k hlt).trans hval)
          have hk0 : (0 : Int) ≤ (k : Int) := by omega
          have hk1 : (k : Int) < (vs.length : Int) := by omega
          have h1 := HTK.out k
          have h2 := HTK.out (k + 1)
          have h3 := HT.out
          have hkl : k < ls.length := by have := HLN.out; omega
          have hfst : (ls.take (k + 1)).flatten = (ls.take k).flatten ++ ls.getD k [] := by
            rw [List.take_succ_eq_append_getElem hkl, List.flatten_append]
            simp [List.getD_eq_getElem?_getD, hkl]
          have hst : total (ls.take (k + 1)) = total (ls.take k) + (ls.getD k []).length := by
            rw [List.take_succ_eq_append_getElem hkl, total_snoc]
            simp [List.getD_eq_getElem?_getD, hkl]
          rw [hst] at h2
          have HST := Lib.hid hst
          have HFST := Lib.hid hfst
          have HVW := Lib.hid (hvw.chg hch (fun _ _ h => h))
          have HOW := Lib.hid hown
          have HCH := Lib.hid hch
          have hsz := hch.size
          clear hst hfst hc hval hvw hown hch
          generalize ls.getD k [] = x at hck h2 HST HFST HVW
          go_wp2_with (at_builtin; refine wpList_append_view rfl _ _ 22 rfl 5 i0 _ 1 Tryd.underlying22 hi hz0 hz1 hz2 rfl w.heap.size _ _ _ rfl HOW.out T A' _ c' _ rfl HVW.out (u8s_one _) (by unfold maxLen; omega) (by omega) (by omega) ?_; intro v' w2 hown2 hgrow2 hat2)
          have HO2 := Lib.hid hown2
          have HG2 := Lib.hid hgrow2
          clear hown2 hgrow2 hat2
          go_wp2
          go_roundw
          case rel =>
            refine ⟨k + 1, by omega, by go_num, ?_, HCH.out.grown HG2.out (fun j hj hlt => by have := (HOW.out.lt j hj).1; omega)⟩
            rw [HST.out, HFST.out, ← u8s_append']
            exact HO2.out
          case measure => simp [intOf]; omega
        · have hkn : k = vs.length := by omega
          have HKN := Lib.hid hkn
          have HOW := Lib.hid hown
          have HCH := Lib.hid hch
          have hnl : ¬ (k : Int) < (vs.length : Int) := by omega
          clear hkn hown hch
          go_wp2
          obtain ⟨A2, cap2, rfl, g1, g2, g3⟩ := View.own (T := fun b => w.heap.size ≤ b) HOW.out (fun _ h => h)
          go_ret
          have e1 : ls.take k = ls := by rw [HKN.out, HLN.out, List.take_length]
          rw [e1] at g3
          rw [e1]
          have e2 : total ls = ls.flatten.length := (flatten_len ls).symm
          rw [e2] at g3 ⊢
          exact ⟨A2, cap2, rfl, g3, HCH.out⟩
end Go.Proofs.YtfpflhcabjcamaaDoor

namespace Go.Proofs.YtfpflhcabjcamaaDoor
open Go.RowKit

set_option maxRecDepth 100000 in
set_option maxHeartbeats 1000000 in
theorem concat_got (w : World) (T : Nat → Prop) (A : Option Addr) (c : Nat) (vs : List Value) (ls : List (List Nat)) (hv : View w T A vs.length vs) (hl : vs.length = ls.length)
    (hx : ∀ i (_ : i < vs.length), ∃ A' c', vs[i]? = some (.slice A' (ls.getD i []).length c') ∧ View w T A' (ls.getD i []).length (u8s (ls.getD i []))) (ht : total ls ≤ 1000000) (hn : vs.length ≤ 1000) :
    Calls Tryd.prog 28 #[.slice A vs.length c] w (GotBytes w ls.flatten) := by
  obtain ⟨i0, hi, hz0, hz1, hz2⟩ := info_parts info5
  have HV := Lib.hid hv
  have HX := Lib.hid hx
  have HLN := Lib.hid hl
  have HTK := Lib.hid (fun k => total_take ls k)
  have HFL := Lib.hid (fun k => flatten_len (ls.take k))
  have HG := Lib.hid (fun w' => grow_nil (total ls) w' ht)
  have HT := Lib.hid ht
  clear hv hx hl ht
  go_enter Tryd.func28, Tryd.ntmps28
  go_wp2
  go_loop [3, 11] (fun t i => ∃ k : Nat, k ≤ vs.length ∧ i = .int .i64 k ∧ t = .int .i64 (total (ls.take k))) (fun _ i => vs.length - (intOf i).toNat)
  case atStart => exact ⟨0, Nat.zero_le _, rfl, rfl⟩
  case round =>
    obtain ⟨k, hk, rfl, rfl⟩ := hrel
    by_cases hlt : k < vs.length
    · obtain ⟨A', c', hval, _⟩ := HX.out k hlt
      obtain ⟨b, o, rfl, hb, _, hc⟩ := HV.out.2 (by omega)
      have hck : w.cell? ⟨b, o + k, none⟩ = some (.slice A' (ls.getD k []).length c') := (hc k hlt).trans hval
      have hk0 : (0 : Int) ≤ (k : Int) := by omega
      have hk1 : (k : Int) < (vs.length : Int) := by omega
      have h1 := HTK.out k
      have h2 := HTK.out (k + 1)
      have h3 := HT.out
      have hst : total (ls.take (k + 1)) = total (ls.take k) + (ls.getD k []).length := by
        have hkl : k < ls.length := by have := HLN.out; omega
        rw [List.take_succ_eq_append_getElem hkl, total_snoc]
        simp [List.getD_eq_getElem?_getD, hkl]
      rw [hst] at h2
      have HST := Lib.hid hst
      clear hst hc hval
      generalize total (ls.take k) = m at h1 h2 HST ⊢
      generalize (ls.getD k []).length = n at h2 HST hck
      go_wp2
      go_round
      case rel => exact ⟨k + 1, by omega, by go_num, by rw [HST.out]; go_num⟩
      case measure => simp [intOf]; omega
    · have hkn : k = vs.length := by omega
      subst hkn
      have e1 : total (ls.take vs.length) = total ls := by rw [HLN.out, List.take_length]
      rw [e1]
      clear e1
      go_wp2_with fail
      refine (HG.out _).mono ?_
      rintro e w1 ⟨v, rfl, hown, hch⟩
      have HO := Lib.hid hown
      have HC := Lib.hid hch
      clear hown hch
      go_wp2
      go_loopw [6, 27] (fun l i wr => ∃ k : Nat, k ≤ vs.length ∧ i = .int .i64 k ∧ wr.ownsRow w.heap.size 5 1 l (total (ls.take k)) (u8s (ls.take k).flatten) ∧ Chg none_ w wr) (fun _ i _ => vs.length - (intOf i).toNat)
      case atStart => exact ⟨0, Nat.zero_le _, rfl, by simpa [total, u8s] using HO.out, HC.out⟩
      case round =>
        obtain ⟨k, hk, rfl, hown, hch⟩ := hrel
        by_cases hlt : k < vs.length
        · obtain ⟨A', c', hval, hvw⟩ := HX.out k hlt
          obtain ⟨b, o, rfl, hb, _, hc⟩ := HV.out.2 (by omega)
          have hck : wr.cell? ⟨b, o + k, none⟩ = some (.slice A' (ls.getD k []).length c') := (hch.cell _ hb (fun h => h)).trans ((hc k hlt).trans hval)
          have hk0 : (0 : Int) ≤ (k : Int) := by omega
          have hk1 : (k : Int) < (vs.length : Int) := by omega
          have h1 := HTK.out k
          have h2 := HTK.out (k + 1)
          have h3 := HT.out
          have hkl : k < ls.length := by have := HLN.out; omega
          have hfst : (ls.take (k + 1)).flatten = (ls.take k).flatten ++ ls.getD k [] := by
            rw [List.take_succ_eq_append_getElem hkl, List.flatten_append]
            simp [List.getD_eq_getElem?_getD, hkl]
          have hst : total (ls.take (k + 1)) = total (ls.take k) + (ls.getD k []).length := by
            rw [List.take_succ_eq_append_getElem hkl, total_snoc]
            simp [List.getD_eq_getElem?_getD, hkl]
          rw [hst] at h2
          have HST := Lib.hid hst
          have HFST := Lib.hid hfst
          have HVW := Lib.hid (hvw.chg hch (fun _ _ h => h))
          have HOW := Lib.hid hown
          have HCH := Lib.hid hch
          have hsz := hch.size
          clear hst hfst hc hval hvw hown hch
          generalize ls.getD k [] = x at hck h2 HST HFST HVW
          go_wp2_with (at_builtin; refine wpList_append_view rfl _ _ 22 rfl 5 i0 _ 1 Tryd.underlying22 hi hz0 hz1 hz2 rfl w.heap.size _ _ _ rfl HOW.out T A' _ c' _ rfl HVW.out (u8s_one _) (by unfold maxLen; omega) (by omega) (by omega) ?_; intro v' w2 hown2 hgrow2 hat2)
          have HO2 := Lib.hid hown2
          have HG2 := Lib.hid hgrow2
          clear hown2 hgrow2 hat2
          go_wp2
          go_roundw
          case rel =>
            refine ⟨k + 1, by omega, by go_num, ?_, HCH.out.grown HG2.out (fun j hj hlt => by have := (HOW.out.lt j hj).1; omega)⟩
            rw [HST.out, HFST.out, ← u8s_append']
            exact HO2.out
          case measure => simp [intOf]; omega
        · have hkn : k = vs.length := by omega
          have HKN := Lib.hid hkn
          have HOW := Lib.hid hown
          have HCH := Lib.hid hch
          have hnl : ¬ (k : Int) < (vs.length : Int) := by omega
          clear hkn hown hch
          go_wp2
          obtain ⟨A2, cap2, rfl, g1, g2, g3⟩ := View.own (T := fun b => w.heap.size ≤ b) HOW.out (fun _ h => h)
          go_ret
          have e1 : ls.take k = ls := by rw [HKN.out, HLN.out, List.take_length]
          rw [e1] at g3
          rw [e1]
          have e2 : total ls = ls.flatten.length := (flatten_len ls).symm
          have ho := HOW.out
          rw [e1, e2] at ho
          rw [e2] at g3 ⊢
          exact ⟨A2, cap2, rfl, ⟨g3, ho⟩, HCH.out⟩
end Go.Proofs.YtfpflhcabjcamaaDoor

namespace Go.Proofs.YtfpflhcabjcamaaDoor
open Go.RowKit

set_option maxRecDepth 100000 in
set_option maxHeartbeats 1000000 in
theorem sum_any (T : Nat → Prop) (A : Option Addr) (cap : Nat) (l : List Nat) (w : World) (hv : View w T A l.length (u8s l)) (hl : l.length ≤ 1000000) (hlc : l.length ≤ cap) (hb : ∀ x ∈ l, x < 256) (hT : HTab w) :
    Calls Tryd.prog 34 #[.slice A l.length cap] w fun e w' => e = .returned (.agg (u8s (sumN l)).toArray) ∧ Chg none_ w w' := by
  have HT := Lib.hid hT
  have HLB := Lib.hid hb
  have HV := Lib.hid hv
  have HCAP := Lib.hid hlc
  clear hT hb hv hlc
  go_enter Tryd.func34, Tryd.ntmps34
  go_wp2_with (first | ((with_reducible show wpList _ _ _ (⟨_, .alloc 26, _, _, _, _⟩ :: _) _ _); refine wpList_alloc_Row rfl rfl (u8s (List.replicate 32 0)) zero25 ?_; intro w1 hr1 hc1 hs1; have HR1 := Lib.hid hr1; have HC1 := Lib.hid hc1; clear hr1 hc1 hs1) | ((with_reducible show wpList _ _ _ (⟨_, .load 77 _, _, _, _, _⟩ :: _) _ _); refine wpList_load_Mid (cs := u32s first8.list) rfl rfl rfl ((HT.out.chg HC1.out (fun h => h) (fun h => h)).fs) Tryd.underlying77 rfl (size36) ?_) | (go_at_call 36; refine (digest_any first8 0 (fun b => b < w.heap.size) A cap l _ first8_ok (by omega) ((HV.out.mono (T' := fun b => b < w.heap.size) (fun _ h _ => h)).chg HC1.out (fun _ _ h => h)) hl HCAP.out HLB.out (HT.out.chg HC1.out (fun h => h) (fun h => h))).mono ?_; rintro e w2 ⟨rfl, hc2⟩; have HC2 := Lib.hid hc2; clear hc2) | ((with_reducible show wpList _ _ _ (⟨_, .store 26 _ _, _, _, _, _⟩ :: _) _ _); refine wpList_store_Row (xs := u8s (sumN l)) rfl rfl rfl (HR1.out.chg HC2.out (fun h => h)) (rfl) (by rw [u8s_length, sumN, digN_len, u8s_length]; rfl) (by rw [u8s_length, sumN, digN_len]; exact size25) (u8s_oneA _) ?_; intro w3 hr3 hc3 hs3; have HR3 := Lib.hid hr3; have HC3 := Lib.hid hc3; clear hr3 hc3 hs3))
  refine ret_row rfl rfl HR3.out Tryd.underlying26 rfl (by rw [u8s_length, sumN, digN_len]; exact size25) rfl ?_
  exact ⟨rfl, HC3.out none_ w (HC1.out.trans HC2.out) (fun h => absurd h (by omega))⟩

theorem keyN_len (k : List Nat) (h : k.length ≤ 64) : (keyN k).length = 64 := by simp [keyN]; omega
theorem keyN_lt {k : List Nat} (hk : ∀ x ∈ k, x < 256) : ∀ x ∈ keyN k, x < 256 := by
  intro x hx
  simp only [keyN, List.mem_append, List.mem_replicate] at hx
  rcases hx with h | ⟨_, rfl⟩
  · exact hk x h
  · decide
theorem key_row {w : World} {g : Nat} {e : TypeId} {k : List Nat} (h : Row w g e ([] ++ ((u8s k).take 64 ++ (u8s (List.replicate 64 0)).drop k.length) ++ [])) (hk : k.length ≤ 64) : Row w g e (u8s (keyN k)) := by
  have e1 : ([] ++ ((u8s k).take 64 ++ (u8s (List.replicate 64 0)).drop k.length) ++ [] : List Value) = u8s (keyN k) := by
    rw [List.take_of_length_le (by rw [u8s_length]; omega), List.nil_append, List.append_nil]
    simp only [u8s, ← List.map_drop, List.drop_replicate, List.map_append, keyN]
  rw [← e1]; exact h
theorem sumN_len (l : List Nat) : (sumN l).length = 32 := digN_len _ _ _
theorem sumN_lt (l : List Nat) : ∀ x ∈ sumN l, x < 256 := digN_lt _ _ _
theorem tagN_len (k l : List Nat) : (tagN k l).length = 32 := digN_len _ _ _
theorem tagN_lt (k l : List Nat) : ∀ x ∈ tagN k l, x < 256 := digN_lt _ _ _

set_option maxRecDepth 100000 in
set_option maxHeartbeats 2000000 in
theorem tag_short (T T' : Nat → Prop) (A A' : Option Addr) (cap cap' : Nat) (k l : List Nat) (w : World) (hvk : View w T A k.length (u8s k)) (hv : View w T' A' l.length (u8s l)) (hk : k.length ≤ 1000000) (hl : l.length ≤ 1000000) (hkc : k.length ≤ cap) (hlc : l.length ≤ cap') (hkb : ∀ x ∈ k, x < 256) (hb : ∀ x ∈ l, x < 256) (hT : HTab w) (h64 : k.length ≤ 64) :
    Calls Tryd.prog 27 #[.slice A k.length cap, .slice A' l.length cap'] w fun e w' => e = .returned (.agg (u8s (tagN k l)).toArray) ∧ Chg none_ w w' := by
  have HTX : Hid (∀ w', Chg none_ w w' → HTab w') := Lib.hid (fun w' hc => hT.chg hc (fun h => h) (fun h => h))
  have HLB := Lib.hid hb
  have HKB := Lib.hid hkb
  have HVL : Hid (∀ w', Chg none_ w w' → View w' (fun b => b < w.heap.size) A' l.length (u8s l)) := Lib.hid (fun w' hc => (hv.mono (T' := fun b => b < w.heap.size) (fun _ h _ => h)).chg hc (fun _ _ h => h))
  have HVK : Hid (∀ w', Chg none_ w w' → View w' (fun b => b < w.heap.size) A k.length (u8s k)) := Lib.hid (fun w' hc => (hvk.mono (T' := fun b => b < w.heap.size) (fun _ h _ => h)).chg hc (fun _ _ h => h))
  have HCAPL := Lib.hid hlc
  have HCAPK := Lib.hid hkc
  clear hT hb hkb hv hvk hlc hkc
  have HK64 := Lib.hid h64
  have HE : Hid (tagN k l = tagS k l) := Lib.hid (by unfold tagN; rw [if_neg (by omega)])
  go_enter Tryd.func27, Tryd.ntmps27
  go_wp2_with (first | ((with_reducible show wpList _ _ _ (⟨some 4, .alloc 26, _, _, _, _⟩ :: _) _ _); refine wpList_alloc_Row rfl rfl (u8s (List.replicate 32 0)) zero25 ?_; intro w1 hr1 hc1 hs1; have HR1 := Lib.hid hr1; have HX := Lib.hid hc1; have HR1y := Lib.hid hr1; have HC1 := Lib.hid hc1; clear hr1 hc1 hs1) | ((with_reducible show wpList _ _ _ (⟨_, .alloc 75, _, _, _, _⟩ :: _) _ _); refine wpList_alloc_Row rfl rfl (u8s (List.replicate 64 0)) zero41 ?_; intro w6 hr6 hc6 hs6; have HR6 := Lib.hid hr6; have HC6 := Lib.hid hc6; clear hr6 hc6 hs6) | ((with_reducible show wpList _ _ _ (⟨some 16, _, _, _, _, _⟩ :: _) _ _); refine wpList_copy_min rfl _ _ _ _ rfl (pre := []) (ys := u8s (List.replicate 64 0)) (post := []) (xs := u8s (k)) (D := some ⟨w1.heap.size, 0, none⟩) rfl rfl (fun _ => rfl) Tryd.underlying22 size5h (by simpa using HR6.out) (by simp) ((HVK.out _ HX.out).chg HC6.out (fun _ _ h => h)) (u8s_one _) ?_; intro w7 hr7 hc7; have HR7 := Lib.hid (key_row (hr7) HK64.out); have HC7 := Lib.hid hc7; have HC67 := Lib.hid (HC6.out.andThen hc7 (fun b h e => by omega)); clear hr7 hc7) | ((with_reducible show wpList _ _ _ (⟨some 17, .load 75 _, _, _, _, _⟩ :: _) _ _); refine wpList_load_Row rfl rfl rfl (HR7.out) Tryd.underlying75 rfl (by rw [u8s_length, keyN_len _ HK64.out]; exact size41) ?_) | (go_at_call 35; refine (behindKey_any (keyN (k)) 54 _ (keyN_len _ HK64.out) (keyN_lt HKB.out) (by decide) (HTX.out _ ((HX.out).trans HC67.out))).mono ?_; rintro e w8 ⟨rfl, hc8⟩; have HC8 := Lib.hid hc8; clear hc8) | (go_at_call 36; refine (digest_any (turnN first8 (xorK (keyN (k)) 54)) 64 (fun b => b < w.heap.size) A' cap' l _ (turnN_ok _ _) (by omega) (HVL.out _ (((HX.out).trans HC67.out).trans HC8.out)) hl HCAPL.out HLB.out (HTX.out _ (((HX.out).trans HC67.out).trans HC8.out))).mono ?_; rintro e w9 ⟨rfl, hc9⟩; have HC9 := Lib.hid hc9; clear hc9) | ((with_reducible show wpList _ _ _ (⟨some 7, .alloc 26, _, _, _, _⟩ :: _) _ _); refine wpList_alloc_Row rfl rfl (u8s (List.replicate 32 0)) zero25 ?_; intro w10 hr10 hc10 hs10; have HR10 := Lib.hid hr10; have HC10 := Lib.hid hc10; clear hr10 hc10 hs10) | ((with_reducible show wpList _ _ _ (⟨_, .store 26 (.tmp 7) _, _, _, _, _⟩ :: _) _ _); refine wpList_store_Row (xs := u8s (digN (turnN first8 (xorK (keyN (k)) 54)) 64 l)) rfl rfl rfl (HR10.out) (rfl) (by rw [u8s_length, digN_len, u8s_length]; rfl) (by rw [u8s_length, digN_len]; exact size25) (u8s_oneA _) ?_; intro w11 hr11 hc11 hs11; have HR11 := Lib.hid hr11; have HC11 := Lib.hid hc11; clear hr11 hc11 hs11))
  have hg1 : w.heap.size < w1.heap.size := by have := HR1y.out.lt; omega
  have HC811 := Lib.hid (((HC8.out.trans HC9.out).trans HC10.out))
  have HC11x : Hid (Chg none_ w w11) := Lib.hid (HC11.out none_ w (((HX.out).trans HC67.out).trans HC811.out) (fun h => by have := (HC67.out.trans (HC8.out.trans HC9.out)).size; omega))
  have HXX : Hid (∀ w', Chg (· = w.heap.size) w11 w' → Chg none_ w w') := Lib.hid (fun w' hc => HC11x.out.andThen hc (fun b h e => by omega))
  have HC711 : Hid (Chg (· = w9.heap.size) w7 w11) := Lib.hid (HC11.out _ w7 (HC811.out.mono (fun _ _ h => h.elim)) (fun _ => rfl))
  have hg9 : w1.heap.size < w9.heap.size := by have := HR7.out.lt; have := (HC8.out.trans HC9.out).size; omega
  have HR7x := Lib.hid (HR7.out.chg HC711.out (by omega))
  have HR1x := Lib.hid ((HR1y.out.chg HC67.out (fun h => h)).chg HC711.out (by omega))
  have HVI : Hid (View w11 (fun b => w9.heap.size ≤ b) (some ⟨w9.heap.size, 0, none⟩) 32 (u8s (digN (turnN first8 (xorK (keyN (k)) 54)) 64 l))) := Lib.hid (by
    have hh := View.row (T := fun b => w9.heap.size ≤ b) HR11.out (n := 32) (by rw [u8s_length, digN_len]; omega) (Nat.le_refl _)
    rw [List.take_of_length_le (by rw [u8s_length, digN_len]; omega)] at hh
    exact hh)
  refine wp_region_held_drew (S := fun w' => Chg (· = w.heap.size) w11 w') (by kernel_rfl) ((Chg.refl _ _).drew) (fun hch0 => ?_)
  refine wpAnyH_take (i := 0) (v := .agg (u8s (keyN (k))).toArray) rfl (by kernel_rfl) (by kernel_rfl) (by kernel_rfl) (by first | exact fun _ _ _ h => h | exact fun _ _ _ h => nomatch h.1) (yieldsIf_load_mid (by rfl) 75 _ rfl w1.heap.size 0 rfl (u8s (keyN (k))) _ (fun w' hw' => (HR7x.out.chg hw' (by omega)).range) Tryd.underlying75 rfl (by rw [u8s_length, keyN_len _ HK64.out]; exact size41)) hch0 ?_
  refine wpAnyH_take (i := 2) (v := .slice (some ⟨w9.heap.size, 0, none⟩) 32 32) rfl (by kernel_rfl) (by kernel_rfl) (by kernel_rfl) (by first | exact fun _ _ _ h => h | exact fun _ _ _ h => nomatch h.1) (Or.inl ⟨by rfl, fun w_ hw_ => by go_simp⟩) hch0 ?_
  refine wpAnyH_ready (rs := [1]) (by kernel_rfl) (by simp) ?_
  refine AllReadyH.cons rfl (fun K hK => ?_) AllReadyH.nil
  rw [if_pos (by rfl)]
  try simp only [Act.put, List.setIfInBounds_toArray, List.set_cons_zero, List.set_cons_succ, List.getElem_toArray, List.getElem_cons_succ, List.getElem_cons_zero]
  go_simp
  refine (behindKey_any (keyN (k)) 92 _ (keyN_len _ HK64.out) (keyN_lt HKB.out) (by decide) (HTX.out _ (HXX.out _ hch0))).mono ?_
  rintro e w12 ⟨rfl, hc12⟩
  have hch1 : Chg (· = w.heap.size) w11 w12 := hch0.trans (hc12.mono (fun _ _ h => h.elim))
  refine hK.out _ _ (hch1) (fun _ => ?_)
  clear hK K
  try simp only [Act.put, List.setIfInBounds_toArray, List.set_cons_zero, List.set_cons_succ, List.getElem_toArray, List.getElem_cons_succ, List.getElem_cons_zero]
  refine wpAnyH_ready (rs := [3]) (by kernel_rfl) (by simp) ?_
  refine AllReadyH.cons rfl (fun K hK => ?_) AllReadyH.nil
  rw [if_pos (by rfl)]
  try simp only [List.getElem_toArray, List.getElem_cons_succ, List.getElem_cons_zero]
  go_simp
  refine (digest_any (turnN first8 (xorK (keyN (k)) 92)) 64 (fun b => w9.heap.size ≤ b) (some ⟨w9.heap.size, 0, none⟩) 32 (digN (turnN first8 (xorK (keyN (k)) 54)) 64 l) _ (turnN_ok _ _) (by omega) (by rw [digN_len]; exact (HVI.out.chg hch1 (fun b hb h => by omega))) (by rw [digN_len]; omega) (by rw [digN_len]; omega) (digN_lt _ _ _) (HTX.out _ (HXX.out _ hch1))).mono ?_
  rintro e w13 ⟨rfl, hc13⟩
  have hch2 : Chg (· = w.heap.size) w11 w13 := hch1.trans (hc13.mono (fun _ _ h => h.elim))
  have hrow1 := (HR1x.out.drew.chg hc12 (fun h => h)).chg hc13 (fun h => h)
  refine hK.out _ _ (hch2) (fun _ => ?_)
  clear hK K
  try simp only [Act.put, List.setIfInBounds_toArray, List.set_cons_zero, List.set_cons_succ, List.getElem_toArray, List.getElem_cons_succ, List.getElem_cons_zero]
  refine wpAnyH_ready (rs := [4]) (by kernel_rfl) (by simp) ?_
  refine AllReadyH.cons rfl (fun K hK => ?_) AllReadyH.nil
  rw [if_pos (by rfl)]
  try simp only [List.getElem_toArray, List.getElem_cons_succ, List.getElem_cons_zero]
  refine wp_store_row (ty := 26) (xs := u8s (digN (turnN first8 (xorK (keyN (k)) 92)) 64 (digN (turnN first8 (xorK (keyN (k)) 54)) 64 l))) rfl rfl (hrow1) rfl (by rw [u8s_length, digN_len, u8s_length]; rfl) (by rw [u8s_length, digN_len]; exact size25) (u8s_oneA _) ?_
  intro w14 hr_w14 hc_w14 hs_w14
  refine hK.out _ _ (hc_w14 (fun b => b = w.heap.size) w11 hch2 (fun _ => rfl)) (fun _ => ?_)
  clear hK K
  try simp only [Act.put]
  refine wpAnyH_done (by kernel_rfl) ?_ _
  go_wp2
  refine ret_row rfl rfl hr_w14 Tryd.underlying26 rfl (by rw [u8s_length, digN_len]; exact size25) rfl ?_
  exact ⟨by rw [HE.out]; rfl, hc_w14 none_ w (HXX.out _ hch2) (fun h => absurd h (by omega))⟩

set_option maxRecDepth 100000 in
set_option maxHeartbeats 2000000 in
theorem tag_long (T T' : Nat → Prop) (A A' : Option Addr) (cap cap' : Nat) (k l : List Nat) (w : World) (hvk : View w T A k.length (u8s k)) (hv : View w T' A' l.length (u8s l)) (hk : k.length ≤ 1000000) (hl : l.length ≤ 1000000) (hkc : k.length ≤ cap) (hlc : l.length ≤ cap') (hkb : ∀ x ∈ k, x < 256) (hb : ∀ x ∈ l, x < 256) (hT : HTab w) (h64 : 64 < k.length) :
    Calls Tryd.prog 27 #[.slice A k.length cap, .slice A' l.length cap'] w fun e w' => e = .returned (.agg (u8s (tagN k l)).toArray) ∧ Chg none_ w w' := by
  have HTX : Hid (∀ w', Chg none_ w w' → HTab w') := Lib.hid (fun w' hc => hT.chg hc (fun h => h) (fun h => h))
  have HLB := Lib.hid hb
  have HKB := Lib.hid hkb
  have HVL : Hid (∀ w', Chg none_ w w' → View w' (fun b => b < w.heap.size) A' l.length (u8s l)) := Lib.hid (fun w' hc => (hv.mono (T' := fun b => b < w.heap.size) (fun _ h _ => h)).chg hc (fun _ _ h => h))
  have HVK : Hid (∀ w', Chg none_ w w' → View w' (fun b => b < w.heap.size) A k.length (u8s k)) := Lib.hid (fun w' hc => (hvk.mono (T' := fun b => b < w.heap.size) (fun _ h _ => h)).chg hc (fun _ _ h => h))
  have HCAPL := Lib.hid hlc
  have HCAPK := Lib.hid hkc
  clear hT hb hkb hv hvk hlc hkc
  have HS64 : Hid ((sumN k).length ≤ 64) := Lib.hid (by rw [sumN_len]; omega)
  have HE : Hid (tagN k l = tagS (sumN k) l) := Lib.hid (by unfold tagN; rw [if_pos h64])
  go_enter Tryd.func27, Tryd.ntmps27
  go_wp2_with (first | ((with_reducible show wpList _ _ _ (⟨some 4, .alloc 26, _, _, _, _⟩ :: _) _ _); refine wpList_alloc_Row rfl rfl (u8s (List.replicate 32 0)) zero25 ?_; intro w1 hr1 hc1 hs1; have HR1 := Lib.hid hr1; have HC1 := Lib.hid hc1; clear hr1 hc1 hs1) | (go_at_call 34; refine (sum_any (fun b => b < w.heap.size) A cap k _ (HVK.out _ HC1.out) hk HCAPK.out HKB.out (HTX.out _ HC1.out)).mono ?_; rintro e w2 ⟨rfl, hc2⟩; have HC2 := Lib.hid hc2; clear hc2) | ((with_reducible show wpList _ _ _ (⟨some 5, .alloc 26, _, _, _, _⟩ :: _) _ _); refine wpList_alloc_Row rfl rfl (u8s (List.replicate 32 0)) zero25 ?_; intro w3 hr3 hc3 hs3; have HR3 := Lib.hid hr3; have HC3 := Lib.hid hc3; clear hr3 hc3 hs3) | ((with_reducible show wpList _ _ _ (⟨_, .store 26 (.tmp 5) _, _, _, _, _⟩ :: _) _ _); refine wpList_store_Row (xs := u8s (sumN k)) rfl rfl rfl (HR3.out) (rfl) (by rw [u8s_length, sumN_len, u8s_length]; rfl) (by rw [u8s_length, sumN_len]; exact size25) (u8s_oneA _) ?_; intro w4 hr4 hc4 hs4; have HR4 := Lib.hid hr4; have HC4 := Lib.hid hc4; have hsz2 := HC2.out.size; have HX := Lib.hid (hc4 none_ w ((HC1.out.trans HC2.out).trans HC3.out) (fun h => by have := HC1.out.size; omega)); have HR1y := Lib.hid ((HR1.out.chg HC2.out (fun h => h)).chg (hc4 (· = w2.heap.size) w2 (HC3.out.mono (fun _ _ h => h.elim)) (fun _ => rfl)) (by have := HR1.out.lt; omega)); have HVS : Hid (View w4 (fun _ => True) (some ⟨w2.heap.size, 0, none⟩) 32 (u8s (sumN k))) := Lib.hid (by have hh := View.row (T := fun _ => True) hr4 (n := 32) (by rw [u8s_length, sumN_len]; omega) trivial; rw [List.take_of_length_le (by rw [u8s_length, sumN_len]; omega)] at hh; exact hh); clear hr4 hc4 hs4) | ((with_reducible show wpList _ _ _ (⟨_, .alloc 75, _, _, _, _⟩ :: _) _ _); refine wpList_alloc_Row rfl rfl (u8s (List.replicate 64 0)) zero41 ?_; intro w6 hr6 hc6 hs6; have HR6 := Lib.hid hr6; have HC6 := Lib.hid hc6; clear hr6 hc6 hs6) | ((with_reducible show wpList _ _ _ (⟨some 16, _, _, _, _, _⟩ :: _) _ _); refine wpList_copy_min rfl _ _ _ _ rfl (pre := []) (ys := u8s (List.replicate 64 0)) (post := []) (xs := u8s (sumN k)) (D := some ⟨w4.heap.size, 0, none⟩) rfl rfl (fun _ => rfl) Tryd.underlying22 size5h (by simpa using HR6.out) (by simp) ((HVS.out).chg HC6.out (fun _ _ h => h)) (u8s_one _) ?_; intro w7 hr7 hc7; have HR7 := Lib.hid (key_row (by rw [sumN_len]; exact hr7) HS64.out); have HC7 := Lib.hid hc7; have HC67 := Lib.hid (HC6.out.andThen hc7 (fun b h e => by omega)); clear hr7 hc7) | ((with_reducible show wpList _ _ _ (⟨some 17, .load 75 _, _, _, _, _⟩ :: _) _ _); refine wpList_load_Row rfl rfl rfl (HR7.out) Tryd.underlying75 rfl (by rw [u8s_length, keyN_len _ HS64.out]; exact size41) ?_) | (go_at_call 35; refine (behindKey_any (keyN (sumN k)) 54 _ (keyN_len _ HS64.out) (keyN_lt (sumN_lt k)) (by decide) (HTX.out _ ((HX.out).trans HC67.out))).mono ?_; rintro e w8 ⟨rfl, hc8⟩; have HC8 := Lib.hid hc8; clear hc8) | (go_at_call 36; refine (digest_any (turnN first8 (xorK (keyN (sumN k)) 54)) 64 (fun b => b < w.heap.size) A' cap' l _ (turnN_ok _ _) (by omega) (HVL.out _ (((HX.out).trans HC67.out).trans HC8.out)) hl HCAPL.out HLB.out (HTX.out _ (((HX.out).trans HC67.out).trans HC8.out))).mono ?_; rintro e w9 ⟨rfl, hc9⟩; have HC9 := Lib.hid hc9; clear hc9) | ((with_reducible show wpList _ _ _ (⟨some 7, .alloc 26, _, _, _, _⟩ :: _) _ _); refine wpList_alloc_Row rfl rfl (u8s (List.replicate 32 0)) zero25 ?_; intro w10 hr10 hc10 hs10; have HR10 := Lib.hid hr10; have HC10 := Lib.hid hc10; clear hr10 hc10 hs10) | ((with_reducible show wpList _ _ _ (⟨_, .store 26 (.tmp 7) _, _, _, _, _⟩ :: _) _ _); refine wpList_store_Row (xs := u8s (digN (turnN first8 (xorK (keyN (sumN k)) 54)) 64 l)) rfl rfl rfl (HR10.out) (rfl) (by rw [u8s_length, digN_len, u8s_length]; rfl) (by rw [u8s_length, digN_len]; exact size25) (u8s_oneA _) ?_; intro w11 hr11 hc11 hs11; have HR11 := Lib.hid hr11; have HC11 := Lib.hid hc11; clear hr11 hc11 hs11))
  have hg1 : w.heap.size < w4.heap.size := by have := HR1y.out.lt; omega
  have HC811 := Lib.hid (((HC8.out.trans HC9.out).trans HC10.out))
  have HC11x : Hid (Chg none_ w w11) := Lib.hid (HC11.out none_ w (((HX.out).trans HC67.out).trans HC811.out) (fun h => by have := (HC67.out.trans (HC8.out.trans HC9.out)).size; omega))
  have HXX : Hid (∀ w', Chg (· = w.heap.size) w11 w' → Chg none_ w w') := Lib.hid (fun w' hc => HC11x.out.andThen hc (fun b h e => by omega))
  have HC711 : Hid (Chg (· = w9.heap.size) w7 w11) := Lib.hid (HC11.out _ w7 (HC811.out.mono (fun _ _ h => h.elim)) (fun _ => rfl))
  have hg9 : w4.heap.size < w9.heap.size := by have := HR7.out.lt; have := (HC8.out.trans HC9.out).size; omega
  have HR7x := Lib.hid (HR7.out.chg HC711.out (by omega))
  have HR1x := Lib.hid ((HR1y.out.chg HC67.out (fun h => h)).chg HC711.out (by omega))
  have HVI : Hid (View w11 (fun b => w9.heap.size ≤ b) (some ⟨w9.heap.size, 0, none⟩) 32 (u8s (digN (turnN first8 (xorK (keyN (sumN k)) 54)) 64 l))) := Lib.hid (by
    have hh := View.row (T := fun b => w9.heap.size ≤ b) HR11.out (n := 32) (by rw [u8s_length, digN_len]; omega) (Nat.le_refl _)
    rw [List.take_of_length_le (by rw [u8s_length, digN_len]; omega)] at hh
    exact hh)
  refine wp_region_held_drew (S := fun w' => Chg (· = w.heap.size) w11 w') (by kernel_rfl) ((Chg.refl _ _).drew) (fun hch0 => ?_)
  refine wpAnyH_take (i := 0) (v := .agg (u8s (keyN (sumN k))).toArray) rfl (by kernel_rfl) (by kernel_rfl) (by kernel_rfl) (by first | exact fun _ _ _ h => h | exact fun _ _ _ h => nomatch h.1) (yieldsIf_load_mid (by rfl) 75 _ rfl w4.heap.size 0 rfl (u8s (keyN (sumN k))) _ (fun w' hw' => (HR7x.out.chg hw' (by omega)).range) Tryd.underlying75 rfl (by rw [u8s_length, keyN_len _ HS64.out]; exact size41)) hch0 ?_
  refine wpAnyH_take (i := 2) (v := .slice (some ⟨w9.heap.size, 0, none⟩) 32 32) rfl (by kernel_rfl) (by kernel_rfl) (by kernel_rfl) (by first | exact fun _ _ _ h => h | exact fun _ _ _ h => nomatch h.1) (Or.inl ⟨by rfl, fun w_ hw_ => by go_simp⟩) hch0 ?_
  refine wpAnyH_ready (rs := [1]) (by kernel_rfl) (by simp) ?_
  refine AllReadyH.cons rfl (fun K hK => ?_) AllReadyH.nil
  rw [if_pos (by rfl)]
  try simp only [Act.put, List.setIfInBounds_toArray, List.set_cons_zero, List.set_cons_succ, List.getElem_toArray, List.getElem_cons_succ, List.getElem_cons_zero]
  go_simp
  refine (behindKey_any (keyN (sumN k)) 92 _ (keyN_len _ HS64.out) (keyN_lt (sumN_lt k)) (by decide) (HTX.out _ (HXX.out _ hch0))).mono ?_
  rintro e w12 ⟨rfl, hc12⟩
  have hch1 : Chg (· = w.heap.size) w11 w12 := hch0.trans (hc12.mono (fun _ _ h => h.elim))
  refine hK.out _ _ (hch1) (fun _ => ?_)
  clear hK K
  try simp only [Act.put, List.setIfInBounds_toArray, List.set_cons_zero, List.set_cons_succ, List.getElem_toArray, List.getElem_cons_succ, List.getElem_cons_zero]
  refine wpAnyH_ready (rs := [3]) (by kernel_rfl) (by simp) ?_
  refine AllReadyH.cons rfl (fun K hK => ?_) AllReadyH.nil
  rw [if_pos (by rfl)]
  try simp only [List.getElem_toArray, List.getElem_cons_succ, List.getElem_cons_zero]
  go_simp
  refine (digest_any (turnN first8 (xorK (keyN (sumN k)) 92)) 64 (fun b => w9.heap.size ≤ b) (some ⟨w9.heap.size, 0, none⟩) 32 (digN (turnN first8 (xorK (keyN (sumN k)) 54)) 64 l) _ (turnN_ok _ _) (by omega) (by rw [digN_len]; exact (HVI.out.chg hch1 (fun b hb h => by omega))) (by rw [digN_len]; omega) (by rw [digN_len]; omega) (digN_lt _ _ _) (HTX.out _ (HXX.out _ hch1))).mono ?_
  rintro e w13 ⟨rfl, hc13⟩
  have hch2 : Chg (· = w.heap.size) w11 w13 := hch1.trans (hc13.mono (fun _ _ h => h.elim))
  have hrow1 := (HR1x.out.drew.chg hc12 (fun h => h)).chg hc13 (fun h => h)
  refine hK.out _ _ (hch2) (fun _ => ?_)
  clear hK K
  try simp only [Act.put, List.setIfInBounds_toArray, List.set_cons_zero, List.set_cons_succ, List.getElem_toArray, List.getElem_cons_succ, List.getElem_cons_zero]
  refine wpAnyH_ready (rs := [4]) (by kernel_rfl) (by simp) ?_
  refine AllReadyH.cons rfl (fun K hK => ?_) AllReadyH.nil
  rw [if_pos (by rfl)]
  try simp only [List.getElem_toArray, List.getElem_cons_succ, List.getElem_cons_zero]
  refine wp_store_row (ty := 26) (xs := u8s (digN (turnN first8 (xorK (keyN (sumN k)) 92)) 64 (digN (turnN first8 (xorK (keyN (sumN k)) 54)) 64 l))) rfl rfl (hrow1) rfl (by rw [u8s_length, digN_len, u8s_length]; rfl) (by rw [u8s_length, digN_len]; exact size25) (u8s_oneA _) ?_
  intro w14 hr_w14 hc_w14 hs_w14
  refine hK.out _ _ (hc_w14 (fun b => b = w.heap.size) w11 hch2 (fun _ => rfl)) (fun _ => ?_)
  clear hK K
  try simp only [Act.put]
  refine wpAnyH_done (by kernel_rfl) ?_ _
  go_wp2
  refine ret_row rfl rfl hr_w14 Tryd.underlying26 rfl (by rw [u8s_length, digN_len]; exact size25) rfl ?_
  exact ⟨by rw [HE.out]; rfl, hc_w14 none_ w (HXX.out _ hch2) (fun h => absurd h (by omega))⟩

theorem tag_any (T T' : Nat → Prop) (A A' : Option Addr) (cap cap' : Nat) (k l : List Nat) (w : World) (hvk : View w T A k.length (u8s k)) (hv : View w T' A' l.length (u8s l)) (hk : k.length ≤ 1000000) (hl : l.length ≤ 1000000) (hkc : k.length ≤ cap) (hlc : l.length ≤ cap') (hkb : ∀ x ∈ k, x < 256) (hb : ∀ x ∈ l, x < 256) (hT : HTab w) :
    Calls Tryd.prog 27 #[.slice A k.length cap, .slice A' l.length cap'] w fun e w' => e = .returned (.agg (u8s (tagN k l)).toArray) ∧ Chg none_ w w' := by
  rcases Nat.lt_or_ge 64 k.length with h | h
  · exact tag_long T T' A A' cap cap' k l w hvk hv hk hl hkc hlc hkb hb hT h
  · exact tag_short T T' A A' cap cap' k l w hvk hv hk hl hkc hlc hkb hb hT h

theorem extract_any (T T' : Nat → Prop) (A A' : Option Addr) (cap cap' : Nat) (k l : List Nat) (w : World) (hvk : View w T A k.length (u8s k)) (hv : View w T' A' l.length (u8s l)) (hk : k.length ≤ 1000000) (hl : l.length ≤ 1000000) (hkc : k.length ≤ cap) (hlc : l.length ≤ cap') (hkb : ∀ x ∈ k, x < 256) (hb : ∀ x ∈ l, x < 256) (hT : HTab w) :
    Calls Tryd.prog 19 #[.slice A k.length cap, .slice A' l.length cap'] w fun e w' => e = .returned (.agg (u8s (tagN k l)).toArray) ∧ Chg none_ w w' := by
  have HTG := Lib.hid (fun w' (hc : Chg none_ w w') => tag_any _ _ A A' cap cap' k l w' (hvk.chg hc (fun _ _ h => h)) (hv.chg hc (fun _ _ h => h)) hk hl hkc hlc hkb hb (hT.chg hc (fun h => h) (fun h => h)))
  clear hvk hv hk hl hkc hlc hkb hb hT
  go_enter Tryd.func19, Tryd.ntmps19
  go_wp2_with (first | ((with_reducible show wpList _ _ _ (⟨_, .alloc 26, _, _, _, _⟩ :: _) _ _); refine wpList_alloc_Row rfl rfl (u8s (List.replicate 32 0)) zero25 ?_; intro w1 hr1 hc1 hs1; have HR1 := Lib.hid hr1; have HC1 := Lib.hid hc1; clear hr1 hc1 hs1) | (go_at_call 27; refine (HTG.out _ HC1.out).mono ?_; rintro e w2 ⟨rfl, hc2⟩; have HC2 := Lib.hid hc2; clear hc2) | ((with_reducible show wpList _ _ _ (⟨_, .store 26 _ _, _, _, _, _⟩ :: _) _ _); refine wpList_store_Row (xs := u8s (tagN k l)) rfl rfl rfl (HR1.out.chg HC2.out (fun h => h)) (rfl) (by rw [u8s_length, tagN_len, u8s_length]; rfl) (by rw [u8s_length, tagN_len]; exact size25) (u8s_oneA _) ?_; intro w3 hr3 hc3 hs3; have HR3 := Lib.hid hr3; have HC3 := Lib.hid hc3; clear hr3 hc3 hs3))
  refine ret_row rfl rfl HR3.out Tryd.underlying26 rfl (by rw [u8s_length, tagN_len]; exact size25) rfl ?_
  exact ⟨rfl, HC3.out none_ w (HC1.out.trans HC2.out) (fun h => absurd h (by omega))⟩
end Go.Proofs.YtfpflhcabjcamaaDoor

namespace Go.Proofs.YtfpflhcabjcamaaDoor
open Go.RowKit

theorem chainN_lt (s info : List Nat) : ∀ k, ∀ x ∈ chainN s info k, x < 256
  | 0 => by simp [chainN]
  | k + 1 => tagN_lt _ _
theorem chainN_len (s info : List Nat) (k : Nat) : (chainN s info (k + 1)).length = 32 := tagN_len _ _
theorem chainN_le (s info : List Nat) : ∀ k, (chainN s info k).length ≤ 32
  | 0 => by simp [chainN]
  | k + 1 => by rw [chainN_len]; omega
theorem allN_len (s info : List Nat) : ∀ k, (allN s info k).length = 32 * k
  | 0 => rfl
  | k + 1 => by rw [allN, List.length_append, allN_len s info k, chainN_len]; omega
/-- What is laid, as far as it goes. -/
def outP (s info : List Nat) (n k : Nat) : List Nat := (allN s info k).take n ++ List.replicate (n - 32 * k) 0
theorem outP_0 (s info : List Nat) (n : Nat) : outP s info n 0 = List.replicate n 0 := by simp [outP, allN]
theorem outP_len (s info : List Nat) (n k : Nat) : (outP s info n k).length = n := by simp [outP, allN_len]; omega
theorem outP_end (s info : List Nat) (n k : Nat) (h : n ≤ 32 * k) : outP s info n k = (allN s info k).take n := by simp [outP, show n - 32 * k = 0 from by omega]
theorem outP_split (s info : List Nat) (n k : Nat) (h : 32 * k ≤ n) : outP s info n k = allN s info k ++ List.replicate (n - 32 * k) 0 := by rw [outP, List.take_of_length_le (by rw [allN_len]; exact h)]
theorem outP_next (s info : List Nat) (n k : Nat) (h : 32 * k ≤ n) : allN s info k ++ ((chainN s info (k + 1)).take (n - 32 * k) ++ (List.replicate (n - 32 * k) 0).drop 32) = outP s info n (k + 1) := by
  rw [outP, allN, List.take_append, List.take_of_length_le (l := allN s info k) (by rw [allN_len]; exact h), allN_len, List.drop_replicate, List.append_assoc, show n - 32 * k - 32 = n - 32 * (k + 1) from by omega]

theorem Fresh.le {w : World} {base : Nat} {A : Option Addr} {cap : Nat} {l : List Nat} (h : Fresh w base A cap l) : l.length ≤ cap := by
  obtain ⟨A', cap', e, h2, _, _⟩ := View.own (T := fun _ => True) h.own (fun _ _ => trivial)
  injection e with _ _ e3
  omega

theorem View.mono' {w : World} {g c n : Nat} {xs : List Value} {B : Nat} (h : View w (fun b => b ≠ c) (some ⟨g, 0, none⟩) n xs) (hg : B ≤ g) : View w (fun b => B ≤ b) (some ⟨g, 0, none⟩) n xs :=
  ⟨h.1, fun hn => by
    obtain ⟨b, o, ha, hb, _, hc⟩ := h.2 hn
    injection ha with ha
    injection ha with h1 h2
    subst h1; subst h2
    exact ⟨g, 0, rfl, hb, hg, hc⟩⟩
/-- slices.Concat of three slices that lie in a row. -/
theorem cat3 (w : World) (g : Nat) (e : TypeId) (A1 A2 A3 : Option Addr) (c1 c2 c3 : Nat) (l1 l2 l3 : List Nat) (T1 T2 T3 : Nat → Prop) (hr : Row w g e [.slice A1 l1.length c1, .slice A2 l2.length c2, .slice A3 l3.length c3])
    (h1 : View w T1 A1 l1.length (u8s l1)) (h2 : View w T2 A2 l2.length (u8s l2)) (h3 : View w T3 A3 l3.length (u8s l3)) (ht : l1.length + (l2.length + l3.length) ≤ 1000000) :
    Calls Tryd.prog 28 #[.slice (some ⟨g, 0, none⟩) 3 3] w (GotBytes w (l1 ++ (l2 ++ l3))) := by
  have hv := View.row (T := fun _ => True) hr (n := 3) (Nat.le_refl _) trivial
  rw [List.take_of_length_le (by simp)] at hv
  have := concat_got w (fun _ => True) _ 3 [.slice A1 l1.length c1, .slice A2 l2.length c2, .slice A3 l3.length c3] [l1, l2, l3] hv rfl (fun i hi => by
    match i, hi with
    | 0, _ => exact ⟨A1, c1, rfl, h1.mono (fun _ _ _ => trivial)⟩
    | 1, _ => exact ⟨A2, c2, rfl, h2.mono (fun _ _ _ => trivial)⟩
    | 2, _ => exact ⟨A3, c3, rfl, h3.mono (fun _ _ _ => trivial)⟩) (by simp [total]; omega) (by simp)
  simpa using this

theorem expand_none (s : List Nat) (n : Int) (v : Value) (w : World) (hn : n < 0 ∨ 255 < n) :
    Calls Tryd.prog 29 #[.agg (u8s s).toArray, v, .int .i64 n] w fun e w' => e = .returned (.slice none 0 0) ∧ Chg none_ w w' := by
  have hb : decide (n < 0) = true ∨ (decide (n < 0) = false ∧ decide (255 < n) = true) := by
    by_cases h : n < 0
    · left; simpa using h
    · right; simp; omega
  clear hn
  rcases hb with h1 | ⟨h1, h2⟩
  all_goals
    go_enter Tryd.func29, Tryd.ntmps29
    go_wp2_with (first | ((with_reducible show wpList _ _ _ (⟨_, .box 26 _, _, _, _, _⟩ :: _) _ _); refine wpList_box_Row rfl rfl (u8s s) rfl ?_; intro w1 hr1 hc1 hs1; have HR1 := Lib.hid hr1; have HC1 := Lib.hid hc1; clear hr1 hc1 hs1))
    go_ret
    exact ⟨rfl, HC1.out⟩

set_option maxRecDepth 100000 in
set_option maxHeartbeats 4000000 in
theorem expand_ok (s info : List Nat) (n m : Nat) (hm : (n + 31) / 32 = m) (Ti : Nat → Prop) (Ai : Option Addr) (ci : Nat) (w : World) (hn : n ≤ 255) (hs : s.length = 32) (hsb : ∀ x ∈ s, x < 256) (hvi : View w Ti Ai info.length (u8s info)) (hil : info.length ≤ 900000) (hic : info.length ≤ ci) (hib : ∀ x ∈ info, x < 256) (hT : HTab w) :
    Calls Tryd.prog 29 #[.agg (u8s s).toArray, .slice Ai info.length ci, .int .i64 n] w fun e w' => GotBytes w ((allN s info m).take n) e w' := by
  have HS := Lib.hid hs
  have HSB := Lib.hid hsb
  have HIC := Lib.hid hic
  have HIB := Lib.hid hib
  have HTX : Hid (∀ w', Chg none_ w w' → HTab w') := Lib.hid (fun w' hc => hT.chg hc (fun h => h) (fun h => h))
  have HVI : Hid (∀ w', Chg none_ w w' → View w' (fun b => b < w.heap.size) Ai info.length (u8s info)) := Lib.hid (fun w' hc => (hvi.mono (T' := fun b => b < w.heap.size) (fun _ h _ => h)).chg hc (fun _ _ h => h))
  obtain ⟨i0, hi, hz0, hz1, hz2⟩ := info_parts info5
  clear hs hsb hic hib hT hvi
  go_enter Tryd.func29, Tryd.ntmps29
  go_wp2_with (first | ((with_reducible show wpList _ _ _ (⟨_, .box 26 _, _, _, _, _⟩ :: _) _ _); refine wpList_box_Row rfl rfl (u8s s) rfl ?_; intro w1 hr1 hc1 hs1; have HR1 := Lib.hid hr1; have HC1 := Lib.hid hc1; clear hr1 hc1 hs1) | (at_make; refine wpList_make_full _ rfl _ _ _ rfl w1.heap.size 5 i0 _ 1 Tryd.underlying22 hi hz0 hz1 _ _ _ _ n rfl rfl rfl rfl (by rw [hz2]; omega) (by unfold maxLen; omega) (Nat.le_refl _) ?_; intro w2 hown hgrow))
  have HR2 : Hid (Row w2 w1.heap.size 5 (u8s (List.replicate n 0))) := Lib.hid (by
    have := Row.of_made hown
    rw [show (Value.int .u8 0).cells = #[.int .u8 0] from rfl, toList_madeCells_one] at this
    simpa [u8s] using this)
  have HC2 : Hid (Chg none_ w1 w2) := Lib.hid ((Chg.refl none_ w1).grown hgrow (by intro k hk; cases hk))
  clear hown hgrow
  have e22 : (((n : Int) + 32 - 1) / 32) = (m : Int) := by omega
  have hd1 : decide ((n : Int) < 0) = false := by simp
  have hd2 : decide ((255 : Int) < (n : Int)) = false := by simp; omega
  have hm8 : m ≤ 8 := by omega
  have HM := Lib.hid hm
  clear hm
  simp only [e22, hd1, hd2, Bool.or_self]
  clear e22 hd1 hd2
  have HG := Lib.hid (show w.heap.size < w1.heap.size ∧ w1.heap.size < w2.heap.size from ⟨HR1.out.lt, HR2.out.lt⟩)
  have HR1x := Lib.hid (HR1.out.chg HC2.out (fun h => h))
  have HCH := Lib.hid (HC1.out.trans HC2.out)
  have HTY : Hid (∀ w', Chg (· = w1.heap.size) w2 w' → HTab w') := Lib.hid (fun w' hc => HTX.out _ (HCH.out.andThen hc (fun b h e => by have := HG.out; omega)))
  have HVY : Hid (∀ w', Chg (· = w1.heap.size) w2 w' → View w' (fun b => b < w.heap.size) Ai info.length (u8s info)) := Lib.hid (fun w' hc => HVI.out _ (HCH.out.andThen hc (fun b h e => by have := HG.out; omega)))
  have HRY : Hid (∀ w', Chg (· = w1.heap.size) w2 w' → Row w' w.heap.size 26 (u8s s)) := Lib.hid (fun w' hc => HR1x.out.chg hc (by have := HG.out; omega))
  clear HTX HVI HR1 HC1 HC2 HR1x
  go_loopw [8, 23] (fun a i wr => ∃ (k : Nat) (Aa : Option Addr) (ca : Nat), k ≤ m ∧ i = .int .i64 k ∧ a = .slice Aa (chainN s info k).length ca ∧ View wr (fun b => w2.heap.size ≤ b) Aa (chainN s info k).length (u8s (chainN s info k)) ∧ Row wr w1.heap.size 5 (u8s (outP s info n k)) ∧ Chg (· = w1.heap.size) w2 wr) (fun _ i _ => m - (intOf i).toNat)
  case atStart => exact ⟨0, none, 0, Nat.zero_le _, rfl, rfl, View.none_ _ _ _, by rw [outP_0]; exact HR2.out, Chg.refl _ _⟩
  case round =>
    obtain ⟨k, Aa, ca, hk, rfl, rfl, hva, hrow, hch⟩ := hrel
    have HVA := Lib.hid hva
    have HROW := Lib.hid hrow
    have HC := Lib.hid hch
    by_cases hlt : k < m
    · have hkn : 32 * k < n := by have := HM.out; omega
      have HCL := Lib.hid (chainN_le s info k)
      have HCB := Lib.hid (chainN_lt s info k)
      clear hva hrow hch
      have HNX : Hid (chainN s info (k + 1) = tagN s (chainN s info k ++ (info ++ [k + 1]))) := Lib.hid (by rw [chainN, Nat.mod_eq_of_lt (by omega), List.append_assoc])
      have HOS := Lib.hid (outP_split s info n k (by omega))
      have HON := Lib.hid (outP_next s info n k (by omega))
      have HAL := Lib.hid (allN_len s info k)
      rw [HNX.out] at HON
      generalize chainN s info k = C at HVA HCL HCB HNX HON ⊢
      generalize hLLe : C ++ (info ++ [k + 1]) = LL at HNX HON
      have HLLL : Hid (LL.length ≤ 1000000) := Lib.hid (by rw [← hLLe]; have := HCL.out; simp; omega)
      have HLLB : Hid (∀ x ∈ LL, x < 256) := Lib.hid (by rw [← hLLe]; intro x hx; simp only [List.mem_append, List.mem_singleton] at hx; rcases hx with h | h | rfl; exact HCB.out x h; exact HIB.out x h; omega)
      have HLLe := Lib.hid hLLe
      clear hLLe
      have HTAG : Hid (∀ w' Ac cc, Chg none_ wr w' → View w' (fun _ => True) Ac LL.length (u8s LL) → LL.length ≤ cc → Calls Tryd.prog 27 #[.slice (some ⟨w.heap.size, 0, none⟩) 32 32, .slice Ac LL.length cc] w' fun e w'' => e = .returned (.agg (u8s (tagN s LL)).toArray) ∧ Chg none_ w' w'') := Lib.hid (fun w' Ac cc hc hv hcc => by
        have hc2 : Chg (· = w1.heap.size) w2 w' := HC.out.trans (hc.mono (fun _ _ h => h.elim))
        have hvs := View.row (T := fun _ => True) (HRY.out _ hc2) (n := s.length) (by simp) trivial
        rw [List.take_of_length_le (by simp)] at hvs
        have hh := tag_any _ _ (some ⟨w.heap.size, 0, none⟩) Ac 32 cc s LL w' hvs hv (by rw [HS.out]; omega) HLLL.out (by rw [HS.out]; omega) hcc HSB.out HLLB.out (HTY.out _ hc2)
        rw [HS.out] at hh
        exact hh)
      have HCAT : Hid (∀ w' g6 g7, Chg none_ wr w' → Row w' g6 5 [.int .u8 ((k : Int) + 1)] → Row w' g7 22 [.slice Aa C.length ca, .slice Ai info.length ci, .slice (some ⟨g6, 0, none⟩) 1 1] → Calls Tryd.prog 28 #[.slice (some ⟨g7, 0, none⟩) 3 3] w' (GotBytes w' LL)) := Lib.hid (fun w' g6 g7 hc h6 h7 => by
        have hc2 : Chg (· = w1.heap.size) w2 w' := HC.out.trans (hc.mono (fun _ _ h => h.elim))
        have h6' : Row w' g6 5 (u8s [k + 1]) := h6
        have hv6 := View.row (T := fun _ => True) h6' (n := 1) (by simp) trivial
        have hh := cat3 w' g7 _ Aa Ai (some ⟨g6, 0, none⟩) ca ci 1 C info [k + 1] _ _ _ h7 (HVA.out.chg hc (fun _ _ h => h)) (HVY.out _ hc2) hv6 (by have := HCL.out; simp; omega)
        rw [HLLe.out] at hh
        exact hh)
      generalize tagN s LL = TG at HNX HON HTAG
      have HTGL : Hid (TG.length = 32) := Lib.hid (by rw [← HNX.out]; exact chainN_len _ _ _)
      have Q1 : Hid (IntKind.i64.wrap ((k : Int) + 1) = (k : Int) + 1) := Lib.hid (IntWalk.i64_in _ (by omega))
      have Q2 : Hid (IntKind.u8.wrap ((k : Int) + 1) = (k : Int) + 1) := Lib.hid (by show ((k : Int) + 1) % 256 = _; omega)
      go_wp2
      refine Code.wp_mono (Q := fun e a w' => e = .normal ∧ ∃ (g10 : Nat) (x32 x33 x34 : Value), a = ⟨#[.agg (u8s s).toArray, .slice Ai info.length ci, .int .i64 n, .pointer (some ⟨w.heap.size, 0, none⟩), undef, undef, .slice none 0 0, .slice (some ⟨w1.heap.size, 0, none⟩) n n, .slice Aa C.length ca, .int .i64 k, .pointer (some ⟨g10, 0, none⟩), .int .i64 n, .bool false, .bool false, .int .i64 n, .bool false, .bool false, .int .i64 n, .slice (some ⟨w1.heap.size, 0, none⟩) n n, .int .i64 n, .int .i64 ((n : Int) + 32), .int .i64 ((n : Int) + 32 - 1), .int .i64 m, .int .i64 k, .bool true, .int .i64 k, .slice (some ⟨w.heap.size, 0, none⟩) 32 32, .slice Aa C.length ca, .slice Ai info.length ci, .int .i64 k, .int .i64 ((k : Int) + 1), .int .u8 ((k : Int) + 1), x32, x33, x34, .agg (u8s TG).toArray, u36, u37, u38, u39, u40, u41, u42, u43, undef], []⟩ ∧ Row w' g10 26 (u8s TG) ∧ wr.heap.size ≤ g10 ∧ Chg none_ wr w') ?hq ?_
      case hq =>
        rintro e a w3 ⟨rfl, g10, x32, x33, x34, rfl, hr10, hg10, hc3⟩
        have HR10 := Lib.hid hr10
        have HC3 : Hid (Chg (· = w1.heap.size) w2 w3) := Lib.hid (HC.out.trans (hc3.mono (fun _ _ h => h.elim)))
        have HROW3 := Lib.hid (HROW.out.chg hc3 (fun h => h))
        have HG10 := Lib.hid (Nat.le_trans HC.out.size hg10)
        clear hr10 hg10 hc3
        have Q3 : Hid (IntKind.i64.wrap ((k : Int) * 32) = ((32 * k : Nat) : Int)) := Lib.hid (by rw [IntWalk.i64_in _ (by omega)]; omega)
        have HDA : Hid (dropA (some ⟨w1.heap.size, 0, none⟩) n (32 * k) = some ⟨w1.heap.size, (u8s (allN s info k)).length, none⟩) := Lib.hid (by unfold dropA; rw [if_neg (by omega), u8s_length, HAL.out]; simp [addr_add])
        have HROW4 : Hid (Row w3.drew w1.heap.size 5 (u8s (allN s info k) ++ u8s (List.replicate (n - 32 * k) 0) ++ [])) := Lib.hid (by
          rw [List.append_nil]
          have hh := HROW3.out
          rw [HOS.out, ← u8s_append'] at hh
          exact hh.drew)
        have HV10 : Hid (View w3 (fun b => b ≠ w1.heap.size) (some ⟨g10, 0, none⟩) 32 (u8s TG)) := Lib.hid (by
          have hh := View.row (T := fun b => b ≠ w1.heap.size) HR10.out (n := 32) (by rw [u8s_length, HTGL.out]; omega) (by have := HG.out; have := HG10.out; omega)
          rw [List.take_of_length_le (by rw [u8s_length, HTGL.out]; omega)] at hh
          exact hh)
        go_wp2
        refine wp_region_held_drew (S := fun w' => Chg (· = w1.heap.size) w3 w') (by kernel_rfl) ((Chg.refl _ w3).drew) (fun hch0 => ?_)
        refine wpAnyH_take (i := 0) (v := .slice (some ⟨w1.heap.size, 0, none⟩) n n) rfl (by kernel_rfl) (by kernel_rfl) (by kernel_rfl) (by first | exact fun _ _ _ h => h | exact fun _ _ _ h => nomatch h.1) (Or.inl ⟨by rfl, fun w_ hw_ => by go_simp⟩) hch0 ?_
        refine wpAnyH_take (i := 1) (v := .int .i64 (k : Nat)) rfl (by kernel_rfl) (by kernel_rfl) (by kernel_rfl) (by first | exact fun _ _ _ h => h | exact fun _ _ _ h => nomatch h.1) (Or.inl ⟨by rfl, fun w_ hw_ => by go_simp⟩) hch0 ?_
        refine wpAnyH_take (i := 2) (v := .int .i64 ((32 * k : Nat) : Int)) rfl (by kernel_rfl) (by kernel_rfl) (by kernel_rfl) (by first | exact fun _ _ _ h => h | exact fun _ _ _ h => nomatch h.1) (Or.inl ⟨by rfl, fun w_ hw_ => by go_simp; exact Q3.out⟩) hch0 ?_
        refine wpAnyH_take (i := 3) (v := .slice (some ⟨w1.heap.size, (u8s (allN s info k)).length, none⟩) (n - 32 * k) (n - 32 * k)) rfl (by kernel_rfl) (by kernel_rfl) (by kernel_rfl) (by first | exact fun _ _ _ h => h | exact fun _ _ _ h => nomatch h.1) (yieldsIf_slice_low (by rfl) 22 5 _ _ rfl (some ⟨w1.heap.size, 0, none⟩) n n (32 * k) rfl rfl Tryd.underlying22 size5h (by omega) HDA.out) hch0 ?_
        refine wpAnyH_take (i := 4) (v := .slice (some ⟨g10, 0, none⟩) 32 32) rfl (by kernel_rfl) (by kernel_rfl) (by kernel_rfl) (by first | exact fun _ _ _ h => h | exact fun _ _ _ h => nomatch h.1) (Or.inl ⟨by rfl, fun w_ hw_ => by go_simp⟩) hch0 ?_
        refine wpAnyH_ready (rs := [5]) (by kernel_rfl) (by simp) ?_
        refine AllReadyH.cons rfl (fun K hK => ?_) AllReadyH.nil
        rw [if_pos (by rfl)]
        try simp only [Act.put, List.setIfInBounds_toArray, List.set_cons_zero, List.set_cons_succ, List.getElem_toArray, List.getElem_cons_succ, List.getElem_cons_zero]
        refine wp_copy_min _ _ _ _ rfl (pre := u8s (allN s info k)) (ys := u8s (List.replicate (n - 32 * k) 0)) (post := []) (xs := u8s TG) (D := some ⟨w1.heap.size, (u8s (allN s info k)).length, none⟩) rfl rfl (fun _ => rfl) Tryd.underlying22 size5h HROW4.out (by simp) (HV10.out.chg hch0 (fun _ h => h)) (u8s_one _) ?_
        intro w4 hr4 hc4
        refine hK.out _ _ (hch0.trans hc4) (fun hch1 => ?_)
        clear hK K
        try simp only [Act.put, List.setIfInBounds_toArray, List.set_cons_zero, List.set_cons_succ]
        refine wpAnyH_done (by kernel_rfl) ?_ _
        go_wp2
        go_roundw
        case rel =>
          refine ⟨k + 1, some ⟨g10, 0, none⟩, 32, by omega, by go_num, by rw [HNX.out, HTGL.out], ?_, ?_, HC3.out.trans hch1⟩
          · rw [HNX.out, HTGL.out]
            exact (HV10.out.chg hch1 (fun _ h => h)).mono' HG10.out
          · have e1 : u8s (allN s info k) ++ ((u8s TG).take (n - 32 * k) ++ (u8s (List.replicate (n - 32 * k) 0)).drop 32) ++ [] = u8s (outP s info n (k + 1)) := by
              rw [List.append_nil, ← HON.out]
              simp only [u8s, List.map_take, List.map_drop, List.map_append]
            rw [← e1]
            exact hr4
        case measure => simp [intOf]; omega
      refine wp_region_held_drew (S := fun w' => Chg none_ wr w') (by kernel_rfl) ((Chg.refl none_ wr).drew) (fun hch0 => ?_)
      generalize wr.drew = wd at hch0 ⊢
      refine wpAnyH_take (i := 0) (v := .slice (some ⟨w.heap.size, 0, none⟩) 32 32) rfl (by kernel_rfl) (by kernel_rfl) (by kernel_rfl) (by first | exact fun _ _ _ h => h | exact fun _ _ _ h => nomatch h.1) (Or.inl ⟨by rfl, fun w_ hw_ => by go_simp⟩) hch0 ?_
      refine wpAnyH_take (i := 1) (v := .slice Aa C.length ca) rfl (by kernel_rfl) (by kernel_rfl) (by kernel_rfl) (by first | exact fun _ _ _ h => h | exact fun _ _ _ h => nomatch h.1) (Or.inl ⟨by rfl, fun w_ hw_ => by go_simp⟩) hch0 ?_
      refine wpAnyH_take (i := 2) (v := .slice Ai info.length ci) rfl (by kernel_rfl) (by kernel_rfl) (by kernel_rfl) (by first | exact fun _ _ _ h => h | exact fun _ _ _ h => nomatch h.1) (Or.inl ⟨by rfl, fun w_ hw_ => by go_simp⟩) hch0 ?_
      refine wpAnyH_take (i := 3) (v := .int .i64 (k : Nat)) rfl (by kernel_rfl) (by kernel_rfl) (by kernel_rfl) (by first | exact fun _ _ _ h => h | exact fun _ _ _ h => nomatch h.1) (Or.inl ⟨by rfl, fun w_ hw_ => by go_simp⟩) hch0 ?_
      refine wpAnyH_take (i := 4) (v := .int .i64 ((k : Int) + 1)) rfl (by kernel_rfl) (by kernel_rfl) (by kernel_rfl) (by first | exact fun _ _ _ h => h | exact fun _ _ _ h => nomatch h.1) (Or.inl ⟨by rfl, fun w_ hw_ => by go_simp; exact Q1.out⟩) hch0 ?_
      refine wpAnyH_take (i := 5) (v := .int .u8 ((k : Int) + 1)) rfl (by kernel_rfl) (by kernel_rfl) (by kernel_rfl) (by first | exact fun _ _ _ h => h | exact fun _ _ _ h => nomatch h.1) (Or.inl ⟨by rfl, fun w_ hw_ => by go_simp; exact Q2.out⟩) hch0 ?_
      refine wpAnyH_ready (rs := [6, 10]) (by kernel_rfl) (by simp) ?_
      refine AllReadyH.cons rfl (fun K hK => ?_) (AllReadyH.cons rfl (fun K hK => ?_) AllReadyH.nil)
      · rw [if_pos (by rfl)]
        try simp only [Act.put, List.setIfInBounds_toArray, List.set_cons_zero, List.set_cons_succ, List.getElem_toArray, List.getElem_cons_succ, List.getElem_cons_zero]
        refine wp_new_row (v := fun g => .slice (some ⟨g, 0, none⟩) 1 1) (e := 5) (cs := [.int .u8 ((k : Int) + 1)]) (fun w_ => by go_simp) ?_
        intro v0 hro0 hst0 hsz0
        clear hsz0
        have hcu0 : Chg none_ wr v0 := hch0.trans hst0
        refine hK.out _ _ hcu0 (fun _ => ?_)
        clear hK K
        try simp only [Act.put, List.setIfInBounds_toArray, List.set_cons_zero, List.set_cons_succ]
        refine wpAnyH_ready (rs := [7, 10]) (by kernel_rfl) (by simp) ?_
        refine AllReadyH.cons rfl (fun K hK => ?_) (AllReadyH.cons rfl (fun K hK => ?_) AllReadyH.nil)
        · rw [if_pos (by rfl)]
          try simp only [List.getElem_toArray, List.getElem_cons_succ, List.getElem_cons_zero]
          refine wp_new_row (v := fun g => .slice (some ⟨g, 0, none⟩) 3 3) (e := 22) (cs := [.slice Aa C.length ca, .slice Ai info.length ci, .slice (some ⟨wd.heap.size, 0, none⟩) 1 1]) (fun w_ => by go_simp) ?_
          intro v1 hro1 hst1 hsz1
          clear hsz1
          have hcu1 : Chg none_ wr v1 := hcu0.trans hst1
          refine hK.out _ _ hcu1 (fun _ => ?_)
          clear hK K
          try simp only [Act.put, List.setIfInBounds_toArray, List.set_cons_zero, List.set_cons_succ]
          refine wpAnyH_ready (rs := [8, 10]) (by kernel_rfl) (by simp) ?_
          refine AllReadyH.cons rfl (fun K hK => ?_) (AllReadyH.cons rfl (fun K hK => ?_) AllReadyH.nil)
          · rw [if_pos (by rfl)]
            try simp only [List.getElem_toArray, List.getElem_cons_succ, List.getElem_cons_zero]
            go_simp
            refine (HCAT.out _ _ _ hcu1 ((hro0.chg hst1 (fun h => h))) (hro1)).mono ?_
            rintro e v2 ⟨Ac, cc, rfl, hfr, hst2⟩
            have hcu2 : Chg none_ wr v2 := hcu1.trans hst2
            refine hK.out _ _ hcu2 (fun _ => ?_)
            clear hK K
            try simp only [Act.put, List.setIfInBounds_toArray, List.set_cons_zero, List.set_cons_succ, List.getElem_toArray, List.getElem_cons_succ, List.getElem_cons_zero]
            refine wpAnyH_ready (rs := [9, 10]) (by kernel_rfl) (by simp) ?_
            refine AllReadyH.cons rfl (fun K hK => ?_) (AllReadyH.cons rfl (fun K hK => ?_) AllReadyH.nil)
            · rw [if_pos (by rfl)]
              try simp only [List.getElem_toArray, List.getElem_cons_succ, List.getElem_cons_zero]
              go_simp
              refine (HTAG.out _ _ _ hcu2 ((hfr.view).mono (fun _ _ _ => trivial)) (hfr.le)).mono ?_
              rintro e v3 ⟨rfl, hst3⟩
              have hcu3 : Chg none_ wr v3 := hcu2.trans hst3
              refine hK.out _ _ hcu3 (fun _ => ?_)
              clear hK K
              try simp only [Act.put, List.setIfInBounds_toArray, List.set_cons_zero, List.set_cons_succ, List.getElem_toArray, List.getElem_cons_succ, List.getElem_cons_zero]
              refine wpAnyH_ready (rs := [10]) (by kernel_rfl) (by simp) ?_
              refine AllReadyH.cons rfl (fun K hK => ?_) AllReadyH.nil
              rw [if_pos (by rfl)]
              try simp only [List.getElem_toArray, List.getElem_cons_succ, List.getElem_cons_zero]
              refine wp_alloc_row rfl (u8s (List.replicate 32 0)) zero25 ?_
              intro v4 hro4 hst4 hsz4
              clear hsz4
              have hcu4 : Chg none_ wr v4 := hcu3.trans hst4
              refine hK.out _ _ hcu4 (fun _ => ?_)
              clear hK K
              try simp only [Act.put, List.setIfInBounds_toArray, List.set_cons_zero, List.set_cons_succ]
              refine wpAnyH_ready (rs := [11]) (by kernel_rfl) (by simp) ?_
              refine AllReadyH.cons rfl (fun K hK => ?_) AllReadyH.nil
              rw [if_pos (by rfl)]
              try simp only [List.getElem_toArray, List.getElem_cons_succ, List.getElem_cons_zero]
              refine wp_store_row (ty := 26) (xs := u8s TG) rfl rfl (hro4) rfl (by rw [u8s_length, HTGL.out, u8s_length]; rfl) (by rw [u8s_length, HTGL.out]; exact size25) (u8s_oneA _) ?_
              intro wz hrz hcz hsz
              have hge := hcu4.size
              refine hK.out _ _ (hcz none_ wr (hcu4) (fun h => absurd h (by have := hcu3.size; omega))) (fun hchz => ?_)
              clear hK K
              try simp only [Act.put]
              refine wpAnyH_done (by kernel_rfl) ?_ _
              exact ⟨rfl, _, _, _, _, rfl, hrz, hcu3.size, hchz⟩
            · rw [if_pos (by rfl)]
              try simp only [List.getElem_toArray, List.getElem_cons_succ, List.getElem_cons_zero]
              refine wp_alloc_row rfl (u8s (List.replicate 32 0)) zero25 ?_
              intro v3 hro3 hst3 hsz3
              clear hsz3
              have hcu3 : Chg none_ wr v3 := hcu2.trans hst3
              refine hK.out _ _ hcu3 (fun _ => ?_)
              clear hK K
              try simp only [Act.put, List.setIfInBounds_toArray, List.set_cons_zero, List.set_cons_succ]
              refine wpAnyH_ready (rs := [9]) (by kernel_rfl) (by simp) ?_
              refine AllReadyH.cons rfl (fun K hK => ?_) AllReadyH.nil
              rw [if_pos (by rfl)]
              try simp only [List.getElem_toArray, List.getElem_cons_succ, List.getElem_cons_zero]
              go_simp
              refine (HTAG.out _ _ _ hcu3 (((hfr.view.chg hst3 (fun _ _ h => h))).mono (fun _ _ _ => trivial)) (hfr.le)).mono ?_
              rintro e v4 ⟨rfl, hst4⟩
              have hcu4 : Chg none_ wr v4 := hcu3.trans hst4
              refine hK.out _ _ hcu4 (fun _ => ?_)
              clear hK K
              try simp only [Act.put, List.setIfInBounds_toArray, List.set_cons_zero, List.set_cons_succ, List.getElem_toArray, List.getElem_cons_succ, List.getElem_cons_zero]
              refine wpAnyH_ready (rs := [11]) (by kernel_rfl) (by simp) ?_
              refine AllReadyH.cons rfl (fun K hK => ?_) AllReadyH.nil
              rw [if_pos (by rfl)]
              try simp only [List.getElem_toArray, List.getElem_cons_succ, List.getElem_cons_zero]
              refine wp_store_row (ty := 26) (xs := u8s TG) rfl rfl ((hro3.chg hst4 (fun h => h))) rfl (by rw [u8s_length, HTGL.out, u8s_length]; rfl) (by rw [u8s_length, HTGL.out]; exact size25) (u8s_oneA _) ?_
              intro wz hrz hcz hsz
              have hge := hcu4.size
              refine hK.out _ _ (hcz none_ wr (hcu4) (fun h => absurd h (by have := hcu2.size; omega))) (fun hchz => ?_)
              clear hK K
              try simp only [Act.put]
              refine wpAnyH_done (by kernel_rfl) ?_ _
              exact ⟨rfl, _, _, _, _, rfl, hrz, hcu2.size, hchz⟩
          · rw [if_pos (by rfl)]
            try simp only [List.getElem_toArray, List.getElem_cons_succ, List.getElem_cons_zero]
            refine wp_alloc_row rfl (u8s (List.replicate 32 0)) zero25 ?_
            intro v2 hro2 hst2 hsz2
            clear hsz2
            have hcu2 : Chg none_ wr v2 := hcu1.trans hst2
            refine hK.out _ _ hcu2 (fun _ => ?_)
            clear hK K
            try simp only [Act.put, List.setIfInBounds_toArray, List.set_cons_zero, List.set_cons_succ]
            refine wpAnyH_ready (rs := [8]) (by kernel_rfl) (by simp) ?_
            refine AllReadyH.cons rfl (fun K hK => ?_) AllReadyH.nil
            rw [if_pos (by rfl)]
            try simp only [List.getElem_toArray, List.getElem_cons_succ, List.getElem_cons_zero]
            go_simp
            refine (HCAT.out _ _ _ hcu2 (((hro0.chg hst1 (fun h => h)).chg hst2 (fun h => h))) ((hro1.chg hst2 (fun h => h)))).mono ?_
            rintro e v3 ⟨Ac, cc, rfl, hfr, hst3⟩
            have hcu3 : Chg none_ wr v3 := hcu2.trans hst3
            refine hK.out _ _ hcu3 (fun _ => ?_)
            clear hK K
            try simp only [Act.put, List.setIfInBounds_toArray, List.set_cons_zero, List.set_cons_succ, List.getElem_toArray, List.getElem_cons_succ, List.getElem_cons_zero]
            refine wpAnyH_ready (rs := [9]) (by kernel_rfl) (by simp) ?_
            refine AllReadyH.cons rfl (fun K hK => ?_) AllReadyH.nil
            rw [if_pos (by rfl)]
            try simp only [List.getElem_toArray, List.getElem_cons_succ, List.getElem_cons_zero]
            go_simp
            refine (HTAG.out _ _ _ hcu3 ((hfr.view).mono (fun _ _ _ => trivial)) (hfr.le)).mono ?_
            rintro e v4 ⟨rfl, hst4⟩
            have hcu4 : Chg none_ wr v4 := hcu3.trans hst4
            refine hK.out _ _ hcu4 (fun _ => ?_)
            clear hK K
            try simp only [Act.put, List.setIfInBounds_toArray, List.set_cons_zero, List.set_cons_succ, List.getElem_toArray, List.getElem_cons_succ, List.getElem_cons_zero]
            refine wpAnyH_ready (rs := [11]) (by kernel_rfl) (by simp) ?_
            refine AllReadyH.cons rfl (fun K hK => ?_) AllReadyH.nil
            rw [if_pos (by rfl)]
            try simp only [List.getElem_toArray, List.getElem_cons_succ, List.getElem_cons_zero]
            refine wp_store_row (ty := 26) (xs := u8s TG) rfl rfl (((hro2.chg hst3 (fun h => h)).chg hst4 (fun h => h))) rfl (by rw [u8s_length, HTGL.out, u8s_length]; rfl) (by rw [u8s_length, HTGL.out]; exact size25) (u8s_oneA _) ?_
            intro wz hrz hcz hsz
            have hge := hcu4.size
            refine hK.out _ _ (hcz none_ wr (hcu4) (fun h => absurd h (by have := hcu1.size; omega))) (fun hchz => ?_)
            clear hK K
            try simp only [Act.put]
            refine wpAnyH_done (by kernel_rfl) ?_ _
            exact ⟨rfl, _, _, _, _, rfl, hrz, hcu1.size, hchz⟩
        · rw [if_pos (by rfl)]
          try simp only [List.getElem_toArray, List.getElem_cons_succ, List.getElem_cons_zero]
          refine wp_alloc_row rfl (u8s (List.replicate 32 0)) zero25 ?_
          intro v1 hro1 hst1 hsz1
          clear hsz1
          have hcu1 : Chg none_ wr v1 := hcu0.trans hst1
          refine hK.out _ _ hcu1 (fun _ => ?_)
          clear hK K
          try simp only [Act.put, List.setIfInBounds_toArray, List.set_cons_zero, List.set_cons_succ]
          refine wpAnyH_ready (rs := [7]) (by kernel_rfl) (by simp) ?_
          refine AllReadyH.cons rfl (fun K hK => ?_) AllReadyH.nil
          rw [if_pos (by rfl)]
          try simp only [List.getElem_toArray, List.getElem_cons_succ, List.getElem_cons_zero]
          refine wp_new_row (v := fun g => .slice (some ⟨g, 0, none⟩) 3 3) (e := 22) (cs := [.slice Aa C.length ca, .slice Ai info.length ci, .slice (some ⟨wd.heap.size, 0, none⟩) 1 1]) (fun w_ => by go_simp) ?_
          intro v2 hro2 hst2 hsz2
          clear hsz2
          have hcu2 : Chg none_ wr v2 := hcu1.trans hst2
          refine hK.out _ _ hcu2 (fun _ => ?_)
          clear hK K
          try simp only [Act.put, List.setIfInBounds_toArray, List.set_cons_zero, List.set_cons_succ]
          refine wpAnyH_ready (rs := [8]) (by kernel_rfl) (by simp) ?_
          refine AllReadyH.cons rfl (fun K hK => ?_) AllReadyH.nil
          rw [if_pos (by rfl)]
          try simp only [List.getElem_toArray, List.getElem_cons_succ, List.getElem_cons_zero]
          go_simp
          refine (HCAT.out _ _ _ hcu2 (((hro0.chg hst1 (fun h => h)).chg hst2 (fun h => h))) (hro2)).mono ?_
          rintro e v3 ⟨Ac, cc, rfl, hfr, hst3⟩
          have hcu3 : Chg none_ wr v3 := hcu2.trans hst3
          refine hK.out _ _ hcu3 (fun _ => ?_)
          clear hK K
          try simp only [Act.put, List.setIfInBounds_toArray, List.set_cons_zero, List.set_cons_succ, List.getElem_toArray, List.getElem_cons_succ, List.getElem_cons_zero]
          refine wpAnyH_ready (rs := [9]) (by kernel_rfl) (by simp) ?_
          refine AllReadyH.cons rfl (fun K hK => ?_) AllReadyH.nil
          rw [if_pos (by rfl)]
          try simp only [List.getElem_toArray, List.getElem_cons_succ, List.getElem_cons_zero]
          go_simp
          refine (HTAG.out _ _ _ hcu3 ((hfr.view).mono (fun _ _ _ => trivial)) (hfr.le)).mono ?_
          rintro e v4 ⟨rfl, hst4⟩
          have hcu4 : Chg none_ wr v4 := hcu3.trans hst4
          refine hK.out _ _ hcu4 (fun _ => ?_)
          clear hK K
          try simp only [Act.put, List.setIfInBounds_toArray, List.set_cons_zero, List.set_cons_succ, List.getElem_toArray, List.getElem_cons_succ, List.getElem_cons_zero]
          refine wpAnyH_ready (rs := [11]) (by kernel_rfl) (by simp) ?_
          refine AllReadyH.cons rfl (fun K hK => ?_) AllReadyH.nil
          rw [if_pos (by rfl)]
          try simp only [List.getElem_toArray, List.getElem_cons_succ, List.getElem_cons_zero]
          refine wp_store_row (ty := 26) (xs := u8s TG) rfl rfl ((((hro1.chg hst2 (fun h => h)).chg hst3 (fun h => h)).chg hst4 (fun h => h))) rfl (by rw [u8s_length, HTGL.out, u8s_length]; rfl) (by rw [u8s_length, HTGL.out]; exact size25) (u8s_oneA _) ?_
          intro wz hrz hcz hsz
          have hge := hcu4.size
          refine hK.out _ _ (hcz none_ wr (hcu4) (fun h => absurd h (by have := hcu0.size; omega))) (fun hchz => ?_)
          clear hK K
          try simp only [Act.put]
          refine wpAnyH_done (by kernel_rfl) ?_ _
          exact ⟨rfl, _, _, _, _, rfl, hrz, hcu0.size, hchz⟩
      · rw [if_pos (by rfl)]
        try simp only [Act.put, List.setIfInBounds_toArray, List.set_cons_zero, List.set_cons_succ, List.getElem_toArray, List.getElem_cons_succ, List.getElem_cons_zero]
        refine wp_alloc_row rfl (u8s (List.replicate 32 0)) zero25 ?_
        intro v0 hro0 hst0 hsz0
        clear hsz0
        have hcu0 : Chg none_ wr v0 := hch0.trans hst0
        refine hK.out _ _ hcu0 (fun _ => ?_)
        clear hK K
        try simp only [Act.put, List.setIfInBounds_toArray, List.set_cons_zero, List.set_cons_succ]
        refine wpAnyH_ready (rs := [6]) (by kernel_rfl) (by simp) ?_
        refine AllReadyH.cons rfl (fun K hK => ?_) AllReadyH.nil
        rw [if_pos (by rfl)]
        try simp only [List.getElem_toArray, List.getElem_cons_succ, List.getElem_cons_zero]
        refine wp_new_row (v := fun g => .slice (some ⟨g, 0, none⟩) 1 1) (e := 5) (cs := [.int .u8 ((k : Int) + 1)]) (fun w_ => by go_simp) ?_
        intro v1 hro1 hst1 hsz1
        clear hsz1
        have hcu1 : Chg none_ wr v1 := hcu0.trans hst1
        refine hK.out _ _ hcu1 (fun _ => ?_)
        clear hK K
        try simp only [Act.put, List.setIfInBounds_toArray, List.set_cons_zero, List.set_cons_succ]
        refine wpAnyH_ready (rs := [7]) (by kernel_rfl) (by simp) ?_
        refine AllReadyH.cons rfl (fun K hK => ?_) AllReadyH.nil
        rw [if_pos (by rfl)]
        try simp only [List.getElem_toArray, List.getElem_cons_succ, List.getElem_cons_zero]
        refine wp_new_row (v := fun g => .slice (some ⟨g, 0, none⟩) 3 3) (e := 22) (cs := [.slice Aa C.length ca, .slice Ai info.length ci, .slice (some ⟨v0.heap.size, 0, none⟩) 1 1]) (fun w_ => by go_simp) ?_
        intro v2 hro2 hst2 hsz2
        clear hsz2
        have hcu2 : Chg none_ wr v2 := hcu1.trans hst2
        refine hK.out _ _ hcu2 (fun _ => ?_)
        clear hK K
        try simp only [Act.put, List.setIfInBounds_toArray, List.set_cons_zero, List.set_cons_succ]
        refine wpAnyH_ready (rs := [8]) (by kernel_rfl) (by simp) ?_
        refine AllReadyH.cons rfl (fun K hK => ?_) AllReadyH.nil
        rw [if_pos (by rfl)]
        try simp only [List.getElem_toArray, List.getElem_cons_succ, List.getElem_cons_zero]
        go_simp
        refine (HCAT.out _ _ _ hcu2 ((hro1.chg hst2 (fun h => h))) (hro2)).mono ?_
        rintro e v3 ⟨Ac, cc, rfl, hfr, hst3⟩
        have hcu3 : Chg none_ wr v3 := hcu2.trans hst3
        refine hK.out _ _ hcu3 (fun _ => ?_)
        clear hK K
        try simp only [Act.put, List.setIfInBounds_toArray, List.set_cons_zero, List.set_cons_succ, List.getElem_toArray, List.getElem_cons_succ, List.getElem_cons_zero]
        refine wpAnyH_ready (rs := [9]) (by kernel_rfl) (by simp) ?_
        refine AllReadyH.cons rfl (fun K hK => ?_) AllReadyH.nil
        rw [if_pos (by rfl)]
        try simp only [List.getElem_toArray, List.getElem_cons_succ, List.getElem_cons_zero]
        go_simp
        refine (HTAG.out _ _ _ hcu3 ((hfr.view).mono (fun _ _ _ => trivial)) (hfr.le)).mono ?_
        rintro e v4 ⟨rfl, hst4⟩
        have hcu4 : Chg none_ wr v4 := hcu3.trans hst4
        refine hK.out _ _ hcu4 (fun _ => ?_)
        clear hK K
        try simp only [Act.put, List.setIfInBounds_toArray, List.set_cons_zero, List.set_cons_succ, List.getElem_toArray, List.getElem_cons_succ, List.getElem_cons_zero]
        refine wpAnyH_ready (rs := [11]) (by kernel_rfl) (by simp) ?_
        refine AllReadyH.cons rfl (fun K hK => ?_) AllReadyH.nil
        rw [if_pos (by rfl)]
        try simp only [List.getElem_toArray, List.getElem_cons_succ, List.getElem_cons_zero]
        refine wp_store_row (ty := 26) (xs := u8s TG) rfl rfl (((((hro0.chg hst1 (fun h => h)).chg hst2 (fun h => h)).chg hst3 (fun h => h)).chg hst4 (fun h => h))) rfl (by rw [u8s_length, HTGL.out, u8s_length]; rfl) (by rw [u8s_length, HTGL.out]; exact size25) (u8s_oneA _) ?_
        intro wz hrz hcz hsz
        have hge := hcu4.size
        refine hK.out _ _ (hcz none_ wr (hcu4) (fun h => absurd h (by have := hch0.size; omega))) (fun hchz => ?_)
        clear hK K
        try simp only [Act.put]
        refine wpAnyH_done (by kernel_rfl) ?_ _
        exact ⟨rfl, _, _, _, _, rfl, hrz, hch0.size, hchz⟩
    · have hkm : k = m := by omega
      subst hkm
      clear hva hlt hk
      go_wp2
      go_ret
      have hle : n ≤ 32 * k := by have := HM.out; omega
      rw [outP_end s info n k hle] at hrow
      exact got_row (HCH.out.andThen hch (fun b h e => by have := HG.out; omega)) hrow (by have := HG.out; omega) (by rw [List.length_take, allN_len]; omega) (by unfold maxLen; omega)

theorem expand_any (s info : List Nat) (n : Int) (Ti : Nat → Prop) (Ai : Option Addr) (ci : Nat) (w : World) (hs : s.length = 32) (hsb : ∀ x ∈ s, x < 256) (hvi : View w Ti Ai info.length (u8s info)) (hil : info.length ≤ 900000) (hic : info.length ≤ ci) (hib : ∀ x ∈ info, x < 256) (hT : HTab w) :
    Calls Tryd.prog 29 #[.agg (u8s s).toArray, .slice Ai info.length ci, .int .i64 n] w fun e w' => GotBytes w (expandN s info n) e w' := by
  by_cases hn : n < 0 ∨ 255 < n
  · refine (expand_none s n _ w hn).mono fun e w' ⟨h1, h2⟩ => ?_
    unfold expandN
    rw [if_pos hn]
    exact ⟨none, 0, h1, Fresh.nil _ _, h2⟩
  · obtain ⟨N, rfl⟩ : ∃ N : Nat, n = (N : Int) := ⟨n.toNat, by omega⟩
    unfold expandN
    rw [if_neg hn]
    exact expand_ok s info N _ rfl Ti Ai ci w (by omega) hs hsb hvi hil hic hib hT
end Go.Proofs.YtfpflhcabjcamaaDoor

namespace Go.Proofs.YtfpflhcabjcamaaDoor
open Go.RowKit

theorem cat3n (w : World) (g : Nat) (e : TypeId) (A1 A2 A3 : Option Addr) (n1 n2 n3 c1 c2 c3 : Nat) (l1 l2 l3 : List Nat) (T1 T2 T3 : Nat → Prop) (e1 : l1.length = n1) (e2 : l2.length = n2) (e3 : l3.length = n3) (hr : Row w g e [.slice A1 n1 c1, .slice A2 n2 c2, .slice A3 n3 c3])
    (h1 : View w T1 A1 n1 (u8s l1)) (h2 : View w T2 A2 n2 (u8s l2)) (h3 : View w T3 A3 n3 (u8s l3)) (ht : n1 + (n2 + n3) ≤ 1000000) :
    Calls Tryd.prog 28 #[.slice (some ⟨g, 0, none⟩) 3 3] w (GotBytes w (l1 ++ (l2 ++ l3))) := by
  subst e1; subst e2; subst e3
  exact cat3 w g e A1 A2 A3 c1 c2 c3 l1 l2 l3 T1 T2 T3 hr h1 h2 h3 ht

/-- "tls13 " -/
def tlsN : List Nat := [116, 108, 115, 49, 51, 32]
theorem tls_bytes (L : ByteArray) : bsN (({ data := #[116, 108, 115, 49, 51, 32] } : ByteArray) ++ L) = tlsN ++ bsN L := by
  simp [bsN, tlsN, ByteArray.data_append]
theorem tls_size (L : ByteArray) : (({ data := #[116, 108, 115, 49, 51, 32] } : ByteArray) ++ L).size = 6 + L.size := by
  rw [ByteArray.size_append]; rfl

/-- The info of a label, whatever is asked. -/
def infoZ (l : List Nat) (n : Int) : List Nat := [(n / 256 % 256).toNat, (n % 256).toNat, 6 + l.length] ++ ((tlsN ++ l) ++ [0])
theorem infoZ_in (l : List Nat) (n : Int) (h0 : 0 ≤ n) (h1 : n ≤ 255) : infoZ l n = infoN l n.toNat := by
  unfold infoZ infoN tlsN
  rw [show (n / 256 % 256).toNat = 0 from by omega, show (n % 256).toNat = n.toNat from by omega]
  simp
theorem infoZ_lt (l : List Nat) (n : Int) (hl : l.length ≤ 60) (hb : ∀ x ∈ l, x < 256) : ∀ x ∈ infoZ l n, x < 256 := by
  intro x hx
  simp only [infoZ, tlsN, List.mem_append, List.mem_cons, List.not_mem_nil, or_false] at hx
  rcases hx with (rfl | rfl | rfl) | ((rfl | rfl | rfl | rfl | rfl | rfl) | h) | rfl
  all_goals first | omega | exact hb x h

theorem label_long (s : List Nat) (L : ByteArray) (v : Value) (w : World) (hL : 60 < L.size) (hm : L.size ≤ 9223372036854775807) :
    Calls Tryd.prog 21 #[.agg (u8s s).toArray, .string L, v] w fun e w' => e = .returned (.slice none 0 0) ∧ Chg none_ w w' := by
  have hd : decide ((60 : Int) < (L.size : Int)) = true := by simp; omega
  go_enter Tryd.func21, Tryd.ntmps21
  go_wp2_with (first | ((with_reducible show wpList _ _ _ (⟨_, .box 26 _, _, _, _, _⟩ :: _) _ _); refine wpList_box_Row rfl rfl (u8s s) rfl ?_; intro w1 hr1 hc1 hs1; have HR1 := Lib.hid hr1; have HC1 := Lib.hid hc1; clear hr1 hc1 hs1))
  go_ret
  exact ⟨rfl, HC1.out⟩

set_option maxRecDepth 100000 in
set_option maxHeartbeats 1000000 in
theorem label_ok (s : List Nat) (L : ByteArray) (n : Int) (w : World) (hL : L.size ≤ 60) (hs : s.length = 32) (hsb : ∀ x ∈ s, x < 256) (hT : HTab w) :
    Calls Tryd.prog 21 #[.agg (u8s s).toArray, .string L, .int .i64 n] w fun e w' => GotBytes w (expandN s (infoZ (bsN L) n) n) e w' := by
  have HTB := Lib.hid (tls_bytes L)
  have HTS := Lib.hid (tls_size L)
  have HS := Lib.hid hs
  have HEX := Lib.hid (fun w1 Ti Ai ci (hv : View w1 Ti Ai (infoZ (bsN L) n).length (u8s (infoZ (bsN L) n))) (hc : Chg none_ w w1) hcap => expand_any s (infoZ (bsN L) n) n Ti Ai ci w1 hs hsb hv (by simp [infoZ, tlsN, bsN_len]; omega) hcap (infoZ_lt _ _ (by rw [bsN_len]; omega) (bsN_lt L)) (hT.chg hc (fun h => h) (fun h => h)))
  have HIZ : Hid (infoZ (bsN L) n = [(n / 256 % 256).toNat, (n % 256).toNat, 6 + L.size] ++ ((tlsN ++ bsN L) ++ [0])) := Lib.hid (by rw [infoZ, bsN_len])
  clear hs hsb hT
  generalize infoZ (bsN L) n = I at HEX HIZ ⊢
  go_enter Tryd.func21, Tryd.ntmps21
  go_wp2_with (first | ((with_reducible show wpList _ _ _ (⟨_, .box 26 _, _, _, _, _⟩ :: _) _ _); refine wpList_box_Row rfl rfl (u8s s) rfl ?_; intro w1 hr1 hc1 hs1; have HR1 := Lib.hid hr1; have HC1 := Lib.hid hc1; clear hr1 hc1 hs1) | ((with_reducible show wpList _ _ _ (⟨some 22, _, _, _, _, _⟩ :: _) _ _); refine wpList_new_row (v := fun g => .slice (some ⟨g, 0, none⟩) 3 3) (e := 5) (cs := [.int .u8 (n / 256 % 256), .int .u8 (n % 256), .int .u8 (6 + (L.size : Int))]) rfl (fun w_ => by go_simp) ?_; intro w2 hr2 hc2 hs2; have HR2 := Lib.hid hr2; have HC2 := Lib.hid hc2; clear hr2 hc2 hs2) | ((with_reducible show wpList _ _ _ (⟨some 24, _, _, _, _, _⟩ :: _) _ _); refine wpList_bytes_string rfl rfl rfl Tryd.underlying9 Tryd.underlying22 Tryd.underlying5 ?_; intro w3 c3 hv3 hl3 hc3; rw [HTB.out, HTS.out] at hv3; rw [HTS.out] at hl3 ⊢; have HV3 := Lib.hid hv3; have HL3 := Lib.hid hl3; have HC3 := Lib.hid hc3; clear hv3 hl3 hc3) | ((with_reducible show wpList _ _ _ (⟨some 25, _, _, _, _, _⟩ :: _) _ _); refine wpList_new_row (v := fun g => .slice (some ⟨g, 0, none⟩) 1 1) (e := 5) (cs := [.int .u8 0]) rfl (fun w_ => by go_simp) ?_; intro w4 hr4 hc4 hs4; have HR4 := Lib.hid hr4; have HC4 := Lib.hid hc4; clear hr4 hc4 hs4) | ((with_reducible show wpList _ _ _ (⟨some 26, _, _, _, _, _⟩ :: _) _ _); refine wpList_new_row (v := fun g => .slice (some ⟨g, 0, none⟩) 3 3) (e := 22) (cs := [.slice (some ⟨w1.heap.size, 0, none⟩) 3 3, .slice (some ⟨w2.heap.size, 0, none⟩) (6 + L.size) c3, .slice (some ⟨w3.heap.size, 0, none⟩) 1 1]) rfl (fun w_ => by go_simp) ?_; intro w5 hr5 hc5 hs5; have HR5 := Lib.hid hr5; have HC5 := Lib.hid hc5; clear hr5 hc5 hs5))
  have HC15 := Lib.hid (((HC2.out.trans HC3.out).trans HC4.out).trans HC5.out)
  have HCT := Lib.hid (by
    have h2 : Row w5 w1.heap.size 5 (u8s [(n / 256 % 256).toNat, (n % 256).toNat, 6 + L.size]) := by
      have e : u8s [(n / 256 % 256).toNat, (n % 256).toNat, 6 + L.size] = [.int .u8 (n / 256 % 256), .int .u8 (n % 256), .int .u8 (6 + (L.size : Int))] := by
        simp only [u8s, List.map_cons, List.map_nil]
        rw [Int.toNat_of_nonneg (by omega), Int.toNat_of_nonneg (by omega)]
        rfl
      rw [e]
      exact ((HR2.out.chg HC3.out (fun h => h)).chg HC4.out (fun h => h)).chg HC5.out (fun h => h)
    have v2 := View.row (T := fun _ => True) h2 (n := 3) (by simp) trivial
    have h4 : Row w5 w3.heap.size 5 (u8s [0]) := HR4.out.chg HC5.out (fun h => h)
    have v4 := View.row (T := fun _ => True) h4 (n := 1) (by simp) trivial
    have v3 := (HV3.out.chg HC4.out (fun _ _ h => h)).chg HC5.out (fun _ _ h => h)
    rw [← HTS.out, ← bsN_len, HTB.out] at v3
    exact cat3n w5 w4.heap.size _ _ _ _ 3 (tlsN ++ bsN L).length 1 3 c3 1 [(n / 256 % 256).toNat, (n % 256).toNat, 6 + L.size] (tlsN ++ bsN L) [0] _ _ _ rfl rfl rfl (by rw [List.length_append, bsN_len]; exact HR5.out) v2 v3 v4 (by simp [tlsN, bsN_len]; omega))
  rw [← HIZ.out] at HCT
  refine HCT.out.mono ?_
  rintro e w6 ⟨A6, c6, rfl, hf6, hc6⟩
  have HF6 := Lib.hid hf6
  have HC16 := Lib.hid (HC15.out.trans hc6)
  clear hf6 hc6 HCT
  go_wp2_with (first | ((with_reducible show wpList _ _ _ (⟨_, .load 26 _, _, _, _, _⟩ :: _) _ _); refine wpList_load_Row rfl rfl rfl (HR1.out.chg HC16.out (fun h => h)) Tryd.underlying26 rfl (by rw [u8s_length, HS.out]; exact size25) ?_) | (go_at_call 29; refine (HEX.out _ _ _ _ HF6.out.view (HC1.out.trans HC16.out) HF6.out.le).mono ?_; rintro e w7 ⟨A7, c7, rfl, hf7, hc7⟩; have HF7 := Lib.hid hf7; have HC7 := Lib.hid hc7; clear hf7 hc7))
  go_ret
  exact ⟨A7, c7, rfl, HF7.out.base (HC1.out.trans HC16.out).size, (HC1.out.trans HC16.out).trans HC7.out⟩

theorem label_any (s : List Nat) (L : ByteArray) (n : Int) (w : World) (hm : L.size ≤ 9223372036854775807) (hs : s.length = 32) (hsb : ∀ x ∈ s, x < 256) (hT : HTab w) :
    Calls Tryd.prog 21 #[.agg (u8s s).toArray, .string L, .int .i64 n] w fun e w' => GotBytes w (labelN s (bsN L) n) e w' := by
  unfold labelN
  rw [bsN_len]
  by_cases hL : 60 < L.size
  · rw [if_pos hL]
    exact (label_long s L _ w hL hm).mono fun e w' ⟨h1, h2⟩ => ⟨none, 0, h1, Fresh.nil _ _, h2⟩
  · rw [if_neg hL]
    have hh := label_ok s L n w (by omega) hs hsb hT
    by_cases hn : n < 0 ∨ 255 < n
    · have e1 : expandN s (infoN (bsN L) n.toNat) n = [] := by unfold expandN; rw [if_pos hn]
      have e2 : expandN s (infoZ (bsN L) n) n = [] := by unfold expandN; rw [if_pos hn]
      rw [e1]; rw [e2] at hh; exact hh
    · rw [infoZ_in _ _ (by omega) (by omega)] at hh
      exact hh
end Go.Proofs.YtfpflhcabjcamaaDoor
