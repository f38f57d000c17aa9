/- slices.Concat of slices of bytes (the library's own text): their bytes one behind the other, in new memory. -/
import Derived.Test.YtlcffjmbfpdlbaaDoorProg
import Derived.Test.YtlcffjmbfpdlbaaDoorFlat
import Derived.Test.YtlcffjmbfpdlbaaDoorBytes
import Derived.Lib.AppendZeros
import Derived.Lib.Hide
import Derived.Lib.SliceRun
import Derived.IntWalk
namespace Go.Proofs.YtlcffjmbfpdlbaaDoor
open Go.RowKit

/-- New bytes are handed back. -/
def BytesNew (w : World) (l : List Nat) (e : Ending) (w' : World) : Prop :=
  ∃ A cap, e = .returned (.slice A l.length cap) ∧ View w' (fun b => w.heap.size ≤ b) A l.length (u8s l) ∧ Chg none_ w w'

/-- Room that the call itself has made. -/
def RoomPost (w : World) (e : Ending) (w' : World) : Prop := ∃ v, e = .returned v ∧ w'.ownsRow w.heap.size 5 1 v 0 [] ∧ Chg none_ w w'

set_option maxRecDepth 100000 in
set_option maxHeartbeats 1000000 in
theorem grow_nil (n : Nat) (w : World) (hn : n ≤ 1000000) : Calls Tryd.prog 100 #[.slice none 0 0, .int .i64 n] w (RoomPost w) := by
  obtain ⟨i0, hi, hz0, hz1, hz2⟩ := info_parts info5
  by_cases h0 : n = 0
  · subst h0
    go_enter Tryd.func100, Tryd.ntmps100
    go_wp2
    go_ret
    exact ⟨_, rfl, World.ownsRow_nil _ _ _ _, Chg.refl _ _⟩
  · have hrz := fun ty => Lib.run_append_nil_zeros (P := Tryd.prog) w 23 3 ty 5 i0 _ .i64 .i64 Tryd.underlying23 Tryd.underlying3 hi hz0 n (by omega) (by omega) (by omega) (by rw [hz2]; omega)
    have hG := grownCap_ge w n 0 5
    have hGm := grownCap_le_maxLen w n 0 5 (by unfold maxLen; omega)
    generalize grownCap w n 0 5 = G at hrz hG hGm
    have hn1 : (0 : Int) < (n : Int) := by omega
    go_enter Tryd.func100, Tryd.ntmps100
    go_wp2_with (at_builtin; refine Lib.wpList_append_run _ rfl _ _ _ _ rfl _ _ rfl rfl _ _ (hrz _) ?_)
    go_ret
    refine ⟨_, rfl, ⟨rfl, .inr ⟨w.heap.size, G, _, rfl, Nat.le_refl _, heap_alloc_new w _, Nat.zero_le _, hGm, ?_, rfl⟩⟩, ((Chg.refl none_ w).alloc _).drew⟩
    simp [size_zeroCells]
    omega

theorem u8s_append' (l m : List Nat) : u8s l ++ u8s m = u8s (l ++ m) := by simp [u8s]
/-- How many bytes there are in all. -/
def total (l : List (List Nat)) : Nat := (l.map List.length).sum
theorem total_snoc (l : List (List Nat)) (x : List Nat) : total (l ++ [x]) = total l + x.length := by simp [total]
theorem total_take (l : List (List Nat)) (k : Nat) : total (l.take k) ≤ total l := by
  have h : total (l.take k ++ l.drop k) = total (l.take k) + total (l.drop k) := by simp only [total, List.map_append, List.sum_append]
  rw [List.take_append_drop] at h
  omega
theorem flatten_len (l : List (List Nat)) : l.flatten.length = total l := by simp [total, List.length_flatten]

set_option maxRecDepth 100000 in
set_option maxHeartbeats 1000000 in
theorem concat_any (w : World) (T : Nat → Prop) (A : Option Addr) (c : Nat) (vs : List Value) (ls : List (List Nat)) (hv : View w T A vs.length vs) (hl : vs.length = ls.length)
    (hx : ∀ i (_ : i < vs.length), ∃ A' c', vs[i]? = some (.slice A' (ls.getD i []).length c') ∧ View w T A' (ls.getD i []).length (u8s (ls.getD i []))) (ht : total ls ≤ 1000000) (hn : vs.length ≤ 1000) :
    Calls Tryd.prog 99 #[.slice A vs.length c] w (BytesNew w ls.flatten) := by
  obtain ⟨i0, hi, hz0, hz1, hz2⟩ := info_parts info5
  have HV := Lib.hid hv
  have HX := Lib.hid hx
  have HLN := Lib.hid hl
  have HTK := Lib.hid (fun k => total_take ls k)
  have HFL := Lib.hid (fun k => flatten_len (ls.take k))
  have HG := Lib.hid (fun w' => grow_nil (total ls) w' ht)
  have HT := Lib.hid ht
  clear hv hx hl ht
  go_enter Tryd.func99, Tryd.ntmps99
  go_wp2
  go_loop [3, 11] (fun t i => ∃ k : Nat, k ≤ vs.length ∧ i = .int .i64 k ∧ t = .int .i64 (total (ls.take k))) (fun _ i => vs.length - (intOf i).toNat)
  case atStart => exact ⟨0, Nat.zero_le _, rfl, rfl⟩
  case round =>
    obtain ⟨k, hk, rfl, rfl⟩ := hrel
    by_cases hlt : k < vs.length
    · obtain ⟨A', c', hval, _⟩ := HX.out k hlt
      obtain ⟨b, o, rfl, hb, _, hc⟩ := HV.out.2 (by omega)
      have hck : w.cell? ⟨b, o + k, none⟩ = some (.slice A' (ls.getD k []).length c') := (hc k hlt).trans hval
      have hk0 : (0 : Int) ≤ (k : Int) := by omega
      have hk1 : (k : Int) < (vs.length : Int) := by omega
      have h1 := HTK.out k
      have h2 := HTK.out (k + 1)
      have h3 := HT.out
      have hst : total (ls.take (k + 1)) = total (ls.take k) + (ls.getD k []).length := by
        have hkl : k < ls.length := by have := HLN.out; omega
        rw [List.take_succ_eq_append_getElem hkl, total_snoc]
        simp [List.getD_eq_getElem?_getD, hkl]
      rw [hst] at h2
      have HST := Lib.hid hst
      clear hst hc hval
      generalize total (ls.take k) = m at h1 h2 HST ⊢
      generalize (ls.getD k []).length = n at h2 HST hck
      go_wp2
      go_round
      case rel => exact ⟨k + 1, by omega, by go_num, by rw [HST.out]; go_num⟩
      case measure => simp [intOf]; omega
    · have hkn : k = vs.length := by omega
      subst hkn
      have e1 : total (ls.take vs.length) = total ls := by rw [HLN.out, List.take_length]
      rw [e1]
      clear e1
      go_wp2_with fail
      refine (HG.out _).mono ?_
      rintro e w1 ⟨v, rfl, hown, hch⟩
      have HO := Lib.hid hown
      have HC := Lib.hid hch
      clear hown hch
      go_wp2
      go_loopw [6, 27] (fun l i wr => ∃ k : Nat, k ≤ vs.length ∧ i = .int .i64 k ∧ wr.ownsRow w.heap.size 5 1 l (total (ls.take k)) (u8s (ls.take k).flatten) ∧ Chg none_ w wr) (fun _ i _ => vs.length - (intOf i).toNat)
      case atStart => exact ⟨0, Nat.zero_le _, rfl, by simpa [total, u8s] using HO.out, HC.out⟩
      case round =>
        obtain ⟨k, hk, rfl, hown, hch⟩ := hrel
        by_cases hlt : k < vs.length
        · obtain ⟨A', c', hval, hvw⟩ := HX.out k hlt
          obtain ⟨b, o, rfl, hb, _, hc⟩ := HV.out.2 (by omega)
          have hck : wr.cell? ⟨b, o + k, none⟩ = some (.slice A' (ls.getD k []).length c') := (hch.cell _ hb (fun h => h)).trans ((hc k hlt).trans hval)
          have hk0 : (0 : Int) ≤ (k : Int) := by omega
          have hk1 : (k : Int) < (vs.length : Int) := by omega
          have h1 := HTK.out k
          have h2 := HTK.out (k + 1)
          have h3 := HT.out
          have hkl : k < ls.length := by have := HLN.out; omega
          have hfst : (ls.take (k + 1)).flatten = (ls.take k).flatten ++ ls.getD k [] := by
            rw [List.take_succ_eq_append_getElem hkl, List.flatten_append]
            simp [List.getD_eq_getElem?_getD, hkl]
          have hst : total (ls.take (k + 1)) = total (ls.take k) + (ls.getD k []).length := by
            rw [List.take_succ_eq_append_getElem hkl, total_snoc]
            simp [List.getD_eq_getElem?_getD, hkl]
          rw [hst] at h2
          have HST := Lib.hid hst
          have HFST := Lib.hid hfst
          have HVW := Lib.hid (hvw.chg hch (fun _ _ h => h))
          have HOW := Lib.hid hown
          have HCH := Lib.hid hch
          have hsz := hch.size
          clear hst hfst hc hval hvw hown hch
          generalize ls.getD k [] = x at hck h2 HST HFST HVW
          go_wp2_with (at_builtin; refine wpList_append_view rfl _ _ 23 rfl 5 i0 _ 1 Tryd.underlying23 hi hz0 hz1 hz2 rfl w.heap.size _ _ _ rfl HOW.out T A' _ c' _ rfl HVW.out (u8s_one _) (by unfold maxLen; omega) (by omega) (by omega) ?_; intro v' w2 hown2 hgrow2 hat2)
          have HO2 := Lib.hid hown2
          have HG2 := Lib.hid hgrow2
          clear hown2 hgrow2 hat2
          go_wp2
          go_roundw
          case rel =>
            refine ⟨k + 1, by omega, by go_num, ?_, HCH.out.grown HG2.out (fun j hj hlt => by have := (HOW.out.lt j hj).1; omega)⟩
            rw [HST.out, HFST.out, ← u8s_append']
            exact HO2.out
          case measure => simp [intOf]; omega
        · have hkn : k = vs.length := by omega
          have HKN := Lib.hid hkn
          have HOW := Lib.hid hown
          have HCH := Lib.hid hch
          have hnl : ¬ (k : Int) < (vs.length : Int) := by omega
          clear hkn hown hch
          go_wp2
          obtain ⟨A2, cap2, rfl, g1, g2, g3⟩ := View.own (T := fun b => w.heap.size ≤ b) HOW.out (fun _ h => h)
          go_ret
          have e1 : ls.take k = ls := by rw [HKN.out, HLN.out, List.take_length]
          rw [e1] at g3
          rw [e1]
          have e2 : total ls = ls.flatten.length := (flatten_len ls).symm
          rw [e2] at g3 ⊢
          exact ⟨A2, cap2, rfl, g3, HCH.out⟩
end Go.Proofs.YtlcffjmbfpdlbaaDoor
