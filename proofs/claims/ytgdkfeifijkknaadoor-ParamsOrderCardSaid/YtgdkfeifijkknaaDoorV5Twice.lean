/- Layer 5 (params): the law ParamsTwice. -/
import Derived.Test.YtgdkfeifijkknaaDoorV5Alive
import Derived.Test.YtgdkfeifijkknaaDoorV5Open
namespace Go.Proofs.YtgdkfeifijkknaaDoor
open Go.RowKit

def zP : Pm := {}
theorem read_nil' : readM [] = (zP, 0) := read_nil
theorem zeroP_eql (w : World) : (Op.equalIn 10000 25 (.agg (cellsP zP).toArray) (.agg #[.int .u64 0, .int .u64 0, .int .u64 0, .int .u64 0, .bool false, .int .u8 0, .int .u8 0, .int .u8 0, .int .u8 0, .int .u8 0, .int .u8 0, .int .u8 0, .int .u8 0, .int .u8 0, .int .u8 0, .int .u8 0, .int .u8 0, .int .u8 0, .int .u8 0, .int .u8 0, .int .u8 0])).run Tryd.prog w = .ok true w := by
  have := pm_eql {} {} zeroP_ok zeroP_ok w
  rw [decide_eq_true rfl] at this
  exact this
theorem putP_lt (p : Pm) (o : p.Ok) : ∀ x ∈ putP p, x < 256 := by
  have hv : ∀ k, ∀ x ∈ valP k p, x < 256 := fun k x hx => by
    have hi : ∀ n, x ∈ (if n = 0 then [] else encI n) → x < 256 := fun n h => by
      split at h
      · cases h
      · exact wideB_lt n x h
    cases k
    case token => simp only [valP] at hx; split at hx; exact o.mem x hx; cases hx
    all_goals exact hi _ hx
  have hc : ∀ k, ∀ x ∈ chunk p k, x < 256 := fun k x hx => by
    unfold chunk at hx
    split at hx
    · cases hx
    · simp only [List.mem_append] at hx
      rcases hx with h | h | h
      · exact wideB_lt _ x h
      · exact wideB_lt _ x h
      · exact hv k x h
  intro x hx
  unfold putP at hx
  split at hx
  · rw [bytes_chunks] at hx
    simp only [chunks, List.mem_flatten, List.mem_map] at hx
    obtain ⟨l, ⟨k, _, rfl⟩, h⟩ := hx
    exact hc k x h
  · cases hx
theorem twice_put (p : Pm) (ht : p.tok.length = 16) (h : putP p ≠ []) : readM (putP p ++ putP p) = ({}, 11) := by
  unfold putP at h ⊢
  cases hm : mayB p
  · rw [hm] at h; exact absurd rfl h
  · rw [hm, if_pos rfl] at h
    rw [if_pos rfl]
    exact read_twice p hm ht h

set_option maxRecDepth 100000 in
set_option maxHeartbeats 2000000 in
theorem twice_any (p : Pm) (W : World) (o : p.Ok) (hT : Tab W) : Calls Tryd.prog 8 #[aggP p] W fun e w' => e = .returned (.bool true) ∧ Chg none_ W w' := by
  have HO := Lib.hid o
  have HL := Lib.hid (cP_len p o.tok)
  have HC0 := Lib.hid ((Chg.refl none_ W).alloc (.cells (cellsP p).toArray 25))
  have HX := Lib.hid (fun w' (hc : Chg none_ (W.alloc (.cells (cellsP p).toArray 25)) w') => (Row.new W 25 (cellsP p)).chg hc (fun h => h))
  have HAL := Lib.hid (alive_any _ (hT.chg HC0.out (fun h => h)))
  have HTX := Lib.hid (fun w' (hc : Chg none_ (W.alloc (.cells (cellsP p).toArray 25)) w') => (hT.chg HC0.out (fun h => h)).chg hc (fun h => h))
  have HLT := Lib.hid (putP_lt p o)
  have HLL := Lib.hid (putP_len p o.tok)
  have HTW := Lib.hid (twice_put p o.tok)
  have HPU := Lib.hid (fun w hT => putP_any p w o.tok hT)
  have hze := zeroP_eql
  clear o hT
  unfold aggP at HPU ⊢
  obtain ⟨L, hL⟩ : ∃ L, putP p = L := ⟨_, rfl⟩
  rw [hL] at HLT HLL HTW HPU
  clear hL
  generalize cellsP p = cs at *
  obtain ⟨i0, hi, hz0, hz1, hz2⟩ := info_parts info5
  have hl200 := HLL.out
  by_cases h0 : L = []
  all_goals
    go_enter Tryd.func8, Tryd.ntmps8
    go_wp2_with (first | ((with_reducible show wpList _ _ _ (⟨_, .load 25 (.tmp 1), _, _, _, _⟩ :: _) _ _); refine wlP rfl rfl rfl (HX.out _ (by assumption)) HL.out ?_) | (go_at_call 9; refine HAL.out.mono ?_; rintro e w1 ⟨rfl, hc1⟩))
    refine (HPU.out _ (HTX.out _ hc1)).mono ?_
    rintro e w2 ⟨A2, k2, rfl, hv2, hc2⟩
    have HV2 := Lib.hid hv2
    have HC2 := Lib.hid (hc1.trans hc2)
    have HSZ := Lib.hid (HC0.out.trans HC2.out).size
    have HRD := Lib.hid (pread_any w2 none_ none 0 [] (View.none_ _ _ _) (Nat.zero_le _) (by simp))
    rw [read_nil'] at HRD
    clear hv2 hc1 hc2
    go_wp2_with fail
    refine HRD.out.mono ?_
    rintro e w3 ⟨rfl, _, hc3⟩
    have HC3 := Lib.hid hc3
    clear hc3 HRD
    unfold aggP
    simp only
  · have hl0 : ((L.length : Int) == 0) = true := by simp [h0]
    clear h0
    go_wp2_with (first | ((with_reducible show wpList _ _ _ (⟨_, .store 25 _ _, _, _, _, _⟩ :: _) _ _); refine wpList_store_Row (xs := cellsP zP) rfl rfl rfl (Row.new w3 25 (cellsP {})) rfl (by rfl) (by exact sizeP) (cellsA_one _) ?_; intro w4 hr4 hch4 hs4; have HC4 := Lib.hid (hch4 none_ w3 ((Chg.refl none_ w3).alloc _) (fun h => absurd h (by omega))); clear hch4 hs4) | ((with_reducible show wpList _ _ _ (⟨_, .load 25 (.tmp 4), _, _, _, _⟩ :: _) _ _); refine wlP rfl rfl rfl hr4 rfl ?_))
    go_ret
    exact ⟨rfl, ((HC0.out.trans HC2.out).trans HC3.out).trans HC4.out⟩
  · have hl0 : ((L.length : Int) == 0) = false := by simp [h0]
    have HTW2 := Lib.hid (HTW.out h0)
    clear h0
    go_wp2_with (first | ((with_reducible show wpList _ _ _ (⟨_, .store 25 _ _, _, _, _, _⟩ :: _) _ _); refine wpList_store_Row (xs := cellsP zP) rfl rfl rfl (Row.new w3 25 (cellsP {})) rfl (by rfl) (by exact sizeP) (cellsA_one _) ?_; intro w4 hr4 hch4 hs4; have HC4 := Lib.hid (hch4 none_ w3 ((Chg.refl none_ w3).alloc _) (fun h => absurd h (by omega))); have HC24 := Lib.hid (HC3.out.trans HC4.out); have HOWN := Lib.hid (own_of_row (Row.new w4 5 (u8s [])) HC24.out.size rfl (by simp [maxLen])); have HSZ4 := Lib.hid (HC24.out.alloc (.cells (u8s []).toArray 5)).size; clear hch4 hs4) | ((with_reducible show wpList _ _ _ (⟨_, .load 25 (.tmp 4), _, _, _, _⟩ :: _) _ _); refine wlP rfl rfl rfl hr4 rfl ?_) | (at_builtin; first | (refine wpList_append_view rfl _ _ 29 rfl 5 i0 _ 1 Tryd.underlying29 hi hz0 hz1 hz2 rfl w2.heap.size (.slice (some ⟨w4.heap.size, 0, none⟩) 0 0) 0 (u8s []) rfl HOWN.out _ A2 _ k2 (u8s L) rfl (HV2.out.chg (HC24.out.alloc _) (fun _ _ h => h)) (u8s_one _) (by unfold maxLen; omega) (by omega) HSZ4.out ?_; intro v6 w6 hown6 hgrow6 hob6; have hc6 := (HC24.out.alloc (.cells (u8s []).toArray 5)).append (Nat.le_refl _) HOWN.out hgrow6; rw [u8s_append] at hown6; have HOWN6 := Lib.hid hown6; have HC6 := Lib.hid hc6; clear hown6 hc6 hgrow6 hob6) | (refine wpList_append_view rfl _ _ 29 rfl 5 i0 _ 1 Tryd.underlying29 hi hz0 hz1 hz2 rfl w2.heap.size v6 (0 + L.length) (u8s ([] ++ L)) rfl HOWN6.out _ A2 _ k2 (u8s L) rfl (HV2.out.chg HC6.out (fun _ _ h => h)) (u8s_one _) (by unfold maxLen; omega) (by omega) HC6.out.size ?_; intro v7 w7 hown7 hgrow7 hob7; have hc7 := HC6.out.append (Nat.le_refl _) HOWN6.out hgrow7; rw [u8s_append] at hown7; have HOWN7 := Lib.hid hown7; have HC7 := Lib.hid hc7; clear hown7 hc7 hgrow7 hob7)))
    obtain ⟨A7, k7, rfl, _, _, hv7⟩ := View.own (T := fun _ => True) HOWN7.out (fun _ _ => trivial)
    have hLL : (([] ++ L) ++ L).length = 0 + L.length + L.length := by simp
    have HRD2 := Lib.hid (pread_any w7 (fun _ => True) A7 k7 (([] ++ L) ++ L) (by rw [hLL]; exact hv7) (by rw [hLL]; omega) (fun x hx => by simp only [List.nil_append, List.mem_append, or_self] at hx; exact HLT.out x hx))
    rw [hLL, List.nil_append, HTW2.out] at HRD2
    clear hv7 hLL
    go_wp2_with fail
    refine HRD2.out.mono ?_
    rintro e w8 ⟨rfl, _, hc8⟩
    have HC8 := Lib.hid hc8
    clear hc8 HRD2
    unfold aggP
    simp only
    go_wp2_with ((with_reducible show wpList _ _ _ (⟨_, .store 25 _ _, _, _, _, _⟩ :: _) _ _); refine wpList_store_Row (xs := cellsP {}) rfl rfl rfl (Row.new w8 25 (cellsP {})) rfl (by rfl) (by exact sizeP) (cellsA_one _) ?_; intro w9 hr9 hch9 hs9; have HC9 := Lib.hid (hch9 none_ w8 ((Chg.refl none_ w8).alloc _) (fun h => absurd h (by omega))); clear hch9 hs9)
    go_ret
    exact ⟨rfl, (((HC0.out.trans HC2.out).trans HC7.out).trans HC8.out).trans HC9.out⟩
end Go.Proofs.YtgdkfeifijkknaaDoor
