/- Layer 7 (hash): what the document's answer expands a secret to by a label. -/
import Derived.Test.YtodcjcpbigggfaaDoorV7RExpand
import Derived.Test.YtodcjcpbigggfaaDoorV7Label
namespace Go.Proofs.YtodcjcpbigggfaaDoor
open Go.RowKit

theorem rlabel_none (s : List Nat) (L : ByteArray) (n : Int) (w : World) (hm : L.size ≤ 9223372036854775807) (h : 60 < L.size ∨ n < 0 ∨ 255 < n) :
    Calls Tryd.prog 18 #[.agg (u8s s).toArray, .string L, .int .i64 n] w fun e w' => e = .returned (.slice none 0 0) ∧ Chg none_ w w' := by
  have hb : decide ((60 : Int) < (L.size : Int)) = true ∨ (decide ((60 : Int) < (L.size : Int)) = false ∧ decide (n < 0) = true) ∨ (decide ((60 : Int) < (L.size : Int)) = false ∧ decide (n < 0) = false ∧ decide (255 < n) = true) := by
    by_cases h1 : 60 < L.size
    · left; simp; omega
    · right
      by_cases h2 : n < 0
      · left; simp; omega
      · right; simp; omega
  clear h
  rcases hb with h1 | ⟨h1, h2⟩ | ⟨h1, h2, h3⟩
  all_goals
    go_enter Tryd.func18, Tryd.ntmps18
    go_wp2_with (first | ((with_reducible show wpList _ _ _ (⟨_, .box 25 _, _, _, _, _⟩ :: _) _ _); refine wpList_box_Row rfl rfl (u8s s) rfl ?_; intro w1 hr1 hc1 hs1; have HR1 := Lib.hid hr1; have HC1 := Lib.hid hc1; clear hr1 hc1 hs1))
    go_ret
    exact ⟨rfl, HC1.out⟩

set_option maxRecDepth 100000 in
set_option maxHeartbeats 1000000 in
theorem rlabel_ok (s : List Nat) (L : ByteArray) (N : Nat) (w : World) (hL : L.size ≤ 60) (hN : N ≤ 255) (hs : s.length = 32) (hsb : ∀ x ∈ s, x < 256) (hT : HTab w) :
    Calls Tryd.prog 18 #[.agg (u8s s).toArray, .string L, .int .i64 N] w fun e w' => SeenBytes w (expandN s (infoN (bsN L) N) N) e w' := by
  have HTB := Lib.hid (tls_bytes L)
  have HTS := Lib.hid (tls_size L)
  have HS := Lib.hid hs
  have HI0 : Hid ([0, N, 6 + L.size] ++ (tlsN ++ bsN L) ++ [0] = infoN (bsN L) N) := Lib.hid (by simp [infoN, tlsN, bsN_len])
  have HEX := Lib.hid (fun w1 Ti Ai ci (hv : View w1 Ti Ai (infoN (bsN L) N).length (u8s (infoN (bsN L) N))) (hc : Chg none_ w w1) => rexpand_any s (infoN (bsN L) N) (N : Int) Ti Ai ci w1 hs hsb hv (by rw [← HI0.out]; simp [tlsN, bsN_len]; omega) (by
    rw [← HI0.out]
    intro x hx
    simp only [tlsN, List.mem_append, List.mem_cons, List.not_mem_nil, or_false] at hx
    rcases hx with ((rfl | rfl | rfl) | ((rfl | rfl | rfl | rfl | rfl | rfl) | h)) | rfl
    all_goals first | omega | exact bsN_lt L x h) (hT.chg hc (fun h => h) (fun h => h)))
  clear hs hsb hT
  obtain ⟨I, hI⟩ : ∃ I, infoN (bsN L) N = I := ⟨_, rfl⟩
  rw [hI] at HEX HI0
  have HI := HI0
  rw [hI]
  clear hI HI0
  go_enter Tryd.func18, Tryd.ntmps18
  go_wp2_with (first | ((with_reducible show wpList _ _ _ (⟨_, .box 25 _, _, _, _, _⟩ :: _) _ _); refine wpList_box_Row rfl rfl (u8s s) rfl ?_; intro w1 hr1 hc1 hs1; have HR1 := Lib.hid hr1; have HC1 := Lib.hid hc1; clear hr1 hc1 hs1) | ((with_reducible show wpList _ _ _ (⟨some 25, _, _, _, _, _⟩ :: _) _ _); refine wpList_new_row (v := fun g => .slice (some ⟨g, 0, none⟩) 3 3) (e := 5) (cs := [.int .u8 0, .int .u8 (N : Int), .int .u8 (6 + (L.size : Int))]) rfl (fun w_ => by go_simp) ?_; intro w2 hr2 hc2 hs2; have HR2 := Lib.hid hr2; have HC2 := Lib.hid hc2; clear hr2 hc2 hs2) | ((with_reducible show wpList _ _ _ (⟨some 28, _, _, _, _, _⟩ :: _) _ _); refine wpList_bytes_string rfl rfl rfl Tryd.underlying9 Tryd.underlying22 Tryd.underlying5 ?_; intro w3 c3 hv3 hl3 hc3; rw [HTB.out, HTS.out] at hv3; rw [HTS.out] at hl3 ⊢; have HV3 := Lib.hid hv3; have HL3 := Lib.hid hl3; have HC3 := Lib.hid hc3; clear hv3 hl3 hc3) | ((with_reducible show wpList _ _ _ (⟨some 29, _, _, _, _, _⟩ :: _) _ _); refine wpList_append_bytes (v := .slice (some ⟨w1.heap.size, 0, none⟩) 3 3) (L := [0, N, 6 + L.size]) rfl _ _ 22 rfl Tryd.underlying22 rfl ((Owned.row (l := [0, N, 6 + L.size]) HR2.out (Nat.le_refl _) rfl (by simp [maxLen])).chg HC3.out (fun _ _ h => h)) rfl (HV3.out) (by simp; omega) ((HC2.out.trans HC3.out).size) (HC2.out.trans HC3.out) (Nat.le_refl _) ?_; intro v4 w4 hown4 hc4; have HOWN4 := Lib.hid hown4; have HC4 := Lib.hid hc4; clear hown4 hc4))
  refine wp_region_held_drew (S := fun w' => Chg none_ w1 w') (by kernel_rfl) (HC4.out.drew) (fun hch0 => ?_)
  refine wpAnyH_take (i := 0) (v := .agg (u8s s).toArray) rfl (by kernel_rfl) (by kernel_rfl) (by kernel_rfl) (by first | exact fun _ _ _ h => h | exact fun _ _ _ h => nomatch h.1) (yieldsIf_load_mid (by rfl) 25 _ rfl w.heap.size 0 rfl (u8s s) _ (fun w' hw' => (HR1.out.chg hw' (fun h => h)).range) Tryd.underlying25 rfl (by rw [u8s_length, HS.out]; exact size25)) hch0 ?_
  refine wpAnyH_take (i := 1) (v := v4) rfl (by kernel_rfl) (by kernel_rfl) (by kernel_rfl) (by first | exact fun _ _ _ h => h | exact fun _ _ _ h => nomatch h.1) (Or.inl ⟨by rfl, fun w_ hw_ => by go_simp⟩) hch0 ?_
  refine wpAnyH_take (i := 4) (v := .int .i64 (N : Nat)) rfl (by kernel_rfl) (by kernel_rfl) (by kernel_rfl) (by first | exact fun _ _ _ h => h | exact fun _ _ _ h => nomatch h.1) (Or.inl ⟨by rfl, fun w_ hw_ => by go_simp⟩) hch0 ?_
  refine wpAnyH_ready (rs := [2]) (by kernel_rfl) (by simp) ?_
  refine AllReadyH.cons rfl (fun K hK => ?_) AllReadyH.nil
  rw [if_pos (by rfl)]
  try simp only [Act.put, List.setIfInBounds_toArray, List.set_cons_zero, List.set_cons_succ, List.getElem_toArray, List.getElem_cons_succ, List.getElem_cons_zero]
  refine wp_new_row (v := fun g => .slice (some ⟨g, 0, none⟩) 1 1) (e := 5) (cs := [.int .u8 0]) (fun w_ => by go_simp) ?_
  intro w5 hr5 hc5 hs5
  have hch1 : Chg none_ w1 w5 := hch0.trans hc5
  have hown4 := (show Owned w4.drew w1.heap.size v4 _ from HOWN4.out).chg hc5 (fun _ _ h => h)
  refine hK.out _ _ hch1 (fun _ => ?_)
  clear hK K hs5
  try simp only [Act.put, List.setIfInBounds_toArray, List.set_cons_zero, List.set_cons_succ, List.getElem_toArray, List.getElem_cons_succ, List.getElem_cons_zero]
  refine wpAnyH_ready (rs := [3]) (by kernel_rfl) (by simp) ?_
  refine AllReadyH.cons rfl (fun K hK => ?_) AllReadyH.nil
  rw [if_pos (by rfl)]
  try simp only [Act.put, List.setIfInBounds_toArray, List.set_cons_zero, List.set_cons_succ, List.getElem_toArray, List.getElem_cons_succ, List.getElem_cons_zero]
  refine wp_append_bytes (v := v4) (w0 := w1) _ _ 22 rfl Tryd.underlying22 rfl hown4 rfl (View.all (T := fun _ => True) (cs := u8s [0]) hr5 rfl trivial) (by rw [List.length_append, List.length_append, bsN_len]; simp [tlsN]; omega) hch1.size hch1 (Nat.le_refl _) ?_
  intro v6 w6 hown6 hch2
  rw [HI.out] at hown6
  obtain ⟨A6, c6, e6, _, _, hv6⟩ := hown6.view
  subst e6
  refine hK.out _ _ hch2 (fun _ => ?_)
  clear hK K
  try simp only [Act.put, List.setIfInBounds_toArray, List.set_cons_zero, List.set_cons_succ, List.getElem_toArray, List.getElem_cons_succ, List.getElem_cons_zero]
  refine wpAnyH_ready (rs := [5]) (by kernel_rfl) (by simp) ?_
  refine AllReadyH.cons rfl (fun K hK => ?_) AllReadyH.nil
  rw [if_pos (by rfl)]
  try simp only [Act.put, List.setIfInBounds_toArray, List.set_cons_zero, List.set_cons_succ, List.getElem_toArray, List.getElem_cons_succ, List.getElem_cons_zero]
  go_simp
  refine (HEX.out _ _ _ _ hv6 (HC1.out.trans hch2)).mono ?_
  rintro e w7 ⟨A7, c7, rfl, hv7, hc7⟩
  have hch3 : Chg none_ w1 w7 := hch2.trans hc7
  refine hK.out _ _ (hch3) (fun _ => ?_)
  clear hK K
  try simp only [Act.put, List.setIfInBounds_toArray, List.set_cons_zero, List.set_cons_succ, List.getElem_toArray, List.getElem_cons_succ, List.getElem_cons_zero]
  refine wpAnyH_take (i := 6) (v := .slice A7 (expandN s I (N : Int)).length c7) rfl (by kernel_rfl) (by kernel_rfl) (by kernel_rfl) (by first | exact fun _ _ _ h => h | exact fun _ _ _ h => nomatch h.1) (Or.inl ⟨by rfl, fun w_ hw_ => by go_simp⟩) hch3 ?_
  refine wpAnyH_done (by kernel_rfl) ?_ _
  go_wp2
  go_ret
  exact ⟨A7, c7, rfl, hv7, HC1.out.trans hch3⟩

theorem rlabel_any (s : List Nat) (L : ByteArray) (n : Int) (w : World) (hm : L.size ≤ 9223372036854775807) (hs : s.length = 32) (hsb : ∀ x ∈ s, x < 256) (hT : HTab w) :
    Calls Tryd.prog 18 #[.agg (u8s s).toArray, .string L, .int .i64 n] w fun e w' => SeenBytes w (labelN s (bsN L) n) e w' := by
  by_cases h : 60 < L.size ∨ n < 0 ∨ 255 < n
  · have e1 : labelN s (bsN L) n = [] := by
      unfold labelN expandN
      rw [bsN_len]
      split
      · rfl
      · rw [if_pos (by omega)]
    rw [e1]
    exact (rlabel_none s L n w hm h).mono fun e w' ⟨h1, h2⟩ => ⟨none, 0, h1, View.none_ _ _ _, h2⟩
  · obtain ⟨N, rfl⟩ : ∃ N : Nat, n = (N : Int) := ⟨n.toNat, by omega⟩
    unfold labelN
    rw [bsN_len, if_neg (by omega)]
    exact rlabel_ok s L N w (by omega) (by omega) hs hsb hT
end Go.Proofs.YtodcjcpbigggfaaDoor
