/- Layer 7 (hash): the document's digest. -/
import Derived.Test.YtodcjcpbigggfaaDoorV7Turn
import Derived.Test.YtodcjcpbigggfaaDoorV7Digest
import Derived.Test.YtodcjcpbigggfaaDoorOwn
import Derived.Test.YtodcjcpbigggfaaDoorStr
namespace Go.Proofs.YtodcjcpbigggfaaDoor
open Go.RowKit

/-- A text, the byte 128, and so many zeros. -/
def fillN (l : List Nat) (k : Nat) : List Nat := l ++ 128 :: List.replicate k 0
theorem fillN_len (l : List Nat) (k : Nat) : (fillN l k).length = l.length + 1 + k := by simp [fillN]; omega
theorem fillN_snoc (l : List Nat) (k : Nat) : fillN l k ++ [0] = fillN l (k + 1) := by
  have e : List.replicate k 0 ++ [0] = List.replicate (k + 1) 0 := by rw [List.replicate_succ']
  simp [fillN, ← e]
theorem fillN_lt {l : List Nat} (hl : ∀ x ∈ l, x < 256) (k : Nat) : ∀ x ∈ fillN l k, x < 256 := by
  intro x hx
  simp only [fillN, List.mem_append, List.mem_cons, List.mem_replicate] at hx
  rcases hx with h | rfl | ⟨_, rfl⟩
  · exact hl x h
  · decide
  · decide
theorem padN_fill (l : List Nat) : padN 0 l = fillN l (padZ l.length) ++ be8 (8 * l.length) := by simp [padN, fillN]
theorem be8_small (n : Nat) (h : n < 4294967296) : be8 n = [0, 0, 0, 0, n / 16777216, n / 65536 % 256, n / 256 % 256, n % 256] := by
  simp only [be8, show List.range 8 = [0, 1, 2, 3, 4, 5, 6, 7] from rfl, List.map_cons, List.map_nil]
  congr 1; omega
  congr 1; omega
  congr 1; omega
  congr 1; omega
  congr 1; omega
  congr 1
  congr 1
  congr 1; omega

theorem cnt_row (n : Nat) (h : n ≤ 500000) : ([.int .u8 0, .int .u8 0, .int .u8 0, .int .u8 0, .int .u8 ((n : Int) * 8 / 16777216), .int .u8 ((n : Int) * 8 / 65536 % 256), .int .u8 ((n : Int) * 8 / 256 % 256), .int .u8 ((n : Int) * 8 % 256)] : List Value) = u8s (be8 (8 * n)) := by
  rw [be8_small _ (by omega)]
  simp only [u8s, List.map_cons, List.map_nil, Nat.mul_comm 8 n]
  rfl
/-- A slice's length. -/
def lenV : Value → Nat | .slice _ n _ => n | _ => 0

set_option maxRecDepth 100000 in
set_option maxHeartbeats 4000000 in
theorem rsum_any (T : Nat → Prop) (A : Option Addr) (cap : Nat) (l : List Nat) (w : World) (hv : View w T A l.length (u8s l)) (hl : l.length ≤ 500000) (hb : ∀ x ∈ l, x < 256) (hT : HTab w) :
    Calls Tryd.prog 10 #[.slice A l.length cap] w fun e w' => e = .returned (.agg (u8s (sumN l)).toArray) ∧ Chg none_ w w' := by
  have HTX : Hid (∀ w', Chg none_ w w' → HTab w') := Lib.hid (fun w' hc => hT.chg hc (fun h => h) (fun h => h))
  have HLB := Lib.hid hb
  have HVX : Hid (∀ w', Chg none_ w w' → View w' (fun b => b < w.heap.size) A l.length (u8s l)) := Lib.hid (fun w' hc => (hv.mono (T' := fun b => b < w.heap.size) (fun _ h _ => h)).chg hc (fun _ _ h => h))
  clear hT hb hv
  go_enter Tryd.func10, Tryd.ntmps10
  go_wp2_with (first | ((with_reducible show wpList _ _ _ (⟨_, .alloc 25, _, _, _, _⟩ :: _) _ _); refine wpList_alloc_Row rfl rfl (u8s (List.replicate 32 0)) zero25 ?_; intro w1 hr1 hc1 hs1; have HR1 := Lib.hid hr1; have HC1 := Lib.hid hc1; clear hr1 hc1 hs1) | ((with_reducible show wpList _ _ _ (⟨some 11, _, _, _, _, _⟩ :: _) _ _); refine wpList_new_row (v := fun g => .slice (some ⟨g, 0, none⟩) 0 0) (e := 5) (cs := []) rfl (fun w_ => by go_simp) ?_; intro w2 hr2 hc2 hs2; have HR2 := Lib.hid hr2; have HC2 := Lib.hid hc2; clear hr2 hc2 hs2) | ((with_reducible show wpList _ _ _ (⟨some 13, _, _, _, _, _⟩ :: _) _ _); refine wpList_append_bytes rfl _ _ 22 rfl Tryd.underlying22 rfl (Owned.row (l := []) HR2.out (Nat.le_refl _) rfl (by simp [maxLen])) rfl (HVX.out _ (HC1.out.trans HC2.out)) (by simp; omega) (HC2.out.size) (HC2.out) (Nat.le_refl _) ?_; intro v3 w3 hown3 hc3; have HOWN3 := Lib.hid hown3; have HC3 := Lib.hid hc3; clear hown3 hc3) | ((with_reducible show wpList _ _ _ (⟨some 14, _, _, _, _, _⟩ :: _) _ _); refine wpList_new_row (v := fun g => .slice (some ⟨g, 0, none⟩) 1 1) (e := 5) (cs := [.int .u8 128]) rfl (fun w_ => by go_simp) ?_; intro w4 hr4 hc4 hs4; have HR4 := Lib.hid hr4; have HC4 := Lib.hid hc4; clear hr4 hc4 hs4) | ((with_reducible show wpList _ _ _ (⟨some 15, _, _, _, _, _⟩ :: _) _ _); refine wpList_append_bytes rfl _ _ 22 rfl Tryd.underlying22 rfl (HOWN3.out.chg HC4.out (fun _ _ h => h)) rfl (View.all (T := fun _ => True) (cs := u8s [128]) HR4.out rfl trivial) (by simp; omega) ((HC3.out.trans HC4.out).size) (HC3.out.trans HC4.out) (Nat.le_refl _) ?_; intro v5 w5 hown5 hc5; have HOWN5 := Lib.hid hown5; have HC5 := Lib.hid hc5; clear hown5 hc5))
  have HO5 : Hid (Owned w5 w1.heap.size v5 (fillN l 0)) := Lib.hid (by
    have hh := HOWN5.out
    rw [show [] ++ l ++ [128] = fillN l 0 from by simp [fillN]] at hh
    exact hh)
  have HC15 := HC5
  clear HOWN5 HOWN3 HR2 HR4 HC2 HC3 HC4 HC5
  have hpz : padZ l.length ≤ 63 := by unfold padZ; split <;> omega
  go_loopw [3] (fun v wr => ∃ k : Nat, k ≤ padZ l.length ∧ Owned wr w1.heap.size v (fillN l k) ∧ Chg none_ w1 wr ∧ ∃ A n c, v = .slice A n c) (fun v _ => padZ l.length + l.length + 1 - lenV v)
  case atStart => 
    obtain ⟨A5, c5, e5, _⟩ := HO5.out.view
    exact ⟨0, Nat.zero_le _, HO5.out, HC15.out, A5, _, c5, e5⟩
  case round =>
    obtain ⟨k, hk, hown, hch, Ab, nb, cb, rfl⟩ := hrel
    obtain ⟨rfl, hcap, hvb⟩ := hown.slice
    rw [fillN_len] at hown hcap ⊢
    have HOW := Lib.hid hown
    have HCH := Lib.hid hch
    have HVB := Lib.hid hvb
    clear hown hch hvb
    by_cases hlt : k < padZ l.length
    · have hne : ((((l.length + 1 + k : Nat) : Int) % 64) != 56) = true := by rw [bne_iff_ne]; unfold padZ at hlt; split at hlt <;> omega
      have HPN : Hid (padZ l.length + l.length + 1 - (l.length + 1 + k + 1) < padZ l.length + l.length + 1 - (l.length + 1 + k)) := Lib.hid (by omega)
      generalize hN1 : l.length + 1 + k = N1 at hne HOW hcap HPN ⊢
      have hN2 : N1 ≤ 600000 := by omega
      have HN1 := Lib.hid hN1
      clear hN1
      go_wp2_with (first | ((with_reducible show wpList _ _ _ (⟨some 21, _, _, _, _, _⟩ :: _) _ _); refine wpList_new_row (v := fun g => .slice (some ⟨g, 0, none⟩) 1 1) (e := 5) (cs := [.int .u8 0]) rfl (fun w_ => by go_simp) ?_; intro w6 hr6 hc6 hs6; have HR6 := Lib.hid hr6; have HC6 := Lib.hid hc6; clear hr6 hc6 hs6) | ((with_reducible show wpList _ _ _ (⟨some 22, _, _, _, _, _⟩ :: _) _ _); refine wpList_append_bytes rfl _ _ 22 rfl Tryd.underlying22 rfl (Owned.chg (v := .slice Ab N1 cb) HOW.out HC6.out (fun _ _ h => h)) rfl (View.all (T := fun _ => True) (cs := u8s [0]) HR6.out rfl trivial) (by rw [fillN_len]; omega) ((HCH.out.trans HC6.out).size) (HCH.out.trans HC6.out) (Nat.le_refl _) ?_; intro v7 w7 hown7 hc7; have HOWN7 := Lib.hid hown7; have HC7 := Lib.hid hc7; clear hown7 hc7))
      obtain ⟨A7, c7, e7, hc7, _⟩ := HOWN7.out.view
      subst e7
      go_roundw
      case rel => exact ⟨k + 1, by omega, by rw [← fillN_snoc]; exact HOWN7.out, HC7.out, _, _, _, rfl⟩
      case measure => 
        simp only [lenV]
        rw [List.length_append, fillN_len, HN1.out]
        exact HPN.out
    · have hkp : k = padZ l.length := by omega
      subst hkp
      have hne : ((((l.length + 1 + padZ l.length : Nat) : Int) % 64) != 56) = false := by rw [bne_eq_false_iff_eq]; unfold padZ; split <;> omega
      generalize hN1 : l.length + 1 + padZ l.length = N1 at hne HOW hcap ⊢
      have hN2 : N1 ≤ 600000 := by omega
      have HN1 := Lib.hid hN1
      clear hN1 hlt hk
      go_wp2_with (first | ((with_reducible show wpList _ _ _ (⟨some 41, _, _, _, _, _⟩ :: _) _ _); refine wpList_new_row (v := fun g => .slice (some ⟨g, 0, none⟩) 8 8) (e := 5) (cs := [.int .u8 0, .int .u8 0, .int .u8 0, .int .u8 0, .int .u8 ((l.length : Int) * 8 / 16777216), .int .u8 ((l.length : Int) * 8 / 65536 % 256), .int .u8 ((l.length : Int) * 8 / 256 % 256), .int .u8 ((l.length : Int) * 8 % 256)]) rfl (fun w_ => by go_simp) ?_; intro w8 hr8 hc8 hs8; have HR8 := Lib.hid hr8; have HC8 := Lib.hid hc8; clear hr8 hc8 hs8) | ((with_reducible show wpList _ _ _ (⟨some 42, _, _, _, _, _⟩ :: _) _ _); refine wpList_append_bytes rfl _ _ 22 rfl Tryd.underlying22 rfl (Owned.chg (v := .slice Ab N1 cb) HOW.out HC8.out (fun _ _ h => h)) rfl (View.all (T := fun _ => True) (cs := u8s (be8 (8 * l.length))) (by rw [cnt_row l.length (by omega)] at HR8; exact HR8.out) (by simp [be8_len]) trivial) (by rw [fillN_len]; omega) ((HCH.out.trans HC8.out).size) (HCH.out.trans HC8.out) (Nat.le_refl _) ?_; intro v9 w9 hown9 hc9; have HOWN9 := Lib.hid hown9; have HC9 := Lib.hid hc9; clear hown9 hc9) | ((with_reducible show wpList _ _ _ (⟨some 43, .load 36 _, _, _, _, _⟩ :: _) _ _); refine wpList_load_Mid (cs := u32s first8.list) rfl rfl rfl ((HTX.out _ (HC1.out.trans HC9.out)).fs) Tryd.underlying36 rfl (size36) ?_) | ((with_reducible show wpList _ _ _ (⟨_, .alloc 36, _, _, _, _⟩ :: _) _ _); refine wpList_alloc_Row rfl rfl (u32s (List.replicate 8 0)) zero36 ?_; intro w10 hr10 hc10 hs10; have HR10 := Lib.hid hr10; have HC10 := Lib.hid hc10; clear hr10 hc10 hs10) | ((with_reducible show wpList _ _ _ (⟨_, .store 36 _ _, _, _, _, _⟩ :: _) _ _); refine wpList_store_Row (xs := u32s first8.list) rfl rfl rfl (HR10.out) (rfl) (by rw [u32s_length, St8.len, u32s_length]; rfl) (by rw [u32s_length, St8.len]; exact size36) (u32s_one _) ?_; intro w11 hr11 hc11 hs11; have HR11 := Lib.hid hr11; have HC11 := Lib.hid hc11; clear hr11 hc11 hs11))
      have HCb := Lib.hid (HC1.out.trans HC9.out)
      have HB : Hid (Owned w9 w1.heap.size v9 (padN 0 l)) := Lib.hid (by rw [padN_fill]; exact HOWN9.out)
      obtain ⟨AB, cB, eB, hcB, _, hvB⟩ := HB.out.view
      have HNB : Hid ((padN 0 l).length = 64 * ((padN 0 l).length / 64)) := Lib.hid (by rw [padN_fill, List.length_append, fillN_len, be8_len]; unfold padZ; split <;> omega)
      have HBB : Hid (∀ x ∈ padN 0 l, x < 256) := Lib.hid (by
        intro x hx
        rw [padN_fill] at hx
        rcases List.mem_append.1 hx with h | h
        · exact fillN_lt HLB.out _ x h
        · exact be8_lt _ x h)
      have HBL : Hid ((padN 0 l).length ≤ 600000) := Lib.hid (by rw [padN_fill, List.length_append, fillN_len, be8_len]; omega)
      have HSUM : Hid (bytesN (runN first8 (padN 0 l) ((padN 0 l).length / 64)) = sumN l) := Lib.hid rfl
      have HVB := Lib.hid hvB
      have HCB := Lib.hid hcB
      have e9 : v9 = .slice AB (padN 0 l).length cB := eB
      subst e9
      have HG := Lib.hid (show w.heap.size < w9.heap.size ∧ w9.heap.size < w10.heap.size ∧ w1.heap.size ≤ w9.heap.size by have h1 := HR1.out.lt; have h2 := HC9.out.size; have h3 := HR10.out.lt; omega)
      have HCG := Lib.hid (HC11.out (· = w9.heap.size) w9 (HC10.out.mono (fun _ _ h => h.elim)) (fun _ => rfl))
      have HCg := Lib.hid (HCb.out.andThen HCG.out (fun b h e => by have := HG.out; omega))
      have HR1y := Lib.hid ((HR1.out.chg HC9.out (fun h => h)).chg HCG.out (by have := HG.out; omega))
      have HVB11 : Hid (View w11 (fun b => w1.heap.size ≤ b ∧ b ≠ w9.heap.size) AB (padN 0 l).length (u8s (padN 0 l))) := Lib.hid ((HVB.out.mono (T' := fun b => w1.heap.size ≤ b ∧ b ≠ w9.heap.size) (fun b hb h => ⟨h, by omega⟩)).chg HCG.out (fun b hb h => hb.2 h))
      clear eB hvB hcB HB HOWN9 HOW HCH HVB hne hN2 HC9 HC8 HC10 HC11 HCG HR10 HR1 HR8 HO5 HC15 hcap HN1 hpz
      generalize w9.heap.size = g5 at HR11 HG HVB11 ⊢
      have HNBe := Lib.hid (rfl : (padN 0 l).length / 64 = (padN 0 l).length / 64)
      generalize hnb : (padN 0 l).length / 64 = nb at HNB HSUM
      clear hnb HNBe
      generalize padN 0 l = B at HNB HBB HBL HSUM HVB11 HCB ⊢
      have hBL := HBL.out
      have hNB := HNB.out
      have HTURN : Hid (∀ (j : Nat) wr, j < nb → Chg (· = g5) w11 wr → Calls Tryd.prog 20 #[.agg (u32s (runN first8 B j).list).toArray, .slice (dropA AB cB (64 * j)) 64 (cB - 64 * j)] wr fun e w' => e = .returned (.agg (u32s (turnN (runN first8 B j) (blkN B j)).list).toArray) ∧ Chg none_ wr w') := Lib.hid (fun j wr hj hc => by
        have h1 := (HVB11.out.chg hc (fun b hb h => hb.2 h)).dropA (k := 64 * j) HCB.out
        have h2 := h1.take (k := 64) (by omega)
        have e1 : ((u8s B).drop (64 * j)).take 64 = u8s (blkN B j) := by simp [u8s, blkN]
        rw [e1] at h2
        exact turn_any (runN first8 B j) (blkN B j) _ _ _ wr (runN_ok B first8_ok j) (blkN_len B j (by omega)) h2 (blkN_lt HBB.out j) ((HTX.out _ HCg.out).chg hc (by have := (HTX.out w (Chg.refl _ _)).k; have := HG.out; omega) (by have := (HTX.out w (Chg.refl _ _)).f; have := HG.out; omega)))
      clear hNB hBL
      go_loopw [6] (fun i wr => ∃ j : Nat, j ≤ nb ∧ i = .int .i64 ((64 * j : Nat) : Int) ∧ Row wr g5 36 (u32s (runN first8 B j).list) ∧ Chg (· = g5) w11 wr) (fun i _ => 64 * nb - (intOf i).toNat)
      case atStart => exact ⟨0, Nat.zero_le _, rfl, HR11.out, Chg.refl _ _⟩
      case round =>
        obtain ⟨j, hj, rfl, hrow, hch⟩ := hrel
        have HROW := Lib.hid hrow
        have HC := Lib.hid hch
        have hNB := HNB.out
        have hBL := HBL.out
        by_cases hlt : j < nb
        · have hl1 : 64 * j < B.length := by omega
          have HTURN := Lib.hid (fun wr hc => HTURN.out j wr hlt hc)
          have Q1 : Hid (IntKind.i64.wrap (64 * (j : Int) + 64) = ((64 * j + 64 : Nat) : Int)) := Lib.hid (by rw [IntWalk.i64_in _ (by omega)]; omega)
          have hfit : 64 * j + 64 ≤ cB := by have := HCB.out; omega
          have HLT2 : Hid (64 * nb - (64 * j + 64) < 64 * nb - 64 * j) := Lib.hid (by omega)
          clear hrow hch hNB
          go_wp2
          refine wp_region_held_drew (S := fun w' => Chg (· = g5) w11 w') (by kernel_rfl) (HC.out.drew) (fun hch0 => ?_)
          refine wpAnyH_take (i := 1) (v := .slice AB B.length cB) rfl (by kernel_rfl) (by kernel_rfl) (by kernel_rfl) (by first | exact fun _ _ _ h => h | exact fun _ _ _ h => nomatch h.1) (Or.inl ⟨by rfl, fun w_ hw_ => by go_simp⟩) hch0 ?_
          refine wpAnyH_take (i := 2) (v := .int .i64 ((64 * j : Nat) : Int)) rfl (by kernel_rfl) (by kernel_rfl) (by kernel_rfl) (by first | exact fun _ _ _ h => h | exact fun _ _ _ h => nomatch h.1) (Or.inl ⟨by rfl, fun w_ hw_ => by go_simp⟩) hch0 ?_
          refine wpAnyH_take (i := 3) (v := .int .i64 ((64 * j : Nat) : Int)) rfl (by kernel_rfl) (by kernel_rfl) (by kernel_rfl) (by first | exact fun _ _ _ h => h | exact fun _ _ _ h => nomatch h.1) (Or.inl ⟨by rfl, fun w_ hw_ => by go_simp⟩) hch0 ?_
          refine wpAnyH_take (i := 4) (v := .int .i64 ((64 * j + 64 : Nat) : Int)) rfl (by kernel_rfl) (by kernel_rfl) (by kernel_rfl) (by first | exact fun _ _ _ h => h | exact fun _ _ _ h => nomatch h.1) (Or.inl ⟨by rfl, fun w_ hw_ => by go_simp; exact Q1.out⟩) hch0 ?_
          refine wpAnyH_take (i := 5) (v := .slice (dropA AB cB (64 * j)) (64 * j + 64 - 64 * j) (cB - 64 * j)) rfl (by kernel_rfl) (by kernel_rfl) (by kernel_rfl) (by first | exact fun _ _ _ h => h | exact fun _ _ _ h => nomatch h.1) (yieldsIf_slice_both (by rfl) 22 5 _ _ _ rfl AB B.length cB (64 * j) (64 * j + 64) rfl rfl rfl Tryd.underlying22 size5 (by omega) hfit rfl) hch0 ?_
          refine wpAnyH_ready (rs := [0]) (by kernel_rfl) (by simp) ?_
          refine AllReadyH.cons rfl (fun K hK => ?_) AllReadyH.nil
          rw [if_pos (by rfl)]
          try simp only [Act.put, List.setIfInBounds_toArray, List.set_cons_zero, List.set_cons_succ, List.getElem_toArray, List.getElem_cons_succ, List.getElem_cons_zero]
          refine wp_load_row (ty := 36) rfl rfl (HROW.out.drew) Tryd.underlying36 rfl (by rw [u32s_length, St8.len]; exact size36) ?_
          refine hK.out _ _ (hch0) (fun _ => ?_)
          clear hK K
          try simp only [Act.put, List.setIfInBounds_toArray, List.set_cons_zero, List.set_cons_succ, List.getElem_toArray, List.getElem_cons_succ, List.getElem_cons_zero]
          refine wpAnyH_ready (rs := [6]) (by kernel_rfl) (by simp) ?_
          refine AllReadyH.cons rfl (fun K hK => ?_) AllReadyH.nil
          rw [if_pos (by rfl)]
          try simp only [Act.put, List.setIfInBounds_toArray, List.set_cons_zero, List.set_cons_succ, List.getElem_toArray, List.getElem_cons_succ, List.getElem_cons_zero]
          go_simp
          refine (HTURN.out _ hch0).mono ?_
          rintro e w12 ⟨rfl, hc12⟩
          have hch1 : Chg (· = g5) w11 w12 := hch0.trans (hc12.mono (fun _ _ h => h.elim))
          have hrow4 := HROW.out.drew.chg hc12 (fun h => h)
          refine hK.out _ _ (hch1) (fun _ => ?_)
          clear hK K
          try simp only [Act.put, List.setIfInBounds_toArray, List.set_cons_zero, List.set_cons_succ, List.getElem_toArray, List.getElem_cons_succ, List.getElem_cons_zero]
          refine wpAnyH_ready (rs := [7]) (by kernel_rfl) (by simp) ?_
          refine AllReadyH.cons rfl (fun K hK => ?_) AllReadyH.nil
          rw [if_pos (by rfl)]
          try simp only [Act.put, List.setIfInBounds_toArray, List.set_cons_zero, List.set_cons_succ, List.getElem_toArray, List.getElem_cons_succ, List.getElem_cons_zero]
          refine wp_store_row (ty := 36) (xs := u32s (turnN (runN first8 B j) (blkN B j)).list) rfl rfl (hrow4) rfl (by rw [u32s_length, St8.len, u32s_length, St8.len]) (by rw [u32s_length, St8.len]; exact size36) (u32s_one _) ?_
          intro w13 hr_w13 hc_w13 hs_w13
          refine hK.out _ _ (hc_w13 _ w11 hch1 (fun _ => rfl)) (fun _ => ?_)
          clear hK K
          try simp only [Act.put, List.setIfInBounds_toArray, List.set_cons_zero, List.set_cons_succ, List.getElem_toArray, List.getElem_cons_succ, List.getElem_cons_zero]
          refine wpAnyH_done (by kernel_rfl) ?_ _
          go_wp2
          go_roundw
          case rel => exact ⟨j + 1, by omega, by go_num, by rw [runN]; exact hr_w13, hc_w13 _ w11 hch1 (fun _ => rfl)⟩
          case measure => 
            have := HLT2.out
            simp [intOf]; omega
        · have hjn : j = nb := by omega
          subst hjn
          have HCw : Hid (Chg none_ w wr) := Lib.hid (HCg.out.andThen HC.out (fun b h e => by have := HG.out; omega))
          have HR1w := Lib.hid (HR1y.out.chg HC.out (by have := HG.out; omega))
          have HST8 := Lib.hid (runN_ok B first8_ok j)
          generalize runN first8 B j = ST at HROW HSUM HST8
          clear hrow hch hj hlt HTURN
          rw [← hNB]
          have hdd : decide ((B.length : Int) < (B.length : Int)) = false := by simp
          have hdx : ¬ (B.length : Int) < (B.length : Int) := by omega
          clear hNB
          go_wp2_with (first | ((with_reducible show wpList _ _ _ (⟨some 7, .alloc 25, _, _, _, _⟩ :: _) _ _); refine wpList_alloc_Row rfl rfl (u8s (List.replicate 32 0)) zero25 ?_; intro w14 hr14 hc14 hs14; have HR14 := Lib.hid hr14; have HC14 := Lib.hid hc14; clear hr14 hc14 hs14))
          have HG7 := Lib.hid (show g5 < wr.heap.size ∧ w.heap.size < wr.heap.size by have h1 := HROW.out.lt; have h2 := HR1w.out.lt; exact ⟨h1, h2⟩)
          have HROWx := Lib.hid (HROW.out.chg HC14.out (fun h => h))
          have HR1z := Lib.hid (HR1w.out.chg HC14.out (fun h => h))
          have HCz := Lib.hid (HCw.out.trans HC14.out)
          clear HROW HR1w HCw HC14 HC HVB11 HCB HNB HBB HBL HR11
          generalize wr.heap.size = g7 at HR14 HG7 ⊢
          have HSL := Lib.hid (St8.len ST)
          have HSX := Lib.hid (fun i => getD_lt (list_lt' HST8.out) i (by decide))
          go_loopw [8] (fun i wr => ∃ j : Nat, j ≤ 32 ∧ i = .int .i64 j ∧ Row wr g7 25 (u8s (bytesP ST j)) ∧ Chg (· = g7) w14 wr) (fun i _ => 32 - (intOf i).toNat)
          case atStart => exact ⟨0, Nat.zero_le _, rfl, HR14.out, Chg.refl _ _⟩
          case round =>
            obtain ⟨j, hj, rfl, hrow, hch⟩ := hrel
            have HROW := Lib.hid hrow
            have HC := Lib.hid hch
            by_cases hlt : j < 32
            · have c1 := Row.u32 (HROWx.out.chg hch (by have := HG7.out; omega)) (i := j / 4) (by rw [HSL.out]; omega)
              have c2 := Row.u8 hrow (i := j) (by rw [bytesP_len ST j hj]; exact hlt)
              have hf := hrow.frozen j
              have hy := HSX.out (j / 4)
              have HSET := Lib.hid (bytesP_set ST j hlt)
              have HSR := Lib.hid (hrow.set j)
              clear hrow hch
              generalize ST.list.getD (j / 4) 0 = x at c1 hy HSET
              generalize (bytesP ST j).getD j 0 = y at c2
              go_wp2
              go_loop [9, 10] (fun v k => ∃ q : Nat, q ≤ 3 ∧ j % 4 ≤ q ∧ k = .int .i64 q ∧ v = .int .u32 ((x / 2 ^ (8 * (q - j % 4)) : Nat) : Int)) (fun _ k => 3 - (intOf k).toNat)
              case atStart => exact ⟨j % 4, by omega, Nat.le_refl _, rfl, by simp⟩
              case round =>
                obtain ⟨q, hq, hq2, rfl, rfl⟩ := hrel
                by_cases hlq : q < 3
                · have HDV : Hid (x / 2 ^ (8 * (q - j % 4)) / 256 = x / 2 ^ (8 * (q + 1 - j % 4))) := Lib.hid (by rw [Nat.div_div_eq_div_mul, show (256 : Nat) = 2 ^ 8 from rfl, ← Nat.pow_add]; congr 2; omega)
                  have hz : x / 2 ^ (8 * (q - j % 4)) < 4294967296 := Nat.lt_of_le_of_lt (Nat.div_le_self _ _) hy
                  generalize x / 2 ^ (8 * (q - j % 4)) = z at HDV hz ⊢
                  go_wp2
                  go_round
                  case rel => exact ⟨q + 1, by omega, by omega, by go_num, by rw [← HDV.out]; rfl⟩
                  case measure => simp [intOf]; omega
                · have hq3 : q = 3 := by omega
                  subst hq3
                  have hz : x / 2 ^ (8 * (3 - j % 4)) < 4294967296 := Nat.lt_of_le_of_lt (Nat.div_le_self _ _) hy
                  generalize x / 2 ^ (8 * (3 - j % 4)) = z at HSET hz ⊢
                  rw [show ((3 : Nat) : Int) = 3 from rfl]
                  go_wp2
                  go_roundw
                  case rel =>
                    refine ⟨j + 1, by omega, by go_num, ?_, HC.out.setCell (fun _ => rfl) _⟩
                    rw [← HSET.out, ← u8s_set]
                    exact HSR.out _
                  case measure => simp [intOf]; omega
            · have hj32 : j = 32 := by omega
              subst hj32
              have HROWy : Hid (Row wr g7 25 (u8s (bytesN ST))) := Lib.hid (by have hh := hrow; rw [show bytesP ST 32 = bytesN ST from by rw [bytesP, List.take_of_length_le (by rw [bytesN_len]; omega)]; simp] at hh; exact hh)
              clear hrow hch hj hlt HROW
              have HN := Lib.hid (show w.heap.size ≠ g7 ∧ ¬ g7 < w.heap.size by have := HG7.out; omega)
              go_wp2_with (first | ((with_reducible show wpList _ _ _ (⟨_, .load 25 _, _, _, _, _⟩ :: _) _ _); refine wpList_load_Row rfl rfl rfl (HROWy.out) Tryd.underlying25 rfl (by rw [u8s_length, bytesN_len]; exact size25) ?_) | ((with_reducible show wpList _ _ _ (⟨_, .store 25 _ _, _, _, _, _⟩ :: _) _ _); refine wpList_store_Row (xs := u8s (bytesN ST)) rfl rfl rfl (HR1z.out.chg HC.out HN.out.1) (rfl) (by rw [u8s_length, bytesN_len, u8s_length]; rfl) (by rw [u8s_length, bytesN_len]; exact size25) (u8s_oneA _) ?_; intro w15 hr15 hc15 hs15; have HR15 := Lib.hid hr15; have HC15 := Lib.hid hc15; clear hr15 hc15 hs15))
              refine ret_row rfl rfl HR15.out Tryd.underlying25 rfl (by rw [u8s_length, bytesN_len]; exact size25) rfl ?_
              exact ⟨by rw [HSUM.out], HC15.out none_ w (HCz.out.andThen HC.out (fun b h e => HN.out.2 (e ▸ h))) (fun h => absurd h (by omega))⟩
end Go.Proofs.YtodcjcpbigggfaaDoor
