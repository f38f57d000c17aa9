/- Layer 8 (aes): a block's steps, in place, the program's. -/
import Derived.Test.YtmimpodbmfmeiaaV8Table
import Derived.RegionTactic
import Derived.BigRegion
namespace Go.Proofs.Ytmimpodbmfmeiaa
open Go.RowKit

/-- A list of n numbers, the first k of which have turned. -/
def partF (f : Nat → Nat) (s : List Nat) (n k : Nat) : List Nat := (List.range n).map fun i => if i < k then f i else s.getD i 0
theorem partF_len (f : Nat → Nat) (s : List Nat) (n k : Nat) : (partF f s n k).length = n := by simp [partF]
theorem partF_0 (f : Nat → Nat) (s : List Nat) (n : Nat) (h : s.length = n) : partF f s n 0 = s := by
  unfold partF
  simp only [Nat.not_lt_zero, if_false]
  exact list_eta s n h
theorem partF_all (f : Nat → Nat) (s : List Nat) (n : Nat) : partF f s n n = (List.range n).map f := by
  apply List.map_congr_left
  intro i hi
  rw [if_pos (by simpa using hi)]
theorem partF_get (f : Nat → Nat) (s : List Nat) (n k i : Nat) (h : i < n) (hk : k ≤ i) : (partF f s n k).getD i 0 = s.getD i 0 := by
  unfold partF
  rw [map_range_get _ _ _ h, if_neg (by omega)]
theorem partF_set (f : Nat → Nat) (s : List Nat) (n k : Nat) : (partF f s n k).set k (f k) = partF f s n (k + 1) := by
  apply List.ext_getElem (by simp [partF])
  intro i h1 h2
  have hi : i < n := by simpa [partF] using h2
  rw [List.getElem_set]
  simp only [partF, List.getElem_map, List.getElem_range]
  by_cases he : k = i
  · subst he
    rw [if_pos rfl, if_pos (by omega)]
  · rw [if_neg he]
    by_cases hk : i < k
    · rw [if_pos hk, if_pos (by omega)]
    · rw [if_neg hk, if_neg (by omega)]

/-- Sixteen bytes lie there. -/
def KeysAt (w : World) (b o : Nat) (ks : List Nat) : Prop := b < w.heap.size ∧ ∀ j, j < 16 → w.cell? ⟨b, o + j, none⟩ = some (.int .u8 ((ks.getD j 0 : Nat) : Int))
theorem KeysAt.chg {w w' : World} {S : Nat → Prop} {b o : Nat} {ks : List Nat} (h : KeysAt w b o ks) (hc : Chg S w w') (hs : ¬ S b) : KeysAt w' b o ks := ⟨Nat.lt_of_lt_of_le h.1 hc.size, fun j hj => (hc.cell _ h.1 hs).trans (h.2 j hj)⟩

set_option maxRecDepth 100000 in
set_option maxHeartbeats 1000000 in
theorem xor_any (g b o n cap : Nat) (s ks : List Nat) (w : World) (hs : s.length = 16) (hsb : ∀ x ∈ s, x < 256) (hkb : ∀ x ∈ ks, x < 256) (hr : Row w g 68 (u8s s)) (hk : KeysAt w b o ks) (hn : 4 ≤ n) (hbg : ¬ b = g) : Calls Try.prog 47 #[.pointer (some ⟨g, 0, none⟩), .slice (some ⟨b, o, none⟩) n cap] w fun e w' => e = .returned (.tuple #[]) ∧ Row w' g 68 (u8s (xorB s ks)) ∧ Chg (· = g) w w' := by
  have HS := Lib.hid hs
  have HSB := Lib.hid (fun i => getD_lt hsb i (by decide))
  have HKB := Lib.hid (fun i => getD_lt hkb i (by decide))
  have HR := Lib.hid hr
  have HK := Lib.hid hk
  clear hs hsb hkb hr hk
  go_enter Try.func47, Try.ntmps47
  go_wp2_with ((with_reducible show wpList _ _ _ (⟨some 7, _, _, _, _, _⟩ :: _) _ _); refine wpList_arrayAt rfl 89 73 4 _ rfl (some ⟨b, o, none⟩) n cap rfl Try.underlying89 hn ?_)
  go_loopw [5, 8, 10] (fun _ i _ wr => ∃ k : Nat, k ≤ 16 ∧ i = .int .i64 k ∧ Row wr g 68 (u8s (partF (fun i => s.getD i 0 ^^^ ks.getD i 0) s 16 k)) ∧ Chg (· = g) w wr) (fun _ i _ _ => 16 - (intOf i).toNat)
  case atStart => exact ⟨0, Nat.zero_le _, rfl, by rw [partF_0 _ _ _ HS.out]; exact HR.out, Chg.refl _ _⟩
  case round =>
    obtain ⟨k, hk, rfl, hrow, hch⟩ := hrel
    have HC := Lib.hid hch
    by_cases hlt : k < 16
    · have c1 := Row.u8 hrow (i := k) (by rw [partF_len]; exact hlt)
      rw [partF_get _ _ _ _ _ hlt (Nat.le_refl _)] at c1
      have hf := hrow.frozen k
      have c2 := (HK.out.chg hch hbg).2 k hlt
      have c2' : wr.cell? ⟨b, o + k / 4 * 4 + k % 4, none⟩ = some (.int .u8 ((ks.getD k 0 : Nat) : Int)) := by rw [show o + k / 4 * 4 + k % 4 = o + k from by omega]; exact c2
      have HX := Lib.hid (u8_xor_nat (s.getD k 0) (ks.getD k 0) (HSB.out k) (HKB.out k))
      have HSET := Lib.hid (hrow.set k (.int .u8 ((s.getD k 0 ^^^ ks.getD k 0 : Nat) : Int)))
      have HPS := Lib.hid (partF_set (fun i => s.getD i 0 ^^^ ks.getD i 0) s 16 k)
      generalize s.getD k 0 = x at c1 HX HSET HPS
      generalize ks.getD k 0 = y at c2' HX HSET HPS
      clear hrow hch c2
      have q0 : (0 : Int) ≤ (k : Int) := by omega
      have q1 : (k : Int) < 16 := by omega
      have q2 : (0 : Int) ≤ (k : Int) / 4 := by omega
      have q3 : (k : Int) / 4 < 4 := by omega
      have q4 : (0 : Int) ≤ (k : Int) % 4 := by omega
      have q5 : (k : Int) % 4 < 4 := by omega
      go_wp2
      go_region
      go_wp2
      go_roundw
      case rel => exact ⟨k + 1, by omega, by go_num, by rw [HX.out, ← HPS.out, ← u8s_set]; exact HSET.out, (HC.out.setCell (fun _ => rfl) _).drew⟩
      case measure => simp [intOf]; omega
    · have hk6 : k = 16 := by omega
      subst hk6
      rw [partF_all] at hrow
      have HROW := Lib.hid hrow
      clear hrow hch
      go_wp2
      refine bodyPost_end (results_none rfl _ _ _) rfl ?_
      exact ⟨rfl, HROW.out, HC.out⟩

set_option maxRecDepth 100000 in
set_option maxHeartbeats 1000000 in
theorem sub_any (g t : Nat) (s : List Nat) (w : World) (hs : s.length = 16) (hsb : ∀ x ∈ s, x < 256) (hr : Row w g 68 (u8s s)) (ht : Row w t 92 (u8s sboxL)) (htg : ¬ t = g) : Calls Try.prog 48 #[.pointer (some ⟨g, 0, none⟩), .pointer (some ⟨t, 0, none⟩)] w fun e w' => e = .returned (.tuple #[]) ∧ Row w' g 68 (u8s (subB s)) ∧ Chg (· = g) w w' := by
  have HS := Lib.hid hs
  have HSB := Lib.hid (fun i => getD_lt hsb i (by decide))
  have HR := Lib.hid hr
  have HT := Lib.hid ht
  clear hs hsb hr ht
  go_enter Try.func48, Try.ntmps48
  go_wp2
  go_loopw [4, 5, 7] (fun _ _ i wr => ∃ k : Nat, k ≤ 16 ∧ i = .int .i64 k ∧ Row wr g 68 (u8s (partF (fun i => sbox (s.getD i 0)) s 16 k)) ∧ Chg (· = g) w wr) (fun _ _ i _ => 16 - (intOf i).toNat)
  case atStart => exact ⟨0, Nat.zero_le _, rfl, by rw [partF_0 _ _ _ HS.out]; exact HR.out, Chg.refl _ _⟩
  case round =>
    obtain ⟨k, hk, rfl, hrow, hch⟩ := hrel
    have HC := Lib.hid hch
    by_cases hlt : k < 16
    · have c1 := Row.u8 hrow (i := k) (by rw [partF_len]; exact hlt)
      rw [partF_get _ _ _ _ _ hlt (Nat.le_refl _)] at c1
      have hf := hrow.frozen k
      have hx : s.getD k 0 < 256 := HSB.out k
      have c2 : wr.cell? ⟨t, s.getD k 0, none⟩ = some (.int .u8 ((sbox (s.getD k 0) : Nat) : Int)) := Row.u8 (HT.out.chg hch htg) (i := s.getD k 0) (by rw [show sboxL.length = 256 by decide +kernel]; exact hx)
      have HSET := Lib.hid (hrow.set k (.int .u8 ((sbox (s.getD k 0) : Nat) : Int)))
      have HPS := Lib.hid (partF_set (fun i => sbox (s.getD i 0)) s 16 k)
      generalize s.getD k 0 = x at c1 c2 hx HSET HPS
      generalize sbox x = y at c2 HSET HPS
      clear hrow hch
      have q0 : (0 : Int) ≤ (k : Int) := by omega
      have q1 : (k : Int) < 16 := by omega
      have q2 : (0 : Int) ≤ (x : Int) := by omega
      have q3 : (x : Int) < 256 := by omega
      go_wp2
      go_region
      go_wp2
      go_region
      go_wp2
      go_roundw
      case rel => exact ⟨k + 1, by omega, by go_num, by rw [← HPS.out, ← u8s_set]; exact HSET.out, (by first | exact (HC.out.setCell (fun _ => rfl) _).drew | exact (HC.out.drew.setCell (fun _ => rfl) _).drew)⟩
      case measure => simp [intOf]; omega
    · have hk6 : k = 16 := by omega
      subst hk6
      rw [partF_all] at hrow
      have HROW := Lib.hid hrow
      clear hrow hch
      go_wp2
      refine bodyPost_end (results_none rfl _ _ _) rfl ?_
      exact ⟨rfl, HROW.out, HC.out⟩
theorem zero47 : (Try.prog.info? 68).map (·.zero) = some (some (.agg (u8s (List.replicate 16 0)).toArray)) := by kernel_rfl
theorem size47 : (Try.prog.info? 68).map (·.size) = some 16 := by kernel_rfl
set_option maxRecDepth 100000 in
set_option maxHeartbeats 1000000 in
theorem turn_any (g : Nat) (s : List Nat) (w : World) (hs : s.length = 16) (hr : Row w g 68 (u8s s)) : Calls Try.prog 49 #[.pointer (some ⟨g, 0, none⟩)] w fun e w' => e = .returned (.tuple #[]) ∧ Row w' g 68 (u8s (shiftB s)) ∧ Chg (· = g) w w' := by
  have HS := Lib.hid hs
  have HR := Lib.hid hr
  have HG := Lib.hid hr.lt
  clear hs hr
  go_enter Try.func49, Try.ntmps49
  go_wp2_with (first | ((with_reducible show wpList _ _ _ (⟨some 7, .load 68 _, _, _, _, _⟩ :: _) _ _); refine wpList_load_Row rfl rfl rfl HR.out Try.underlying68 rfl (by rw [u8s_length, HS.out]; exact size47) ?_) | ((with_reducible show wpList _ _ _ (⟨_, .alloc 68, _, _, _, _⟩ :: _) _ _); refine wpList_alloc_Row rfl rfl (u8s (List.replicate 16 0)) zero47 ?_; intro w1 hr1 hc1 hs1; have HR1 := Lib.hid hr1; have HC1 := Lib.hid hc1; clear hr1 hc1 hs1) | ((with_reducible show wpList _ _ _ (⟨_, .store 68 _ _, _, _, _, _⟩ :: _) _ _); refine wpList_store_Row (xs := u8s s) rfl rfl rfl HR1.out rfl (by rw [u8s_length, u8s_length, HS.out, List.length_replicate]) (by rw [u8s_length, HS.out]; exact size47) (u8s_oneA _) ?_; intro w2 hr2 hc2 hs2; have HR2 := Lib.hid hr2; have HC2 := Lib.hid (hc2 none_ w HC1.out (fun h => absurd h (Nat.lt_irrefl _))); clear hr2 hc2 hs2))
  have HRG := Lib.hid (HR.out.chg HC2.out (fun h => h))
  have HGN := Lib.hid (show ¬ w.heap.size = g by have := HG.out; omega)
  go_loopw [3, 4, 8, 10] (fun _ _ i _ wr => ∃ k : Nat, k ≤ 16 ∧ i = .int .i64 k ∧ Row wr g 68 (u8s (partF (fun i => s.getD ((i + i % 4 * 4) % 16) 0) s 16 k)) ∧ Chg (· = g) w2 wr) (fun _ _ i _ _ => 16 - (intOf i).toNat)
  case atStart => exact ⟨0, Nat.zero_le _, rfl, by rw [partF_0 _ _ _ HS.out]; exact HRG.out, Chg.refl _ _⟩
  case round =>
    obtain ⟨k, hk, rfl, hrow, hch⟩ := hrel
    have HC := Lib.hid hch
    by_cases hlt : k < 16
    · obtain ⟨m, hm⟩ : ∃ m, m = (k + k % 4 * 4) % 16 := ⟨_, rfl⟩
      have hf := hrow.frozen k
      have c0 := Row.u8 hrow (i := k) (by rw [partF_len]; exact hlt)
      have c2 := Row.u8 (HR2.out.chg hch HGN.out) (i := m) (by rw [HS.out]; omega)
      have HSET := Lib.hid (hrow.set k (.int .u8 ((s.getD m 0 : Nat) : Int)))
      have HPS : Hid ((partF (fun i => s.getD ((i + i % 4 * 4) % 16) 0) s 16 k).set k (s.getD m 0) = partF (fun i => s.getD ((i + i % 4 * 4) % 16) 0) s 16 (k + 1)) := Lib.hid (by rw [hm]; exact partF_set (fun i => s.getD ((i + i % 4 * 4) % 16) 0) s 16 k)
      generalize s.getD m 0 = y at c2 HSET HPS
      generalize (partF (fun i => s.getD ((i + i % 4 * 4) % 16) 0) s 16 k).getD k 0 = x at c0
      have q6 : ((k : Int) + (k : Int) % 4 * 4) % 16 = (m : Int) := by omega
      have hm16 : m < 16 := by omega
      clear hrow hch hm
      have q0 : (0 : Int) ≤ (k : Int) := by omega
      have q1 : (k : Int) < 16 := by omega
      have q2 : (0 : Int) ≤ (m : Int) := by omega
      have q3 : (m : Int) < 16 := by omega
      go_wp2
      go_region
      go_wp2
      go_roundw
      case rel => exact ⟨k + 1, by omega, by go_num, by rw [← HPS.out, ← u8s_set]; exact HSET.out, (by first | exact (HC.out.setCell (fun _ => rfl) _).drew | exact (HC.out.drew.setCell (fun _ => rfl) _).drew)⟩
      case measure => simp [intOf]; omega
    · have hk6 : k = 16 := by omega
      subst hk6
      rw [partF_all] at hrow
      have HROW := Lib.hid hrow
      clear hrow hch
      go_wp2
      refine bodyPost_end (results_none rfl _ _ _) rfl ?_
      exact ⟨rfl, HROW.out, (HC2.out.mono (fun _ _ h => h.elim)).trans HC.out⟩
end Go.Proofs.Ytmimpodbmfmeiaa
