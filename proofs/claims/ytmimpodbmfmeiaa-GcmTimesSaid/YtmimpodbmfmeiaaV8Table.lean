/- Layer 8 (aes): all boxes at once, the program's. -/
import Derived.Test.YtmimpodbmfmeiaaV8Small
import Derived.Test.YtmimpodbmfmeiaaArr
namespace Go.Proofs.Ytmimpodbmfmeiaa
open Go.RowKit

/-- The powers of 3. -/
def pow3 : Nat → Nat
  | 0 => 1
  | k + 1 => pow3 k ^^^ dbl (pow3 k)
theorem pow3_lt : ∀ k, pow3 k < 256
  | 0 => by simp [pow3]
  | k + 1 => xor8_lt (pow3_lt k) (dbl_lt (pow3_lt k))
def p3L : List Nat := (List.range 255).map pow3
theorem p3L_len : p3L.length = 255 := by simp [p3L]
theorem p3L_get (i : Nat) (h : i < 255) : p3L.getD i 0 = pow3 i := map_range_get _ _ _ h
theorem p3L_fill : fillN pow3 255 255 = p3L := fillN_all _ _
def tbl2 : Nat → List Nat
  | 0 => 99 :: List.replicate 255 0
  | k + 1 => (tbl2 k).set (pow3 k) (affN (pow3 ((255 - k) % 255)))
theorem tbl2_len : ∀ k, (tbl2 k).length = 256
  | 0 => by show (99 :: List.replicate 255 0).length = 256; rw [List.length_cons, List.length_replicate]
  | k + 1 => by rw [tbl2, List.length_set]; exact tbl2_len k
theorem tbl2_all : tbl2 255 = sboxL := by decide +kernel
theorem zero54 : (Try.prog.info? 90).map (·.zero) = some (some (.agg (u8s (List.replicate 255 0)).toArray)) := by kernel_rfl
theorem zero55 : (Try.prog.info? 92).map (·.zero) = some (some (.agg (u8s (List.replicate 256 0)).toArray)) := by kernel_rfl
theorem size54 : (Try.prog.info? 90).map (·.size) = some 255 := by kernel_rfl
theorem size55 : (Try.prog.info? 92).map (·.size) = some 256 := by kernel_rfl
theorem size5 : (Try.prog.info? 5).map (·.size) = some 1 := by kernel_rfl
theorem isRow5 : (Try.prog.underlying 5).map (·.isRow) = some false := by kernel_rfl
theorem boxOf_zero (w : World) : Calls Try.prog 54 #[.int .u8 0] w fun e w' => e = .returned (.int .u8 99) ∧ Chg none_ w w' := boxOf_any 0 (by decide) w

set_option maxRecDepth 100000 in
set_option maxHeartbeats 1000000 in
theorem allBoxes_any (w : World) : Calls Try.prog 45 #[] w fun e w' => ∃ g, e = .returned (.pointer (some ⟨g, 0, none⟩)) ∧ w.heap.size ≤ g ∧ Row w' g 92 (u8s sboxL) ∧ Chg none_ w w' := by
  go_enter Try.func45, Try.ntmps45
  go_wp2_with ((with_reducible show wpList _ _ _ (⟨_, .alloc 90, _, _, _, _⟩ :: _) _ _); refine wpList_alloc_Row rfl rfl (u8s (List.replicate 255 0)) zero54 ?_; intro w1 hr1 hc1 hs1; have HR1 := Lib.hid hr1; have HC1 := Lib.hid hc1; clear hr1 hc1 hs1)
  have HG1 := Lib.hid HR1.out.lt
  go_loopw [2, 3, 7, 9] (fun p _ i _ wr => ∃ k : Nat, k ≤ 255 ∧ i = .int .i64 k ∧ p = .int .u8 (pow3 k : Nat) ∧ Row wr w.heap.size 90 (u8s (fillN pow3 255 k)) ∧ Chg none_ w wr) (fun _ _ i _ _ => 255 - (intOf i).toNat)
  case atStart => exact ⟨0, Nat.zero_le _, rfl, rfl, by rw [fillN_0]; exact HR1.out, HC1.out⟩
  case round =>
    obtain ⟨k, hk, rfl, rfl, hrow, hch⟩ := hrel
    have HROW := Lib.hid hrow
    have HC := Lib.hid hch
    have hp := pow3_lt k
    by_cases hlt : k < 255
    · have c1 := Row.u8 hrow (i := k) (by rw [fillN_len _ _ _ hk]; exact hlt)
      have hf := hrow.frozen k
      have HD := Lib.hid (u8_xor_nat (pow3 k) (dbl (pow3 k)) hp (dbl_lt hp))
      have HSET := Lib.hid (hrow.set k (.int .u8 (pow3 k : Nat)))
      generalize (fillN pow3 255 k).getD k 0 = x0 at c1
      clear hrow hch
      have q0 : (0 : Int) ≤ (k : Int) := by omega
      have q1 : (k : Int) < 255 := by omega
      go_wp2_with (go_at_call 53; refine (double_any (pow3 k) hp _).mono ?_; rintro e w' ⟨rfl, rfl⟩)
      go_roundw
      case rel => exact ⟨k + 1, by omega, by go_num, by rw [HD.out]; rfl, by rw [← fillN_set _ _ _ hlt, ← u8s_set]; exact HSET.out, HC.out.setCell (fun h => absurd h (Nat.lt_irrefl _)) _⟩
      case measure => simp [intOf]; omega
    · have hk5 : k = 255 := by omega
      subst hk5
      clear hk hlt hp
      generalize pow3 255 = pp
      go_wp2_with (first | (go_at_call 54; refine (boxOf_zero _).mono ?_; rintro e w2 ⟨rfl, hc2⟩; have HC2 := Lib.hid hc2; clear hc2) | ((with_reducible show wpList _ _ _ (⟨some 19, _, _, _, _, _⟩ :: _) _ _); refine wpList_val rfl (.agg (u8s (tbl2 0)).toArray) (fun w => by kernel_rfl) ?_) | ((with_reducible show wpList _ _ _ (⟨_, .alloc 92, _, _, _, _⟩ :: _) _ _); refine wpList_alloc_Row rfl rfl (u8s (List.replicate 256 0)) zero55 ?_; intro w3 hr3 hc3 hs3; have HR3 := Lib.hid hr3; have HC3 := Lib.hid hc3; clear hr3 hc3 hs3) | ((with_reducible show wpList _ _ _ (⟨_, .store 92 _ _, _, _, _, _⟩ :: _) _ _); refine wpList_store_Row (xs := u8s (tbl2 0)) rfl rfl rfl HR3.out rfl (by rw [u8s_length, u8s_length, tbl2_len]; rfl) (by rw [u8s_length, tbl2_len]; exact size55) (u8s_oneA _) ?_; intro w4 hr4 hc4 hs4; have HR4 := Lib.hid hr4; have HC4 := Lib.hid (hc4 none_ w2 HC3.out (fun h => absurd h (Nat.lt_irrefl _))); have HP := Lib.hid ((HROW.out.chg HC2.out (fun h => h)).chg HC4.out (fun h => h)); clear hr4 hc4 hs4) | ((with_reducible show wpList _ _ _ (⟨some 20, .load 90 _, _, _, _, _⟩ :: _) _ _); refine wpList_load_Row rfl rfl rfl HP.out Try.underlying90 rfl (by rw [u8s_length, fillN_len _ _ _ (Nat.le_refl _)]; exact size54) ?_))
      have HCW := Lib.hid ((HC.out.trans HC2.out).trans HC4.out)
      have HG2 := Lib.hid (show w.heap.size < w2.heap.size from Nat.lt_of_lt_of_le (HROW.out.lt) HC2.out.size)
      rw [p3L_fill]
      rw [p3L_fill] at HP
      clear HR3 HC3 HC4 HC2 HROW HC HR1 HC1
      go_loopw [5, 6, 21, 23, 24] (fun _ _ i _ _ wr => ∃ k : Nat, k ≤ 255 ∧ i = .int .i64 k ∧ Row wr w2.heap.size 92 (u8s (tbl2 k)) ∧ Chg (· = w2.heap.size) w4 wr) (fun _ _ i _ _ _ => 255 - (intOf i).toNat)
      case atStart => exact ⟨0, Nat.zero_le _, rfl, HR4.out, Chg.refl _ _⟩
      case round =>
        obtain ⟨k, hk, rfl, hrow, hch⟩ := hrel
        have HROW := Lib.hid hrow
        have HC := Lib.hid hch
        clear hch
        by_cases hlt : k < 255
        · obtain ⟨m, hm⟩ : ∃ m, m = (255 - k) % 255 := ⟨_, rfl⟩
          have hm255 : m < 255 := by omega
          have c1 := Row.u8 (HP.out.chg HC.out (by have := HG2.out; omega)) (i := m) (by rw [p3L_len]; exact hm255)
          rw [p3L_get _ hm255] at c1
          have hp := pow3_lt k
          have HST : Hid (∀ w5, Chg none_ wr w5 → (∃ x0 : Nat, w5.cell? ⟨w2.heap.size, pow3 k, none⟩ = some (.int .u8 (x0 : Int))) ∧ w5.frozen? ⟨w2.heap.size, pow3 k, none⟩ = false ∧ Row (w5.setCell ⟨w2.heap.size, pow3 k, none⟩ (.int .u8 (affN (pow3 m) : Nat))) w2.heap.size 92 (u8s ((tbl2 k).set (pow3 k) (affN (pow3 m))))) := Lib.hid (fun w5 hc => ⟨⟨_, Row.u8 (hrow.chg hc (fun h => h)) (i := pow3 k) (by rw [tbl2_len]; exact hp)⟩, (hrow.chg hc (fun h => h)).frozen _, by rw [← u8s_set]; exact (hrow.chg hc (fun h => h)).set _ _⟩)
          have HT : Hid (tbl2 (k + 1) = (tbl2 k).set (pow3 k) (affN (pow3 m))) := Lib.hid (by rw [hm, tbl2])
          have HPM := Lib.hid (pow3_lt m)
          have HIX : Hid (p3L.getD k 0 = pow3 k) := Lib.hid (p3L_get _ hlt)
          have q1 : Int.tmod (255 - (k : Int)) 255 = (m : Int) := by rw [Int.tmod_eq_emod_of_nonneg (by omega)]; omega
          have q2 : (255 - (k : Int)) % 255 = (m : Int) := by omega
          have q3 : (0 : Int) ≤ (m : Int) := by omega
          have q4 : (m : Int) < 255 := by omega
          have HGN := Lib.hid (show ¬ w.heap.size = w2.heap.size by have := HG2.out; omega)
          clear hrow hm
          go_wp2_with (first | ((with_reducible show wpList _ _ _ (⟨some 24, _, _, _, _, _⟩ :: _) _ _); refine wpList_index rfl 90 5 _ _ rfl 255 p3L k rfl rfl Try.underlying90 size5 isRow5 p3L_len hlt ?_; rw [HIX.out]) | (go_at_call 54; refine (boxOf_any (pow3 m) HPM.out _).mono ?_; rintro e w5 ⟨rfl, hc5⟩; have HC5 := Lib.hid hc5; obtain ⟨⟨x0, c2⟩, hf, hset⟩ := HST.out w5 hc5; have HSET := Lib.hid hset; clear hset hc5))
          go_roundw
          case rel => exact ⟨k + 1, by omega, by go_num, by rw [HT.out]; exact HSET.out, (HC.out.trans (HC5.out.mono (fun _ _ h => h.elim))).setCell (fun _ => rfl) _⟩
          case measure => simp [intOf]; omega
        · have hk5 : k = 255 := by omega
          subst hk5
          have HT := Lib.hid tbl2_all
          clear hk hlt
          go_wp2
          go_ret
          exact ⟨_, rfl, by have := HG2.out; omega, by rw [← tbl2_all]; exact HROW.out, HCW.out.andThen HC.out (fun b h e => by have := HG2.out; omega)⟩
end Go.Proofs.Ytmimpodbmfmeiaa
