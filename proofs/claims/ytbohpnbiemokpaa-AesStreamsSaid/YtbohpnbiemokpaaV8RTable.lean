/- Layer 8 (aes): all boxes, the document's. -/
import Derived.Test.YtbohpnbiemokpaaV8RSmall
import Derived.Test.YtbohpnbiemokpaaV8Stream
namespace Go.Proofs.Ytbohpnbiemokpaa
open Go.RowKit

def p3d : Nat → Nat
  | 0 => 1
  | k + 1 => mulN (p3d k) 3
def q6d : Nat → Nat
  | 0 => 1
  | k + 1 => mulN (q6d k) 246
theorem p3d_lt : ∀ k, p3d k < 256
  | 0 => by simp [p3d]
  | k + 1 => mulN_lt _ (p3d_lt k)
theorem q6d_lt : ∀ k, q6d k < 256
  | 0 => by simp [q6d]
  | k + 1 => mulN_lt _ (q6d_lt k)
def invT : Nat → List Nat
  | 0 => List.replicate 256 0
  | k + 1 => (invT k).set (p3d (k + 1)) (q6d (k + 1))
theorem invT_len : ∀ k, (invT k).length = 256
  | 0 => by rw [invT, List.length_replicate]
  | k + 1 => by rw [invT, List.length_set]; exact invT_len k
theorem invT_lt : ∀ k, ∀ x ∈ invT k, x < 256
  | 0 => by intro x hx; rw [invT] at hx; rw [(List.mem_replicate.1 hx).2]; decide
  | k + 1 => mem_set_lt (invT_lt k) _ _ (q6d_lt _)
theorem tblD_all : (List.range 256).map (fun i => affN ((invT 255).getD i 0)) = sboxL := by decide +kernel
theorem zero31 : (Try.prog.info? 31).map (·.zero) = some (some (.agg (u8s (List.replicate 256 0)).toArray)) := by kernel_rfl
theorem size31 : (Try.prog.info? 31).map (·.size) = some 256 := by kernel_rfl
theorem sboxL_len : sboxL.length = 256 := by decide +kernel

set_option maxRecDepth 100000 in
set_option maxHeartbeats 1500000 in
theorem rtable_any (w : World) : Calls Try.prog 17 #[] w fun e w' => e = .returned (.agg (u8s sboxL).toArray) ∧ Chg none_ w w' := by
  go_enter Try.func17, Try.ntmps17
  go_wp2_with (first | ((with_reducible show wpList _ _ _ (⟨some 0, .alloc 31, _, _, _, _⟩ :: _) _ _); refine wpList_alloc_Row rfl rfl (u8s (List.replicate 256 0)) zero31 ?_; intro w1 hr1 hc1 hs1; have HR1 := Lib.hid hr1; have HC1 := Lib.hid hc1; clear hr1 hc1 hs1) | ((with_reducible show wpList _ _ _ (⟨some 1, .alloc 31, _, _, _, _⟩ :: _) _ _); refine wpList_alloc_Row rfl rfl (u8s (List.replicate 256 0)) zero31 ?_; intro w2 hr2 hc2 hs2; have HR2 := Lib.hid hr2; have HC2 := Lib.hid (HC1.out.trans hc2); have HR1b := Lib.hid (HR1.out.chg hc2 (fun h => h)); clear hr2 hc2 hs2) | ((with_reducible show wpList _ _ _ (⟨some 2, .alloc 31, _, _, _, _⟩ :: _) _ _); refine wpList_alloc_Row rfl rfl (u8s (List.replicate 256 0)) zero31 ?_; intro w3 hr3 hc3 hs3; have HR3 := Lib.hid hr3; have HC3 := Lib.hid (HC2.out.trans hc3); have HR1c := Lib.hid (HR1b.out.chg hc3 (fun h => h)); have HR2c := Lib.hid (HR2.out.chg hc3 (fun h => h)); clear hr3 hc3 hs3))
  have HG1 := Lib.hid (show w.heap.size < w1.heap.size from HR1.out.lt)
  have HG2 := Lib.hid (show w1.heap.size < w2.heap.size from HR2.out.lt)
  have HG3 := Lib.hid (show w2.heap.size < w3.heap.size from HR3.out.lt)
  clear HR1 HR1b HR2 HC1 HC2
  go_loopw [3, 4, 5] (fun p q i wr => ∃ k : Nat, k ≤ 255 ∧ i = .int .i64 k ∧ p = .int .u8 (p3d k : Nat) ∧ q = .int .u8 (q6d k : Nat) ∧ Row wr w2.heap.size 31 (u8s (invT k)) ∧ Chg (· = w2.heap.size) w3 wr) (fun _ _ i _ => 255 - (intOf i).toNat)
  case atStart => exact ⟨0, Nat.zero_le _, rfl, rfl, rfl, HR3.out, Chg.refl _ _⟩
  case round =>
    obtain ⟨k, hk, rfl, rfl, rfl, hrow, hch⟩ := hrel
    have HROW := Lib.hid hrow
    have HC := Lib.hid hch
    by_cases hlt : k < 255
    · have HP := Lib.hid (p3d_lt k)
      have HQ := Lib.hid (q6d_lt k)
      have hp := p3d_lt (k + 1)
      have HI : Hid (invT (k + 1) = (invT k).set (p3d (k + 1)) (q6d (k + 1))) := Lib.hid (by rw [invT])
      have c1 := Row.u8 hrow (i := p3d (k + 1)) (by rw [invT_len]; exact hp)
      have hf := hrow.frozen (p3d (k + 1))
      have HSET := Lib.hid (hrow.set (p3d (k + 1)) (.int .u8 ((q6d (k + 1) : Nat) : Int)))
      have HCP : Hid (∀ w, Calls Try.prog 12 #[.int .u8 (p3d k : Nat), .int .u8 3] w fun e w' => e = .returned (.int .u8 (p3d (k + 1) : Nat)) ∧ w = w') := Lib.hid (fun w => rtimes_any (p3d k) 3 HP.out (by decide) w)
      have HCQ : Hid (∀ w, Calls Try.prog 12 #[.int .u8 (q6d k : Nat), .int .u8 246] w fun e w' => e = .returned (.int .u8 (q6d (k + 1) : Nat)) ∧ w = w') := Lib.hid (fun w => rtimes_any (q6d k) 246 HQ.out (by decide) w)
      generalize (invT k).getD (p3d (k + 1)) 0 = x0 at c1
      generalize hpe : p3d (k + 1) = p' at hp HI c1 hf HSET HCP ⊢
      generalize hqe : q6d (k + 1) = q' at HI HSET HCQ ⊢
      have HPE := Lib.hid hpe
      have HQE := Lib.hid hqe
      clear hrow hch hpe hqe
      have q0 : (0 : Int) ≤ (p' : Int) := by omega
      have q1 : (p' : Int) < 256 := by omega
      go_wp2_with (go_at_call 12; first | (with_reducible refine (HCP.out _).mono ?_; rintro e w' ⟨rfl, rfl⟩) | (with_reducible refine (HCQ.out _).mono ?_; rintro e w' ⟨rfl, rfl⟩))
      go_roundw
      case rel => exact ⟨k + 1, by omega, by go_num, by rw [HPE.out], by rw [HQE.out], by rw [HI.out, ← u8s_set]; exact HSET.out, HC.out.setCell (fun _ => rfl) _⟩
      case measure => simp [intOf]; omega
    · have hk5 : k = 255 := by omega
      subst hk5
      have HIL := Lib.hid (invT_len 255)
      have HIB := Lib.hid (fun i => getD_lt (invT_lt 255) i (by decide))
      have HALL := Lib.hid tblD_all
      have HR1d := Lib.hid (HR1c.out.chg hch (by have := HG1.out; have := HG2.out; omega))
      have HR2d := Lib.hid (HR2c.out.chg hch (by have := HG2.out; omega))
      have HCW := Lib.hid (HC3.out.andThen hch (fun b h e => by have := HG1.out; have := HG2.out; omega))
      clear hrow hch hk hlt HC HR1c HR2c HC3 HR3
      generalize invT 255 = L at HROW HIL HIB HALL
      generalize p3d 255 = pp
      generalize q6d 255 = qq
      obtain ⟨wA, hwA⟩ : ∃ x, x = wr := ⟨_, rfl⟩
      subst hwA
      try simp only [show ((255 : Nat) : Int) = 255 from rfl]
      go_wp2
      go_loopw [6, 7, 8, 9] (fun i _ _ _ w' => ∃ k : Nat, k ≤ 256 ∧ i = .int .i64 k ∧ Row w' w1.heap.size 31 (u8s (fillN (fun i => affN (L.getD i 0)) 256 k)) ∧ Chg (· = w1.heap.size) wA w') (fun i _ _ _ _ => 256 - (intOf i).toNat)
      case atStart => exact ⟨0, Nat.zero_le _, rfl, by rw [fillN_0]; exact HR2d.out, Chg.refl _ _⟩
      case round =>
        obtain ⟨k, hk, rfl, hrow, hch⟩ := hrel
        have HROWk := Lib.hid hrow
        have HCk := Lib.hid hch
        by_cases hlt : k < 256
        · have hx := HIB.out k
          have c1 := Row.u8 (HROW.out.chg hch (by have := HG2.out; omega)) (i := k) (by rw [HIL.out]; exact hlt)
          have HFS := Lib.hid (fillN_set (fun i => affN (L.getD i 0)) 256 k hlt)
          have c2 := Row.u8 hrow (i := k) (by rw [fillN_len _ _ _ hk]; exact hlt)
          have hf := hrow.frozen k
          generalize (fillN (fun i => affN (L.getD i 0)) 256 k).getD k 0 = z at c2
          generalize L.getD k 0 = x at c1 hx HFS
          have HRL := Lib.hid (fun j => rolS_lt hx j)
          have HAL := Lib.hid (fun j => affS_lt hx j)
          have HAF : Hid (affN x = affS x 4) := Lib.hid rfl
          have h99 : bits .xor .i64 (x : Int) 99 = ((affS x 0 : Nat) : Int) := i64_xor_nat x 99 (by omega) (by decide)
          clear hrow hch
          have q0 : (0 : Int) ≤ (k : Int) := by omega
          have q1 : (k : Int) < 256 := by omega
          obtain ⟨wB, hwB⟩ : ∃ x, x = wr := ⟨_, rfl⟩
          subst hwB
          go_wp2
          go_loopw [7, 8, 9] (fun a b j w' => ∃ m : Nat, m ≤ 4 ∧ j = .int .i64 m ∧ a = .int .i64 (rolS x m : Nat) ∧ b = .int .i64 (affS x m : Nat) ∧ w' = wB) (fun _ _ j _ => 4 - (intOf j).toNat)
          case atStart => exact ⟨0, by omega, rfl, rfl, rfl, rfl⟩
          case round =>
            obtain ⟨m, hm, rfl, rfl, rfl, rfl⟩ := hrel
            have h1 := HRL.out m
            have h2 := HAL.out m
            have HRS : Hid (rolS x (m + 1) = rol8 (rolS x m)) := Lib.hid rfl
            have HAS : Hid (affS x (m + 1) = affS x m ^^^ rol8 (rolS x m)) := Lib.hid rfl
            by_cases hlm : m < 4
            · generalize rolS x m = a at h1 HRS HAS ⊢
              generalize affS x m = b at h2 HAS ⊢
              have h3 := rolI a
              have h4 := i64_xor_nat b (rol8 a) (by omega) (by have := rol8_lt h1; omega)
              go_wp2
              go_roundw
              case rel => exact ⟨m + 1, by omega, by go_num, by rw [HRS.out], by rw [HAS.out], by first | rfl | trivial⟩
              case measure => simp [intOf]; omega
            · have hm4 : m = 4 := by omega
              subst hm4
              have HSET := Lib.hid (HROWk.out.set k (.int .u8 ((affS x 4 : Nat) : Int)))
              generalize rolS x 4 = a at *
              generalize affS x 4 = b at h2 HSET HAF ⊢
              have h5 : (b : Int) % 256 = (b : Int) := by omega
              try simp only [show ((4 : Nat) : Int) = 4 from rfl]
              go_wp2
              go_roundw
              case rel => exact ⟨k + 1, by omega, by go_num, by rw [← HFS.out, HAF.out, ← u8s_set]; exact HSET.out, HCk.out.setCell (fun _ => rfl) _⟩
              case measure => simp [intOf]; omega
        · have hk6 : k = 256 := by omega
          subst hk6
          have HALLf : Hid (fillN (fun i => affN (L.getD i 0)) 256 256 = sboxL) := Lib.hid (by rw [fillN_all]; exact HALL.out)
          rw [HALLf.out] at HROWk
          clear hrow hch hk hlt
          go_wp2_with (first | ((with_reducible show wpList _ _ _ (⟨some 48, .load 31 _, _, _, _, _⟩ :: _) _ _); refine wpList_load_Row rfl rfl rfl HROWk.out Try.underlying31 rfl (by rw [u8s_length, sboxL_len]; exact size31) ?_) | ((with_reducible show wpList _ _ _ (⟨_, .store 31 _ _, _, _, _, _⟩ :: _) _ _); refine wpList_store_Row (xs := u8s sboxL) rfl rfl rfl (HR1d.out.chg HCk.out (by have := HG1.out; omega)) rfl (by rw [u8s_length, u8s_length, sboxL_len, List.length_replicate]) (by rw [u8s_length, sboxL_len]; exact size31) (u8s_oneA _) ?_; intro w9 hr9 hc9 hs9; have HR9 := Lib.hid hr9; have HC9 := Lib.hid hc9; clear hr9 hc9 hs9))
          refine ret_row rfl rfl HR9.out Try.underlying31 rfl (by rw [u8s_length, sboxL_len]; exact size31) rfl ?_
          exact ⟨rfl, HC9.out none_ w (HCW.out.andThen HCk.out (fun b h e => by have := HG1.out; omega)) (fun h => by omega)⟩
end Go.Proofs.Ytbohpnbiemokpaa
