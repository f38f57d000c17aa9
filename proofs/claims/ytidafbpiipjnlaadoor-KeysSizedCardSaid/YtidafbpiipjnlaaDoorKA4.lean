/- Texts joined: V8RSmall, V8RTable, V8RKeys. -/
import Derived.Test.YtidafbpiipjnlaaDoorKA1
import Derived.Test.YtidafbpiipjnlaaDoorKM
import Derived.Test.YtidafbpiipjnlaaDoorKA2

namespace Go.Proofs.YtidafbpiipjnlaaDoor
open Go.RowKit

theorem i64_xor_nat (a b : Nat) (ha : a < 9223372036854775808) (hb : b < 9223372036854775808) : bits .xor .i64 (a : Int) (b : Int) = ((a ^^^ b : Nat) : Int) := by
  have hx : a ^^^ b < 2 ^ 63 := Nat.xor_lt_two_pow (by omega) (by omega)
  show IntKind.i64.wrap ((BitVec.ofInt 64 (a : Int) ^^^ BitVec.ofInt 64 (b : Int)).toNat : Int) = _
  rw [BitVec.toNat_xor, ofInt_u64 a (by omega), ofInt_u64 b (by omega)]
  exact IntWalk.i64_in _ (by omega)
theorem dbl_over {x : Nat} (hx : x < 256) (h : 255 < x * 2) : (x * 2) ^^^ 283 = dbl x := by
  have hh : ((List.range 256).all fun x => decide (255 < x * 2 → (x * 2) ^^^ 283 = dbl x)) = true := by decide +kernel
  have := List.all_eq_true.1 hh x (by simpa using hx)
  exact of_decide_eq_true this h
theorem dbl_under {x : Nat} (h : ¬ 255 < x * 2) : x * 2 = dbl x := by
  unfold dbl
  rw [show x / 128 = 0 from by omega, Nat.zero_mul, Nat.xor_zero]
  omega

set_option maxRecDepth 100000 in
theorem rtimes_any (a b : Nat) (ha : a < 256) (hb : b < 256) (w : World) : Calls Tryd.prog 86 #[.int .u8 a, .int .u8 b] w fun e w' => e = .returned (.int .u8 (mulN a b : Nat)) ∧ w = w' := by
  go_enter Tryd.func86, Tryd.ntmps86
  go_wp2
  go_loopw [5, 6, 7] (fun x y p wr => ∃ k a' b' p' : Nat, k ≤ 8 ∧ x = .int .i64 a' ∧ y = .int .i64 b' ∧ p = .int .i64 p' ∧ a' < 256 ∧ b' < 2 ^ k ∧ b' < 256 ∧ p' < 256 ∧ Hid (mulS k a' b' p' = mulN a b) ∧ wr = w) (fun _ y _ _ => (intOf y).toNat)
  case atStart => exact ⟨8, a, b, 0, Nat.le_refl _, rfl, rfl, rfl, ha, hb, hb, by decide, Lib.hid rfl, rfl⟩
  case round =>
    obtain ⟨k, a', b', p', hk, rfl, rfl, rfl, ha', hbk, hb', hp', HM, rfl⟩ := hrel
    have HP := Lib.hid hp'
    by_cases hpos : 0 < b'
    · obtain ⟨k, rfl⟩ : ∃ j, k = j + 1 := ⟨k - 1, by have : k ≠ 0 := (by rintro rfl; simp at hbk; omega); omega⟩
      have HN : Hid (mulS k (dbl a') (b' / 2) (if b' % 2 = 1 then p' ^^^ a' else p') = mulN a b) := Lib.hid (by rw [← HM.out, mulS])
      have HB : Hid (b' / 2 < 2 ^ k) := Lib.hid (by rw [Nat.pow_succ] at hbk; omega)
      clear hbk
      have HD := Lib.hid (dbl_lt ha')
      have HXL := Lib.hid (xor8_lt hp' ha')
      have h1 := i64_xor_nat p' a' (by omega) (by omega)
      rcases (by omega : b' % 2 = 1 ∨ b' % 2 = 0) with hm | hm
      · rw [if_pos hm] at HN
        have hmi : (b' : Int) % 2 = 1 := by omega
        by_cases ho : 255 < a' * 2
        · have h2 : bits .xor .i64 ((a' : Int) * 2) 283 = ((dbl a' : Nat) : Int) := by rw [← dbl_over ha' ho, ← i64_xor_nat (a' * 2) 283 (by omega) (by decide)]; rfl
          go_wp2
          go_roundw
          case rel => exact ⟨k, dbl a', b' / 2, p' ^^^ a', by omega, rfl, rfl, rfl, HD.out, HB.out, by omega, HXL.out, HN, by first | rfl | trivial⟩
          case measure => simp [intOf]; omega
        · have h2 := dbl_under ho
          go_wp2
          go_roundw
          case rel => exact ⟨k, dbl a', b' / 2, p' ^^^ a', by omega, by rw [← h2]; rfl, rfl, rfl, HD.out, HB.out, by omega, HXL.out, HN, by first | rfl | trivial⟩
          case measure => simp [intOf]; omega
      · rw [if_neg (by omega)] at HN
        have hmi : (b' : Int) % 2 = 0 := by omega
        by_cases ho : 255 < a' * 2
        · have h2 : bits .xor .i64 ((a' : Int) * 2) 283 = ((dbl a' : Nat) : Int) := by rw [← dbl_over ha' ho, ← i64_xor_nat (a' * 2) 283 (by omega) (by decide)]; rfl
          go_wp2
          go_roundw
          case rel => exact ⟨k, dbl a', b' / 2, p', by omega, rfl, rfl, rfl, HD.out, HB.out, by omega, HP.out, HN, by first | rfl | trivial⟩
          case measure => simp [intOf]; omega
        · have h2 := dbl_under ho
          go_wp2
          go_roundw
          case rel => exact ⟨k, dbl a', b' / 2, p', by omega, by rw [← h2]; rfl, rfl, rfl, HD.out, HB.out, by omega, HP.out, HN, by first | rfl | trivial⟩
          case measure => simp [intOf]; omega
    · have hb0 : b' = 0 := by omega
      subst hb0
      have HE : Hid (p' = mulN a b) := Lib.hid (by rw [← HM.out, mulS_zero])
      have hpi : (p' : Int) % 256 = p' := by omega
      go_wp2
      go_ret
      exact ⟨ret_u8 (by rw [HE.out]), by first | rfl | trivial⟩

theorem rolI (x : Nat) : (x : Int) * 2 % 256 + (x : Int) / 128 = ((rol8 x : Nat) : Int) := by unfold rol8; omega
end Go.Proofs.YtidafbpiipjnlaaDoor

namespace Go.Proofs.YtidafbpiipjnlaaDoor
open Go.RowKit

def p3d : Nat → Nat
  | 0 => 1
  | k + 1 => mulN (p3d k) 3
def q6d : Nat → Nat
  | 0 => 1
  | k + 1 => mulN (q6d k) 246
theorem p3d_lt : ∀ k, p3d k < 256
  | 0 => by simp [p3d]
  | k + 1 => mulN_lt _ (p3d_lt k)
theorem q6d_lt : ∀ k, q6d k < 256
  | 0 => by simp [q6d]
  | k + 1 => mulN_lt _ (q6d_lt k)
def invT : Nat → List Nat
  | 0 => List.replicate 256 0
  | k + 1 => (invT k).set (p3d (k + 1)) (q6d (k + 1))
theorem invT_len : ∀ k, (invT k).length = 256
  | 0 => by rw [invT, List.length_replicate]
  | k + 1 => by rw [invT, List.length_set]; exact invT_len k
theorem invT_lt : ∀ k, ∀ x ∈ invT k, x < 256
  | 0 => by intro x hx; rw [invT] at hx; rw [(List.mem_replicate.1 hx).2]; decide
  | k + 1 => mem_set_lt (invT_lt k) _ _ (q6d_lt _)
theorem tblD_all : (List.range 256).map (fun i => affN ((invT 255).getD i 0)) = sboxL := by decide +kernel
theorem zero31 : (Tryd.prog.info? 105).map (·.zero) = some (some (.agg (u8s (List.replicate 256 0)).toArray)) := by kernel_rfl
theorem size31 : (Tryd.prog.info? 105).map (·.size) = some 256 := by kernel_rfl
theorem sboxL_len : sboxL.length = 256 := by decide +kernel

set_option maxRecDepth 100000 in
set_option maxHeartbeats 1500000 in
theorem rtable_any (w : World) : Calls Tryd.prog 67 #[] w fun e w' => e = .returned (.agg (u8s sboxL).toArray) ∧ Chg none_ w w' := by
  go_enter Tryd.func67, Tryd.ntmps67
  go_wp2_with (first | ((with_reducible show wpList _ _ _ (⟨some 0, .alloc 105, _, _, _, _⟩ :: _) _ _); refine wpList_alloc_Row rfl rfl (u8s (List.replicate 256 0)) zero31 ?_; intro w1 hr1 hc1 hs1; have HR1 := Lib.hid hr1; have HC1 := Lib.hid hc1; clear hr1 hc1 hs1) | ((with_reducible show wpList _ _ _ (⟨some 1, .alloc 105, _, _, _, _⟩ :: _) _ _); refine wpList_alloc_Row rfl rfl (u8s (List.replicate 256 0)) zero31 ?_; intro w2 hr2 hc2 hs2; have HR2 := Lib.hid hr2; have HC2 := Lib.hid (HC1.out.trans hc2); have HR1b := Lib.hid (HR1.out.chg hc2 (fun h => h)); clear hr2 hc2 hs2) | ((with_reducible show wpList _ _ _ (⟨some 2, .alloc 105, _, _, _, _⟩ :: _) _ _); refine wpList_alloc_Row rfl rfl (u8s (List.replicate 256 0)) zero31 ?_; intro w3 hr3 hc3 hs3; have HR3 := Lib.hid hr3; have HC3 := Lib.hid (HC2.out.trans hc3); have HR1c := Lib.hid (HR1b.out.chg hc3 (fun h => h)); have HR2c := Lib.hid (HR2.out.chg hc3 (fun h => h)); clear hr3 hc3 hs3))
  have HG1 := Lib.hid (show w.heap.size < w1.heap.size from HR1.out.lt)
  have HG2 := Lib.hid (show w1.heap.size < w2.heap.size from HR2.out.lt)
  have HG3 := Lib.hid (show w2.heap.size < w3.heap.size from HR3.out.lt)
  clear HR1 HR1b HR2 HC1 HC2
  go_loopw [3, 4, 5] (fun p q i wr => ∃ k : Nat, k ≤ 255 ∧ i = .int .i64 k ∧ p = .int .u8 (p3d k : Nat) ∧ q = .int .u8 (q6d k : Nat) ∧ Row wr w2.heap.size 105 (u8s (invT k)) ∧ Chg (· = w2.heap.size) w3 wr) (fun _ _ i _ => 255 - (intOf i).toNat)
  case atStart => exact ⟨0, Nat.zero_le _, rfl, rfl, rfl, HR3.out, Chg.refl _ _⟩
  case round =>
    obtain ⟨k, hk, rfl, rfl, rfl, hrow, hch⟩ := hrel
    have HROW := Lib.hid hrow
    have HC := Lib.hid hch
    by_cases hlt : k < 255
    · have HP := Lib.hid (p3d_lt k)
      have HQ := Lib.hid (q6d_lt k)
      have hp := p3d_lt (k + 1)
      have HI : Hid (invT (k + 1) = (invT k).set (p3d (k + 1)) (q6d (k + 1))) := Lib.hid (by rw [invT])
      have c1 := Row.u8 hrow (i := p3d (k + 1)) (by rw [invT_len]; exact hp)
      have hf := hrow.frozen (p3d (k + 1))
      have HSET := Lib.hid (hrow.set (p3d (k + 1)) (.int .u8 ((q6d (k + 1) : Nat) : Int)))
      have HCP : Hid (∀ w, Calls Tryd.prog 86 #[.int .u8 (p3d k : Nat), .int .u8 3] w fun e w' => e = .returned (.int .u8 (p3d (k + 1) : Nat)) ∧ w = w') := Lib.hid (fun w => rtimes_any (p3d k) 3 HP.out (by decide) w)
      have HCQ : Hid (∀ w, Calls Tryd.prog 86 #[.int .u8 (q6d k : Nat), .int .u8 246] w fun e w' => e = .returned (.int .u8 (q6d (k + 1) : Nat)) ∧ w = w') := Lib.hid (fun w => rtimes_any (q6d k) 246 HQ.out (by decide) w)
      generalize (invT k).getD (p3d (k + 1)) 0 = x0 at c1
      generalize hpe : p3d (k + 1) = p' at hp HI c1 hf HSET HCP ⊢
      generalize hqe : q6d (k + 1) = q' at HI HSET HCQ ⊢
      have HPE := Lib.hid hpe
      have HQE := Lib.hid hqe
      clear hrow hch hpe hqe
      have q0 : (0 : Int) ≤ (p' : Int) := by omega
      have q1 : (p' : Int) < 256 := by omega
      go_wp2_with (go_at_call 86; first | (with_reducible refine (HCP.out _).mono ?_; rintro e w' ⟨rfl, rfl⟩) | (with_reducible refine (HCQ.out _).mono ?_; rintro e w' ⟨rfl, rfl⟩))
      go_roundw
      case rel => exact ⟨k + 1, by omega, by go_num, by rw [HPE.out], by rw [HQE.out], by rw [HI.out, ← u8s_set]; exact HSET.out, HC.out.setCell (fun _ => rfl) _⟩
      case measure => simp [intOf]; omega
    · have hk5 : k = 255 := by omega
      subst hk5
      have HIL := Lib.hid (invT_len 255)
      have HIB := Lib.hid (fun i => getD_lt (invT_lt 255) i (by decide))
      have HALL := Lib.hid tblD_all
      have HR1d := Lib.hid (HR1c.out.chg hch (by have := HG1.out; have := HG2.out; omega))
      have HR2d := Lib.hid (HR2c.out.chg hch (by have := HG2.out; omega))
      have HCW := Lib.hid (HC3.out.andThen hch (fun b h e => by have := HG1.out; have := HG2.out; omega))
      clear hrow hch hk hlt HC HR1c HR2c HC3 HR3
      generalize invT 255 = L at HROW HIL HIB HALL
      generalize p3d 255 = pp
      generalize q6d 255 = qq
      obtain ⟨wA, hwA⟩ : ∃ x, x = wr := ⟨_, rfl⟩
      subst hwA
      try simp only [show ((255 : Nat) : Int) = 255 from rfl]
      go_wp2
      go_loopw [6, 7, 8, 9] (fun i _ _ _ w' => ∃ k : Nat, k ≤ 256 ∧ i = .int .i64 k ∧ Row w' w1.heap.size 105 (u8s (fillN (fun i => affN (L.getD i 0)) 256 k)) ∧ Chg (· = w1.heap.size) wA w') (fun i _ _ _ _ => 256 - (intOf i).toNat)
      case atStart => exact ⟨0, Nat.zero_le _, rfl, by rw [fillN_0]; exact HR2d.out, Chg.refl _ _⟩
      case round =>
        obtain ⟨k, hk, rfl, hrow, hch⟩ := hrel
        have HROWk := Lib.hid hrow
        have HCk := Lib.hid hch
        by_cases hlt : k < 256
        · have hx := HIB.out k
          have c1 := Row.u8 (HROW.out.chg hch (by have := HG2.out; omega)) (i := k) (by rw [HIL.out]; exact hlt)
          have HFS := Lib.hid (fillN_set (fun i => affN (L.getD i 0)) 256 k hlt)
          have c2 := Row.u8 hrow (i := k) (by rw [fillN_len _ _ _ hk]; exact hlt)
          have hf := hrow.frozen k
          generalize (fillN (fun i => affN (L.getD i 0)) 256 k).getD k 0 = z at c2
          generalize L.getD k 0 = x at c1 hx HFS
          have HRL := Lib.hid (fun j => rolS_lt hx j)
          have HAL := Lib.hid (fun j => affS_lt hx j)
          have HAF : Hid (affN x = affS x 4) := Lib.hid rfl
          have h99 : bits .xor .i64 (x : Int) 99 = ((affS x 0 : Nat) : Int) := i64_xor_nat x 99 (by omega) (by decide)
          clear hrow hch
          have q0 : (0 : Int) ≤ (k : Int) := by omega
          have q1 : (k : Int) < 256 := by omega
          obtain ⟨wB, hwB⟩ : ∃ x, x = wr := ⟨_, rfl⟩
          subst hwB
          go_wp2
          go_loopw [7, 8, 9] (fun a b j w' => ∃ m : Nat, m ≤ 4 ∧ j = .int .i64 m ∧ a = .int .i64 (rolS x m : Nat) ∧ b = .int .i64 (affS x m : Nat) ∧ w' = wB) (fun _ _ j _ => 4 - (intOf j).toNat)
          case atStart => exact ⟨0, by omega, rfl, rfl, rfl, rfl⟩
          case round =>
            obtain ⟨m, hm, rfl, rfl, rfl, rfl⟩ := hrel
            have h1 := HRL.out m
            have h2 := HAL.out m
            have HRS : Hid (rolS x (m + 1) = rol8 (rolS x m)) := Lib.hid rfl
            have HAS : Hid (affS x (m + 1) = affS x m ^^^ rol8 (rolS x m)) := Lib.hid rfl
            by_cases hlm : m < 4
            · generalize rolS x m = a at h1 HRS HAS ⊢
              generalize affS x m = b at h2 HAS ⊢
              have h3 := rolI a
              have h4 := i64_xor_nat b (rol8 a) (by omega) (by have := rol8_lt h1; omega)
              go_wp2
              go_roundw
              case rel => exact ⟨m + 1, by omega, by go_num, by rw [HRS.out], by rw [HAS.out], by first | rfl | trivial⟩
              case measure => simp [intOf]; omega
            · have hm4 : m = 4 := by omega
              subst hm4
              have HSET := Lib.hid (HROWk.out.set k (.int .u8 ((affS x 4 : Nat) : Int)))
              generalize rolS x 4 = a at *
              generalize affS x 4 = b at h2 HSET HAF ⊢
              have h5 : (b : Int) % 256 = (b : Int) := by omega
              try simp only [show ((4 : Nat) : Int) = 4 from rfl]
              go_wp2
              go_roundw
              case rel => exact ⟨k + 1, by omega, by go_num, by rw [← HFS.out, HAF.out, ← u8s_set]; exact HSET.out, HCk.out.setCell (fun _ => rfl) _⟩
              case measure => simp [intOf]; omega
        · have hk6 : k = 256 := by omega
          subst hk6
          have HALLf : Hid (fillN (fun i => affN (L.getD i 0)) 256 256 = sboxL) := Lib.hid (by rw [fillN_all]; exact HALL.out)
          rw [HALLf.out] at HROWk
          clear hrow hch hk hlt
          go_wp2_with (first | ((with_reducible show wpList _ _ _ (⟨some 48, .load 105 _, _, _, _, _⟩ :: _) _ _); refine wpList_load_Row rfl rfl rfl HROWk.out Tryd.underlying105 rfl (by rw [u8s_length, sboxL_len]; exact size31) ?_) | ((with_reducible show wpList _ _ _ (⟨_, .store 105 _ _, _, _, _, _⟩ :: _) _ _); refine wpList_store_Row (xs := u8s sboxL) rfl rfl rfl (HR1d.out.chg HCk.out (by have := HG1.out; omega)) rfl (by rw [u8s_length, u8s_length, sboxL_len, List.length_replicate]) (by rw [u8s_length, sboxL_len]; exact size31) (u8s_oneA _) ?_; intro w9 hr9 hc9 hs9; have HR9 := Lib.hid hr9; have HC9 := Lib.hid hc9; clear hr9 hc9 hs9))
          refine ret_row rfl rfl HR9.out Tryd.underlying105 rfl (by rw [u8s_length, sboxL_len]; exact size31) rfl ?_
          exact ⟨rfl, HC9.out none_ w (HCW.out.andThen HCk.out (fun b h e => by have := HG1.out; omega)) (fun h => by omega)⟩
end Go.Proofs.YtidafbpiipjnlaaDoor

namespace Go.Proofs.YtidafbpiipjnlaaDoor
open Go.RowKit

theorem keyAt_rc (key l : List Nat) (i k : Nat) (hi : 4 ≤ i) (hk : k < 4) : keyAt key l (i * 4 + k) = l.getD ((i - 4) * 4 + k) 0 ^^^ (if i % 4 = 0 then (if k = 0 then sbox (l.getD ((i - 1) * 4 + (k + 1) % 4) 0) ^^^ rcon ((i - 1) / 4) else sbox (l.getD ((i - 1) * 4 + (k + 1) % 4) 0)) else l.getD ((i - 1) * 4 + k) 0) := by
  unfold keyAt
  rw [if_neg (by omega), show (i * 4 + k) / 4 % 4 = i % 4 from by omega, show i * 4 + k - 16 = (i - 4) * 4 + k from by omega, show (i * 4 + k) % 4 = k from by omega, show i * 4 + k - 4 = (i - 1) * 4 + k from by omega]
  congr 1
  by_cases h : i % 4 = 0
  · rw [if_pos h, if_pos h]
    rcases (by omega : k = 0 ∨ k = 1 ∨ k = 2 ∨ k = 3) with rfl | rfl | rfl | rfl
    · rw [if_pos rfl, if_pos rfl, show i * 4 + 0 - 3 = (i - 1) * 4 + (0 + 1) % 4 from by omega, show (i * 4 + 0) / 16 - 1 = (i - 1) / 4 from by omega]
    · rw [if_neg (by decide), if_neg (by decide), if_neg (by decide), show i * 4 + 1 - 3 = (i - 1) * 4 + (1 + 1) % 4 from by omega]
    · rw [if_neg (by decide), if_neg (by decide), if_neg (by decide), show i * 4 + 2 - 3 = (i - 1) * 4 + (2 + 1) % 4 from by omega]
    · rw [if_neg (by decide), if_pos rfl, if_neg (by decide), show i * 4 + 3 - 7 = (i - 1) * 4 + (3 + 1) % 4 from by omega]
  · rw [if_neg h, if_neg h]

set_option maxRecDepth 100000 in
set_option maxHeartbeats 3000000 in
theorem rkeys_any (key : List Nat) (w : World) (hk : key.length = 16) (hkb : ∀ x ∈ key, x < 256) : Calls Tryd.prog 68 #[.agg (u8s key).toArray, .agg (u8s sboxL).toArray] w fun e w' => e = .returned (.agg (u8s (keysN key 176)).toArray) ∧ Chg none_ w w' := by
  have HK := Lib.hid hk
  have HKB := Lib.hid hkb
  clear hk hkb
  go_enter Tryd.func68, Tryd.ntmps68
  go_wp2_with (first | ((with_reducible show wpList _ _ _ (⟨some 2, .box 26 _, _, _, _, _⟩ :: _) _ _); refine wpList_box_Row rfl rfl (u8s key) rfl ?_; intro w1 hr1 hc1 hs1; have HR1 := Lib.hid hr1; have HC1 := Lib.hid hc1; clear hr1 hc1 hs1) | ((with_reducible show wpList _ _ _ (⟨some 3, .box 105 _, _, _, _, _⟩ :: _) _ _); refine wpList_box_Row rfl rfl (u8s sboxL) rfl ?_; intro w2 hr2 hc2 hs2; have HR2 := Lib.hid hr2; have HC2 := Lib.hid (HC1.out.trans hc2); have HR1b := Lib.hid (HR1.out.chg hc2 (fun h => h)); clear hr2 hc2 hs2) | ((with_reducible show wpList _ _ _ (⟨some 4, .alloc 108, _, _, _, _⟩ :: _) _ _); refine wpList_alloc_Row rfl rfl (u8s (List.replicate 176 0)) zero28 ?_; intro w3 hr3 hc3 hs3; have HR3 := Lib.hid hr3; have HC3 := Lib.hid (HC2.out.trans hc3); have HR1c := Lib.hid (HR1b.out.chg hc3 (fun h => h)); have HR2c := Lib.hid (HR2.out.chg hc3 (fun h => h)); clear hr3 hc3 hs3) | ((with_reducible show wpList _ _ _ (⟨some 5, .alloc 108, _, _, _, _⟩ :: _) _ _); refine wpList_alloc_Row rfl rfl (u8s (List.replicate 176 0)) zero28 ?_; intro w4 hr4 hc4 hs4; have HR4 := Lib.hid hr4; have HC4 := Lib.hid (HC3.out.trans hc4); have HR1d := Lib.hid (HR1c.out.chg hc4 (fun h => h)); have HR2d := Lib.hid (HR2c.out.chg hc4 (fun h => h)); have HR3d := Lib.hid (HR3.out.chg hc4 (fun h => h)); clear hr4 hc4 hs4))
  have HG1 := Lib.hid (show w.heap.size < w1.heap.size from HR1.out.lt)
  have HG2 := Lib.hid (show w1.heap.size < w2.heap.size from HR2.out.lt)
  have HG3 := Lib.hid (show w2.heap.size < w3.heap.size from HR3.out.lt)
  have HNK := Lib.hid (show ¬ w.heap.size = w3.heap.size by have := HG1.out; have := HG2.out; have := HG3.out; omega)
  have HNT := Lib.hid (show ¬ w1.heap.size = w3.heap.size by have := HG2.out; have := HG3.out; omega)
  have HN2 := Lib.hid (show ¬ w2.heap.size = w3.heap.size by have := HG3.out; omega)
  clear HR1 HR1b HR1c HR2 HR2c HR3 HC1 HC2 HC3
  go_loopw [6, 7, 8, 9] (fun p i _ _ wr => ∃ i' : Nat, i' ≤ 44 ∧ i = .int .i64 i' ∧ p = .int .u8 (rcon ((i' - 1) / 4) : Nat) ∧ Row wr w3.heap.size 108 (u8s (kP key (i' * 4))) ∧ Chg (· = w3.heap.size) w4 wr) (fun _ i _ _ _ => 44 - (intOf i).toNat)
  case atStart => exact ⟨0, Nat.zero_le _, rfl, rfl, HR4.out, Chg.refl _ _⟩
  case round =>
    obtain ⟨i, h44, rfl, rfl, hrow, hch⟩ := hrel
    obtain ⟨wB, hwB⟩ : ∃ x, x = wr := ⟨_, rfl⟩
    subst hwB
    have HROW := Lib.hid hrow
    have HC := Lib.hid hch
    have q0 : (0 : Int) ≤ (i : Int) := by omega
    by_cases hlt : i < 44
    · have q1 : (i : Int) < 44 := by omega
      have HPB := Lib.hid (rcon_lt ((i - 1) / 4))
      have HPN : Hid (i % 4 = 0 → 0 < i → rcon ((i + 1 - 1) / 4) = dbl (rcon ((i - 1) / 4))) := Lib.hid (fun h1 h2 => by rw [show (i + 1 - 1) / 4 = (i - 1) / 4 + 1 from by omega, rcon])
      have HPS : Hid (¬ (i % 4 = 0 ∧ 0 < i) → rcon ((i + 1 - 1) / 4) = rcon ((i - 1) / 4)) := Lib.hid (fun h => by rw [show (i + 1 - 1) / 4 = (i - 1) / 4 from by omega])
      have HKA := Lib.hid (fun (l : List Nat) k (h4 : 4 ≤ i) hk => keyAt_rc key l i k h4 hk)
      generalize rcon ((i - 1) / 4) = pw at HPB HPN HPS HKA
      clear hrow hch
      go_wp2
      go_loopw [8, 9] (fun kv _ wr => ∃ k : Nat, k ≤ 4 ∧ kv = .int .i64 k ∧ Row wr w3.heap.size 108 (u8s (kP key (i * 4 + k))) ∧ Chg (· = w3.heap.size) w4 wr) (fun kv _ _ => 4 - (intOf kv).toNat)
      case atStart => exact ⟨0, Nat.zero_le _, rfl, HROW.out, HC.out⟩
      case round =>
        obtain ⟨k, hk, rfl, hrow, hch⟩ := hrel
        have HCk := Lib.hid hch
        have HROWk := Lib.hid hrow
        by_cases hk4 : k < 4
        · have hm176 : i * 4 + k < 176 := by omega
          have c2 := Row.u8 hrow (i := i * 4 + k) (by rw [kP_len _ _ (by omega)]; exact hm176)
          have hf := hrow.frozen (i * 4 + k)
          have HKS := Lib.hid (kP_set key (i * 4 + k) hm176)
          have HSET := Lib.hid (hrow.set (i * 4 + k) (.int .u8 ((keyAt key (keysN key (i * 4 + k)) (i * 4 + k) : Nat) : Int)))
          generalize (kP key (i * 4 + k)).getD (i * 4 + k) 0 = z at c2
          have s0 : (0 : Int) ≤ (k : Int) := by omega
          have s1 : (k : Int) < 4 := by omega
          by_cases hi4 : i < 4
          · have hi4i : (i : Int) < 4 := by omega
            have c1 := Row.u8 (HR1d.out.chg hch HNK.out) (i := i * 4 + k) (by rw [HK.out]; omega)
            have HV : Hid (keyAt key (keysN key (i * 4 + k)) (i * 4 + k) = key.getD (i * 4 + k) 0) := Lib.hid (by unfold keyAt; rw [if_pos (by omega)])
            rw [HV.out] at HKS HSET
            generalize key.getD (i * 4 + k) 0 = x at c1 HKS HSET
            have t0 : (0 : Int) ≤ 4 * (i : Int) + (k : Int) := by omega
            have t1 : 4 * (i : Int) + (k : Int) < 16 := by omega
            have t2 : (4 * (i : Int) + (k : Int)).toNat = i * 4 + k := by omega
            clear hrow hch HV hi4 hlt
            go_wp2
            go_region
            go_wp2
            go_roundw
            case rel => exact ⟨k + 1, by omega, by go_num, by rw [← Nat.add_assoc, ← HKS.out, ← u8s_set]; exact HSET.out, HCk.out.drew.setCell (fun _ => rfl) _⟩
            case measure => simp [intOf] <;> omega
          · have hi4i : ¬ (i : Int) < 4 := by omega
            have i1 : (0 : Int) ≤ (i : Int) - 1 := by omega
            have i2 : (i : Int) - 1 < 44 := by omega
            have i3 : ((i : Int) - 1).toNat = i - 1 := by omega
            have i4 : (0 : Int) ≤ (i : Int) - 4 := by omega
            have i5 : (i : Int) - 4 < 44 := by omega
            have i6 : ((i : Int) - 4).toNat = i - 4 := by omega
            have HLB : Hid (∀ j, (keysN key (i * 4 + k)).getD j 0 < 256) := Lib.hid (fun j => getD_lt (keysN_lt HKB.out _) j (by decide))
            obtain ⟨k1, hk1⟩ : ∃ k1, (k + 1) % 4 = k1 := ⟨_, rfl⟩
            have r1 : Int.tmod ((k : Int) + 1) 4 = (k1 : Int) := by rw [Int.tmod_eq_emod_of_nonneg (by omega)]; omega
            have r2 : ((k : Int) + 1) % 4 = (k1 : Int) := by omega
            have r3 : (0 : Int) ≤ (k1 : Int) := by omega
            have r4 : (k1 : Int) < 4 := by omega
            have ca := Row.u8 hrow (i := (i - 4) * 4 + k) (by rw [kP_len _ _ (by omega)]; omega)
            have cb := Row.u8 hrow (i := (i - 1) * 4 + k) (by rw [kP_len _ _ (by omega)]; omega)
            have cc := Row.u8 hrow (i := (i - 1) * 4 + k1) (by rw [kP_len _ _ (by omega)]; omega)
            rw [kP_get _ _ _ (by omega)] at ca cb cc
            have HV := HKA.out (keysN key (i * 4 + k)) k (by omega) hk4
            rw [hk1] at HV
            obtain ⟨a, ha⟩ : ∃ a, (keysN key (i * 4 + k)).getD ((i - 4) * 4 + k) 0 = a := ⟨_, rfl⟩
            obtain ⟨b, hb⟩ : ∃ b, (keysN key (i * 4 + k)).getD ((i - 1) * 4 + k) 0 = b := ⟨_, rfl⟩
            obtain ⟨c, hc⟩ : ∃ c, (keysN key (i * 4 + k)).getD ((i - 1) * 4 + k1) 0 = c := ⟨_, rfl⟩
            rw [ha] at ca HV
            rw [hb] at cb HV
            rw [hc] at cc HV
            by_cases hmn : i % 4 = 0
            · by_cases hkn : k = 0
              · subst hkn
                obtain rfl : k1 = 1 := by omega
                simp only [Nat.add_zero] at ca cb c2 hf
                have hmi : (i : Int) % 4 = 0 := by omega
                have hm : i % 4 = 0 := by omega
                rw [if_pos hmn, if_pos rfl] at HV
                have hcb : c < 256 := by rw [← hc]; exact HLB.out _
                have cT := Row.u8 (HR2d.out.chg hch HNT.out) (i := c) (by rw [sboxL_len]; exact hcb)
                have hsl := sbox_lt c
                have HTc : Hid (sboxL.getD c 0 = sbox c) := Lib.hid rfl
                rw [HTc.out] at cT
                generalize sbox c = sc at cT hsl HV
                have hpw := HPB.out
                have x1 := u8_xor_nat sc pw hsl hpw
                have hxl := xor8_lt hsl hpw
                generalize sc ^^^ pw = xv at x1 hxl HV
                have hal : a < 256 := by rw [← ha]; exact HLB.out _
                have x2 := u8_xor_nat a xv hal hxl
                rw [HV] at HKS HSET
                have HX2 := Lib.hid x2
                clear hrow hch HV hi4 hlt hmn ha hb hc hm
                go_wp2
                go_region
                go_wp2
                go_roundw
                case rel => exact ⟨0 + 1, by omega, rfl, by rw [← Nat.add_assoc, ← HKS.out, ← u8s_set]; exact HSET.out, HCk.out.drew.setCell (fun _ => rfl) _⟩
                case measure => simp [intOf] <;> omega
              · have hmi : (i : Int) % 4 = 0 := by omega
                have hm : i % 4 = 0 := by omega
                have hkz : ¬ (k : Int) = 0 := by omega
                rw [if_pos hmn, if_neg hkn] at HV
                have hcb : c < 256 := by rw [← hc]; exact HLB.out _
                have cT := Row.u8 (HR2d.out.chg hch HNT.out) (i := c) (by rw [sboxL_len]; exact hcb)
                have hsl := sbox_lt c
                have HTc : Hid (sboxL.getD c 0 = sbox c) := Lib.hid rfl
                rw [HTc.out] at cT
                generalize sbox c = sc at cT hsl HV
                have hxl := hsl
                obtain ⟨xv, hxv⟩ : ∃ xv, sc = xv := ⟨_, rfl⟩
                subst hxv
                have hal : a < 256 := by rw [← ha]; exact HLB.out _
                have x2 := u8_xor_nat a sc hal hxl
                rw [HV] at HKS HSET
                have HX2 := Lib.hid x2
                clear hk1 hrow hch HV hi4 hlt hmn ha hb hc hm hkn
                go_wp2
                go_region
                go_wp2
                go_roundw
                case rel => exact ⟨k + 1, by omega, by go_num, by rw [← Nat.add_assoc, ← HKS.out, ← u8s_set]; exact HSET.out, HCk.out.drew.setCell (fun _ => rfl) _⟩
                case measure => simp [intOf] <;> omega
            · have hmi : ¬ (i : Int) % 4 = 0 := by omega
              rw [if_neg hmn] at HV
              have hbl : b < 256 := by rw [← hb]; exact HLB.out _
              have hxl := hbl
              have hal : a < 256 := by rw [← ha]; exact HLB.out _
              have x2 := u8_xor_nat a b hal hxl
              rw [HV] at HKS HSET
              have HX2 := Lib.hid x2
              clear hk1 hrow hch HV hi4 hlt hmn ha hb hc
              go_wp2
              go_region
              go_wp2
              go_roundw
              case rel => exact ⟨k + 1, by omega, by go_num, by rw [← Nat.add_assoc, ← HKS.out, ← u8s_set]; exact HSET.out, HCk.out.drew.setCell (fun _ => rfl) _⟩
              case measure => simp [intOf] <;> omega
        · have hk44 : k = 4 := by omega
          subst hk44
          have HROW5 : Hid (Row wr w3.heap.size 108 (u8s (kP key ((i + 1) * 4)))) := Lib.hid (by rw [show (i + 1) * 4 = i * 4 + 4 from by omega]; exact hrow)
          have HTW := Lib.hid (fun w => rtimes_any pw 2 HPB.out (by decide) w)
          have HM2 := Lib.hid (mul_two HPB.out)
          try simp only [show ((4 : Nat) : Int) = 4 from rfl]
          by_cases hmn : i % 4 = 0
          · by_cases hz : 0 < i
            · have hz1 : (0 : Int) < (i : Int) := by omega
              have hz2 : (i : Int) % 4 = 0 := by omega
              have HE := Lib.hid (HPN.out hmn hz)
              rw [HM2.out] at HTW
              clear hrow hch hmn hz hk4
              go_wp2_with (go_at_call 86; refine (HTW.out _).mono ?_; rintro e w' ⟨rfl, rfl⟩)
              go_roundw
              case rel => exact ⟨i + 1, by omega, by go_num, by rw [HE.out], HROW5.out, HCk.out⟩
              case measure => simp [intOf] <;> omega
            · have hz1 : ¬ (0 : Int) < (i : Int) := by omega
              have HE := Lib.hid (HPS.out (fun h => hz h.2))
              clear hrow hch hmn hk4
              go_wp2
              go_roundw
              case rel => exact ⟨i + 1, by omega, by go_num, by rw [HE.out], HROW5.out, HCk.out⟩
              case measure => simp [intOf] <;> omega
          · have hz1 : (0 : Int) < (i : Int) := by omega
            have hz2 : ¬ (i : Int) % 4 = 0 := by omega
            have HE := Lib.hid (HPS.out (fun h => hmn h.1))
            clear hrow hch hmn hk4
            go_wp2
            go_roundw
            case rel => exact ⟨i + 1, by omega, by go_num, by rw [HE.out], HROW5.out, HCk.out⟩
            case measure => simp [intOf] <;> omega
    · have hi44 : i = 44 := by omega
      subst hi44
      have HALL : Hid (Row wB w3.heap.size 108 (u8s (keysN key 176))) := Lib.hid (by rw [← kP_all]; exact hrow)
      clear hrow hch
      generalize rcon ((44 - 1) / 4) = pw
      try simp only [show ((44 : Nat) : Int) = 44 from rfl]
      go_wp2_with (first | ((with_reducible show wpList _ _ _ (⟨some 75, .load 108 _, _, _, _, _⟩ :: _) _ _); refine wpList_load_Row rfl rfl rfl (HALL.out) Tryd.underlying108 rfl (by rw [u8s_length, keysN_len]; exact size28) ?_) | ((with_reducible show wpList _ _ _ (⟨_, .store 108 _ _, _, _, _, _⟩ :: _) _ _); refine wpList_store_Row (xs := u8s (keysN key 176)) rfl rfl rfl ((HR3d.out.chg HC.out HN2.out)) (rfl) (by rw [u8s_length, u8s_length, keysN_len, List.length_replicate]) (by rw [u8s_length, keysN_len]; exact size28) (u8s_oneA _) ?_; intro w9 hr9 hc9 hs9; have HR9 := Lib.hid hr9; have HC9 := Lib.hid hc9; clear hr9 hc9 hs9))
      refine ret_row rfl rfl HR9.out Tryd.underlying108 rfl (by rw [u8s_length, keysN_len]; exact size28) rfl ?_
      exact ⟨rfl, HC9.out none_ w (HC4.out.andThen HC.out (fun b h e => by have := HG1.out; have := HG2.out; have := HG3.out; omega)) (fun h => by have := HG1.out; have := HG2.out; omega)⟩
end Go.Proofs.YtidafbpiipjnlaaDoor
