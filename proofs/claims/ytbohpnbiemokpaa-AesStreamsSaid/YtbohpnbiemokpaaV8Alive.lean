/- Layer 8 (aes): the laws' own look that the program answers at all. -/
import Derived.Test.YtbohpnbiemokpaaV8Stream
import Derived.Test.YtbohpnbiemokpaaV8Eq
import Derived.Test.YtbohpnbiemokpaaStr
namespace Go.Proofs.Ytbohpnbiemokpaa
open Go.RowKit

def key8 : List Nat := (List.range 16).map fun i => i
def text8 : List Nat := (List.range 16).map fun i => 17 * i
theorem key8_len : key8.length = 16 := by decide
theorem text8_len : text8.length = 16 := by decide
theorem key8_lt : ∀ x ∈ key8, x < 256 := by decide
theorem text8_lt : ∀ x ∈ text8, x < 256 := by decide
theorem c8_ev : (cipherN key8 text8).getD 0 0 = 105 ∧ (cipherN key8 text8).getD 15 0 = 90 := by decide +kernel
theorem k8_ev : (keysN key8 176).getD 16 0 = 214 := by decide +kernel
theorem box53 : sbox 83 = 237 := by decide +kernel

set_option maxRecDepth 100000 in
set_option maxHeartbeats 4000000 in
theorem alive_any (W : World) : Calls Try.prog 10 #[] W fun e w' => e = .returned (.bool true) ∧ Chg none_ W w' := by
  have HENC := Lib.hid (fun w' => Encipher_any key8 text8 w' key8_len key8_lt text8_len text8_lt)
  have HKEY := Lib.hid (fun w' => Keys_any key8 w' key8_len key8_lt)
  have HBOX : Hid (∀ w', Calls Try.prog 13 #[.int .u8 83] w' fun e w'' => e = .returned (.int .u8 237) ∧ Chg none_ w' w'') := Lib.hid (fun w' => by have := box_any 83 (by decide) w'; rw [box53] at this; exact this)
  have HTIM : Hid (∀ w', Calls Try.prog 11 #[.int .u8 87, .int .u8 131] w' fun e w'' => e = .returned (.int .u8 193) ∧ w' = w'') := Lib.hid (fun w' => by have := times_any 87 131 (by decide) (by decide) w'; rw [fips_m] at this; exact this)
  have HSTR : Hid (∀ (T : Nat → Prop) g w', View w' T (some ⟨g, 0, none⟩) 1 [.int .u8 97] → Calls Try.prog 21 #[.agg (u8s key8).toArray, .agg (u8s text8).toArray, .slice (some ⟨g, 0, none⟩) 1 1] w' fun e w'' => ∃ g2, e = .returned (.slice (some ⟨g2, 0, none⟩) 1 1) ∧ Chg none_ w' w'') := Lib.hid (fun T g w' hv => (Stream_any key8 text8 T (some ⟨g, 0, none⟩) 1 [97] w' key8_len key8_lt text8_len text8_lt hv (by decide) (by decide)).mono fun e w'' ⟨g2, h1, _, _, h3⟩ => ⟨g2, h1, h3⟩)
  have HCE := Lib.hid c8_ev
  have HKE := Lib.hid k8_ev
  have HCL := Lib.hid (cipherN_len key8 text8)
  have HKL := Lib.hid (keysN_len key8 176)
  generalize cipherN key8 text8 = CN at HENC HCE HCL
  generalize keysN key8 176 = KN at HKEY HKE HKL
  go_enter Try.func10, Try.ntmps10
  go_wp2_with (first | ((with_reducible show wpList _ _ _ (⟨some 1, .alloc 26, _, _, _, _⟩ :: _) _ _); refine wpList_alloc_Row rfl rfl (u8s (List.replicate 16 0)) zero26 ?_; intro w1 hr1 hc1 hs1; have HR1 := Lib.hid hr1; have HC1 := Lib.hid hc1; clear hr1 hc1 hs1) | ((with_reducible show wpList _ _ _ (⟨some 2, .alloc 26, _, _, _, _⟩ :: _) _ _); refine wpList_alloc_Row rfl rfl (u8s (List.replicate 16 0)) zero26 ?_; intro w2 hr2 hc2 hs2; have HR2 := Lib.hid hr2; have HC2 := Lib.hid (HC1.out.trans hc2); have HR1b := Lib.hid (HR1.out.chg hc2 (fun h => h)); clear hr2 hc2 hs2))
  have HG1 := Lib.hid (show W.heap.size < w1.heap.size from HR1.out.lt)
  have HG2 := Lib.hid (show w1.heap.size < w2.heap.size from HR2.out.lt)
  clear HR1 HC1
  go_loopw [3] (fun i wr => ∃ k : Nat, k ≤ 16 ∧ i = .int .i64 k ∧ Row wr W.heap.size 26 (u8s (fillN (fun i => i) 16 k)) ∧ Row wr w1.heap.size 26 (u8s (fillN (fun i => 17 * i) 16 k)) ∧ Chg (fun b => b = W.heap.size ∨ b = w1.heap.size) w2 wr) (fun i _ => 16 - (intOf i).toNat)
  case atStart => exact ⟨0, Nat.zero_le _, rfl, by rw [fillN_0]; exact HR1b.out, by rw [fillN_0]; exact HR2.out, Chg.refl _ _⟩
  case round =>
    obtain ⟨k, hk, rfl, hrow, hrow2, hch⟩ := hrel
    by_cases hlt : k < 16
    · have HFS := Lib.hid (fillN_set (fun i => i) 16 k hlt)
      have HFT := Lib.hid (fillN_set (fun i => 17 * i) 16 k hlt)
      have c1 := Row.u8 hrow (i := k) (by rw [fillN_len _ _ _ hk]; exact hlt)
      have c2 := Row.u8 hrow2 (i := k) (by rw [fillN_len _ _ _ hk]; exact hlt)
      have f1 := hrow.frozen k
      have f2 := hrow2.frozen k
      have HN : Hid (¬ W.heap.size = w1.heap.size) := Lib.hid (by have := HG1.out; omega)
      have hn := HN.out
      have hn2 : ¬ w1.heap.size = W.heap.size := fun h => HN.out h.symm
      have HS1 := Lib.hid ((hrow.set k (.int .u8 ((k : Nat) : Int))).far (p := ⟨w1.heap.size, k, none⟩) hn (.int .u8 ((17 * k : Nat) : Int)))
      have HS2 := Lib.hid ((hrow2.far (p := ⟨W.heap.size, k, none⟩) hn2 (.int .u8 ((k : Nat) : Int))).set k (.int .u8 ((17 * k : Nat) : Int)))
      have HC := Lib.hid hch
      have q0 : (0 : Int) ≤ (k : Int) := by omega
      have q1 : (k : Int) < 16 := by omega
      have e1 : (k : Int) % 256 = (k : Int) := by omega
      have e2 : (17 * (k : Int)) % 256 = 17 * (k : Int) := by omega
      have HE : Hid (((17 * k : Nat) : Int) = 17 * (k : Int)) := Lib.hid (by omega)
      generalize (fillN (fun i => i) 16 k).getD k 0 = z1 at c1
      generalize (fillN (fun i => 17 * i) 16 k).getD k 0 = z2 at c2
      clear hrow hrow2 hch
      go_wp2
      go_roundw
      case rel => exact ⟨k + 1, by omega, by go_num, by rw [← HFS.out, ← u8s_set]; have := HS1.out; rw [HE.out] at this; exact this, by rw [← HFT.out, ← u8s_set]; have := HS2.out; rw [HE.out] at this ⊢; exact this, (HC.out.setCell (fun _ => Or.inl rfl) _).setCell (fun _ => Or.inr rfl) _⟩
      case measure => simp [intOf]; omega
    · have hk16 : k = 16 := by omega
      subst hk16
      have HRK : Hid (Row wr W.heap.size 26 (u8s key8)) := Lib.hid (by have := hrow; rw [fillN_all] at this; exact this)
      have HRT : Hid (Row wr w1.heap.size 26 (u8s text8)) := Lib.hid (by have := hrow2; rw [fillN_all] at this; exact this)
      have HCR := Lib.hid (HC2.out.andThen hch (fun b h e => by have := HG1.out; omega))
      clear hrow hrow2 hch HR1b HR2 HC2 hk hlt
      obtain ⟨wA, hwA⟩ : ∃ x, x = wr := ⟨_, rfl⟩
      subst hwA
      try simp only [show ((16 : Nat) : Int) = 16 from rfl]
      go_wp2_with (first | ((with_reducible show wpList _ _ _ (⟨some 19, .load 26 _, _, _, _, _⟩ :: _) _ _); refine wpList_load_Row rfl rfl rfl (HRK.out) Try.underlying26 rfl (by rw [u8s_length, key8_len]; exact size26) ?_) | ((with_reducible show wpList _ _ _ (⟨some 20, .load 26 _, _, _, _, _⟩ :: _) _ _); refine wpList_load_Row rfl rfl rfl (HRT.out) Try.underlying26 rfl (by rw [u8s_length, text8_len]; exact size26) ?_) | (go_at_call 18; refine (HENC.out _).mono ?_; rintro e w4 ⟨rfl, hc4⟩; have HC4 := Lib.hid hc4; clear hc4) | ((with_reducible show wpList _ _ _ (⟨some 4, .alloc 26, _, _, _, _⟩ :: _) _ _); refine wpList_alloc_Row rfl rfl (u8s (List.replicate 16 0)) zero26 ?_; intro w5 hr5 hc5 hs5; have HR5 := Lib.hid hr5; have HC5 := Lib.hid hc5; clear hr5 hc5 hs5) | ((with_reducible show wpList _ _ _ (⟨_, .store 26 (.tmp 4) _, _, _, _, _⟩ :: _) _ _); refine wpList_store_Row (xs := u8s CN) rfl rfl rfl (HR5.out) (rfl) (by rw [u8s_length, HCL.out, u8s_length]; rfl) (by rw [u8s_length, HCL.out]; exact size26) (u8s_oneA _) ?_; intro w6 hr6 hc6 hs6; have HR6 := Lib.hid hr6; have HC6 : Hid (Chg none_ wA w6) := Lib.hid (hc6 none_ wA (HC4.out.trans HC5.out) (fun h => by have := HC4.out.size; omega)); have HRK6 := Lib.hid (HRK.out.chg HC6.out (fun h => h)); have HRT6 := Lib.hid (HRT.out.chg HC6.out (fun h => h)); clear hr6 hc6 hs6) | ((with_reducible show wpList _ _ _ (⟨some 22, .load 26 _, _, _, _, _⟩ :: _) _ _); refine wpList_load_Row rfl rfl rfl (HRK6.out) Try.underlying26 rfl (by rw [u8s_length, key8_len]; exact size26) ?_) | (go_at_call 15; refine (HKEY.out _).mono ?_; rintro e w7 ⟨rfl, hc7⟩; have HC7 := Lib.hid hc7; clear hc7) | ((with_reducible show wpList _ _ _ (⟨some 5, .alloc 28, _, _, _, _⟩ :: _) _ _); refine wpList_alloc_Row rfl rfl (u8s (List.replicate 176 0)) zero28 ?_; intro w8 hr8 hc8 hs8; have HR8 := Lib.hid hr8; have HC8 := Lib.hid hc8; clear hr8 hc8 hs8) | ((with_reducible show wpList _ _ _ (⟨_, .store 28 (.tmp 5) _, _, _, _, _⟩ :: _) _ _); refine wpList_store_Row (xs := u8s KN) rfl rfl rfl (HR8.out) (rfl) (by rw [u8s_length, HKL.out, u8s_length]; rfl) (by rw [u8s_length, HKL.out]; exact size28) (u8s_oneA _) ?_; intro w9 hr9 hc9 hs9; have HR9 := Lib.hid hr9; have HC9 : Hid (Chg none_ w6 w9) := Lib.hid (hc9 none_ w6 (HC7.out.trans HC8.out) (fun h => by have := HC7.out.size; omega)); have HRC9 := Lib.hid (HR6.out.chg HC9.out (fun h => h)); have HRK9 := Lib.hid (HRK6.out.chg HC9.out (fun h => h)); have HRT9 := Lib.hid (HRT6.out.chg HC9.out (fun h => h)); clear hr9 hc9 hs9))
      go_wp2_with (first | (go_at_call 13; refine (HBOX.out _).mono ?_; rintro e w10 ⟨rfl, hc10⟩; have HC10 := Lib.hid hc10; have HRC10 := Lib.hid (HRC9.out.chg hc10 (fun h => h)); have HRK10 := Lib.hid (HRK9.out.chg hc10 (fun h => h)); have HRT10 := Lib.hid (HRT9.out.chg hc10 (fun h => h)); have k0 := Row.u8 HRC10.out (i := 0) (by rw [HCL.out]; decide); rw [HCE.out.1] at k0; have k1 := Row.u8 HRC10.out (i := 15) (by rw [HCL.out]; decide); rw [HCE.out.2] at k1; have k2 := Row.u8 (HR9.out.chg hc10 (fun h => h)) (i := 16) (by rw [HKL.out]; decide); rw [HKE.out] at k2; clear hc10) | (go_at_call 11; refine (HTIM.out _).mono ?_; rintro e w10b ⟨rfl, rfl⟩) | ((with_reducible show wpList _ _ _ (⟨some 47, .load 26 _, _, _, _, _⟩ :: _) _ _); refine wpList_load_Row rfl rfl rfl (HRK10.out) Try.underlying26 rfl (by rw [u8s_length, key8_len]; exact size26) ?_) | ((with_reducible show wpList _ _ _ (⟨some 48, .load 26 _, _, _, _, _⟩ :: _) _ _); refine wpList_load_Row rfl rfl rfl (HRT10.out) Try.underlying26 rfl (by rw [u8s_length, text8_len]; exact size26) ?_) | ((with_reducible show wpList _ _ _ (⟨some 49, _, _, _, _, _⟩ :: _) _ _); refine wpList_new_row (v := fun g => .slice (some ⟨g, 0, none⟩) 1 1) (e := 5) (cs := [.int .u8 97]) rfl (fun w_ => by go_simp) ?_; intro w11 hr11 hc11 hs11; have HR11 := Lib.hid hr11; have HC11 := Lib.hid hc11; clear hr11 hc11 hs11) | ((with_reducible show wpList _ _ _ (⟨some 50, _, _, _, _, _⟩ :: _) _ _); refine wpList_bytes_mark rfl rfl rfl Try.underlying35 Try.underlying5 (HR11.out) ?_; intro w12 hv12 hc12 hs12; have HV12 := Lib.hid hv12; have HC12 := Lib.hid hc12; clear hv12 hc12 hs12) | (go_at_call 21; refine (HSTR.out _ _ _ HV12.out).mono ?_; rintro e w13 ⟨g2, rfl, hc13⟩; have HC13 : Hid (Chg none_ w10 w13) := Lib.hid ((HC11.out.andThen HC12.out (fun b h e => by omega)).trans hc13); clear hc13))
      go_ret
      exact ⟨rfl, ((((HCR.out.trans HC6.out).trans HC9.out).trans HC10.out).trans HC13.out)⟩
end Go.Proofs.Ytbohpnbiemokpaa
