/- Layer 7 (hash): the walks of the laws HashSums, HashLong, HashKeys. -/
import Derived.Test.YtodcjcpbigggfaaDoorV7Alive
import Derived.Test.YtodcjcpbigggfaaDoorV7RLabel
import Derived.Test.YtodcjcpbigggfaaDoorZerosOn
import Derived.Test.YtodcjcpbigggfaaDoorSame
namespace Go.Proofs.YtodcjcpbigggfaaDoor
open Go.RowKit

theorem maxl (n : Nat) (h : n ≤ maxLen) : n ≤ 9223372036854775807 := by unfold maxLen at h; omega

set_option maxRecDepth 100000 in
set_option maxHeartbeats 1000000 in
theorem walk_HashSums (A : Option Addr) (len cap : Nat) (zs : List Int) (A' : Option Addr) (len' cap' : Nat) (zs' : List Int) (W : World) (x0 : IsRow .u8 W A len cap zs) (x1 : IsRow .u8 W A' len' cap' zs') (hT : HTab W) :
    Calls Tryd.prog 3 #[.slice A len cap, .slice A' len' cap'] W fun e w' => e = .returned (.bool true) ∧ Chg none_ W w' := by
  obtain ⟨k, rfl, hkc, hkm, hkb, hvk⟩ := x0.u8
  obtain ⟨l, rfl, hlc, hlm, hlb, hvl⟩ := x1.u8
  have hlm2 := maxl _ (Nat.le_trans hlc hlm)
  have hkm2 := maxl _ (Nat.le_trans hkc hkm)
  have HAL := Lib.hid (fun w' (hc : Chg none_ W w') => alive_any w' (hT.chg hc (fun h => h) (fun h => h)))
  have HC0 := Lib.hid (Chg.refl none_ W)
  by_cases hk : 300 < k.length
  · have hd1 : decide ((300 : Int) < (k.length : Int)) = true := by simp; omega
    clear hvk hvl hkb hlb hT x0 x1
    go_enter Tryd.func3, Tryd.ntmps3
    go_wp2_with (go_at_call 8; refine (HAL.out _ HC0.out).mono ?_; rintro e w1 ⟨rfl, hc1⟩; have HC1 := Lib.hid (HC0.out.trans hc1); clear hc1)
    go_ret
    exact ⟨rfl, HC1.out⟩
  have hd1 : decide ((300 : Int) < (k.length : Int)) = false := by simp; omega
  by_cases hl : 500 < l.length
  · have hd2 : decide ((500 : Int) < (l.length : Int)) = true := by simp; omega
    clear hvk hvl hkb hlb hT x0 x1
    go_enter Tryd.func3, Tryd.ntmps3
    go_wp2_with (go_at_call 8; refine (HAL.out _ HC0.out).mono ?_; rintro e w1 ⟨rfl, hc1⟩; have HC1 := Lib.hid (HC0.out.trans hc1); clear hc1)
    go_ret
    exact ⟨rfl, HC1.out⟩
  have hd2 : decide ((500 : Int) < (l.length : Int)) = false := by simp; omega
  have HS := Lib.hid (fun w' (hc : Chg none_ W w') => sum_any _ A' cap' l w' (hvl.chg hc (fun _ _ h => h)) (by omega) hlc hlb (hT.chg hc (fun h => h) (fun h => h)))
  have HRS := Lib.hid (fun w' (hc : Chg none_ W w') => rsum_any _ A' cap' l w' (hvl.chg hc (fun _ _ h => h)) (by omega) hlb (hT.chg hc (fun h => h) (fun h => h)))
  have HTG := Lib.hid (fun w' (hc : Chg none_ W w') => tag_any _ _ A A' cap cap' k l w' (hvk.chg hc (fun _ _ h => h)) (hvl.chg hc (fun _ _ h => h)) (by omega) (by omega) hkc hlc hkb hlb (hT.chg hc (fun h => h) (fun h => h)))
  have HRT := Lib.hid (fun w' (hc : Chg none_ W w') => rtag_any _ _ A A' cap cap' k l w' (hvk.chg hc (fun _ _ h => h)) (hvl.chg hc (fun _ _ h => h)) (by omega) (by omega) hkb hlb (hT.chg hc (fun h => h) (fun h => h)))
  have HEX := Lib.hid (fun w' (hc : Chg none_ W w') => extract_any _ _ A A' cap cap' k l w' (hvk.chg hc (fun _ _ h => h)) (hvl.chg hc (fun _ _ h => h)) (by omega) (by omega) hkc hlc hkb hlb (hT.chg hc (fun h => h) (fun h => h)))
  clear hvk hvl hkb hlb hT x0 x1
  go_enter Tryd.func3, Tryd.ntmps3
  go_wp2_with (first | (go_at_call 8; refine (HAL.out _ HC0.out).mono ?_; rintro e w1 ⟨rfl, hc1⟩; have HC1 := Lib.hid (HC0.out.trans hc1); clear hc1) | (go_at_call 9; refine (HS.out _ HC1.out).mono ?_; rintro e w2 ⟨rfl, hc2⟩; have HC2 := Lib.hid (HC1.out.trans hc2); clear hc2) | (go_at_call 10; refine (HRS.out _ HC2.out).mono ?_; rintro e w3 ⟨rfl, hc3⟩; have HC3 := Lib.hid (HC2.out.trans hc3); clear hc3) | ((with_reducible show wpList _ _ _ (⟨some 19, _, _, _, _, _⟩ :: _) _ _); refine wpList_hash_eq rfl _ _ rfl (sumN l) (sumN_len l) rfl rfl ?_) | (go_at_call 11; refine (HTG.out _ HC3.out).mono ?_; rintro e w4 ⟨rfl, hc4⟩; have HC4 := Lib.hid (HC3.out.trans hc4); clear hc4) | (go_at_call 12; first | ((with_reducible refine (HRT.out w4 HC4.out).mono ?_); rintro e w5 ⟨rfl, hc5⟩; have HC5 := Lib.hid (HC4.out.trans hc5); clear hc5) | ((with_reducible refine (HRT.out w6 HC6.out).mono ?_); rintro e w7 ⟨rfl, hc7⟩; have HC7 := Lib.hid (HC6.out.trans hc7); clear hc7)) | ((with_reducible show wpList _ _ _ (⟨some 27, _, _, _, _, _⟩ :: _) _ _); refine wpList_hash_eq rfl _ _ rfl (tagN k l) (tagN_len k l) rfl rfl ?_) | (go_at_call 13; refine (HEX.out _ HC5.out).mono ?_; rintro e w6 ⟨rfl, hc6⟩; have HC6 := Lib.hid (HC5.out.trans hc6); clear hc6) | ((with_reducible show wpList _ _ _ (⟨some 36, _, _, _, _, _⟩ :: _) _ _); refine wpList_hash_eq rfl _ _ rfl (tagN k l) (tagN_len k l) rfl rfl ?_))
  go_ret
  exact ⟨rfl, HC7.out⟩
end Go.Proofs.YtodcjcpbigggfaaDoor
