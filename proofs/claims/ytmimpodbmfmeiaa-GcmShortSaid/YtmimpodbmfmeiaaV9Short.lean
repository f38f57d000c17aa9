/- Layer 9 (gcm): the walk of the law GcmShort. -/
import Derived.Test.YtmimpodbmfmeiaaV9Alive
import Derived.Test.YtmimpodbmfmeiaaV9Open
namespace Go.Proofs.Ytmimpodbmfmeiaa
open Go.RowKit

set_option maxRecDepth 100000 in
set_option maxHeartbeats 4000000 in
theorem walk_GcmShort (key nonce : List Nat) (A : Option Addr) (len cap : Nat) (zs : List Int) (W : World) (hk : key.length = 16) (hkb : ∀ x ∈ key, x < 256) (hn : nonce.length = 12) (_hnb : ∀ x ∈ nonce, x < 256) (x0 : IsRow .u8 W A len cap zs) :
    Calls Try.prog 8 #[.agg (u8s key).toArray, .agg (u8s nonce).toArray, .slice A len cap] W fun e w' => e = .returned (.bool true) ∧ Chg none_ W w' := by
  obtain ⟨b, rfl, hcap, hmax, hbb, hv⟩ := x0.u8
  clear x0
  have HKL := Lib.hid hk
  have HNL := Lib.hid hn
  have hz : ∀ x ∈ List.replicate 16 0, x < 256 := fun x hx => by rw [List.eq_of_mem_replicate hx]; decide
  have hmx : b.length ≤ 9223372036854775807 := by unfold maxLen at hmax; omega
  obtain ⟨Z16, hZ16⟩ : ∃ Z, Z = List.replicate 16 0 := ⟨_, rfl⟩
  have HZ16 : Hid (∀ w, (Instr.build 22 #[]).run Try.prog w = .ok (.agg (u8s Z16).toArray) w) := Lib.hid (fun w => by rw [hZ16]; exact run_build_none w)
  have HSM : Hid (∀ w, Calls Try.prog 12 #[.agg (u8s key).toArray, .slice none 0 0, .slice none 0 0] w fun e w' => e = .returned (.agg (u8s Z16).toArray) ∧ Chg none_ w w') := Lib.hid (fun w => by
    have := Sum_any key [] [] (fun _ => True) (fun _ => True) none none 0 0 w hk hkb (View.none_ _ _ _) (Nat.le_refl _) (by simp) (by simp) (View.none_ _ _ _) (Nat.le_refl _) (by simp) (by simp)
    rw [sumG_nil] at this
    rw [hZ16]
    exact this)
  have HTI : Hid (∀ w, Calls Try.prog 10 #[.agg (u8s key).toArray, .agg (u8s Z16).toArray] w fun e w' => e = .returned (.agg (u8s Z16).toArray) ∧ Chg none_ w w') := Lib.hid (fun w => by
    have := Times_any key (List.replicate 16 0) w hk hkb (by simp) hz
    rw [show tmsB key (List.replicate 16 0) = List.replicate 16 0 from tmsB_zero key] at this
    rw [hZ16]
    exact this)
  have HEQ : Hid (∀ w, (Op.equalIn 10000 22 (.agg (u8s Z16).toArray) (.agg (u8s Z16).toArray)).run Try.prog w = .ok true w) := Lib.hid (fun w => by have := blk_eql Z16 Z16 (by rw [hZ16]; simp) (by rw [hZ16]; simp) w; rwa [decide_eq_true rfl] at this)
  by_cases hlong : 15 < b.length
  · have hd : decide ((15 : Int) < (b.length : Int)) = true := by simp; omega
    have HO : Hid (∀ w', Calls Try.prog 14 #[.agg (u8s key).toArray, .agg (u8s nonce).toArray, .slice none 0 0, .slice (highA A cap) 15 cap] w' fun e w'' => ∃ A c, e = .returned (.tuple #[.slice A 0 c, .int .i64 2]) ∧ Chg none_ w' w'') := Lib.hid (fun w' => by
      have hl : (b.take 15).length < 16 := by rw [List.length_take]; omega
      have := Open_short key nonce [] (b.take 15) none (highA A cap) 0 cap w' hl
      rw [short_open key nonce [] _ hl, show (b.take 15).length = 15 from by rw [List.length_take]; omega] at this
      refine this.mono ?_
      rintro e w' ⟨v, rfl, ho, hc⟩
      obtain ⟨A, c, rfl, _, _⟩ := ho.viewLt
      exact ⟨A, c, rfl, hc⟩)
    have HCAP : Hid (15 ≤ cap) := Lib.hid (by omega)
    generalize b.length = len at *
    clear hk hkb hn hv hbb hz hZ16 hcap hmax hlong
    go_enter Try.func8, Try.ntmps8
    go_wp2_with (first | ((with_reducible show wpList _ _ _ (⟨some 3, .box 22 _, _, _, _, _⟩ :: _) _ _); refine wpList_box_Row rfl rfl (u8s key) rfl ?_; intro wK hrK hcK hsK; have HRK := Lib.hid hrK; have HCK := Lib.hid hcK; clear hrK hcK hsK) | ((with_reducible show wpList _ _ _ (⟨some 4, .box 28 _, _, _, _, _⟩ :: _) _ _); refine wpList_box_Row rfl rfl (u8s nonce) rfl ?_; intro wN hrN hcN hsN; have HRN := Lib.hid hrN; have HCN := Lib.hid (HCK.out.trans hcN); have HRK1 := Lib.hid (HRK.out.chg hcN (fun h => h)); clear hrN hcN hsN) | (go_at_call 9; refine (alive_any _).mono ?_; rintro e w3 ⟨rfl, hc3⟩; have HC3 := Lib.hid (HCN.out.trans hc3); have HRK3 := Lib.hid (HRK1.out.chg hc3 (fun h => h)); have HRN3 := Lib.hid (HRN.out.chg hc3 (fun h => h)); clear hc3) | ((with_reducible show wpList _ _ _ (⟨some 15, _, _, _, _, _⟩ :: _) _ _); refine wpList_val rfl (.slice (highA A cap) 15 cap) (fun w => by have := run_slice_high (P := Try.prog) w 23 5 A len cap 15 Try.underlying23 size5 HCAP.out; rw [show ((15 : Nat) : Int) = 15 from rfl] at this; unfold execOp; simp [Act.eval, Instr.sliceAt, run_underlying Try.underlying23, this]) ?_) | ((with_reducible show wpList _ _ _ (⟨some 17, .load 22 _, _, _, _, _⟩ :: _) _ _); refine wpList_load_Row rfl rfl rfl (HRK3.out) Try.underlying22 rfl (by rw [u8s_length, HKL.out]; exact size22) ?_) | ((with_reducible show wpList _ _ _ (⟨some 18, .load 28 _, _, _, _, _⟩ :: _) _ _); refine wpList_load_Row rfl rfl rfl (HRN3.out) Try.underlying28 rfl (by rw [u8s_length, HNL.out]; exact sizeN12) ?_) | (go_at_call 14; refine (HO.out _).mono ?_; rintro e w4 ⟨A4, c4, rfl, hc4⟩; have HC4 := Lib.hid (HC3.out.trans hc4); have HRK4 := Lib.hid (HRK3.out.chg hc4 (fun h => h)); clear hc4) | ((with_reducible show wpList _ _ _ (⟨some 31, .load 22 _, _, _, _, _⟩ :: _) _ _); refine wpList_load_Row rfl rfl rfl (HRK4.out) Try.underlying22 rfl (by rw [u8s_length, HKL.out]; exact size22) ?_) | (go_at_call 12; refine (HSM.out _).mono ?_; rintro e w5 ⟨rfl, hc5⟩; have HC5 := Lib.hid (HC4.out.trans hc5); have HRK5 := Lib.hid (HRK4.out.chg hc5 (fun h => h)); clear hc5) | ((with_reducible show wpList _ _ _ (⟨some 33, _, _, _, _, _⟩ :: _) _ _); refine wpList_val rfl (.agg (u8s Z16).toArray) (fun w => by have := HZ16.out w; unfold execOp; simp [Act.eval, this]) ?_) | ((with_reducible show wpList _ _ _ (⟨some 34, _, _, _, _, _⟩ :: _) _ _); refine wpList_eql rfl 22 _ _ _ rfl (u8s Z16).toArray (u8s Z16).toArray rfl rfl true (run_eqGuard_agg _ .eql 22 _ _ _ _ Try.eqGuardType22) (HEQ.out _) ?_) | ((with_reducible show wpList _ _ _ (⟨some 37, .load 22 _, _, _, _, _⟩ :: _) _ _); refine wpList_load_Row rfl rfl rfl (HRK5.out) Try.underlying22 rfl (by rw [u8s_length, HKL.out]; exact size22) ?_) | ((with_reducible show wpList _ _ _ (⟨some 38, _, _, _, _, _⟩ :: _) _ _); refine wpList_val rfl (.agg (u8s Z16).toArray) (fun w => by have := HZ16.out w; unfold execOp; simp [Act.eval, this]) ?_) | (go_at_call 10; refine (HTI.out _).mono ?_; rintro e w6 ⟨rfl, hc6⟩; have HC6 := Lib.hid (HC5.out.trans hc6); clear hc6) | ((with_reducible show wpList _ _ _ (⟨some 40, _, _, _, _, _⟩ :: _) _ _); refine wpList_val rfl (.agg (u8s Z16).toArray) (fun w => by have := HZ16.out w; unfold execOp; simp [Act.eval, this]) ?_) | ((with_reducible show wpList _ _ _ (⟨some 41, _, _, _, _, _⟩ :: _) _ _); refine wpList_eql rfl 22 _ _ _ rfl (u8s Z16).toArray (u8s Z16).toArray rfl rfl true (run_eqGuard_agg _ .eql 22 _ _ _ _ Try.eqGuardType22) (HEQ.out _) ?_))
    go_ret
    exact ⟨rfl, HC6.out⟩
  · have hd : decide ((15 : Int) < (b.length : Int)) = false := by simp; omega
    have hshort : b.length < 16 := by omega
    have HO : Hid (∀ w', Calls Try.prog 14 #[.agg (u8s key).toArray, .agg (u8s nonce).toArray, .slice none 0 0, .slice A b.length cap] w' fun e w'' => ∃ A c, e = .returned (.tuple #[.slice A 0 c, .int .i64 2]) ∧ Chg none_ w' w'') := Lib.hid (fun w' => by
      have hl : (b).length < 16 := by exact hshort
      have := Open_short key nonce [] (b) none A 0 cap w' hl
      rw [short_open key nonce [] _ hl] at this
      refine this.mono ?_
      rintro e w' ⟨v, rfl, ho, hc⟩
      obtain ⟨A, c, rfl, _, _⟩ := ho.viewLt
      exact ⟨A, c, rfl, hc⟩)
    clear hk hkb hn hv hbb hz hZ16 hcap hmax hlong hshort
    go_enter Try.func8, Try.ntmps8
    go_wp2_with (first | ((with_reducible show wpList _ _ _ (⟨some 3, .box 22 _, _, _, _, _⟩ :: _) _ _); refine wpList_box_Row rfl rfl (u8s key) rfl ?_; intro wK hrK hcK hsK; have HRK := Lib.hid hrK; have HCK := Lib.hid hcK; clear hrK hcK hsK) | ((with_reducible show wpList _ _ _ (⟨some 4, .box 28 _, _, _, _, _⟩ :: _) _ _); refine wpList_box_Row rfl rfl (u8s nonce) rfl ?_; intro wN hrN hcN hsN; have HRN := Lib.hid hrN; have HCN := Lib.hid (HCK.out.trans hcN); have HRK1 := Lib.hid (HRK.out.chg hcN (fun h => h)); clear hrN hcN hsN) | (go_at_call 9; refine (alive_any _).mono ?_; rintro e w3 ⟨rfl, hc3⟩; have HC3 := Lib.hid (HCN.out.trans hc3); have HRK3 := Lib.hid (HRK1.out.chg hc3 (fun h => h)); have HRN3 := Lib.hid (HRN.out.chg hc3 (fun h => h)); clear hc3) | ((with_reducible show wpList _ _ _ (⟨some 17, .load 22 _, _, _, _, _⟩ :: _) _ _); refine wpList_load_Row rfl rfl rfl (HRK3.out) Try.underlying22 rfl (by rw [u8s_length, HKL.out]; exact size22) ?_) | ((with_reducible show wpList _ _ _ (⟨some 18, .load 28 _, _, _, _, _⟩ :: _) _ _); refine wpList_load_Row rfl rfl rfl (HRN3.out) Try.underlying28 rfl (by rw [u8s_length, HNL.out]; exact sizeN12) ?_) | (go_at_call 14; refine (HO.out _).mono ?_; rintro e w4 ⟨A4, c4, rfl, hc4⟩; have HC4 := Lib.hid (HC3.out.trans hc4); have HRK4 := Lib.hid (HRK3.out.chg hc4 (fun h => h)); clear hc4) | ((with_reducible show wpList _ _ _ (⟨some 31, .load 22 _, _, _, _, _⟩ :: _) _ _); refine wpList_load_Row rfl rfl rfl (HRK4.out) Try.underlying22 rfl (by rw [u8s_length, HKL.out]; exact size22) ?_) | (go_at_call 12; refine (HSM.out _).mono ?_; rintro e w5 ⟨rfl, hc5⟩; have HC5 := Lib.hid (HC4.out.trans hc5); have HRK5 := Lib.hid (HRK4.out.chg hc5 (fun h => h)); clear hc5) | ((with_reducible show wpList _ _ _ (⟨some 33, _, _, _, _, _⟩ :: _) _ _); refine wpList_val rfl (.agg (u8s Z16).toArray) (fun w => by have := HZ16.out w; unfold execOp; simp [Act.eval, this]) ?_) | ((with_reducible show wpList _ _ _ (⟨some 34, _, _, _, _, _⟩ :: _) _ _); refine wpList_eql rfl 22 _ _ _ rfl (u8s Z16).toArray (u8s Z16).toArray rfl rfl true (run_eqGuard_agg _ .eql 22 _ _ _ _ Try.eqGuardType22) (HEQ.out _) ?_) | ((with_reducible show wpList _ _ _ (⟨some 37, .load 22 _, _, _, _, _⟩ :: _) _ _); refine wpList_load_Row rfl rfl rfl (HRK5.out) Try.underlying22 rfl (by rw [u8s_length, HKL.out]; exact size22) ?_) | ((with_reducible show wpList _ _ _ (⟨some 38, _, _, _, _, _⟩ :: _) _ _); refine wpList_val rfl (.agg (u8s Z16).toArray) (fun w => by have := HZ16.out w; unfold execOp; simp [Act.eval, this]) ?_) | (go_at_call 10; refine (HTI.out _).mono ?_; rintro e w6 ⟨rfl, hc6⟩; have HC6 := Lib.hid (HC5.out.trans hc6); clear hc6) | ((with_reducible show wpList _ _ _ (⟨some 40, _, _, _, _, _⟩ :: _) _ _); refine wpList_val rfl (.agg (u8s Z16).toArray) (fun w => by have := HZ16.out w; unfold execOp; simp [Act.eval, this]) ?_) | ((with_reducible show wpList _ _ _ (⟨some 41, _, _, _, _, _⟩ :: _) _ _); refine wpList_eql rfl 22 _ _ _ rfl (u8s Z16).toArray (u8s Z16).toArray rfl rfl true (run_eqGuard_agg _ .eql 22 _ _ _ _ Try.eqGuardType22) (HEQ.out _) ?_))
    go_ret
    exact ⟨rfl, HC6.out⟩
end Go.Proofs.Ytmimpodbmfmeiaa
