/- Layer 8 (aes): the walks of the laws AesApart and AesBytes. -/
import Derived.Test.YtbohpnbiemokpaaV8Alive
import Derived.Test.YtbohpnbiemokpaaV8RSmall
import Derived.Test.YtbohpnbiemokpaaV8Inj
import Derived.Test.YtbohpnbiemokpaaBytes
namespace Go.Proofs.Ytbohpnbiemokpaa
open Go.RowKit

theorem u8_nat {x : Int} (h : (Lit.int .u8 x).wf = true) : ∃ n : Nat, x = (n : Int) ∧ n < 256 := by
  have h2 : (decide (0 ≤ x) && decide (x ≤ 255)) = true := h
  simp only [Bool.and_eq_true, decide_eq_true_eq] at h2
  exact ⟨x.toNat, by omega, by omega⟩

set_option maxRecDepth 100000 in
theorem walk_AesApart (a0 b0 c0 : Int) (W : World) (ha0 : (Lit.int .u8 a0).wf = true) (hb0 : (Lit.int .u8 b0).wf = true) (hc0 : (Lit.int .u8 c0).wf = true) :
    Calls Try.prog 7 #[.int .u8 a0, .int .u8 b0, .int .u8 c0] W fun e w' => e = .returned (.bool true) ∧ Chg none_ W w' := by
  obtain ⟨a, rfl, ha⟩ := u8_nat ha0
  obtain ⟨b, rfl, hb⟩ := u8_nat hb0
  obtain ⟨c, rfl, hc⟩ := u8_nat hc0
  clear ha0 hb0 hc0
  have HBA := Lib.hid (fun w => box_any a ha w)
  have HBB := Lib.hid (fun w => box_any b hb w)
  have HT1 := Lib.hid (fun w => times_any a b ha hb w)
  have HT2 : Hid (∀ w, Calls Try.prog 11 #[.int .u8 b, .int .u8 a] w fun e w' => e = .returned (.int .u8 (mulN a b : Nat)) ∧ w = w') := Lib.hid (fun w => by rw [mul_comm ha hb]; exact times_any b a hb ha w)
  have HT3 : Hid (∀ w, Calls Try.prog 11 #[.int .u8 a, .int .u8 (b ^^^ c : Nat)] w fun e w' => e = .returned (.int .u8 (mulN a b ^^^ mulN a c : Nat)) ∧ w = w') := Lib.hid (fun w => by rw [← mulN_xor_b a b c]; exact times_any a _ ha (xor8_lt hb hc) w)
  have HT5 := Lib.hid (fun w => times_any a c ha hc w)
  have HT6 : Hid (∀ w, Calls Try.prog 11 #[.int .u8 a, .int .u8 1] w fun e w' => e = .returned (.int .u8 a) ∧ w = w') := Lib.hid (fun w => by have := times_any a 1 ha (by decide) w; rw [mul_one ha] at this; exact this)
  have hx1 := u8_xor_nat b c hb hc
  have hx2 := u8_xor_nat (mulN a b) (mulN a c) (mulN_lt b ha) (mulN_lt c ha)
  have hbe : (((sbox a : Int) == (sbox b : Int)) == ((a : Int) == (b : Int))) = true := by
    by_cases e : a = b
    · subst e; simp
    · have : ¬ sbox a = sbox b := fun h => e (sbox_inj a ha b hb h)
      have k1 : ((sbox a : Int) == (sbox b : Int)) = false := by simp; omega
      have k2 : ((a : Int) == (b : Int)) = false := by simp; omega
      rw [k1, k2]; rfl
  generalize sbox a = sa at hbe HBA
  generalize sbox b = sb at hbe HBB
  generalize mulN a b = mab at HT1 HT2 HT3 hx2
  generalize mulN a c = mac at HT5 HT3 hx2
  have q1 : ((mab : Int) == (mab : Int)) = true := by simp
  go_enter Try.func7, Try.ntmps7
  go_wp2_with (first | (go_at_call 10; refine (alive_any _).mono ?_; rintro e w1 ⟨rfl, hc1⟩; have HC1 := Lib.hid hc1; clear hc1) | (go_at_call 13; first | (with_reducible refine (HBA.out _).mono ?_; rintro e w2 ⟨rfl, hc2⟩; have HC2 := Lib.hid hc2; clear hc2) | (with_reducible refine (HBB.out _).mono ?_; rintro e w3 ⟨rfl, hc3⟩; have HC3 := Lib.hid hc3; clear hc3)) | (go_at_call 11; first | (with_reducible refine (HT1.out _).mono ?_; rintro e wt1 ⟨rfl, rfl⟩) | (with_reducible refine (HT2.out _).mono ?_; rintro e wt2 ⟨rfl, rfl⟩) | (with_reducible refine (HT3.out _).mono ?_; rintro e wt3 ⟨rfl, rfl⟩) | (with_reducible refine (HT1.out _).mono ?_; rintro e wt4 ⟨rfl, rfl⟩) | (with_reducible refine (HT5.out _).mono ?_; rintro e wt5 ⟨rfl, rfl⟩) | (with_reducible refine (HT6.out _).mono ?_; rintro e wt6 ⟨rfl, rfl⟩)))
  go_ret
  exact ⟨rfl, (HC1.out.trans HC2.out).trans HC3.out⟩

set_option maxRecDepth 100000 in
theorem walk_AesBytes (a0 b0 : Int) (W : World) (ha0 : (Lit.int .u8 a0).wf = true) (hb0 : (Lit.int .u8 b0).wf = true) :
    Calls Try.prog 3 #[.int .u8 a0, .int .u8 b0] W fun e w' => e = .returned (.bool true) ∧ Chg none_ W w' := by
  obtain ⟨a, rfl, ha⟩ := u8_nat ha0
  obtain ⟨b, rfl, hb⟩ := u8_nat hb0
  clear ha0 hb0
  have HBA := Lib.hid (fun w => box_any a ha w)
  have HBR := Lib.hid (fun w => rbox_any a ha w)
  have HT := Lib.hid (fun w => times_any a b ha hb w)
  have HTR := Lib.hid (fun w => rtimes_any a b ha hb w)
  generalize sbox a = sa at HBA HBR
  generalize mulN a b = mab at HT HTR
  go_enter Try.func3, Try.ntmps3
  go_wp2_with (first | (go_at_call 10; refine (alive_any _).mono ?_; rintro e w1 ⟨rfl, hc1⟩; have HC1 := Lib.hid hc1; clear hc1) | (go_at_call 13; refine (HBA.out _).mono ?_; rintro e w2 ⟨rfl, hc2⟩; have HC2 := Lib.hid hc2; clear hc2) | (go_at_call 14; refine (HBR.out _).mono ?_; rintro e w3 ⟨rfl, rfl⟩) | (go_at_call 11; refine (HT.out _).mono ?_; rintro e w4 ⟨rfl, rfl⟩) | (go_at_call 12; refine (HTR.out _).mono ?_; rintro e w5 ⟨rfl, rfl⟩))
  go_ret
  exact ⟨rfl, HC1.out.trans HC2.out⟩
end Go.Proofs.Ytbohpnbiemokpaa
