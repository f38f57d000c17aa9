/- Layer 3 (frames): kinds of types, and what frames of each kind must have. -/
import Derived.Test.YtlcffjmbfpdlbaaDoorV3Fr
namespace Go.Proofs.YtlcffjmbfpdlbaaDoor
open Go.RowKit

theorem u64_strike (a m : Nat) (ha : a < 18446744073709551616) (hm : m ≤ 62) : bits .andNot .u64 (a : Int) ((2 ^ m - 1 : Nat) : Int) = ((a / 2 ^ m * 2 ^ m : Nat) : Int) := by
  have h2 : 2 ^ m - 1 < 2 ^ 62 := by
    have : 2 ^ m ≤ 2 ^ 62 := Nat.pow_le_pow_right (by omega) hm
    have := Nat.two_pow_pos m
    omega
  show IntKind.u64.wrap ((BitVec.ofInt 64 (a : Int) &&& ~~~BitVec.ofInt 64 ((2 ^ m - 1 : Nat) : Int)).toNat : Int) = _
  rw [BitVec.toNat_and, BitVec.toNat_not, ofInt_u64 a (by omega), ofInt_u64 (2 ^ m - 1) (by omega), show 2 ^ 64 - 1 - (2 ^ m - 1) = 2 ^ 64 - (2 ^ m - 1 + 1) from by omega, strike_low a m (by omega) (by omega)]
  have : a / 2 ^ m * 2 ^ m ≤ a := Nat.div_mul_le_self a (2 ^ m)
  exact IntWalk.u64_in _ (by omega)

/-- The kind of a type. -/
def kindM (t : Nat) : Nat := if t / 8 * 8 = 8 then 8 else if t / 2 * 2 = 2 ∨ t / 2 * 2 = 18 ∨ t / 2 * 2 = 22 ∨ t / 2 * 2 = 28 then t / 2 * 2 else t

theorem kindOf_any (t : Nat) (ht : t < 18446744073709551616) (w : World) :
    Calls Tryd.prog 57 #[.int .u64 t] w fun e w' => e = .returned (.int .u64 (kindM t)) ∧ w = w' := by
  have h7 : bits .andNot .u64 (t : Int) 7 = ((t / 8 * 8 : Nat) : Int) := u64_strike t 3 ht (by omega)
  have h1 : bits .andNot .u64 (t : Int) 1 = ((t / 2 * 2 : Nat) : Int) := u64_strike t 1 ht (by omega)
  generalize hx : t / 8 * 8 = x at h7
  generalize hy : t / 2 * 2 = y at h1
  have hk : kindM t = if x = 8 then 8 else if y = 2 ∨ y = 18 ∨ y = 22 ∨ y = 28 then y else t := by rw [← hx, ← hy]; rfl
  have HK := Lib.hid hk
  have c8 : (((x : Nat) : Int) == 8) = decide (x = 8) := by rw [Bool.eq_iff_iff]; simp; omega
  have c2 : (((y : Nat) : Int) == 2) = decide (y = 2) := by rw [Bool.eq_iff_iff]; simp; omega
  have c18 : (((y : Nat) : Int) == 18) = decide (y = 18) := by rw [Bool.eq_iff_iff]; simp; omega
  have c22 : (((y : Nat) : Int) == 22) = decide (y = 22) := by rw [Bool.eq_iff_iff]; simp; omega
  have c28 : (((y : Nat) : Int) == 28) = decide (y = 28) := by rw [Bool.eq_iff_iff]; simp; omega
  have C8 := Lib.hid c8
  have C2 := Lib.hid c2
  have C18 := Lib.hid c18
  have C22 := Lib.hid c22
  have C28 := Lib.hid c28
  clear hx hy hk c8 c2 c18 c22 c28 ht
  go_enter Tryd.func57, Tryd.ntmps57
  go_wp2
  all_goals
    have c8 := C8.out
    have c2 := C2.out
    have c18 := C18.out
    have c22 := C22.out
    have c28 := C28.out
    go_ret
    refine ⟨ret_u64 ?_, rfl⟩
    rw [HK.out]
    clear C8 C2 C18 C22 C28 HK
    simp_all

theorem hasBytes_any (cs : List Value) (A : Option Addr) (n c : Nat) (lo hi : Int) (w : World) (h6 : cs[6]? = some (.slice A n c)) :
    Calls Tryd.prog 41 #[.agg cs.toArray, .int .i64 lo, .int .i64 hi] w fun e w' => e = .returned (.bool (decide (lo ≤ (n : Int) ∧ (n : Int) ≤ hi))) ∧ Chg none_ w w' := by
  have HR := Lib.hid ((Chg.refl none_ w).alloc (.cells cs.toArray 27))
  by_cases h1 : lo ≤ (n : Int)
  · by_cases h2 : (n : Int) ≤ hi
    · go_enter Tryd.func41, Tryd.ntmps41
      go_wp2
      all_goals go_ret
      exact ⟨ret_bool (by simp [*]), HR.out⟩
    · go_enter Tryd.func41, Tryd.ntmps41
      go_wp2
      all_goals go_ret
      exact ⟨ret_bool (by simp; omega), HR.out⟩
  · go_enter Tryd.func41, Tryd.ntmps41
    go_wp2
    all_goals go_ret
    exact ⟨ret_bool (by simp; omega), HR.out⟩

theorem fits_zeros (cs : List Value) (a : Nat) (w : World) (h2 : cs[2]? = some (.int .u64 a)) :
    Calls Tryd.prog 31 #[.agg cs.toArray] w fun e w' => e = .returned (.bool (decide (1 ≤ a ∧ a ≤ 1200))) ∧ Chg none_ w w' := by
  have HR := Lib.hid ((Chg.refl none_ w).alloc (.cells cs.toArray 27))
  by_cases h1 : (1 : Int) ≤ (a : Int)
  · go_enter Tryd.func31, Tryd.ntmps31
    go_wp2
    all_goals go_ret
    all_goals exact ⟨ret_bool (by rw [Bool.eq_iff_iff]; simp; omega), HR.out⟩
  · go_enter Tryd.func31, Tryd.ntmps31
    go_wp2
    all_goals go_ret
    all_goals exact ⟨ret_bool (by simp; omega), HR.out⟩

theorem fits_streams (cs : List Value) (a : Nat) (w : World) (h2 : cs[2]? = some (.int .u64 a)) :
    Calls Tryd.prog 43 #[.agg cs.toArray] w fun e w' => e = .returned (.bool (decide (a ≤ 1152921504606846976))) ∧ Chg none_ w w' := by
  have HR := Lib.hid ((Chg.refl none_ w).alloc (.cells cs.toArray 27))
  go_enter Tryd.func43, Tryd.ntmps43
  go_wp2
  all_goals go_ret
  all_goals exact ⟨ret_bool (by rw [Bool.eq_iff_iff]; simp; omega), HR.out⟩

set_option maxRecDepth 100000 in
theorem fits_token (cs : List Value) (A : Option Addr) (n c : Nat) (w : World) (h6 : cs[6]? = some (.slice A n c)) (hl : cs.length = 24) :
    Calls Tryd.prog 40 #[.agg cs.toArray] w fun e w' => e = .returned (.bool (decide (1 ≤ n ∧ n ≤ 1200))) ∧ Chg none_ w w' := by
  have HR := Lib.hid ((Chg.refl none_ w).alloc (.cells cs.toArray 27))
  have HC := Lib.hid (hasBytes_any cs A n c 1 1200 (w.alloc (.cells cs.toArray 27)) h6)
  have HL24 := Lib.hid hl
  clear h6 hl
  go_enter Tryd.func40, Tryd.ntmps40
  go_wp2_with (first | (refine wb27 rfl rfl rfl HL24.out ?_) | (go_at_call 41; refine HC.out.mono ?_; rintro e w' ⟨rfl, hc⟩))
  go_ret
  exact ⟨ret_bool (by rw [Bool.eq_iff_iff]; simp; omega), HR.out.trans hc⟩

set_option maxRecDepth 100000 in
theorem fits_close (cs : List Value) (A : Option Addr) (n c : Nat) (w : World) (h6 : cs[6]? = some (.slice A n c)) (hl : cs.length = 24) :
    Calls Tryd.prog 50 #[.agg cs.toArray] w fun e w' => e = .returned (.bool (decide (n ≤ 1200))) ∧ Chg none_ w w' := by
  have HR := Lib.hid ((Chg.refl none_ w).alloc (.cells cs.toArray 27))
  have HC := Lib.hid (hasBytes_any cs A n c 0 1200 (w.alloc (.cells cs.toArray 27)) h6)
  have HL24 := Lib.hid hl
  clear h6 hl
  go_enter Tryd.func50, Tryd.ntmps50
  go_wp2_with (first | (refine wb27 rfl rfl rfl HL24.out ?_) | (go_at_call 41; refine HC.out.mono ?_; rintro e w' ⟨rfl, hc⟩))
  go_ret
  exact ⟨ret_bool (by rw [Bool.eq_iff_iff]; simp; omega), HR.out.trans hc⟩

set_option maxRecDepth 100000 in
theorem fits_challenge (cs : List Value) (A : Option Addr) (n c : Nat) (w : World) (h6 : cs[6]? = some (.slice A n c)) (hl : cs.length = 24) :
    Calls Tryd.prog 48 #[.agg cs.toArray] w fun e w' => e = .returned (.bool (decide (n = 8))) ∧ Chg none_ w w' := by
  have HR := Lib.hid ((Chg.refl none_ w).alloc (.cells cs.toArray 27))
  have HC := Lib.hid (hasBytes_any cs A n c 8 8 (w.alloc (.cells cs.toArray 27)) h6)
  have HL24 := Lib.hid hl
  clear h6 hl
  go_enter Tryd.func48, Tryd.ntmps48
  go_wp2_with (first | (refine wb27 rfl rfl rfl HL24.out ?_) | (go_at_call 41; refine HC.out.mono ?_; rintro e w' ⟨rfl, hc⟩))
  go_ret
  exact ⟨ret_bool (by rw [Bool.eq_iff_iff]; simp; omega), HR.out.trans hc⟩

set_option maxRecDepth 100000 in
theorem fits_cid (cs : List Value) (A : Option Addr) (n c a i : Nat) (w : World) (h1 : cs[1]? = some (.int .u64 i)) (h2 : cs[2]? = some (.int .u64 a)) (h6 : cs[6]? = some (.slice A n c)) (hl : cs.length = 24) :
    Calls Tryd.prog 46 #[.agg cs.toArray] w fun e w' => e = .returned (.bool (decide (a ≤ i ∧ 1 ≤ n ∧ n ≤ 20))) ∧ Chg none_ w w' := by
  have HR := Lib.hid ((Chg.refl none_ w).alloc (.cells cs.toArray 27))
  have HC := Lib.hid (hasBytes_any cs A n c 1 20 (w.alloc (.cells cs.toArray 27)) h6)
  have HL24 := Lib.hid hl
  clear h6 hl
  by_cases hai : (a : Int) ≤ (i : Int)
  · go_enter Tryd.func46, Tryd.ntmps46
    go_wp2_with (first | (refine wb27 rfl rfl rfl HL24.out ?_) | (go_at_call 41; refine HC.out.mono ?_; rintro e w' ⟨rfl, hc⟩))
    all_goals go_ret
    all_goals exact ⟨ret_bool (by rw [Bool.eq_iff_iff]; simp; omega), HR.out.trans hc⟩
  · go_enter Tryd.func46, Tryd.ntmps46
    go_wp2_with fail
    all_goals go_ret
    all_goals exact ⟨ret_bool (by rw [Bool.eq_iff_iff]; simp; omega), HR.out⟩

set_option maxRecDepth 100000 in
theorem fits_place (cs : List Value) (A : Option Addr) (n c a : Nat) (w : World) (h2 : cs[2]? = some (.int .u64 a)) (h6 : cs[6]? = some (.slice A n c)) (hl : cs.length = 24) (hn : n ≤ 1000000) :
    Calls Tryd.prog 39 #[.agg cs.toArray] w fun e w' => e = .returned (.bool (decide (n ≤ 1200 ∧ a + n ≤ 4611686018427387903))) ∧ Chg none_ w w' := by
  have HR := Lib.hid ((Chg.refl none_ w).alloc (.cells cs.toArray 27))
  have HC := Lib.hid (hasBytes_any cs A n c 0 1200 (w.alloc (.cells cs.toArray 27)) h6)
  by_cases hai : n ≤ 1200
  · have hd : decide ((0 : Int) ≤ (n : Int) ∧ (n : Int) ≤ 1200) = true := by simp; omega
    rw [hd] at HC
    have hlt : ∀ w' : World, Chg none_ (w.alloc (.cells cs.toArray 27)) w' → w'.cell? ⟨w.heap.size, 2, none⟩ = some (.int .u64 a) ∧ w'.cell? ⟨w.heap.size, 6, none⟩ = some (.slice A n c) := fun w' hc => by
      have hr := (Row.new w 27 cs).chg hc (fun h => h)
      exact ⟨(hr.cell 2).trans h2, (hr.cell 6).trans h6⟩
    have HL := Lib.hid hlt
    have HL24 := Lib.hid hl
    clear h6 h2 hl hd hlt
    go_enter Tryd.func39, Tryd.ntmps39
    go_wp2_with (refine wb27 rfl rfl rfl HL24.out ?_)
    refine HC.out.mono ?_
    rintro e w' ⟨rfl, hc⟩
    obtain ⟨hc2, hc6⟩ := HL.out w' hc
    have HC2 := Lib.hid hc
    clear hc
    go_wp2
    all_goals go_ret
    all_goals exact ⟨ret_bool (by rw [Bool.eq_iff_iff]; simp; omega), HR.out.trans HC2.out⟩
  · have hd : decide ((0 : Int) ≤ (n : Int) ∧ (n : Int) ≤ 1200) = false := by simp; omega
    rw [hd] at HC
    have HL24 := Lib.hid hl
    clear h6 h2 hl hd
    go_enter Tryd.func39, Tryd.ntmps39
    go_wp2_with (refine wb27 rfl rfl rfl HL24.out ?_)
    refine HC.out.mono ?_
    rintro e w' ⟨rfl, hc⟩
    go_wp2
    all_goals go_ret
    all_goals exact ⟨ret_bool (by rw [Bool.eq_iff_iff]; simp; omega), HR.out.trans hc⟩
end Go.Proofs.YtlcffjmbfpdlbaaDoor
