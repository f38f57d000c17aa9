/- Layer 1 (varint): the walks of VarintPuts, VarintOrder. -/
import Derived.Test.YtpandcmfpohgkaaDoorV1Alive
namespace Go.Proofs.YtpandcmfpohgkaaDoor
open Go.RowKit

theorem walk_puts (n : Nat) (s : Int) (w : World) (hT : Tab w) : Calls Tryd.prog 3 #[.int .u64 n, .int .i64 s] w fun e w' => e = .returned (.bool true) ∧ Chg none_ w w' := by
  have HT := Lib.hid hT
  clear hT
  go_enter Tryd.func3, Tryd.ntmps3
  go_wp2_with fail
  refine (alive_any _ HT.out).mono ?_
  rintro e w1 ⟨rfl, hc⟩
  have C1 := Lib.hid hc
  clear hc
  go_wp2_with fail
  refine (size_any n _).mono ?_
  rintro e w2 ⟨rfl, rfl⟩
  go_wp2_with fail
  refine (rsize_any n _).mono ?_
  rintro e w2 ⟨rfl, rfl⟩
  go_wp2_with fail
  refine (put_any n _ (HT.out.chg C1.out (fun h => h))).mono ?_
  rintro e w2 ⟨v, rfl, hv⟩
  obtain ⟨A2, cap2, rfl, hv2⟩ := hv.view
  have C2 := Lib.hid (C1.out.trans hv.1)
  have V2 := Lib.hid hv2
  clear hv hv2
  go_wp2_with fail
  refine (rput_any n _).mono ?_
  rintro e w3 ⟨v, rfl, hv⟩
  obtain ⟨A3, cap3, rfl, hv3⟩ := hv.view
  have C3 := Lib.hid (C2.out.trans hv.1)
  have V23 := Lib.hid (V2.out.chg hv.1 (fun _ _ h => h))
  have V3 := Lib.hid hv3
  clear hv hv3
  have hl : (wideB n (szN n)).length ≤ 1000000 := by
    unfold wideB
    split
    · rename_i h
      rw [be_len]
      rcases h.1 with h | h | h | h <;> rw [h] <;> decide
    · decide
  go_wp2_with fail
  refine (same_any _ _ _ A2 A3 cap2 cap3 _ _ V23.out V3.out hl).mono ?_
  rintro e w4 ⟨rfl, k, rfl⟩
  rw [show decide (wideB n (szN n) = wideB n (szN n)) = true from by simp]
  have C4 := Lib.hid (C3.out.drewN k)
  generalize w3.drewN k = w4 at C4 ⊢
  clear hl
  go_wp2_with fail
  refine (wide_all n s _ (HT.out.chg C4.out (fun h => h))).mono ?_
  rintro e w5 ⟨v, rfl, hv⟩
  obtain ⟨A5, cap5, rfl, hv5⟩ := hv.view
  have C5 := Lib.hid (C4.out.trans hv.1)
  have V5 := Lib.hid hv5
  clear hv hv5
  go_wp2_with fail
  refine (rwide_all n s _).mono ?_
  rintro e w6 ⟨v, rfl, hv⟩
  obtain ⟨A6, cap6, rfl, hv6⟩ := hv.view
  have C6 := Lib.hid (C5.out.trans hv.1)
  have V56 := Lib.hid (V5.out.chg hv.1 (fun _ _ h => h))
  have V6 := Lib.hid hv6
  clear hv hv6
  have hl : (wideB n s).length ≤ 1000000 := by
    unfold wideB
    split
    · rename_i h
      rw [be_len]
      rcases h.1 with h | h | h | h <;> rw [h] <;> decide
    · decide
  go_wp2_with fail
  refine (same_any _ _ _ A5 A6 cap5 cap6 _ _ V56.out V6.out hl).mono ?_
  rintro e w7 ⟨rfl, k, rfl⟩
  rw [show decide (wideB n s = wideB n s) = true from by simp]
  have C7 := Lib.hid (C6.out.drewN k)
  generalize w6.drewN k = w7 at C7 ⊢
  clear hl
  go_wp2
  go_ret
  exact ⟨rfl, C7.out⟩

theorem nat_of_wf {k : IntKind} {x : Int} (h : (Lit.int k x).wf = true) (hk : k.min = 0) : ∃ n : Nat, x = (n : Int) := by
  have : decide (k.min ≤ x) = true := by
    have h2 : (decide (k.min ≤ x) && decide (x ≤ k.max)) = true := h
    simp only [Bool.and_eq_true] at h2
    exact h2.1
  rw [hk] at this
  exact ⟨x.toNat, by simp at this; omega⟩

theorem walk_VarintPuts (a0 a1 : Int) (w : World) (w0 : (Lit.int .u64 a0).wf = true) (_ : (Lit.int .i64 a1).wf = true) (hT : Tab w) : Calls Tryd.prog 3 #[.int .u64 a0, .int .i64 a1] w fun e w' => e = .returned (.bool true) ∧ Chg none_ w w' := by
  obtain ⟨n, rfl⟩ := nat_of_wf w0 rfl
  exact walk_puts n a1 w hT
end Go.Proofs.YtpandcmfpohgkaaDoor
