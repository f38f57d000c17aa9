/- Layer 2 (pnum): the walks of PnumBack, PnumNear, PnumNext. -/
import Derived.Test.YtmojgnbfcmnkmaaV2Alive
import Derived.Test.YtmojgnbfcmnkmaaV2Math
namespace Go.Proofs.Ytmojgnbfcmnkmaa
open Go.RowKit

theorem cutB_lt (n s : Int) : ∀ x ∈ cutB n s, x < 256 := by
  unfold cutB
  split
  · exact arr_lt _ _ _
  · simp

theorem wf_u {k : IntKind} {x : Int} (h : (Lit.int k x).wf = true) : k.min ≤ x ∧ x ≤ k.max := by
  have h2 : (decide (k.min ≤ x) && decide (x ≤ k.max)) = true := h
  simpa using h2

/-- Cut, and Full of it. -/
theorem lenI_cases (n a : Int) (h : okL n a) : lenI n a = 1 ∨ lenI n a = 2 ∨ lenI n a = 3 ∨ lenI n a = 4 := by
  rw [lenI_yes h]
  have := lenD_range (n - a)
  omega

theorem walk_PnumBack (n a m0 : Int) (w : World) (_ : (Lit.int .i64 n).wf = true) (_ : (Lit.int .i64 a).wf = true) (hm : (Lit.int .u32 m0).wf = true) : Calls Try.prog 5 #[.int .i64 n, .int .i64 a, .int .u32 m0] w fun e w' => e = .returned (.bool true) ∧ Chg none_ w w' := by
  have hmb : 0 ≤ m0 ∧ m0 ≤ 4294967295 := wf_u hm
  obtain ⟨hm0, hm1⟩ := hmb
  clear hm
  by_cases hok : okL n a
  · have hok' := hok
    obtain ⟨h0, h1, h2, h3⟩ := hok'
    by_cases hbig : 1073741824 < n - a
    · have hr := lenI_cases n a hok
      have hne : ((lenI n a : Int) == 0) = false := by simp; omega
      clear hr
      go_enter Try.func5, Try.ntmps5
      go_wp2_with fail
      refine (palive_any _).mono ?_
      rintro e w1 ⟨rfl, hc⟩
      have C1 := Lib.hid hc
      clear hc
      go_wp2_with fail
      refine (length_any n a _).mono ?_
      rintro e w' ⟨rfl, rfl⟩
      go_wp2
      go_ret
      exact ⟨rfl, C1.out⟩
    · have hr := lenI_cases n a hok
      have hh := lenD_half (n - a) (by omega)
      rw [← lenI_yes hok] at hh
      have HR := Lib.hid hr
      have HH := Lib.hid hh
      clear hr hh hok
      have hsmall : n - a ≤ 1073741824 := by omega
      clear hbig
      go_enter Try.func5, Try.ntmps5
      go_wp2_with fail
      refine (palive_any _).mono ?_
      rintro e w1 ⟨rfl, hc⟩
      have C1 := Lib.hid hc
      clear hc
      go_wp2_with fail
      refine (length_any n a _).mono ?_
      rintro e w' ⟨rfl, rfl⟩
      have hr := HR.out
      have hh := HH.out
      clear HR HH
      generalize lenI n a = s at hr hh ⊢
      obtain ⟨N, rfl⟩ : ∃ N : Nat, n = (N : Int) := ⟨n.toNat, by omega⟩
      rcases hr with rfl | rfl | rfl | rfl
      · rw [half_1] at hh
        have r0 : 0 ≤ m0 % ((N : Int) - a + 128 - 1) := Int.emod_nonneg _ (by omega)
        have r1 : m0 % ((N : Int) - a + 128 - 1) < (N : Int) - a + 128 - 1 := Int.emod_lt_of_pos _ (by omega)
        by_cases hg : a + m0 % ((N : Int) - a + 128 - 1) ≤ 4611686018427387903
        · have hfull : fullI (a + m0 % ((N : Int) - a + 128 - 1)) (cutB N (1 : Nat)) = N := full_cut N 1 _ (by omega) (by omega) (by omega) (by omega) hg (by rw [half_1]; omega) (by rw [half_1]; omega)
          have HF := Lib.hid hfull
          clear hfull
          go_wp2_with fail
          refine (cut_any N (1 : Nat) _).mono ?_
          rintro e w2 ⟨v, rfl, hv⟩
          obtain ⟨A2, cap2, rfl, hv2⟩ := hv.view
          have C2 := Lib.hid (C1.out.trans hv.1)
          have V2 := Lib.hid hv2
          clear hv hv2
          have HFull := Lib.hid (full_any (a + m0 % ((N : Int) - a + 128 - 1)) w2 _ A2 cap2 _ V2.out (cutB_lt _ _) (Nat.le_trans (cutB_len _ _) (by decide)))
          rw [HF.out] at HFull
          go_wp2_with fail
          refine HFull.out.mono ?_
          rintro e w' ⟨rfl, rfl⟩
          go_wp2
          go_ret
          exact ⟨rfl, C2.out⟩
        · go_wp2
          go_ret
          exact ⟨rfl, C1.out⟩
      · rw [half_2] at hh
        have r0 : 0 ≤ m0 % ((N : Int) - a + 32768 - 1) := Int.emod_nonneg _ (by omega)
        have r1 : m0 % ((N : Int) - a + 32768 - 1) < (N : Int) - a + 32768 - 1 := Int.emod_lt_of_pos _ (by omega)
        by_cases hg : a + m0 % ((N : Int) - a + 32768 - 1) ≤ 4611686018427387903
        · have hfull : fullI (a + m0 % ((N : Int) - a + 32768 - 1)) (cutB N (2 : Nat)) = N := full_cut N 2 _ (by omega) (by omega) (by omega) (by omega) hg (by rw [half_2]; omega) (by rw [half_2]; omega)
          have HF := Lib.hid hfull
          clear hfull
          go_wp2_with fail
          refine (cut_any N (2 : Nat) _).mono ?_
          rintro e w2 ⟨v, rfl, hv⟩
          obtain ⟨A2, cap2, rfl, hv2⟩ := hv.view
          have C2 := Lib.hid (C1.out.trans hv.1)
          have V2 := Lib.hid hv2
          clear hv hv2
          have HFull := Lib.hid (full_any (a + m0 % ((N : Int) - a + 32768 - 1)) w2 _ A2 cap2 _ V2.out (cutB_lt _ _) (Nat.le_trans (cutB_len _ _) (by decide)))
          rw [HF.out] at HFull
          go_wp2_with fail
          refine HFull.out.mono ?_
          rintro e w' ⟨rfl, rfl⟩
          go_wp2
          go_ret
          exact ⟨rfl, C2.out⟩
        · go_wp2
          go_ret
          exact ⟨rfl, C1.out⟩
      · rw [half_3] at hh
        have r0 : 0 ≤ m0 % ((N : Int) - a + 8388608 - 1) := Int.emod_nonneg _ (by omega)
        have r1 : m0 % ((N : Int) - a + 8388608 - 1) < (N : Int) - a + 8388608 - 1 := Int.emod_lt_of_pos _ (by omega)
        by_cases hg : a + m0 % ((N : Int) - a + 8388608 - 1) ≤ 4611686018427387903
        · have hfull : fullI (a + m0 % ((N : Int) - a + 8388608 - 1)) (cutB N (3 : Nat)) = N := full_cut N 3 _ (by omega) (by omega) (by omega) (by omega) hg (by rw [half_3]; omega) (by rw [half_3]; omega)
          have HF := Lib.hid hfull
          clear hfull
          go_wp2_with fail
          refine (cut_any N (3 : Nat) _).mono ?_
          rintro e w2 ⟨v, rfl, hv⟩
          obtain ⟨A2, cap2, rfl, hv2⟩ := hv.view
          have C2 := Lib.hid (C1.out.trans hv.1)
          have V2 := Lib.hid hv2
          clear hv hv2
          have HFull := Lib.hid (full_any (a + m0 % ((N : Int) - a + 8388608 - 1)) w2 _ A2 cap2 _ V2.out (cutB_lt _ _) (Nat.le_trans (cutB_len _ _) (by decide)))
          rw [HF.out] at HFull
          go_wp2_with fail
          refine HFull.out.mono ?_
          rintro e w' ⟨rfl, rfl⟩
          go_wp2
          go_ret
          exact ⟨rfl, C2.out⟩
        · go_wp2
          go_ret
          exact ⟨rfl, C1.out⟩
      · rw [half_4] at hh
        have r0 : 0 ≤ m0 % ((N : Int) - a + 2147483648 - 1) := Int.emod_nonneg _ (by omega)
        have r1 : m0 % ((N : Int) - a + 2147483648 - 1) < (N : Int) - a + 2147483648 - 1 := Int.emod_lt_of_pos _ (by omega)
        by_cases hg : a + m0 % ((N : Int) - a + 2147483648 - 1) ≤ 4611686018427387903
        · have hfull : fullI (a + m0 % ((N : Int) - a + 2147483648 - 1)) (cutB N (4 : Nat)) = N := full_cut N 4 _ (by omega) (by omega) (by omega) (by omega) hg (by rw [half_4]; omega) (by rw [half_4]; omega)
          have HF := Lib.hid hfull
          clear hfull
          go_wp2_with fail
          refine (cut_any N (4 : Nat) _).mono ?_
          rintro e w2 ⟨v, rfl, hv⟩
          obtain ⟨A2, cap2, rfl, hv2⟩ := hv.view
          have C2 := Lib.hid (C1.out.trans hv.1)
          have V2 := Lib.hid hv2
          clear hv hv2
          have HFull := Lib.hid (full_any (a + m0 % ((N : Int) - a + 2147483648 - 1)) w2 _ A2 cap2 _ V2.out (cutB_lt _ _) (Nat.le_trans (cutB_len _ _) (by decide)))
          rw [HF.out] at HFull
          go_wp2_with fail
          refine HFull.out.mono ?_
          rintro e w' ⟨rfl, rfl⟩
          go_wp2
          go_ret
          exact ⟨rfl, C2.out⟩
        · go_wp2
          go_ret
          exact ⟨rfl, C1.out⟩
  · have e0 := lenI_no hok
    clear hok
    go_enter Try.func5, Try.ntmps5
    go_wp2_with fail
    refine (palive_any _).mono ?_
    rintro e w1 ⟨rfl, hc⟩
    have C1 := Lib.hid hc
    clear hc
    go_wp2_with fail
    refine (length_any n a _).mono ?_
    rintro e w' ⟨rfl, rfl⟩
    rw [e0]
    go_wp2
    go_ret
    exact ⟨rfl, C1.out⟩

theorem walk_PnumNext (a k0 : Int) (w : World) (_ : (Lit.int .i64 a).wf = true) (hk : (Lit.int .u8 k0).wf = true) : Calls Try.prog 7 #[.int .i64 a, .int .u8 k0] w fun e w' => e = .returned (.bool true) ∧ Chg none_ w w' := by
  have hkb : 0 ≤ k0 ∧ k0 ≤ 255 := wf_u hk
  obtain ⟨hk0, hk1⟩ := hkb
  clear hk
  by_cases hlo : a < -1
  · go_enter Try.func7, Try.ntmps7
    go_wp2_with fail
    refine (palive_any _).mono ?_
    rintro e w1 ⟨rfl, hc⟩
    have C1 := Lib.hid hc
    clear hc
    go_wp2
    go_ret
    exact ⟨rfl, C1.out⟩
  by_cases hhi : 4611686018427387504 < a
  · go_enter Try.func7, Try.ntmps7
    go_wp2_with fail
    refine (palive_any _).mono ?_
    rintro e w1 ⟨rfl, hc⟩
    have C1 := Lib.hid hc
    clear hc
    go_wp2
    go_ret
    exact ⟨rfl, C1.out⟩
  by_cases hz : k0 = 0
  · have e0 : lenI (a + k0) a = 0 := lenI_no (by unfold okL; omega)
    have b0 : (k0 == 0) = true := by simp [hz]
    clear hz
    go_enter Try.func7, Try.ntmps7
    go_wp2_with fail
    refine (palive_any _).mono ?_
    rintro e w1 ⟨rfl, hc⟩
    have C1 := Lib.hid hc
    clear hc
    go_wp2_with fail
    refine (length_any (a + k0) a _).mono ?_
    rintro e w' ⟨rfl, rfl⟩
    rw [e0]
    go_wp2
    go_ret
    exact ⟨rfl, C1.out⟩
  have b0 : (k0 == 0) = false := by simp [hz]
  have hok : okL (a + k0) a := by unfold okL; omega
  by_cases h7 : 127 < k0
  · have e0 : lenI (a + k0) a = 2 := by rw [lenI_yes hok, show a + k0 - a = k0 from by omega]; exact lenD_2 (by omega) (by omega)
    obtain ⟨N, hN⟩ : ∃ N : Nat, a + k0 = (N : Int) := ⟨(a + k0).toNat, by omega⟩
    have hfull : fullI a (cutB (a + k0) (2 : Nat)) = a + k0 := by rw [hN]; exact full_cut N 2 _ (by omega) (by omega) (by omega) (by omega) (by omega) (by rw [half_2]; omega) (by rw [half_2]; omega)
    have HF := Lib.hid hfull
    clear hz hok hN hfull
    go_enter Try.func7, Try.ntmps7
    go_wp2_with fail
    refine (palive_any _).mono ?_
    rintro e w1 ⟨rfl, hc⟩
    have C1 := Lib.hid hc
    clear hc
    go_wp2_with fail
    refine (length_any (a + k0) a _).mono ?_
    rintro e w' ⟨rfl, rfl⟩
    rw [e0]
    go_wp2_with fail
    refine (cut_any (a + k0) (2 : Nat) _).mono ?_
    rintro e w2 ⟨v, rfl, hv⟩
    obtain ⟨A2, cap2, rfl, hv2⟩ := hv.view
    have C2 := Lib.hid (C1.out.trans hv.1)
    have V2 := Lib.hid hv2
    clear hv hv2
    have HFull := Lib.hid (full_any a w2 _ A2 cap2 _ V2.out (cutB_lt _ _) (Nat.le_trans (cutB_len _ _) (by decide)))
    rw [HF.out] at HFull
    go_wp2_with fail
    refine HFull.out.mono ?_
    rintro e w' ⟨rfl, rfl⟩
    go_wp2
    go_ret
    exact ⟨rfl, C2.out⟩
  · have e0 : lenI (a + k0) a = 1 := by rw [lenI_yes hok, show a + k0 - a = k0 from by omega]; exact lenD_1 (by omega)
    obtain ⟨N, hN⟩ : ∃ N : Nat, a + k0 = (N : Int) := ⟨(a + k0).toNat, by omega⟩
    have hfull : fullI a (cutB (a + k0) (1 : Nat)) = a + k0 := by rw [hN]; exact full_cut N 1 _ (by omega) (by omega) (by omega) (by omega) (by omega) (by rw [half_1]; omega) (by rw [half_1]; omega)
    have HF := Lib.hid hfull
    clear hz hok hN hfull
    go_enter Try.func7, Try.ntmps7
    go_wp2_with fail
    refine (palive_any _).mono ?_
    rintro e w1 ⟨rfl, hc⟩
    have C1 := Lib.hid hc
    clear hc
    go_wp2_with fail
    refine (length_any (a + k0) a _).mono ?_
    rintro e w' ⟨rfl, rfl⟩
    rw [e0]
    go_wp2_with fail
    refine (cut_any (a + k0) (1 : Nat) _).mono ?_
    rintro e w2 ⟨v, rfl, hv⟩
    obtain ⟨A2, cap2, rfl, hv2⟩ := hv.view
    have C2 := Lib.hid (C1.out.trans hv.1)
    have V2 := Lib.hid hv2
    clear hv hv2
    have HFull := Lib.hid (full_any a w2 _ A2 cap2 _ V2.out (cutB_lt _ _) (Nat.le_trans (cutB_len _ _) (by decide)))
    rw [HF.out] at HFull
    go_wp2_with fail
    refine HFull.out.mono ?_
    rintro e w' ⟨rfl, rfl⟩
    go_wp2
    go_ret
    exact ⟨rfl, C2.out⟩
end Go.Proofs.Ytmojgnbfcmnkmaa
