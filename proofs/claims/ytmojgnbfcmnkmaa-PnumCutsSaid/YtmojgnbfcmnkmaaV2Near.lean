/- Layer 2 (pnum): the walk of PnumNear. -/
import Derived.Test.YtmojgnbfcmnkmaaV2Laws
namespace Go.Proofs.Ytmojgnbfcmnkmaa
open Go.RowKit

theorem wrap_win (s : Nat) (h1 : 1 ≤ s) (h4 : s ≤ 4) : wrap64 (2 ^ (8 * s)) = ((2 ^ (8 * s) : Nat) : Int) := by
  rcases isS_of h1 h4 with rfl | rfl | rfl | rfl <;> first | decide +kernel | rfl | simp [wrap64]

theorem near_no (la : Int) (xs : List Nat) (a : Option Addr) (cap : Nat) (w : World) (hb : xs.length ≤ maxLen) (hv : View w (fun _ => True) a xs.length (u8s xs)) (hx : ∀ x ∈ xs, x < 256) (hok : ¬ okF la xs.length) :
    Calls Try.prog 6 #[.int .i64 la, .slice a xs.length cap] w fun e w' => e = .returned (.bool true) ∧ Chg none_ w w' := by
  have HV := Lib.hid hv
  have HX := Lib.hid hx
  have HB := Lib.hid hb
  have e : fullI la xs = -1 := if_neg hok
  unfold okF at hok
  unfold maxLen at hb
  have hn : (xs.length : Int) < 1 ∨ (¬ (xs.length : Int) < 1 ∧ (4 : Int) < xs.length) ∨ (¬ (xs.length : Int) < 1 ∧ ¬ (4 : Int) < xs.length ∧ la < -1) ∨ (¬ (xs.length : Int) < 1 ∧ ¬ (4 : Int) < xs.length ∧ ¬ la < -1 ∧ 4611686018427387903 < la) := by omega
  clear hv hx hok
  rcases hn with h | ⟨_, h⟩ | ⟨_, _, h⟩ | ⟨_, _, _, h⟩
  all_goals
    go_enter Try.func6, Try.ntmps6
    go_wp2_with fail
    refine (palive_any _).mono ?_
    rintro _ w1 ⟨rfl, hc⟩
    have C1 := Lib.hid hc
    have V1 := Lib.hid (HV.out.chg hc (fun _ _ h => h))
    clear hc
    go_wp2_with fail
    refine (full_any la w1 _ a cap xs V1.out HX.out HB.out).mono ?_
    rintro _ w' ⟨rfl, rfl⟩
    rw [e]
    go_wp2
    go_ret
    exact ⟨rfl, C1.out⟩

set_option maxHeartbeats 1000000 in
theorem near_yes (la : Int) (xs : List Nat) (a : Option Addr) (cap : Nat) (w : World) (hv : View w (fun _ => True) a xs.length (u8s xs)) (hx : ∀ x ∈ xs, x < 256) (hok : okF la xs.length) :
    Calls Try.prog 6 #[.int .i64 la, .slice a xs.length cap] w fun e w' => e = .returned (.bool true) ∧ Chg none_ w w' := by
  have HV := Lib.hid hv
  have HX := Lib.hid hx
  have e : fullI la xs = tell (la + 1) (cand (la + 1).toNat xs.length (foldB 0 xs) : Nat) (half xs.length : Nat) := if_pos hok
  obtain ⟨h1, h4, ha, hb⟩ := hok
  have hlow : foldB 0 xs < 2 ^ (8 * xs.length) := by
    have := foldB_lt xs hx 0 1 (by omega)
    rw [Nat.one_mul, show (256 : Nat) = 2 ^ 8 from rfl, ← Nat.pow_mul] at this
    exact this
  obtain ⟨E, hE⟩ : ∃ E : Nat, la + 1 = (E : Int) := ⟨(la + 1).toNat, by omega⟩
  have hp := tell_props E xs.length (foldB 0 xs) h1 h4 hlow
  rw [hE, Int.toNat_natCast] at e
  rw [← e] at hp
  obtain ⟨p0, p1, p2, p3, p4⟩ := hp
  rw [← hE] at p2 p3 p4
  have HF := Lib.hid (full_any la)
  have HB := Lib.hid (foldB_bd xs hx h4)
  have hb4 : xs.length ≤ maxLen := Nat.le_trans h4 (by decide)
  have hw : 2 ^ (8 * xs.length) = 2 * half xs.length := half_win _ h1
  obtain ⟨hh0, hh1⟩ := half_bd xs.length h1 h4
  have hw0 : 256 ≤ 2 ^ (8 * xs.length) := by omega
  have hw1 : 2 ^ (8 * xs.length) ≤ 4294967296 := by omega
  have e1 : wrap64 (2 ^ (8 * xs.length)) = ((2 ^ (8 * xs.length) : Nat) : Int) := wrap_win _ h1 h4
  clear e hE hv hx hlow
  generalize hF : fullI la xs = F at p0 p1 p2 p3 p4
  have HFF := Lib.hid hF
  clear hh0 hh1 hw
  generalize 2 ^ (8 * xs.length) = W at p1 p2 p3 e1 hw0 hw1
  have E1 := Lib.hid e1
  have P1 := Lib.hid p1
  have q2 : F - la - 1 < (W : Int) := by omega
  have q3 : -(W : Int) < F - la - 1 := by omega
  clear p1 p2 p3 hF e1
  go_enter Try.func6, Try.ntmps6
  go_wp2_with fail
  refine (palive_any _).mono ?_
  rintro _ w1 ⟨rfl, hc⟩
  have C1 := Lib.hid hc
  have V1 := Lib.hid (HV.out.chg hc (fun _ _ h => h))
  clear hc
  go_wp2_with fail
  refine (HF.out w1 _ a cap xs V1.out HX.out hb4).mono ?_
  rintro _ w' ⟨rfl, rfl⟩
  rw [HFF.out]
  go_wp2
  rw [E1.out]
  go_loop [7, 8] (fun t i => ∃ k : Nat, k ≤ xs.length ∧ i = .int .i64 k ∧ t = .int .i64 ((foldB 0 (xs.take k) : Nat) : Int)) (fun _ i => xs.length - (intOf i).toNat)
  case atStart => exact ⟨0, Nat.zero_le _, rfl, rfl⟩
  case round =>
    obtain ⟨k, hk, rfl, rfl⟩ := hrel
    by_cases hlt : k < xs.length
    · obtain ⟨b2, o2, rfl, _, _, hc2⟩ := V1.out.at_ hlt
      have hfold : foldB 0 (xs.take (k + 1)) = foldB 0 (xs.take k) * 256 + xs.getD k 0 := by
        rw [List.take_succ_eq_append_getElem hlt, foldB_snoc]
        simp [List.getD_eq_getElem?_getD, hlt]
      have hb1 := HB.out k
      have hy : xs.getD k 0 < 256 := by
        have := HX.out (xs[k]) (List.getElem_mem hlt)
        simpa [List.getD_eq_getElem?_getD, hlt] using this
      have HFo := Lib.hid hfold
      generalize xs.getD k 0 = y at hc2 hy HFo
      generalize foldB 0 (xs.take k) = m at HFo hb1 ⊢
      clear hfold
      go_wp2
      go_round
      case rel => exact ⟨k + 1, by omega, by go_num, by rw [HFo.out]; go_num⟩
      case measure => simp [intOf]; omega
    · have hkn : k = xs.length := by omega
      subst hkn
      rw [List.take_length]
      have p1 := P1.out
      have b1 : (F % (W : Int) == ((foldB 0 xs : Nat) : Int)) = true := by simp [p1]
      clear p1
      go_wp2
      go_ret
      exact ⟨rfl, C1.out⟩

theorem walk_PnumNear (la : Int) (a : Option Addr) (len cap : Nat) (zs : List Int) (w : World) (_ : (Lit.int .i64 la).wf = true) (h : IsRow .u8 w a len cap zs) : Calls Try.prog 6 #[.int .i64 la, .slice a len cap] w fun e w' => e = .returned (.bool true) ∧ Chg none_ w w' := by
  obtain ⟨xs, rfl, hlc, hm, hx, hv⟩ := h.u8
  by_cases hok : okF la xs.length
  · exact near_yes la xs a cap w hv hx hok
  · exact near_no la xs a cap w (Nat.le_trans hlc hm) hv hx hok
end Go.Proofs.Ytmojgnbfcmnkmaa
