/- Layer 2 (pnum): Full, and the document's Full. -/
import Derived.Test.YtmojgnbfcmnkmaaV2Cut
import Derived.Test.YtmojgnbfcmnkmaaBits
import Derived.BigQuiet
import Derived.Deep.QuietTactic
namespace Go.Proofs.Ytmojgnbfcmnkmaa
open Go.RowKit

theorem shl_or_i (m y : Nat) (hm : m * 256 + y < 9223372036854775808) (hy : y < 256) : bits BinOp.or IntKind.i64 ((m : Int) * 256) (y : Int) = ((m * 256 + y : Nat) : Int) := by
  have h1 := i64_or_nat (m * 256) y (Nat.lt_of_le_of_lt (Nat.le_add_right _ _) hm) (by omega)
  rw [or_256 m y hy] at h1
  rw [← h1]
  congr 1

theorem foldB_bd (l : List Nat) (hl : ∀ x ∈ l, x < 256) (h4 : l.length ≤ 4) (k : Nat) : foldB 0 (l.take k) < 4294967296 := by
  have h1 := foldB_lt (l.take k) (fun x hx => hl x (List.mem_of_mem_take hx)) 0 1 (by omega)
  have h2 : (l.take k).length ≤ 4 := by rw [List.length_take]; omega
  exact Nat.lt_of_lt_of_le h1 (by rw [Nat.one_mul]; exact Nat.pow_le_pow_right (n := 256) (by omega) h2)

set_option maxHeartbeats 1000000 in
theorem joined_any (w : World) (T : Nat → Prop) (A : Option Addr) (c : Nat) (l : List Nat) (h : View w T A l.length (u8s l)) (hl : ∀ x ∈ l, x < 256) (h4 : l.length ≤ 4) :
    Calls Try.prog 20 #[.slice A l.length c] w fun e w' => e = .returned (.int .i64 (foldB 0 l : Nat)) ∧ w = w' := by
  have HV := Lib.hid h
  have HB := Lib.hid (foldB_bd l hl h4)
  have HX := Lib.hid hl
  clear h hl
  go_enter Try.func20, Try.ntmps20
  go_wp2
  go_loop [3, 8] (fun t i => ∃ k : Nat, k ≤ l.length ∧ i = .int .i64 k ∧ t = .int .i64 ((foldB 0 (l.take k) : Nat) : Int)) (fun _ i => l.length - (intOf i).toNat)
  case atStart => exact ⟨0, Nat.zero_le _, rfl, rfl⟩
  case round =>
    obtain ⟨k, hk, rfl, rfl⟩ := hrel
    by_cases hlt : k < l.length
    · obtain ⟨b2, o2, rfl, _, _, hc2⟩ := HV.out.at_ hlt
      have hfold : foldB 0 (l.take (k + 1)) = foldB 0 (l.take k) * 256 + l.getD k 0 := by
        rw [List.take_succ_eq_append_getElem hlt, foldB_snoc]
        simp [List.getD_eq_getElem?_getD, hlt]
      have hb1 := HB.out k
      have hb2 := HB.out (k + 1)
      have hy : l.getD k 0 < 256 := by
        have := HX.out (l[k]) (List.getElem_mem hlt)
        simpa [List.getD_eq_getElem?_getD, hlt] using this
      have hor := shl_or_i (foldB 0 (l.take k)) (l.getD k 0) (by omega) hy
      rw [← hfold] at hor
      have HO := Lib.hid hor
      generalize l.getD k 0 = y at hc2 HO hy
      generalize hm : foldB 0 (l.take k) = m at HO hb1 ⊢
      clear hor hm hfold hb2
      go_wp2
      go_round
      case rel => exact ⟨k + 1, by omega, by go_num, by rw [HO.out]⟩
      case measure => simp [intOf]; omega
    · have hkn : k = l.length := by omega
      subst hkn
      go_wp2
      go_ret
      exact ⟨rfl, rfl⟩

/-- There is something to tell from. -/
def okF (la : Int) (s : Nat) : Prop := 1 ≤ s ∧ s ≤ 4 ∧ -1 ≤ la ∧ la ≤ 4611686018427387903
instance (la : Int) (s : Nat) : Decidable (okF la s) := inferInstanceAs (Decidable (_ ∧ _ ∧ _ ∧ _))
/-- What is expected, with its low bytes as the cut ones. -/
def cand (e s low : Nat) : Nat := e / 2 ^ (8 * s) * 2 ^ (8 * s) + low
/-- What is told: e is expected, c the candidate, h half the window. -/
def tell (e c h : Int) : Int := if c ≤ e - h ∧ c + 2 * h ≤ 4611686018427387903 then c + 2 * h else if e + h < c ∧ 2 * h ≤ c then c - 2 * h else c
def fullI (la : Int) (l : List Nat) : Int := if okF la l.length then tell (la + 1) (cand (la + 1).toNat l.length (foldB 0 l) : Nat) (half l.length : Nat) else -1

theorem half_bd (s : Nat) (h1 : 1 ≤ s) (h4 : s ≤ 4) : 128 ≤ half s ∧ half s ≤ 2147483648 := by
  rcases isS_of h1 h4 with rfl | rfl | rfl | rfl <;> decide
theorem half_win (s : Nat) (h1 : 1 ≤ s) : 2 ^ (8 * s) = 2 * half s := by
  unfold half
  rw [← Nat.pow_succ', show (8 * s - 1).succ = 8 * s from by omega]

set_option maxHeartbeats 2000000 in
theorem full_yes (la : Int) (w : World) (T : Nat → Prop) (A : Option Addr) (c : Nat) (l : List Nat) (h : View w T A l.length (u8s l)) (hl : ∀ x ∈ l, x < 256) (hok : okF la l.length) :
    Calls Try.prog 14 #[.int .i64 la, .slice A l.length c] w fun e w' => e = .returned (.int .i64 (tell (la + 1) (cand (la + 1).toNat l.length (foldB 0 l) : Nat) (half l.length : Nat))) ∧ w = w' := by
  obtain ⟨h1, h4, ha, hb⟩ := hok
  have HJ := Lib.hid (joined_any w T A c l h hl h4)
  have HS := Lib.hid (isS_of h1 h4)
  obtain ⟨hh0, hh1⟩ := half_bd l.length h1 h4
  have g1 : (1 : Int) ≤ l.length := by omega
  have g4 : (l.length : Int) ≤ 4 := by omega
  have hlow : foldB 0 l < 2 ^ (8 * l.length) := by
    have := foldB_lt l hl 0 1 (by omega)
    rw [Nat.one_mul, show (256 : Nat) = 2 ^ 8 from rfl, ← Nat.pow_mul] at this
    exact this
  have hst : bits .andNot .i64 (la + 1) (2 * (half l.length : Int) - 1) = (((la + 1).toNat / 2 ^ (8 * l.length) * 2 ^ (8 * l.length) : Nat) : Int) := by
    have := i64_strike (la + 1).toNat (8 * l.length) (by omega) (by omega)
    rw [← this, half_win _ h1]
    congr 1 <;> omega
  have hle : (la + 1).toNat / 2 ^ (8 * l.length) * 2 ^ (8 * l.length) ≤ (la + 1).toNat := Nat.div_mul_le_self _ _
  have hor : bits .or .i64 (((la + 1).toNat / 2 ^ (8 * l.length) * 2 ^ (8 * l.length) : Nat) : Int) ((foldB 0 l : Nat) : Int) = ((cand (la + 1).toNat l.length (foldB 0 l) : Nat) : Int) := by
    rw [half_win _ h1] at hlow hle ⊢
    rw [i64_or_nat _ _ (by omega) (by omega), ← half_win _ h1, or_parts _ _ _ (by rw [half_win _ h1]; exact hlow)]
    rfl
  have hc : cand (la + 1).toNat l.length (foldB 0 l) < 4611686022722355200 := by
    unfold cand
    rw [half_win _ h1] at hlow
    omega
  generalize hC : cand (la + 1).toNat l.length (foldB 0 l) = C at hor hc ⊢
  generalize hB : (la + 1).toNat / 2 ^ (8 * l.length) * 2 ^ (8 * l.length) = B at hst hor hle
  have H1 := Lib.hid hst
  have H2 := Lib.hid hor
  clear hst hor hC hB hlow hl h hle
  by_cases hla : la = -1
  · have b0 : (la != -1) = false := by simpa using hla
    have HLA := Lib.hid hla
    clear hla
    go_enter Try.func14, Try.ntmps14
    go_wp2_with (first | (go_at_call 18; refine (issize_yes _ _ g1 g4).mono ?_; rintro e w' ⟨rfl, rfl⟩) | (go_at_call 19; refine (halfi_any _ HS.out _).mono ?_; rintro e w' ⟨rfl, rfl⟩))
    rw [H1.out]
    refine HJ.out.mono ?_
    rintro e w' ⟨rfl, rfl⟩
    have hor := H2.out
    go_wp2
    all_goals
      go_ret
      exact ⟨ret_i64 (by unfold tell; repeat' split
                         all_goals omega), rfl⟩
  · have b0 : (la != -1) = true := by simpa using hla
    have a0 : 0 ≤ la := by omega
    go_enter Try.func14, Try.ntmps14
    go_wp2_with (first | (go_at_call 18; refine (issize_yes _ _ g1 g4).mono ?_; rintro e w' ⟨rfl, rfl⟩) | (go_at_call 16; refine (isnum_yes _ _ a0 hb).mono ?_; rintro e w' ⟨rfl, rfl⟩) | (go_at_call 19; refine (halfi_any _ HS.out _).mono ?_; rintro e w' ⟨rfl, rfl⟩))
    rw [H1.out]
    refine HJ.out.mono ?_
    rintro e w' ⟨rfl, rfl⟩
    have hor := H2.out
    go_wp2
    all_goals
      go_ret
      exact ⟨ret_i64 (by unfold tell; repeat' split
                         all_goals omega), rfl⟩

theorem full_no (la : Int) (w : World) (A : Option Addr) (c n : Nat) (hm : n ≤ maxLen) (hok : ¬ okF la n) :
    Calls Try.prog 14 #[.int .i64 la, .slice A n c] w fun e w' => e = .returned (.int .i64 (-1)) ∧ w = w' := by
  unfold okF at hok
  unfold maxLen at hm
  by_cases hs : (n : Int) < 1 ∨ 4 < (n : Int)
  · go_enter Try.func14, Try.ntmps14
    go_wp2_with (first | (go_at_call 18; refine (issize_no _ _ hs).mono ?_; rintro e w' ⟨rfl, rfl⟩))
    go_ret
    exact ⟨rfl, rfl⟩
  · have g1 : (1 : Int) ≤ n := by omega
    have g4 : (n : Int) ≤ 4 := by omega
    have hn : la < 0 ∨ 4611686018427387903 < la := by omega
    have b0 : (la != -1) = true := by simp; omega
    clear hok hs
    go_enter Try.func14, Try.ntmps14
    go_wp2_with (first | (go_at_call 18; refine (issize_yes _ _ g1 g4).mono ?_; rintro e w' ⟨rfl, rfl⟩) | (go_at_call 16; refine (isnum_no _ _ hn).mono ?_; rintro e w' ⟨rfl, rfl⟩))
    go_ret
    exact ⟨rfl, rfl⟩

theorem full_any (la : Int) (w : World) (T : Nat → Prop) (A : Option Addr) (c : Nat) (l : List Nat) (h : View w T A l.length (u8s l)) (hl : ∀ x ∈ l, x < 256) (hm : l.length ≤ maxLen) :
    Calls Try.prog 14 #[.int .i64 la, .slice A l.length c] w fun e w' => e = .returned (.int .i64 (fullI la l)) ∧ w = w' := by
  by_cases hok : okF la l.length
  · have e : fullI la l = tell (la + 1) (cand (la + 1).toNat l.length (foldB 0 l) : Nat) (half l.length : Nat) := if_pos hok
    rw [e]; exact full_yes la w T A c l h hl hok
  · have e : fullI la l = -1 := if_neg hok
    rw [e]; exact full_no la w A c l.length hm hok

theorem rfull_no (la : Int) (w : World) (A : Option Addr) (c n : Nat) (hm : n ≤ maxLen) (hok : ¬ okF la n) :
    Calls Try.prog 15 #[.int .i64 la, .slice A n c] w fun e w' => e = .returned (.int .i64 (-1)) ∧ w = w' := by
  unfold okF at hok
  unfold maxLen at hm
  have hn : (n : Int) < 1 ∨ (1 ≤ (n : Int) ∧ (4 : Int) < n) ∨ (1 ≤ (n : Int) ∧ ¬ (4 : Int) < n ∧ la < -1) ∨ (1 ≤ (n : Int) ∧ ¬ (4 : Int) < n ∧ ¬ la < -1 ∧ 4611686018427387903 < la) := by omega
  clear hok
  rcases hn with h | ⟨_, h⟩ | ⟨_, _, h⟩ | ⟨_, _, _, h⟩
  all_goals
    go_enter Try.func15, Try.ntmps15
    go_wp2
    go_ret
    exact ⟨rfl, rfl⟩

set_option maxHeartbeats 2000000 in
theorem rfull_yes (la : Int) (w : World) (T : Nat → Prop) (A : Option Addr) (c : Nat) (l : List Nat) (h : View w T A l.length (u8s l)) (hl : ∀ x ∈ l, x < 256) (hok : okF la l.length) :
    Calls Try.prog 15 #[.int .i64 la, .slice A l.length c] w fun e w' => e = .returned (.int .i64 (tell (la + 1) (cand (la + 1).toNat l.length (foldB 0 l) : Nat) (half l.length : Nat))) ∧ w = w' := by
  obtain ⟨h1, h4, ha, hb⟩ := hok
  have HV := Lib.hid h
  have HB := Lib.hid (foldB_bd l hl h4)
  have HX := Lib.hid hl
  have g1 : ¬ (l.length : Int) < 1 := by omega
  have g4 : ¬ (4 : Int) < l.length := by omega
  have g2 : ¬ la < -1 := by omega
  have g3 : ¬ 4611686018427387903 < la := by omega
  have HP : Hid (∀ k, k ≤ 4 → 1 ≤ 256 ^ k ∧ 256 ^ k ≤ 4294967296) := fun k hk => ⟨Nat.pow_pos (by omega), Nat.pow_le_pow_right (n := 256) (by omega) hk⟩
  clear h hl
  go_enter Try.func15, Try.ntmps15
  go_wp2
  go_loop [5, 6, 7] (fun p t i => ∃ k : Nat, k ≤ l.length ∧ i = .int .i64 k ∧ p = .int .i64 ((256 ^ k : Nat) : Int) ∧ t = .int .i64 ((foldB 0 (l.take k) : Nat) : Int)) (fun _ _ i => l.length - (intOf i).toNat)
  case atStart => exact ⟨0, Nat.zero_le _, rfl, rfl, rfl⟩
  case round =>
    obtain ⟨k, hk, rfl, rfl, rfl⟩ := hrel
    by_cases hlt : k < l.length
    · obtain ⟨b2, o2, rfl, _, _, hc2⟩ := HV.out.at_ hlt
      have hfold : foldB 0 (l.take (k + 1)) = foldB 0 (l.take k) * 256 + l.getD k 0 := by
        rw [List.take_succ_eq_append_getElem hlt, foldB_snoc]
        simp [List.getD_eq_getElem?_getD, hlt]
      have hb1 := HB.out k
      have hb2 := HB.out (k + 1)
      have hy : l.getD k 0 < 256 := by
        have := HX.out (l[k]) (List.getElem_mem hlt)
        simpa [List.getD_eq_getElem?_getD, hlt] using this
      have hp := HP.out k (by omega)
      have HF := Lib.hid hfold
      have HPS : Hid (256 ^ (k + 1) = 256 ^ k * 256) := Nat.pow_succ 256 k
      generalize l.getD k 0 = y at hc2 hy HF
      generalize 256 ^ k = q at hp HPS ⊢
      generalize foldB 0 (l.take k) = m at HF hb1 ⊢
      clear hfold hb2
      go_wp2
      go_round
      case rel => exact ⟨k + 1, by omega, by go_num, by rw [HPS.out]; go_num, by rw [HF.out]; go_num⟩
      case measure => simp [intOf]; omega
    · have hkn : k = l.length := by omega
      subst hkn
      have hw : 256 ^ l.length = 2 * half l.length := by
        rw [← half_win _ h1, show (256 : Nat) = 2 ^ 8 from rfl, ← Nat.pow_mul]
      obtain ⟨hh0, hh1⟩ := half_bd l.length h1 h4
      have hb1 := HB.out l.length
      rw [List.take_length] at hb1 ⊢
      obtain ⟨E, hE⟩ : ∃ E : Nat, la + 1 = (E : Int) := ⟨(la + 1).toNat, by omega⟩
      have hcd : cand E l.length (foldB 0 l) = E / 256 ^ l.length * 256 ^ l.length + foldB 0 l := by unfold cand; rw [half_win _ h1, hw]
      have hdiv : (la + 1) / ((256 ^ l.length : Nat) : Int) = ((E / 256 ^ l.length : Nat) : Int) := by rw [hE]; rfl
      have hmul : ((E / 256 ^ l.length : Nat) : Int) * ((256 ^ l.length : Nat) : Int) = ((E / 256 ^ l.length * 256 ^ l.length : Nat) : Int) := by rfl
      have hle : E / 256 ^ l.length * 256 ^ l.length ≤ E := Nat.div_mul_le_self _ _
      have hqle : E / 256 ^ l.length ≤ E := Nat.div_le_self _ _
      have HC := Lib.hid hcd
      have HE := Lib.hid hE
      have HW := Lib.hid hw
      have hEb : E ≤ 4611686018427387904 := by omega
      have hW0 : 256 ≤ 256 ^ l.length := by rw [hw]; omega
      have hW1 : 256 ^ l.length ≤ 4294967296 := by rw [hw]; omega
      clear hw hcd hE
      generalize E / 256 ^ l.length * 256 ^ l.length = p at hmul hle HC
      generalize E / 256 ^ l.length = q at hdiv hmul hqle
      generalize 256 ^ l.length = W at hdiv hmul HW hW0 hW1 ⊢
      go_wp2
      all_goals
        go_ret
        have hc := HC.out
        have hw := HW.out
        have hE := HE.out
        have e1 : (la + 1).toNat = E := by omega
        rw [e1, hc]
        exact ⟨ret_i64 (by unfold tell; repeat' split
                           all_goals omega), rfl⟩

theorem rfull_any (la : Int) (w : World) (T : Nat → Prop) (A : Option Addr) (c : Nat) (l : List Nat) (h : View w T A l.length (u8s l)) (hl : ∀ x ∈ l, x < 256) (hm : l.length ≤ maxLen) :
    Calls Try.prog 15 #[.int .i64 la, .slice A l.length c] w fun e w' => e = .returned (.int .i64 (fullI la l)) ∧ w = w' := by
  by_cases hok : okF la l.length
  · have e : fullI la l = tell (la + 1) (cand (la + 1).toNat l.length (foldB 0 l) : Nat) (half l.length : Nat) := if_pos hok
    rw [e]; exact rfull_yes la w T A c l h hl hok
  · have e : fullI la l = -1 := if_neg hok
    rw [e]; exact rfull_no la w A c l.length hm hok
end Go.Proofs.Ytmojgnbfcmnkmaa
