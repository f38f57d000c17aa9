/- Layer 14 (rtt): the laws of the probe's time, and of smooth between all times, walked. -/
import Derived.Test.YtipfpocnapholaaV14Laws2
import Derived.IntWalk
namespace Go.Proofs.Ytipfpocnapholaa
open Go.RowKit

theorem probe_eq (s : Est) (h : s.Ok) (d k : Nat) (hk : k < 10) : probeE s d (k : Int) = probeS s d * 2 ^ k := by
  have hb := probeS_lt s h d
  unfold probeE boffN
  rw [Int.toNat_natCast]
  refine Nat.min_eq_left ?_
  have : 2 ^ k ≤ 2 ^ 9 := Nat.pow_le_pow_right (by omega) (by omega)
  have := Nat.mul_le_mul hb this
  unfold MT at this
  unfold NV
  omega

set_option maxRecDepth 100000 in
set_option maxHeartbeats 8000000 in
theorem walk_RttProbes (g0 t0 d0 n0 : Int) (w : World) (hg : (Lit.int .u64 g0).wf = true) (ht : (Lit.int .u64 t0).wf = true) (hd : (Lit.int .u64 d0).wf = true) (hn : (Lit.int .u8 n0).wf = true) :
    Calls Try.prog 6 #[.int .u64 g0, .int .u64 t0, .int .u64 d0, .int .u8 n0] w fun e w' => e = .returned (.bool true) ∧ Chg none_ w w' := by
  obtain ⟨gu, rfl⟩ := nat_of_wf hg rfl
  obtain ⟨t, rfl⟩ := nat_of_wf ht rfl
  obtain ⟨d, rfl⟩ := nat_of_wf hd rfl
  obtain ⟨n, rfl⟩ := nat_of_wf hn rfl
  have hN := u8_of_wf hn
  clear hg ht hd hn
  have HN1 : Hid (∀ w1, Chg none_ w w1 → Calls Try.prog 17 #[.int .u64 (gu : Int)] w1 fun e w' => ∃ g, e = .returned (.pointer (some ⟨g, 0, none⟩)) ∧ EO w w' g (newE gu)) := Lib.hid (fun w1 hc => (EO.new_any gu w w1 hc).mono fun _ _ ⟨a, b⟩ => ⟨_, a, b⟩)
  obtain ⟨s, hs⟩ : ∃ s, s = takeE (newE gu) t 0 := ⟨_, rfl⟩
  have HT : Hid (∀ w1 g, EO w w1 g (newE gu) → Calls Try.prog 10 #[.pointer (some ⟨g, 0, none⟩), .int .u64 (t : Int), .int .u64 0] w1 fun e w' => e = .returned (.tuple #[]) ∧ EO w w' g s) := Lib.hid (fun w1 g h => by rw [hs]; exact h.take t 0)
  have hok : s.Ok := by rw [hs]; exact takeE_ok _ (newE_ok gu) t 0
  clear hs
  obtain ⟨k, hk⟩ : ∃ k, k = n % 10 := ⟨_, rfl⟩
  have hk2 : (n : Int) % 10 = (k : Int) := by omega
  have hk3 : k < 10 := by omega
  clear hk
  obtain ⟨p, hp⟩ : ∃ p, p = probeS s 0 := ⟨_, rfl⟩
  obtain ⟨q, hq⟩ : ∃ q, q = probeS s d := ⟨_, rfl⟩
  obtain ⟨l, hl⟩ : ∃ l, l = lossE s := ⟨_, rfl⟩
  obtain ⟨sm, hsm⟩ : ∃ m, m = s.sm := ⟨_, rfl⟩
  have HP0 : Hid (∀ w1 g, EO w w1 g s → Calls Try.prog 15 #[.pointer (some ⟨g, 0, none⟩), .int .u64 0, .int .i64 0] w1 fun e w' => e = .returned (.int .u64 (p : Int)) ∧ EO w w' g s) := Lib.hid (fun w1 g h => by
    have := h.probe 0 0
    have e := probe_eq s hok 0 0 (by omega)
    rw [Nat.pow_zero, Nat.mul_one] at e
    rw [show probeE s 0 0 = p from e.trans hp.symm] at this
    exact this)
  have HPD : Hid (∀ w1 g, EO w w1 g s → Calls Try.prog 15 #[.pointer (some ⟨g, 0, none⟩), .int .u64 (d : Int), .int .i64 0] w1 fun e w' => e = .returned (.int .u64 (q : Int)) ∧ EO w w' g s) := Lib.hid (fun w1 g h => by
    have := h.probe d 0
    have e := probe_eq s hok d 0 (by omega)
    rw [Nat.pow_zero, Nat.mul_one] at e
    rw [show probeE s d 0 = q from e.trans hq.symm] at this
    exact this)
  have HPK : Hid (∀ w1 g, EO w w1 g s → Calls Try.prog 15 #[.pointer (some ⟨g, 0, none⟩), .int .u64 (d : Int), .int .i64 (k : Int)] w1 fun e w' => e = .returned (.int .u64 ((q * 2 ^ k : Nat) : Int)) ∧ EO w w' g s) := Lib.hid (fun w1 g h => by
    have := h.probe d (k : Int)
    rw [probe_eq s hok d k hk3, ← hq] at this
    exact this)
  have HS : Hid (∀ w1 g, EO w w1 g s → Calls Try.prog 11 #[.pointer (some ⟨g, 0, none⟩)] w1 fun e w' => e = .returned (.int .u64 (sm : Int)) ∧ w' = w1) := Lib.hid (fun w1 g h => by rw [hsm]; exact rSmooth_any g s w1 h.at_)
  have HL : Hid (∀ w1 g, EO w w1 g s → Calls Try.prog 16 #[.pointer (some ⟨g, 0, none⟩)] w1 fun e w' => e = .returned (.int .u64 (l : Int)) ∧ EO w w' g s) := Lib.hid (fun w1 g h => by rw [hl]; exact h.loss)
  have f1 : (p : Int) ≤ (q : Int) := by rw [hp, hq]; unfold probeS; rw [heldN_of 0 (Nat.zero_le _)]; omega
  have f2 : (sm : Int) < (p : Int) := by rw [hp, hsm]; unfold probeS; omega
  have f3 : (sm : Int) ≤ (l : Int) := by rw [hl, hsm]; unfold lossE; omega
  have f4 : q ≤ 6597069766656 := by rw [hq]; exact probeS_lt s hok d
  clear hp hq hl hsm hok
  have f5 : q * 2 ^ k < 18446744073709551616 := by
    have : 2 ^ k ≤ 2 ^ 9 := Nat.pow_le_pow_right (by omega) (by omega)
    have := Nat.mul_le_mul f4 this
    omega
  have f6 : IntKind.u64.wrap ((q : Int) * 2 ^ k) = ((q * 2 ^ k : Nat) : Int) := by
    have := wrapN (q * 2 ^ k) f5
    rw [← this]; congr 1
  have f7 : ((q : Int) * 2 ^ k) = ((q * 2 ^ k : Nat) : Int) := by simp
  generalize q * 2 ^ k = qk at *
  go_enter Try.func6, Try.ntmps6
  go_wp2_with (first | (go_at_call 9; refine (alive_any _).mono ?_; rintro e w1 ⟨rfl, hc⟩; have HC := Lib.hid hc; clear hc) | (go_at_call 17; refine (HN1.out _ HC.out).mono ?_; rintro e w9 ⟨g, rfl, h1⟩; have HE0 := Lib.hid h1; clear h1) | (go_at_call 10; refine (HT.out _ _ HE0.out).mono ?_; rintro e w8 ⟨rfl, h1⟩; have HE := Lib.hid h1; clear h1) | ((with_reducible show Calls _ _ #[_, .int .u64 0, _] _ _); go_at_call 15; refine (HP0.out _ _ HE.out).mono ?_; rintro e w8 ⟨rfl, h1⟩; have HE := Lib.hid h1; clear h1) | ((with_reducible show Calls _ _ #[_, _, .int .i64 0] _ _); go_at_call 15; refine (HPD.out _ _ HE.out).mono ?_; rintro e w8 ⟨rfl, h1⟩; have HE := Lib.hid h1; clear h1) | (go_at_call 15; refine (HPK.out _ _ HE.out).mono ?_; rintro e w8 ⟨rfl, h1⟩; have HE := Lib.hid h1; clear h1) | (go_at_call 11; refine (HS.out _ _ HE.out).mono ?_; rintro e w6 ⟨rfl, rfl⟩) | (go_at_call 16; refine (HL.out _ _ HE.out).mono ?_; rintro e w8 ⟨rfl, h1⟩; have HE := Lib.hid h1; clear h1))
  go_ret
  exact ⟨rfl, HE.out.chg⟩

/-- Smooth lies between the least and the greatest time so far. -/
def Bt (lo hi : Nat) (s : Est) : Prop := (s.an = false ∧ lo = MT ∧ hi = 0) ∨ (s.an = true ∧ s.le = lo ∧ lo ≤ s.sm ∧ s.sm ≤ hi ∧ lo ≤ MT ∧ hi ≤ MT)
theorem Bt.le {lo hi : Nat} {s : Est} (h : Bt lo hi s) : lo ≤ MT ∧ hi ≤ MT := by
  rcases h with ⟨_, rfl, rfl⟩ | ⟨_, _, _, _, h1, h2⟩
  · exact ⟨Nat.le_refl _, Nat.zero_le _⟩
  · exact ⟨h1, h2⟩
theorem Bt.next {lo hi : Nat} {s : Est} (h : Bt lo hi s) (x : Nat) : Bt (min lo (heldN x)) (max hi (heldN x)) (takeE s x 0) ∧ min lo (heldN x) ≤ (takeE s x 0).sm ∧ (takeE s x 0).sm ≤ max hi (heldN x) ∧ (takeE s x 0).le = min lo (heldN x) := by
  have ht := heldN_le x
  unfold takeE
  rw [heldN_of 0 (Nat.zero_le _)]
  generalize heldN x = t at *
  rcases h with ⟨h1, rfl, rfl⟩ | ⟨h1, h2, h3, h4, h5, h6⟩
  · have e : takeH s t 0 = ⟨t, t / 2, t, t, true⟩ := by unfold takeH; rw [if_pos h1]
    rw [e]
    have e1 : min MT t = t := by omega
    have e2 : max 0 t = t := by omega
    rw [e1, e2]
    exact ⟨Or.inr ⟨rfl, rfl, Nat.le_refl _, Nat.le_refl _, ht, ht⟩, Nat.le_refl _, Nat.le_refl _, rfl⟩
  · have e : takeH s t 0 = ⟨(7 * s.sm + t) / 8, (3 * s.vr + farN s.sm t) / 4, min lo t, t, true⟩ := by
      unfold takeH
      rw [if_neg (by rw [h1]; decide), h2]
      have : adjN t 0 (min lo t) = t := by unfold adjN; split <;> omega
      rw [this]
    rw [e]
    have k1 : min lo t ≤ (7 * s.sm + t) / 8 := by omega
    have k2 : (7 * s.sm + t) / 8 ≤ max hi t := by omega
    exact ⟨Or.inr ⟨rfl, rfl, k1, k2, by omega, by omega⟩, k1, k2, rfl⟩

theorem ints_nat {xs : List Int} (h : ∀ x ∈ xs, (Lit.int .u64 x).wf = true) {k : Nat} (hk : k < xs.length) : ∃ x : Nat, x < 18446744073709551616 ∧ (ints .u64 xs)[k]? = some (.int .u64 (x : Int)) := by
  have hm := h _ (List.getElem_mem hk)
  obtain ⟨x, hx⟩ := nat_of_wf hm rfl
  refine ⟨x, u64_of_wf (by rw [← hx]; exact hm), ?_⟩
  simp only [ints, List.getElem?_map, List.getElem?_eq_getElem hk, hx, Option.map_some]

set_option maxRecDepth 100000 in
set_option maxHeartbeats 16000000 in
theorem walk_RttBetween (g0 : Int) (A : Option Addr) (len cap : Nat) (zs : List Int) (w : World) (hg : (Lit.int .u64 g0).wf = true) (hz : IsRow .u64 w A len cap zs) :
    Calls Try.prog 4 #[.int .u64 g0, .slice A len cap] w fun e w' => e = .returned (.bool true) ∧ Chg none_ w w' := by
  obtain ⟨gu, rfl⟩ := nat_of_wf hg rfl
  clear hg
  obtain ⟨xs, rfl, _, hmx, hwf, hv⟩ := hz.view
  clear hz
  have HC0 : Hid (Chg none_ w w) := Lib.hid (Chg.refl _ _)
  by_cases hm : (100 : Int) < (xs.length : Int)
  · clear hmx
    go_enter Try.func4, Try.ntmps4
    go_wp2_with (go_at_call 9; refine (alive_any _).mono ?_; rintro e w1 ⟨rfl, hc⟩; have HC := Lib.hid hc; clear hc)
    go_ret
    exact ⟨rfl, HC.out⟩
  have HV := Lib.hid hv
  have HWF := Lib.hid hwf
  clear hv hwf
  have HN1 : Hid (∀ w1, Chg none_ w w1 → Calls Try.prog 17 #[.int .u64 (gu : Int)] w1 fun e w' => ∃ g s, e = .returned (.pointer (some ⟨g, 0, none⟩)) ∧ EO w w' g s ∧ Bt MT 0 s) := Lib.hid (fun w1 hc => (EO.new_any gu w w1 hc).mono fun _ _ ⟨a, b⟩ => ⟨_, _, a, b, Or.inl ⟨rfl, rfl, rfl⟩⟩)
  have HT : Hid (∀ (x : Nat) w1 g s, EO w w1 g s → Calls Try.prog 10 #[.pointer (some ⟨g, 0, none⟩), .int .u64 (x : Int), .int .u64 0] w1 fun e w' => e = .returned (.tuple #[]) ∧ EO w w' g (takeE s x 0)) := Lib.hid (fun x w1 g s h => h.take x 0)
  have HS : Hid (∀ w1 g s, EO w w1 g s → Calls Try.prog 11 #[.pointer (some ⟨g, 0, none⟩)] w1 fun e w' => e = .returned (.int .u64 (s.sm : Nat)) ∧ w' = w1) := Lib.hid (fun w1 g s h => rSmooth_any g s w1 h.at_)
  have HL : Hid (∀ w1 g s, EO w w1 g s → Calls Try.prog 13 #[.pointer (some ⟨g, 0, none⟩)] w1 fun e w' => e = .returned (.int .u64 (s.le : Nat)) ∧ w' = w1) := Lib.hid (fun w1 g s h => rLeast_any g s w1 h.at_)
  have hlm : (xs.length : Int) ≤ 100 := by omega
  clear hmx
  go_enter Try.func4, Try.ntmps4
  go_wp2_with (first | (go_at_call 9; refine (alive_any _).mono ?_; rintro e w1 ⟨rfl, hc⟩; have HC := Lib.hid hc; clear hc) | (go_at_call 17; refine (HN1.out _ HC.out).mono ?_; rintro e w9 ⟨g, s, rfl, h1, h2⟩; have HEa := Lib.hid h1; have HBa := Lib.hid h2; clear h1 h2))
  go_loopw [6, 7, 8] (fun a b i wr => ∃ (k lo hi : Nat) (s : Est), k ≤ xs.length ∧ i = .int .i64 (k : Int) ∧ a = .int .u64 (lo : Int) ∧ (∃ hz : Int, b = .int .u64 hz ∧ Hid (hz = (hi : Int))) ∧ Hid (EO w wr g s) ∧ Hid (Bt lo hi s)) (fun _ _ i _ => xs.length - (intOf i).toNat)
  case atStart => exact ⟨0, 1099511627776, 0, s, by omega, rfl, rfl, ⟨0, rfl, Lib.hid rfl⟩, HEa, HBa⟩
  case round =>
    obtain ⟨k, lo, hi, s2, hk, rfl, rfl, ⟨hz, rfl, HZ⟩, HE, HB⟩ := hrel
    by_cases hlt : k < xs.length
    · obtain ⟨x, hx, hxc⟩ := ints_nat HWF.out hlt
      obtain ⟨b, o, rfl, hbl, _, hcell⟩ := (HV.out.chg HE.out.chg (fun _ _ h => h)).2 (by omega)
      have c0 := (hcell k hlt).trans hxc
      have HCC : Hid (∀ w', EO w w' g (takeE s2 x 0) → w'.cell? ⟨b, o + k, none⟩ = some (.int .u64 (x : Int))) := Lib.hid (fun w' h => by
        obtain ⟨b', o', e1, hbl', _, hcell'⟩ := (HV.out.chg h.chg (fun _ _ h => h)).2 (by omega)
        injection e1 with e1; injection e1 with e1 e2; subst e1; subst e2
        exact (hcell' k hlt).trans hxc)
      obtain ⟨bl1, bl2⟩ := HB.out.le
      obtain ⟨n1, n2, n3, n4⟩ := HB.out.next x
      have hsk := (takeE_ok s2 HE.out.ok x 0).sm
      have HX := Lib.hid (HT.out x)
      generalize hse : takeE s2 x 0 = s3 at *
      have HSE : Hid (∀ w1, EO w w1 g s3 → _) := Lib.hid (fun w1 h => HS.out w1 g s3 h)
      have HLE : Hid (∀ w1, EO w w1 g s3 → _) := Lib.hid (fun w1 h => HL.out w1 g s3 h)
      have HTE : Hid (Calls Try.prog 10 #[.pointer (some ⟨g, 0, none⟩), .int .u64 (x : Int), .int .u64 0] wr fun e w' => e = .returned (.tuple #[]) ∧ EO w w' g s3) := Lib.hid (by rw [← hse]; exact HX.out wr g s2 HE.out)
      have HN := Lib.hid n1
      clear n1 hse HX HS HL HT hbl hcell hxc HB
      generalize hy : s3.sm = y at *
      generalize hl : s3.le = l3 at *
      clear hy hl
      unfold MT at bl1 bl2 hsk
      have hz0 : 0 ≤ hz := by rw [HZ.out]; omega
      have hz1 : hz ≤ 1099511627776 := by rw [HZ.out]; omega
      by_cases hx2 : (1099511627776 : Int) < (x : Int)
      · have eh : heldN x = 1099511627776 := by unfold heldN MT; omega
        rw [eh] at HN n2 n3 n4
        have e1 : min lo 1099511627776 = lo := by omega
        have e2 : max hi 1099511627776 = 1099511627776 := by omega
        rw [e2] at HN n3
        rw [e1] at HN n2 n4
        have n5 : lo = l3 := n4.symm
        clear n4
        subst n5
        have ha : ¬ (1099511627776 : Int) < (lo : Int) := by omega
        have g1 : ¬ (y : Int) < (lo : Int) := by omega
        clear e1 e2 n2 n3
        by_cases hb0 : hz < 1099511627776
        · go_wp2_with (first | (go_at_call 10; refine (HTE.out).mono ?_; rintro e w8 ⟨rfl, h1⟩; have HE3 := Lib.hid h1; have c8 := HCC.out _ h1; clear h1) | (go_at_call 11; refine (HSE.out _ HE3.out).mono ?_; rintro e w6 ⟨rfl, rfl⟩) | (go_at_call 13; refine (HLE.out _ HE3.out).mono ?_; rintro e w6 ⟨rfl, rfl⟩))
          go_roundw
          case rel => exact ⟨k + 1, lo, 1099511627776, s3, by omega, by go_num, rfl, ⟨_, rfl, Lib.hid rfl⟩, HE3, HN⟩
          case measure => simp [intOf]; omega
        · have hze : hz = 1099511627776 := by omega
          have HZE := Lib.hid hze
          clear hze
          go_wp2_with (first | (go_at_call 10; refine (HTE.out).mono ?_; rintro e w8 ⟨rfl, h1⟩; have HE3 := Lib.hid h1; have c8 := HCC.out _ h1; clear h1) | (go_at_call 11; refine (HSE.out _ HE3.out).mono ?_; rintro e w6 ⟨rfl, rfl⟩) | (go_at_call 13; refine (HLE.out _ HE3.out).mono ?_; rintro e w6 ⟨rfl, rfl⟩))
          go_roundw
          case rel => exact ⟨k + 1, lo, 1099511627776, s3, by omega, by go_num, rfl, ⟨_, rfl, HZE⟩, HE3, HN⟩
          case measure => simp [intOf]; omega
      · have eh : heldN x = x := heldN_of x (by unfold MT; omega)
        rw [eh] at HN n2 n3 n4
        by_cases ha : (x : Int) < (lo : Int)
        · by_cases hb0 : hz < (x : Int)
          · have HZ2 := HZ.out
            have e1 : min lo x = x := by omega
            have e2 : max hi x = x := by omega
            rw [e1, e2] at HN
            rw [e1] at n2 n4
            rw [e2] at n3
            have n5 : x = l3 := n4.symm
            clear n4
            subst n5
            have g1 : ¬ (y : Int) < (x : Int) := by omega
            have g2 : ¬ (x : Int) < (y : Int) := by omega
            clear e1 e2 n2 n3 HZ2
            go_wp2_with (first | (go_at_call 10; refine (HTE.out).mono ?_; rintro e w8 ⟨rfl, h1⟩; have HE3 := Lib.hid h1; have c8 := HCC.out _ h1; clear h1) | (go_at_call 11; refine (HSE.out _ HE3.out).mono ?_; rintro e w6 ⟨rfl, rfl⟩) | (go_at_call 13; refine (HLE.out _ HE3.out).mono ?_; rintro e w6 ⟨rfl, rfl⟩))
            go_roundw
            case rel => exact ⟨k + 1, x, x, s3, by omega, by go_num, rfl, ⟨_, rfl, Lib.hid rfl⟩, HE3, HN⟩
            case measure => simp [intOf]; omega
          · have HZ2 := HZ.out
            have e1 : min lo x = x := by omega
            have e2 : max hi x = hi := by omega
            rw [e1, e2] at HN
            rw [e1] at n2 n4
            rw [e2] at n3
            have n5 : x = l3 := n4.symm
            clear n4
            subst n5
            have g1 : ¬ (y : Int) < (x : Int) := by omega
            have g2 : ¬ hz < (y : Int) := by omega
            clear e1 e2 n2 n3 HZ2
            go_wp2_with (first | (go_at_call 10; refine (HTE.out).mono ?_; rintro e w8 ⟨rfl, h1⟩; have HE3 := Lib.hid h1; have c8 := HCC.out _ h1; clear h1) | (go_at_call 11; refine (HSE.out _ HE3.out).mono ?_; rintro e w6 ⟨rfl, rfl⟩) | (go_at_call 13; refine (HLE.out _ HE3.out).mono ?_; rintro e w6 ⟨rfl, rfl⟩))
            go_roundw
            case rel => exact ⟨k + 1, x, hi, s3, by omega, by go_num, rfl, ⟨_, rfl, HZ⟩, HE3, HN⟩
            case measure => simp [intOf]; omega
        · by_cases hb0 : hz < (x : Int)
          · have HZ2 := HZ.out
            have e1 : min lo x = lo := by omega
            have e2 : max hi x = x := by omega
            rw [e1, e2] at HN
            rw [e1] at n2 n4
            rw [e2] at n3
            have n5 : lo = l3 := n4.symm
            clear n4
            subst n5
            have g1 : ¬ (y : Int) < (lo : Int) := by omega
            have g2 : ¬ (x : Int) < (y : Int) := by omega
            clear e1 e2 n2 n3 HZ2
            go_wp2_with (first | (go_at_call 10; refine (HTE.out).mono ?_; rintro e w8 ⟨rfl, h1⟩; have HE3 := Lib.hid h1; have c8 := HCC.out _ h1; clear h1) | (go_at_call 11; refine (HSE.out _ HE3.out).mono ?_; rintro e w6 ⟨rfl, rfl⟩) | (go_at_call 13; refine (HLE.out _ HE3.out).mono ?_; rintro e w6 ⟨rfl, rfl⟩))
            go_roundw
            case rel => exact ⟨k + 1, lo, x, s3, by omega, by go_num, rfl, ⟨_, rfl, Lib.hid rfl⟩, HE3, HN⟩
            case measure => simp [intOf]; omega
          · have HZ2 := HZ.out
            have e1 : min lo x = lo := by omega
            have e2 : max hi x = hi := by omega
            rw [e1, e2] at HN
            rw [e1] at n2 n4
            rw [e2] at n3
            have n5 : lo = l3 := n4.symm
            clear n4
            subst n5
            have g1 : ¬ (y : Int) < (lo : Int) := by omega
            have g2 : ¬ hz < (y : Int) := by omega
            clear e1 e2 n2 n3 HZ2
            go_wp2_with (first | (go_at_call 10; refine (HTE.out).mono ?_; rintro e w8 ⟨rfl, h1⟩; have HE3 := Lib.hid h1; have c8 := HCC.out _ h1; clear h1) | (go_at_call 11; refine (HSE.out _ HE3.out).mono ?_; rintro e w6 ⟨rfl, rfl⟩) | (go_at_call 13; refine (HLE.out _ HE3.out).mono ?_; rintro e w6 ⟨rfl, rfl⟩))
            go_roundw
            case rel => exact ⟨k + 1, lo, hi, s3, by omega, by go_num, rfl, ⟨_, rfl, HZ⟩, HE3, HN⟩
            case measure => simp [intOf]; omega
    · have hn : ¬ (k : Int) < (xs.length : Int) := by omega
      go_wp2_with (go_at_call 9; refine (alive_any _).mono ?_; rintro e w5 ⟨rfl, hc⟩; have HC5 := Lib.hid (HE.out.chg.trans hc); clear hc)
      go_ret
      exact ⟨rfl, HC5.out⟩
end Go.Proofs.Ytipfpocnapholaa
