/- Layer 13 (ranges): laws walked: what is forgotten is old, and what isn't stays. -/
import Derived.Test.YtlakhfbhbebojaaV13Once
import Derived.Test.YtlakhfbhbebojaaPast
import Derived.Test.YtlakhfbhbebojaaMakeRow
namespace Go.Proofs.Ytlakhfbhbebojaa
open Go.RowKit Go.Shelf Go.Sort

theorem infoB : (Try.prog.info? 4).map (fun i => (i.zero, i.size, i.bytes)) = some (some (.bool false), 1, 1) := by kernel_rfl
/-- Truths in a row, as far as they are told. -/
def Told (w : World) (h n j : Nat) (q : Nat → Bool) : Prop := ∃ cs, Row w h 4 cs ∧ cs.length = n ∧ ∀ k, k < j → cs[k]? = some (.bool (q k))
theorem Told.chg {w w' : World} {h n j : Nat} {q : Nat → Bool} {S : Nat → Prop} (t : Told w h n j q) (hc : Chg S w w') (hs : ¬ S h) : Told w' h n j q := by
  obtain ⟨cs, a, b, c⟩ := t
  exact ⟨cs, a.chg hc hs, b, c⟩
theorem Told.quiet {w w' : World} {h n j : Nat} {q : Nat → Bool} (t : Told w h n j q) (hc : Chg none_ w w') : Told w' h n j q := t.chg hc (fun h => h)
theorem Told.lt {w : World} {h n j : Nat} {q : Nat → Bool} (t : Told w h n j q) : h < w.heap.size := by
  obtain ⟨cs, a, _⟩ := t
  exact a.lt
theorem Told.cell {w : World} {h n j k : Nat} {q : Nat → Bool} (t : Told w h n j q) (hk : k < j) : w.cell? ⟨h, k, none⟩ = some (.bool (q k)) := by
  obtain ⟨cs, a, _, c⟩ := t
  rw [a.cell, c k hk]
theorem Told.next {w : World} {h n j : Nat} {q : Nat → Bool} (t : Told w h n j q) (hj : j < n) : (∃ v, w.cell? ⟨h, j, none⟩ = some v) ∧ w.frozen? ⟨h, j, none⟩ = false ∧ Told (w.setCell ⟨h, j, none⟩ (.bool (q j))) h n (j + 1) q := by
  obtain ⟨cs, a, b, c⟩ := t
  refine ⟨⟨cs[j]'(by omega), by rw [a.cell, List.getElem?_eq_getElem (by omega)]⟩, a.frozen j, cs.set j (.bool (q j)), a.set j _, by rw [List.length_set]; exact b, fun k hk => ?_⟩
  rcases Nat.lt_or_ge k j with h | h
  · rw [List.getElem?_set_ne (by omega)]
    exact c k h
  · have : k = j := by omega
    subst this
    rw [List.getElem?_set_self (by omega)]

set_option maxRecDepth 100000 in
set_option maxHeartbeats 4000000 in
theorem walk_RangesForgets (A : Option Addr) (len cap : Nat) (zs : List Int) (nn : Int) (w : World) (hz : IsRow .u64 w A len cap zs) (hnn : (Lit.int .u64 nn).wf = true) :
    Calls Try.prog 6 #[.slice A len cap, .int .u64 nn] w fun e w' => e = .returned (.bool true) ∧ Chg none_ w w' := by
  obtain ⟨xs, rfl, _, _, _, hv⟩ := hz.u64
  obtain ⟨n, rfl, hn⟩ : ∃ n : Nat, nn = (n : Int) ∧ n < 18446744073709551616 := by
    have h2 : (decide (0 ≤ nn) && decide (nn ≤ 18446744073709551615)) = true := hnn
    simp only [Bool.and_eq_true, decide_eq_true_eq] at h2
    exact ⟨nn.toNat, by omega, by omega⟩
  clear hnn
  by_cases hbig : 100 < xs.length
  · have h1 : (100 : Int) < (xs.length : Int) := by omega
    clear hv hz hn
    go_enter Try.func6, Try.ntmps6
    go_wp2_with ((go_at_call 8; refine (alive_any _).mono ?_; rintro e w1 ⟨rfl, hc⟩; have HC1 := Lib.hid hc; clear hc))
    go_ret
    exact ⟨rfl, HC1.out⟩
  have h1 : ¬ (100 : Int) < (xs.length : Int) := by omega
  have HV := Lib.hid (fun w' (hc : Chg none_ w w') => hv.chg hc (fun _ _ h => h))
  clear hv hz hn
  go_enter Try.func6, Try.ntmps6
  go_wp2_with (first | (go_at_call 8; refine (alive_any _).mono ?_; rintro e w1 ⟨rfl, hc⟩; have HC1 := Lib.hid hc; clear hc) | ((with_reducible show wpList _ _ _ (⟨some 5, .alloc _, _, _, _, _⟩ :: _) _ _); refine wpList_alloc_Row rfl rfl [.slice none 0 0, .int .u64 0] zeroSt ?_; intro w2 hr hc hs; have HQ2 := Lib.hid (SetG.new (B := w1.heap.size + 1) hr (Nat.lt_succ_self _) (by have := hr.lt; omega)); have HC2 := Lib.hid (HC1.out.trans hc); clear hr hc hs))
  have H0 := Lib.hid HC1.out.size
  clear HC1
  generalize w1.heap.size = g at *
  go_loopw [6] (fun i wr => ∃ (j : Nat) (l : List (Nat × Nat)) (y : Nat), i = .int .i64 (j : Int) ∧ j ≤ xs.length ∧ SetG wr (g + 1) g l y 16 ∧ Chg none_ w wr) (fun i _ => xs.length - (intOf i).toNat)
  case atStart => exact ⟨0, [], 0, rfl, Nat.zero_le _, HQ2.out, HC2.out⟩
  case round =>
    obtain ⟨j, l, y, rfl, hj, hq, hc⟩ := hrel
    have HQ := Lib.hid hq
    have HC := Lib.hid hc
    by_cases hlt : j < xs.length
    · have k1 : (j : Int) < (xs.length : Int) := by omega
      have k0 : 0 ≤ (j : Int) := by omega
      obtain ⟨b, o, rfl, hbl, hk⟩ := (HV.out wr hc).u64At (by omega)
      have a1 := hk j hlt
      have HA : Hid (∃ bb l' y', Calls Try.prog 9 #[.pointer (some ⟨g, 0, none⟩), .int .u64 (nm xs j : Int)] wr fun e w' => e = .returned (.bool bb) ∧ SetG w' (g + 1) g l' y' 16 ∧ Chg none_ w w') := Lib.hid ⟨_, _, _, Add_own (g + 1) g y (nm xs j) l w wr H0.out hc hq⟩
      obtain ⟨bb, l', y', ha⟩ := HA.out
      have HA2 := Lib.hid ha
      clear hk hq hc hbl ha HA
      go_wp2_with (go_at_call 9; refine HA2.out.mono ?_; rintro e w4 ⟨rfl, hq, hc⟩; have HQ3 := Lib.hid hq; have HC4 := Lib.hid hc; clear hq hc a1)
      go_roundw
      case rel => exact ⟨j + 1, l', y', by go_num, by omega, HQ3.out, HC4.out⟩
      case measure => simp [intOf]; omega
    · have d0 : ¬ (j : Int) < (xs.length : Int) := by omega
      clear hq hc hj hlt
      go_wp2_with (at_make; refine wpList_make_bools rfl _ _ _ rfl 4 Try.underlying44 infoB xs.length rfl rfl (by omega) ?_; intro w5 hr5 hc5; have HT5 := Lib.hid (show Told w5 wr.heap.size xs.length 0 (fun k => hasL l (nm xs k)) from ⟨_, hr5, by simp, fun k hk => absurd hk (by omega)⟩); have HQ5 := Lib.hid (HQ.out.quiet hc5); have HC5 := Lib.hid hc5; clear hr5 hc5)
      have HGH := Lib.hid (show g < wr.heap.size from by have := HQ.out.1.lt; omega)
      obtain ⟨gh, hgh⟩ : ∃ gh, gh = wr.heap.size := ⟨_, rfl⟩
      have HWH := Lib.hid (show wr.heap.size ≤ gh from by omega)
      rw [← hgh] at HT5 ⊢
      rw [← hgh] at HGH
      clear hgh
      generalize wr = wz at *
      go_loopw [8] (fun i wr' => ∃ (k : Nat), i = .int .i64 (k : Int) ∧ k ≤ xs.length ∧ Told wr' gh xs.length k (fun k => hasL l (nm xs k)) ∧ Chg none_ wz wr') (fun i _ => xs.length - (intOf i).toNat)
      case atStart => exact ⟨0, rfl, Nat.zero_le _, HT5.out, HC5.out⟩
      case round =>
        obtain ⟨k, rfl, hk, ht, hc⟩ := hrel
        have HC7 := Lib.hid hc
        have HT := Lib.hid ht
        by_cases hlt : k < xs.length
        · have k1 : (k : Int) < (xs.length : Int) := by omega
          have k0 : 0 ≤ (k : Int) := by omega
          obtain ⟨b, o, rfl, hbl, hkk⟩ := (HV.out _ (HC.out.trans hc)).u64At (by omega)
          have a1 := hkk k hlt
          have HH := Lib.hid (Has_any g (g + 1) y 16 (nm xs k) l _ (HQ.out.quiet hc) (by decide))
          have HNX : Hid (∀ w', Chg none_ wr w' → (∃ v, w'.cell? ⟨gh, k, none⟩ = some v) ∧ w'.frozen? ⟨gh, k, none⟩ = false ∧ Told (w'.setCell ⟨gh, k, none⟩ (.bool (hasL l (nm xs k)))) gh xs.length (k + 1) (fun k => hasL l (nm xs k)) ∧ Chg none_ wz (w'.setCell ⟨gh, k, none⟩ (.bool (hasL l (nm xs k))))) := Lib.hid (fun w' hc' => by
            obtain ⟨t1, t2, t3⟩ := (ht.quiet hc').next hlt
            have hcs : Chg (· = gh) w' (w'.setCell ⟨gh, k, none⟩ (.bool (hasL l (nm xs k)))) := (Chg.refl (· = gh) w').setCell (p := ⟨gh, k, none⟩) (fun _ => rfl) _
            exact ⟨t1, t2, t3, chg_own HWH.out (hc.trans hc') hcs⟩)
          generalize hasL l (nm xs k) = hb at HH HNX
          clear hkk hc ht hbl
          go_wp2_with (go_at_call 10; refine HH.out.mono ?_; rintro e w6 ⟨rfl, hc⟩; obtain ⟨⟨v6, c6⟩, f6, ht6, hc6⟩ := HNX.out w6 hc; have HT6 := Lib.hid ht6; have HC6 := Lib.hid hc6; clear ht6 hc6 hc a1)
          go_roundw
          case rel => exact ⟨k + 1, by go_num, by omega, HT6.out, HC6.out⟩
          case measure => simp [intOf]; omega
        · have d1 : ¬ (k : Int) < (xs.length : Int) := by omega
          have hke : k = xs.length := by omega
          have HT2 := Lib.hid (show Told wr gh xs.length xs.length (fun k => hasL l (nm xs k)) from hke ▸ ht)
          have HF := Lib.hid (Forget_own (g + 1) g y n l w wr H0.out (HC.out.trans hc) (HQ.out.quiet hc))
          have HFG := Lib.hid (Forget_any g (g + 1) y 16 n l wr (HQ.out.quiet hc) (by decide))
          have hsp := forgetS_spec HQ.out.2 n
          have HIN := Lib.hid hsp.2.1
          have HYY := Lib.hid hsp.2.2
          have HSEP := Lib.hid HQ.out.2.sep
          clear hsp
          generalize (forgetS l y n).1 = l2 at *
          generalize (forgetS l y n).2 = y2 at *
          generalize forgetN l y n = fn at *
          have HGN := Lib.hid (show g ≠ gh from by have := HGH.out; omega)
          clear hc ht hk hlt HT hke
          go_wp2_with (go_at_call 14; refine HFG.out.mono ?_; rintro e w8 ⟨rfl, hq, hc⟩; have HQ8 := Lib.hid hq; have HT8 := Lib.hid (HT2.out.chg hc (fun (e : gh = g) => HGN.out e.symm)); have HC8 := Lib.hid (chg_own H0.out (HC.out.trans HC7.out) hc); clear hq hc)
          go_loopw [9] (fun i wr => ∃ (k : Nat), i = .int .i64 (k : Int) ∧ k ≤ xs.length ∧ Chg none_ w8 wr) (fun i _ => xs.length - (intOf i).toNat)
          case atStart => exact ⟨0, rfl, Nat.zero_le _, Chg.refl _ _⟩
          case round =>
            obtain ⟨k, rfl, hk, hc⟩ := hrel
            have HC9 := Lib.hid hc
            by_cases hlt : k < xs.length
            · have k1 : (k : Int) < (xs.length : Int) := by omega
              have k0 : 0 ≤ (k : Int) := by omega
              obtain ⟨b, o, rfl, hbl, hkk⟩ := (HV.out _ (HC8.out.trans hc)).u64At (by omega)
              have hp : ∀ p : Past wr, p.now.cell? ⟨b, o + k, none⟩ = some (.int .u64 (nm xs k : Int)) := fun p => (p.chg.cell _ hbl (fun h => h)).trans (hkk k hlt)
              have hpt : ∀ p : Past wr, p.now.cell? ⟨gh, k, none⟩ = some (.bool (hasL l (nm xs k))) := fun p => (HT8.out.quiet (hc.trans p.chg)).cell hlt
              have HQP := Lib.hid (fun p : Past wr => HQ8.out.quiet (hc.trans p.chg))
              have HHP : Hid (∀ p : Past wr, Calls Try.prog 10 #[.pointer (some ⟨g, 0, none⟩), .int .u64 (nm xs k : Int)] p.now fun e w' => e = .returned (.bool (hasL l2 (nm xs k))) ∧ Chg none_ p.now w') := Lib.hid (fun p => Has_any g (g + 1) y2 16 (nm xs k) l2 p.now (HQP.out p) (by decide))
              have HOP : Hid (∀ p : Past wr, Calls Try.prog 11 #[.pointer (some ⟨g, 0, none⟩), .int .u64 (nm xs k : Int)] p.now fun e w' => e = .returned (.bool (decide (nm xs k < y2))) ∧ w' = p.now) := Lib.hid (fun p => Old_any g (g + 1) y2 l2 (nm xs k) p.now (HQP.out p).1)
              clear hkk hc hbl
              by_cases hc1 : nm xs k ≤ n
              · by_cases hc2 : nm xs k ≤ MX
                · have hno : hasL l2 (nm xs k) = false := by
                    cases hh : hasL l2 (nm xs k) with
                    | false => rfl
                    | true =>
                      have := (HIN.out _).1 ((hasL_iff HQ8.out.2.sep _).1 hh)
                      omega
                  have hold : nm xs k < y2 := by have := HYY.out; omega
                  have HAP : Hid (∀ p : Past wr, Calls Try.prog 9 #[.pointer (some ⟨g, 0, none⟩), .int .u64 (nm xs k : Int)] p.now fun e w' => e = .returned (.bool false) ∧ Chg none_ p.now w') := Lib.hid (fun p => Add_not g (g + 1) y2 (nm xs k) l2 p.now (HQP.out p) (Seen.not_new (HQP.out p).2 (Or.inr (Or.inl hold))))
                  rw [hno] at HHP
                  rw [decide_eq_true hold] at HOP
                  have e1 : decide (nm xs k ≤ n) = true := by simpa using hc1
                  have e1' : ((nm xs k : Int) ≤ (n : Int)) := by omega
                  have e2' : ((nm xs k : Int) ≤ 4611686018427387903) := by unfold MX at hc2; omega
                  have e2 : decide ((nm xs k : Int) ≤ 4611686018427387903) = true := by simpa using e2'
                  have e3' : ¬ (n : Int) < (nm xs k : Int) := by omega
                  have e3 : decide (n < nm xs k) = false := by simp; omega
                  have e3'' : ¬ n < nm xs k := by omega
                  clear hno hold hc2
                  generalize nm xs k = v at *
                  go_wp2
                  refine wp_region_quiet_past (by kernel_rfl) (by kernel_rfl) ?_
                  repeat (go_big_quiet_step ((first | (go_at_call 10; exact Calls.past_of (HHP.out _)) | (go_at_call 11; exact Calls.past_same (HOP.out _)) | (go_at_call 9; exact Calls.past_of (HAP.out _)))))
                  refine wpQuiet_nil ?_
                  rintro _ ⟨p, rfl⟩
                  go_wp2
                  go_roundw
                  case rel => exact ⟨k + 1, by go_num, by omega, HC9.out.trans p.chg⟩
                  case measure => simp [intOf]; omega
                · have e1 : decide (nm xs k ≤ n) = true := by simpa using hc1
                  have e1' : ((nm xs k : Int) ≤ (n : Int)) := by omega
                  have e2' : ¬ ((nm xs k : Int) ≤ 4611686018427387903) := by unfold MX at hc2; omega
                  have e2 : decide ((nm xs k : Int) ≤ 4611686018427387903) = false := by simpa using e2'
                  have e3' : ¬ (n : Int) < (nm xs k : Int) := by omega
                  have e3 : decide (n < nm xs k) = false := by simp; omega
                  have e3'' : ¬ n < nm xs k := by omega
                  clear hc2
                  generalize nm xs k = v at *
                  go_wp2
                  refine wp_region_quiet_past (by kernel_rfl) (by kernel_rfl) ?_
                  repeat (go_big_quiet_step ((first | (go_at_call 10; exact Calls.past_of (HHP.out _)) | (go_at_call 11; exact Calls.past_same (HOP.out _)))))
                  refine wpQuiet_nil ?_
                  rintro _ ⟨p, rfl⟩
                  go_wp2
                  go_roundw
                  case rel => exact ⟨k + 1, by go_num, by omega, HC9.out.trans p.chg⟩
                  case measure => simp [intOf]; omega
              · have e1' : ¬ ((nm xs k : Int) ≤ (n : Int)) := by omega
                have e1 : decide (nm xs k ≤ n) = false := by simpa using hc1
                have e3' : (n : Int) < (nm xs k : Int) := by omega
                have e3 : decide (n < nm xs k) = true := by simp; omega
                have e3'' : n < nm xs k := by omega
                have hsame : hasL l2 (nm xs k) = hasL l (nm xs k) := by
                  rw [Bool.eq_iff_iff, hasL_iff HQ8.out.2.sep, hasL_iff HSEP.out, HIN.out]
                  exact ⟨fun h => h.1, fun h => ⟨h, by omega⟩⟩
                rw [hsame] at HHP
                clear hsame
                generalize hasL l (nm xs k) = hb at HHP hpt
                generalize nm xs k = v at *
                cases hb
                · go_wp2
                  refine wp_region_quiet_past (by kernel_rfl) (by kernel_rfl) ?_
                  repeat (go_big_quiet_step ((first | (go_at_call 10; exact Calls.past_of (HHP.out _)) | (go_at_call 11; exact Calls.past_same (HOP.out _)))))
                  refine wpQuiet_nil ?_
                  rintro _ ⟨p, rfl⟩
                  go_wp2
                  go_roundw
                  case rel => exact ⟨k + 1, by go_num, by omega, HC9.out.trans p.chg⟩
                  case measure => simp [intOf]; omega
                · go_wp2
                  refine wp_region_quiet_past (by kernel_rfl) (by kernel_rfl) ?_
                  repeat (go_big_quiet_step ((first | (go_at_call 10; exact Calls.past_of (HHP.out _)) | (go_at_call 11; exact Calls.past_same (HOP.out _)))))
                  refine wpQuiet_nil ?_
                  rintro _ ⟨p, rfl⟩
                  go_wp2
                  go_roundw
                  case rel => exact ⟨k + 1, by go_num, by omega, HC9.out.trans p.chg⟩
                  case measure => simp [intOf]; omega
            · have d2 : ¬ (k : Int) < (xs.length : Int) := by omega
              clear hc hk hlt
              go_wp2
              go_ret
              exact ⟨rfl, HC8.out.trans HC9.out⟩
end Go.Proofs.Ytlakhfbhbebojaa
