/- Layer 13 (ranges): laws walked: in whichever order numbers come, the set is the same. -/
import Derived.Test.YtlakhfbhbebojaaV13Once
namespace Go.Proofs.Ytlakhfbhbebojaa
open Go.RowKit Go.Shelf Go.Sort

/-- So many numbers are in it, and nothing went. -/
theorem addT_few {l : List (Nat × Nat)} (h : Good l 0 16) (hl : l.length ≤ 15) (n : Nat) : (addT l 0 n).2 = 0 ∧ (addT l 0 n).1.length ≤ l.length + 1 ∧ ∀ x, In (addT l 0 n).1 x ↔ In l x ∨ (x = n ∧ n ≤ MX) := by
  obtain ⟨_, h2, _, h4, h5⟩ := addT_spec h n
  refine ⟨h4 hl, h5, fun x => ?_⟩
  rw [h2, h4 hl]
  simp
theorem turned (N k i : Nat) (hi : i < N) : ∃ m, m < N ∧ (N - 1 - m + k) % N = i := by
  have hN : 0 < N := by omega
  refine ⟨(N - 1 + k - i) % N, Nat.mod_lt _ hN, ?_⟩
  have h1 := Nat.div_add_mod (N - 1 + k - i) N
  have h2 := Nat.mod_lt (N - 1 + k - i) hN
  generalize (N - 1 + k - i) % N = m at *
  generalize (N - 1 + k - i) / N = q at *
  rw [show N - 1 - m + k = i + N * q by omega, Nat.add_mul_mod_self_left, Nat.mod_eq_of_lt hi]

set_option maxRecDepth 100000 in
set_option maxHeartbeats 4000000 in
theorem walk_RangesOrder (A : Option Addr) (len cap : Nat) (zs : List Int) (kk : Int) (w : World) (hz : IsRow .u64 w A len cap zs) (hkk : (Lit.int .u8 kk).wf = true) :
    Calls Try.prog 5 #[.slice A len cap, .int .u8 kk] w fun e w' => e = .returned (.bool true) ∧ Chg none_ w w' := by
  obtain ⟨xs, rfl, _, _, _, hv⟩ := hz.u64
  obtain ⟨kn, rfl, hkn⟩ : ∃ kn : Nat, kk = (kn : Int) ∧ kn < 256 := by
    have h2 : (decide (0 ≤ kk) && decide (kk ≤ 255)) = true := hkk
    simp only [Bool.and_eq_true, decide_eq_true_eq] at h2
    exact ⟨kk.toNat, by omega, by omega⟩
  clear hkk
  by_cases hbig : 16 < xs.length
  · have h1 : (16 : Int) < (xs.length : Int) := by omega
    clear hv hz
    go_enter Try.func5, Try.ntmps5
    go_wp2_with ((go_at_call 8; refine (alive_any _).mono ?_; rintro e w1 ⟨rfl, hc⟩; have HC1 := Lib.hid hc; clear hc))
    go_ret
    exact ⟨rfl, HC1.out⟩
  have h1 : ¬ (16 : Int) < (xs.length : Int) := by omega
  have HV := Lib.hid (fun w' (hc : Chg none_ w w') => hv.chg hc (fun _ _ h => h))
  clear hv hz
  go_enter Try.func5, Try.ntmps5
  go_wp2_with (first | (go_at_call 8; refine (alive_any _).mono ?_; rintro e w1 ⟨rfl, hc⟩; have HC1 := Lib.hid hc; clear hc) | ((with_reducible show wpList _ _ _ (⟨some 5, .alloc _, _, _, _, _⟩ :: _) _ _); refine wpList_alloc_Row rfl rfl [.slice none 0 0, .int .u64 0] zeroSt ?_; intro w2 hr hc hs; have HR2 := Lib.hid hr; have HC2 := Lib.hid (HC1.out.trans hc); have HS2 := Lib.hid hs; clear hr hc hs) | ((with_reducible show wpList _ _ _ (⟨some 6, .alloc _, _, _, _, _⟩ :: _) _ _); refine wpList_alloc_Row rfl rfl [.slice none 0 0, .int .u64 0] zeroSt ?_; intro w3 hr hc hs; rw [HS2.out] at hr; have HR3 := Lib.hid (HR2.out.chg hc (fun h => h)); have HR4 := Lib.hid hr; have HC3 := Lib.hid (HC2.out.trans hc); clear hr hc hs))
  have H0 := Lib.hid HC1.out.size
  have HQA := Lib.hid (SetG.new (B := w1.heap.size + 2) HR3.out (by omega) (by have := HR4.out.lt; omega))
  have HQB := Lib.hid (SetG.new (B := w1.heap.size + 2) HR4.out (by omega) (by have := HR4.out.lt; omega))
  rw [HS2.out]
  clear HC1 HR2 HR3 HR4 HS2 HC2
  generalize w1.heap.size = g at *
  go_loopw [7] (fun i wr => ∃ (j : Nat) (l : List (Nat × Nat)), i = .int .i64 (j : Int) ∧ j ≤ xs.length ∧ SetG wr (g + 2) g l 0 16 ∧ SetG wr (g + 2) (g + 1) [] 0 16 ∧ l.length ≤ j ∧ (∀ x, In l x ↔ ∃ k, k < j ∧ nm xs k = x ∧ x ≤ MX) ∧ Chg none_ w wr) (fun i _ => xs.length - (intOf i).toNat)
  case atStart => exact ⟨0, [], rfl, Nat.zero_le _, HQA.out, HQB.out, Nat.le_refl _, fun x => ⟨fun h => absurd h In.nil, fun ⟨k, hk, _⟩ => absurd hk (by omega)⟩, HC3.out⟩
  case round =>
    obtain ⟨j, l, rfl, hj, hqa, hqb, hll, hin, hc⟩ := hrel
    have HC := Lib.hid hc
    have HQ1 := Lib.hid hqa
    have HQ2 := Lib.hid hqb
    by_cases hlt : j < xs.length
    · have k1 : (j : Int) < (xs.length : Int) := by omega
      have k0 : 0 ≤ (j : Int) := by omega
      obtain ⟨b, o, rfl, hbl, hk⟩ := (HV.out wr hc).u64At (by omega)
      have a1 := hk j hlt
      have HA := Lib.hid (Add_any g (g + 2) 0 (nm xs j) l wr hqa)
      obtain ⟨f1, f2, f3⟩ := addT_few hqa.2 (by omega) (nm xs j)
      rw [f1] at HA
      have HNX : Hid ((addT l 0 (nm xs j)).1.length ≤ j + 1 ∧ ∀ x, In (addT l 0 (nm xs j)).1 x ↔ ∃ k, k < j + 1 ∧ nm xs k = x ∧ x ≤ MX) := Lib.hid ⟨by omega, fun x => by
        rw [f3, hin]
        constructor
        · rintro (⟨k, h2, h3, h4⟩ | ⟨rfl, h3⟩)
          · exact ⟨k, by omega, h3, h4⟩
          · exact ⟨j, by omega, rfl, h3⟩
        · rintro ⟨k, h2, h3, h4⟩
          rcases Nat.lt_or_ge k j with h | h
          · exact Or.inl ⟨k, h, h3, h4⟩
          · have : k = j := by omega
            subst this
            exact Or.inr ⟨h3.symm, by omega⟩⟩
      clear f1 f2 f3
      generalize newB l 0 (nm xs j) = bb at *
      generalize (addT l 0 (nm xs j)).1 = l' at *
      clear hk hqa hqb hc hin hbl
      go_wp2_with (go_at_call 9; refine HA.out.mono ?_; rintro e w4 ⟨rfl, hq, hc⟩; have HQ3 := Lib.hid hq; have HQ4 := Lib.hid (show SetG w4 (g + 2) (g + 1) [] 0 16 from ⟨HQ2.out.1.chg hc (fun e => by omega) (fun b hb (e : b = g) => by omega), HQ2.out.2⟩); have HC4 := Lib.hid (chg_own H0.out HC.out hc); clear hq hc a1)
      go_roundw
      case rel => exact ⟨j + 1, l', by go_num, by omega, HQ3.out, HQ4.out, HNX.out.1, HNX.out.2, HC4.out⟩
      case measure => simp [intOf]; omega
    · have d0 : ¬ (j : Int) < (xs.length : Int) := by omega
      have hje : j = xs.length := by omega
      have HIN : Hid (∀ x, In l x ↔ ∃ k, k < xs.length ∧ nm xs k = x ∧ x ≤ MX) := Lib.hid (hje ▸ hin)
      have HLL : Hid (l.length ≤ 16) := Lib.hid (by omega)
      clear hqa hqb hin hlt hll hj hje
      go_wp2
      go_loopw [8] (fun i wr' => ∃ (j : Nat) (lb : List (Nat × Nat)), i = .int .i64 (j : Int) ∧ j ≤ xs.length ∧ SetG wr' (g + 2) g l 0 16 ∧ SetG wr' (g + 2) (g + 1) lb 0 16 ∧ lb.length ≤ j ∧ (∀ x, In lb x ↔ ∃ m, m < j ∧ nm xs ((xs.length - 1 - m + kn) % xs.length) = x ∧ x ≤ MX) ∧ Chg none_ w wr') (fun i _ => xs.length - (intOf i).toNat)
      case atStart => exact ⟨0, [], rfl, Nat.zero_le _, HQ1.out, HQ2.out, Nat.le_refl _, fun x => ⟨fun h => absurd h In.nil, fun ⟨k, hk, _⟩ => absurd hk (by omega)⟩, HC.out⟩
      case round =>
        obtain ⟨i, lb, rfl, hi, hqa, hqb, hll, hin, hc⟩ := hrel
        have HC5 := Lib.hid hc
        have HQ5 := Lib.hid hqa
        have HQ6 := Lib.hid hqb
        by_cases hlt : i < xs.length
        · have k1 : (i : Int) < (xs.length : Int) := by omega
          have k0 : 0 ≤ (i : Int) := by omega
          have hp : 0 < (xs.length : Int) := by omega
          obtain ⟨b, o, rfl, hbl, hk⟩ := (HV.out wr hc).u64At (by omega)
          obtain ⟨ix, hix⟩ : ∃ ix, ix = (xs.length - 1 - i + kn) % xs.length := ⟨_, rfl⟩
          have hil : ix < xs.length := by rw [hix]; exact Nat.mod_lt _ (by omega)
          have he : ((xs.length : Int) - 1 - (i : Int) + (kn : Int)) % (xs.length : Int) = (ix : Int) := by
            rw [hix, Int.natCast_emod]
            congr 1
            omega
          have a1 := hk ix hil
          have i1 : (ix : Int) < (xs.length : Int) := by omega
          have i0 : 0 ≤ (ix : Int) := by omega
          have HA := Lib.hid (Add_any (g + 1) (g + 2) 0 (nm xs ix) lb wr hqb)
          obtain ⟨f1, f2, f3⟩ := addT_few hqb.2 (by omega) (nm xs ix)
          rw [f1] at HA
          have HNX : Hid ((addT lb 0 (nm xs ix)).1.length ≤ i + 1 ∧ ∀ x, In (addT lb 0 (nm xs ix)).1 x ↔ ∃ k, k < i + 1 ∧ nm xs ((xs.length - 1 - k + kn) % xs.length) = x ∧ x ≤ MX) := Lib.hid ⟨by omega, fun x => by
            rw [f3, hin]
            constructor
            · rintro (⟨k, h2, h3, h4⟩ | ⟨rfl, h3⟩)
              · exact ⟨k, by omega, h3, h4⟩
              · exact ⟨i, by omega, by rw [← hix], h3⟩
            · rintro ⟨k, h2, h3, h4⟩
              rcases Nat.lt_or_ge k i with h | h
              · exact Or.inl ⟨k, h, h3, h4⟩
              · have : k = i := by omega
                subst this
                rw [← hix] at h3
                exact Or.inr ⟨h3.symm, by omega⟩⟩
          clear f1 f2 f3 hix
          generalize newB lb 0 (nm xs ix) = bb at *
          generalize (addT lb 0 (nm xs ix)).1 = l' at *
          clear hk hqa hqb hc hin hbl
          go_wp2_with (go_at_call 9; refine HA.out.mono ?_; rintro e w4 ⟨rfl, hq, hc⟩; have HQ7 := Lib.hid hq; have HQ8 := Lib.hid (show SetG w4 (g + 2) g l 0 16 from ⟨HQ5.out.1.chg hc (fun e => by omega) (fun b hb (e : b = g + 1) => by omega), HQ5.out.2⟩); have HC6 := Lib.hid (chg_own (by have := H0.out; omega) HC5.out hc); clear hq hc a1)
          go_roundw
          case rel => exact ⟨i + 1, l', by go_num, by omega, HQ8.out, HQ7.out, HNX.out.1, HNX.out.2, HC6.out⟩
          case measure => simp [intOf]; omega
        · have d0 : ¬ (i : Int) < (xs.length : Int) := by omega
          have hie : i = xs.length := by omega
          have hE : l = lb := Sep.eq hqa.2.sep hqb.2.sep (fun x => by
            rw [HIN.out, hin, hie]
            constructor
            · rintro ⟨k, h2, h3, h4⟩
              obtain ⟨m, hm, e⟩ := turned xs.length kn k h2
              exact ⟨m, hm, by rw [e]; exact h3, h4⟩
            · rintro ⟨m, h2, h3, h4⟩
              exact ⟨_, Nat.mod_lt _ (by omega), h3, h4⟩)
          subst hE
          have HRA : Hid (∀ w1, Chg none_ wr w1 → Calls Try.prog 12 #[.pointer (some ⟨g, 0, none⟩)] w1 fun e w' => ∃ A3 cap3, e = .returned (.slice A3 l.length cap3) ∧ View w' (fun _ => True) A3 (l.length * 2) (rcells l) ∧ Chg none_ w1 w') := Lib.hid (fun w1 h1 => (Ranges_any g (g + 2) 0 l w1 (HQ5.out.1.quiet h1) (by have := HLL.out; omega)).mono fun e w' ⟨v, a, ho, hc⟩ => by
            obtain ⟨A3, cap3, rfl, _, _, hv⟩ := ho.view
            exact ⟨A3, cap3, a, hv.mono (fun _ _ _ => trivial), hc⟩)
          have HRB : Hid (∀ w1, Chg none_ wr w1 → Calls Try.prog 12 #[.pointer (some ⟨g + 1, 0, none⟩)] w1 fun e w' => ∃ A3 cap3, e = .returned (.slice A3 l.length cap3) ∧ View w' (fun _ => True) A3 (l.length * 2) (rcells l) ∧ Chg none_ w1 w') := Lib.hid (fun w1 h1 => (Ranges_any (g + 1) (g + 2) 0 l w1 (HQ6.out.1.quiet h1) (by have := HLL.out; omega)).mono fun e w' ⟨v, a, ho, hc⟩ => by
            obtain ⟨A3, cap3, rfl, _, _, hv⟩ := ho.view
            exact ⟨A3, cap3, a, hv.mono (fun _ _ _ => trivial), hc⟩)
          have HRO : Hid (∀ r ∈ l, ROk r) := Lib.hid (fun r hr => by
            have h1 := HQ5.out.2.all r hr
            have h2 := HQ5.out.2.sep.2 r hr
            unfold MX at h1
            exact ⟨by omega, by omega⟩)
          have HSM : Hid (∀ w1 A3 B3 c3 d3, View w1 (fun _ => True) A3 (l.length * 2) (rcells l) → View w1 (fun _ => True) B3 (l.length * 2) (rcells l) → Calls Try.prog 19 #[.slice A3 l.length c3, .slice B3 l.length d3] w1 fun e w' => e = .returned (.bool true) ∧ Chg none_ w1 w') := Lib.hid (fun w1 A3 B3 c3 d3 h1 h2 => by
            have := Same_any l l A3 B3 c3 d3 _ _ w1 h1 h2 (by have := HLL.out; omega) HRO.out HRO.out
            rwa [decide_eq_true rfl] at this)
          clear hqa hqb hin hlt hll hi hie hc HQ5 HQ6 HLL HIN
          generalize l.length = n at *
          go_wp2_with (first | (go_at_call 8; refine (alive_any _).mono ?_; rintro e w5 ⟨rfl, hc⟩; have HC6 := Lib.hid hc; clear hc) | (go_at_call 12; refine (HRA.out _ HC6.out).mono ?_; rintro e w6 ⟨A6, c6, rfl, hv6, hc⟩; have HV6 := Lib.hid hv6; have HC7 := Lib.hid (HC6.out.trans hc); clear hv6 hc) | (go_at_call 12; refine (HRB.out _ HC7.out).mono ?_; rintro e w7 ⟨A7, c7, rfl, hv7, hc⟩; have HV7 := Lib.hid hv7; have HV8 := Lib.hid (HV6.out.chg hc (fun _ _ h => h)); have HC8 := Lib.hid (HC7.out.trans hc); clear hv7 hc) | (go_at_call 19; refine (HSM.out _ _ _ _ _ HV8.out HV7.out).mono ?_; rintro e w8 ⟨rfl, hc⟩; have HC9 := Lib.hid ((HC5.out.trans HC8.out).trans hc); clear hc))
          go_ret
          exact ⟨rfl, HC9.out⟩
end Go.Proofs.Ytlakhfbhbebojaa
