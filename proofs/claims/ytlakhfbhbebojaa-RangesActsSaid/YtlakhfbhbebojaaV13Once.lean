/- Layer 13 (ranges): numbers that came in; laws walked: no number is added twice. -/
import Derived.Test.YtlakhfbhbebojaaV13Alive
namespace Go.Proofs.Ytlakhfbhbebojaa
open Go.RowKit Go.Shelf Go.Sort

def u64s (l : List Nat) : List Value := l.map fun (x : Nat) => Value.int .u64 (x : Int)
def nm (l : List Nat) (k : Nat) : Nat := l.getD k 0
theorem IsRow.u64 {w : World} {a : Option Addr} {len cap : Nat} {zs : List Int} (h : IsRow .u64 w a len cap zs) :
    ∃ xs : List Nat, xs.length = len ∧ len ≤ cap ∧ cap ≤ maxLen ∧ (∀ x ∈ xs, x < 18446744073709551616) ∧ View w (fun _ => True) a xs.length (u64s xs) := by
  obtain ⟨xs, h1, h2, h3, h4, h5⟩ := h.view
  have hw : ∀ x ∈ xs, 0 ≤ x ∧ x ≤ 18446744073709551615 := fun x hx => by
    have := h4 x hx
    rw [show (Lit.int .u64 x).wf = (decide (0 ≤ x) && decide (x ≤ 18446744073709551615)) from rfl] at this
    simpa using this
  refine ⟨xs.map Int.toNat, by simpa using h1, h2, h3, ?_, ?_⟩
  · intro x hx
    obtain ⟨y, hy, rfl⟩ := List.mem_map.1 hx
    have := hw y hy
    omega
  · have e : u64s (xs.map Int.toNat) = ints .u64 xs := by
      simp only [u64s, ints, List.map_map]
      apply List.map_congr_left
      intro x hx
      have := hw x hx
      simp only [Function.comp_apply]
      rw [Int.toNat_of_nonneg this.1]
    rw [e, List.length_map]
    exact h5
theorem View.u64At {w : World} {T : Nat → Prop} {A : Option Addr} {l : List Nat} (h : View w T A l.length (u64s l)) (hk : 0 < l.length) : ∃ b o, A = some ⟨b, o, none⟩ ∧ b < w.heap.size ∧ ∀ j, j < l.length → w.cell? ⟨b, o + j, none⟩ = some (.int .u64 (nm l j : Int)) := by
  obtain ⟨b, o, h1, h2, _, h4⟩ := h.2 hk
  refine ⟨b, o, h1, h2, fun j hj => ?_⟩
  rw [h4 j hj]
  unfold u64s nm
  rw [List.getElem?_map, List.getElem?_eq_getElem hj, List.getD_eq_getElem?_getD, List.getElem?_eq_getElem hj]
  rfl
theorem nm_mem {l : List Nat} {k : Nat} (h : k < l.length) : nm l k ∈ l := by
  unfold nm
  rw [List.getD_eq_getElem?_getD, List.getElem?_eq_getElem h]
  exact List.getElem_mem h

/-- A number that is there, or was, or can't be. -/
def Seen (l : List (Nat × Nat)) (y n : Nat) : Prop := In l n ∨ n < y ∨ MX < n
theorem Seen.not_new {l : List (Nat × Nat)} {y k n : Nat} (h : Good l y k) (hs : Seen l y n) : newB l y n = false := by
  cases hb : newB l y n with
  | false => rfl
  | true =>
    obtain ⟨h1, h2, h3⟩ := (newB_iff h).1 hb
    rcases hs with hs | hs | hs
    · exact absurd hs h3
    · omega
    · omega
theorem Seen.step {l : List (Nat × Nat)} {y n m : Nat} (h : Good l y 16) (hs : Seen l y n ∨ n = m) : Seen (addT l y m).1 (addT l y m).2 n := by
  obtain ⟨_, h2, h3, _, _⟩ := addT_spec h m
  rcases Nat.lt_or_ge n (addT l y m).2 with hlt | hge
  · exact Or.inr (Or.inl hlt)
  · by_cases hM : MX < n
    · exact Or.inr (Or.inr hM)
    · refine Or.inl ((h2 n).2 ⟨?_, hge⟩)
      rcases hs with (hs | hs | hs) | hs
      · exact Or.inl hs
      · omega
      · exact absurd hs hM
      · exact Or.inr ⟨hs, by omega⟩

set_option maxRecDepth 100000 in
set_option maxHeartbeats 4000000 in
theorem walk_RangesOnce (A : Option Addr) (len cap : Nat) (zs : List Int) (w : World) (hz : IsRow .u64 w A len cap zs) :
    Calls Try.prog 4 #[.slice A len cap] w fun e w' => e = .returned (.bool true) ∧ Chg none_ w w' := by
  obtain ⟨xs, rfl, _, _, _, hv⟩ := hz.u64
  by_cases hbig : 150 < xs.length
  · have h1 : (150 : Int) < (xs.length : Int) := by omega
    clear hv hz
    go_enter Try.func4, Try.ntmps4
    go_wp2_with ((go_at_call 8; refine (alive_any _).mono ?_; rintro e w1 ⟨rfl, hc⟩; have HC1 := Lib.hid hc; clear hc))
    go_ret
    exact ⟨rfl, HC1.out⟩
  have h1 : ¬ (150 : Int) < (xs.length : Int) := by omega
  have HV := Lib.hid (fun w' (hc : Chg none_ w w') => hv.chg hc (fun _ _ h => h))
  clear hv hz
  go_enter Try.func4, Try.ntmps4
  go_wp2_with (first | (go_at_call 8; refine (alive_any _).mono ?_; rintro e w1 ⟨rfl, hc⟩; have HC1 := Lib.hid hc; clear hc) | ((with_reducible show wpList _ _ _ (⟨some 3, .alloc _, _, _, _, _⟩ :: _) _ _); refine wpList_alloc_Row rfl rfl [.slice none 0 0, .int .u64 0] zeroSt ?_; intro w2 hr hc hs; have HQ2 := Lib.hid (SetG.new (B := w1.heap.size + 1) hr (Nat.lt_succ_self _) (by have := hr.lt; omega)); have HC2 := Lib.hid (HC1.out.trans hc); clear hr hc hs))
  have H0 := Lib.hid HC1.out.size
  clear HC1
  generalize w1.heap.size = g at *
  go_loopw [4] (fun i wr => ∃ (j : Nat) (l : List (Nat × Nat)) (y : Nat), i = .int .i64 (j : Int) ∧ j ≤ xs.length ∧ SetG wr (g + 1) g l y 16 ∧ (∀ k, k < j → Seen l y (nm xs k)) ∧ Chg none_ w wr) (fun i _ => xs.length - (intOf i).toNat)
  case atStart => exact ⟨0, [], 0, rfl, Nat.zero_le _, HQ2.out, fun k hk => absurd hk (by omega), HC2.out⟩
  case round =>
    obtain ⟨j, l, y, rfl, hj, hq, hse, hc⟩ := hrel
    have HQ := Lib.hid hq
    have HC := Lib.hid hc
    by_cases hlt : j < xs.length
    · have k1 : (j : Int) < (xs.length : Int) := by omega
      have k0 : 0 ≤ (j : Int) := by omega
      obtain ⟨b, o, rfl, hbl, hk⟩ := (HV.out wr hc).u64At (by omega)
      have a1 := hk j hlt
      have HB := Lib.hid (show ∀ w', Chg none_ w w' → ∀ k, k < xs.length → w'.cell? ⟨b, o + k, none⟩ = some (.int .u64 (nm xs k : Int)) from fun w' hc' => by
        obtain ⟨b', o', hbo, _, hr3⟩ := (HV.out w' hc').u64At (by omega)
        injection hbo with hbo
        injection hbo with hb1 ho1
        subst hb1 ho1
        exact hr3)
      have HA : Hid (Calls Try.prog 9 #[.pointer (some ⟨g, 0, none⟩), .int .u64 (nm xs j : Int)] wr fun e w' => e = .returned (.bool (newB l y (nm xs j))) ∧ SetG w' (g + 1) g (addT l y (nm xs j)).1 (addT l y (nm xs j)).2 16 ∧ Chg none_ w w') := Lib.hid (Add_own (g + 1) g y (nm xs j) l w wr H0.out hc hq)
      have HNE : Hid (newB l y (nm xs j) = true → ∀ k, k < j → nm xs k ≠ nm xs j) := Lib.hid (fun hb k hk e => by
        have := (hse k hk).not_new hq.2
        rw [e, hb] at this
        cases this)
      have HSE : Hid (∀ k, k < j + 1 → Seen (addT l y (nm xs j)).1 (addT l y (nm xs j)).2 (nm xs k)) := Lib.hid (fun k hk => by
        refine Seen.step hq.2 ?_
        rcases Nat.lt_or_ge k j with h | h
        · exact Or.inl (hse k h)
        · exact Or.inr (by rw [show k = j by omega]))
      generalize newB l y (nm xs j) = bb at *
      generalize (addT l y (nm xs j)).2 = y' at *
      generalize (addT l y (nm xs j)).1 = l' at *
      clear hk hq hc hse hbl HQ HC HV
      go_wp2_with (go_at_call 9; refine HA.out.mono ?_; rintro e w3 ⟨rfl, hq, hc⟩; have HQ3 := Lib.hid hq; have HC3 := Lib.hid hc; clear hq hc a1)
      clear HA
      go_loopw [6] (fun i wr => ∃ k : Nat, i = .int .i64 (k : Int) ∧ k ≤ j ∧ Chg none_ w3 wr) (fun i _ => j - (intOf i).toNat)
      case atStart => exact ⟨0, rfl, Nat.zero_le _, Chg.refl _ _⟩
      case round =>
        obtain ⟨k, rfl, hk, hc⟩ := hrel
        have HC4 := Lib.hid hc
        have HQ4 := Lib.hid (HQ3.out.quiet hc)
        have HCW := Lib.hid (HC3.out.trans hc)
        by_cases hkj : k < j ∧ bb = true
        · obtain ⟨hkj, rfl⟩ := hkj
          have m1 : (k : Int) < (j : Int) := by omega
          have m2 : (k : Int) < (xs.length : Int) := by omega
          have m0 : 0 ≤ (k : Int) := by omega
          have ak := HB.out _ HCW.out k (by omega)
          have aj := HB.out _ HCW.out j (by omega)
          have ne : ((nm xs k : Int) == (nm xs j : Int)) = false := by rw [beq_eq_false_iff_ne]; have := HNE.out rfl k hkj; omega
          clear hc
          go_wp2
          go_region
          all_goals go_wp2
          all_goals go_roundw
          case rel => exact ⟨k + 1, by go_num, by omega, HC4.out.drew⟩
          case measure => simp [intOf]; omega
        · by_cases hkj2 : k < j
          · have hb0 : bb = false := by
              cases bb
              · rfl
              · exact absurd ⟨hkj2, rfl⟩ hkj
            subst hb0
            have m1 : (k : Int) < (j : Int) := by omega
            have m1' : decide ((k : Int) < (j : Int)) = true := by simpa using m1
            clear hc HNE
            clear hkj hkj2
            have HGD := Lib.hid HQ4.out.2
            have HRG : Hid (Calls Try.prog 12 #[.pointer (some ⟨g, 0, none⟩)] wr fun e w' => ∃ A3 cap3, e = .returned (.slice A3 l'.length cap3) ∧ View w' (fun b => wr.heap.size ≤ b) A3 (l'.length * 2) (rcells l') ∧ Chg none_ wr w') := Lib.hid ((Ranges_any g (g + 1) y' l' wr HQ4.out.1 (by have := HGD.out.len; omega)).mono fun e w' ⟨v, a, ho, hc⟩ => by
              obtain ⟨A3, cap3, rfl, _, _, hv⟩ := ho.view
              exact ⟨A3, cap3, a, hv, hc⟩)
            have hl16 : ¬ (16 : Int) < (l'.length : Int) := by have := HGD.out.len; omega
            go_wp2_with (go_at_call 12; refine HRG.out.mono ?_; rintro e w5 ⟨A3, cap3, rfl, hv5, hc5⟩; have HV5 := Lib.hid (fun w' (hc : Chg none_ w5 w') => hv5.chg hc (fun _ _ h => h)); have HQ5 := Lib.hid (HQ4.out.quiet hc5); have HC5 := Lib.hid (HCW.out.trans hc5); clear hv5 hc5)
            clear HRG HC4
            go_loopw [8] (fun i wr => ∃ m : Nat, i = .int .i64 (m : Int) ∧ m ≤ l'.length ∧ Chg none_ w5 wr) (fun i _ => l'.length - (intOf i).toNat)
            case atStart => exact ⟨0, rfl, Nat.zero_le _, Chg.refl _ _⟩
            case round =>
              obtain ⟨m, rfl, hm, hc⟩ := hrel
              have HC6 := Lib.hid hc
              by_cases hml : m < l'.length
              · have n1 : (m : Int) < (l'.length : Int) := by omega
                have n0 : 0 ≤ (m : Int) := by omega
                obtain ⟨b3, o3, rfl, _, _, hk⟩ := (HV5.out _ hc).rAt hml
                have x0 := hk m hml 0 _ rfl
                have x1 := hk m hml 1 _ rfl
                simp only [Nat.add_zero] at x0
                have hlh := HGD.out.sep.2 _ (rg_mem hml)
                have hmx := (HGD.out.all _ (rg_mem hml)).2
                by_cases hm0 : 0 < m
                · have hpm : m - 1 < l'.length := by omega
                  have y0 := hk (m - 1) hpm 0 _ rfl
                  simp only [Nat.add_zero] at y0
                  have hpw : (rg l' m).2 + 2 ≤ (rg l' (m - 1)).1 := by
                    unfold rg
                    rw [List.getD_eq_getElem?_getD, List.getD_eq_getElem?_getD, List.getElem?_eq_getElem hml, List.getElem?_eq_getElem hpm]
                    exact List.pairwise_iff_getElem.1 HGD.out.sep.1 (m - 1) m hpm hml (by omega)
                  have dm : decide ((0 : Int) < (m : Int)) = true := by simpa using hm0
                  have dm' : (0 : Int) < (m : Int) := by omega
                  have dm2 : decide (0 < m) = true := by simpa using hm0
                  have dm3 : 0 < m := hm0
                  obtain ⟨p, hp⟩ : ∃ p, p = m - 1 := ⟨_, rfl⟩
                  rw [← hp] at y0 hpw hpm
                  have km : wrap64 ((m : Int) - 1) = (p : Int) := by unfold wrap64; omega
                  have km' : (m : Int) - 1 = (p : Int) := by omega
                  have p1 : (p : Int) < (l'.length : Int) := by omega
                  have p0 : 0 ≤ (p : Int) := by omega
                  clear hp
                  generalize rg l' m = r at *
                  generalize rg l' p = q at *
                  obtain ⟨ra, rb⟩ := r
                  obtain ⟨qa, qb⟩ := q
                  dsimp only at hlh hmx hpw x0 x1 y0
                  obtain ⟨h2, hh2⟩ : ∃ h2, h2 = rb + 2 := ⟨_, rfl⟩
                  have kw : IntKind.u64.wrap ((rb : Int) + 2) = (h2 : Int) := by rw [wrap_small (by omega) (by unfold MX at hmx; omega)]; omega
                  have dq' : ¬ (qa : Int) < (h2 : Int) := by omega
                  have dq : decide ((qa : Int) < (h2 : Int)) = false := by simpa using dq'
                  have dq2 : decide (qa < h2) = false := by simp; omega
                  have dq3 : ¬ qa < h2 := by omega
                  have dr' : ¬ (rb : Int) < (ra : Int) := by omega
                  have dr : decide ((rb : Int) < (ra : Int)) = false := by simpa using dr'
                  have dr2 : decide (rb < ra) = false := by simp; omega
                  have dr3 : ¬ rb < ra := by omega
                  clear hk hc hmx hlh hpw hm0 hpm hml hh2
                  go_wp2
                  go_quiet (fail)
                  go_wp2
                  go_roundw
                  case rel => exact ⟨m + 1, by go_num, by omega, HC6.out.drewN _⟩
                  case measure => simp [intOf]; omega
                · have dm' : ¬ (0 : Int) < (m : Int) := by omega
                  have dm : decide ((0 : Int) < (m : Int)) = false := by simpa using dm'
                  have dm2 : decide (0 < m) = false := by simp; omega
                  have dm3 : ¬ 0 < m := hm0
                  generalize rg l' m = r at *
                  obtain ⟨ra, rb⟩ := r
                  dsimp only at hlh hmx x0 x1
                  have dr' : ¬ (rb : Int) < (ra : Int) := by omega
                  have dr : decide ((rb : Int) < (ra : Int)) = false := by simpa using dr'
                  have dr2 : decide (rb < ra) = false := by simp; omega
                  have dr3 : ¬ rb < ra := by omega
                  clear hk hc hmx hlh hm0 hml
                  go_wp2
                  go_quiet (fail)
                  go_wp2
                  go_roundw
                  case rel => exact ⟨m + 1, by go_num, by omega, HC6.out.drewN _⟩
                  case measure => simp [intOf]; omega
              · have d0 : ¬ (m : Int) < (l'.length : Int) := by omega
                have HQ6 := Lib.hid (HQ5.out.quiet hc)
                have HC7 := Lib.hid (HC5.out.trans hc)
                clear hc hm hml
                go_wp2
                go_roundw
                case rel => exact ⟨j + 1, l', y', by go_num, by omega, HQ6.out, HSE.out, HC7.out⟩
                case measure => simp [intOf]; omega
          · have m1 : ¬ (k : Int) < (j : Int) := by omega
            have m1' : decide ((k : Int) < (j : Int)) = false := by simpa using m1
            clear hc HNE
            clear hkj hkj2
            have HGD := Lib.hid HQ4.out.2
            have HRG : Hid (Calls Try.prog 12 #[.pointer (some ⟨g, 0, none⟩)] wr fun e w' => ∃ A3 cap3, e = .returned (.slice A3 l'.length cap3) ∧ View w' (fun b => wr.heap.size ≤ b) A3 (l'.length * 2) (rcells l') ∧ Chg none_ wr w') := Lib.hid ((Ranges_any g (g + 1) y' l' wr HQ4.out.1 (by have := HGD.out.len; omega)).mono fun e w' ⟨v, a, ho, hc⟩ => by
              obtain ⟨A3, cap3, rfl, _, _, hv⟩ := ho.view
              exact ⟨A3, cap3, a, hv, hc⟩)
            have hl16 : ¬ (16 : Int) < (l'.length : Int) := by have := HGD.out.len; omega
            go_wp2_with (go_at_call 12; refine HRG.out.mono ?_; rintro e w5 ⟨A3, cap3, rfl, hv5, hc5⟩; have HV5 := Lib.hid (fun w' (hc : Chg none_ w5 w') => hv5.chg hc (fun _ _ h => h)); have HQ5 := Lib.hid (HQ4.out.quiet hc5); have HC5 := Lib.hid (HCW.out.trans hc5); clear hv5 hc5)
            clear HRG HC4
            go_loopw [8] (fun i wr => ∃ m : Nat, i = .int .i64 (m : Int) ∧ m ≤ l'.length ∧ Chg none_ w5 wr) (fun i _ => l'.length - (intOf i).toNat)
            case atStart => exact ⟨0, rfl, Nat.zero_le _, Chg.refl _ _⟩
            case round =>
              obtain ⟨m, rfl, hm, hc⟩ := hrel
              have HC6 := Lib.hid hc
              by_cases hml : m < l'.length
              · have n1 : (m : Int) < (l'.length : Int) := by omega
                have n0 : 0 ≤ (m : Int) := by omega
                obtain ⟨b3, o3, rfl, _, _, hk⟩ := (HV5.out _ hc).rAt hml
                have x0 := hk m hml 0 _ rfl
                have x1 := hk m hml 1 _ rfl
                simp only [Nat.add_zero] at x0
                have hlh := HGD.out.sep.2 _ (rg_mem hml)
                have hmx := (HGD.out.all _ (rg_mem hml)).2
                by_cases hm0 : 0 < m
                · have hpm : m - 1 < l'.length := by omega
                  have y0 := hk (m - 1) hpm 0 _ rfl
                  simp only [Nat.add_zero] at y0
                  have hpw : (rg l' m).2 + 2 ≤ (rg l' (m - 1)).1 := by
                    unfold rg
                    rw [List.getD_eq_getElem?_getD, List.getD_eq_getElem?_getD, List.getElem?_eq_getElem hml, List.getElem?_eq_getElem hpm]
                    exact List.pairwise_iff_getElem.1 HGD.out.sep.1 (m - 1) m hpm hml (by omega)
                  have dm : decide ((0 : Int) < (m : Int)) = true := by simpa using hm0
                  have dm' : (0 : Int) < (m : Int) := by omega
                  have dm2 : decide (0 < m) = true := by simpa using hm0
                  have dm3 : 0 < m := hm0
                  obtain ⟨p, hp⟩ : ∃ p, p = m - 1 := ⟨_, rfl⟩
                  rw [← hp] at y0 hpw hpm
                  have km : wrap64 ((m : Int) - 1) = (p : Int) := by unfold wrap64; omega
                  have km' : (m : Int) - 1 = (p : Int) := by omega
                  have p1 : (p : Int) < (l'.length : Int) := by omega
                  have p0 : 0 ≤ (p : Int) := by omega
                  clear hp
                  generalize rg l' m = r at *
                  generalize rg l' p = q at *
                  obtain ⟨ra, rb⟩ := r
                  obtain ⟨qa, qb⟩ := q
                  dsimp only at hlh hmx hpw x0 x1 y0
                  obtain ⟨h2, hh2⟩ : ∃ h2, h2 = rb + 2 := ⟨_, rfl⟩
                  have kw : IntKind.u64.wrap ((rb : Int) + 2) = (h2 : Int) := by rw [wrap_small (by omega) (by unfold MX at hmx; omega)]; omega
                  have dq' : ¬ (qa : Int) < (h2 : Int) := by omega
                  have dq : decide ((qa : Int) < (h2 : Int)) = false := by simpa using dq'
                  have dq2 : decide (qa < h2) = false := by simp; omega
                  have dq3 : ¬ qa < h2 := by omega
                  have dr' : ¬ (rb : Int) < (ra : Int) := by omega
                  have dr : decide ((rb : Int) < (ra : Int)) = false := by simpa using dr'
                  have dr2 : decide (rb < ra) = false := by simp; omega
                  have dr3 : ¬ rb < ra := by omega
                  clear hk hc hmx hlh hpw hm0 hpm hml hh2
                  go_wp2
                  go_quiet (fail)
                  go_wp2
                  go_roundw
                  case rel => exact ⟨m + 1, by go_num, by omega, HC6.out.drewN _⟩
                  case measure => simp [intOf]; omega
                · have dm' : ¬ (0 : Int) < (m : Int) := by omega
                  have dm : decide ((0 : Int) < (m : Int)) = false := by simpa using dm'
                  have dm2 : decide (0 < m) = false := by simp; omega
                  have dm3 : ¬ 0 < m := hm0
                  generalize rg l' m = r at *
                  obtain ⟨ra, rb⟩ := r
                  dsimp only at hlh hmx x0 x1
                  have dr' : ¬ (rb : Int) < (ra : Int) := by omega
                  have dr : decide ((rb : Int) < (ra : Int)) = false := by simpa using dr'
                  have dr2 : decide (rb < ra) = false := by simp; omega
                  have dr3 : ¬ rb < ra := by omega
                  clear hk hc hmx hlh hm0 hml
                  go_wp2
                  go_quiet (fail)
                  go_wp2
                  go_roundw
                  case rel => exact ⟨m + 1, by go_num, by omega, HC6.out.drewN _⟩
                  case measure => simp [intOf]; omega
              · have d0 : ¬ (m : Int) < (l'.length : Int) := by omega
                have HQ6 := Lib.hid (HQ5.out.quiet hc)
                have HC7 := Lib.hid (HC5.out.trans hc)
                clear hc hm hml
                go_wp2
                go_roundw
                case rel => exact ⟨j + 1, l', y', by go_num, by omega, HQ6.out, HSE.out, HC7.out⟩
                case measure => simp [intOf]; omega
    · have d0 : ¬ (j : Int) < (xs.length : Int) := by omega
      clear hq hc hse hlt hj
      go_wp2
      go_ret
      exact ⟨rfl, HC.out⟩
end Go.Proofs.Ytlakhfbhbebojaa
