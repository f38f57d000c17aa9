/- Layer 13 (ranges): laws walked: numbers one behind the other are one range. -/
import Derived.Test.YtlakhfbhbebojaaV13Order
import Derived.Test.YtlakhfbhbebojaaPast
namespace Go.Proofs.Ytlakhfbhbebojaa
open Go.RowKit Go.Shelf Go.Sort

/-- So many ranges at most lie within so many numbers. -/
theorem Sep.few : ∀ {l : List (Nat × Nat)} {a b : Nat}, Sep l → (∀ r ∈ l, a ≤ r.1 ∧ r.2 < b) → l ≠ [] → 2 * l.length ≤ b - a + 1
  | [], _, _, _, _, h => absurd rfl h
  | [r], a, b, hs, hr, _ => by
    have := hr r List.mem_cons_self
    have := hs.2 r List.mem_cons_self
    simp
    omega
  | r :: s :: l, a, b, hs, hr, _ => by
    obtain ⟨h1, h2, h3⟩ := Sep.cons.1 hs
    have := Sep.few (a := a) (b := r.1 - 1) h3 (fun q hq => ⟨(hr q (List.mem_cons_of_mem _ hq)).1, by have := h1 q hq; omega⟩) (by simp)
    have := hr r List.mem_cons_self
    have := hr s (by simp)
    have := h1 s List.mem_cons_self
    have := h3.2 s List.mem_cons_self
    simp only [List.length_cons] at *
    omega
theorem few_in {l : List (Nat × Nat)} {lo K : Nat} (h : Good l 0 16) (hK : K ≤ 16) (hi : ∀ x, In l x → lo ≤ x ∧ x < lo + K) : l.length ≤ 15 := by
  rcases l with _ | ⟨r, l⟩
  · simp
  · have := Sep.few (a := lo) (b := lo + K) h.sep (fun q hq => ⟨(hi q.1 ⟨q, hq, Nat.le_refl _, h.sep.2 q hq⟩).1, (hi q.2 ⟨q, hq, h.sep.2 q hq, Nat.le_refl _⟩).2⟩) (by simp)
    omega
theorem one_range {l : List (Nat × Nat)} {lo K : Nat} (h : Sep l) (hK : 1 ≤ K) (h1 : ∀ x, In l x → lo ≤ x ∧ x < lo + K) (h2 : ∀ m, m < K → In l (lo + (K - 1 - m))) : l = [(lo, lo + (K - 1))] :=
  Sep.eq h (Sep.one (by show lo ≤ lo + (K - 1); omega)) (fun x => by
    rw [In.cons]
    simp only [In.nil, or_false]
    constructor
    · intro hx
      have := h1 x hx
      omega
    · rintro ⟨a, b⟩
      have := h2 (K - 1 - (x - lo)) (by omega)
      rwa [show lo + (K - 1 - (K - 1 - (x - lo))) = x by omega] at this)

set_option maxRecDepth 100000 in
set_option maxHeartbeats 4000000 in
theorem walk_RangesRuns (lo0 n0 : Int) (w : World) (hlo0 : (Lit.int .u32 lo0).wf = true) (hn0 : (Lit.int .u8 n0).wf = true) :
    Calls Try.prog 7 #[.int .u32 lo0, .int .u8 n0] w fun e w' => e = .returned (.bool true) ∧ Chg none_ w w' := by
  obtain ⟨n, rfl, hn⟩ : ∃ n : Nat, n0 = (n : Int) ∧ n < 256 := by
    have h2 : (decide (0 ≤ n0) && decide (n0 ≤ 255)) = true := hn0
    simp only [Bool.and_eq_true, decide_eq_true_eq] at h2
    exact ⟨n0.toNat, by omega, by omega⟩
  obtain ⟨lo, rfl, hlo⟩ : ∃ lo : Nat, lo0 = (lo : Int) ∧ lo < 4294967296 := by
    have h2 : (decide (0 ≤ lo0) && decide (lo0 ≤ 4294967295)) = true := hlo0
    simp only [Bool.and_eq_true, decide_eq_true_eq] at h2
    exact ⟨lo0.toNat, by omega, by omega⟩
  clear hn0 hlo0
  obtain ⟨K, hK⟩ : ∃ K, K = 1 + n % 16 := ⟨_, rfl⟩
  have e1 : (1 : Int) + (n : Int) % 16 = (K : Int) := by omega
  have hK1 : 1 ≤ K := by omega
  have hK2 : K ≤ 16 := by omega
  clear hK
  go_enter Try.func7, Try.ntmps7
  go_wp2_with (first | (go_at_call 8; refine (alive_any _).mono ?_; rintro e w1 ⟨rfl, hc⟩; have HC1 := Lib.hid hc; clear hc) | ((with_reducible show wpList _ _ _ (⟨some 5, .alloc _, _, _, _, _⟩ :: _) _ _); refine wpList_alloc_Row rfl rfl [.slice none 0 0, .int .u64 0] zeroSt ?_; intro w2 hr hc hs; have HQ2 := Lib.hid (SetG.new (B := w1.heap.size + 1) hr (Nat.lt_succ_self _) (by have := hr.lt; omega)); have HC2 := Lib.hid (HC1.out.trans hc); clear hr hc hs))
  have H0 := Lib.hid HC1.out.size
  clear HC1
  generalize w1.heap.size = g at *
  go_loopw [7] (fun i wr => ∃ (j : Nat) (l : List (Nat × Nat)), i = .int .i64 (j : Int) ∧ j ≤ K ∧ SetG wr (g + 1) g l 0 16 ∧ (∀ x, In l x → lo ≤ x ∧ x < lo + K) ∧ Chg none_ w wr) (fun i _ => K - (intOf i).toNat)
  case atStart => exact ⟨0, [], rfl, Nat.zero_le _, HQ2.out, fun x h => absurd h In.nil, HC2.out⟩
  case round =>
    obtain ⟨j, l, rfl, hj, hq, hin, hc⟩ := hrel
    have HC := Lib.hid hc
    have HQ := Lib.hid hq
    have hfew := few_in hq.2 hK2 hin
    by_cases hlt : j < K
    · have k1 : (j : Int) < (K : Int) := by omega
      have k0 : 0 ≤ (j : Int) := by omega
      have kp : (0 : Int) < (K : Int) := by omega
      obtain ⟨r, hr⟩ : ∃ r, r = (j * 7 + 3) % K := ⟨_, rfl⟩
      have hrK : r < K := by rw [hr]; exact Nat.mod_lt _ (by omega)
      have er : ((j : Int) * 7 + 3) % (K : Int) = (r : Int) := by rw [hr, Int.natCast_emod]; congr 1
      obtain ⟨v, hv⟩ : ∃ v, v = lo + r := ⟨_, rfl⟩
      have ew : IntKind.u64.wrap ((lo : Int) + (r : Int)) = (v : Int) := by rw [wrap_small (by omega) (by omega)]; omega
      have ev : (lo : Int) + (r : Int) = (v : Int) := by omega
      have HA := Lib.hid (Add_own (g + 1) g 0 v l w wr H0.out hc hq)
      obtain ⟨f1, _, f3⟩ := addT_few hq.2 hfew v
      rw [f1] at HA
      have HNX : Hid (∀ x, In (addT l 0 v).1 x → lo ≤ x ∧ x < lo + K) := Lib.hid (fun x hx => by
        rcases (f3 x).1 hx with h | ⟨h, _⟩
        · exact hin x h
        · omega)
      clear f1 f3 hr hv hq hc hin hfew
      generalize newB l 0 v = bb at *
      generalize (addT l 0 v).1 = l' at *
      have kd : ((K : Int) == 0) = false := by rw [beq_eq_false_iff_ne]; omega
      go_wp2_with (go_at_call 9; refine HA.out.mono ?_; rintro e w4 ⟨rfl, hq, hc⟩; have HQ3 := Lib.hid hq; have HC4 := Lib.hid hc; clear hq hc)
      go_roundw
      case rel => exact ⟨j + 1, l', by go_num, by omega, HQ3.out, HNX.out, HC4.out⟩
      case measure => simp [intOf]; omega
    · have d0 : ¬ (j : Int) < (K : Int) := by omega
      have HIN := Lib.hid hin
      clear hq hc hin hlt hj hfew
      go_wp2
      go_loopw [8] (fun i wr' => ∃ (j : Nat) (l : List (Nat × Nat)), i = .int .i64 (j : Int) ∧ j ≤ K ∧ SetG wr' (g + 1) g l 0 16 ∧ (∀ x, In l x → lo ≤ x ∧ x < lo + K) ∧ (∀ m, m < j → In l (lo + (K - 1 - m))) ∧ Chg none_ w wr') (fun i _ => K - (intOf i).toNat)
      case atStart => exact ⟨0, l, rfl, Nat.zero_le _, HQ.out, HIN.out, fun m hm => absurd hm (by omega), HC.out⟩
      case round =>
        obtain ⟨i, l, rfl, hi, hq, hin, hall, hc⟩ := hrel
        have HC5 := Lib.hid hc
        have HQ5 := Lib.hid hq
        have hfew := few_in hq.2 hK2 hin
        by_cases hlt : i < K
        · have k1 : (i : Int) < (K : Int) := by omega
          have k0 : 0 ≤ (i : Int) := by omega
          obtain ⟨r, hr⟩ : ∃ r, r = K - 1 - i := ⟨_, rfl⟩
          have er : (K : Int) - 1 - (i : Int) = (r : Int) := by omega
          obtain ⟨v, hv⟩ : ∃ v, v = lo + r := ⟨_, rfl⟩
          have ew : IntKind.u64.wrap ((lo : Int) + (r : Int)) = (v : Int) := by rw [wrap_small (by omega) (by omega)]; omega
          have ev : (lo : Int) + (r : Int) = (v : Int) := by omega
          have HA := Lib.hid (Add_own (g + 1) g 0 v l w wr H0.out hc hq)
          obtain ⟨f1, _, f3⟩ := addT_few hq.2 hfew v
          rw [f1] at HA
          have HNX : Hid ((∀ x, In (addT l 0 v).1 x → lo ≤ x ∧ x < lo + K) ∧ ∀ m, m < i + 1 → In (addT l 0 v).1 (lo + (K - 1 - m))) := Lib.hid ⟨fun x hx => by
            rcases (f3 x).1 hx with h | ⟨h, _⟩
            · exact hin x h
            · omega, fun m hm => by
            rw [f3]
            rcases Nat.lt_or_ge m i with h | h
            · exact Or.inl (hall m h)
            · refine Or.inr ⟨?_, by unfold MX; omega⟩
              rw [show m = i by omega, hv, hr]⟩
          clear f1 f3 hr hv hq hc hin hfew hall
          generalize newB l 0 v = bb at *
          generalize (addT l 0 v).1 = l' at *
          go_wp2_with (go_at_call 9; refine HA.out.mono ?_; rintro e w4 ⟨rfl, hq, hc⟩; have HQ3 := Lib.hid hq; have HC4 := Lib.hid hc; clear hq hc)
          go_roundw
          case rel => exact ⟨i + 1, l', by go_num, by omega, HQ3.out, HNX.out.1, HNX.out.2, HC4.out⟩
          case measure => simp [intOf]; omega
        · have d1 : ¬ (i : Int) < (K : Int) := by omega
          have hie : i = K := by omega
          have hE := one_range hq.2.sep hK1 hin (hie ▸ hall)
          subst hE
          obtain ⟨h1, hh1⟩ : ∃ h1, h1 = lo + (K - 1) := ⟨_, rfl⟩
          obtain ⟨r, hr⟩ : ∃ r, r = K - 1 := ⟨_, rfl⟩
          have er : (K : Int) - 1 = (r : Int) := by omega
          have ew : IntKind.u64.wrap ((lo : Int) + (r : Int)) = (h1 : Int) := by rw [wrap_small (by omega) (by omega)]; omega
          have ev : (lo : Int) + (r : Int) = (h1 : Int) := by omega
          have e64 : wrap64 (h1 : Int) = (h1 : Int) := by unfold wrap64; omega
          rw [← hh1] at HQ5
          have hmx : h1 ≤ MX := by
            rw [hh1]
            exact Nat.le_trans (Nat.add_le_add (Nat.le_of_lt hlo) (Nat.le_trans (Nat.sub_le _ _) hK2)) (by decide)
          have HRG : Hid (Calls Try.prog 12 #[.pointer (some ⟨g, 0, none⟩)] wr fun e w' => ∃ b3 o3 cap3, e = .returned (.slice (some ⟨b3, o3, none⟩) 1 cap3) ∧ b3 < w'.heap.size ∧ w'.cell? ⟨b3, o3, none⟩ = some (.int .u64 (lo : Int)) ∧ w'.cell? ⟨b3, o3 + 1, none⟩ = some (.int .u64 (h1 : Int)) ∧ Chg none_ wr w') := Lib.hid ((Ranges_any g (g + 1) 0 [(lo, h1)] wr HQ5.out.1 (by simp)).mono fun e w' ⟨v, a, ho, hc⟩ => by
            obtain ⟨A3, cap3, rfl, _, _, hv⟩ := ho.view
            obtain ⟨b3, o3, rfl, hb3, _, hk⟩ := hv.rAt (k := 0) (by simp)
            exact ⟨b3, o3, cap3, a, hb3, hk 0 (by simp) 0 _ rfl, hk 0 (by simp) 1 _ rfl, hc⟩)
          have HLG : Hid (∀ w1, Chg none_ wr w1 → Calls Try.prog 13 #[.pointer (some ⟨g, 0, none⟩)] w1 fun e w' => e = .returned (.int .i64 (h1 : Int)) ∧ w' = w1) := Lib.hid (fun w1 hc' => Largest_any g (g + 1) 0 [(lo, h1)] w1 (HQ5.out.1.quiet hc') (fun r hr => by
            rcases List.mem_singleton.1 hr with rfl
            exact hmx))
          clear hq hc hin hall hlt hi hie hfew hh1 hr HIN hmx
          go_wp2_with (go_at_call 12; refine HRG.out.mono ?_; rintro e w5 ⟨b3, o3, cap3, rfl, hb3, hx0, hx1, hc5⟩; have HP0 := Lib.hid (show ∀ p : Past w5, p.now.cell? ⟨b3, o3, none⟩ = some (.int .u64 (lo : Int)) from fun p => (p.chg.cell _ hb3 (fun h => h)).trans hx0); have HP1 := Lib.hid (show ∀ p : Past w5, p.now.cell? ⟨b3, o3 + 1, none⟩ = some (.int .u64 (h1 : Int)) from fun p => (p.chg.cell _ hb3 (fun h => h)).trans hx1); have HC6 := Lib.hid hc5; clear hx0 hx1 hc5 hb3)
          have hp0 := HP0.out
          have hp1 := HP1.out
          refine wp_region_quiet_past (by kernel_rfl) (by kernel_rfl) ?_
          repeat (go_big_quiet_step ((go_at_call 13; exact Calls.past_same (HLG.out _ (HC6.out.trans (Past.chg _))))))
          refine wpQuiet_nil ?_
          rintro _ ⟨p, rfl⟩
          go_wp2
          go_ret
          exact ⟨rfl, (HC5.out.trans HC6.out).trans p.chg⟩
end Go.Proofs.Ytlakhfbhbebojaa
