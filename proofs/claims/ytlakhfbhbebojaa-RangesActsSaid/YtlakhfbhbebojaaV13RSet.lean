/- Layer 13 (ranges): the document's set: numbers in order; Has and Largest. -/
import Derived.Test.YtlakhfbhbebojaaV13Once
import Derived.Test.YtlakhfbhbebojaaPast
namespace Go.Proofs.Ytlakhfbhbebojaa
open Go.RowKit Go.Shelf Go.Sort

/-- The document's set of these numbers: its two cells, and where they lie (in blocks past B). -/
def RAt (w : World) (B g : Nat) (L : List Nat) (y : Nat) : Prop :=
  ∃ A cap, Row w g 35 [.slice A L.length cap, .int .u64 (y : Int)] ∧ L.length ≤ cap ∧ cap ≤ maxLen ∧ View w (fun b => B ≤ b) A L.length (u64s L) ∧ g < B ∧ B ≤ w.heap.size
theorem RAt.chg {w w' : World} {B g : Nat} {L : List Nat} {y : Nat} {S : Nat → Prop} (h : RAt w B g L y) (hc : Chg S w w') (h1 : ¬ S g) (h2 : ∀ b, B ≤ b → ¬ S b) : RAt w' B g L y := by
  obtain ⟨A, cap, k1, k2, k3, k4, k5, k6⟩ := h
  exact ⟨A, cap, k1.chg hc h1, k2, k3, k4.chg hc h2, k5, Nat.le_trans k6 hc.size⟩
theorem RAt.quiet {w w' : World} {B g : Nat} {L : List Nat} {y : Nat} (h : RAt w B g L y) (hc : Chg none_ w w') : RAt w' B g L y := h.chg hc (fun h => h) (fun _ _ h => h)
theorem RAt.lt {w : World} {B g : Nat} {L : List Nat} {y : Nat} (h : RAt w B g L y) : g < B ∧ B ≤ w.heap.size := by
  obtain ⟨A, cap, _, _, _, _, k5, k6⟩ := h
  exact ⟨k5, k6⟩
/-- Numbers that are those of the ranges. -/
structure Same_ (l : List (Nat × Nat)) (L : List Nat) : Prop where
  asc : Asc L
  mem : ∀ x, In l x ↔ x ∈ L
theorem Same_.ranges {l : List (Nat × Nat)} {L : List Nat} {y k : Nat} (h : Same_ l L) (hg : Good l y k) : rangesR L = l := rangesR_eq h.asc hg.sep h.mem
theorem Same_.le {l : List (Nat × Nat)} {L : List Nat} {y k : Nat} (h : Same_ l L) (hg : Good l y k) : ∀ x ∈ L, y ≤ x ∧ x ≤ MX := fun x hx => hg.in_ ((h.mem x).2 hx)
theorem Same_.has {l : List (Nat × Nat)} {L : List Nat} {y k n : Nat} (h : Same_ l L) (hg : Good l y k) : decide (n ∈ L) = hasL l n := by
  rw [Bool.eq_iff_iff, hasL_iff hg.sep, h.mem]
  simp
theorem nm_lt {L : List Nat} (h : Asc L) {i j : Nat} (hij : i < j) (hj : j < L.length) : nm L i < nm L j := by
  unfold nm
  rw [List.getD_eq_getElem?_getD, List.getD_eq_getElem?_getD, List.getElem?_eq_getElem (by omega), List.getElem?_eq_getElem hj]
  exact List.pairwise_iff_getElem.1 h i j (by omega) hj hij
theorem nm_of_mem {L : List Nat} {x : Nat} (h : x ∈ L) : ∃ i, i < L.length ∧ nm L i = x := by
  obtain ⟨i, hi, e⟩ := List.mem_iff_getElem.1 h
  refine ⟨i, hi, ?_⟩
  unfold nm
  rw [List.getD_eq_getElem?_getD, List.getElem?_eq_getElem hi]
  exact e
theorem Same_.largest {l : List (Nat × Nat)} {L : List Nat} {y k : Nat} (h : Same_ l L) (hg : Good l y k) : (if L.length = 0 then (-1 : Int) else ((nm L (L.length - 1) : Nat) : Int)) = largestL l := by
  rcases l with _ | ⟨r, l⟩
  · have hL : L.length = 0 := by
      rcases L with _ | ⟨a, L⟩
      · rfl
      · exact absurd ((h.mem a).2 List.mem_cons_self) In.nil
    rw [if_pos hL]
    rfl
  · have hr := (Sep.cons.1 hg.sep)
    have hm : r.2 ∈ L := (h.mem r.2).1 (In.cons.2 (Or.inl ⟨hr.2.1, Nat.le_refl _⟩))
    obtain ⟨i, hi, e⟩ := nm_of_mem hm
    rw [if_neg (by omega)]
    show _ = (r.2 : Int)
    congr 1
    have hlast : nm L (L.length - 1) ∈ L := nm_mem (by omega)
    have h1 : nm L (L.length - 1) ≤ r.2 := by
      rcases In.cons.1 ((h.mem _).2 hlast) with h2 | ⟨q, hq, h3, h4⟩
      · exact h2.2
      · have := hr.1 q hq
        have := hr.2.1
        omega
    rcases Nat.lt_or_ge i (L.length - 1) with h2 | h2
    · have := nm_lt h.asc h2 (by omega)
      omega
    · rw [← e, show L.length - 1 = i by omega]

set_option maxRecDepth 100000 in
set_option maxHeartbeats 1000000 in
theorem RHas_any (g B y n : Nat) (L : List Nat) (w : World) (h : RAt w B g L y) (hl : L.length ≤ 100000) :
    Calls Try.prog 17 #[.pointer (some ⟨g, 0, none⟩), .int .u64 (n : Int)] w fun e w' => e = .returned (.bool (decide (n ∈ L))) ∧ w' = w := by
  obtain ⟨A, cap, hr, _, _, hv, _⟩ := h
  have c0 : w.cell? ⟨g, 0, none⟩ = some (.slice A L.length cap) := hr.cell 0
  have HV := Lib.hid hv
  clear hv hr
  go_enter Try.func17, Try.ntmps17
  go_wp2
  go_loopw [5] (fun i wr => ∃ j : Nat, i = .int .i64 (j : Int) ∧ j ≤ L.length ∧ (∀ m, m < j → nm L m ≠ n) ∧ w = wr) (fun i _ => L.length - (intOf i).toNat)
  case atStart => exact ⟨0, rfl, Nat.zero_le _, fun m hm => absurd hm (by omega), rfl⟩
  case round =>
    obtain ⟨j, rfl, hj, hm, rfl⟩ := hrel
    by_cases hlt : j < L.length
    · have k1 : (j : Int) < (L.length : Int) := by omega
      have k0 : 0 ≤ (j : Int) := by omega
      obtain ⟨b, o, rfl, _, hk⟩ := HV.out.u64At (by omega)
      have a1 := hk j hlt
      clear hk
      by_cases he : nm L j = n
      · have q1 : ((nm L j : Int) == (n : Int)) = true := by rw [beq_iff_eq]; omega
        have HE : Hid (decide (n ∈ L) = true) := Lib.hid (by
          simp only [decide_eq_true_eq]
          exact he ▸ nm_mem hlt)
        clear hm he
        go_wp2
        go_ret
        exact ⟨ret_bool HE.out.symm, rfl⟩
      · have q1 : ((nm L j : Int) == (n : Int)) = false := by rw [beq_eq_false_iff_ne]; omega
        have HM : Hid (∀ m, m < j + 1 → nm L m ≠ n) := Lib.hid (fun m hm' => by
          rcases Nat.lt_or_ge m j with h | h
          · exact hm m h
          · rw [show m = j from by omega]; exact he)
        clear hm he
        go_wp2
        go_roundw
        case rel => exact ⟨j + 1, by go_num, by omega, HM.out, trivial⟩
        case measure => simp [intOf]; omega
    · have HE : Hid (decide (n ∈ L) = false) := Lib.hid (by
        simp only [decide_eq_false_iff_not]
        intro hx
        obtain ⟨i, hi, e⟩ := nm_of_mem hx
        exact hm i (by omega) e)
      have d0 : ¬ (j : Int) < (L.length : Int) := by omega
      clear hm hj hlt
      go_wp2
      go_ret
      exact ⟨ret_bool HE.out.symm, rfl⟩

set_option maxRecDepth 100000 in
set_option maxHeartbeats 1000000 in
theorem RLargest_any (g B y : Nat) (L : List Nat) (w : World) (h : RAt w B g L y) (hl : L.length ≤ 100000) (hx : ∀ x ∈ L, x ≤ MX) :
    Calls Try.prog 18 #[.pointer (some ⟨g, 0, none⟩)] w fun e w' => e = .returned (.int .i64 (if L.length = 0 then (-1 : Int) else ((nm L (L.length - 1) : Nat) : Int))) ∧ Chg none_ w w' := by
  obtain ⟨A, cap, hr, _, _, hv, _⟩ := h
  have c0 : w.cell? ⟨g, 0, none⟩ = some (.slice A L.length cap) := hr.cell 0
  clear hr
  by_cases h0 : L.length = 0
  · have HE : Hid ((if L.length = 0 then (-1 : Int) else ((nm L (L.length - 1) : Nat) : Int)) = -1) := Lib.hid (if_pos h0)
    have n1 : ((L.length : Int) == 0) = true := by rw [beq_iff_eq]; omega
    rw [HE.out]
    clear hv h0
    generalize L.length = n at *
    go_enter Try.func18, Try.ntmps18
    go_wp2
    go_ret
    exact ⟨rfl, Chg.refl _ _⟩
  · have HE : Hid ((if L.length = 0 then (-1 : Int) else ((nm L (L.length - 1) : Nat) : Int)) = ((nm L (L.length - 1) : Nat) : Int)) := Lib.hid (if_neg h0)
    rw [HE.out]
    obtain ⟨b, o, rfl, hb, hk⟩ := hv.u64At (by omega)
    have a1 := hk (L.length - 1) (by omega)
    have hmx := hx _ (nm_mem (show L.length - 1 < L.length by omega))
    have n1 : ((L.length : Int) == 0) = false := by rw [beq_eq_false_iff_ne]; omega
    obtain ⟨p, hp⟩ : ∃ p, p = L.length - 1 := ⟨_, rfl⟩
    rw [← hp] at a1 hmx ⊢
    have km : (L.length : Int) - 1 = (p : Int) := by omega
    have p1 : (p : Int) < (L.length : Int) := by omega
    have p0 : 0 ≤ (p : Int) := by omega
    have HWR : Hid (wrap64 (nm L p : Int) = (nm L p : Int)) := Lib.hid (by unfold MX at hmx; unfold wrap64; omega)
    have hp0 : ∀ q : Past w, q.now.cell? ⟨g, 0, none⟩ = some (.slice (some ⟨b, o, none⟩) L.length cap) := fun q => (q.chg.cell 0 (World.block_lt_of_cell? _ _ c0) (fun h => h)).trans c0
    have hp1 : ∀ q : Past w, q.now.cell? ⟨b, o + p, none⟩ = some (.int .u64 (nm L p : Int)) := fun q => (q.chg.cell _ hb (fun h => h)).trans a1
    clear hk hv h0 hp hmx hx HE
    generalize nm L p = v at *
    generalize L.length = n at *
    go_enter Try.func18, Try.ntmps18
    go_wp2
    refine wp_region_quiet_past (by kernel_rfl) (by kernel_rfl) ?_
    repeat (go_big_quiet_step (fail))
    refine wpQuiet_nil ?_
    rintro _ ⟨p, rfl⟩
    go_wp2
    go_ret
    exact ⟨ret_i64 HWR.out, p.chg⟩
end Go.Proofs.Ytlakhfbhbebojaa
