/- Layer 12 (timers): what came in, opened: timers, and what is done to timers. -/
import Derived.Test.YtblpgpolhibfgaaV12Alive
import Derived.Deep.Fields
import Derived.Deep.SlicePairs
import Derived.ChangeOld
import Derived.ChangeSlices
namespace Go.Proofs.Ytblpgpolhibfgaa
open Go.RowKit Go.ChangeShapes Go.WideShapes Go.Deep

/-- Something that is done to timers. -/
structure Ac where
  kind : Int
  t : Tm
  deriving Inhabited
def acell (x : Ac) : List Value := .int .i64 x.kind :: tcell x.t
def acells (l : List Ac) : List Value := l.flatMap acell
def ac0 : Ac := ⟨0, zT⟩
theorem acells_len (l : List Ac) : (acells l).length = 4 * l.length := by
  induction l with
  | nil => rfl
  | cons a l ih => simp only [acells, acell, List.flatMap_cons, List.length_append, List.length_cons, tcell_len] at ih ⊢; omega
theorem acells_get (l : List Ac) (i j : Nat) (h : i < l.length) (hj : j < 4) : (acells l)[i * 4 + j]? = (acell (l.getD i ac0))[j]? := by
  induction l generalizing i with
  | nil => cases h
  | cons a l ih =>
    have ha : (acell a).length = 4 := rfl
    cases i with
    | zero =>
      simp only [acells, List.flatMap_cons, List.getD_cons_zero, Nat.zero_mul, Nat.zero_add]
      rw [List.getElem?_append_left (by rw [ha]; exact hj)]
    | succ i =>
      have := ih i (by simpa using h)
      simp only [acells, List.flatMap_cons, List.getD_cons_succ] at this ⊢
      rw [List.getElem?_append_right (by rw [ha]; omega), ha, show (i + 1) * 4 + j - 4 = i * 4 + j from by omega]
      exact this

theorem view_of12 {w : World} {a : Addr} {n : Nat} {xs : List Value} (hl : xs.length = n) (h : ∀ j, j < n → w.cell? (a.add j) = xs[j]?) : View w (fun _ => True) (some a) n xs := by
  refine ⟨hl, fun hn => ?_⟩
  have h0 := h 0 hn
  rw [List.getElem?_eq_getElem (by omega)] at h0
  obtain ⟨b, o, sp⟩ := a
  have hsp : sp = none := by
    have := World.cell?_spot h0
    simpa [Addr.add] using this
  subst hsp
  refine ⟨b, o, rfl, World.block_lt_of_cell? w ⟨b, o, none⟩ (by simpa [addr_add] using h0), trivial, fun j hj => ?_⟩
  have := h j hj
  rwa [addr_add] at this
theorem u64_nat12 {x : Int} (h : (Lit.int .u64 x).wf = true) : ∃ n : Nat, x = (n : Int) ∧ n < 18446744073709551616 := by
  have h2 : (decide (0 ≤ x) && decide (x ≤ 18446744073709551615)) = true := h
  simp only [Bool.and_eq_true, decide_eq_true_eq] at h2
  exact ⟨x.toNat, by omega, by omega⟩
theorem range_getD12 {α : Type} (q : Nat → α) (d : α) (n i : Nat) (h : i < n) : ((List.range n).map q).getD i d = q i := by
  simp [List.getD_eq_getElem?_getD, h]

theorem list3_12 : ∀ {l : List Value}, l.length = 3 → ∃ c0 c1 c2, l = [c0, c1, c2]
  | [a, b, c], _ => ⟨a, b, c, rfl⟩
theorem list4_12 : ∀ {l : List Value}, l.length = 4 → ∃ c0 c1 c2 c3, l = [c0, c1, c2, c3]
  | [a, b, c, d], _ => ⟨a, b, c, d, rfl⟩

section
variable {H : Type} {enc : TypeId × Value → H} {W : World} {held : Bool}
theorem open_tm_cells {n : Nat} {c0 c1 c2 : Value} {y : DataW H × List MemPlace} (h : DataW.trod enc Try.prog W 0 (fun _ => true) held n 27 [c0, c1, c2] = some y) : ∃ t : Tm, [c0, c1, c2] = tcell t ∧ TOk t := by
  obtain ⟨xs, k, _, _, _, hlen, hg⟩ := DataW.trod_struct Try.underlying27 h
  have hx : ∀ i, i < 3 → ∃ y, xs[i]? = some y := fun i hi => ⟨xs[i]'(by rw [hlen]; exact hi), List.getElem?_eq_getElem _⟩
  have ki : Try.prog.cellsOf 3 = 1 := by kernel_rfl
  have ku : Try.prog.cellsOf 25 = 1 := by kernel_rfl
  obtain ⟨y0, e0⟩ := hx 0 (by omega)
  obtain ⟨y1, e1⟩ := hx 1 (by omega)
  obtain ⟨y2, e2⟩ := hx 2 (by omega)
  have g0 := hg 0 _ rfl
  have g1 := hg 1 _ rfl
  have g2 := hg 2 _ rfl
  rw [e0] at g0; rw [e1] at g1; rw [e2] at g2
  simp [ki, ku] at g0 g1 g2
  obtain ⟨z0, q0, _, w0⟩ := DataW.trod_int Try.underlying25 g0
  obtain ⟨z1, q1, _, w1⟩ := DataW.trod_int Try.underlying3 g1
  obtain ⟨z2, q2, _, w2⟩ := DataW.trod_int Try.underlying3 g2
  simp at q0 q1 q2
  subst q0; subst q1; subst q2
  obtain ⟨n0, rfl, h0⟩ := u64_nat12 w0
  exact ⟨⟨n0, z1, z2⟩, rfl, h0, w1, w2⟩
theorem open_ac_cells {n : Nat} {c0 c1 c2 c3 : Value} {y : DataW H × List MemPlace} (h : DataW.trod enc Try.prog W 0 (fun _ => true) held n 42 [c0, c1, c2, c3] = some y) : ∃ a : Ac, [c0, c1, c2, c3] = acell a ∧ TOk a.t := by
  obtain ⟨xs, k, _, _, _, hlen, hg⟩ := DataW.trod_struct Try.underlying42 h
  have hx : ∀ i, i < 2 → ∃ y, xs[i]? = some y := fun i hi => ⟨xs[i]'(by rw [hlen]; exact hi), List.getElem?_eq_getElem _⟩
  have ki : Try.prog.cellsOf 3 = 1 := by kernel_rfl
  have kt : Try.prog.cellsOf 27 = 3 := by kernel_rfl
  obtain ⟨y0, e0⟩ := hx 0 (by omega)
  obtain ⟨y1, e1⟩ := hx 1 (by omega)
  have g0 := hg 0 _ rfl
  have g1 := hg 1 _ rfl
  rw [e0] at g0; rw [e1] at g1
  simp [ki, kt] at g0 g1
  obtain ⟨z0, q0, _, _⟩ := DataW.trod_int Try.underlying3 g0
  simp at q0
  subst q0
  obtain ⟨t, e, hok⟩ := open_tm_cells g1
  exact ⟨⟨z0, t⟩, by unfold acell; rw [← e], hok⟩

/-- Timers that came in. -/
theorem open_tms {n : Nat} {u : Value} {y : DataW H × List MemPlace} (h : DataW.trod enc Try.prog W 0 (fun _ => true) held n 34 [u] = some y) :
    ∃ (l : List Tm) (A : Option Addr) (c : Nat), u = .slice A l.length c ∧ (l.length ≤ c ∧ c ≤ maxLen) ∧ View W (fun _ => True) A (l.length * 3) (tcells l) ∧ ∀ t ∈ l, TOk t := by
  rcases open_slice Try.underlying34 h with ⟨hcs, _⟩ | ⟨a, len, cap, m, k, D, Pl, hcs, _, hl, hm, hmm, _, hi⟩
  · simp at hcs
    exact ⟨[], none, 0, hcs, ⟨Nat.le_refl _, Nat.zero_le _⟩, View.none_ _ _ _, by simp⟩
  · simp at hcs hmm
    subst hmm
    have ce : Try.prog.cellsOf 27 = 3 := by kernel_rfl
    rw [ce] at hi
    have each : ∀ i, i < m → ∃ q : Tm, TOk q ∧ ∀ j, j < 3 → W.cell? (a.add (i * 3 + j)) = (tcell q)[j]? := by
      intro i him
      obtain ⟨cs', h1, h2⟩ := hi i him
      obtain ⟨_, hlen, hcell⟩ := World.cells?_some h1
      obtain ⟨c0, c1, c2, rfl⟩ := list3_12 hlen
      obtain ⟨f, e, k1⟩ := open_tm_cells h2
      refine ⟨f, k1, fun j hj => ?_⟩
      rw [← e, ← hcell j hj, Go.Deep.add_add]
    obtain ⟨q, hq⟩ := choose_lt each
    have hlen : ((List.range len).map q).length = len := by simp
    refine ⟨(List.range len).map q, some a, m, by rw [hlen]; exact hcs, ⟨by rw [hlen]; exact hl, hm⟩, view_of12 (by rw [tcells_len, Nat.mul_comm]) (fun j hj => ?_), fun x hx => ?_⟩
    · rw [hlen] at hj
      have e := tcells_get ((List.range len).map q) (j / 3) (j % 3) (by rw [hlen]; omega) (by omega)
      rw [show j / 3 * 3 + j % 3 = j by omega] at e
      rw [e]
      unfold tm
      rw [range_getD12 q _ _ _ (by omega), ← (hq (j / 3) (by omega)).2 (j % 3) (by omega), show j / 3 * 3 + j % 3 = j by omega]
    · obtain ⟨i, hi', rfl⟩ := List.mem_map.1 hx
      exact (hq i (by have := List.mem_range.1 hi'; omega)).1
theorem open_acts {n : Nat} {u : Value} {y : DataW H × List MemPlace} (h : DataW.trod enc Try.prog W 0 (fun _ => true) held n 22 [u] = some y) :
    ∃ (l : List Ac) (A : Option Addr) (c : Nat), u = .slice A l.length c ∧ (l.length ≤ c ∧ c ≤ maxLen) ∧ View W (fun _ => True) A (l.length * 4) (acells l) ∧ ∀ x ∈ l, TOk x.t := by
  rcases open_slice Try.underlying22 h with ⟨hcs, _⟩ | ⟨a, len, cap, m, k, D, Pl, hcs, _, hl, hm, hmm, _, hi⟩
  · simp at hcs
    exact ⟨[], none, 0, hcs, ⟨Nat.le_refl _, Nat.zero_le _⟩, View.none_ _ _ _, by simp⟩
  · simp at hcs hmm
    subst hmm
    have ce : Try.prog.cellsOf 42 = 4 := by kernel_rfl
    rw [ce] at hi
    have each : ∀ i, i < m → ∃ q : Ac, TOk q.t ∧ ∀ j, j < 4 → W.cell? (a.add (i * 4 + j)) = (acell q)[j]? := by
      intro i him
      obtain ⟨cs', h1, h2⟩ := hi i him
      obtain ⟨_, hlen, hcell⟩ := World.cells?_some h1
      obtain ⟨c0, c1, c2, c3, rfl⟩ := list4_12 hlen
      obtain ⟨f, e, k1⟩ := open_ac_cells h2
      refine ⟨f, k1, fun j hj => ?_⟩
      rw [← e, ← hcell j hj, Go.Deep.add_add]
    obtain ⟨q, hq⟩ := choose_lt each
    have hlen : ((List.range len).map q).length = len := by simp
    refine ⟨(List.range len).map q, some a, m, by rw [hlen]; exact hcs, ⟨by rw [hlen]; exact hl, hm⟩, view_of12 (by rw [acells_len, Nat.mul_comm]) (fun j hj => ?_), fun x hx => ?_⟩
    · rw [hlen] at hj
      have e := acells_get ((List.range len).map q) (j / 4) (j % 4) (by rw [hlen]; omega) (by omega)
      rw [show j / 4 * 4 + j % 4 = j by omega] at e
      rw [e, range_getD12 q _ _ _ (by omega), ← (hq (j / 4) (by omega)).2 (j % 4) (by omega), show j / 4 * 4 + j % 4 = j by omega]
    · obtain ⟨i, hi', rfl⟩ := List.mem_map.1 hx
      exact (hq i (by have := List.mem_range.1 hi'; omega)).1
end
end Go.Proofs.Ytblpgpolhibfgaa
