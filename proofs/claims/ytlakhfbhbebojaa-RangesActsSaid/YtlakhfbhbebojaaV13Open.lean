/- Layer 13 (ranges): what came in, opened: what is done to a set. -/
import Derived.Test.YtlakhfbhbebojaaV13RSet
import Derived.Deep.Fields
import Derived.Deep.SlicePairs
import Derived.ChangeOld
import Derived.ChangeSlices
namespace Go.Proofs.Ytlakhfbhbebojaa
open Go.RowKit Go.ChangeShapes Go.WideShapes Go.Deep

/-- Something that is done to a set: its kind, and a number. -/
def rac0 : Int × Nat := (0, 0)
def racell (x : Int × Nat) : List Value := [.int .i64 x.1, .int .u64 (x.2 : Int)]
def racells (l : List (Int × Nat)) : List Value := l.flatMap racell
theorem racells_len (l : List (Int × Nat)) : (racells l).length = 2 * l.length := by
  induction l with
  | nil => rfl
  | cons a l ih => simp only [racells, racell, List.flatMap_cons, List.length_append, List.length_cons, List.length_nil] at ih ⊢; omega
theorem racells_get (l : List (Int × Nat)) (i j : Nat) (h : i < l.length) (hj : j < 2) : (racells l)[i * 2 + j]? = (racell (l.getD i rac0))[j]? := by
  induction l generalizing i with
  | nil => cases h
  | cons a l ih =>
    have ha : (racell a).length = 2 := rfl
    cases i with
    | zero =>
      simp only [racells, List.flatMap_cons, List.getD_cons_zero, Nat.zero_mul, Nat.zero_add]
      rw [List.getElem?_append_left (by rw [ha]; exact hj)]
    | succ i =>
      have := ih i (by simpa using h)
      simp only [racells, List.flatMap_cons, List.getD_cons_succ] at this ⊢
      rw [List.getElem?_append_right (by rw [ha]; omega), ha, show (i + 1) * 2 + j - 2 = i * 2 + j from by omega]
      exact this

theorem view_of13 {w : World} {a : Addr} {n : Nat} {xs : List Value} (hl : xs.length = n) (h : ∀ j, j < n → w.cell? (a.add j) = xs[j]?) : View w (fun _ => True) (some a) n xs := by
  refine ⟨hl, fun hn => ?_⟩
  have h0 := h 0 hn
  rw [List.getElem?_eq_getElem (by omega)] at h0
  obtain ⟨b, o, sp⟩ := a
  have hsp : sp = none := by
    have := World.cell?_spot h0
    simpa [Addr.add] using this
  subst hsp
  refine ⟨b, o, rfl, World.block_lt_of_cell? w ⟨b, o, none⟩ (by simpa [addr_add] using h0), trivial, fun j hj => ?_⟩
  have := h j hj
  rwa [addr_add] at this
theorem u64_nat13 {x : Int} (h : (Lit.int .u64 x).wf = true) : ∃ n : Nat, x = (n : Int) ∧ n < 18446744073709551616 := by
  have h2 : (decide (0 ≤ x) && decide (x ≤ 18446744073709551615)) = true := h
  simp only [Bool.and_eq_true, decide_eq_true_eq] at h2
  exact ⟨x.toNat, by omega, by omega⟩
theorem range_getD13 {α : Type} (q : Nat → α) (d : α) (n i : Nat) (h : i < n) : ((List.range n).map q).getD i d = q i := by
  simp [List.getD_eq_getElem?_getD, h]

theorem list2_13 : ∀ {l : List Value}, l.length = 2 → ∃ c0 c1, l = [c0, c1]
  | [a, b], _ => ⟨a, b, rfl⟩

section
variable {H : Type} {enc : TypeId × Value → H} {W : World} {held : Bool}
theorem open_rac_cells {n : Nat} {c0 c1 : Value} {y : DataW H × List MemPlace} (h : DataW.trod enc Try.prog W 0 (fun _ => true) held n 37 [c0, c1] = some y) : ∃ a : Int × Nat, [c0, c1] = racell a ∧ a.2 < 18446744073709551616 := by
  obtain ⟨xs, k, _, _, _, hlen, hg⟩ := DataW.trod_struct Try.underlying37 h
  have hx : ∀ i, i < 2 → ∃ y, xs[i]? = some y := fun i hi => ⟨xs[i]'(by rw [hlen]; exact hi), List.getElem?_eq_getElem _⟩
  have ki : Try.prog.cellsOf 3 = 1 := by kernel_rfl
  have ku : Try.prog.cellsOf 26 = 1 := by kernel_rfl
  obtain ⟨y0, e0⟩ := hx 0 (by omega)
  obtain ⟨y1, e1⟩ := hx 1 (by omega)
  have g0 := hg 0 _ rfl
  have g1 := hg 1 _ rfl
  rw [e0] at g0; rw [e1] at g1
  simp [ki, ku] at g0 g1
  obtain ⟨z0, q0, _, _⟩ := DataW.trod_int Try.underlying3 g0
  obtain ⟨z1, q1, _, w1⟩ := DataW.trod_int Try.underlying26 g1
  simp at q0 q1
  subst q0; subst q1
  obtain ⟨n1, rfl, h1⟩ := u64_nat13 w1
  exact ⟨(z0, n1), rfl, h1⟩
theorem open_racts {n : Nat} {u : Value} {y : DataW H × List MemPlace} (h : DataW.trod enc Try.prog W 0 (fun _ => true) held n 22 [u] = some y) :
    ∃ (l : List (Int × Nat)) (A : Option Addr) (c : Nat), u = .slice A l.length c ∧ (l.length ≤ c ∧ c ≤ maxLen) ∧ View W (fun _ => True) A (l.length * 2) (racells l) ∧ ∀ x ∈ l, x.2 < 18446744073709551616 := by
  rcases open_slice Try.underlying22 h with ⟨hcs, _⟩ | ⟨a, len, cap, m, k, D, Pl, hcs, _, hl, hm, hmm, _, hi⟩
  · simp at hcs
    exact ⟨[], none, 0, hcs, ⟨Nat.le_refl _, Nat.zero_le _⟩, View.none_ _ _ _, by simp⟩
  · simp at hcs hmm
    subst hmm
    have ce : Try.prog.cellsOf 37 = 2 := by kernel_rfl
    rw [ce] at hi
    have each : ∀ i, i < m → ∃ q : Int × Nat, q.2 < 18446744073709551616 ∧ ∀ j, j < 2 → W.cell? (a.add (i * 2 + j)) = (racell q)[j]? := by
      intro i him
      obtain ⟨cs', h1, h2⟩ := hi i him
      obtain ⟨_, hlen, hcell⟩ := World.cells?_some h1
      obtain ⟨c0, c1, rfl⟩ := list2_13 hlen
      obtain ⟨f, e, k1⟩ := open_rac_cells h2
      refine ⟨f, k1, fun j hj => ?_⟩
      rw [← e, ← hcell j hj, Go.Deep.add_add]
    obtain ⟨q, hq⟩ := choose_lt each
    have hlen : ((List.range len).map q).length = len := by simp
    refine ⟨(List.range len).map q, some a, m, by rw [hlen]; exact hcs, ⟨by rw [hlen]; exact hl, hm⟩, view_of13 (by rw [racells_len, Nat.mul_comm]) (fun j hj => ?_), fun x hx => ?_⟩
    · rw [hlen] at hj
      have e := racells_get ((List.range len).map q) (j / 2) (j % 2) (by rw [hlen]; omega) (by omega)
      rw [show j / 2 * 2 + j % 2 = j by omega] at e
      rw [e, range_getD13 q _ _ _ (by omega), ← (hq (j / 2) (by omega)).2 (j % 2) (by omega), show j / 2 * 2 + j % 2 = j by omega]
    · obtain ⟨i, hi', rfl⟩ := List.mem_map.1 hx
      exact (hq i (by have := List.mem_range.1 hi'; omega)).1
end
end Go.Proofs.Ytlakhfbhbebojaa
