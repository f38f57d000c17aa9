/- Layer 5 (params): parameters that came in, opened to their numbers. -/
import Derived.Test.YthoiiibcceacnaaDoorV5Eq
import Derived.ChangeOld
import Derived.ChangeSlices
import Derived.OpenShut
import Derived.Deep.Fields
namespace Go.Proofs.YthoiiibcceacnaaDoor
open Go.RowKit Go.ChangeShapes Go.WideShapes Go.Deep

theorem nat_u64 {x : Int} (h : (Lit.int .u64 x).wf = true) : ∃ n : Nat, x = (n : Int) ∧ n < 18446744073709551616 := by
  have h2 : (decide (0 ≤ x) && decide (x ≤ 18446744073709551615)) = true := h
  simp only [Bool.and_eq_true, decide_eq_true_eq] at h2
  exact ⟨x.toNat, by omega, by omega⟩
theorem nat_u8 {x : Int} (h : (Lit.int .u8 x).wf = true) : ∃ n : Nat, x = (n : Int) ∧ n < 256 := by
  have h2 : (decide (0 ≤ x) && decide (x ≤ 255)) = true := h
  simp only [Bool.and_eq_true, decide_eq_true_eq] at h2
  exact ⟨x.toNat, by omega, by omega⟩
theorem cells_nums : ∀ (l : List Value), (∀ v ∈ l, ∃ n : Nat, v = .int .u8 (n : Int) ∧ n < 256) → ∃ t : List Nat, l = u8s t ∧ ∀ x ∈ t, x < 256
  | [], _ => ⟨[], rfl, by simp⟩
  | v :: l, h => by
    obtain ⟨n, rfl, hn⟩ := h v (by simp)
    obtain ⟨t, rfl, ht⟩ := cells_nums l (fun v hv => h v (by simp [hv]))
    exact ⟨n :: t, rfl, by simpa using ⟨hn, ht⟩⟩
theorem list21 : ∀ {l : List Value}, l.length = 21 → ∃ c0 c1 c2 c3 c4 r, l = c0 :: c1 :: c2 :: c3 :: c4 :: r ∧ r.length = 16
  | a :: b :: c :: d :: e :: r, h => ⟨a, b, c, d, e, r, rfl, by simpa using h⟩

section
variable {H : Type} {enc : TypeId × Value → H} {W : World} {held : Bool}
/-- Parameters that came in. -/
theorem open_pm {r : Reach} {b0 : Nat} {v : Value} {d : DataW H} {p : List MemPlace} (hv : Value.okWide Tryd.prog W r b0 25 v) (h : DataW.Trod enc Tryd.prog W 0 (fun _ => true) held 25 v d p) :
    ∃ q : Pm, v = aggP q ∧ q.Ok := by
  obtain ⟨cs, rfl, hsz⟩ := okWide_struct Tryd.underlying25 hv
  obtain ⟨l⟩ := cs
  have hl : l.length = 21 := hsz.trans cellsPm
  obtain ⟨c0, c1, c2, c3, c4, rr, rfl, hr⟩ := list21 hl
  obtain ⟨fuel, hf⟩ := h
  obtain ⟨xs, n, _, _, _, hlen, hg⟩ := DataW.trod_struct Tryd.underlying25 hf
  have hx : ∀ i, i < 6 → ∃ y, xs[i]? = some y := fun i hi => ⟨xs[i]'(by rw [hlen]; exact hi), List.getElem?_eq_getElem _⟩
  obtain ⟨y0, e0⟩ := hx 0 (by omega)
  obtain ⟨y1, e1⟩ := hx 1 (by omega)
  obtain ⟨y2, e2⟩ := hx 2 (by omega)
  obtain ⟨y3, e3⟩ := hx 3 (by omega)
  obtain ⟨y4, e4⟩ := hx 4 (by omega)
  obtain ⟨y5, e5⟩ := hx 5 (by omega)
  have g0 := hg 0 _ rfl
  have g1 := hg 1 _ rfl
  have g2 := hg 2 _ rfl
  have g3 := hg 3 _ rfl
  have g4 := hg 4 _ rfl
  have g5 := hg 5 _ rfl
  rw [e0] at g0; rw [e1] at g1; rw [e2] at g2; rw [e3] at g3; rw [e4] at g4; rw [e5] at g5
  simp [Value.cells, cells22, cellsB, cellsT, List.take_of_length_le (Nat.le_of_eq hr)] at g0 g1 g2 g3 g4 g5
  obtain ⟨z0, q0, _, w0⟩ := DataW.trod_int Tryd.underlying22 g0
  obtain ⟨z1, q1, _, w1⟩ := DataW.trod_int Tryd.underlying22 g1
  obtain ⟨z2, q2, _, w2⟩ := DataW.trod_int Tryd.underlying22 g2
  obtain ⟨z3, q3, _, w3⟩ := DataW.trod_int Tryd.underlying22 g3
  obtain ⟨b4, q4, _⟩ := DataW.trod_bool Tryd.underlying4 g4
  obtain ⟨ys, m, _, _, _, hly, hy⟩ := DataW.trod_array Tryd.underlying23 g5
  simp at q0 q1 q2 q3 q4
  subst q0; subst q1; subst q2; subst q3; subst q4
  obtain ⟨n0, rfl, l0⟩ := nat_u64 w0
  obtain ⟨n1, rfl, l1⟩ := nat_u64 w1
  obtain ⟨n2, rfl, l2⟩ := nat_u64 w2
  obtain ⟨n3, rfl, l3⟩ := nat_u64 w3
  obtain ⟨t, rfl, ht⟩ := cells_nums rr (fun v hv => by
    obtain ⟨i, hi, rfl⟩ := List.mem_iff_getElem.1 hv
    have q := hy i (by omega)
    have hys : ys[i]? = some (ys[i]'(by omega)) := List.getElem?_eq_getElem _
    rw [hys, cellsU8, Nat.mul_one] at q
    rw [List.drop_eq_getElem_cons hi, List.take_succ_cons, List.take_zero] at q
    obtain ⟨z, qz, _, wz⟩ := DataW.trod_int Tryd.underlying5 q
    obtain ⟨k, rfl, hk⟩ := nat_u8 wz
    simp at qz
    exact ⟨k, qz, hk⟩)
  refine ⟨⟨n0, n1, n2, n3, b4, t⟩, rfl, ⟨by simpa using hr, ht, l0, l1, l2, l3⟩⟩
end
end Go.Proofs.YthoiiibcceacnaaDoor
