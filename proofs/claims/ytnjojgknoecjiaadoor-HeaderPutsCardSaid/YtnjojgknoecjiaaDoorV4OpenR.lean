/- Layer 4 (header): a header that came in, and how long its slices may be (the form's own reach). -/
import Derived.Test.YtnjojgknoecjiaaDoorV4Open
import Derived.SizedLaws
namespace Go.Proofs.YtnjojgknoecjiaaDoor
open Go.RowKit Go.ChangeShapes Go.WideShapes Go.Deep

section
variable {H : Type} {enc : TypeId × Value → H} {W : World} {held : Bool}
theorem open_bytes2 {n : Nat} {u : Value} {y : DataW H × List MemPlace} (h : DataW.trod enc Tryd.prog W 0 (fun _ => true) held n 23 [u] = some y) :
    ∃ l : List Nat, SlIn W u l ∧ (∀ x ∈ l, x < 256) ∧ ((∀ n ∈ y.1.weights Tryd.prog 23, n ≤ reachBytes) → l.length ≤ reachBytes) := by
  have hb1 : Tryd.prog.bytesOf 5 = 1 := by kernel_rfl
  have hrow : ∃ a len cap zs, u = .slice a len cap ∧ IsRow .u8 W a len cap zs ∧ ((∀ n ∈ y.1.weights Tryd.prog 23, n ≤ reachBytes) → len ≤ reachBytes) := by
    rcases open_ints Tryd.underlying23 Tryd.underlying5 (by kernel_rfl) h with ⟨hcs, _⟩ | ⟨x, l, c, zs, hcs, _, hl, hm, hz, hy, hcell, hwz⟩
    · simp at hcs
      exact ⟨none, 0, 0, [], hcs, .inl ⟨rfl, rfl, rfl, rfl⟩, fun _ => Nat.zero_le _⟩
    · simp at hcs
      refine ⟨some x, l, c, zs, hcs, .inr ⟨x, rfl, hl, hm, by simpa using hz, hcell, hwz⟩, fun hn => ?_⟩
      subst hy
      have := hn (((lits (H := H) .u8 (zs.take l)).length + (lits (H := H) .u8 (zs.drop l)).length) * 1) (by simp [DataW.weights, Tryd.underlying23, hb1])
      simp [lits] at this
      have hz' : zs.length = c := by simpa using hz
      omega
  obtain ⟨a, len, cap, zs, rfl, hr, hre⟩ := hrow
  obtain ⟨xs, rfl, h1, h2, h3, h4⟩ := hr.u8
  exact ⟨xs, ⟨a, cap, rfl, Nat.le_trans h1 h2, h4⟩, h3, hre⟩

/-- How long a header's slices may be. -/
def HdCap (h : Hd) : Prop := h.dst.length ≤ 140737488351232 ∧ h.src.length ≤ 140737488351232 ∧ h.token.length ≤ 140737488351232 ∧ h.cut.length ≤ 140737488351232

theorem open_hd2 {r : Reach} {b0 : Nat} {v : Value} {d : DataW H} {p : List MemPlace} (hv : Value.okWide Tryd.prog W r b0 25 v) (h : DataW.Trod enc Tryd.prog W 0 (fun _ => true) held 25 v d p)
    (hs : ∀ n ∈ d.weights Tryd.prog 25, n ≤ reachBytes) :
    ∃ (h : Hd) (f : Four), v = aggH h f ∧ HdIn W h f ∧ h.Ok ∧ HdCap h := by
  obtain ⟨cs, rfl, hsz⟩ := okWide_struct Tryd.underlying25 hv
  obtain ⟨l⟩ := cs
  have hl : l.length = 9 := hsz.trans (by kernel_rfl)
  obtain ⟨c0, c1, c2, c3, c4, c5, c6, c7, c8, rfl⟩ := list9 hl
  obtain ⟨fuel, hf⟩ := h
  obtain ⟨xs, n, _, hd, _, hlen, hg⟩ := DataW.trod_struct Tryd.underlying25 hf
  simp only [Prod.mk.injEq] at hd
  obtain ⟨rfl, _⟩ := hd
  have hx : ∀ i, i < 9 → ∃ y, xs[i]? = some y := fun i hi => ⟨xs[i]'(by rw [hlen]; exact hi), List.getElem?_eq_getElem _⟩
  have k5 : Tryd.prog.cellsOf 4 = 1 := by kernel_rfl
  have ki : Tryd.prog.cellsOf 3 = 1 := by kernel_rfl
  have ku : Tryd.prog.cellsOf 22 = 1 := by kernel_rfl
  have ks : Tryd.prog.cellsOf 23 = 1 := by kernel_rfl
  obtain ⟨y0, e0⟩ := hx 0 (by omega)
  obtain ⟨y1, e1⟩ := hx 1 (by omega)
  obtain ⟨y2, e2⟩ := hx 2 (by omega)
  obtain ⟨y3, e3⟩ := hx 3 (by omega)
  obtain ⟨y4, e4⟩ := hx 4 (by omega)
  obtain ⟨y5, e5⟩ := hx 5 (by omega)
  obtain ⟨y6, e6⟩ := hx 6 (by omega)
  obtain ⟨y7, e7⟩ := hx 7 (by omega)
  obtain ⟨y8, e8⟩ := hx 8 (by omega)
  have hws : ∀ (j : Nat) (y : DataW H × List MemPlace), xs[j]? = some y → (j = 4 ∨ j = 5 ∨ j = 6 ∨ j = 7) → ∀ n ∈ y.1.weights Tryd.prog 23, n ≤ reachBytes := by
    intro j y hy hj n hn
    refine hs n ?_
    unfold DataW.weights
    rw [Tryd.underlying25]
    refine DataW.weights_mem_each (j := j) (t := 23) (d := y.1) ?_ (by rw [List.getElem?_map, hy]; rfl) n hn
    rcases hj with rfl | rfl | rfl | rfl <;> rfl
  have g0 := hg 0 _ rfl
  have g1 := hg 1 _ rfl
  have g2 := hg 2 _ rfl
  have g3 := hg 3 _ rfl
  have g4 := hg 4 _ rfl
  have g5 := hg 5 _ rfl
  have g6 := hg 6 _ rfl
  have g7 := hg 7 _ rfl
  have g8 := hg 8 _ rfl
  rw [e0] at g0; rw [e1] at g1; rw [e2] at g2; rw [e3] at g3; rw [e4] at g4; rw [e5] at g5; rw [e6] at g6; rw [e7] at g7; rw [e8] at g8
  simp [Value.cells, k5, ki, ku, ks] at g0 g1 g2 g3 g4 g5 g6 g7 g8
  obtain ⟨b0, q0, _⟩ := DataW.trod_bool Tryd.underlying4 g0
  obtain ⟨b1, q1, _⟩ := DataW.trod_bool Tryd.underlying4 g1
  obtain ⟨z2, q2, _, w2⟩ := DataW.trod_int Tryd.underlying3 g2
  obtain ⟨z3, q3, _, w3⟩ := DataW.trod_int Tryd.underlying22 g3
  obtain ⟨z8, q8, _, w8⟩ := DataW.trod_int Tryd.underlying3 g8
  obtain ⟨l4, s4, m4, n4⟩ := open_bytes2 g4
  obtain ⟨l5, s5, m5, n5⟩ := open_bytes2 g5
  obtain ⟨l6, s6, m6, n6⟩ := open_bytes2 g6
  obtain ⟨l7, s7, m7, n7⟩ := open_bytes2 g7
  simp at q0 q1 q2 q3 q8
  subst q0; subst q1; subst q2; subst q3; subst q8
  have i2 := wf_i64 w2
  have i8 := wf_i64 w8
  have i3 := wf_u32 w3
  obtain ⟨n3, rfl⟩ : ∃ n : Nat, z3 = (n : Int) := ⟨z3.toNat, by omega⟩
  have hre : reachBytes = 140737488351232 := by decide
  exact ⟨⟨b0, b1, z2, n3, l4, l5, l6, l7, z8⟩, ⟨c4, c5, c6, c7⟩, rfl, ⟨s4, s5, s6, s7⟩, ⟨i2.1, i2.2, by simp only; omega, i8.1, i8.2, m4, m5, m6, m7⟩,
    ⟨hre ▸ n4 (hws 4 y4 e4 (by omega)), hre ▸ n5 (hws 5 y5 e5 (by omega)), hre ▸ n6 (hws 6 y6 e6 (by omega)), hre ▸ n7 (hws 7 y7 e7 (by omega))⟩⟩
end
end Go.Proofs.YtnjojgknoecjiaaDoor
