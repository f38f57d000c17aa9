/- Layer 15 (ledger): what is done to a ledger, as it came in, opened. -/
import Derived.Test.YtakoeamfmmbdiaaV15Apart
import Derived.Test.YtakoeamfmmbdiaaV3OpenL
import Derived.Deep.Fields
import Derived.Deep.SlicePairs
import Derived.ChangeOld
import Derived.ChangeSlices
namespace Go.Proofs.Ytakoeamfmmbdiaa
open Go.RowKit Go.ChangeShapes Go.WideShapes Go.Deep

/-- Something that is done to a ledger, and where it lies. -/
structure La where
  kind : Int
  p : It
  rA : Option Addr
  rc : Nat
  r : List (Nat × Nat)
  d : Nat
def la0 : La := ⟨0, it0, none, 0, [], 0⟩
def lac (x : La) : List Value := [.int .i64 x.kind, .int .i64 x.p.num, .int .u64 (x.p.at_ : Int), .int .i64 x.p.size, .bool x.p.ask, .slice x.p.A x.p.L.length x.p.c, .slice x.rA x.r.length x.rc, .int .u64 (x.d : Int)]
theorem lac_len (x : La) : (lac x).length = 8 := rfl
/-- A packet that came in. -/
structure ItI (w : World) (x : It) : Prop where
  view : View w (fun _ => True) x.A (x.L.length * 24) (fcellsL x.L)
  each : ∀ y ∈ x.L, FrIn w y.1 y.2.1 y.2.2
  lt : x.at_ < 18446744073709551616
  le : x.L.length ≤ x.c ∧ x.c ≤ maxLen
  num : -9223372036854775808 ≤ x.num ∧ x.num < 9223372036854775808
  size : -9223372036854775808 ≤ x.size ∧ x.size < 9223372036854775808
structure LaI (w : World) (x : La) : Prop where
  p : ItI w x.p
  view : View w (fun _ => True) x.rA (x.r.length * 2) (x.r.flatMap rgc)
  le : x.r.length ≤ x.rc ∧ x.rc ≤ maxLen
  lt : ∀ y ∈ x.r, y.1 < 18446744073709551616 ∧ y.2 < 18446744073709551616
  d : x.d < 18446744073709551616
theorem ItI.chg {w w' : World} {x : It} (h : ItI w x) (hc : Chg none_ w w') : ItI w' x := ⟨h.view.chg hc (fun _ _ h => h), fun y hy => (h.each y hy).chg hc, h.lt, h.le, h.num, h.size⟩
theorem LaI.chg {w w' : World} {x : La} (h : LaI w x) (hc : Chg none_ w w') : LaI w' x := ⟨h.p.chg hc, h.view.chg hc (fun _ _ h => h), h.le, h.lt, h.d⟩

theorem list8 : ∀ {l : List Value}, l.length = 8 → ∃ c0 c1 c2 c3 c4 c5 c6 c7, l = [c0, c1, c2, c3, c4, c5, c6, c7]
  | [a, b, c, d, e, f, g, h], _ => ⟨a, b, c, d, e, f, g, h, rfl⟩
section
variable {H : Type} {enc : TypeId × Value → H} {W : World} {held : Bool}
theorem open_sent_cells {n : Nat} {c0 c1 c2 c3 c4 : Value} {y : DataW H × List MemPlace} (h : DataW.trod enc Try.prog W 0 (fun _ => true) held n 32 [c0, c1, c2, c3, c4] = some y) : ∃ x : It, [c0, c1, c2, c3, c4] = itc x ∧ ItI W x := by
  obtain ⟨xs, k, _, _, _, hlen, hg⟩ := DataW.trod_struct Try.underlying32 h
  have hx : ∀ i, i < 5 → ∃ y, xs[i]? = some y := fun i hi => ⟨xs[i]'(by rw [hlen]; exact hi), List.getElem?_eq_getElem _⟩
  have ki : Try.prog.cellsOf 3 = 1 := by kernel_rfl
  have k64 : Try.prog.cellsOf 2 = 1 := by kernel_rfl
  have ku : Try.prog.cellsOf 29 = 1 := by kernel_rfl
  have kb : Try.prog.cellsOf 4 = 1 := by kernel_rfl
  have kf : Try.prog.cellsOf 30 = 1 := by kernel_rfl
  obtain ⟨y0, e0⟩ := hx 0 (by omega)
  obtain ⟨y1, e1⟩ := hx 1 (by omega)
  obtain ⟨y2, e2⟩ := hx 2 (by omega)
  obtain ⟨y3, e3⟩ := hx 3 (by omega)
  obtain ⟨y4, e4⟩ := hx 4 (by omega)
  have g0 := hg 0 _ rfl
  have g1 := hg 1 _ rfl
  have g2 := hg 2 _ rfl
  have g3 := hg 3 _ rfl
  have g4 := hg 4 _ rfl
  rw [e0] at g0; rw [e1] at g1; rw [e2] at g2; rw [e3] at g3; rw [e4] at g4
  simp [ki, k64, ku, kb, kf] at g0 g1 g2 g3 g4
  obtain ⟨z0, q0, _, w0⟩ := DataW.trod_int Try.underlying2 g0
  obtain ⟨z1, q1, _, w1⟩ := DataW.trod_int Try.underlying29 g1
  obtain ⟨z2, q2, _, w2⟩ := DataW.trod_int Try.underlying3 g2
  obtain ⟨z3, q3, _⟩ := DataW.trod_bool Try.underlying4 g3
  obtain ⟨L, A, c, e, hle, hv, hin⟩ := open_frs g4
  simp at q0 q1 q2 q3
  subst q0; subst q1; subst q2; subst q3; subst e
  obtain ⟨n1, rfl, h1⟩ := u64_nat3 w1
  exact ⟨⟨z0, n1, z2, z3, A, c, L⟩, rfl, ⟨hv, fun y hy => (hin y hy).1, h1, hle, i64_wf3 w0, i64_wf3 w2⟩⟩
theorem open_la_cells {n : Nat} {c0 c1 c2 c3 c4 c5 c6 c7 : Value} {y : DataW H × List MemPlace} (h : DataW.trod enc Try.prog W 0 (fun _ => true) held n 51 [c0, c1, c2, c3, c4, c5, c6, c7] = some y) : ∃ x : La, [c0, c1, c2, c3, c4, c5, c6, c7] = lac x ∧ LaI W x := by
  obtain ⟨xs, k, _, _, _, hlen, hg⟩ := DataW.trod_struct Try.underlying51 h
  have hx : ∀ i, i < 4 → ∃ y, xs[i]? = some y := fun i hi => ⟨xs[i]'(by rw [hlen]; exact hi), List.getElem?_eq_getElem _⟩
  have ki : Try.prog.cellsOf 3 = 1 := by kernel_rfl
  have ks : Try.prog.cellsOf 32 = 5 := by kernel_rfl
  have kr : Try.prog.cellsOf 49 = 1 := by kernel_rfl
  have ku : Try.prog.cellsOf 29 = 1 := by kernel_rfl
  obtain ⟨y0, e0⟩ := hx 0 (by omega)
  obtain ⟨y1, e1⟩ := hx 1 (by omega)
  obtain ⟨y2, e2⟩ := hx 2 (by omega)
  obtain ⟨y3, e3⟩ := hx 3 (by omega)
  have g0 := hg 0 _ rfl
  have g1 := hg 1 _ rfl
  have g2 := hg 2 _ rfl
  have g3 := hg 3 _ rfl
  rw [e0] at g0; rw [e1] at g1; rw [e2] at g2; rw [e3] at g3
  simp [ki, ks, kr, ku] at g0 g1 g2 g3
  obtain ⟨z0, q0, _, w0⟩ := DataW.trod_int Try.underlying3 g0
  obtain ⟨p, ep, hp⟩ := open_sent_cells g1
  obtain ⟨r, ⟨A, c, er, hle, hv⟩, hr⟩ := open_ranges g2
  obtain ⟨z3, q3, _, w3⟩ := DataW.trod_int Try.underlying29 g3
  simp at q0 q3
  subst q0; subst q3; subst er
  obtain ⟨n3, rfl, h3⟩ := u64_nat3 w3
  rw [rcells_fm, Nat.mul_comm] at hv
  refine ⟨⟨z0, p, A, c, r, n3⟩, ?_, ⟨hp, hv, hle, hr, h3⟩⟩
  unfold itc at ep
  injection ep with p1 ep
  injection ep with p2 ep
  injection ep with p3 ep
  injection ep with p4 ep
  injection ep with p5 _
  rw [p1, p2, p3, p4, p5]
  rfl
theorem open_lacts {n : Nat} {u : Value} {y : DataW H × List MemPlace} (h : DataW.trod enc Try.prog W 0 (fun _ => true) held n 22 [u] = some y) :
    ∃ (l : List La) (A : Option Addr) (c : Nat), u = .slice A l.length c ∧ (l.length ≤ c ∧ c ≤ maxLen) ∧ View W (fun _ => True) A (l.length * 8) (l.flatMap lac) ∧ ∀ x ∈ l, LaI W x := by
  rcases open_slice Try.underlying22 h with ⟨hcs, _⟩ | ⟨a, len, cap, m, k, D, Pl, hcs, _, hl, hm, hmm, _, hi⟩
  · simp at hcs
    exact ⟨[], none, 0, hcs, ⟨Nat.le_refl _, Nat.zero_le _⟩, View.none_ _ _ _, by simp⟩
  · simp at hcs hmm
    subst hmm
    have ce : Try.prog.cellsOf 51 = 8 := by kernel_rfl
    rw [ce] at hi
    have each : ∀ i, i < m → ∃ q : La, LaI W q ∧ ∀ j, j < 8 → W.cell? (a.add (i * 8 + j)) = (lac q)[j]? := by
      intro i him
      obtain ⟨cs', h1, h2⟩ := hi i him
      obtain ⟨_, hlen, hcell⟩ := World.cells?_some h1
      obtain ⟨c0, c1, c2, c3, c4, c5, c6, c7, rfl⟩ := list8 hlen
      obtain ⟨f, e, k1⟩ := open_la_cells h2
      refine ⟨f, k1, fun j hj => ?_⟩
      rw [← e, ← hcell j hj, Go.Deep.add_add]
    haveI : Inhabited La := ⟨la0⟩
    obtain ⟨q, hq⟩ := choose_lt each
    have hlen : ((List.range len).map q).length = len := by simp
    refine ⟨(List.range len).map q, some a, m, by rw [hlen]; exact hcs, ⟨by rw [hlen]; exact hl, hm⟩, view_of3 (by rw [fm_len lac_len]) (fun j hj => ?_), fun x hx => ?_⟩
    · rw [hlen] at hj
      have e := fm_get lac_len la0 ((List.range len).map q) (j / 8) (j % 8) (by rw [hlen]; omega) (by omega)
      rw [show j / 8 * 8 + j % 8 = j by omega, range_getD3 q _ _ _ (by omega)] at e
      rw [e, ← (hq (j / 8) (by omega)).2 (j % 8) (by omega), show j / 8 * 8 + j % 8 = j by omega]
    · obtain ⟨i, hi', rfl⟩ := List.mem_map.1 hx
      exact (hq i (by have := List.mem_range.1 hi'; omega)).1
end

/-- What may be looked at. -/
structure Few (l : List La) : Prop where
  len : l.length ≤ 120
  r : ∀ x ∈ l, x.r.length ≤ 20 ∧ x.p.L.length ≤ 5
  f : ∀ x ∈ l, ∀ y ∈ x.p.L, y.1.data.length ≤ 100 ∧ y.1.ranges.length ≤ 20
theorem ItI.small {w : World} {x : It} (h : ItI w x) (h1 : x.L.length ≤ 5) (h2 : ∀ y ∈ x.L, y.1.data.length ≤ 100 ∧ y.1.ranges.length ≤ 20) : ItD w (fun _ => True) x :=
  ⟨h.view, fun y hy => (h.each y hy).hd (by have := h2 y hy; omega) (by have := h2 y hy; omega), by omega, h.lt⟩
end Go.Proofs.Ytakoeamfmmbdiaa
