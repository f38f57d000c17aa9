/- Layer 16 (reasm): what is done to a buffer, and pieces of a text, as they came in, opened. -/
import Derived.Test.YtbmhoijdbhokaaaAloc
import Derived.Test.YtbmhoijdbhokaaaRowsN
import Derived.Test.YtbmhoijdbhokaaaV16Alive
import Derived.Deep.SlicePairs
import Derived.Deep.Fields
import Derived.ChangeOld
import Derived.ChangeSlices
namespace Go.Proofs.Ytbmhoijdbhokaaa
open Go.RowKit Go.ChangeShapes Go.WideShapes Go.Deep

/-- Something that is done to a buffer, and where its bytes lie. -/
structure Ac where
  kind : Int
  n : Int
  off : Nat
  A : Option Addr
  c : Nat
  data : List Nat
  last : Bool
def ac0 : Ac := ⟨0, 0, 0, none, 0, [], false⟩
def acc (x : Ac) : List Value := [.int .i64 x.kind, .int .i64 x.n, .int .u64 (x.off : Int), .slice x.A x.data.length x.c, .bool x.last]
theorem acc_len (x : Ac) : (acc x).length = 5 := rfl
structure AcI (w : World) (x : Ac) : Prop where
  view : View w (fun _ => True) x.A x.data.length (u8s x.data)
  le : x.data.length ≤ x.c ∧ x.c ≤ maxLen
  byte : ∀ y ∈ x.data, y < 256
  off : x.off < 18446744073709551616
/-- Some of a text. -/
def prc (x : Nat × Nat) : List Value := [.int .u8 (x.1 : Int), .int .u8 (x.2 : Int)]
theorem prc_len (x : Nat × Nat) : (prc x).length = 2 := rfl

theorem view_of16 {w : World} {a : Addr} {n : Nat} {xs : List Value} (hl : xs.length = n) (h : ∀ j, j < n → w.cell? (a.add j) = xs[j]?) : View w (fun _ => True) (some a) n xs := by
  refine ⟨hl, fun hn => ?_⟩
  have h0 := h 0 hn
  rw [List.getElem?_eq_getElem (by omega)] at h0
  obtain ⟨b, o, sp⟩ := a
  have hsp : sp = none := by
    have := World.cell?_spot h0
    simpa [Addr.add] using this
  subst hsp
  refine ⟨b, o, rfl, World.block_lt_of_cell? w ⟨b, o, none⟩ (by simpa [addr_add] using h0), trivial, fun j hj => ?_⟩
  have := h j hj
  rwa [addr_add] at this
theorem u64_nat16 {x : Int} (h : (Lit.int .u64 x).wf = true) : ∃ n : Nat, x = (n : Int) ∧ n < 18446744073709551616 := by
  have h2 : (decide (0 ≤ x) && decide (x ≤ 18446744073709551615)) = true := h
  simp only [Bool.and_eq_true, decide_eq_true_eq] at h2
  exact ⟨x.toNat, by omega, by omega⟩
theorem u8_nat16 {x : Int} (h : (Lit.int .u8 x).wf = true) : ∃ n : Nat, x = (n : Int) ∧ n < 256 := by
  have h2 : (decide (0 ≤ x) && decide (x ≤ 255)) = true := h
  simp only [Bool.and_eq_true, decide_eq_true_eq] at h2
  exact ⟨x.toNat, by omega, by omega⟩
theorem range_getD16 {α : Type} (q : Nat → α) (d : α) (n i : Nat) (h : i < n) : ((List.range n).map q).getD i d = q i := by
  simp [List.getD_eq_getElem?_getD, h]
theorem list5 : ∀ {l : List Value}, l.length = 5 → ∃ c0 c1 c2 c3 c4, l = [c0, c1, c2, c3, c4]
  | [a, b, c, d, e], _ => ⟨a, b, c, d, e, rfl⟩
section
variable {H : Type} {enc : TypeId × Value → H} {W : World} {held : Bool}
theorem open_bytes16 {n : Nat} {u : Value} {y : DataW H × List MemPlace} (h : DataW.trod enc Try.prog W 0 (fun _ => true) held n 22 [u] = some y) : ∃ (l : List Nat) (A : Option Addr) (c : Nat), u = .slice A l.length c ∧ (l.length ≤ c ∧ c ≤ maxLen) ∧ View W (fun _ => True) A l.length (u8s l) ∧ ∀ x ∈ l, x < 256 := by
  have hrow : ∃ a len cap zs, u = .slice a len cap ∧ IsRow .u8 W a len cap zs := by
    rcases open_ints Try.underlying22 Try.underlying5 (by kernel_rfl) h with ⟨hcs, _⟩ | ⟨x, l, c, zs, hcs, _, hl, hm, hz, _, hcell, hwz⟩
    · simp at hcs
      exact ⟨none, 0, 0, [], hcs, .inl ⟨rfl, rfl, rfl, rfl⟩⟩
    · simp at hcs
      exact ⟨some x, l, c, zs, hcs, .inr ⟨x, rfl, hl, hm, by simpa using hz, hcell, hwz⟩⟩
  obtain ⟨a, len, cap, zs, rfl, hr⟩ := hrow
  obtain ⟨xs, rfl, h1, h2, h3, h4⟩ := hr.u8
  exact ⟨xs, a, cap, rfl, ⟨h1, h2⟩, h4, h3⟩
theorem open_ac_cells {n : Nat} {c0 c1 c2 c3 c4 : Value} {y : DataW H × List MemPlace} (h : DataW.trod enc Try.prog W 0 (fun _ => true) held n 40 [c0, c1, c2, c3, c4] = some y) : ∃ x : Ac, [c0, c1, c2, c3, c4] = acc x ∧ AcI W x := by
  obtain ⟨xs, k, _, _, _, hlen, hg⟩ := DataW.trod_struct Try.underlying40 h
  have hx : ∀ i, i < 5 → ∃ y, xs[i]? = some y := fun i hi => ⟨xs[i]'(by rw [hlen]; exact hi), List.getElem?_eq_getElem _⟩
  have ki : Try.prog.cellsOf 3 = 1 := by kernel_rfl
  have kr : Try.prog.cellsOf 22 = 1 := by kernel_rfl
  have ku : Try.prog.cellsOf 32 = 1 := by kernel_rfl
  have kb : Try.prog.cellsOf 4 = 1 := by kernel_rfl
  obtain ⟨y0, e0⟩ := hx 0 (by omega)
  obtain ⟨y1, e1⟩ := hx 1 (by omega)
  obtain ⟨y2, e2⟩ := hx 2 (by omega)
  obtain ⟨y3, e3⟩ := hx 3 (by omega)
  obtain ⟨y4, e4⟩ := hx 4 (by omega)
  have g0 := hg 0 _ rfl
  have g1 := hg 1 _ rfl
  have g2 := hg 2 _ rfl
  have g3 := hg 3 _ rfl
  have g4 := hg 4 _ rfl
  rw [e0] at g0; rw [e1] at g1; rw [e2] at g2; rw [e3] at g3; rw [e4] at g4
  simp [ki, kr, ku, kb] at g0 g1 g2 g3 g4
  obtain ⟨z0, q0, _, w0⟩ := DataW.trod_int Try.underlying3 g0
  obtain ⟨z1, q1, _, w1⟩ := DataW.trod_int Try.underlying3 g1
  obtain ⟨z2, q2, _, w2⟩ := DataW.trod_int Try.underlying32 g2
  obtain ⟨l, A, c, er, hle, hv, hb⟩ := open_bytes16 g3
  obtain ⟨z4, q4, _⟩ := DataW.trod_bool Try.underlying4 g4
  simp at q0 q1 q2 q4
  subst q0; subst q1; subst q2; subst q4; subst er
  obtain ⟨n2, rfl, h2⟩ := u64_nat16 w2
  exact ⟨⟨z0, z1, n2, A, c, l, z4⟩, rfl, ⟨hv, hle, hb, h2⟩⟩
theorem open_bacts {n : Nat} {u : Value} {y : DataW H × List MemPlace} (h : DataW.trod enc Try.prog W 0 (fun _ => true) held n 37 [u] = some y) :
    ∃ (l : List Ac) (A : Option Addr) (c : Nat), u = .slice A l.length c ∧ (l.length ≤ c ∧ c ≤ maxLen) ∧ View W (fun _ => True) A (l.length * 5) (l.flatMap acc) ∧ ∀ x ∈ l, AcI W x := by
  rcases open_slice Try.underlying37 h with ⟨hcs, _⟩ | ⟨a, len, cap, m, k, D, Pl, hcs, _, hl, hm, hmm, _, hi⟩
  · simp at hcs
    exact ⟨[], none, 0, hcs, ⟨Nat.le_refl _, Nat.zero_le _⟩, View.none_ _ _ _, by simp⟩
  · simp at hcs hmm
    subst hmm
    have ce : Try.prog.cellsOf 40 = 5 := by kernel_rfl
    rw [ce] at hi
    have each : ∀ i, i < m → ∃ q : Ac, AcI W q ∧ ∀ j, j < 5 → W.cell? (a.add (i * 5 + j)) = (acc q)[j]? := by
      intro i him
      obtain ⟨cs', h1, h2⟩ := hi i him
      obtain ⟨_, hlen, hcell⟩ := World.cells?_some h1
      obtain ⟨c0, c1, c2, c3, c4, rfl⟩ := list5 hlen
      obtain ⟨f, e, k1⟩ := open_ac_cells h2
      refine ⟨f, k1, fun j hj => ?_⟩
      rw [← e, ← hcell j hj, Go.Deep.add_add]
    haveI : Inhabited Ac := ⟨ac0⟩
    obtain ⟨q, hq⟩ := choose_lt each
    have hlen : ((List.range len).map q).length = len := by simp
    refine ⟨(List.range len).map q, some a, m, by rw [hlen]; exact hcs, ⟨by rw [hlen]; exact hl, hm⟩, view_of16 (by rw [fm_len acc_len]) (fun j hj => ?_), fun x hx => ?_⟩
    · rw [hlen] at hj
      have e := fm_get acc_len ac0 ((List.range len).map q) (j / 5) (j % 5) (by rw [hlen]; omega) (by omega)
      rw [show j / 5 * 5 + j % 5 = j by omega, range_getD16 q _ _ _ (by omega)] at e
      rw [e, ← (hq (j / 5) (by omega)).2 (j % 5) (by omega), show j / 5 * 5 + j % 5 = j by omega]
    · obtain ⟨i, hi', rfl⟩ := List.mem_map.1 hx
      exact (hq i (by have := List.mem_range.1 hi'; omega)).1
end
end Go.Proofs.Ytbmhoijdbhokaaa
