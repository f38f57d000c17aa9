/- Layer 6 (hframe): what came in, opened: bytes, settings, fields, a frame, frames. -/
import Derived.Test.YtcdnjeojgjakdaaDoorV6Fd
import Derived.Deep.SlicePairs
import Derived.Deep.Fields
import Derived.ChangeOld
import Derived.ChangeSlices
namespace Go.Proofs.YtcdnjeojgjakdaaDoor
open Go.RowKit Go.ChangeShapes Go.WideShapes Go.Deep

def BytesIn (w : World) (v : Value) (l : List Nat) : Prop := ∃ A c, v = .slice A l.length c ∧ (l.length ≤ c ∧ c ≤ maxLen) ∧ View w (fun _ => True) A l.length (u8s l)
def SetsIn (w : World) (v : Value) (l : List (Nat × Nat)) : Prop := ∃ A c, v = .slice A l.length c ∧ (l.length ≤ c ∧ c ≤ maxLen) ∧ View w (fun _ => True) A (2 * l.length) (rcells l)
def FldsIn (w : World) (v : Value) (l : List Fld) : Prop := ∃ A c, v = .slice A l.length c ∧ (l.length ≤ c ∧ c ≤ maxLen) ∧ View w (fun _ => True) A (2 * l.length) (fcells l)
structure HfIn (w : World) (f : Hf) (ss sd : Value) : Prop where
  sets : SetsIn w ss f.sets
  data : BytesIn w sd f.data
theorem HfIn.hd {w : World} {f : Hf} {ss sd : Value} (h : HfIn w f ss sd) (h1 : f.sets.length ≤ 1000000) (h2 : f.data.length ≤ 1000000) : HfD w (fun _ => True) f ss sd := by
  obtain ⟨⟨A, c, e1, q1, v1⟩, ⟨B, d, e2, q2, v2⟩⟩ := h
  exact ⟨⟨A, c, e1, ⟨h1, q1.1⟩, v1⟩, ⟨B, d, e2, ⟨h2, q2.1⟩, v2⟩⟩
theorem HfIn.shape {w : World} {f : Hf} {ss sd : Value} (h : HfIn w f ss sd) : ∃ A c B d, ss = .slice A f.sets.length c ∧ sd = .slice B f.data.length d := by
  obtain ⟨⟨A, c, e1, _⟩, ⟨B, d, e2, _⟩⟩ := h
  exact ⟨A, c, B, d, e1, e2⟩

theorem view_of {w : World} {a : Addr} {n : Nat} {xs : List Value} (hl : xs.length = n) (h : ∀ j, j < n → w.cell? (a.add j) = xs[j]?) : View w (fun _ => True) (some a) n xs := by
  refine ⟨hl, fun hn => ?_⟩
  have h0 := h 0 hn
  rw [List.getElem?_eq_getElem (by omega)] at h0
  obtain ⟨b, o, sp⟩ := a
  have hsp : sp = none := by
    have := World.cell?_spot h0
    simpa [Addr.add] using this
  subst hsp
  refine ⟨b, o, rfl, World.block_lt_of_cell? w ⟨b, o, none⟩ (by simpa [addr_add] using h0), trivial, fun j hj => ?_⟩
  have := h j hj
  rwa [addr_add] at this

theorem u64_nat {x : Int} (h : (Lit.int .u64 x).wf = true) : ∃ n : Nat, x = (n : Int) ∧ n < 18446744073709551616 := by
  have h2 : (decide (0 ≤ x) && decide (x ≤ 18446744073709551615)) = true := h
  simp only [Bool.and_eq_true, decide_eq_true_eq] at h2
  exact ⟨x.toNat, by omega, by omega⟩
theorem i64_wf {x : Int} (h : (Lit.int .i64 x).wf = true) : -9223372036854775808 ≤ x ∧ x < 9223372036854775808 := by
  have h2 : (decide (-9223372036854775808 ≤ x) && decide (x ≤ 9223372036854775807)) = true := h
  simp only [Bool.and_eq_true, decide_eq_true_eq] at h2
  omega
theorem range_getD {α : Type} (q : Nat → α) (d : α) (n i : Nat) (h : i < n) : ((List.range n).map q).getD i d = q i := by
  simp [List.getD_eq_getElem?_getD, h]

section
variable {H : Type} {enc : TypeId × Value → H} {W : World} {held : Bool}
theorem open_bytesIn {n : Nat} {u : Value} {y : DataW H × List MemPlace} (h : DataW.trod enc Tryd.prog W 0 (fun _ => true) held n 24 [u] = some y) : ∃ l : List Nat, BytesIn W u l ∧ ∀ x ∈ l, x < 256 := by
  have hrow : ∃ a len cap zs, u = .slice a len cap ∧ IsRow .u8 W a len cap zs := by
    rcases open_ints Tryd.underlying24 Tryd.underlying5 (by kernel_rfl) h with ⟨hcs, _⟩ | ⟨x, l, c, zs, hcs, _, hl, hm, hz, _, hcell, hwz⟩
    · simp at hcs
      exact ⟨none, 0, 0, [], hcs, .inl ⟨rfl, rfl, rfl, rfl⟩⟩
    · simp at hcs
      exact ⟨some x, l, c, zs, hcs, .inr ⟨x, rfl, hl, hm, by simpa using hz, hcell, hwz⟩⟩
  obtain ⟨a, len, cap, zs, rfl, hr⟩ := hrow
  obtain ⟨xs, rfl, h1, h2, h3, h4⟩ := hr.u8
  exact ⟨xs, ⟨a, cap, rfl, ⟨h1, h2⟩, h4⟩, h3⟩

theorem open_sets {n : Nat} {u : Value} {y : DataW H × List MemPlace} (h : DataW.trod enc Tryd.prog W 0 (fun _ => true) held n 23 [u] = some y) :
    ∃ l : List (Nat × Nat), SetsIn W u l ∧ ∀ x ∈ l, x.1 < 18446744073709551616 ∧ x.2 < 18446744073709551616 := by
  rcases open_slice_pairs Tryd.underlying23 Tryd.underlying49 (by kernel_rfl) rfl rfl (by kernel_rfl) (by kernel_rfl) h with ⟨hcs, _⟩ | ⟨a, len, cap, m, k, V0, V1, D0, D1, P0, P1, hcs, _, hl, hm, hmm, _, hi⟩
  · simp at hcs
    exact ⟨[], ⟨none, 0, hcs, ⟨Nat.le_refl _, Nat.zero_le _⟩, View.none_ _ _ _⟩, by simp⟩
  · simp at hcs hmm
    subst hmm
    have each : ∀ i, i < m → ∃ q : Nat × Nat, (q.1 < 18446744073709551616 ∧ q.2 < 18446744073709551616) ∧ W.cell? (a.add (i * 2)) = some (.int .u64 (q.1 : Nat)) ∧ W.cell? (a.add (i * 2 + 1)) = some (.int .u64 (q.2 : Nat)) := by
      intro i him
      obtain ⟨c0, c1, t0, t1⟩ := hi i him
      obtain ⟨z0, e0, _, w0⟩ := DataW.trod_int Tryd.underlying22 t0
      obtain ⟨z1, e1, _, w1⟩ := DataW.trod_int Tryd.underlying22 t1
      simp at e0 e1
      obtain ⟨n0, rfl, l0⟩ := u64_nat w0
      obtain ⟨n1, rfl, l1⟩ := u64_nat w1
      exact ⟨(n0, n1), ⟨l0, l1⟩, by rw [c0, e0], by rw [c1, e1]⟩
    obtain ⟨q, hq⟩ := choose_lt each
    have hlen : ((List.range len).map q).length = len := by simp
    refine ⟨(List.range len).map q, ⟨some a, m, by rw [hlen]; exact hcs, ⟨by rw [hlen]; exact hl, hm⟩, view_of (by rw [rcells_len]) (fun j hj => ?_)⟩, fun x hx => ?_⟩
    · rw [hlen] at hj
      have h2 : j = 2 * (j / 2) ∨ j = 2 * (j / 2) + 1 := by omega
      have hlt : j / 2 < len := by omega
      obtain ⟨_, g0, g1⟩ := hq (j / 2) (by omega)
      rcases h2 with h2 | h2
      · rw [h2, rcells_lo _ _ (by rw [hlen]; exact hlt), range_getD q _ _ _ hlt, Nat.mul_comm 2]; exact g0
      · rw [h2, rcells_hi _ _ (by rw [hlen]; exact hlt), range_getD q _ _ _ hlt, Nat.mul_comm 2]; exact g1
    · obtain ⟨i, hi', rfl⟩ := List.mem_map.1 hx
      exact (hq i (by have := List.mem_range.1 hi'; omega)).1

theorem open_flds {n : Nat} {u : Value} {y : DataW H × List MemPlace} (h : DataW.trod enc Tryd.prog W 0 (fun _ => true) held n 38 [u] = some y) : ∃ l : List Fld, FldsIn W u l := by
  rcases open_slice_pairs Tryd.underlying38 Tryd.underlying52 (by kernel_rfl) rfl rfl (by kernel_rfl) (by kernel_rfl) h with ⟨hcs, _⟩ | ⟨a, len, cap, m, k, V0, V1, D0, D1, P0, P1, hcs, _, hl, hm, hmm, _, hi⟩
  · simp at hcs
    exact ⟨[], none, 0, hcs, ⟨Nat.le_refl _, Nat.zero_le _⟩, View.none_ _ _ _⟩
  · simp at hcs hmm
    subst hmm
    have each : ∀ i, i < m → ∃ q : Fld, W.cell? (a.add (i * 2)) = some (.string q.1) ∧ W.cell? (a.add (i * 2 + 1)) = some (.string q.2) := by
      intro i him
      obtain ⟨c0, c1, t0, t1⟩ := hi i him
      obtain ⟨z0, e0, _, w0⟩ := DataW.trod_string Tryd.underlying9 t0
      obtain ⟨z1, e1, _, w1⟩ := DataW.trod_string Tryd.underlying9 t1
      simp at e0 e1
      exact ⟨(z0, z1), by rw [c0, e0], by rw [c1, e1]⟩
    obtain ⟨q, hq⟩ := choose_lt each
    have hlen : ((List.range len).map q).length = len := by simp
    refine ⟨(List.range len).map q, some a, m, by rw [hlen]; exact hcs, ⟨by rw [hlen]; exact hl, hm⟩, view_of (by rw [fcells_len]) (fun j hj => ?_)⟩
    rw [hlen] at hj
    have h2 : j = 2 * (j / 2) ∨ j = 2 * (j / 2) + 1 := by omega
    have hlt : j / 2 < len := by omega
    obtain ⟨g0, g1⟩ := hq (j / 2) (by omega)
    rcases h2 with h2 | h2
    · rw [h2, fcells_lo _ _ (by rw [hlen]; exact hlt), range_getD q _ _ _ hlt, Nat.mul_comm 2]; exact g0
    · rw [h2, fcells_hi _ _ (by rw [hlen]; exact hlt), range_getD q _ _ _ hlt, Nat.mul_comm 2]; exact g1

theorem open_hf_cells {n : Nat} {c0 c1 c2 c3 : Value} {y : DataW H × List MemPlace} (h : DataW.trod enc Tryd.prog W 0 (fun _ => true) held n 26 [c0, c1, c2, c3] = some y) :
    ∃ (f : Hf) (ss sd : Value), [c0, c1, c2, c3] = cellsH f ss sd ∧ HfIn W f ss sd ∧ f.Ok := by
  obtain ⟨xs, k, _, _, _, hlen, hg⟩ := DataW.trod_struct Tryd.underlying26 h
  have hx : ∀ i, i < 4 → ∃ y, xs[i]? = some y := fun i hi => ⟨xs[i]'(by rw [hlen]; exact hi), List.getElem?_eq_getElem _⟩
  have ki : Tryd.prog.cellsOf 3 = 1 := by kernel_rfl
  have ku : Tryd.prog.cellsOf 22 = 1 := by kernel_rfl
  have ks : Tryd.prog.cellsOf 23 = 1 := by kernel_rfl
  have kb : Tryd.prog.cellsOf 24 = 1 := by kernel_rfl
  obtain ⟨y0, e0⟩ := hx 0 (by omega)
  obtain ⟨y1, e1⟩ := hx 1 (by omega)
  obtain ⟨y2, e2⟩ := hx 2 (by omega)
  obtain ⟨y3, e3⟩ := hx 3 (by omega)
  have g0 := hg 0 _ rfl
  have g1 := hg 1 _ rfl
  have g2 := hg 2 _ rfl
  have g3 := hg 3 _ rfl
  rw [e0] at g0; rw [e1] at g1; rw [e2] at g2; rw [e3] at g3
  simp [ki, ku, ks, kb] at g0 g1 g2 g3
  obtain ⟨z0, q0, _, w0⟩ := DataW.trod_int Tryd.underlying3 g0
  obtain ⟨z1, q1, _, w1⟩ := DataW.trod_int Tryd.underlying22 g1
  obtain ⟨l2, s2, m2⟩ := open_sets g2
  obtain ⟨l3, s3, m3⟩ := open_bytesIn g3
  simp at q0 q1
  subst q0; subst q1
  obtain ⟨n1, rfl, h1⟩ := u64_nat w1
  have i0 := i64_wf w0
  exact ⟨⟨z0, n1, l2, l3⟩, c2, c3, rfl, ⟨s2, s3⟩, ⟨i0.1, i0.2, h1, m3, m2⟩⟩

theorem list4 : ∀ {l : List Value}, l.length = 4 → ∃ c0 c1 c2 c3, l = [c0, c1, c2, c3]
  | [a, b, c, d], _ => ⟨a, b, c, d, rfl⟩

/-- A frame that came in. -/
theorem open_hf {r : Reach} {b0 : Nat} {v : Value} {d : DataW H} {p : List MemPlace} (hv : Value.okWide Tryd.prog W r b0 26 v) (h : DataW.Trod enc Tryd.prog W 0 (fun _ => true) held 26 v d p) :
    ∃ (f : Hf) (ss sd : Value), v = aggH f ss sd ∧ HfIn W f ss sd ∧ f.Ok := by
  obtain ⟨cs, rfl, hsz⟩ := okWide_struct Tryd.underlying26 hv
  obtain ⟨l⟩ := cs
  have hl : l.length = 4 := hsz.trans (by kernel_rfl)
  obtain ⟨c0, c1, c2, c3, rfl⟩ := list4 hl
  obtain ⟨fuel, hf⟩ := h
  obtain ⟨f, ss, sd, e, h1, h2⟩ := open_hf_cells (n := fuel) (c0 := c0) (c1 := c1) (c2 := c2) (c3 := c3) hf
  exact ⟨f, ss, sd, by unfold aggH; rw [← e], h1, h2⟩

/-- Frames that came in: each one's four cells, and what they lead to. -/
structure FsIn (w : World) (A : Option Addr) (l : List (Hf × Value × Value)) : Prop where
  at_ : 0 < l.length → ∃ b o, A = some ⟨b, o, none⟩ ∧ b < w.heap.size ∧ ∀ i, i < l.length → ∀ j, j < 4 → w.cell? ⟨b, o + i * 4 + j, none⟩ = (cellsH (l.getD i ({}, .slice none 0 0, .slice none 0 0)).1 (l.getD i ({}, .slice none 0 0, .slice none 0 0)).2.1 (l.getD i ({}, .slice none 0 0, .slice none 0 0)).2.2)[j]?
  each : ∀ x ∈ l, HfIn w x.1 x.2.1 x.2.2 ∧ x.1.Ok

theorem open_hfs {n : Nat} {u : Value} {y : DataW H × List MemPlace} (h : DataW.trod enc Tryd.prog W 0 (fun _ => true) held n 45 [u] = some y) :
    ∃ A l c, u = .slice A (l : List (Hf × Value × Value)).length c ∧ (l.length ≤ c ∧ c ≤ maxLen) ∧ FsIn W A l := by
  rcases open_slice Tryd.underlying45 h with ⟨hcs, _⟩ | ⟨a, len, cap, m, k, D, Pl, hcs, _, hl, hm, hmm, _, hi⟩
  · simp at hcs
    exact ⟨none, [], 0, hcs, ⟨Nat.le_refl _, Nat.zero_le _⟩, ⟨fun h => absurd h (by simp), by simp⟩⟩
  · simp at hcs hmm
    subst hmm
    have ce : Tryd.prog.cellsOf 26 = 4 := by kernel_rfl
    rw [ce] at hi
    have each : ∀ i, i < m → ∃ q : Hf × Value × Value, (HfIn W q.1 q.2.1 q.2.2 ∧ q.1.Ok) ∧ ∀ j, j < 4 → W.cell? (a.add (i * 4 + j)) = (cellsH q.1 q.2.1 q.2.2)[j]? := by
      intro i him
      obtain ⟨cs', h1, h2⟩ := hi i him
      obtain ⟨_, hlen, hcell⟩ := World.cells?_some h1
      obtain ⟨c0, c1, c2, c3, rfl⟩ := list4 hlen
      obtain ⟨f, ss, sd, e, k1, k2⟩ := open_hf_cells h2
      refine ⟨(f, ss, sd), ⟨k1, k2⟩, fun j hj => ?_⟩
      rw [← e, ← hcell j hj, Go.Deep.add_add]
    haveI : Inhabited (Hf × Value × Value) := ⟨({}, .slice none 0 0, .slice none 0 0)⟩
    obtain ⟨q, hq⟩ := choose_lt each
    have hlen : ((List.range len).map q).length = len := by simp
    refine ⟨some a, (List.range len).map q, m, by rw [hlen]; exact hcs, ⟨by rw [hlen]; exact hl, hm⟩, ⟨fun h0 => ?_, fun x hx => ?_⟩⟩
    · rw [hlen] at h0
      have g0 := (hq 0 (by omega)).2 0 (by omega)
      have g0' : W.cell? (a.add 0) = some (.int .i64 (q 0).1.kind) := by simpa [cellsH] using g0
      obtain ⟨b, o, sp⟩ := a
      have hsp : sp = none := by
        have := World.cell?_spot g0'
        simpa [Addr.add] using this
      subst hsp
      refine ⟨b, o, rfl, World.block_lt_of_cell? W ⟨b, o, none⟩ (by simpa [addr_add] using g0'), fun i hi' j hj => ?_⟩
      rw [hlen] at hi'
      have := (hq i (by omega)).2 j hj
      rw [addr_add, ← Nat.add_assoc] at this
      rw [range_getD q _ _ _ hi', this]
    · obtain ⟨i, hi', rfl⟩ := List.mem_map.1 hx
      exact (hq i (by have := List.mem_range.1 hi'; omega)).1
end
end Go.Proofs.YtcdnjeojgjakdaaDoor
