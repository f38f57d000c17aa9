/- Layer 3 (frames): a frame that came in by value, opened. -/
import Derived.Test.YtakoeamfmmbdiaaV3SameB
import Derived.Test.YtakoeamfmmbdiaaAloc
import Derived.Deep.SlicePairs
import Derived.Deep.Fields
import Derived.ChangeOld
import Derived.ChangeSlices
import Derived.OpenShut
namespace Go.Proofs.Ytakoeamfmmbdiaa
open Go.RowKit Go.ChangeShapes Go.WideShapes Go.Deep

theorem cellsU8h : Try.prog.cellsOf 5 = 1 := by kernel_rfl
theorem nat_u8h {x : Int} (h : (Lit.int .u8 x).wf = true) : ∃ n : Nat, x = (n : Int) ∧ n < 256 := by
  have h2 : (decide (0 ≤ x) && decide (x ≤ 255)) = true := h
  simp only [Bool.and_eq_true, decide_eq_true_eq] at h2
  exact ⟨x.toNat, by omega, by omega⟩
theorem cells_numsh : ∀ (l : List Value), (∀ v ∈ l, ∃ n : Nat, v = .int .u8 (n : Int) ∧ n < 256) → ∃ t : List Nat, l = u8s t ∧ ∀ x ∈ t, x < 256
  | [], _ => ⟨[], rfl, by simp⟩
  | v :: l, h => by
    obtain ⟨n, rfl, hn⟩ := h v (by simp)
    obtain ⟨t, rfl, ht⟩ := cells_numsh l (fun v hv => h v (by simp [hv]))
    exact ⟨n :: t, rfl, by simpa using ⟨hn, ht⟩⟩
def BytesIn3 (w : World) (v : Value) (l : List Nat) : Prop := ∃ A c, v = .slice A l.length c ∧ (l.length ≤ c ∧ c ≤ maxLen) ∧ View w (fun _ => True) A l.length (u8s l)
def RangesIn (w : World) (v : Value) (l : List (Nat × Nat)) : Prop := ∃ A c, v = .slice A l.length c ∧ (l.length ≤ c ∧ c ≤ maxLen) ∧ View w (fun _ => True) A (2 * l.length) (rcells l)
structure FrIn (w : World) (f : Fr) (sd sr : Value) : Prop where
  tok : f.tok.length = 16
  data : BytesIn3 w sd f.data
  ranges : RangesIn w sr f.ranges
theorem FrIn.hd {w : World} {f : Fr} {sd sr : Value} (h : FrIn w f sd sr) (h1 : f.data.length ≤ 1000000) (h2 : f.ranges.length ≤ 1000000) : FrD w (fun _ => True) f sd sr := by
  obtain ⟨t, ⟨A, c, e1, q1, v1⟩, ⟨B, d, e2, q2, v2⟩⟩ := h
  exact ⟨t, ⟨A, c, e1, h1, v1⟩, ⟨B, d, e2, ⟨h2, q2.1⟩, v2⟩⟩
theorem FrIn.chg {w w' : World} {f : Fr} {sd sr : Value} (h : FrIn w f sd sr) (hc : Chg none_ w w') : FrIn w' f sd sr := by
  obtain ⟨t, ⟨A, c, e1, q1, v1⟩, ⟨B, d, e2, q2, v2⟩⟩ := h
  exact ⟨t, ⟨A, c, e1, q1, v1.chg hc (fun _ _ h => h)⟩, ⟨B, d, e2, q2, v2.chg hc (fun _ _ h => h)⟩⟩
theorem FrIn.shape {w : World} {f : Fr} {sd sr : Value} (h : FrIn w f sd sr) : ∃ A c B d, sd = .slice A f.data.length c ∧ sr = .slice B f.ranges.length d := by
  obtain ⟨_, ⟨A, c, e1, _⟩, ⟨B, d, e2, _⟩⟩ := h
  exact ⟨A, c, B, d, e1, e2⟩

theorem view_of3 {w : World} {a : Addr} {n : Nat} {xs : List Value} (hl : xs.length = n) (h : ∀ j, j < n → w.cell? (a.add j) = xs[j]?) : View w (fun _ => True) (some a) n xs := by
  refine ⟨hl, fun hn => ?_⟩
  have h0 := h 0 hn
  rw [List.getElem?_eq_getElem (by omega)] at h0
  obtain ⟨b, o, sp⟩ := a
  have hsp : sp = none := by
    have := World.cell?_spot h0
    simpa [Addr.add] using this
  subst hsp
  refine ⟨b, o, rfl, World.block_lt_of_cell? w ⟨b, o, none⟩ (by simpa [addr_add] using h0), trivial, fun j hj => ?_⟩
  have := h j hj
  rwa [addr_add] at this
theorem u64_nat3 {x : Int} (h : (Lit.int .u64 x).wf = true) : ∃ n : Nat, x = (n : Int) ∧ n < 18446744073709551616 := by
  have h2 : (decide (0 ≤ x) && decide (x ≤ 18446744073709551615)) = true := h
  simp only [Bool.and_eq_true, decide_eq_true_eq] at h2
  exact ⟨x.toNat, by omega, by omega⟩
theorem i64_wf3 {x : Int} (h : (Lit.int .i64 x).wf = true) : -9223372036854775808 ≤ x ∧ x < 9223372036854775808 := by
  have h2 : (decide (-9223372036854775808 ≤ x) && decide (x ≤ 9223372036854775807)) = true := h
  simp only [Bool.and_eq_true, decide_eq_true_eq] at h2
  omega
theorem range_getD3 {α : Type} (q : Nat → α) (d : α) (n i : Nat) (h : i < n) : ((List.range n).map q).getD i d = q i := by
  simp [List.getD_eq_getElem?_getD, h]
theorem list24 : ∀ {l : List Value}, l.length = 24 → ∃ c0 c1 c2 c3 c4 c5 c6 c7 t, l = c0 :: c1 :: c2 :: c3 :: c4 :: c5 :: c6 :: c7 :: t ∧ t.length = 16
  | c0 :: c1 :: c2 :: c3 :: c4 :: c5 :: c6 :: c7 :: t, h => ⟨c0, c1, c2, c3, c4, c5, c6, c7, t, rfl, by simpa using h⟩

section
variable {H : Type} {enc : TypeId × Value → H} {W : World} {held : Bool}
theorem open_bytes3 {n : Nat} {u : Value} {y : DataW H × List MemPlace} (h : DataW.trod enc Try.prog W 0 (fun _ => true) held n 67 [u] = some y) : ∃ l : List Nat, BytesIn3 W u l ∧ ∀ x ∈ l, x < 256 := by
  have hrow : ∃ a len cap zs, u = .slice a len cap ∧ IsRow .u8 W a len cap zs := by
    rcases open_ints Try.underlying67 Try.underlying5 (by kernel_rfl) h with ⟨hcs, _⟩ | ⟨x, l, c, zs, hcs, _, hl, hm, hz, _, hcell, hwz⟩
    · simp at hcs
      exact ⟨none, 0, 0, [], hcs, .inl ⟨rfl, rfl, rfl, rfl⟩⟩
    · simp at hcs
      exact ⟨some x, l, c, zs, hcs, .inr ⟨x, rfl, hl, hm, by simpa using hz, hcell, hwz⟩⟩
  obtain ⟨a, len, cap, zs, rfl, hr⟩ := hrow
  obtain ⟨xs, rfl, h1, h2, h3, h4⟩ := hr.u8
  exact ⟨xs, ⟨a, cap, rfl, ⟨h1, h2⟩, h4⟩, h3⟩

theorem open_ranges {n : Nat} {u : Value} {y : DataW H × List MemPlace} (h : DataW.trod enc Try.prog W 0 (fun _ => true) held n 49 [u] = some y) :
    ∃ l : List (Nat × Nat), RangesIn W u l ∧ ∀ x ∈ l, x.1 < 18446744073709551616 ∧ x.2 < 18446744073709551616 := by
  rcases open_slice_pairs Try.underlying49 Try.underlying63 (by kernel_rfl) rfl rfl (by kernel_rfl) (by kernel_rfl) h with ⟨hcs, _⟩ | ⟨a, len, cap, m, k, V0, V1, D0, D1, P0, P1, hcs, _, hl, hm, hmm, _, hi⟩
  · simp at hcs
    exact ⟨[], ⟨none, 0, hcs, ⟨Nat.le_refl _, Nat.zero_le _⟩, View.none_ _ _ _⟩, by simp⟩
  · simp at hcs hmm
    subst hmm
    have each : ∀ i, i < m → ∃ q : Nat × Nat, (q.1 < 18446744073709551616 ∧ q.2 < 18446744073709551616) ∧ W.cell? (a.add (i * 2)) = some (.int .u64 (q.1 : Nat)) ∧ W.cell? (a.add (i * 2 + 1)) = some (.int .u64 (q.2 : Nat)) := by
      intro i him
      obtain ⟨c0, c1, t0, t1⟩ := hi i him
      obtain ⟨z0, e0, _, w0⟩ := DataW.trod_int Try.underlying29 t0
      obtain ⟨z1, e1, _, w1⟩ := DataW.trod_int Try.underlying29 t1
      simp at e0 e1
      obtain ⟨n0, rfl, l0⟩ := u64_nat3 w0
      obtain ⟨n1, rfl, l1⟩ := u64_nat3 w1
      exact ⟨(n0, n1), ⟨l0, l1⟩, by rw [c0, e0], by rw [c1, e1]⟩
    obtain ⟨q, hq⟩ := choose_lt each
    have hlen : ((List.range len).map q).length = len := by simp
    refine ⟨(List.range len).map q, ⟨some a, m, by rw [hlen]; exact hcs, ⟨by rw [hlen]; exact hl, hm⟩, view_of3 (by rw [rcells_len]) (fun j hj => ?_)⟩, fun x hx => ?_⟩
    · rw [hlen] at hj
      have h2 : j = 2 * (j / 2) ∨ j = 2 * (j / 2) + 1 := by omega
      have hlt : j / 2 < len := by omega
      obtain ⟨_, g0, g1⟩ := hq (j / 2) (by omega)
      rcases h2 with h2 | h2
      · rw [h2, rcells_lo _ _ (by rw [hlen]; exact hlt), range_getD3 q _ _ _ hlt, Nat.mul_comm 2]; exact g0
      · rw [h2, rcells_hi _ _ (by rw [hlen]; exact hlt), range_getD3 q _ _ _ hlt, Nat.mul_comm 2]; exact g1
    · obtain ⟨i, hi', rfl⟩ := List.mem_map.1 hx
      exact (hq i (by have := List.mem_range.1 hi'; omega)).1

theorem open_tok {n : Nat} {l : List Value} {y : DataW H × List MemPlace} (hl : l.length = 16) (hf : DataW.trod enc Try.prog W 0 (fun _ => true) held n 68 l = some y) :
    ∃ t : List Nat, l = u8s t ∧ t.length = 16 ∧ ∀ x ∈ t, x < 256 := by
  obtain ⟨ys, m, _, _, _, hly, hy⟩ := DataW.trod_array Try.underlying68 hf
  obtain ⟨t, rfl, ht⟩ := cells_numsh l (fun v hv => by
    obtain ⟨i, hi, rfl⟩ := List.mem_iff_getElem.1 hv
    have q := hy i (by omega)
    have hys : ys[i]? = some (ys[i]'(by omega)) := List.getElem?_eq_getElem _
    rw [hys, cellsU8h, Nat.mul_one] at q
    rw [List.drop_eq_getElem_cons hi, List.take_succ_cons, List.take_zero] at q
    obtain ⟨z, qz, _, wz⟩ := DataW.trod_int Try.underlying5 q
    obtain ⟨k, rfl, hk⟩ := nat_u8h wz
    simp at qz
    exact ⟨k, qz, hk⟩)
  exact ⟨t, rfl, by simpa using hl, ht⟩

theorem open_fr_cells {n : Nat} {c0 c1 c2 c3 c4 c5 c6 c7 : Value} {t : List Value} (ht : t.length = 16) {y : DataW H × List MemPlace} (h : DataW.trod enc Try.prog W 0 (fun _ => true) held n 70 (c0 :: c1 :: c2 :: c3 :: c4 :: c5 :: c6 :: c7 :: t) = some y) :
    ∃ (f : Fr) (sd sr : Value), c0 :: c1 :: c2 :: c3 :: c4 :: c5 :: c6 :: c7 :: t = cellsF f sd sr ∧ FrIn W f sd sr ∧ f.Ok := by
  obtain ⟨xs, k, _, _, _, hlen, hg⟩ := DataW.trod_struct Try.underlying70 h
  have hx : ∀ i, i < 9 → ∃ y, xs[i]? = some y := fun i hi => ⟨xs[i]'(by rw [hlen]; exact hi), List.getElem?_eq_getElem _⟩
  have ki : Try.prog.cellsOf 3 = 1 := by kernel_rfl
  have ku : Try.prog.cellsOf 29 = 1 := by kernel_rfl
  have ks : Try.prog.cellsOf 49 = 1 := by kernel_rfl
  have kb : Try.prog.cellsOf 67 = 1 := by kernel_rfl
  have kl : Try.prog.cellsOf 4 = 1 := by kernel_rfl
  have kt : Try.prog.cellsOf 68 = 16 := by kernel_rfl
  obtain ⟨y0, e0⟩ := hx 0 (by omega)
  obtain ⟨y1, e1⟩ := hx 1 (by omega)
  obtain ⟨y2, e2⟩ := hx 2 (by omega)
  obtain ⟨y3, e3⟩ := hx 3 (by omega)
  obtain ⟨y4, e4⟩ := hx 4 (by omega)
  obtain ⟨y5, e5⟩ := hx 5 (by omega)
  obtain ⟨y6, e6⟩ := hx 6 (by omega)
  obtain ⟨y7, e7⟩ := hx 7 (by omega)
  obtain ⟨y8, e8⟩ := hx 8 (by omega)
  have g0 := hg 0 _ rfl
  have g1 := hg 1 _ rfl
  have g2 := hg 2 _ rfl
  have g3 := hg 3 _ rfl
  have g4 := hg 4 _ rfl
  have g5 := hg 5 _ rfl
  have g6 := hg 6 _ rfl
  have g7 := hg 7 _ rfl
  have g8 := hg 8 _ rfl
  rw [e0] at g0; rw [e1] at g1; rw [e2] at g2; rw [e3] at g3; rw [e4] at g4; rw [e5] at g5; rw [e6] at g6; rw [e7] at g7; rw [e8] at g8
  simp [ki, ku, ks, kb, kl, kt] at g0 g1 g2 g3 g4 g5 g6 g7 g8
  rw [List.take_of_length_le (by omega)] at g8
  obtain ⟨z0, q0, _, w0⟩ := DataW.trod_int Try.underlying3 g0
  obtain ⟨z1, q1, _, w1⟩ := DataW.trod_int Try.underlying29 g1
  obtain ⟨z2, q2, _, w2⟩ := DataW.trod_int Try.underlying29 g2
  obtain ⟨z3, q3, _, w3⟩ := DataW.trod_int Try.underlying29 g3
  obtain ⟨z4, q4, _, w4⟩ := DataW.trod_int Try.underlying29 g4
  obtain ⟨z5, q5, _⟩ := DataW.trod_bool Try.underlying4 g5
  obtain ⟨l6, s6, m6⟩ := open_bytes3 g6
  obtain ⟨l7, s7, m7⟩ := open_ranges g7
  obtain ⟨l8, rfl, h8, m8⟩ := open_tok ht g8
  simp at q0 q1 q2 q3 q4 q5
  subst q0; subst q1; subst q2; subst q3; subst q4; subst q5
  obtain ⟨n1, rfl, h1⟩ := u64_nat3 w1
  obtain ⟨n2, rfl, h2⟩ := u64_nat3 w2
  obtain ⟨n3, rfl, h3⟩ := u64_nat3 w3
  obtain ⟨n4, rfl, h4⟩ := u64_nat3 w4
  have i0 := i64_wf3 w0
  exact ⟨⟨z0, n1, n2, n3, n4, z5, l6, l7, l8⟩, c6, c7, rfl, ⟨h8, s6, s7⟩, ⟨i0.1, i0.2, h1, h2, h3, h4, m6, m7, m8⟩⟩
theorem open_fr {r : Reach} {b0 : Nat} {v : Value} {d : DataW H} {p : List MemPlace} (hv : Value.okWide Try.prog W r b0 70 v) (h : DataW.Trod enc Try.prog W 0 (fun _ => true) held 70 v d p) :
    ∃ (f : Fr) (sd sr : Value), v = aggF f sd sr ∧ FrIn W f sd sr ∧ f.Ok := by
  obtain ⟨cs, rfl, hsz⟩ := okWide_struct Try.underlying70 hv
  obtain ⟨l⟩ := cs
  have hl : l.length = 24 := hsz.trans (by kernel_rfl)
  obtain ⟨c0, c1, c2, c3, c4, c5, c6, c7, t, rfl, ht⟩ := list24 hl
  obtain ⟨fuel, hf⟩ := h
  obtain ⟨f, sd, sr, e, h1, h2⟩ := open_fr_cells (n := fuel) ht hf
  exact ⟨f, sd, sr, by unfold aggF; rw [← e], h1, h2⟩
end
end Go.Proofs.Ytakoeamfmmbdiaa
