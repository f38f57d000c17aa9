/- Layer 16 (reasm): pieces of a text, as they came in, opened. -/
import Derived.Test.YtbmhoijdbhokaaaV16Open
import Derived.Deep.SlicePairs
namespace Go.Proofs.Ytbmhoijdbhokaaa
open Go.RowKit Go.ChangeShapes Go.WideShapes Go.Deep
section
variable {H : Type} {enc : TypeId × Value → H} {W : World} {held : Bool}
theorem open_pieces {n : Nat} {u : Value} {y : DataW H × List MemPlace} (h : DataW.trod enc Try.prog W 0 (fun _ => true) held n 23 [u] = some y) :
    ∃ (l : List (Nat × Nat)) (A : Option Addr) (c : Nat), u = .slice A l.length c ∧ (l.length ≤ c ∧ c ≤ maxLen) ∧ View W (fun _ => True) A (l.length * 2) (l.flatMap prc) ∧ ∀ x ∈ l, x.1 < 256 ∧ x.2 < 256 := by
  rcases open_slice_pairs Try.underlying23 Try.underlying29 (by kernel_rfl) rfl rfl (by kernel_rfl) (by kernel_rfl) h with ⟨hcs, _⟩ | ⟨a, len, cap, m, k, V0, V1, D0, D1, P0, P1, hcs, _, hl, hm, hmm, _, hi⟩
  · simp at hcs
    exact ⟨[], none, 0, hcs, ⟨Nat.le_refl _, Nat.zero_le _⟩, View.none_ _ _ _, by simp⟩
  · simp at hcs hmm
    subst hmm
    have each : ∀ i, i < m → ∃ q : Nat × Nat, (q.1 < 256 ∧ q.2 < 256) ∧ ∀ j, j < 2 → W.cell? (a.add (i * 2 + j)) = (prc q)[j]? := by
      intro i him
      obtain ⟨c0, c1, t0, t1⟩ := hi i him
      obtain ⟨z0, e0, _, w0⟩ := DataW.trod_int Try.underlying5 t0
      obtain ⟨z1, e1, _, w1⟩ := DataW.trod_int Try.underlying5 t1
      simp at e0 e1
      obtain ⟨n0, rfl, l0⟩ := u8_nat16 w0
      obtain ⟨n1, rfl, l1⟩ := u8_nat16 w1
      refine ⟨(n0, n1), ⟨l0, l1⟩, fun j hj => ?_⟩
      rcases (by omega : j = 0 ∨ j = 1) with rfl | rfl
      · rw [Nat.add_zero, c0, e0]; rfl
      · rw [c1, e1]; rfl
    obtain ⟨q, hq⟩ := choose_lt each
    have hlen : ((List.range len).map q).length = len := by simp
    refine ⟨(List.range len).map q, some a, m, by rw [hlen]; exact hcs, ⟨by rw [hlen]; exact hl, hm⟩, view_of16 (by rw [fm_len prc_len]) (fun j hj => ?_), fun x hx => ?_⟩
    · rw [hlen] at hj
      have e := fm_get prc_len (0, 0) ((List.range len).map q) (j / 2) (j % 2) (by rw [hlen]; omega) (by omega)
      rw [show j / 2 * 2 + j % 2 = j by omega, range_getD16 q _ _ _ (by omega)] at e
      rw [e, ← (hq (j / 2) (by omega)).2 (j % 2) (by omega), show j / 2 * 2 + j % 2 = j by omega]
    · obtain ⟨i, hi', rfl⟩ := List.mem_map.1 hx
      exact (hq i (by have := List.mem_range.1 hi'; omega)).1
end
end Go.Proofs.Ytbmhoijdbhokaaa
