/- Layer 14 (rtt): what came in, opened: answers' times and delays. -/
import Derived.Test.YtipfpocnapholaaV14Ref2
import Derived.Test.YtipfpocnapholaaBytes
import Derived.Deep.SlicePairs
import Derived.ChangeOld
import Derived.ChangeSlices
namespace Go.Proofs.Ytipfpocnapholaa
open Go.RowKit Go.ChangeShapes Go.WideShapes Go.Deep

theorem view_of14 {w : World} {a : Addr} {n : Nat} {xs : List Value} (hl : xs.length = n) (h : ∀ j, j < n → w.cell? (a.add j) = xs[j]?) : View w (fun _ => True) (some a) n xs := by
  refine ⟨hl, fun hn => ?_⟩
  have h0 := h 0 hn
  rw [List.getElem?_eq_getElem (by omega)] at h0
  obtain ⟨b, o, sp⟩ := a
  have hsp : sp = none := by
    have := World.cell?_spot h0
    simpa [Addr.add] using this
  subst hsp
  refine ⟨b, o, rfl, World.block_lt_of_cell? w ⟨b, o, none⟩ (by simpa [addr_add] using h0), trivial, fun j hj => ?_⟩
  have := h j hj
  rwa [addr_add] at this
theorem range_getD14 {α : Type} (q : Nat → α) (d : α) (n i : Nat) (h : i < n) : ((List.range n).map q).getD i d = q i := by
  simp [List.getD_eq_getElem?_getD, h]

section
variable {H : Type} {enc : TypeId × Value → H} {W : World} {held : Bool}
theorem open_answers {n : Nat} {u : Value} {y : DataW H × List MemPlace} (h : DataW.trod enc Try.prog W 0 (fun _ => true) held n 23 [u] = some y) :
    ∃ (l : List (Nat × Nat)) (A : Option Addr) (c : Nat), u = .slice A l.length c ∧ (l.length ≤ c ∧ c ≤ maxLen) ∧ View W (fun _ => True) A (l.length * 2) (ancells l) ∧ ∀ x ∈ l, x.1 < 18446744073709551616 ∧ x.2 < 18446744073709551616 := by
  rcases open_slice_pairs Try.underlying23 Try.underlying36 (by kernel_rfl) rfl rfl (by kernel_rfl) (by kernel_rfl) h with ⟨hcs, _⟩ | ⟨a, len, cap, m, k, V0, V1, D0, D1, P0, P1, hcs, _, hl, hm, hmm, _, hi⟩
  · simp at hcs
    exact ⟨[], none, 0, hcs, ⟨Nat.le_refl _, Nat.zero_le _⟩, View.none_ _ _ _, by simp⟩
  · simp at hcs hmm
    subst hmm
    have each : ∀ i, i < m → ∃ q : Nat × Nat, (q.1 < 18446744073709551616 ∧ q.2 < 18446744073709551616) ∧ W.cell? (a.add (i * 2)) = some (.int .u64 (q.1 : Nat)) ∧ W.cell? (a.add (i * 2 + 1)) = some (.int .u64 (q.2 : Nat)) := by
      intro i him
      obtain ⟨c0, c1, t0, t1⟩ := hi i him
      obtain ⟨z0, e0, _, w0⟩ := DataW.trod_int Try.underlying22 t0
      obtain ⟨z1, e1, _, w1⟩ := DataW.trod_int Try.underlying22 t1
      simp at e0 e1
      obtain ⟨n0, rfl⟩ := nat_of_wf w0 rfl
      obtain ⟨n1, rfl⟩ := nat_of_wf w1 rfl
      have l0 : n0 < 18446744073709551616 := by
        rw [show (Lit.int .u64 (n0 : Int)).wf = (decide ((0 : Int) ≤ n0) && decide ((n0 : Int) ≤ 18446744073709551615)) from rfl] at w0
        simp at w0; omega
      have l1 : n1 < 18446744073709551616 := by
        rw [show (Lit.int .u64 (n1 : Int)).wf = (decide ((0 : Int) ≤ n1) && decide ((n1 : Int) ≤ 18446744073709551615)) from rfl] at w1
        simp at w1; omega
      exact ⟨(n0, n1), ⟨l0, l1⟩, by rw [c0, e0], by rw [c1, e1]⟩
    obtain ⟨q, hq⟩ := choose_lt each
    have hlen : ((List.range len).map q).length = len := by simp
    refine ⟨(List.range len).map q, some a, m, by rw [hlen]; exact hcs, ⟨by rw [hlen]; exact hl, hm⟩, view_of14 (by rw [ancells_len]) (fun j hj => ?_), fun x hx => ?_⟩
    · rw [hlen] at hj
      have e := ancells_get ((List.range len).map q) (j / 2) (j % 2) (by rw [hlen]; omega) (by omega)
      rw [show j / 2 * 2 + j % 2 = j by omega, range_getD14 q _ _ _ (by omega)] at e
      rw [e]
      obtain ⟨_, g0, g1⟩ := hq (j / 2) (by omega)
      rcases (show j % 2 = 0 ∨ j % 2 = 1 by omega) with h2 | h2
      · rw [h2, show j = j / 2 * 2 by omega, show j / 2 * 2 / 2 = j / 2 by omega]; exact g0
      · rw [h2]
        have : a.add j = a.add (j / 2 * 2 + 1) := by rw [show j / 2 * 2 + 1 = j by omega]
        rw [this]; exact g1
    · obtain ⟨i, hi', rfl⟩ := List.mem_map.1 hx
      exact (hq i (by have := List.mem_range.1 hi'; omega)).1
end
end Go.Proofs.Ytipfpocnapholaa
