/- Layer 3 (frames): frames that came in, opened. -/
import Derived.Test.YtakoeamfmmbdiaaV3OpenB
import Derived.Test.YtakoeamfmmbdiaaV3FrL
namespace Go.Proofs.Ytakoeamfmmbdiaa
open Go.RowKit Go.ChangeShapes Go.WideShapes Go.Deep

section
variable {H : Type} {enc : TypeId × Value → H} {W : World} {held : Bool}
theorem open_frs {n : Nat} {u : Value} {y : DataW H × List MemPlace} (h : DataW.trod enc Try.prog W 0 (fun _ => true) held n 30 [u] = some y) :
    ∃ (l : List FrV) (A : Option Addr) (c : Nat), u = .slice A l.length c ∧ (l.length ≤ c ∧ c ≤ maxLen) ∧ View W (fun _ => True) A (l.length * 24) (fcellsL l) ∧ ∀ x ∈ l, FrIn W x.1 x.2.1 x.2.2 ∧ x.1.Ok := by
  rcases open_slice Try.underlying30 h with ⟨hcs, _⟩ | ⟨a, len, cap, m, k, D, Pl, hcs, _, hl, hm, hmm, _, hi⟩
  · simp at hcs
    exact ⟨[], none, 0, hcs, ⟨Nat.le_refl _, Nat.zero_le _⟩, View.none_ _ _ _, by simp⟩
  · simp at hcs hmm
    subst hmm
    have ce : Try.prog.cellsOf 70 = 24 := by kernel_rfl
    rw [ce] at hi
    have each : ∀ i, i < m → ∃ q : FrV, (FrIn W q.1 q.2.1 q.2.2 ∧ q.1.Ok) ∧ ∀ j, j < 24 → W.cell? (a.add (i * 24 + j)) = (cellsF q.1 q.2.1 q.2.2)[j]? := by
      intro i him
      obtain ⟨cs', h1, h2⟩ := hi i him
      obtain ⟨_, hlen, hcell⟩ := World.cells?_some h1
      obtain ⟨c0, c1, c2, c3, c4, c5, c6, c7, t, rfl, ht⟩ := list24 hlen
      obtain ⟨f, sd, sr, e, k1, k2⟩ := open_fr_cells ht h2
      refine ⟨(f, sd, sr), ⟨k1, k2⟩, fun j hj => ?_⟩
      rw [← e, ← hcell j hj, Go.Deep.add_add]
    haveI : Inhabited FrV := ⟨fv0⟩
    obtain ⟨q, hq⟩ := choose_lt each
    have hlen : ((List.range len).map q).length = len := by simp
    have htok : ∀ x ∈ (List.range len).map q, x.1.tok.length = 16 := fun x hx => by
      obtain ⟨i, hi', rfl⟩ := List.mem_map.1 hx
      exact (hq i (by have := List.mem_range.1 hi'; omega)).1.1.tok
    refine ⟨(List.range len).map q, some a, m, by rw [hlen]; exact hcs, ⟨by rw [hlen]; exact hl, hm⟩, view_of3 (by rw [fcellsL_len _ htok]) (fun j hj => ?_), fun x hx => ?_⟩
    · rw [hlen] at hj
      have e := fcellsL_get ((List.range len).map q) (j / 24) (j % 24) htok (by rw [hlen]; omega) (by omega)
      rw [show j / 24 * 24 + j % 24 = j by omega, range_getD3 q _ _ _ (by omega)] at e
      rw [e, ← (hq (j / 24) (by omega)).2 (j % 24) (by omega), show j / 24 * 24 + j % 24 = j by omega]
    · obtain ⟨i, hi', rfl⟩ := List.mem_map.1 hx
      exact (hq i (by have := List.mem_range.1 hi'; omega)).1
end
end Go.Proofs.Ytakoeamfmmbdiaa
