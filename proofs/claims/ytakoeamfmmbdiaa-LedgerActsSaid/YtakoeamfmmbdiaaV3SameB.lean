/- Layer 3 (frames): a frame's parts that lie in view. -/
import Derived.Test.YtakoeamfmmbdiaaV3FrB
import Derived.Test.YtakoeamfmmbdiaaTok
namespace Go.Proofs.Ytakoeamfmmbdiaa
open Go.RowKit

theorem rcells_len (l : List (Nat × Nat)) : (rcells l).length = 2 * l.length := by
  induction l with
  | nil => rfl
  | cons a l ih => simp only [rcells, List.flatMap_cons, List.length_append, List.length_cons, List.length_nil] at ih ⊢; omega
theorem rcells_lo (l : List (Nat × Nat)) (i : Nat) (h : i < l.length) : (rcells l)[2 * i]? = some (.int .u64 ((l.getD i (0, 0)).1 : Nat)) := by
  induction l generalizing i with
  | nil => cases h
  | cons a l ih =>
    cases i with
    | zero => rfl
    | succ i =>
      have := ih i (by simpa using h)
      rw [show 2 * (i + 1) = 2 * i + 1 + 1 from by omega]
      simpa [rcells] using this
theorem rcells_hi (l : List (Nat × Nat)) (i : Nat) (h : i < l.length) : (rcells l)[2 * i + 1]? = some (.int .u64 ((l.getD i (0, 0)).2 : Nat)) := by
  induction l generalizing i with
  | nil => cases h
  | cons a l ih =>
    cases i with
    | zero => rfl
    | succ i =>
      have := ih i (by simpa using h)
      rw [show 2 * (i + 1) + 1 = 2 * i + 1 + 1 + 1 from by omega]
      simpa [rcells] using this

/-- A list of ranges in view: where each one lies. -/
theorem View.ranges {w : World} {T : Nat → Prop} {A : Option Addr} {l : List (Nat × Nat)} (h : View w T A (2 * l.length) (rcells l)) (h0 : 0 < l.length) :
    ∃ b o, A = some ⟨b, o, none⟩ ∧ b < w.heap.size ∧ T b ∧ ∀ i, i < l.length → w.cell? ⟨b, o + i * 2, none⟩ = some (.int .u64 ((l.getD i (0, 0)).1 : Nat)) ∧ w.cell? ⟨b, o + i * 2 + 1, none⟩ = some (.int .u64 ((l.getD i (0, 0)).2 : Nat)) := by
  obtain ⟨b, o, ha, hb, ht, hc⟩ := h.2 (by omega)
  refine ⟨b, o, ha, hb, ht, fun i hi => ⟨?_, ?_⟩⟩
  · rw [Nat.mul_comm i 2, hc (2 * i) (by omega)]; exact rcells_lo l i hi
  · rw [Nat.mul_comm i 2, Nat.add_assoc, hc (2 * i + 1) (by omega)]; exact rcells_hi l i hi

/-- Numbers that a frame's may be. -/
structure Fr.Ok (f : Fr) : Prop where
  k0 : -9223372036854775808 ≤ f.kind
  k1 : f.kind < 9223372036854775808
  id : f.id < 18446744073709551616
  a : f.a < 18446744073709551616
  b : f.b < 18446744073709551616
  code : f.code < 18446744073709551616
  data : ∀ x ∈ f.data, x < 256
  ranges : ∀ x ∈ f.ranges, x.1 < 18446744073709551616 ∧ x.2 < 18446744073709551616
  tok : ∀ x ∈ f.tok, x < 256

theorem Fr.eq_iff (f g : Fr) : f = g ↔ f.kind = g.kind ∧ f.id = g.id ∧ f.a = g.a ∧ f.b = g.b ∧ f.code = g.code ∧ f.flag = g.flag ∧ f.data = g.data ∧ f.ranges = g.ranges ∧ f.tok = g.tok := by
  cases f; cases g; simp

section
variable {ops : Array Oper} {rest : List Oper} {o : Oper} {a : Act} {w : World} {Q : Exit → Act → World → Prop}
/-- A frame's token is read. -/
theorem wl25 {x : Operand} (ho : o.op = .load 68 x) (hw : Region.wanted o (yielded ops a.tmps) = true) {g : Nat} (hx : a.eval x = .pointer (some ⟨g, 8, none⟩)) {tok : List Nat} (h : w.rangeAt g 8 (u8s tok)) (hl : tok.length = 16)
    (k : wpList Try.prog ops Q rest (a.put o.dst (.agg (u8s tok).toArray)) w) : wpList Try.prog ops Q (o :: rest) a w :=
  wpList_load_Mid ho hw hx h Try.underlying68 rfl (by rw [u8s_length, hl]; exact size25) k
end
theorem tok_range {w : World} {g : Nat} {e : TypeId} {f : Fr} {sd sr : Value} (h : Row w g e (cellsF f sd sr)) : w.rangeAt g 8 (u8s f.tok) :=
  h.rangeMid 8 _ fun j v hv => by
    rw [Nat.add_comm 8 j]
    exact hv
end Go.Proofs.Ytakoeamfmmbdiaa
