/- Layer 3 (frames): frames one behind the other. -/
import Derived.Test.YtakoeamfmmbdiaaV3FrB
import Derived.Test.YtakoeamfmmbdiaaAloc
namespace Go.Proofs.Ytakoeamfmmbdiaa
open Go.RowKit

/-- A frame, and where its slices lie. -/
abbrev FrV := Fr × Value × Value
def fcellsL : List FrV → List Value
  | [] => []
  | x :: xs => cellsF x.1 x.2.1 x.2.2 ++ fcellsL xs
theorem fcellsL_snoc (x : FrV) : ∀ l : List FrV, fcellsL (l ++ [x]) = fcellsL l ++ cellsF x.1 x.2.1 x.2.2
  | [] => by simp [fcellsL]
  | y :: l => by
    show cellsF y.1 y.2.1 y.2.2 ++ fcellsL (l ++ [x]) = _
    rw [fcellsL_snoc x l, ← List.append_assoc]
    rfl
theorem zero27 : (Try.prog.info? 70).map (·.zero) = some (some (.agg zeroF.toArray)) := by kernel_rfl
theorem infoF_parts : ∃ j, Try.prog.info? 70 = some j ∧ j.size = 24 ∧ j.zero = some (.agg zeroF.toArray) ∧ j.bytes ≤ 4096 := by
  have h1 := size27
  have h2 := zero27
  have h3 : ((Try.prog.info? 70).map fun i => decide (i.bytes ≤ 4096)) = some true := by kernel_rfl
  cases hq : Try.prog.info? 70 with
  | none => rw [hq] at h1; cases h1
  | some j =>
    rw [hq] at h1 h2 h3
    exact ⟨j, rfl, by simpa using h1, by simpa using h2, by simpa using h3⟩

def fv0 : FrV := ({}, .slice none 0 0, .slice none 0 0)
theorem fcellsL_len : ∀ (L : List FrV), (∀ x ∈ L, x.1.tok.length = 16) → (fcellsL L).length = L.length * 24
  | [], _ => rfl
  | x :: L, h => by
    have := fcellsL_len L (fun y hy => h y (by simp [hy]))
    rw [fcellsL, List.length_append, cF_len _ _ _ (h x (by simp)), this, List.length_cons]
    omega
theorem fcellsL_get : ∀ (L : List FrV) (i j : Nat), (∀ x ∈ L, x.1.tok.length = 16) → i < L.length → j < 24 → (fcellsL L)[i * 24 + j]? = (cellsF (L.getD i fv0).1 (L.getD i fv0).2.1 (L.getD i fv0).2.2)[j]?
  | [], i, j, _, h, _ => absurd h (by simp)
  | x :: L, 0, j, ht, _, hj => by
    rw [fcellsL, Nat.zero_mul, Nat.zero_add, List.getElem?_append_left (by rw [cF_len _ _ _ (ht x (by simp))]; exact hj)]
    rfl
  | x :: L, i + 1, j, ht, h, hj => by
    have := fcellsL_get L i j (fun y hy => ht y (by simp [hy])) (by simpa using h) hj
    rw [fcellsL, List.getElem?_append_right (by rw [cF_len _ _ _ (ht x (by simp))]; omega), cF_len _ _ _ (ht x (by simp)), show (i + 1) * 24 + j - 24 = i * 24 + j by omega, this]
    rfl
theorem View.fAt {w : World} {T : Nat → Prop} {A : Option Addr} {L : List FrV} {k : Nat} (h : View w T A (L.length * 24) (fcellsL L)) (ht : ∀ x ∈ L, x.1.tok.length = 16) (hk : k < L.length) :
    ∃ b o, A = some ⟨b, o, none⟩ ∧ b < w.heap.size ∧ T b ∧ w.rangeAt b (o + k * 24) (cellsF (L.getD k fv0).1 (L.getD k fv0).2.1 (L.getD k fv0).2.2) := by
  obtain ⟨b, o, h1, h2, h3, h4⟩ := h.2 (by omega)
  have hm : L.getD k fv0 ∈ L := by rw [List.getD_eq_getElem?_getD, List.getElem?_eq_getElem hk]; exact List.getElem_mem hk
  refine ⟨b, o, h1, h2, h3, fun j v hv => ?_⟩
  have hj : j < 24 := by
    have := (List.getElem?_eq_some_iff.1 hv).1
    rwa [cF_len _ _ _ (ht _ hm)] at this
  rw [Nat.add_assoc, h4 _ (by omega), fcellsL_get L k j ht hk hj]
  exact hv
theorem rangeAt_chg {w w' : World} {S : Nat → Prop} {b o : Nat} {cs : List Value} (h : w.rangeAt b o cs) (hc : Chg S w w') (hb : b < w.heap.size) (hs : ¬ S b) : w'.rangeAt b o cs := fun j v hv => (hc.cell _ hb hs).trans (h j v hv)

/-- Frames that lie in view, and what they have. -/
structure FrsV (w : World) (A : Option Addr) (L : List FrV) : Prop where
  view : View w (fun _ => True) A (L.length * 24) (fcellsL L)
  each : ∀ x ∈ L, FrD w (fun _ => True) x.1 x.2.1 x.2.2
theorem FrsV.chg {w w' : World} {A : Option Addr} {L : List FrV} (h : FrsV w A L) (hc : Chg none_ w w') : FrsV w' A L := ⟨h.view.chg hc (fun _ _ h => h), fun x hx => (h.each x hx).chg hc (fun _ _ h => h)⟩
theorem FrsV.tok {w : World} {A : Option Addr} {L : List FrV} (h : FrsV w A L) : ∀ x ∈ L, x.1.tok.length = 16 := fun x hx => (h.each x hx).tok
end Go.Proofs.Ytakoeamfmmbdiaa
