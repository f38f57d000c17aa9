/- Layer 5 (params): what lies where while the document's answer reads parameters. -/
import Derived.Test.YthoiiibcceacnaaDoorV5LS
import Derived.Test.YthoiiibcceacnaaDoorV4RSt
namespace Go.Proofs.YthoiiibcceacnaaDoor
open Go.RowKit

/-- Which numbers came, by their place in the document's array. -/
def hadL (c : List Bool) : List Bool := [false, c.getD 0 false, c.getD 1 false, false, c.getD 2 false, c.getD 3 false, false, false, c.getD 4 false]
structure RLS (n : Nat) (T : Nat → Prop) (bs : List Nat) (w : World) (x : RX) : Prop where
  z : Row w n 25 (cellsP {})
  p : Row w (n + 1) 25 (cellsP x.p)
  tok : x.p.tok.length = 16
  had : Row w (n + 1 + 1) 62 (bools (hadL x.came))
  cl : x.came.length = 5
  rd : RS w (n + 1 + 1 + 1) T bs x.s
  T : ∀ b, T b → b < n

section
variable {n : Nat} {T : Nat → Prop} {bs : List Nat} {w w' : World} {x : RX}
theorem RLS.keep (h : RLS n T bs w x) (hc : Chg none_ w w') : RLS n T bs w' x :=
  ⟨h.z.chg hc (fun h => h), h.p.chg hc (fun h => h), h.tok, h.had.chg hc (fun h => h), h.cl, h.rd.chg hc (fun h => h) (fun _ _ h => h), h.T⟩
theorem RLS.read (h : RLS n T bs w x) {s : St} (hs : RS w' (n + 1 + 1 + 1) T bs s) (hc : Chg (· = n + 1 + 1 + 1) w w') : RLS n T bs w' { x with s := s } :=
  ⟨h.z.chg hc (by omega), h.p.chg hc (by omega), h.tok, h.had.chg hc (by omega), h.cl, hs, h.T⟩
theorem RLS.took (h : RLS n T bs w x) {p : Pm} (ht : p.tok.length = 16) (hp : Row w' (n + 1) 25 (cellsP p)) (hc : Chg (· = n + 1) w w') : RLS n T bs w' { x with p := p } :=
  ⟨h.z.chg hc (by omega), hp, ht, h.had.chg hc (by omega), h.cl, h.rd.chg hc (by omega) (fun b hb e => by have := h.T b hb; have e : b = n + 1 := e; omega), h.T⟩
theorem RLS.mark (h : RLS n T bs w x) (i k : Nat) (hk : (hadL x.came).set k true = hadL (x.came.set i true)) : RLS n T bs (w.setCell ⟨n + 1 + 1, k, none⟩ (.bool true)) { x with came := x.came.set i true } := by
  have hc : Chg (· = n + 1 + 1) w (w.setCell ⟨n + 1 + 1, k, none⟩ (.bool true)) := (Chg.refl (· = n + 1 + 1) w).setCell (p := ⟨n + 1 + 1, k, none⟩) (fun _ => rfl) _
  have hr := h.had.set k (.bool true)
  rw [bools_set, hk] at hr
  exact ⟨h.z.chg hc (by omega), h.p.chg hc (by omega), h.tok, hr, by simp [h.cl], h.rd.chg hc (by omega) (fun b hb e => by have := h.T b hb; have e : b = n + 1 + 1 := e; omega), h.T⟩
theorem hadL_set (c : List Bool) (h : c.length = 5) : (hadL c).set 1 true = hadL (c.set 0 true) ∧ (hadL c).set 2 true = hadL (c.set 1 true) ∧ (hadL c).set 4 true = hadL (c.set 2 true) ∧ (hadL c).set 5 true = hadL (c.set 3 true) ∧ (hadL c).set 8 true = hadL (c.set 4 true) := by
  match c, h with
  | [a, b, c, d, e], _ => exact ⟨rfl, rfl, rfl, rfl, rfl⟩

/-- How many bytes are left, as the reader's block tells. -/
def lenR (w : World) (r : Nat) : Nat := match w.cell? ⟨r, 0, none⟩, w.cell? ⟨r, 1, none⟩ with
  | some (.slice _ k _), some (.int _ a) => k - a.toNat
  | _, _ => 0
theorem RLS.len (h : RLS n T bs w x) (hb : x.s.2 = 0) : lenR w (n + 1 + 1 + 1) = x.s.1.length := by
  obtain ⟨A, cap, h1⟩ := h.rd.place hb
  have := h.rd.le
  unfold lenR
  rw [h1.cell 0, h1.cell 1]
  simp only [List.getElem?_cons_zero, List.getElem?_cons_succ]
  omega
end

theorem wp_store_whole {P : Program} {o : Oper} {a : Act} {w : World} {K : Act → World → Prop} {Q : Exit → Act → World → Prop} {ty : TypeId} {x y : Operand} (ho : o.op = .store ty x y) {g : Nat} {e : TypeId} {cs xs : List Value} (hx : a.eval x = .pointer (some ⟨g, 0, none⟩)) (h : Row w g e cs)
    (hy : a.eval y = .agg xs.toArray) (hl : xs.length = cs.length) (hi : (P.info? ty).map (·.size) = some xs.length) (h1 : xs.all (·.oneCell') = true)
    (k : ∀ w', Row w' g e xs → (∀ S w0, Chg S w0 w → (g < w0.heap.size → S g) → Chg S w0 w') → K (a.put o.dst undef) w') : o.wp P a w K Q :=
  wp_store_mid ty x y ho g 0 xs.toArray hx hy (h.there 0 _ (by simp; omega)) (by simpa using hi) (by simpa using h1)
    (k _ (by simpa using h.store xs hl) (fun S w0 hc hg => by simpa using hc.setCells xs 0 hg))

theorem step_store_whole {P : Program} {ops : Array Oper} {o : Oper} {a : Act} {w : World} {K : Act → World → Prop} {Q : Exit → Act → World → Prop} {E : Prop} {ty : TypeId} {x y : Operand} (ho : o.op = .store ty x y) (hgd : o.guard = none) {g : Nat} {e : TypeId} {cs xs : List Value} (hx : a.eval x = .pointer (some ⟨g, 0, none⟩)) (h : Row w g e cs)
    (hy : a.eval y = .agg xs.toArray) (hl : xs.length = cs.length) (hi : (P.info? ty).map (·.size) = some xs.length) (h1 : xs.all (·.oneCell') = true)
    (k : ∀ w', Row w' g e xs → (∀ S w0, Chg S w0 w → (g < w0.heap.size → S g) → Chg S w0 w') → K (a.put o.dst undef) w') : if Region.wanted o (yielded ops a.tmps) = true then Oper.wp P o a w K Q else E := by
  have hw : Region.wanted o (yielded ops a.tmps) = true := by simp [Region.wanted, hgd]
  rw [if_pos hw]
  exact wp_store_whole ho hx h hy hl hi h1 k

theorem endR_bad (x : RX) (h : x.s.2 ≠ 0) : endR x = ({}, x.s.2) := by
  unfold endR
  have : (if mayB x.p then x.s else failSt 3 x.s) = x.s := by
    split
    · rfl
    · unfold failSt; rw [if_pos (.inl h)]
  rw [this, if_pos h]
theorem endR_ok (x : RX) (h : x.s.2 = 0) : endR x = if mayB x.p then (x.p, 0) else ({}, 3) := by
  unfold endR
  cases mayB x.p
  · simp [failSt, h]
  · simp [h]
end Go.Proofs.YthoiiibcceacnaaDoor
