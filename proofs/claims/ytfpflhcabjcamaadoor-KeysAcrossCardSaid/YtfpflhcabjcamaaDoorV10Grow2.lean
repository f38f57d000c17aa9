/- Layer 10 (keys): a key goes behind the earlier ones, at a bare operation; what then lies where. -/
import Derived.Test.YtfpflhcabjcamaaDoorV10Grow
namespace Go.Proofs.YtfpflhcabjcamaaDoor
open Go.RowKit

theorem bytesSc : ∃ j, Tryd.prog.info? 36 = some j ∧ j.size = 61 ∧ j.zero = some (.agg zeroS.toArray) ∧ j.bytes ≤ 4096 := by
  obtain ⟨j, hj, hs, hz⟩ := infoS_parts
  have h : ((Tryd.prog.info? 36).map fun i => decide (i.bytes ≤ 4096)) = some true := by kernel_rfl
  rw [hj] at h
  exact ⟨j, hj, hs, hz, by simpa using h⟩

/-- One key goes behind those that a slice of the call's own has. -/
theorem wp_append_key {o : Oper} {a : Act} {w : World} {Q : Exit → Act → World → Prop} {K : Act → World → Prop} (s x : Operand)
    (ho : o.op = .call { callee := .builtin .append, args := #[s, x], argTypes := #[38, 38] }) {base p : Nat} {v : Value} {xs : List Value} (M : Sc) (oM : M.Ok)
    (hs : a.eval s = v) (hown : w.ownsRow base 36 61 v p xs) {g c : Nat} (hx : a.eval x = .slice (some ⟨g, 0, none⟩) 1 c) (hr : Row w g 36 (cellsS M)) (hp : p ≤ 1000) (hbase : base ≤ w.heap.size)
    (k : ∀ v' w', w'.ownsRow base 36 61 v' (p + 1) (xs ++ cellsS M) → Chg (fun b => v.ownBlock = some b) w w' → (∀ b, v'.ownBlock = some b → v.ownBlock = some b ∨ w.heap.size ≤ b) → K (a.put o.dst v') w') : Oper.wp Tryd.prog o a w K Q := by
  obtain ⟨j, hj, hsz, hz, hby⟩ := bytesSc
  have h1 : ∀ u ∈ cellsS M, u.oneCell' = true := fun u hu => List.all_eq_true.1 (cellsS_one M) u hu
  have hn : ∀ i u, (cellsS M)[i]? = some u → w.cell? ((⟨g, 0, none⟩ : Addr).add i) = some u := fun i u hu => by
    rw [addr_add, Nat.zero_add, hr.cell]
    exact hu
  have hb : (p + 1) * j.bytes ≤ 140737488355328 := by
    have := Nat.mul_le_mul (show p + 1 ≤ 1001 by omega) hby
    omega
  obtain ⟨v', w', hrun, h2, h3, _, h4⟩ := run_append_own_at (P := Tryd.prog) w base 38 o.type 36 j (.agg zeroS.toArray) 61 j.bytes Tryd.underlying38 hj hz hsz rfl rfl (by decide) v p xs hown ⟨g, 0, none⟩ 1 c (cellsS M) (by rw [cellsS_len oM]) hn h1 (by unfold maxLen; omega) hb hbase
  unfold Oper.wp execOp
  simp only [ho, resolve, invoke, builtin, Sem.run_bind, Sem.run_pure, Result.andThen_ok, List.map_toArray, List.map_cons, List.map_nil, hs, hx, hrun]
  refine k v' w' h2 (Chg.of_grown h3) (fun b hb => ?_)
  rcases h4 with h4 | h4
  · exact .inl (by rw [← h4]; exact hb)
  · rw [h4] at hb
    exact .inr (by cases hb; exact Nat.le_refl _)

theorem Row.mid0 {w : World} {g : Nat} {e : TypeId} {xs ys : List Value} (h : Row w g e (xs ++ ys)) : Row w g e ([] ++ xs ++ ys) := h
theorem Row.mid1 {w : World} {g : Nat} {e : TypeId} {xs ys : List Value} (h : Row w g e (xs ++ ys)) : Row w g e (xs ++ ys ++ []) := by rw [List.append_nil]; exact h
theorem Row.unmid {w : World} {g : Nat} {e : TypeId} {xs ys : List Value} (h : Row w g e (xs ++ ys ++ [])) : Row w g e (xs ++ ys) := by rw [List.append_nil] at h; exact h
theorem Row.unmid0 {w : World} {g : Nat} {e : TypeId} {xs ys : List Value} (h : Row w g e ([] ++ xs ++ ys)) : Row w g e (xs ++ ys) := h
theorem range_own0 {w : World} {g : Nat} {e : TypeId} {xs ys : List Value} (h : Row w g e (xs ++ ys)) : w.rangeAt g 0 xs := h.rangeMid 0 xs (fun j v hv => by
  have hj : j < xs.length := by
    rcases Nat.lt_or_ge j xs.length with h | h
    · exact h
    · rw [List.getElem?_eq_none h] at hv; cases hv
  rw [Nat.zero_add, List.getElem?_append_left hj]; exact hv)
theorem range_own1 {w : World} {g : Nat} {e : TypeId} {xs ys : List Value} (h : Row w g e (xs ++ ys)) (hl : xs.length = 61) : w.rangeAt g 61 ys := h.rangeMid 61 ys (fun j v hv => by
  rw [List.getElem?_append_right (by omega), hl, Nat.add_sub_cancel_left]; exact hv)
/-- A value is stored into one place of the array of two. -/
theorem Row.past0 {w : World} {g : Nat} {e : TypeId} {a b : Value} (h : Row w g e [a, b]) (v : Value) : Row (w.setCell ⟨g, 0, none⟩ v) g e [v, b] := h.set 0 v
theorem Row.past1 {w : World} {g : Nat} {e : TypeId} {a b : Value} (h : Row w g e [a, b]) (v : Value) : Row (w.setCell ⟨g, 1, none⟩ v) g e [a, v] := h.set 1 v
theorem own_shape {w : World} {base size n : Nat} {e : TypeId} {v : Value} {xs : List Value} (h : w.ownsRow base e size v n xs) : ∃ A c, v = .slice A n c := by
  rcases h.2 with ⟨rfl, h2⟩ | ⟨g, cap, cur, rfl, _⟩
  · exact ⟨none, 0, by rw [h2]⟩
  · exact ⟨_, cap, rfl⟩

section
variable {C S : List Nat} {q : Pl} {t0 t1 p0 p1 : Nat} {v0 v1 v' : Value} {P : Nat → Prop} {W w x1 x2 x3 x4 x5 : World}

/-- What the region that appends may turn leaves the own keys, and a place of the array as long as it isn't written. -/
theorem InvB.keep0 (h : InvB C S q t0 t1 p0 p1 v0 v1 P w) (hc : Chg (fun b => b = q.gp ∨ v0.ownBlock = some b) w x1) : Row x1 q.go 36 (cellsS (ownN C S 0 p0) ++ cellsS (ownN C S 1 p1)) := by
  have hq := h.pl
  exact h.ro.chg hc (fun e => by
    rcases e with e | e
    · omega
    · have := (h.w0.lt _ e).1; omega)
theorem InvB.app0 (h : InvB C S q t0 t1 p0 p1 v0 v1 P w) (hc1 : Chg none_ w x1) (hc2 : Chg (fun b => v0.ownBlock = some b) x1 x2) (hown : x2.ownsRow q.base 36 61 v' (p0 + 1) (pastC C S 0 p0 ++ cellsS (ownN C S 0 p0))) :
    Row x2 q.gp 39 [v0, v1] ∧ (∀ x, x = x2.setCell ⟨q.gp, 0, none⟩ v' → Row x q.gp 39 [v', v1] ∧ x.ownsRow q.base 36 61 v' (p0 + 1) (pastC C S 0 (p0 + 1)) ∧ Row x q.go 36 (cellsS (ownN C S 0 p0) ++ cellsS (ownN C S 1 p1)) ∧ Chg (fun b => b = q.gp ∨ b = q.go ∨ v0.ownBlock = some b) w x) := by
  have hq := h.pl
  have hb : ∀ b, v0.ownBlock = some b → q.base ≤ b := fun b e => (h.w0.lt b e).1
  have hp2 : Row x2 q.gp 39 [v0, v1] := (h.rp.chg hc1 (fun h => h)).chg hc2 (fun e => by have := hb _ e; omega)
  refine ⟨hp2, ?_⟩
  rintro x rfl
  have hs : Chg (fun b => b = q.gp) x2 (x2.setCell ⟨q.gp, 0, none⟩ v') := (Chg.refl (fun b => b = q.gp) x2).setCell (p := ⟨q.gp, 0, none⟩) (fun _ => rfl) v'
  refine ⟨hp2.past0 v', own_chgN hown hs (fun b e1 e2 => by have := (hown.lt b e1).1; omega), ?_, ?_⟩
  · exact ((h.ro.chg hc1 (fun h => h)).chg hc2 (fun e => by have := hb _ e; omega)).chg hs (fun e => by omega)
  · exact ((hc1.mono (fun _ _ h => h.elim)).trans (hc2.mono (fun _ _ e => .inr (.inr e)))).trans (hs.mono (fun _ _ e => .inl e))
theorem InvB.fin0 (h : InvB C S q t0 t1 p0 p1 v0 v1 P w) (hW : W.heap.size ≤ q.gA) (hcW : Chg none_ W w) (hc3 : Chg (fun b => b = q.gp ∨ b = q.go ∨ v0.ownBlock = some b) w x3) (hp : Row x3 q.gp 39 [v', v1]) (hw : x3.ownsRow q.base 36 61 v' (p0 + 1) (pastC C S 0 (p0 + 1)))
    (hn : ∀ b, v'.ownBlock = some b → v0.ownBlock = some b ∨ w.heap.size ≤ b) (hcu : Chg none_ x3 x4) (hcs : Chg (fun b => b = q.go) x4 x5) (ho : Row x5 q.go 36 (cellsS (ownN C S 0 (p0 + 1)) ++ cellsS (ownN C S 1 p1))) : Inv C S q t0 t1 (p0 + 1) p1 x5 ∧ Chg none_ W x5 := by
  have hq := h.pl
  have hc5 : Chg (fun b => b = q.gp ∨ b = q.go ∨ v0.ownBlock = some b) w x5 := (hc3.trans (hcu.mono (fun _ _ h => h.elim))).trans (hcs.mono (fun _ _ e => .inr (.inl e)))
  refine ⟨h.grown0 hc5 ((hp.chg hcu (fun h => h)).chg hcs (fun e => by omega)) ho (own_chgN (own_chgN hw hcu (fun _ _ h => h)) hcs (fun b e1 e2 => by have := (hw.lt b e1).1; omega)) hn, ?_⟩
  exact hcW.andThen hc5 (fun b hb e => by
    rcases e with e | e | e
    · omega
    · omega
    · have := (h.w0.lt b e).1; omega)
theorem InvB.far0 (h : InvB C S q t0 t1 p0 p1 v0 v1 P w) (hW : W.heap.size ≤ q.gA) (hcW : Chg none_ W w) (hc3 : Chg (fun b => b = q.gp ∨ b = q.go ∨ v0.ownBlock = some b) w x3) : Chg none_ W x3 := by
  have hq := h.pl
  exact hcW.andThen hc3 (fun b hb e => by
    rcases e with e | e | e
    · omega
    · omega
    · have := (h.w0.lt b e).1; omega)

/-- What the region that appends may turn leaves the own keys, and a place of the array as long as it isn't written. -/
theorem InvB.keep1 (h : InvB C S q t0 t1 p0 p1 v0 v1 P w) (hc : Chg (fun b => b = q.gp ∨ v1.ownBlock = some b) w x1) : Row x1 q.go 36 (cellsS (ownN C S 0 p0) ++ cellsS (ownN C S 1 p1)) := by
  have hq := h.pl
  exact h.ro.chg hc (fun e => by
    rcases e with e | e
    · omega
    · have := (h.w1.lt _ e).1; omega)
theorem InvB.app1 (h : InvB C S q t0 t1 p0 p1 v0 v1 P w) (hc1 : Chg none_ w x1) (hc2 : Chg (fun b => v1.ownBlock = some b) x1 x2) (hown : x2.ownsRow q.base 36 61 v' (p1 + 1) (pastC C S 1 p1 ++ cellsS (ownN C S 1 p1))) :
    Row x2 q.gp 39 [v0, v1] ∧ (∀ x, x = x2.setCell ⟨q.gp, 1, none⟩ v' → Row x q.gp 39 [v0, v'] ∧ x.ownsRow q.base 36 61 v' (p1 + 1) (pastC C S 1 (p1 + 1)) ∧ Row x q.go 36 (cellsS (ownN C S 0 p0) ++ cellsS (ownN C S 1 p1)) ∧ Chg (fun b => b = q.gp ∨ b = q.go ∨ v1.ownBlock = some b) w x) := by
  have hq := h.pl
  have hb : ∀ b, v1.ownBlock = some b → q.base ≤ b := fun b e => (h.w1.lt b e).1
  have hp2 : Row x2 q.gp 39 [v0, v1] := (h.rp.chg hc1 (fun h => h)).chg hc2 (fun e => by have := hb _ e; omega)
  refine ⟨hp2, ?_⟩
  rintro x rfl
  have hs : Chg (fun b => b = q.gp) x2 (x2.setCell ⟨q.gp, 1, none⟩ v') := (Chg.refl (fun b => b = q.gp) x2).setCell (p := ⟨q.gp, 1, none⟩) (fun _ => rfl) v'
  refine ⟨hp2.past1 v', own_chgN hown hs (fun b e1 e2 => by have := (hown.lt b e1).1; omega), ?_, ?_⟩
  · exact ((h.ro.chg hc1 (fun h => h)).chg hc2 (fun e => by have := hb _ e; omega)).chg hs (fun e => by omega)
  · exact ((hc1.mono (fun _ _ h => h.elim)).trans (hc2.mono (fun _ _ e => .inr (.inr e)))).trans (hs.mono (fun _ _ e => .inl e))
theorem InvB.fin1 (h : InvB C S q t0 t1 p0 p1 v0 v1 P w) (hW : W.heap.size ≤ q.gA) (hcW : Chg none_ W w) (hc3 : Chg (fun b => b = q.gp ∨ b = q.go ∨ v1.ownBlock = some b) w x3) (hp : Row x3 q.gp 39 [v0, v']) (hw : x3.ownsRow q.base 36 61 v' (p1 + 1) (pastC C S 1 (p1 + 1)))
    (hn : ∀ b, v'.ownBlock = some b → v1.ownBlock = some b ∨ w.heap.size ≤ b) (hcu : Chg none_ x3 x4) (hcs : Chg (fun b => b = q.go) x4 x5) (ho : Row x5 q.go 36 (cellsS (ownN C S 0 p0) ++ cellsS (ownN C S 1 (p1 + 1)))) : Inv C S q t0 t1 p0 (p1 + 1) x5 ∧ Chg none_ W x5 := by
  have hq := h.pl
  have hc5 : Chg (fun b => b = q.gp ∨ b = q.go ∨ v1.ownBlock = some b) w x5 := (hc3.trans (hcu.mono (fun _ _ h => h.elim))).trans (hcs.mono (fun _ _ e => .inr (.inl e)))
  refine ⟨h.grown1 hc5 ((hp.chg hcu (fun h => h)).chg hcs (fun e => by omega)) ho (own_chgN (own_chgN hw hcu (fun _ _ h => h)) hcs (fun b e1 e2 => by have := (hw.lt b e1).1; omega)) hn, ?_⟩
  exact hcW.andThen hc5 (fun b hb e => by
    rcases e with e | e | e
    · omega
    · omega
    · have := (h.w1.lt b e).1; omega)
theorem InvB.far1 (h : InvB C S q t0 t1 p0 p1 v0 v1 P w) (hW : W.heap.size ≤ q.gA) (hcW : Chg none_ W w) (hc3 : Chg (fun b => b = q.gp ∨ b = q.go ∨ v1.ownBlock = some b) w x3) : Chg none_ W x3 := by
  have hq := h.pl
  exact hcW.andThen hc3 (fun b hb e => by
    rcases e with e | e | e
    · omega
    · omega
    · have := (h.w1.lt b e).1; omega)
end
end Go.Proofs.YtfpflhcabjcamaaDoor
