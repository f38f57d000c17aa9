/- Layer 10 (keys): a side's own key goes to its earlier ones: what the law KeysAcross keeps. -/
import Derived.Test.YtfpflhcabjcamaaDoorV10Inv
namespace Go.Proofs.YtfpflhcabjcamaaDoor
open Go.RowKit

section
variable {C S : List Nat} {q : Pl} {t0 t1 p0 p1 : Nat} {v0 v1 v' : Value} {P : Nat → Prop} {w w' : World}
theorem InvB.grown0 (h : InvB C S q t0 t1 p0 p1 v0 v1 P w) (hc : Chg (fun b => b = q.gp ∨ b = q.go ∨ v0.ownBlock = some b) w w') (hp : Row w' q.gp 39 [v', v1]) (ho : Row w' q.go 36 (cellsS (ownN C S 0 (p0 + 1)) ++ cellsS (ownN C S 1 p1))) (hw : w'.ownsRow q.base 36 61 v' (p0 + 1) (pastC C S 0 (p0 + 1))) (hn : ∀ b, v'.ownBlock = some b → v0.ownBlock = some b ∨ w.heap.size ≤ b) : Inv C S q t0 t1 (p0 + 1) p1 w' := by
  have hq := h.pl
  have b0 : ∀ b, v0.ownBlock = some b → q.base ≤ b ∧ b < w.heap.size := fun b hb => h.w0.lt b hb
  have b1 : ∀ b, v1.ownBlock = some b → q.base ≤ b ∧ b < w.heap.size := fun b hb => h.w1.lt b hb
  have hP : ∀ b, P b → ¬ (b = q.gp ∨ b = q.go ∨ v0.ownBlock = some b) := fun b hb e => by
    rcases e with e | e | e
    · exact (h.ne b hb).2.2.2.2 e
    · exact (h.ne b hb).2.2.2.1 e
    · exact (h.nv b hb).1 e
  have hlow : ∀ b, b < q.go → ¬ (b = q.gp ∨ b = q.go ∨ v0.ownBlock = some b) := fun b hb e => by
    rcases e with e | e | e
    · omega
    · omega
    · have := b0 b e; omega
  exact ⟨v', v1, P, {
    r0 := h.r0.chg hc (hlow _ (by omega)) hP
    r1 := h.r1.chg hc (hlow _ (by omega)) hP
    rx := h.rx.chg hc (hlow _ (by omega))
    ro := ho
    rp := hp
    w0 := hw
    w1 := own_chgN h.w1 hc (fun b hb e => by
      have := b1 b hb
      rcases e with e | e | e
      · omega
      · omega
      · exact h.vv b e hb)
    lt := fun b hb => Nat.lt_of_lt_of_le (h.lt b hb) hc.size
    ne := h.ne
    nv := fun b hb => ⟨fun e => by
      rcases hn b e with e | e
      · exact (h.nv b hb).1 e
      · have := h.lt b hb; omega, (h.nv b hb).2⟩
    vv := fun b hb => by
      rcases hn b hb with e | e
      · exact h.vv b e
      · exact fun e1 => by have := b1 b e1; omega
    pl := ⟨hq.1, hq.2.1, hq.2.2.1, hq.2.2.2.1, hq.2.2.2.2.1, Nat.le_trans hq.2.2.2.2.2 hc.size⟩ }⟩
theorem InvB.grown1 (h : InvB C S q t0 t1 p0 p1 v0 v1 P w) (hc : Chg (fun b => b = q.gp ∨ b = q.go ∨ v1.ownBlock = some b) w w') (hp : Row w' q.gp 39 [v0, v']) (ho : Row w' q.go 36 (cellsS (ownN C S 0 p0) ++ cellsS (ownN C S 1 (p1 + 1)))) (hw : w'.ownsRow q.base 36 61 v' (p1 + 1) (pastC C S 1 (p1 + 1))) (hn : ∀ b, v'.ownBlock = some b → v1.ownBlock = some b ∨ w.heap.size ≤ b) : Inv C S q t0 t1 p0 (p1 + 1) w' := by
  have hq := h.pl
  have b0 : ∀ b, v0.ownBlock = some b → q.base ≤ b ∧ b < w.heap.size := fun b hb => h.w0.lt b hb
  have b1 : ∀ b, v1.ownBlock = some b → q.base ≤ b ∧ b < w.heap.size := fun b hb => h.w1.lt b hb
  have hP : ∀ b, P b → ¬ (b = q.gp ∨ b = q.go ∨ v1.ownBlock = some b) := fun b hb e => by
    rcases e with e | e | e
    · exact (h.ne b hb).2.2.2.2 e
    · exact (h.ne b hb).2.2.2.1 e
    · exact (h.nv b hb).2 e
  have hlow : ∀ b, b < q.go → ¬ (b = q.gp ∨ b = q.go ∨ v1.ownBlock = some b) := fun b hb e => by
    rcases e with e | e | e
    · omega
    · omega
    · have := b1 b e; omega
  exact ⟨v0, v', P, {
    r0 := h.r0.chg hc (hlow _ (by omega)) hP
    r1 := h.r1.chg hc (hlow _ (by omega)) hP
    rx := h.rx.chg hc (hlow _ (by omega))
    ro := ho
    rp := hp
    w1 := hw
    w0 := own_chgN h.w0 hc (fun b hb e => by
      have := b0 b hb
      rcases e with e | e | e
      · omega
      · omega
      · exact h.vv b hb e)
    lt := fun b hb => Nat.lt_of_lt_of_le (h.lt b hb) hc.size
    ne := h.ne
    nv := fun b hb => ⟨(h.nv b hb).1, fun e => by
      rcases hn b e with e | e
      · exact (h.nv b hb).2 e
      · have := h.lt b hb; omega⟩
    vv := fun b hb e => by
      rcases hn b e with e | e
      · exact h.vv b hb e
      · have := b0 b hb; omega
    pl := ⟨hq.1, hq.2.1, hq.2.2.1, hq.2.2.2.1, hq.2.2.2.2.1, Nat.le_trans hq.2.2.2.2.2 hc.size⟩ }⟩
end
end Go.Proofs.YtfpflhcabjcamaaDoor
