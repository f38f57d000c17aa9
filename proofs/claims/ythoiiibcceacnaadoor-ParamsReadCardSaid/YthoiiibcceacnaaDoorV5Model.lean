/- Layer 5 (params), plain: what is read. -/
import Derived.Test.YthoiiibcceacnaaDoorV5Put
import Derived.Test.YthoiiibcceacnaaDoorV5Index
namespace Go.Proofs.YthoiiibcceacnaaDoor
open Go.RowKit

/-- The parameters so far, which ones came, the reader. -/
structure RX where
  p : Pm
  came : List Bool
  s : St

/-- One parameter is read. -/
def stepR (x : RX) : RX :=
  if (rdBytes (rdInt (rdInt x.s).2).1 (rdInt (rdInt x.s).2).2).2.2 ≠ 0 ∨ idxP (rdInt x.s).1 < 0 then { x with s := (rdBytes (rdInt (rdInt x.s).2).1 (rdInt (rdInt x.s).2).2).2 }
  else if x.came.getD (idxP (rdInt x.s).1).toNat false = true then { x with s := failSt 11 (rdBytes (rdInt (rdInt x.s).2).1 (rdInt (rdInt x.s).2).2).2 }
  else if (takeP (Pk.all.getD (idxP (rdInt x.s).1).toNat .idle) (rdBytes (rdInt (rdInt x.s).2).1 (rdInt (rdInt x.s).2).2).1 x.p).2 = true then
    ⟨(takeP (Pk.all.getD (idxP (rdInt x.s).1).toNat .idle) (rdBytes (rdInt (rdInt x.s).2).1 (rdInt (rdInt x.s).2).2).1 x.p).1, x.came.set (idxP (rdInt x.s).1).toNat true, (rdBytes (rdInt (rdInt x.s).2).1 (rdInt (rdInt x.s).2).2).2⟩
  else ⟨(takeP (Pk.all.getD (idxP (rdInt x.s).1).toNat .idle) (rdBytes (rdInt (rdInt x.s).2).1 (rdInt (rdInt x.s).2).2).1 x.p).1, x.came, failSt 3 (rdBytes (rdInt (rdInt x.s).2).1 (rdInt (rdInt x.s).2).2).2⟩

theorem rdInt_less (s : St) (h : s.1.length ≠ 0) : (rdInt s).2.1.length < s.1.length := by
  unfold rdInt
  split
  · simp; omega
  · split
    · rename_i hs; rw [hs] at h; exact absurd rfl h
    · rename_i f r hs
      rw [hs]
      split <;> simp <;> omega
theorem rdInt_le (s : St) : (rdInt s).2.1.length ≤ s.1.length := by
  by_cases h : s.1.length = 0
  · have : s.1 = [] := List.eq_nil_of_length_eq_zero h
    unfold rdInt
    split
    · simp
    · rw [this]; simp
  · exact Nat.le_of_lt (rdInt_less s h)
theorem rdBytes_le (n : Nat) (s : St) : (rdBytes n s).2.1.length ≤ s.1.length := by
  unfold rdBytes
  split
  · simp
  · split <;> simp
theorem failSt_le (e : Int) (s : St) : (failSt e s).1.length ≤ s.1.length := by
  unfold failSt
  split <;> simp
theorem stepR_less (x : RX) (h : x.s.1.length ≠ 0) : (stepR x).s.1.length < x.s.1.length := by
  have h1 := rdInt_less x.s h
  have h2 := rdInt_le (rdInt x.s).2
  have h3 := rdBytes_le (rdInt (rdInt x.s).2).1 (rdInt (rdInt x.s).2).2
  have h4 := failSt_le 11 (rdBytes (rdInt (rdInt x.s).2).1 (rdInt (rdInt x.s).2).2).2
  have h5 := failSt_le 3 (rdBytes (rdInt (rdInt x.s).2).1 (rdInt (rdInt x.s).2).2).2
  unfold stepR
  split
  · show (rdBytes _ _).2.1.length < _; omega
  · split
    · show (failSt 11 _).1.length < _; omega
    · split
      · show (rdBytes _ _).2.1.length < _; omega
      · show (failSt 3 _).1.length < _; omega

/-- All are read, until nothing is left. -/
def runR (x : RX) : RX := if x.s.1.length = 0 then x else runR (stepR x)
termination_by x.s.1.length
decreasing_by exact stepR_less x (by assumption)
theorem runR_end (x : RX) (h : x.s.1.length = 0) : runR x = x := by rw [runR, if_pos h]
theorem runR_step (x : RX) (h : x.s.1.length ≠ 0) : runR x = runR (stepR x) := by rw [runR, if_neg h]

def begin (b : List Nat) : RX := ⟨{}, List.replicate 5 false, (b, 0)⟩
/-- What stands behind the last one. -/
def endR (x : RX) : Pm × Int :=
  if (if mayB x.p then x.s else failSt 3 x.s).2 ≠ 0 then ({}, (if mayB x.p then x.s else failSt 3 x.s).2) else (x.p, 0)
/-- What is read of bytes. -/
def readM (b : List Nat) : Pm × Int := endR (runR (begin b))
end Go.Proofs.YthoiiibcceacnaaDoor
