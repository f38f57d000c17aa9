/- Layer 14 (rtt): an estimator told plainly. No program is named here. -/
import Derived.Test.YtipfpocnapholaaV11Math
namespace Go.Proofs.Ytipfpocnapholaa

/-- The longest time. -/
def MT : Nat := 1099511627776
def heldN (n : Nat) : Nat := min n MT
def farN (a b : Nat) : Nat := max a b - min a b

/-- What is estimated. -/
structure Est where
  sm : Nat
  vr : Nat
  le : Nat
  la : Nat
  an : Bool

/-- None of its times is more than the longest one. -/
structure Est.Ok (e : Est) : Prop where
  sm : e.sm ≤ MT
  vr : e.vr ≤ MT
  le : e.le ≤ MT
  la : e.la ≤ MT

def newE (g : Nat) : Est := ⟨heldN (max g 1), heldN (max g 1) / 2, 0, 0, false⟩
/-- What is left of a time. -/
def adjN (t d l : Nat) : Nat := if l + d ≤ t then t - d else t
/-- An answer of times that are held. -/
def takeH (e : Est) (t d : Nat) : Est :=
  if e.an = false then ⟨t, t / 2, t, t, true⟩
  else ⟨(7 * e.sm + adjN t d (min e.le t)) / 8, (3 * e.vr + farN e.sm (adjN t d (min e.le t))) / 4, min e.le t, t, true⟩
def takeE (e : Est) (t d : Nat) : Est := takeH e (heldN t) (heldN d)
def probeS (e : Est) (d : Nat) : Nat := e.sm + max (4 * e.vr) 1 + heldN d
def probeE (e : Est) (d : Nat) (c : Int) : Nat := boffN (probeS e d) c
def lossE (e : Est) : Nat := max (9 * max e.sm e.la / 8) 1

theorem heldN_le (n : Nat) : heldN n ≤ MT := Nat.min_le_right _ _
theorem heldN_of (n : Nat) (h : n ≤ MT) : heldN n = n := Nat.min_eq_left h
theorem adjN_le (t d l : Nat) : adjN t d l ≤ t := by unfold adjN; split <;> omega
theorem farN_le (a b m : Nat) (ha : a ≤ m) (hb : b ≤ m) : farN a b ≤ m := by unfold farN; omega

theorem newE_ok (g : Nat) : (newE g).Ok := by
  have := heldN_le (max g 1)
  refine ⟨this, ?_, Nat.zero_le _, Nat.zero_le _⟩
  show heldN (max g 1) / 2 ≤ MT
  omega

theorem takeH_ok (e : Est) (h : e.Ok) (t d : Nat) (ht : t ≤ MT) : (takeH e t d).Ok := by
  obtain ⟨h1, h2, h3, h4⟩ := h
  unfold takeH
  split
  · exact ⟨ht, by show t / 2 ≤ MT; omega, ht, ht⟩
  · have ha := adjN_le t d (min e.le t)
    have hf := farN_le e.sm (adjN t d (min e.le t)) MT h1 (by omega)
    refine ⟨?_, ?_, ?_, ht⟩
    · show (7 * e.sm + adjN t d (min e.le t)) / 8 ≤ MT; omega
    · show (3 * e.vr + farN e.sm (adjN t d (min e.le t))) / 4 ≤ MT; omega
    · show min e.le t ≤ MT; omega

theorem takeE_ok (e : Est) (h : e.Ok) (t d : Nat) : (takeE e t d).Ok := takeH_ok e h _ _ (heldN_le t)
theorem probeS_lt (e : Est) (h : e.Ok) (d : Nat) : probeS e d ≤ 6 * MT := by
  obtain ⟨h1, h2, _, _⟩ := h
  have := heldN_le d
  unfold probeS MT at *
  omega

/-- All answers, one behind the other. -/
def ofE (g : Nat) : List (Nat × Nat) → Est
  | [] => newE g
  | l => l.foldl (fun e x => takeE e x.1 x.2) (newE g)
end Go.Proofs.Ytipfpocnapholaa
