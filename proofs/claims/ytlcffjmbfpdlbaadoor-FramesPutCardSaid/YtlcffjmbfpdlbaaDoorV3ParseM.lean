/- Layer 3 (frames), plain: all frames of bytes. -/
import Derived.Test.YtlcffjmbfpdlbaaDoorV3Some
namespace Go.Proofs.YtlcffjmbfpdlbaaDoor
open Go.RowKit

/-! ### no read leaves more than there was -/
theorem failSt_len (e : Int) (s : St) : (failSt e s).1.length ≤ s.1.length := by
  unfold failSt
  split
  · exact Nat.le_refl _
  · exact Nat.zero_le _
theorem rdInt_len (s : St) : (rdInt s).2.1.length ≤ s.1.length := by
  obtain ⟨xs, bad⟩ := s
  unfold rdInt
  split
  · exact Nat.zero_le _
  · split
    · exact Nat.zero_le _
    · rename_i f r hs
      simp only at hs
      split
      · simp only [hs, List.length_drop, List.length_cons]; omega
      · exact Nat.zero_le _
theorem rdInt_less (s : St) (h : s.1 ≠ []) : (rdInt s).2.1.length < s.1.length := by
  obtain ⟨xs, bad⟩ := s
  have hp : 0 < xs.length := List.length_pos_iff.2 h
  unfold rdInt
  split
  · exact hp
  · split
    · exact hp
    · rename_i f r hs
      simp only at hs
      split
      · simp only [hs, List.length_drop, List.length_cons]; omega
      · exact hp
theorem rdByte_len2 (s : St) : (rdByte s).2.1.length ≤ s.1.length := by
  obtain ⟨xs, bad⟩ := s
  unfold rdByte
  split
  · exact Nat.zero_le _
  · split
    · exact Nat.zero_le _
    · rename_i f r hs
      simp only at hs
      simp only [hs, List.length_cons]; omega
theorem rdBytes_len2 (n : Nat) (s : St) : (rdBytes n s).2.1.length ≤ s.1.length := by
  unfold rdBytes
  split
  · exact Nat.zero_le _
  · split
    · simp only [List.length_drop]; omega
    · exact Nat.zero_le _
theorem told_len (p : Part) (s : St) : (toldM p s).2.1.length ≤ s.1.length := by
  cases p <;> first | exact rdInt_len s | exact rdByte_len2 s | exact Nat.le_refl _
theorem zerosS_len (n : Nat) (s : St) : (zerosS n s).2.1.length ≤ s.1.length := by
  unfold zerosS
  split
  · exact Nat.le_refl _
  · simp only [List.length_drop]; omega
theorem ackLoop_len : ∀ (n lo : Nat) (l : List (Nat × Nat)) (s : St), (ackLoop n lo l s).2.1.length ≤ s.1.length
  | 0, _, _, _ => Nat.le_refl _
  | n + 1, lo, l, s => by
    have h1 := rdInt_len s
    have h2 := rdInt_len (rdInt s).2
    unfold ackLoop
    simp only
    split
    · exact Nat.le_trans (failSt_len _ _) (Nat.le_trans h2 h1)
    · exact Nat.le_trans (ackLoop_len n _ _ _) (Nat.le_trans h2 h1)
theorem acked_len (f : Fr) (s : St) : (ackedM f s).2.1.length ≤ s.1.length := by
  have h1 := rdInt_len s
  have h2 := rdInt_len (rdInt s).2
  have h3 := rdInt_len (rdInt (rdInt s).2).2
  have h4 := rdInt_len (rdInt (rdInt (rdInt s).2).2).2
  have h : (rdInt (rdInt (rdInt (rdInt s).2).2).2).2.1.length ≤ s.1.length := by omega
  unfold ackedM
  simp only
  split
  · exact Nat.le_trans (failSt_len _ _) h
  · exact Nat.le_trans (ackLoop_len _ _ _ _) h
theorem readP_len (p : Part) (f : Fr) (s : St) : (readP p f s).2.1.length ≤ s.1.length := by
  cases p
  all_goals first
    | exact rdInt_len s
    | exact Nat.le_trans (rdBytes_len2 _ _) (told_len _ s)
    | exact rdBytes_len2 16 s
    | exact zerosS_len 1199 s
    | exact acked_len f s
    | exact Nat.le_trans (rdInt_len _) (Nat.le_trans (rdInt_len _) (rdInt_len s))
theorem readAll_len : ∀ (ps : List Part) (x : Fr × St), (readAll ps x).2.1.length ≤ x.2.1.length
  | [], _ => Nat.le_refl _
  | p :: ps, x => Nat.le_trans (readAll_len ps _) (readP_len p x.1 x.2)
/-- Each frame takes a byte at least. -/
theorem nextM_less (s : St) (h : s.1 ≠ []) : (nextM s).2.1.length < s.1.length := by
  have h1 := rdInt_less s h
  unfold nextM
  split
  · exact Nat.lt_of_le_of_lt (failSt_len _ _) h1
  · rename_i d hd
    have h2 := readAll_len (d.pf.parts (rdInt s).1) ({ kind := (kindM (rdInt s).1 : Nat), flag := d.flagged && decide ((rdInt s).1 % 2 = 1) }, (rdInt s).2)
    simp only
    split
    · exact Nat.lt_of_le_of_lt h2 h1
    · exact Nat.lt_of_le_of_lt (Nat.le_trans (failSt_len _ _) h2) h1

/-! ### all frames -/
/-- The frames that stand one behind the other, and the reader behind them. -/
def framesM : Nat → St → List Fr × St
  | 0, s => ([], s)
  | n + 1, s => if s.1 = [] then ([], s) else ((nextM s).1 :: (framesM n (nextM s).2).1, (framesM n (nextM s).2).2)
theorem framesM_nil (n : Nat) (s : St) (h : s.1 = []) : framesM n s = ([], s) := by
  cases n with
  | zero => rfl
  | succ n => unfold framesM; rw [if_pos h]
theorem framesM_cons (n : Nat) (s : St) (h : s.1 ≠ []) (hn : s.1.length ≤ n) : framesM n s = ((nextM s).1 :: (framesM (n - 1) (nextM s).2).1, (framesM (n - 1) (nextM s).2).2) := by
  have hp : 0 < s.1.length := List.length_pos_iff.2 h
  cases n with
  | zero => omega
  | succ n =>
    show (if s.1 = [] then ([], s) else ((nextM s).1 :: (framesM n (nextM s).2).1, (framesM n (nextM s).2).2)) = _
    rw [if_neg h]
    rfl
theorem framesM_end : ∀ (n : Nat) (s : St), s.1.length ≤ n → (framesM n s).2.1 = []
  | 0, s, h => List.eq_nil_of_length_eq_zero (by show s.1.length = 0; omega)
  | n + 1, s, h => by
    by_cases hs : s.1 = []
    · rw [framesM_nil _ _ hs]; exact hs
    · rw [framesM_cons _ _ hs h]
      have := nextM_less s hs
      exact framesM_end n _ (by omega)
/-- With more fuel it is the same. -/
theorem framesM_fuel : ∀ (n m : Nat) (s : St), s.1.length ≤ n → n ≤ m → framesM m s = framesM n s
  | 0, m, s, h, _ => by
    have hs : s.1 = [] := List.eq_nil_of_length_eq_zero (by omega)
    rw [framesM_nil _ _ hs, framesM_nil _ _ hs]
  | n + 1, m, s, h, hm => by
    by_cases hs : s.1 = []
    · rw [framesM_nil _ _ hs, framesM_nil _ _ hs]
    · have hl := nextM_less s hs
      rw [framesM_cons m s hs (by omega), framesM_cons (n + 1) s hs h, framesM_fuel n (m - 1) (nextM s).2 (by omega) (by omega)]
      rfl
/-- Of the frames that are read one more than may be is kept. -/
def stepP (l : List Fr) (f : Fr) : List Fr := if l.length ≤ 64 then l ++ [f] else l
/-- Frame by frame, till nothing is left. -/
def loopP (l : List Fr) (s : St) : List Fr × St :=
  if _h : s.1 = [] then (l, s) else loopP (stepP l (nextM s).1) (nextM s).2
termination_by s.1.length
decreasing_by exact nextM_less s (by assumption)
theorem loopP_stop (l : List Fr) (s : St) (h : s.1 = []) : loopP l s = (l, s) := by
  unfold loopP; rw [dif_pos h]
theorem loopP_on (l : List Fr) (s : St) (h : s.1 ≠ []) : loopP l s = loopP (stepP l (nextM s).1) (nextM s).2 := by
  conv => lhs; unfold loopP
  rw [dif_neg h]
/-- All frames of bytes, or the error. -/
def parseM (b : List Nat) : List Fr × Int :=
  let x := loopP [] (b, 0)
  if x.2.2 ≠ 0 then ([], x.2.2) else if x.1.length = 0 ∨ 64 < x.1.length then ([], 3) else (x.1, 0)
theorem parseM_eq (b : List Nat) (l : List Fr) (s : St) (h : loopP [] (b, 0) = (l, s)) : parseM b = if s.2 ≠ 0 then ([], s.2) else if l.length = 0 ∨ 64 < l.length then ([], 3) else (l, 0) := by
  unfold parseM; rw [h]
/-- What is kept of frames, told by all of them. -/
theorem loopP_frames : ∀ (n : Nat) (s : St) (l : List Fr), s.1.length ≤ n → l.length ≤ 65 → loopP l s = ((l ++ (framesM n s).1).take 65, (framesM n s).2)
  | 0, s, l, h, hl => by
    have hs : s.1 = [] := List.eq_nil_of_length_eq_zero (by omega)
    rw [loopP_stop l s hs, framesM_nil _ _ hs, List.append_nil, List.take_of_length_le hl]
  | n + 1, s, l, h, hl => by
    by_cases hs : s.1 = []
    · rw [loopP_stop l s hs, framesM_nil _ _ hs, List.append_nil, List.take_of_length_le hl]
    · have hlt := nextM_less s hs
      have hle : (stepP l (nextM s).1).length ≤ 65 := by
        unfold stepP
        split
        · simp; omega
        · exact hl
      rw [loopP_on l s hs, framesM_cons (n + 1) s hs h, loopP_frames n (nextM s).2 _ (by omega) hle]
      simp only [Nat.add_sub_cancel, Prod.mk.injEq, and_true]
      unfold stepP
      split
      · rw [List.append_assoc]; rfl
      · have h65 : l.length = 65 := by omega
        rw [List.take_append_of_le_length (by omega), List.take_append_of_le_length (by omega)]
end Go.Proofs.YtlcffjmbfpdlbaaDoor
