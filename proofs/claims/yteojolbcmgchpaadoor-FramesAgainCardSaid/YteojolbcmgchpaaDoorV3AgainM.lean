/- Layer 3 (frames), plain: frames that are parsed are right. -/
import Derived.Test.YteojolbcmgchpaaDoorV3TwoM
namespace Go.Proofs.YteojolbcmgchpaaDoor
open Go.RowKit

/-- A frame that was read without an error is right. -/
theorem nextM_right (s : St) (h : (nextM s).2.2 = 0) : rightB (nextM s).1 = true := by
  unfold nextM at h ⊢
  cases hd : (if (rdInt s).2.2 = 0 then kdM (kindM (rdInt s).1) else none) with
  | none =>
    rw [hd] at h
    exfalso
    simp only at h
    unfold failSt at h
    split at h
    · rename_i h2
      rcases h2 with h2 | h2
      · exact h2 h
      · cases h2
    · cases h
  | some d =>
    rw [hd] at h
    simp only at h ⊢
    have hb : (rdInt s).2.2 = 0 := by
      by_cases hb : (rdInt s).2.2 = 0
      · exact hb
      · rw [if_neg hb] at hd; cases hd
    rw [if_pos hb] at hd
    split at h
    · rename_i h2
      rw [if_pos h2]
      have hk := readAll_kind (d.pf.parts (rdInt s).1) ({ kind := (kindM (rdInt s).1 : Nat), flag := d.flagged && decide ((rdInt s).1 % 2 = 1) }, (rdInt s).2)
      have hlt := kdM_lt hd
      unfold rightB
      rw [hk.1]
      show (match kdM (keyM ((kindM (rdInt s).1 : Nat) : Int)) with | none => false | some d => hasB d _) = true
      rw [show keyM ((kindM (rdInt s).1 : Nat) : Int) = kindM (rdInt s).1 by unfold keyM; omega, hd]
      exact h2.2
    · rename_i h2
      exfalso
      unfold failSt at h
      split at h
      · rename_i h3
        rcases h3 with h3 | h3
        · exact h3 h
        · cases h3
      · cases h

/-! ### what a bad reader has left is nothing -/
def Nb (s : St) : Prop := s.2 ≠ 0 → s.1 = []
theorem rdInt_nb (s : St) : Nb (rdInt s).2 := by
  unfold rdInt Nb
  split
  · exact fun _ => rfl
  · split
    · exact fun _ => rfl
    · split
      · exact fun h => absurd rfl h
      · exact fun _ => rfl
theorem rdByte_nb (s : St) : Nb (rdByte s).2 := by
  unfold rdByte Nb
  split
  · exact fun _ => rfl
  · split
    · exact fun _ => rfl
    · exact fun h => absurd rfl h
theorem rdBytes_nb (n : Nat) (s : St) : Nb (rdBytes n s).2 := by
  unfold rdBytes Nb
  split
  · exact fun _ => rfl
  · split
    · exact fun h => absurd rfl h
    · exact fun _ => rfl
theorem failSt_nb (e : Int) (s : St) (h : Nb s) : Nb (failSt e s) := by
  unfold failSt
  split
  · exact h
  · exact fun _ => rfl
theorem zerosS_nb (n : Nat) (s : St) (h : Nb s) : Nb (zerosS n s).2 := by
  unfold zerosS
  split
  · exact h
  · exact fun h2 => absurd rfl h2
theorem ackLoop_nb : ∀ (n lo : Nat) (l : List (Nat × Nat)) (s : St), Nb s → Nb (ackLoop n lo l s).2
  | 0, _, _, _, h => h
  | n + 1, lo, l, s, _ => by
    unfold ackLoop
    simp only
    split
    · exact failSt_nb _ _ (rdInt_nb _)
    · exact ackLoop_nb n _ _ _ (rdInt_nb _)
theorem acked_nb (f : Fr) (s : St) : Nb (ackedM f s).2 := by
  unfold ackedM
  simp only
  split
  · exact failSt_nb _ _ (rdInt_nb _)
  · exact ackLoop_nb _ _ _ _ (rdInt_nb _)
theorem readP_nb (p : Part) (f : Fr) (s : St) (h : Nb s) : Nb (readP p f s).2 := by
  cases p
  all_goals first
    | exact rdInt_nb _
    | exact rdBytes_nb _ _
    | exact zerosS_nb 1199 s h
    | exact acked_nb f s
theorem readAll_nb : ∀ (ps : List Part) (x : Fr × St), Nb x.2 → Nb (readAll ps x).2
  | [], _, h => h
  | p :: ps, x, h => readAll_nb ps _ (readP_nb p x.1 x.2 h)
theorem nextM_nb (s : St) : Nb (nextM s).2 := by
  unfold nextM
  split
  · exact failSt_nb _ _ (rdInt_nb s)
  · rename_i d hd
    have h2 := readAll_nb (d.pf.parts (rdInt s).1) ({ kind := (kindM (rdInt s).1 : Nat), flag := d.flagged && decide ((rdInt s).1 % 2 = 1) }, (rdInt s).2) (rdInt_nb s)
    simp only
    split
    · exact h2
    · exact failSt_nb _ _ h2
/-- All frames that are kept are right, if nothing was wrong. -/
theorem loopP_right : ∀ (n : Nat) (s : St) (l : List Fr), s.1.length ≤ n → (loopP l s).2.2 = 0 → ∀ f ∈ (loopP l s).1, f ∈ l ∨ rightB f = true
  | 0, s, l, h, _ => by
    have hs : s.1 = [] := List.eq_nil_of_length_eq_zero (by omega)
    rw [loopP_stop l s hs]
    exact fun f hf => .inl hf
  | n + 1, s, l, h, h0 => by
    by_cases hs : s.1 = []
    · rw [loopP_stop l s hs]
      exact fun f hf => .inl hf
    · have hlt := nextM_less s hs
      rw [loopP_on l s hs] at h0 ⊢
      have hb : (nextM s).2.2 = 0 := by
        by_cases hb : (nextM s).2.2 = 0
        · exact hb
        · rw [loopP_stop _ _ (nextM_nb s hb)] at h0
          exact absurd h0 hb
      intro f hf
      rcases loopP_right n (nextM s).2 (stepP l (nextM s).1) (by omega) h0 f hf with h2 | h2
      · unfold stepP at h2
        split at h2
        · rcases List.mem_append.1 h2 with h3 | h3
          · exact .inl h3
          · obtain rfl : f = (nextM s).1 := by simpa using h3
            exact .inr (nextM_right s hb)
        · exact .inl h2
      · exact .inr h2
/-- Frames that are parsed are right. -/
theorem parse_right (b : List Nat) : ∀ f ∈ (parseM b).1, rightB f = true := by
  intro f hf
  have h := parseM_eq b (loopP [] (b, 0)).1 (loopP [] (b, 0)).2 rfl
  rw [h] at hf
  split at hf
  · cases hf
  · split at hf
    · cases hf
    · rename_i h1 _
      rcases loopP_right b.length (b, 0) [] (Nat.le_refl _) (by simpa using h1) f hf with h2 | h2
      · cases h2
      · exact h2

/-! ### what is parsed is a frame as any other -/
theorem readAll_mem : ∀ (ps : List Part) (x : Fr × St), x.1.Ok → (∀ b ∈ x.2.1, b < 256) → ∀ b ∈ (readAll ps x).2.1, b < 256
  | [], _, _, h => h
  | p :: ps, x, h, hb => readAll_mem ps _ (readP_ok p x.1 x.2 h hb).1 (readP_ok p x.1 x.2 h hb).2
theorem okNone : ({} : Fr).Ok := by constructor <;> decide
theorem okStart (k : Nat) (b : Bool) (hk : k < 64) : ({ kind := (k : Nat), flag := b } : Fr).Ok :=
  ⟨by show (-9223372036854775808 : Int) ≤ (k : Int); omega, by show (k : Int) < _; omega, okNone.id, okNone.a, okNone.b, okNone.code, okNone.data, okNone.ranges, okNone.tok⟩
theorem nextM_ok (s : St) (hb : ∀ x ∈ s.1, x < 256) : (nextM s).1.Ok ∧ ∀ x ∈ (nextM s).2.1, x < 256 := by
  have h1 := rdInt_mem s hb
  unfold nextM
  cases hd : (if (rdInt s).2.2 = 0 then kdM (kindM (rdInt s).1) else none) with
  | none => exact ⟨okNone, failSt_mem _ _ h1⟩
  | some d =>
    have hk : kdM (kindM (rdInt s).1) = some d := by
      by_cases h0 : (rdInt s).2.2 = 0
      · rwa [if_pos h0] at hd
      · rw [if_neg h0] at hd; cases hd
    have h2 := okStart (kindM (rdInt s).1) (d.flagged && decide ((rdInt s).1 % 2 = 1)) (by have := kdM_lt hk; omega)
    have h3 := readAll_ok (d.pf.parts (rdInt s).1) (({ kind := (kindM (rdInt s).1 : Nat), flag := d.flagged && decide ((rdInt s).1 % 2 = 1) } : Fr), (rdInt s).2) h2 h1
    have h4 := readAll_mem (d.pf.parts (rdInt s).1) (({ kind := (kindM (rdInt s).1 : Nat), flag := d.flagged && decide ((rdInt s).1 % 2 = 1) } : Fr), (rdInt s).2) h2 h1
    simp only
    split
    · exact ⟨h3, h4⟩
    · exact ⟨okNone, failSt_mem _ _ h4⟩
theorem loopP_ok : ∀ (n : Nat) (s : St) (l : List Fr), s.1.length ≤ n → (∀ x ∈ s.1, x < 256) → ∀ f ∈ (loopP l s).1, f ∈ l ∨ f.Ok
  | 0, s, l, h, _ => by
    have hs : s.1 = [] := List.eq_nil_of_length_eq_zero (by omega)
    rw [loopP_stop l s hs]
    exact fun f hf => .inl hf
  | n + 1, s, l, h, hb => by
    by_cases hs : s.1 = []
    · rw [loopP_stop l s hs]
      exact fun f hf => .inl hf
    · have hlt := nextM_less s hs
      have hok := nextM_ok s hb
      rw [loopP_on l s hs]
      intro f hf
      rcases loopP_ok n (nextM s).2 (stepP l (nextM s).1) (by omega) hok.2 f hf with h2 | h2
      · unfold stepP at h2
        split at h2
        · rcases List.mem_append.1 h2 with h3 | h3
          · exact .inl h3
          · obtain rfl : f = (nextM s).1 := by simpa using h3
            exact .inr hok.1
        · exact .inl h2
      · exact .inr h2
theorem parse_ok (b : List Nat) (hb : ∀ x ∈ b, x < 256) : ∀ f ∈ (parseM b).1, f.Ok := by
  intro f hf
  rw [parseM_eq b (loopP [] (b, 0)).1 (loopP [] (b, 0)).2 rfl] at hf
  split at hf
  · cases hf
  · split at hf
    · cases hf
    · rcases loopP_ok b.length (b, 0) [] (Nat.le_refl _) hb f hf with h2 | h2
      · cases h2
      · exact h2
/-- Where there is an error there are no frames. -/
theorem parse_err (b : List Nat) (h : (parseM b).2 ≠ 0) : (parseM b).1 = [] := by
  rw [parseM_eq b (loopP [] (b, 0)).1 (loopP [] (b, 0)).2 rfl] at h ⊢
  split at h
  · rename_i h1; rw [if_pos h1]
  · rename_i h1
    rw [if_neg h1]
    split at h
    · rename_i h2; rw [if_pos h2]
    · exact absurd rfl h
end Go.Proofs.YteojolbcmgchpaaDoor
