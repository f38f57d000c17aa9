/- Layer 3 (frames), plain: bytes 0 are paddings. -/
import Derived.Test.YteojolbcmgchpaaDoorV3TwoM
namespace Go.Proofs.YteojolbcmgchpaaDoor
open Go.RowKit

/-- So many bytes 0, as a frame. -/
def fZ (m : Nat) : Fr := { a := m }
theorem rightZs (m : Nat) (h1 : 1 ≤ m) (h2 : m ≤ 1200) : rightB (fZ m) = true := by
  have hk : kdM (keyM 0) = some ⟨false, .list [.zeros], some 38⟩ := rfl
  show (match kdM (keyM 0) with | none => false | some d => hasB d (fZ m)) = true
  rw [hk]
  simp only [hasB, Bool.and_eq_true, decide_eq_true_eq]
  refine ⟨⟨by show (0 : Nat) ≤ _; omega, by show m ≤ _; omega, by show (0 : Nat) ≤ _; omega, by show (0 : Nat) ≤ _; omega⟩, rfl, ?_⟩
  show decide (1 ≤ m ∧ m ≤ 1200) = true
  simpa using ⟨h1, h2⟩
theorem okZ0 : ({} : Fr).Ok := by constructor <;> decide
theorem okZs (m : Nat) (h : m ≤ 1200) : (fZ m).Ok :=
  ⟨okZ0.k0, okZ0.k1, okZ0.id, by show m < _; omega, okZ0.b, okZ0.code, okZ0.data, okZ0.ranges, okZ0.tok⟩
theorem putZs (m : Nat) (h1 : 1 ≤ m) (h2 : m ≤ 1200) : putM (fZ m) = List.replicate m 0 := by
  have hk : kdM (keyM 0) = some ⟨false, .list [.zeros], some 38⟩ := rfl
  have he : encI 0 = [0] := by decide +kernel
  have ht : typM (fZ m) = 0 := by simp [typM, fZ]
  have hp : partsOf (fZ m) = [.zeros] := by
    show (match kdM (keyM 0) with | none => [] | some d => d.pf.parts (typM (fZ m))) = _
    rw [hk]
    rfl
  unfold putM
  rw [if_pos (rightZs m h1 h2), ht, he, hp]
  show [0] ++ (List.replicate (m - 1) 0 ++ []) = _
  rw [List.append_nil, List.singleton_append, ← List.replicate_succ, show m - 1 + 1 = m by omega]
theorem loop_zeros (l : List Fr) (k m : Nat) (h1 : 1 ≤ m) (h2 : m ≤ 1200) (hk : m ≤ k) (hz : m = 1200 ∨ m = k) : loopP l (List.replicate k 0, 0) = loopP (stepP l (fZ m)) (List.replicate (k - m) 0, 0) := by
  have h := loop_more (okZs m h2) rfl (Nat.zero_le _) (rightZs m h1 h2) l (List.replicate (k - m) 0) (fun _ => by
    rcases hz with h | h
    · exact .inl h
    · refine .inr ?_
      rw [h, Nat.sub_self]
      simp)
  rw [putZs m h1 h2, List.replicate_append_replicate, show m + (k - m) = k by omega] at h
  exact h
/-- How long the paddings of so many bytes 0 are. -/
def zL (k : Nat) : List Nat := if k ≤ 1200 then [k] else if k ≤ 2400 then [1200, k - 1200] else if k ≤ 3600 then [1200, 1200, k - 2400] else [1200, 1200, 1200, k - 3600]
theorem parse_zeros (k : Nat) (h1 : 1 ≤ k) (h2 : k ≤ 4000) : parseM (List.replicate k 0) = ((zL k).map fZ, 0) := by
  have h : loopP [] (List.replicate k 0, 0) = ((zL k).map fZ, ([], 0)) := by
    unfold zL
    by_cases a1 : k ≤ 1200
    · rw [if_pos a1, loop_zeros [] k k h1 a1 (Nat.le_refl _) (.inr rfl), Nat.sub_self, loopP_stop _ _ rfl]; rfl
    by_cases a2 : k ≤ 2400
    · rw [if_neg a1, if_pos a2, loop_zeros [] k 1200 (by decide) (by decide) (by omega) (.inl rfl), loop_zeros _ (k - 1200) (k - 1200) (by omega) (by omega) (Nat.le_refl _) (.inr rfl), Nat.sub_self, loopP_stop _ _ rfl]; rfl
    by_cases a3 : k ≤ 3600
    · rw [if_neg a1, if_neg a2, if_pos a3, loop_zeros [] k 1200 (by decide) (by decide) (by omega) (.inl rfl), loop_zeros _ (k - 1200) 1200 (by decide) (by decide) (by omega) (.inl rfl), show k - 1200 - 1200 = k - 2400 by omega, loop_zeros _ (k - 2400) (k - 2400) (by omega) (by omega) (Nat.le_refl _) (.inr rfl), Nat.sub_self, loopP_stop _ _ rfl]; rfl
    · rw [if_neg a1, if_neg a2, if_neg a3, loop_zeros [] k 1200 (by decide) (by decide) (by omega) (.inl rfl), loop_zeros _ (k - 1200) 1200 (by decide) (by decide) (by omega) (.inl rfl), show k - 1200 - 1200 = k - 2400 by omega, loop_zeros _ (k - 2400) 1200 (by decide) (by decide) (by omega) (.inl rfl), show k - 2400 - 1200 = k - 3600 by omega, loop_zeros _ (k - 3600) (k - 3600) (by omega) (by omega) (Nat.le_refl _) (.inr rfl), Nat.sub_self, loopP_stop _ _ rfl]; rfl
  rw [parseM_eq _ _ _ h]
  have hl : ((zL k).map fZ).length ≤ 4 ∧ 1 ≤ ((zL k).map fZ).length := by
    unfold zL
    split
    · exact ⟨by simp, by simp⟩
    · split
      · exact ⟨by simp, by simp⟩
      · split <;> exact ⟨by simp, by simp⟩
  rw [if_neg (by decide), if_neg (by omega)]
theorem zL_facts (k : Nat) (h1 : 1 ≤ k) (h2 : k ≤ 4000) : (zL k).length = (k + 1199) / 1200 ∧ (zL k).sum = k ∧ ∀ x ∈ zL k, x ≤ 1200 := by
  unfold zL
  split
  · refine ⟨by simp; omega, by simp, by simp; omega⟩
  · split
    · refine ⟨by simp; omega, by simp; omega, by simp; omega⟩
    · split
      · refine ⟨by simp; omega, by simp; omega, by simp; omega⟩
      · refine ⟨by simp; omega, by simp; omega, by simp; omega⟩
end Go.Proofs.YteojolbcmgchpaaDoor
