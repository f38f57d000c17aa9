/- Layer 5 (params), plain: the parts of parameters' bytes; any rotation of them is read again. -/
import Derived.Test.YtgdkfeifijkknaaDoorV5Back
namespace Go.Proofs.YtgdkfeifijkknaaDoor
open Go.RowKit

/-- The parameters that are not left out. -/
def kindsP (p : Pm) : List Pk := Pk.all.filter fun k => decide (valP k p ≠ [])
/-- Their bytes, each by itself. -/
def partsP (p : Pm) : List (List Nat) := (kindsP p).map (chunk p)
theorem chunks_skip (p : Pm) : ∀ l : List Pk, chunks p l = chunks p (l.filter fun k => decide (valP k p ≠ []))
  | [] => rfl
  | k :: l => by
    rw [chunks_cons, chunks_skip p l]
    by_cases hv : valP k p = []
    · have e : chunk p k = [] := by unfold chunk; rw [if_pos hv]
      rw [e, List.filter_cons_of_neg (by simp [hv])]
      rfl
    · rw [List.filter_cons_of_pos (by simp [hv]), chunks_cons]
theorem bytes_parts (p : Pm) : bytesP p = (partsP p).flatten := by
  rw [bytes_chunks, chunks_skip]
  rfl
theorem parts_len (p : Pm) : (partsP p).length ≤ 5 := by
  unfold partsP kindsP
  rw [List.length_map]
  exact List.length_filter_le _ _
/-- A part tells its own length. -/
theorem part_shape (p : Pm) (ht : p.tok.length = 16) (q : List Nat) (h : q ∈ partsP p) : ∃ c v, q = c :: v.length :: v ∧ v.length ≤ 16 := by
  unfold partsP kindsP at h
  obtain ⟨k, hk, rfl⟩ := List.mem_map.1 h
  have hv : valP k p ≠ [] := by simpa using (List.mem_filter.1 hk).2
  have hl := valP_len k p ht
  refine ⟨k.num, valP k p, ?_, hl⟩
  unfold chunk
  rw [if_neg hv, encI_small k.num (by cases k <;> decide), encI_small (valP k p).length (by omega)]
  rfl
theorem parts_rot (p : Pm) (hm : mayB p = true) (ht : p.tok.length = 16) (j : Nat) : readM ((partsP p).drop j ++ (partsP p).take j).flatten = (p, 0) := by
  have e : ((partsP p).drop j ++ (partsP p).take j).flatten = chunks p ((kindsP p).drop j ++ (kindsP p).take j) := by
    unfold partsP chunks
    rw [List.map_append, List.map_drop, List.map_take]
  rw [e]
  have hp : ((kindsP p).drop j ++ (kindsP p).take j).Perm (kindsP p) := by
    have h1 : ((kindsP p).drop j ++ (kindsP p).take j).Perm ((kindsP p).take j ++ (kindsP p).drop j) := List.perm_append_comm
    rwa [List.take_append_drop] at h1
  refine read_order p hm ht _ ?_ ?_
  · refine hp.nodup_iff.2 ?_
    unfold kindsP
    exact List.Pairwise.filter _ (show Pk.all.Nodup by decide)
  · intro k hv
    refine hp.mem_iff.2 ?_
    unfold kindsP
    exact List.mem_filter.2 ⟨all_mem k, by simpa using hv⟩
end Go.Proofs.YtgdkfeifijkknaaDoor
