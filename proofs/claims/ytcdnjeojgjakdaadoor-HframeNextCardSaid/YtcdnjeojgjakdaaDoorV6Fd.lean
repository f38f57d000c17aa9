/- Layer 6 (hframe): fields told plainly, their cells; strings and their bytes. -/
import Derived.Test.YtcdnjeojgjakdaaDoorV6Hf
import Derived.Lib.ConvBytes
import Derived.Lib.AppendStr
namespace Go.Proofs.YtcdnjeojgjakdaaDoor
open Go.RowKit

/-- A string's bytes, as numbers. -/
def bs (s : ByteArray) : List Nat := s.data.toList.map UInt8.toNat
theorem bs_len (s : ByteArray) : (bs s).length = s.size := by
  unfold bs
  rw [List.length_map, Array.length_toList]
  rfl
theorem bs_lt (s : ByteArray) : ∀ x ∈ bs s, x < 256 := by
  intro x hx
  simp only [bs, List.mem_map] at hx
  obtain ⟨b, _, rfl⟩ := hx
  exact b.toNat_lt
theorem bs_cells (s : ByteArray) : Lib.strCells s = u8s (bs s) := by simp [Lib.strCells, u8s, bs]
/-- The string that bytes are. -/
def sb (l : List Nat) : ByteArray := strOfNums (l.map fun (x : Nat) => (x : Int))
theorem bs_sb (l : List Nat) (h : ∀ x ∈ l, x < 256) : bs (sb l) = l := by
  unfold bs sb
  rw [strOfNums_data, List.map_map, List.map_map]
  conv => rhs; rw [← List.map_id l]
  apply List.map_congr_left
  intro x hx
  have := h x hx
  simp [Nat.mod_eq_of_lt this]
theorem sb_bs (s : ByteArray) : sb (bs s) = s := by
  unfold sb bs
  rw [List.map_map]
  apply ByteArray.ext
  apply Array.toList_inj.1
  rw [strOfNums_data, List.map_map]
  conv => rhs; rw [← List.map_id s.data.toList]
  apply List.map_congr_left
  intro x _
  simp

/-- Fields' cells. -/
abbrev Fld := ByteArray × ByteArray
def fcells (l : List Fld) : List Value := l.flatMap fun x => [.string x.1, .string x.2]
theorem fcells_len (l : List Fld) : (fcells l).length = 2 * l.length := by
  induction l with
  | nil => rfl
  | cons a l ih => simp only [fcells, List.flatMap_cons, List.length_append, List.length_cons, List.length_nil] at ih ⊢; omega
def fld0 : Fld := (ByteArray.empty, ByteArray.empty)
theorem fcells_lo (l : List Fld) (i : Nat) (h : i < l.length) : (fcells l)[2 * i]? = some (.string (l.getD i fld0).1) := by
  induction l generalizing i with
  | nil => cases h
  | cons a l ih =>
    cases i with
    | zero => rfl
    | succ i =>
      have := ih i (by simpa using h)
      rw [show 2 * (i + 1) = 2 * i + 1 + 1 from by omega]
      simpa [fcells] using this
theorem fcells_hi (l : List Fld) (i : Nat) (h : i < l.length) : (fcells l)[2 * i + 1]? = some (.string (l.getD i fld0).2) := by
  induction l generalizing i with
  | nil => cases h
  | cons a l ih =>
    cases i with
    | zero => rfl
    | succ i =>
      have := ih i (by simpa using h)
      rw [show 2 * (i + 1) + 1 = 2 * i + 1 + 1 + 1 from by omega]
      simpa [fcells] using this
theorem fcells_append (l m : List Fld) : fcells (l ++ m) = fcells l ++ fcells m := by simp [fcells]
theorem fcells_one (l : List Fld) : ∀ u ∈ fcells l, u.oneCell' = true := by
  intro u hu
  simp only [fcells, List.mem_flatMap, List.mem_cons, List.not_mem_nil, or_false] at hu
  obtain ⟨x, _, rfl | rfl⟩ := hu <;> rfl
/-- Fields in view: where each one lies. -/
theorem View.flds {w : World} {T : Nat → Prop} {A : Option Addr} {l : List Fld} (h : View w T A (2 * l.length) (fcells l)) (h0 : 0 < l.length) :
    ∃ b o, A = some ⟨b, o, none⟩ ∧ b < w.heap.size ∧ T b ∧ ∀ i, i < l.length → w.cell? ⟨b, o + i * 2, none⟩ = some (.string (l.getD i fld0).1) ∧ w.cell? ⟨b, o + i * 2 + 1, none⟩ = some (.string (l.getD i fld0).2) := by
  obtain ⟨b, o, ha, hb, ht, hc⟩ := h.2 (by omega)
  refine ⟨b, o, ha, hb, ht, fun i hi => ⟨?_, ?_⟩⟩
  · rw [Nat.mul_comm i 2, hc (2 * i) (by omega)]; exact fcells_lo l i hi
  · rw [Nat.mul_comm i 2, Nat.add_assoc, hc (2 * i + 1) (by omega)]; exact fcells_hi l i hi

/-! What is right. -/
def capN (x : Nat) : Bool := decide (65 ≤ x ∧ x ≤ 90)
def wrongF (x : Fld) : Bool := decide (x.1.size < 1 ∨ 60 < x.1.size) || ((bs x.1).any capN || decide (200 < x.2.size))
def fieldsB (l : List Fld) : Bool := decide (l.length ≤ 32) && !(l.any wrongF)
/-- A field's bytes, a section's. -/
def textE (s : ByteArray) : List Nat := encI s.size ++ bs s
def chunkF (x : Fld) : List Nat := 32 :: (textE x.1 ++ textE x.2)
def packE (l : List Fld) : List Nat := l.flatMap chunkF
def packH (l : List Fld) : List Nat := if fieldsB l then packE l else []
/-! What is read. -/
def readF (s : St) : Fld × St :=
  let b := rdByte s
  let s1 := if b.1 ≠ 32 then failSt 3 b.2 else b.2
  let n := rdInt s1
  let name := rdBytes n.1 n.2
  let m := rdInt name.2
  let val := rdBytes m.1 m.2
  ((sb name.1, sb val.1), val.2)
theorem rdInt_le (s : St) : (rdInt s).2.1.length ≤ s.1.length := by
  unfold rdInt
  split
  · simp
  · split
    · simp
    · rename_i f r hs
      rw [hs]
      split
      · simp; omega
      · simp
theorem rdBytes_le (n : Nat) (s : St) : (rdBytes n s).2.1.length ≤ s.1.length := by
  unfold rdBytes
  split
  · simp
  · split
    · simp
    · simp
theorem rdByte_lt (s : St) (h : s.1 ≠ []) : (rdByte s).2.1.length < s.1.length := by
  obtain ⟨l, b⟩ := s
  cases l with
  | nil => exact absurd rfl h
  | cons x l => unfold rdByte; split <;> simp
theorem failSt_le (e : Int) (s : St) : (failSt e s).1.length ≤ s.1.length := by
  unfold failSt
  split <;> simp
theorem readF_lt (s : St) (h : s.1 ≠ []) : (readF s).2.1.length < s.1.length := by
  have h1 := rdByte_lt s h
  have h2 : (if (rdByte s).1 ≠ 32 then failSt 3 (rdByte s).2 else (rdByte s).2).1.length ≤ (rdByte s).2.1.length := by
    split
    · exact failSt_le _ _
    · exact Nat.le_refl _
  simp only [readF]
  generalize (if (rdByte s).1 ≠ 32 then failSt 3 (rdByte s).2 else (rdByte s).2) = s1 at h2 ⊢
  exact Nat.lt_of_le_of_lt (Nat.le_trans (rdBytes_le _ _) (Nat.le_trans (rdInt_le _) (Nat.le_trans (rdBytes_le _ _) (Nat.le_trans (rdInt_le _) h2)))) h1
def stepU (l : List Fld) (f : Fld) : List Fld := if l.length ≤ 32 then l ++ [f] else l
def loopU (l : List Fld) (s : St) : List Fld × St :=
  if _h : s.1 = [] then (l, s) else loopU (stepU l (readF s).1) (readF s).2
termination_by s.1.length
decreasing_by exact readF_lt s _h
def unpackH (b : List Nat) : List Fld × Int :=
  let r := loopU [] (b, 0)
  let s := if fieldsB r.1 then r.2 else failSt 3 r.2
  if s.2 ≠ 0 then ([], s.2) else (r.1, 0)
end Go.Proofs.YtcdnjeojgjakdaaDoor
