/- Which arrays of bytes are the same, by '=='. -/
import Derived.Test.YtmimpodbmfmeiaaProg
import Derived.Test.YtmimpodbmfmeiaaBase
import Derived.Test.YtmimpodbmfmeiaaBytes
import Derived.ChangeKeysEq
namespace Go.Proofs.Ytmimpodbmfmeiaa
open Go.RowKit

theorem plainU8 : Try.prog.plainKey 5 = true := by kernel_rfl
theorem cellsU8h : Try.prog.cellsOf 5 = 1 := by kernel_rfl
theorem eqItems_u8h (d : Nat) (xs ys : List Nat) (w : World) : ∀ is : List Nat, (∀ i ∈ is, i < xs.length ∧ i < ys.length) →
    (Op.eqItems (d + 1) 5 1 (u8s xs).toArray (u8s ys).toArray is).run Try.prog w = .ok (is.all fun i => xs.getD i 0 == ys.getD i 0) w
  | [], _ => by simp [Op.eqItems]
  | i :: is, h => by
    have hi := h i (by simp)
    have h1 : (u8s xs).toArray[i * 1]? = some (.int .u8 ((xs.getD i 0 : Nat) : Int)) := by rw [Nat.mul_one, List.getElem?_toArray, u8s_get]; simp [hi.1, List.getD_eq_getElem?_getD]
    have h2 : (u8s ys).toArray[i * 1]? = some (.int .u8 ((ys.getD i 0 : Nat) : Int)) := by rw [Nat.mul_one, List.getElem?_toArray, u8s_get]; simp [hi.2, List.getD_eq_getElem?_getD]
    have ih := eqItems_u8h d xs ys w is (fun j hj => h j (by simp [hj]))
    simp only [Op.eqItems, Sem.run_bind, run_part_plain w plainU8 h1, run_part_plain w plainU8 h2, Result.andThen_ok, run_equalIn_int w d 5 .u8 .u8 _ _ Try.underlying5]
    rw [List.all_cons]
    have e : ((((xs.getD i 0 : Nat) : Int)) == ((ys.getD i 0 : Nat) : Int)) = (xs.getD i 0 == ys.getD i 0) := by rw [Bool.eq_iff_iff]; simp; omega
    rw [e]
    cases hb : (xs.getD i 0 == ys.getD i 0)
    · simp
    · simpa using ih

theorem arr_eql (t : TypeId) (n d : Nat) (hu : Try.prog.underlying t = some (.array n 5)) (xs ys : List Nat) (hx : xs.length = n) (hy : ys.length = n) (w : World) :
    (Op.equalIn (d + 2) t (.agg (u8s xs).toArray) (.agg (u8s ys).toArray)).run Try.prog w = .ok (decide (xs = ys)) w := by
  obtain ⟨i0, hi⟩ : ∃ i0, Try.prog.info? 5 = some i0 := by
    obtain ⟨i0, hi, _⟩ := info_parts info5; exact ⟨i0, hi⟩
  rw [show d + 2 = (d + 1) + 1 from rfl, run_equalIn_array w (d + 1) _ _ hu hi, cellsU8h, eqItems_u8h d xs ys w _ (fun i h => by have := List.mem_range.1 h; omega)]
  congr 1
  by_cases h : xs = ys
  · subst h; simp
  · rw [decide_eq_false h, Bool.eq_false_iff]
    intro hall
    apply h
    apply List.ext_getElem (by omega)
    intro j h1 h2
    have := List.all_eq_true.1 hall j (List.mem_range.2 (by omega))
    simpa [List.getD_eq_getElem?_getD, h1, h2] using this
end Go.Proofs.Ytmimpodbmfmeiaa
