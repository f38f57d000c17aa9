/- Arrays of 16 bytes (a token): which are the same. -/
import Derived.Test.YtakoeamfmmbdiaaProg
import Derived.Test.YtakoeamfmmbdiaaFlat
import Derived.Test.YtakoeamfmmbdiaaBytes
import Derived.ChangeKeysEq
namespace Go.Proofs.Ytakoeamfmmbdiaa
open Go.RowKit

theorem plain5 : Try.prog.plainKey 5 = true := by kernel_rfl
theorem size5 : Try.prog.cellsOf 5 = 1 := by kernel_rfl

theorem eqItems_u8 (d : Nat) (xs ys : List Nat) (w : World) : ∀ is : List Nat, (∀ i ∈ is, i < xs.length ∧ i < ys.length) →
    (Op.eqItems (d + 1) 5 1 (u8s xs).toArray (u8s ys).toArray is).run Try.prog w = .ok (is.all fun i => xs.getD i 0 == ys.getD i 0) w
  | [], _ => by simp [Op.eqItems]
  | i :: is, h => by
    have hi := h i (by simp)
    have h1 : (u8s xs).toArray[i * 1]? = some (.int .u8 ((xs.getD i 0 : Nat) : Int)) := by rw [Nat.mul_one, List.getElem?_toArray, u8s_get]; simp [hi.1, List.getD_eq_getElem?_getD]
    have h2 : (u8s ys).toArray[i * 1]? = some (.int .u8 ((ys.getD i 0 : Nat) : Int)) := by rw [Nat.mul_one, List.getElem?_toArray, u8s_get]; simp [hi.2, List.getD_eq_getElem?_getD]
    have ih := eqItems_u8 d xs ys w is (fun j hj => h j (by simp [hj]))
    simp only [Op.eqItems, Sem.run_bind, run_part_plain w plain5 h1, run_part_plain w plain5 h2, Result.andThen_ok, run_equalIn_int w d 5 .u8 .u8 _ _ Try.underlying5]
    rw [List.all_cons]
    have e : ((((xs.getD i 0 : Nat) : Int)) == ((ys.getD i 0 : Nat) : Int)) = (xs.getD i 0 == ys.getD i 0) := by rw [Bool.eq_iff_iff]; simp; omega
    rw [e]
    cases hb : (xs.getD i 0 == ys.getD i 0)
    · simp
    · simpa using ih

theorem tok_eql (xs ys : List Nat) (hx : xs.length = 16) (hy : ys.length = 16) (w : World) :
    (Op.equalIn 10000 68 (.agg (u8s xs).toArray) (.agg (u8s ys).toArray)).run Try.prog w = .ok (decide (xs = ys)) w := by
  obtain ⟨i0, hi⟩ : ∃ i0, Try.prog.info? 5 = some i0 := by
    obtain ⟨i0, hi, _⟩ := info_parts info5; exact ⟨i0, hi⟩
  rw [show (10000 : Nat) = 9999 + 1 from rfl, run_equalIn_array w 9999 _ _ Try.underlying68 hi, size5, show (9999 : Nat) = 9998 + 1 from rfl, eqItems_u8 9998 xs ys w _ (fun i h => by have := List.mem_range.1 h; omega)]
  congr 1
  by_cases h : xs = ys
  · subst h; simp
  · rw [decide_eq_false h, Bool.eq_false_iff]
    intro hall
    apply h
    apply List.ext_getElem (by omega)
    intro j h1 h2
    have := List.all_eq_true.1 hall j (List.mem_range.2 (by omega))
    simpa [List.getD_eq_getElem?_getD, h1, h2] using this

theorem size25 : (Try.prog.info? 68).map (·.size) = some 16 := by kernel_rfl
end Go.Proofs.Ytakoeamfmmbdiaa
