/- Layer 7 (hash): which digests are the same, by '=='. -/
import Derived.Test.YtodcjcpbigggfaaDoorV7Digest
import Derived.Test.YtodcjcpbigggfaaDoorEqTake
import Derived.ChangeKeysEq
namespace Go.Proofs.YtodcjcpbigggfaaDoor
open Go.RowKit

theorem plainU8 : Tryd.prog.plainKey 5 = true := by kernel_rfl
theorem cellsU8h : Tryd.prog.cellsOf 5 = 1 := by kernel_rfl

theorem eqItems_u8h (d : Nat) (xs ys : List Nat) (w : World) : ∀ is : List Nat, (∀ i ∈ is, i < xs.length ∧ i < ys.length) →
    (Op.eqItems (d + 1) 5 1 (u8s xs).toArray (u8s ys).toArray is).run Tryd.prog w = .ok (is.all fun i => xs.getD i 0 == ys.getD i 0) w
  | [], _ => by simp [Op.eqItems]
  | i :: is, h => by
    have hi := h i (by simp)
    have h1 : (u8s xs).toArray[i * 1]? = some (.int .u8 ((xs.getD i 0 : Nat) : Int)) := by rw [Nat.mul_one, List.getElem?_toArray, u8s_get]; simp [hi.1, List.getD_eq_getElem?_getD]
    have h2 : (u8s ys).toArray[i * 1]? = some (.int .u8 ((ys.getD i 0 : Nat) : Int)) := by rw [Nat.mul_one, List.getElem?_toArray, u8s_get]; simp [hi.2, List.getD_eq_getElem?_getD]
    have ih := eqItems_u8h d xs ys w is (fun j hj => h j (by simp [hj]))
    simp only [Op.eqItems, Sem.run_bind, run_part_plain w plainU8 h1, run_part_plain w plainU8 h2, Result.andThen_ok, run_equalIn_int w d 5 .u8 .u8 _ _ Tryd.underlying5]
    rw [List.all_cons]
    have e : ((((xs.getD i 0 : Nat) : Int)) == ((ys.getD i 0 : Nat) : Int)) = (xs.getD i 0 == ys.getD i 0) := by rw [Bool.eq_iff_iff]; simp; omega
    rw [e]
    cases hb : (xs.getD i 0 == ys.getD i 0)
    · simp
    · simpa using ih

theorem hash_eql (xs ys : List Nat) (hx : xs.length = 32) (hy : ys.length = 32) (w : World) :
    (Op.equalIn 10000 25 (.agg (u8s xs).toArray) (.agg (u8s ys).toArray)).run Tryd.prog w = .ok (decide (xs = ys)) w := by
  obtain ⟨i0, hi⟩ : ∃ i0, Tryd.prog.info? 5 = some i0 := by
    obtain ⟨i0, hi, _⟩ := info_parts info5; exact ⟨i0, hi⟩
  rw [show (10000 : Nat) = 9999 + 1 from rfl, run_equalIn_array w 9999 _ _ Tryd.underlying25 hi, cellsU8h, show (9999 : Nat) = 9998 + 1 from rfl, eqItems_u8h 9998 xs ys w _ (fun i h => by have := List.mem_range.1 h; omega)]
  congr 1
  by_cases h : xs = ys
  · subst h; simp
  · rw [decide_eq_false h, Bool.eq_false_iff]
    intro hall
    apply h
    apply List.ext_getElem (by omega)
    intro j h1 h2
    have := List.all_eq_true.1 hall j (List.mem_range.2 (by omega))
    simpa [List.getD_eq_getElem?_getD, h1, h2] using this

/-- '==' of two digests that are the same. -/
theorem hash_refl (xs : List Nat) (hx : xs.length = 32) (w : World) : (Op.equalIn 10000 25 (.agg (u8s xs).toArray) (.agg (u8s xs).toArray)).run Tryd.prog w = .ok true w := by
  have := hash_eql xs xs hx hx w
  rwa [decide_eq_true rfl] at this
section
variable {ops : Array Oper} {rest : List Oper} {o : Oper} {a : Act} {w : World} {Q : Exit → Act → World → Prop}
theorem wpList_hash_eq (hw : Region.wanted o (yielded ops a.tmps) = true) (x y : Operand) {R : TypeId} (ho : o.op = .binOp .eql 25 x y R) (xs : List Nat) (hl : xs.length = 32) (hx : a.eval x = .agg (u8s xs).toArray) (hy : a.eval y = .agg (u8s xs).toArray)
    (k : wpList Tryd.prog ops Q rest (a.put o.dst (.bool true)) w) : wpList Tryd.prog ops Q (o :: rest) a w :=
  BigFrame.wpList_want hw fun _ hK => by
    have hg := run_eqGuard_agg (P := Tryd.prog) w .eql 25 x y (u8s xs).toArray (u8s xs).toArray Tryd.eqGuardType25
    have hh : (Op.equal 25 (.agg (u8s xs).toArray) (.agg (u8s xs).toArray)).run Tryd.prog w = .ok true w := hash_refl xs hl w
    unfold Oper.wp execOp
    simp only [ho, hx, hy, Sem.run_bind, Sem.run_pure, Result.andThen_ok, hg, binOp, hh]
    exact hK _ _ k
end
end Go.Proofs.YtodcjcpbigggfaaDoor
