/- Layer 8 (aes): the one byte by which a byte is 1. No program is named here. -/
import Derived.Test.YtbohpnbiemokpaaV8Math
namespace Go.Proofs.Ytbohpnbiemokpaa

/-- The last byte, of those up to n, by which a is 1. -/
def searchN (a : Nat) : Nat → Nat
  | 0 => 0
  | n + 1 => if mulN a (n + 1) = 1 then n + 1 else searchN a n
theorem search_inv {a : Nat} (ha : a < 256) : searchN a 255 = invN a := by
  have h : ((List.range 256).all fun a => searchN a 255 == invN a) = true := by decide +kernel
  simpa using List.all_eq_true.1 h a (by simpa using ha)
theorem searchN_lt (a : Nat) : ∀ n, n < 256 → searchN a n < 256
  | 0, _ => by simp [searchN]
  | n + 1, h => by
    rw [searchN]
    split
    · exact h
    · exact searchN_lt a n (by omega)
end Go.Proofs.Ytbohpnbiemokpaa
