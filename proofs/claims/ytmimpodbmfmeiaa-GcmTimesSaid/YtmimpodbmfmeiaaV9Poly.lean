/- Layer 9 (gcm), plain: a polynomial as two words of 64 bits. No program is named here. -/
import Derived.Test.YtmimpodbmfmeiaaV9Math
import Derived.Test.YtmimpodbmfmeiaaV9Bytes
import Derived.Test.YtmimpodbmfmeiaaBytes
namespace Go.Proofs.Ytmimpodbmfmeiaa

/-- The two words of a polynomial. -/
def fW (n : Nat) : Nat := ofB (fun k => n.testBit (63 - k)) 64
def lW (n : Nat) : Nat := ofB (fun k => n.testBit (127 - k)) 64
def pw (n : Nat) : List Value := [.int .u64 (fW n : Nat), .int .u64 (lW n : Nat)]
theorem pw_len (n : Nat) : (pw n).length = 2 := rfl
theorem fW_lt (n : Nat) : fW n < 2 ^ 64 := ofB_lt _ 64
theorem lW_lt (n : Nat) : lW n < 2 ^ 64 := ofB_lt _ 64
theorem fW_bit (n k : Nat) : (fW n).testBit k = (decide (k < 64) && n.testBit (63 - k)) := ofB_bit _ k 64
theorem lW_bit (n k : Nat) : (lW n).testBit k = (decide (k < 64) && n.testBit (127 - k)) := ofB_bit _ k 64
theorem fW_xor (m n : Nat) : fW (m ^^^ n) = fW m ^^^ fW n := by
  unfold fW
  rw [← ofB_xor]
  exact ofB_congr fun k _ => Nat.testBit_xor ..
theorem lW_xor (m n : Nat) : lW (m ^^^ n) = lW m ^^^ lW n := by
  unfold lW
  rw [← ofB_xor]
  exact ofB_congr fun k _ => Nat.testBit_xor ..
theorem fW_zero : fW 0 = 0 := by decide +kernel
theorem lW_zero : lW 0 = 0 := by decide +kernel

/-- Bytes as a number, bit by bit. -/
theorem foldB_bit (k : Nat) : ∀ (r : List Nat), (∀ x ∈ r, x < 256) → (foldB 0 r.reverse).testBit k = (r.getD (k / 8) 0).testBit (k % 8)
  | [], _ => by simp [foldB]
  | x :: r, h => by
    have ih := fun k => foldB_bit k r (fun y hy => h y (by simp [hy]))
    have hx : x < 2 ^ 8 := h x (by simp)
    rw [List.reverse_cons, foldB_snoc, Nat.mul_comm, show (256 : Nat) = 2 ^ 8 from rfl, Nat.testBit_two_pow_mul_add _ hx]
    split
    · rename_i hk
      rw [show k / 8 = 0 from by omega, show k % 8 = k from by omega]
      rfl
    · rename_i hk
      rw [foldB_bit (k - 8) r (fun y hy => h y (by simp [hy])), show k / 8 = (k - 8) / 8 + 1 from by omega, show (k - 8) % 8 = k % 8 from by omega]
      rfl
theorem foldB_bit8 (l : List Nat) (hl : l.length = 8) (h : ∀ x ∈ l, x < 256) (k : Nat) (hk : k < 64) : (foldB 0 l).testBit k = (l.getD (7 - k / 8) 0).testBit (k % 8) := by
  have := foldB_bit k l.reverse (fun x hx => h x (by simpa using hx))
  rw [List.reverse_reverse] at this
  rw [this]
  congr 1
  rw [List.getD_eq_getElem?_getD, List.getD_eq_getElem?_getD, List.getElem?_reverse (by omega), hl, show 8 - 1 - k / 8 = 7 - k / 8 from by omega]
theorem fW_pol (b : List Nat) (hb : b.length = 16) (h : ∀ x ∈ b, x < 256) : foldB 0 (b.take 8) = fW (polB b) := by
  refine (ofB_eq ?_ fun k hk => ?_).symm
  · have := foldB_lt (b.take 8) (fun x hx => h x (List.mem_of_mem_take hx)) 0 1 Nat.zero_lt_one
    rw [List.length_take, hb] at this
    simpa using this
  · rw [foldB_bit8 _ (by rw [List.length_take, hb]; rfl) (fun x hx => h x (List.mem_of_mem_take hx)) k hk, polB, ofB_bit, decide_eq_true (by omega), Bool.true_and, polBit, List.getD_eq_getElem?_getD, List.getD_eq_getElem?_getD, List.getElem?_take, if_pos (by omega)]
    rw [show (63 - k) / 8 = 7 - k / 8 from by omega, show 7 - (63 - k) % 8 = k % 8 from by omega]
theorem lW_pol (b : List Nat) (hb : b.length = 16) (h : ∀ x ∈ b, x < 256) : foldB 0 (b.drop 8) = lW (polB b) := by
  refine (ofB_eq ?_ fun k hk => ?_).symm
  · have := foldB_lt (b.drop 8) (fun x hx => h x (List.mem_of_mem_drop hx)) 0 1 Nat.zero_lt_one
    rw [List.length_drop, hb] at this
    simpa using this
  · rw [foldB_bit8 _ (by rw [List.length_drop, hb]) (fun x hx => h x (List.mem_of_mem_drop hx)) k hk, polB, ofB_bit, decide_eq_true (by omega), Bool.true_and, polBit, List.getD_eq_getElem?_getD, List.getD_eq_getElem?_getD, List.getElem?_drop]
    rw [show (127 - k) / 8 = 8 + (7 - k / 8) from by omega, show 7 - (127 - k) % 8 = k % 8 from by omega]
/-- Its bytes. -/
theorem byte_fW (n i : Nat) (h : i < 8) : fW n / 2 ^ (8 * (7 - i)) % 256 = byteN n i := by
  refine (ofB_eq (n := 8) (Nat.mod_lt _ (by decide)) fun k hk => ?_).symm
  rw [Nat.testBit_mod_two_pow, decide_eq_true hk, Bool.true_and, ← Nat.shiftRight_eq_div_pow, Nat.testBit_shiftRight, fW_bit, decide_eq_true (by omega), Bool.true_and]
  congr 1
  omega
theorem byte_lW (n i : Nat) (h : i < 8) : lW n / 2 ^ (8 * (7 - i)) % 256 = byteN n (8 + i) := by
  refine (ofB_eq (n := 8) (Nat.mod_lt _ (by decide)) fun k hk => ?_).symm
  rw [Nat.testBit_mod_two_pow, decide_eq_true hk, Bool.true_and, ← Nat.shiftRight_eq_div_pow, Nat.testBit_shiftRight, lW_bit, decide_eq_true (by omega), Bool.true_and]
  congr 1
  omega
/-- Once more times x. -/
theorem gD_bit (n i : Nat) (hi : i < 128) : (gD n).testBit i = ((decide (1 ≤ i) && n.testBit (i - 1)) ^^ (n.testBit 127 && Nat.testBit 135 i)) := by
  unfold gD
  rw [Nat.testBit_xor, Nat.testBit_mod_two_pow, decide_eq_true hi, Bool.true_and, show 2 * n = n <<< 1 from by rw [Nat.shiftLeft_eq, Nat.mul_comm], Nat.testBit_shiftLeft]
  congr 1
  cases n.testBit 127 <;> simp
theorem e1_bit : ∀ k, k < 64 → Nat.testBit (225 * 2 ^ 56) k = Nat.testBit 135 (63 - k) := by decide +kernel
theorem low_bit : ∀ k, k < 64 → Nat.testBit 135 (127 - k) = false := by decide +kernel
theorem fW_gD (n : Nat) : fW (gD n) = fW n / 2 ^^^ (if n.testBit 127 then 225 * 2 ^ 56 else 0) := by
  refine ofB_eq ?_ fun k hk => ?_
  · refine Nat.xor_lt_two_pow (Nat.lt_of_le_of_lt (Nat.div_le_self _ _) (fW_lt n)) ?_
    split <;> decide
  · rw [gD_bit _ _ (by omega), Nat.testBit_xor, show fW n / 2 = fW n >>> 1 from by rw [Nat.shiftRight_eq_div_pow], Nat.testBit_shiftRight, fW_bit]
    have e : (if n.testBit 127 = true then 225 * 2 ^ 56 else 0).testBit k = (n.testBit 127 && Nat.testBit 135 (63 - k)) := by
      cases n.testBit 127
      · simp
      · rw [if_pos rfl, e1_bit k hk]; simp
    rw [e]
    congr 1
    rw [show 63 - k - 1 = 63 - (1 + k) from by omega]
    congr 1
    rw [decide_eq_decide]; omega
theorem lW_gD (n : Nat) : lW (gD n) = lW n / 2 ||| fW n * 2 ^ 63 % 2 ^ 64 := by
  refine ofB_eq ?_ fun k hk => ?_
  · exact Nat.or_lt_two_pow (Nat.lt_of_le_of_lt (Nat.div_le_self _ _) (lW_lt n)) (Nat.mod_lt _ (Nat.two_pow_pos 64))
  · rw [gD_bit _ _ (by omega), low_bit k hk, Bool.and_false, Bool.xor_false, decide_eq_true (by omega), Bool.true_and, Nat.testBit_or, show lW n / 2 = lW n >>> 1 from by rw [Nat.shiftRight_eq_div_pow], Nat.testBit_shiftRight, lW_bit, Nat.testBit_mod_two_pow, decide_eq_true hk, Bool.true_and, ← Nat.shiftLeft_eq, Nat.testBit_shiftLeft, fW_bit]
    by_cases e : k = 63
    · subst e; simp
    · have h1 : decide (1 + k < 64) = true := decide_eq_true (by omega)
      have h2 : decide (63 ≤ k) = false := decide_eq_false (by omega)
      rw [h1, h2, Bool.true_and, Bool.false_and, Bool.or_false]
      congr 1
      omega
theorem lW_mod2 (n : Nat) : lW n % 2 = if n.testBit 127 then 1 else 0 := by
  have := lW_bit n 0
  rw [decide_eq_true (by decide), Bool.true_and, Nat.testBit_zero] at this
  rcases Nat.mod_two_eq_zero_or_one (lW n) with h | h
  · rw [h] at this ⊢
    rw [← this]; simp
  · rw [h] at this ⊢
    rw [← this]; simp
end Go.Proofs.Ytmimpodbmfmeiaa
