/- Layer 11 (ticks): the numbers alone: bits that are set, powers, sums that saturate, buckets. -/
import Derived.Test.YtakoeamfmmbdiaaBase
namespace Go.Proofs.Ytakoeamfmmbdiaa

/-! ## bits that are set -/

/-- How many bits of a number are set. -/
def onesN (n : Nat) : Nat := if n = 0 then 0 else n % 2 + onesN (n / 2)
termination_by n
decreasing_by omega

theorem onesN_zero : onesN 0 = 0 := by rw [onesN]; simp
theorem onesN_step (n : Nat) : onesN n = n % 2 + onesN (n / 2) := by
  by_cases h : n = 0
  · subst h; simp [onesN_zero]
  · rw [onesN, if_neg h]

theorem onesN_pos (n : Nat) (h : 0 < n) : 0 < onesN n := by
  induction n using Nat.strongRecOn with
  | _ n ih =>
    rw [onesN_step]
    by_cases h2 : n % 2 = 1
    · omega
    · have := ih (n / 2) (by omega) (by omega)
      omega

/-- A power of two. -/
def isPow (n : Nat) : Bool := onesN n == 1

theorem isPow_half (n : Nat) (_h1 : 1 < n) (h2 : n % 2 = 0) : isPow n = isPow (n / 2) := by
  unfold isPow
  rw [onesN_step n, h2, Nat.zero_add]

theorem isPow_end (n : Nat) (h : ¬ (1 < n ∧ n % 2 = 0)) : isPow n = (n == 1) := by
  unfold isPow
  by_cases h0 : n = 0
  · subst h0; rw [onesN_zero]
  by_cases h1 : n = 1
  · subst h1; rw [onesN_step, show 1 / 2 = 0 from rfl, onesN_zero]
  have h2 : n % 2 = 1 := by omega
  have := onesN_pos (n / 2) (by omega)
  rw [onesN_step, h2]
  have e1 : (1 + onesN (n / 2) == 1) = false := by rw [beq_eq_false_iff_ne]; omega
  have e2 : (n == 1) = false := by rw [beq_eq_false_iff_ne]; omega
  rw [e1, e2]

theorem isPow_pow (k : Nat) : isPow (2 ^ k) = true := by
  induction k with
  | zero => rw [isPow_end _ (by omega)]; rfl
  | succ k ih =>
    have hp := Nat.two_pow_pos k
    rw [isPow_half _ (by rw [Nat.pow_succ]; omega) (by rw [Nat.pow_succ]; omega), Nat.pow_succ, Nat.mul_div_cancel _ (by omega), ih]

theorem pow_of_isPow (n : Nat) (h : isPow n = true) : ∃ k, n = 2 ^ k := by
  induction n using Nat.strongRecOn with
  | _ n ih =>
    by_cases hc : 1 < n ∧ n % 2 = 0
    · rw [isPow_half n hc.1 hc.2] at h
      obtain ⟨k, hk⟩ := ih (n / 2) (by omega) h
      exact ⟨k + 1, by rw [Nat.pow_succ]; omega⟩
    · rw [isPow_end n hc, beq_iff_eq] at h
      exact ⟨0, h⟩

/-- A byte's bits, and those of the bytes behind it. -/
theorem onesN_byte (n : Nat) : onesN n = onesN (n % 256) + onesN (n / 256) := by
  have e (m : Nat) : onesN (m / 2) = m / 2 % 2 + onesN (m / 4) := by rw [onesN_step (m / 2), Nat.div_div_eq_div_mul]
  have e8 (m : Nat) : onesN m = m % 2 + (m / 2 % 2 + (m / 4 % 2 + (m / 8 % 2 + (m / 16 % 2 + (m / 32 % 2 + (m / 64 % 2 + (m / 128 % 2 + onesN (m / 256)))))))) := by
    rw [onesN_step m, onesN_step (m / 2), Nat.div_div_eq_div_mul, onesN_step (m / (2 * 2)), Nat.div_div_eq_div_mul, onesN_step (m / (2 * 2 * 2)), Nat.div_div_eq_div_mul, onesN_step (m / (2 * 2 * 2 * 2)), Nat.div_div_eq_div_mul, onesN_step (m / (2 * 2 * 2 * 2 * 2)), Nat.div_div_eq_div_mul,
      onesN_step (m / (2 * 2 * 2 * 2 * 2 * 2)), Nat.div_div_eq_div_mul, onesN_step (m / (2 * 2 * 2 * 2 * 2 * 2 * 2)), Nat.div_div_eq_div_mul]
  rw [e8 n, e8 (n % 256), show n % 256 / 256 = 0 by omega, onesN_zero]
  omega

/-! ### of 64 bits, as math/bits reckons them -/

def sw1 (x : Nat) : Nat := (x / 2 &&& 6148914691236517205) + (x &&& 6148914691236517205)
def sw2 (x : Nat) : Nat := (x / 4 &&& 3689348814741910323) + (x &&& 3689348814741910323)
def sw3 (x : Nat) : Nat := (x / 16 + x) &&& 1085102592571150095

/-- Masks of so many bytes. -/
def mk5 : Nat → Nat | 0 => 0 | n + 1 => 85 + 256 * mk5 n
def mk3 : Nat → Nat | 0 => 0 | n + 1 => 51 + 256 * mk3 n
def mkf : Nat → Nat | 0 => 0 | n + 1 => 15 + 256 * mkf n

/-- The bytes' counts. -/
def cntB : Nat → Nat → Nat
  | 0, _ => 0
  | n + 1, x => onesN (x % 256) + 256 * cntB n (x / 256)

/-- In between, by bytes: pairs and fours of bits. -/
def b1 (b : Nat) : Nat := (b / 2 &&& 85) + (b &&& 85)
def b2 (b : Nat) : Nat := (b1 b / 4 &&& 51) + (b1 b &&& 51)
def twos : Nat → Nat → Nat
  | 0, _ => 0
  | n + 1, x => b1 (x % 256) + 256 * twos n (x / 256)
def fours : Nat → Nat → Nat
  | 0, _ => 0
  | n + 1, x => b2 (x % 256) + 256 * fours n (x / 256)

theorem and_byte (a b m M : Nat) (ha : a < 256) (hm : m < 256) : (a + 256 * b) &&& (m + 256 * M) = (a &&& m) + 256 * (b &&& M) := by
  have hlt : (a &&& m) < 2 ^ 8 := Nat.and_lt_two_pow a (by omega)
  apply Nat.eq_of_testBit_eq
  intro i
  rw [Nat.add_comm a, Nat.add_comm m, Nat.add_comm (a &&& m), show 256 = 2 ^ 8 from rfl, Nat.testBit_and, Nat.testBit_two_pow_mul_add _ ha, Nat.testBit_two_pow_mul_add _ hm, Nat.testBit_two_pow_mul_add _ hlt]
  split <;> simp [Nat.testBit_and]

theorem b1_half : ∀ b : Fin 256, ∀ t : Fin 2, ((b.val / 2 + 128 * t.val) &&& 85) = (b.val / 2 &&& 85) := by decide +kernel
theorem b1_lt : ∀ b : Fin 256, b1 b.val < 256 := by decide +kernel
theorem b2_half : ∀ b : Fin 256, ∀ t : Fin 4, ((b1 b.val / 4 + 64 * t.val) &&& 51) = (b1 b.val / 4 &&& 51) := by decide +kernel
theorem b2_lt : ∀ b : Fin 256, b2 b.val % 16 ≤ 4 ∧ b2 b.val / 16 ≤ 4 := by decide +kernel

theorem twos_of (n : Nat) : ∀ x, x < 256 ^ n → (x / 2 &&& mk5 n) + (x &&& mk5 n) = twos n x := by
  induction n with
  | zero => intro x _; simp [mk5, twos]
  | succ n ih =>
    intro x hx
    have hx' : x / 256 < 256 ^ n := by rw [Nat.pow_succ] at hx; omega
    have e1 : x / 2 = (x % 256 / 2 + 128 * (x / 256 % 2)) + 256 * (x / 256 / 2) := by omega
    have hb := b1_half ⟨x % 256, by omega⟩ ⟨x / 256 % 2, by omega⟩
    have key := ih (x / 256) hx'
    have h1 : x / 2 &&& mk5 (n + 1) = (x % 256 / 2 &&& 85) + 256 * (x / 256 / 2 &&& mk5 n) := by
      rw [e1, mk5, and_byte _ _ _ _ (by omega) (by omega), hb]
    have h2 : x &&& mk5 (n + 1) = (x % 256 &&& 85) + 256 * (x / 256 &&& mk5 n) := by
      conv => lhs; rw [show x = x % 256 + 256 * (x / 256) by omega, mk5, and_byte _ _ _ _ (by omega) (by omega)]
    rw [h1, h2, twos, ← key, b1]
    omega

theorem twos_mod4 (n x : Nat) : twos n x % 4 < 4 := by omega

theorem fours_of (n : Nat) : ∀ x, x < 256 ^ n → (twos n x / 4 &&& mk3 n) + (twos n x &&& mk3 n) = fours n x := by
  induction n with
  | zero => intro x _; simp [mk3, twos, fours]
  | succ n ih =>
    intro x hx
    have hx' : x / 256 < 256 ^ n := by rw [Nat.pow_succ] at hx; omega
    have hl := b1_lt ⟨x % 256, by omega⟩
    simp only at hl
    have e1 : twos (n + 1) x / 4 = (b1 (x % 256) / 4 + 64 * (twos n (x / 256) % 4)) + 256 * (twos n (x / 256) / 4) := by rw [twos]; omega
    have hb := b2_half ⟨x % 256, by omega⟩ ⟨twos n (x / 256) % 4, by omega⟩
    have key := ih (x / 256) hx'
    have h1 : twos (n + 1) x / 4 &&& mk3 (n + 1) = (b1 (x % 256) / 4 &&& 51) + 256 * (twos n (x / 256) / 4 &&& mk3 n) := by
      rw [e1, mk3, and_byte _ _ _ _ (by omega) (by omega), hb]
    have h2 : twos (n + 1) x &&& mk3 (n + 1) = (b1 (x % 256) &&& 51) + 256 * (twos n (x / 256) &&& mk3 n) := by
      rw [twos, mk3, and_byte _ _ _ _ (by omega) (by omega)]
    rw [h1, h2, fours, ← key, b2]
    omega

theorem ones_b2 : ∀ b : Fin 256, ((b2 b.val / 16 + b2 b.val) &&& 15) = b2 b.val / 16 + b2 b.val % 16 := by decide +kernel
theorem ones_b2t : ∀ b : Fin 256, ∀ t : Fin 5, ((b2 b.val / 16 + b2 b.val + 16 * t.val) &&& 15) = b2 b.val / 16 + b2 b.val % 16 := by decide +kernel

/-- A byte's bits, one by one. -/
theorem onesN_lt256 (b : Nat) (h : b < 256) : onesN b = b % 2 + (b / 2 % 2 + (b / 4 % 2 + (b / 8 % 2 + (b / 16 % 2 + (b / 32 % 2 + (b / 64 % 2 + b / 128 % 2)))))) := by
  rw [onesN_step b, onesN_step (b / 2), Nat.div_div_eq_div_mul, onesN_step (b / (2 * 2)), Nat.div_div_eq_div_mul, onesN_step (b / (2 * 2 * 2)), Nat.div_div_eq_div_mul, onesN_step (b / (2 * 2 * 2 * 2)), Nat.div_div_eq_div_mul, onesN_step (b / (2 * 2 * 2 * 2 * 2)), Nat.div_div_eq_div_mul,
      onesN_step (b / (2 * 2 * 2 * 2 * 2 * 2)), Nat.div_div_eq_div_mul, onesN_step (b / (2 * 2 * 2 * 2 * 2 * 2 * 2)), Nat.div_div_eq_div_mul, show b / (2 * 2 * 2 * 2 * 2 * 2 * 2 * 2) = 0 by omega, onesN_zero]
  omega

theorem b2_bits : ∀ b : Fin 256, b2 b.val / 16 + b2 b.val % 16 = b.val % 2 + (b.val / 2 % 2 + (b.val / 4 % 2 + (b.val / 8 % 2 + (b.val / 16 % 2 + (b.val / 32 % 2 + (b.val / 64 % 2 + b.val / 128 % 2)))))) := by decide +kernel

theorem fours_mod (n x : Nat) : fours n x % 16 ≤ 4 := by
  cases n with
  | zero => simp [fours]
  | succ n =>
    have := b2_lt ⟨x % 256, by omega⟩
    simp only at this
    rw [fours]
    omega

theorem cnt_of (n : Nat) : ∀ x, x < 256 ^ n → (fours n x / 16 + fours n x) &&& mkf n = cntB n x := by
  induction n with
  | zero => intro x _; simp [mkf, cntB]
  | succ n ih =>
    intro x hx
    have hx' : x / 256 < 256 ^ n := by rw [Nat.pow_succ] at hx; omega
    have hl := b2_lt ⟨x % 256, by omega⟩
    simp only at hl
    have hm := fours_mod n (x / 256)
    have hb := ones_b2t ⟨x % 256, by omega⟩ ⟨fours n (x / 256) % 16, by omega⟩
    simp only at hb
    have key := ih (x / 256) hx'
    have e1 : fours (n + 1) x / 16 + fours (n + 1) x = (b2 (x % 256) / 16 + b2 (x % 256) + 16 * (fours n (x / 256) % 16)) + 256 * (fours n (x / 256) / 16 + fours n (x / 256)) := by rw [fours]; omega
    have hc := b2_bits ⟨x % 256, by omega⟩
    simp only at hc
    rw [e1, mkf, and_byte _ _ _ _ (by omega) (by omega), hb, key, cntB, hc, ← onesN_lt256 _ (by omega)]

theorem onesN_le8 (b : Nat) (h : b < 256) : onesN b ≤ 8 := by
  rw [onesN_lt256 b h]; omega

theorem sw3_cnt (x : Nat) (h : x < 18446744073709551616) : sw3 (sw2 (sw1 x)) = cntB 8 x := by
  have hx : x < 256 ^ 8 := by omega
  have e1 := twos_of 8 x hx
  have e2 := fours_of 8 x hx
  have e3 := cnt_of 8 x hx
  have h5 : mk5 8 = 6148914691236517205 := by decide
  have h3 : mk3 8 = 3689348814741910323 := by decide
  have hf : mkf 8 = 1085102592571150095 := by decide
  rw [h5] at e1
  rw [h3] at e2
  rw [hf] at e3
  unfold sw3 sw2 sw1
  rw [e1, e2, e3]

theorem div_of (x r q k : Nat) (hx : x = r + k * q) (hr : r < k) : x / k = q := by
  subst hx
  rw [Nat.add_mul_div_left _ _ (by omega), Nat.div_eq_of_lt hr, Nat.zero_add]

theorem dig1 (p0 p1 p2 p3 p4 p5 p6 p7 : Nat) (a0 : p0 ≤ 8)
    (y y1 : Nat) (hy : y = p0 + 256 * (p1 + 256 * (p2 + 256 * (p3 + 256 * (p4 + 256 * (p5 + 256 * (p6 + 256 * (p7 + 256 * 0))))))))
    (h1 : y1 = y + y / 256) :
    y1 = (p0 + p1) + 256 * (p1 + p2) + 65536 * (p2 + p3) + 16777216 * (p3 + p4) + 4294967296 * (p4 + p5) + 1099511627776 * (p5 + p6) + 281474976710656 * (p6 + p7) + 72057594037927936 * p7 := by
  have q1 : y / 256 = p1 + 256 * p2 + 65536 * p3 + 16777216 * p4 + 4294967296 * p5 + 1099511627776 * p6 + 281474976710656 * p7 := div_of y p0 _ 256 (by clear h1; omega) (by clear h1 hy; omega)
  rw [q1] at h1
  clear q1
  omega

theorem dig2 (d0 d1 d2 d3 d4 d5 d6 d7 : Nat) (a0 : d0 ≤ 16) (a1 : d1 ≤ 16) (y1 y2 : Nat)
    (hy : y1 = d0 + 256 * d1 + 65536 * d2 + 16777216 * d3 + 4294967296 * d4 + 1099511627776 * d5 + 281474976710656 * d6 + 72057594037927936 * d7) (h2 : y2 = y1 + y1 / 65536) :
    y2 = (d0 + d2) + 256 * (d1 + d3) + 65536 * (d2 + d4) + 16777216 * (d3 + d5) + 4294967296 * (d4 + d6) + 1099511627776 * (d5 + d7) + 281474976710656 * d6 + 72057594037927936 * d7 := by
  have q2 : y1 / 65536 = d2 + 256 * d3 + 65536 * d4 + 16777216 * d5 + 4294967296 * d6 + 1099511627776 * d7 := div_of y1 (d0 + 256 * d1) _ 65536 (by clear h2; omega) (by clear h2 hy; omega)
  rw [q2] at h2
  clear q2
  omega

theorem dig3 (d0 d1 d2 d3 d4 d5 d6 d7 : Nat) (a0 : d0 ≤ 32) (a1 : d1 ≤ 32) (a2 : d2 ≤ 32) (a3 : d3 ≤ 32) (y2 y3 : Nat)
    (hy : y2 = d0 + 256 * d1 + 65536 * d2 + 16777216 * d3 + 4294967296 * d4 + 1099511627776 * d5 + 281474976710656 * d6 + 72057594037927936 * d7) (h3 : y3 = y2 + y2 / 4294967296) :
    y3 = (d0 + d4) + 128 * (2 * (d1 + d5) + 512 * (d2 + d6) + 131072 * (d3 + d7) + 33554432 * d4 + 8589934592 * d5 + 2199023255552 * d6 + 562949953421312 * d7) := by
  have q3 : y2 / 4294967296 = d4 + 256 * d5 + 65536 * d6 + 16777216 * d7 := div_of y2 (d0 + 256 * d1 + 65536 * d2 + 16777216 * d3) _ 4294967296 (by clear h3; omega) (by clear h3 hy; omega)
  rw [q3] at h3
  clear q3
  omega

theorem cnt_digits (p0 p1 p2 p3 p4 p5 p6 p7 : Nat) (a0 : p0 ≤ 8) (a1 : p1 ≤ 8) (a2 : p2 ≤ 8) (a3 : p3 ≤ 8) (a4 : p4 ≤ 8) (a5 : p5 ≤ 8) (a6 : p6 ≤ 8) (a7 : p7 ≤ 8)
    (y y1 y2 y3 : Nat) (hy : y = p0 + 256 * (p1 + 256 * (p2 + 256 * (p3 + 256 * (p4 + 256 * (p5 + 256 * (p6 + 256 * (p7 + 256 * 0))))))))
    (h1 : y1 = y + y / 256) (h2 : y2 = y1 + y1 / 65536) (h3 : y3 = y2 + y2 / 4294967296) :
    y3 % 128 = p0 + (p1 + (p2 + (p3 + (p4 + (p5 + (p6 + p7)))))) ∧ y1 < 18446744073709551616 ∧ y2 < 18446744073709551616 ∧ y3 < 9223372036854775808 := by
  have f1 := dig1 p0 p1 p2 p3 p4 p5 p6 p7 a0 y y1 hy h1
  clear h1 hy
  have f2 := dig2 _ _ _ _ _ _ _ _ (by clear h2 h3; omega) (by clear h2 h3; omega) y1 y2 f1 h2
  have g1 : y1 < 18446744073709551616 := by clear h2 h3 f2; omega
  clear h2 f1
  have f3 := dig3 _ _ _ _ _ _ _ _ (by clear h3; omega) (by clear h3; omega) (by clear h3; omega) (by clear h3; omega) y2 y3 f2 h3
  have g2 : y2 < 18446744073709551616 := by clear h3 f3; omega
  clear h3 f2
  refine ⟨?_, g1, g2, by omega⟩
  rw [f3, Nat.add_mul_mod_self_left, Nat.mod_eq_of_lt (by clear f3; omega)]
  clear f3
  omega

/-- The bytes' counts, added up: the last seven bits. -/
theorem cnt_sum (x : Nat) (h : x < 18446744073709551616) (y1 y2 y3 : Nat)
    (h1 : y1 = cntB 8 x + cntB 8 x / 256) (h2 : y2 = y1 + y1 / 65536) (h3 : y3 = y2 + y2 / 4294967296) :
    y3 % 128 = onesN x ∧ y1 < 18446744073709551616 ∧ y2 < 18446744073709551616 ∧ y3 < 9223372036854775808 := by
  have a0 := onesN_le8 (x % 256) (by omega)
  have a1 := onesN_le8 (x / 256 % 256) (by omega)
  have a2 := onesN_le8 (x / 256 / 256 % 256) (by omega)
  have a3 := onesN_le8 (x / 256 / 256 / 256 % 256) (by omega)
  have a4 := onesN_le8 (x / 256 / 256 / 256 / 256 % 256) (by omega)
  have a5 := onesN_le8 (x / 256 / 256 / 256 / 256 / 256 % 256) (by omega)
  have a6 := onesN_le8 (x / 256 / 256 / 256 / 256 / 256 / 256 % 256) (by omega)
  have a7 := onesN_le8 (x / 256 / 256 / 256 / 256 / 256 / 256 / 256 % 256) (by omega)
  have ho : onesN x = onesN (x % 256) + (onesN (x / 256 % 256) + (onesN (x / 256 / 256 % 256) + (onesN (x / 256 / 256 / 256 % 256) + (onesN (x / 256 / 256 / 256 / 256 % 256) + (onesN (x / 256 / 256 / 256 / 256 / 256 % 256) + (onesN (x / 256 / 256 / 256 / 256 / 256 / 256 % 256) + onesN (x / 256 / 256 / 256 / 256 / 256 / 256 / 256 % 256))))))) := by
    rw [onesN_byte x, onesN_byte (x / 256), onesN_byte (x / 256 / 256), onesN_byte (x / 256 / 256 / 256), onesN_byte (x / 256 / 256 / 256 / 256), onesN_byte (x / 256 / 256 / 256 / 256 / 256), onesN_byte (x / 256 / 256 / 256 / 256 / 256 / 256), onesN_byte (x / 256 / 256 / 256 / 256 / 256 / 256 / 256),
      show x / 256 / 256 / 256 / 256 / 256 / 256 / 256 / 256 = 0 by omega, onesN_zero, Nat.add_zero]
  rw [ho]
  exact cnt_digits _ _ _ _ _ _ _ _ a0 a1 a2 a3 a4 a5 a6 a7 (cntB 8 x) y1 y2 y3 (by simp only [cntB]) h1 h2 h3

theorem onesN_le64 (x : Nat) (h : x < 18446744073709551616) : onesN x ≤ 64 := by
  have a0 := onesN_le8 (x % 256) (by omega)
  have a1 := onesN_le8 (x / 256 % 256) (by omega)
  have a2 := onesN_le8 (x / 256 / 256 % 256) (by omega)
  have a3 := onesN_le8 (x / 256 / 256 / 256 % 256) (by omega)
  have a4 := onesN_le8 (x / 256 / 256 / 256 / 256 % 256) (by omega)
  have a5 := onesN_le8 (x / 256 / 256 / 256 / 256 / 256 % 256) (by omega)
  have a6 := onesN_le8 (x / 256 / 256 / 256 / 256 / 256 / 256 % 256) (by omega)
  have a7 := onesN_le8 (x / 256 / 256 / 256 / 256 / 256 / 256 / 256 % 256) (by omega)
  rw [onesN_byte x, onesN_byte (x / 256), onesN_byte (x / 256 / 256), onesN_byte (x / 256 / 256 / 256), onesN_byte (x / 256 / 256 / 256 / 256), onesN_byte (x / 256 / 256 / 256 / 256 / 256), onesN_byte (x / 256 / 256 / 256 / 256 / 256 / 256), onesN_byte (x / 256 / 256 / 256 / 256 / 256 / 256 / 256),
      show x / 256 / 256 / 256 / 256 / 256 / 256 / 256 / 256 = 0 by omega, onesN_zero]
  omega

/-! ## how many powers there are -/

def lgN (n : Nat) : Nat := if n = 0 then 0 else 1 + lgN (n / 2)
termination_by n
decreasing_by omega

theorem lgN_zero : lgN 0 = 0 := by rw [lgN]; simp

theorem lgN_eq (k : Nat) : ∀ n, 2 ^ k ≤ n → n < 2 ^ (k + 1) → lgN n = k + 1 := by
  induction k with
  | zero => intro n h1 h2; have : n = 1 := by omega
            subst this; rw [lgN]; simp [lgN_zero]
  | succ k ih =>
    intro n h1 h2
    have hp := Nat.two_pow_pos k
    rw [Nat.pow_succ] at h1 h2
    rw [lgN, if_neg (by omega), ih (n / 2) (by omega) (by omega)]
    omega

theorem lg_bounds (n : Nat) (h : 0 < n) : ∃ k, 2 ^ k ≤ n ∧ n < 2 ^ (k + 1) := by
  induction n using Nat.strongRecOn with
  | _ n ih =>
    by_cases h1 : n = 1
    · exact ⟨0, by omega⟩
    · obtain ⟨k, h2, h3⟩ := ih (n / 2) (by omega) (by omega)
      refine ⟨k + 1, ?_, ?_⟩ <;> simp only [Nat.pow_succ] at * <;> omega

/-- One thing more is due just if its number is a power. -/
theorem lgN_succ (n : Nat) : lgN (n + 1) = lgN n + (if isPow (n + 1) then 1 else 0) := by
  by_cases h0 : n = 0
  · subst h0
    rw [lgN, isPow_end 1 (by omega)]; simp [lgN_zero]
  obtain ⟨k, h1, h2⟩ := lg_bounds n (by omega)
  by_cases h3 : n + 1 = 2 ^ (k + 1)
  · rw [lgN_eq k n h1 h2, lgN_eq (k + 1) (n + 1) (by omega) (by rw [Nat.pow_succ 2 (k + 1)]; omega), h3, isPow_pow, if_pos rfl]
  · have hn : isPow (n + 1) = false := by
      by_cases hq : isPow (n + 1) = true
      · exfalso
        obtain ⟨j, hj⟩ := pow_of_isPow _ hq
        have a : ¬ j ≤ k := fun hjk => by have := Nat.pow_le_pow_right (show 0 < 2 by omega) hjk; omega
        have b : ¬ k + 2 ≤ j := fun hjk => by have := Nat.pow_le_pow_right (show 0 < 2 by omega) hjk; rw [Nat.pow_succ 2 (k + 1)] at this; omega
        have : j = k + 1 := by omega
        subst this
        exact h3 hj
      · simpa using hq
    rw [lgN_eq k n h1 h2, lgN_eq k (n + 1) (by omega) (by omega), hn]
    simp

/-! ## sums and multiples that saturate -/

def NV : Nat := 18446744073709551615
def addN (a b : Nat) : Nat := min (a + b) NV
def timesN (a b : Nat) : Nat := min (a * b) NV
def boffN (t : Nat) (c : Int) : Nat := min (t * 2 ^ c.toNat) NV

theorem boff_self (t : Nat) (c : Int) (ht : t ≤ NV) (hc : c < 1) : boffN t c = t := by
  unfold boffN
  rw [show c.toNat = 0 by omega, Nat.pow_zero, Nat.mul_one]
  exact Nat.min_eq_left ht

theorem boff_great (t : Nat) (c : Int) (hc : 63 < c) : boffN t c = timesN t NV := by
  unfold boffN timesN
  by_cases h : t = 0
  · subst h; simp
  · have h1 : 2 ^ 64 ≤ 2 ^ c.toNat := Nat.pow_le_pow_right (by omega) (by omega)
    have h2 : 2 ^ c.toNat ≤ t * 2 ^ c.toNat := Nat.le_mul_of_pos_left _ (by omega)
    have h3 : NV ≤ t * NV := Nat.le_mul_of_pos_left _ (by omega)
    have h4 : NV ≤ 2 ^ 64 := by decide
    rw [Nat.min_eq_right h3, Nat.min_eq_right (by omega)]

theorem boff_mid (t : Nat) (c : Int) : boffN t c = timesN t (2 ^ c.toNat) := rfl

theorem min_min_mul (a p : Nat) (hp : 0 < p) : min (min a NV * p) NV = min (a * p) NV := by
  by_cases h : a ≤ NV
  · rw [Nat.min_eq_left h]
  · have h1 : NV ≤ NV * p := Nat.le_mul_of_pos_right _ hp
    have h2 : a ≤ a * p := Nat.le_mul_of_pos_right _ hp
    rw [Nat.min_eq_right (show NV ≤ a by omega), Nat.min_eq_right h1, Nat.min_eq_right (show NV ≤ a * p by omega)]

theorem boff_boff (t m n : Nat) : boffN (boffN t (m : Int)) (n : Int) = boffN t ((m + n : Nat) : Int) := by
  unfold boffN
  simp only [Int.toNat_natCast]
  rw [min_min_mul _ _ (Nat.two_pow_pos n), Nat.mul_assoc, ← Nat.pow_add]

theorem boff_ge (t : Nat) (c : Int) (ht : t ≤ NV) : t ≤ boffN t c := by
  unfold boffN
  exact Nat.le_min.mpr ⟨Nat.le_mul_of_pos_right _ (Nat.two_pow_pos _), ht⟩

theorem boff_le (t : Nat) (c : Int) : boffN t c ≤ NV := Nat.min_le_right _ _

/-- Doubled once more. -/
theorem boff_succ (t i : Nat) : addN (boffN t (i : Int)) (boffN t (i : Int)) = boffN t ((i + 1 : Nat) : Int) := by
  unfold addN boffN
  simp only [Int.toNat_natCast]
  rw [← Nat.mul_two, min_min_mul _ 2 (by omega), Nat.mul_assoc, ← Nat.pow_succ]

theorem boff_70 (t : Nat) (c : Int) (hc : 70 ≤ c) : boffN t c = boffN t ((70 : Nat) : Int) := by
  rw [boff_great t c (by omega), boff_great t _ (by omega)]

/-! ## buckets -/

/-- What a bucket has: its tokens, and the time up to which they came. -/
def atN (S E tok up now : Nat) : Nat × Nat :=
  if now < up then (tok, up)
  else if S - tok ≤ (now - up) / E then (S, now) else (tok + (now - up) / E, up + (now - up) / E * E)

theorem at_room (S E tok up now : Nat) (h : up ≤ now) (hr : S - tok = 0) : atN S E tok up now = (S, now) := by
  unfold atN
  rw [if_neg (by omega), if_pos (by rw [hr]; exact Nat.zero_le _)]

theorem at_le (S E tok up now : Nat) (ht : tok ≤ S) : (atN S E tok up now).1 ≤ S := by
  unfold atN
  split
  · exact ht
  · split
    · exact Nat.le_refl _
    · rename_i hc
      show tok + (now - up) / E ≤ S
      generalize (now - up) / E = c at *
      omega

theorem at_up (S E tok up now : Nat) (h : up ≤ now) : (atN S E tok up now).2 ≤ now := by
  unfold atN
  rw [if_neg (by omega)]
  split
  · exact Nat.le_refl _
  · have := Nat.div_mul_le_self (now - up) E
    simp only; omega

/-- No more come than the times that pass. -/
theorem at_slow (S E tok up now n : Nat) (hE : 0 < E) (ht : tok ≤ S) (h : up ≤ now) (hn : n + tok ≤ S + up / E) :
    n + (atN S E tok up now).1 ≤ S + (atN S E tok up now).2 / E := by
  unfold atN
  rw [if_neg (by omega)]
  split
  · rename_i hc
    have h1 : up / E + (now - up) / E ≤ now / E := by
      rw [Nat.le_div_iff_mul_le hE, Nat.add_mul]
      have h2 := Nat.div_mul_le_self up E
      have h3 := Nat.div_mul_le_self (now - up) E
      omega
    show n + S ≤ S + now / E
    generalize now / E = a at *
    generalize up / E = b at *
    generalize (now - up) / E = c at *
    omega
  · show n + (tok + (now - up) / E) ≤ S + (up + (now - up) / E * E) / E
    rw [Nat.add_mul_div_right _ _ hE]
    omega

end Go.Proofs.Ytakoeamfmmbdiaa
