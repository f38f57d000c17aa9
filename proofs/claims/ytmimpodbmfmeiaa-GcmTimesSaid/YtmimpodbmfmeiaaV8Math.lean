/- Layer 8 (aes): the cipher over plain numbers. No program is named here. -/
namespace Go.Proofs.Ytmimpodbmfmeiaa

/-- A byte times 2. -/
def dbl (a : Nat) : Nat := (2 * a % 256) ^^^ (a / 128 * 27)
def mulS : Nat → Nat → Nat → Nat → Nat
  | 0, _, _, p => p
  | k + 1, a, b, p => mulS k (dbl a) (b / 2) (if b % 2 = 1 then p ^^^ a else p)
/-- The product of two bytes. -/
def mulN (a b : Nat) : Nat := mulS 8 a b 0
def powS (a : Nat) : Nat → Nat
  | 0 => a
  | k + 1 => mulN (mulN (powS a k) (powS a k)) a
/-- What a byte times is 1. -/
def invN (a : Nat) : Nat := mulN (powS a 6) (powS a 6)
def rol8 (x : Nat) : Nat := 2 * x % 256 + x / 128
def rolS (x : Nat) : Nat → Nat
  | 0 => x
  | k + 1 => rol8 (rolS x k)
def affS (x : Nat) : Nat → Nat
  | 0 => x ^^^ 99
  | k + 1 => affS x k ^^^ rolS x (k + 1)
/-- The box of the byte whose inverse is x. -/
def affN (x : Nat) : Nat := affS x 4

/-- All boxes. -/
def sboxL : List Nat := [99, 124, 119, 123, 242, 107, 111, 197, 48, 1, 103, 43, 254, 215, 171, 118, 202, 130, 201, 125, 250, 89, 71, 240, 173, 212, 162, 175, 156, 164, 114, 192, 183, 253, 147, 38, 54, 63, 247, 204, 52, 165, 229, 241, 113, 216, 49, 21, 4, 199, 35, 195, 24, 150, 5, 154, 7, 18, 128, 226, 235, 39, 178, 117, 9, 131, 44, 26, 27, 110, 90, 160, 82, 59, 214, 179, 41, 227, 47, 132, 83, 209, 0, 237, 32, 252, 177, 91, 106, 203, 190, 57, 74, 76, 88, 207, 208, 239, 170, 251, 67, 77, 51, 133, 69, 249, 2, 127, 80, 60, 159, 168, 81, 163, 64, 143, 146, 157, 56, 245, 188, 182, 218, 33, 16, 255, 243, 210, 205, 12, 19, 236, 95, 151, 68, 23, 196, 167, 126, 61, 100, 93, 25, 115, 96, 129, 79, 220, 34, 42, 144, 136, 70, 238, 184, 20, 222, 94, 11, 219, 224, 50, 58, 10, 73, 6, 36, 92, 194, 211, 172, 98, 145, 149, 228, 121, 231, 200, 55, 109, 141, 213, 78, 169, 108, 86, 244, 234, 101, 122, 174, 8, 186, 120, 37, 46, 28, 166, 180, 198, 232, 221, 116, 31, 75, 189, 139, 138, 112, 62, 181, 102, 72, 3, 246, 14, 97, 53, 87, 185, 134, 193, 29, 158, 225, 248, 152, 17, 105, 217, 142, 148, 155, 30, 135, 233, 206, 85, 40, 223, 140, 161, 137, 13, 191, 230, 66, 104, 65, 153, 45, 15, 176, 84, 187, 22]
def sbox (a : Nat) : Nat := sboxL.getD a 0

/-- 2 to the power k. -/
def rcon : Nat → Nat
  | 0 => 1
  | k + 1 => dbl (rcon k)
/-- The byte of the round keys at m, out of those ahead of it. -/
def keyAt (key l : List Nat) (m : Nat) : Nat :=
  if m < 16 then key.getD m 0
  else l.getD (m - 16) 0 ^^^ (if m / 4 % 4 = 0 then (if m % 4 = 0 then sbox (l.getD (m - 3) 0) ^^^ rcon (m / 16 - 1) else if m % 4 = 3 then sbox (l.getD (m - 7) 0) else sbox (l.getD (m - 3) 0)) else l.getD (m - 4) 0)
def keysN (key : List Nat) : Nat → List Nat
  | 0 => []
  | m + 1 => keysN key m ++ [keyAt key (keysN key m) m]

/-- A block's rounds. -/
def xorB (s k : List Nat) : List Nat := (List.range 16).map fun i => s.getD i 0 ^^^ k.getD i 0
def subB (s : List Nat) : List Nat := (List.range 16).map fun i => sbox (s.getD i 0)
def shiftB (s : List Nat) : List Nat := (List.range 16).map fun i => s.getD ((i + i % 4 * 4) % 16) 0
def mixC (p q r s : Nat) : Nat := dbl (p ^^^ q) ^^^ q ^^^ r ^^^ s
def mixB (s : List Nat) : List Nat := (List.range 16).map fun i => mixC (s.getD (i / 4 * 4 + i % 4) 0) (s.getD (i / 4 * 4 + (i + 1) % 4) 0) (s.getD (i / 4 * 4 + (i + 2) % 4) 0) (s.getD (i / 4 * 4 + (i + 3) % 4) 0)
def stepB (ks s : List Nat) (r : Nat) : List Nat := xorB (if r < 10 then mixB (shiftB (subB s)) else shiftB (subB s)) (ks.drop (16 * r))
def roundsB (ks s : List Nat) : Nat → List Nat
  | 0 => xorB s ks
  | r + 1 => stepB ks (roundsB ks s r) (r + 1)
def encN (ks s : List Nat) : List Nat := roundsB ks s 10
def cipherN (key s : List Nat) : List Nat := encN (keysN key 176) s

/-- The block that follows in a stream. -/
def incF (s : List Nat) : Nat → Nat → List Nat
  | 0, _ => s
  | n + 1, i => if (s.getD i 0 + 1) % 256 = 0 then incF (s.set i ((s.getD i 0 + 1) % 256)) n (i - 1) else s.set i ((s.getD i 0 + 1) % 256)
def oneMore (s : List Nat) : List Nat := incF s 4 15
def ctrN (s : List Nat) : Nat → List Nat
  | 0 => s
  | j + 1 => oneMore (ctrN s j)
def padAt (key first : List Nat) (i : Nat) : Nat := (cipherN key (ctrN first (i / 16))).getD (i % 16) 0
def streamN (key first text : List Nat) : List Nat := (List.range text.length).map fun i => text.getD i 0 ^^^ padAt key first i

/-! Known answers (FIPS 197). -/
theorem fips_c : cipherN [0,1,2,3,4,5,6,7,8,9,10,11,12,13,14,15] [0,17,34,51,68,85,102,119,136,153,170,187,204,221,238,255] = [0x69,0xc4,0xe0,0xd8,0x6a,0x7b,0x04,0x30,0xd8,0xcd,0xb7,0x80,0x70,0xb4,0xc5,0x5a] := by decide +kernel
theorem fips_k : (keysN [0,1,2,3,4,5,6,7,8,9,10,11,12,13,14,15] 176).getD 16 0 = 0xd6 := by decide +kernel
theorem fips_m : mulN 0x57 0x83 = 0xc1 := by decide +kernel

/-! Finite facts. -/
theorem sbox_aff : ∀ a, a < 256 → affN (invN a) = sbox a := by
  have h : ((List.range 256).all fun a => affN (invN a) == sbox a) = true := by decide +kernel
  intro a ha
  simpa using List.all_eq_true.1 h a (by simpa using ha)
theorem dbl_lt {a : Nat} (ha : a < 256) : dbl a < 256 := by
  have h : ((List.range 256).all fun a => decide (dbl a < 256)) = true := by decide +kernel
  simpa using List.all_eq_true.1 h a (by simpa using ha)
theorem sbox_lt (a : Nat) : sbox a < 256 := by
  rcases Nat.lt_or_ge a 256 with ha | ha
  · have h : ((List.range 256).all fun a => decide (sbox a < 256)) = true := by decide +kernel
    simpa using List.all_eq_true.1 h a (by simpa using ha)
  · unfold sbox
    rw [List.getD_eq_getElem?_getD, List.getElem?_eq_none (by rw [show sboxL.length = 256 by decide +kernel]; exact ha)]
    decide
theorem rol8_lt {a : Nat} (ha : a < 256) : rol8 a < 256 := by unfold rol8; omega
theorem xor8_lt {a b : Nat} (ha : a < 256) (hb : b < 256) : a ^^^ b < 256 := Nat.xor_lt_two_pow (n := 8) ha hb
theorem rolS_lt {x : Nat} (hx : x < 256) : ∀ k, rolS x k < 256
  | 0 => hx
  | k + 1 => rol8_lt (rolS_lt hx k)
theorem affS_lt {x : Nat} (hx : x < 256) : ∀ k, affS x k < 256
  | 0 => xor8_lt hx (by decide)
  | k + 1 => xor8_lt (affS_lt hx k) (rolS_lt hx _)
theorem mulS_lt : ∀ k {a p : Nat} (b : Nat), a < 256 → p < 256 → mulS k a b p < 256
  | 0, _, _, _, _, hp => hp
  | k + 1, a, p, b, ha, hp => mulS_lt k _ (dbl_lt ha) (by split; exact xor8_lt hp ha; exact hp)
theorem mulN_lt {a : Nat} (b : Nat) (ha : a < 256) : mulN a b < 256 := mulS_lt 8 b ha (by decide)
theorem powS_lt {a : Nat} (ha : a < 256) : ∀ k, powS a k < 256
  | 0 => ha
  | k + 1 => mulN_lt _ (mulN_lt _ (powS_lt ha k))
theorem invN_lt {a : Nat} (ha : a < 256) : invN a < 256 := mulN_lt _ (powS_lt ha 6)
theorem mulS_zero : ∀ k a p, mulS k a 0 p = p
  | 0, _, _ => rfl
  | k + 1, a, p => by rw [mulS]; exact mulS_zero k _ _
theorem mul_two {a : Nat} (ha : a < 256) : mulN a 2 = dbl a := by
  have h : ((List.range 256).all fun a => mulN a 2 == dbl a) = true := by decide +kernel
  simpa using List.all_eq_true.1 h a (by simpa using ha)
theorem mul_three {a : Nat} (ha : a < 256) : mulN a 3 = a ^^^ dbl a := by
  have h : ((List.range 256).all fun a => mulN a 3 == (a ^^^ dbl a)) = true := by decide +kernel
  simpa using List.all_eq_true.1 h a (by simpa using ha)
theorem mul_one {a : Nat} (ha : a < 256) : mulN a 1 = a := by
  have h : ((List.range 256).all fun a => mulN a 1 == a) = true := by decide +kernel
  simpa using List.all_eq_true.1 h a (by simpa using ha)

/-! Products go over sums. -/
theorem xor_mul_two (a b : Nat) : 2 * (a ^^^ b) = 2 * a ^^^ 2 * b := by
  have h : (a ^^^ b) <<< 1 = a <<< 1 ^^^ b <<< 1 := Nat.shiftLeft_xor_distrib
  simp only [Nat.shiftLeft_eq, Nat.pow_one] at h
  rw [Nat.mul_comm 2, Nat.mul_comm 2, Nat.mul_comm 2]
  exact h
theorem xor_mod8 (a b : Nat) : (a ^^^ b) % 256 = a % 256 ^^^ b % 256 := Nat.xor_mod_two_pow (n := 8)
theorem xor_div7 (a b : Nat) : (a ^^^ b) / 128 = a / 128 ^^^ b / 128 := by
  have h : (a ^^^ b) >>> 7 = a >>> 7 ^^^ b >>> 7 := Nat.shiftRight_xor_distrib
  simpa [Nat.shiftRight_eq_div_pow] using h
theorem xor_div2 (a b : Nat) : (a ^^^ b) / 2 = a / 2 ^^^ b / 2 := by
  have h : (a ^^^ b) >>> 1 = a >>> 1 ^^^ b >>> 1 := Nat.shiftRight_xor_distrib
  simpa [Nat.shiftRight_eq_div_pow] using h
theorem xor_mod2 (a b : Nat) : (a ^^^ b) % 2 = a % 2 ^^^ b % 2 := Nat.xor_mod_two_pow (n := 1)
theorem dbl_xor {a b : Nat} (ha : a < 256) (hb : b < 256) : dbl (a ^^^ b) = dbl a ^^^ dbl b := by
  unfold dbl
  rw [xor_mul_two, xor_mod8, xor_div7]
  have h1 : a / 128 = 0 ∨ a / 128 = 1 := by omega
  have h2 : b / 128 = 0 ∨ b / 128 = 1 := by omega
  have key : (a / 128 ^^^ b / 128) * 27 = a / 128 * 27 ^^^ b / 128 * 27 := by rcases h1 with h1 | h1 <;> rcases h2 with h2 | h2 <;> rw [h1, h2] <;> decide
  rw [key]
  generalize 2 * a % 256 = x; generalize 2 * b % 256 = y; generalize a / 128 * 27 = z; generalize b / 128 * 27 = t
  rw [Nat.xor_assoc, Nat.xor_assoc, ← Nat.xor_assoc y z t, Nat.xor_comm y z, Nat.xor_assoc z y t]
theorem mulS_xor_b : ∀ k a b c p q, mulS k a (b ^^^ c) (p ^^^ q) = mulS k a b p ^^^ mulS k a c q
  | 0, _, _, _, _, _ => rfl
  | k + 1, a, b, c, p, q => by
    rw [mulS, mulS, mulS, xor_div2, xor_mod2, ← mulS_xor_b k]
    congr 1
    have h1 : b % 2 = 0 ∨ b % 2 = 1 := by omega
    have h2 : c % 2 = 0 ∨ c % 2 = 1 := by omega
    rcases h1 with h1 | h1 <;> rcases h2 with h2 | h2 <;> rw [h1, h2] <;> simp
    · rw [Nat.xor_assoc]
    · rw [Nat.xor_assoc, Nat.xor_comm q a, ← Nat.xor_assoc]
    · rw [Nat.xor_assoc, ← Nat.xor_assoc a q a, Nat.xor_comm a q, Nat.xor_assoc q a a, Nat.xor_self, Nat.xor_zero]
theorem mulN_xor_b (a b c : Nat) : mulN a (b ^^^ c) = mulN a b ^^^ mulN a c := by
  have := mulS_xor_b 8 a b c 0 0
  simpa [mulN] using this
theorem mulS_xor_a : ∀ k {a b : Nat} (c p q : Nat), a < 256 → b < 256 → mulS k (a ^^^ b) c (p ^^^ q) = mulS k a c p ^^^ mulS k b c q
  | 0, _, _, _, _, _, _, _ => rfl
  | k + 1, a, b, c, p, q, ha, hb => by
    rw [mulS, mulS, mulS, dbl_xor ha hb, ← mulS_xor_a k _ _ _ (dbl_lt ha) (dbl_lt hb)]
    congr 1
    split
    · rw [Nat.xor_assoc, Nat.xor_assoc, ← Nat.xor_assoc q a b, Nat.xor_comm q a, Nat.xor_assoc a q b]
    · rfl
theorem mulN_xor_a {a b : Nat} (c : Nat) (ha : a < 256) (hb : b < 256) : mulN (a ^^^ b) c = mulN a c ^^^ mulN b c := by
  have := mulS_xor_a 8 c 0 0 ha hb
  simpa [mulN] using this
/-- A byte is the sum of its bits. -/
def bitsX (a : Nat) : Nat := (a % 2) ^^^ (a / 2 % 2 * 2) ^^^ (a / 4 % 2 * 4) ^^^ (a / 8 % 2 * 8) ^^^ (a / 16 % 2 * 16) ^^^ (a / 32 % 2 * 32) ^^^ (a / 64 % 2 * 64) ^^^ (a / 128 % 2 * 128)
theorem bitsX_eq {a : Nat} (ha : a < 256) : bitsX a = a := by
  have h : ((List.range 256).all fun a => bitsX a == a) = true := by decide +kernel
  simpa using List.all_eq_true.1 h a (by simpa using ha)
theorem mul_bit {a : Nat} (ha : a < 256) (b : Nat) (hb : b ∈ [0, 1, 2, 4, 8, 16, 32, 64, 128]) : mulN a b = mulN b a := by
  have h : ((List.range 256).all fun a => [0, 1, 2, 4, 8, 16, 32, 64, 128].all fun b => mulN a b == mulN b a) = true := by decide +kernel
  have := List.all_eq_true.1 h a (by simpa using ha)
  simpa using List.all_eq_true.1 this b hb
theorem mul_comm {a b : Nat} (ha : a < 256) (hb : b < 256) : mulN a b = mulN b a := by
  have hbit : ∀ k m, k ∈ [1, 2, 4, 8, 16, 32, 64, 128] → m % 2 * k ∈ [0, 1, 2, 4, 8, 16, 32, 64, 128] ∧ m % 2 * k < 256 := by
    intro k m hk
    have h1 : m % 2 = 0 ∨ m % 2 = 1 := by omega
    rcases h1 with h1 | h1 <;> rw [h1] <;> simp at hk ⊢ <;> omega
  have e : bitsX b = ((((((( b % 2 * 1) ^^^ (b / 2 % 2 * 2)) ^^^ (b / 4 % 2 * 4)) ^^^ (b / 8 % 2 * 8)) ^^^ (b / 16 % 2 * 16)) ^^^ (b / 32 % 2 * 32)) ^^^ (b / 64 % 2 * 64)) ^^^ (b / 128 % 2 * 128) := by rw [Nat.mul_one]; rfl
  rw [← bitsX_eq hb, e]
  have m1 := hbit 1 b (by decide)
  have m2 := hbit 2 (b / 2) (by decide)
  have m3 := hbit 4 (b / 4) (by decide)
  have m4 := hbit 8 (b / 8) (by decide)
  have m5 := hbit 16 (b / 16) (by decide)
  have m6 := hbit 32 (b / 32) (by decide)
  have m7 := hbit 64 (b / 64) (by decide)
  have m8 := hbit 128 (b / 128) (by decide)
  generalize b % 2 * 1 = x1 at *
  generalize b / 2 % 2 * 2 = x2 at *
  generalize b / 4 % 2 * 4 = x3 at *
  generalize b / 8 % 2 * 8 = x4 at *
  generalize b / 16 % 2 * 16 = x5 at *
  generalize b / 32 % 2 * 32 = x6 at *
  generalize b / 64 % 2 * 64 = x7 at *
  generalize b / 128 % 2 * 128 = x8 at *
  have n2 := xor8_lt m1.2 m2.2
  have n3 := xor8_lt n2 m3.2
  have n4 := xor8_lt n3 m4.2
  have n5 := xor8_lt n4 m5.2
  have n6 := xor8_lt n5 m6.2
  have n7 := xor8_lt n6 m7.2
  rw [mulN_xor_b, mulN_xor_b, mulN_xor_b, mulN_xor_b, mulN_xor_b, mulN_xor_b, mulN_xor_b, mulN_xor_a _ n7 m8.2, mulN_xor_a _ n6 m7.2, mulN_xor_a _ n5 m6.2, mulN_xor_a _ n4 m5.2, mulN_xor_a _ n3 m4.2, mulN_xor_a _ n2 m3.2, mulN_xor_a _ m1.2 m2.2, mul_bit ha _ m1.1, mul_bit ha _ m2.1, mul_bit ha _ m3.1, mul_bit ha _ m4.1, mul_bit ha _ m5.1, mul_bit ha _ m6.1, mul_bit ha _ m7.1, mul_bit ha _ m8.1]
end Go.Proofs.Ytmimpodbmfmeiaa
