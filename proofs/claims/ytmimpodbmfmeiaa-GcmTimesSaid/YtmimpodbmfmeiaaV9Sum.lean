/- Layer 9 (gcm), plain: sums, and texts that are sealed. No program is named here. -/
import Derived.Test.YtmimpodbmfmeiaaV9Math
import Derived.Test.YtmimpodbmfmeiaaV9Bytes
import Derived.Test.YtmimpodbmfmeiaaV8Math
namespace Go.Proofs.Ytmimpodbmfmeiaa

/-- The product of two blocks. -/
def tmsB (a b : List Nat) : List Nat := bpol (gM (polB a) (polB b))
theorem tmsB_len (a b : List Nat) : (tmsB a b).length = 16 := bpol_len _
theorem tmsB_lt (a b : List Nat) : ∀ x ∈ tmsB a b, x < 256 := bpol_lt _
theorem tmsB_comm (a b : List Nat) : tmsB a b = tmsB b a := by unfold tmsB; rw [gM_comm (polB_lt a) (polB_lt b)]
theorem tmsB_xor (a b c : List Nat) : tmsB a (xorB b c) = xorB (tmsB a b) (tmsB a c) := by
  unfold tmsB xorB
  rw [polB_xor, gM_xor_b, bpol_xor]
theorem tmsB_one {a : List Nat} (h : a.length = 16) (hb : ∀ x ∈ a, x < 256) : tmsB a [128, 0, 0, 0, 0, 0, 0, 0, 0, 0, 0, 0, 0, 0, 0, 0] = a := by
  unfold tmsB
  rw [polB_one, gM_one, bpol_polB h hb]
theorem tmsB_zero (a : List Nat) : tmsB a [0, 0, 0, 0, 0, 0, 0, 0, 0, 0, 0, 0, 0, 0, 0, 0] = [0, 0, 0, 0, 0, 0, 0, 0, 0, 0, 0, 0, 0, 0, 0, 0] := by
  unfold tmsB
  rw [polB_zero, gM_zero, bpol_zero]
theorem tmsB_zero' (a : List Nat) : tmsB [0, 0, 0, 0, 0, 0, 0, 0, 0, 0, 0, 0, 0, 0, 0, 0] a = [0, 0, 0, 0, 0, 0, 0, 0, 0, 0, 0, 0, 0, 0, 0, 0] := by rw [tmsB_comm, tmsB_zero]

/-- The sum by h of the first n blocks of all. -/
def ghS (h all : List Nat) : Nat → List Nat
  | 0 => List.replicate 16 0
  | n + 1 => tmsB (xorB (ghS h all n) (all.drop (16 * n))) h
theorem ghS_len (h all : List Nat) : ∀ n, (ghS h all n).length = 16
  | 0 => by simp [ghS]
  | n + 1 => tmsB_len _ _
theorem ghS_lt (h all : List Nat) : ∀ n, ∀ x ∈ ghS h all n, x < 256
  | 0 => by intro x hx; rw [List.eq_of_mem_replicate hx]; decide
  | n + 1 => tmsB_lt _ _
/-- Filled up to whole blocks. -/
def padB (l : List Nat) : List Nat := l ++ List.replicate ((16 - l.length % 16) % 16) 0
theorem padB_len (l : List Nat) : (padB l).length = (l.length + 15) / 16 * 16 := by
  unfold padB
  rw [List.length_append, List.length_replicate]
  omega
theorem padB_lt {l : List Nat} (h : ∀ x ∈ l, x < 256) : ∀ x ∈ padB l, x < 256 := by
  intro x hx
  rcases List.mem_append.1 hx with hx | hx
  · exact h x hx
  · rw [List.eq_of_mem_replicate hx]; decide
/-- A number as eight bytes. -/
def len8 (n : Nat) : List Nat := (List.range 8).map fun i => n / 256 ^ (7 - i) % 256
theorem len8_len (n : Nat) : (len8 n).length = 8 := by simp [len8]
theorem len8_lt (n : Nat) : ∀ x ∈ len8 n, x < 256 := by
  intro x hx
  simp only [len8, List.mem_map] at hx
  obtain ⟨i, _, rfl⟩ := hx
  exact Nat.mod_lt _ (by decide)
def allG (more text : List Nat) : List Nat := padB more ++ padB text ++ (len8 (8 * more.length) ++ len8 (8 * text.length))
def blocksG (more text : List Nat) : Nat := (more.length + 15) / 16 + (text.length + 15) / 16 + 1
theorem allG_len (more text : List Nat) : (allG more text).length = 16 * blocksG more text := by
  unfold allG blocksG
  simp only [List.length_append, padB_len, len8_len]
  omega
theorem allG_lt {more text : List Nat} (hm : ∀ x ∈ more, x < 256) (ht : ∀ x ∈ text, x < 256) : ∀ x ∈ allG more text, x < 256 := by
  intro x hx
  unfold allG at hx
  simp only [List.mem_append] at hx
  rcases hx with (hx | hx) | hx | hx
  · exact padB_lt hm x hx
  · exact padB_lt ht x hx
  · exact len8_lt _ x hx
  · exact len8_lt _ x hx
/-- The sum of more and a text. -/
def sumG (h more text : List Nat) : List Nat := ghS h (allG more text) (blocksG more text)
theorem sumG_len (h more text : List Nat) : (sumG h more text).length = 16 := ghS_len _ _ _
theorem sumG_lt (h more text : List Nat) : ∀ x ∈ sumG h more text, x < 256 := ghS_lt _ _ _
theorem sumG_nil (h : List Nat) : sumG h [] [] = [0, 0, 0, 0, 0, 0, 0, 0, 0, 0, 0, 0, 0, 0, 0, 0] := by
  have e : xorB (ghS h (allG [] []) 0) ((allG [] []).drop (16 * 0)) = [0, 0, 0, 0, 0, 0, 0, 0, 0, 0, 0, 0, 0, 0, 0, 0] := by
    show xorB (List.replicate 16 0) _ = _
    decide +kernel
  show tmsB (xorB (ghS h (allG [] []) 0) ((allG [] []).drop (16 * 0))) h = _
  rw [e, tmsB_zero']
/-- A text sealed. -/
def jN (nonce : List Nat) (k : Nat) : List Nat := nonce ++ [0, 0, 0, k]
def tagG (key nonce more c : List Nat) : List Nat := xorB (sumG (cipherN key (List.replicate 16 0)) more c) (cipherN key (jN nonce 1))
def sealG (key nonce more text : List Nat) : List Nat := streamN key (jN nonce 2) text ++ tagG key nonce more (streamN key (jN nonce 2) text)
/-- What sealed bytes open to. -/
def openG (key nonce more b : List Nat) : List Nat × Int :=
  if b.length < 16 then ([], 2)
  else if tagG key nonce more (b.take (b.length - 16)) = b.drop (b.length - 16) then (streamN key (jN nonce 2) (b.take (b.length - 16)), 0) else ([], 7)
theorem seal_ev : sealG (List.replicate 16 0) (List.replicate 12 0) [] [] = [0x58, 0xe2, 0xfc, 0xce, 0xfa, 0x7e, 0x30, 0x61, 0x36, 0x7f, 0x1d, 0x57, 0xa4, 0xe7, 0x45, 0x5a] := by decide +kernel
/-- SP 800-38D's second example: a block of zeros. -/
theorem seal_ev2 : sealG (List.replicate 16 0) (List.replicate 12 0) [] (List.replicate 16 0) = [0x03, 0x88, 0xda, 0xce, 0x60, 0xb6, 0xa3, 0x92, 0xf3, 0x28, 0xc2, 0xb9, 0x71, 0xb2, 0xfe, 0x78, 0xab, 0x6e, 0x47, 0xd4, 0x2c, 0xec, 0x13, 0xbd, 0xf5, 0x3a, 0x67, 0xb2, 0x12, 0x57, 0xbd, 0xdf] := by decide +kernel
end Go.Proofs.Ytmimpodbmfmeiaa
