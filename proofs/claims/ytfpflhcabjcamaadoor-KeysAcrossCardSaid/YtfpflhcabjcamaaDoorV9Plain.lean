/- Layer 9 (gcm), plain: what is sealed is opened again; what stands beside a text turns its tag alone. No program is named here but in what it imports. -/
import Derived.Test.YtfpflhcabjcamaaDoorKM
import Derived.Test.YtfpflhcabjcamaaDoorKA3
namespace Go.Proofs.YtfpflhcabjcamaaDoor

theorem xorB_len' (s k : List Nat) : (xorB s k).length = 16 := by simp [xorB]
theorem tagG_len (key nonce more c : List Nat) : (tagG key nonce more c).length = 16 := xorB_len' _ _
theorem sealG_len (key nonce more text : List Nat) : (sealG key nonce more text).length = text.length + 16 := by
  unfold sealG
  rw [List.length_append, streamN_len, tagG_len]
theorem sealG_take (key nonce more text : List Nat) : (sealG key nonce more text).take text.length = streamN key (jN nonce 2) text := by
  unfold sealG
  rw [List.take_append_of_le_length (by rw [streamN_len]; omega), List.take_of_length_le (by rw [streamN_len]; omega)]
theorem sealG_drop (key nonce more text : List Nat) : (sealG key nonce more text).drop text.length = tagG key nonce more (streamN key (jN nonce 2) text) := by
  unfold sealG
  rw [List.drop_append_of_le_length (by rw [streamN_len]; omega), List.drop_of_length_le (by rw [streamN_len]; omega), List.nil_append]
theorem xorB_lt' {s k : List Nat} (hs : ∀ x ∈ s, x < 256) (hk : ∀ x ∈ k, x < 256) : ∀ x ∈ xorB s k, x < 256 := by
  intro x hx
  simp only [xorB, List.mem_map] at hx
  obtain ⟨i, _, rfl⟩ := hx
  exact xor8_lt (getD_lt hs i (by decide)) (getD_lt hk i (by decide))
theorem jN_lt' {nonce : List Nat} {k : Nat} (h : ∀ x ∈ nonce, x < 256) (hk : k < 256) : ∀ x ∈ jN nonce k, x < 256 := by
  intro x hx
  unfold jN at hx
  simp only [List.mem_append, List.mem_cons, List.not_mem_nil, or_false] at hx
  rcases hx with hx | rfl | rfl | rfl | rfl
  · exact h x hx
  all_goals omega
theorem tagG_lt {key nonce : List Nat} (hk : ∀ x ∈ key, x < 256) (hn : ∀ x ∈ nonce, x < 256) (more c : List Nat) : ∀ x ∈ tagG key nonce more c, x < 256 :=
  xorB_lt' (sumG_lt _ _ _) (cipherN_lt hk (jN_lt' hn (by decide)))
theorem sealG_lt {key nonce more text : List Nat} (hk : ∀ x ∈ key, x < 256) (hn : ∀ x ∈ nonce, x < 256) (ht : ∀ x ∈ text, x < 256) : ∀ x ∈ sealG key nonce more text, x < 256 := by
  intro x hx
  unfold sealG at hx
  rcases List.mem_append.1 hx with hx | hx
  · exact streamN_lt hk (jN_lt' hn (by decide)) ht x hx
  · exact tagG_lt hk hn more _ x hx
/-- What is sealed is opened again. -/
theorem open_seal (key nonce more text : List Nat) : openG key nonce more (sealG key nonce more text) = (text, 0) := by
  unfold openG
  rw [if_neg (by rw [sealG_len]; omega), sealG_len, Nat.add_sub_cancel, sealG_take, sealG_drop, if_pos rfl, stream_back]
/-- With another tag it isn't. -/
theorem open_other (key nonce more text tag : List Nat) (ht : tag.length = 16) (hne : tag ≠ tagG key nonce more (streamN key (jN nonce 2) text)) : openG key nonce more (streamN key (jN nonce 2) text ++ tag) = ([], 7) := by
  unfold openG
  have hl : (streamN key (jN nonce 2) text ++ tag).length = text.length + 16 := by rw [List.length_append, streamN_len, ht]
  have h1 : (streamN key (jN nonce 2) text ++ tag).take text.length = streamN key (jN nonce 2) text := by
    rw [List.take_append_of_le_length (by rw [streamN_len]; omega), List.take_of_length_le (by rw [streamN_len]; omega)]
  have h2 : (streamN key (jN nonce 2) text ++ tag).drop text.length = tag := by
    rw [List.drop_append_of_le_length (by rw [streamN_len]; omega), List.drop_of_length_le (by rw [streamN_len]; omega), List.nil_append]
  rw [if_neg (by rw [hl]; omega), hl, Nat.add_sub_cancel, h1, h2, if_neg (fun e => hne e.symm)]
/-- A byte turned makes other bytes. -/
theorem set_ne (l : List Nat) (i v : Nat) (hi : i < l.length) (h : v ≠ l.getD i 0) : l.set i v ≠ l := by
  intro e
  have := congrArg (fun m => m.getD i 0) e
  simp only [List.getD_eq_getElem?_getD, List.getElem?_set, hi] at this
  apply h
  rw [List.getD_eq_getElem?_getD]
  simpa [hi] using this
theorem xor_bit_ne (x k : Nat) : x ^^^ 2 ^ k ≠ x := by
  intro e
  have h : (x ^^^ 2 ^ k) ^^^ x = 0 := by rw [e, Nat.xor_self]
  rw [Nat.xor_comm x, xor_back] at h
  exact absurd h (Nat.ne_of_gt (Nat.two_pow_pos k))
theorem short_open (key nonce more b : List Nat) (h : b.length < 16) : openG key nonce more b = ([], 2) := by
  unfold openG
  rw [if_pos h]
end Go.Proofs.YtfpflhcabjcamaaDoor
