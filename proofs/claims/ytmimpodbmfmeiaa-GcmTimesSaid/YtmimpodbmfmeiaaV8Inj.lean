/- Layer 8 (aes): two blocks are enciphered to the same just if they are the same. No program is named here. -/
import Derived.Test.YtmimpodbmfmeiaaV8Enc
import Derived.Test.YtmimpodbmfmeiaaV8KeyMath
namespace Go.Proofs.Ytmimpodbmfmeiaa

theorem xor_back (a b : Nat) : a ^^^ b ^^^ b = a := by rw [Nat.xor_assoc, Nat.xor_self, Nat.xor_zero]
theorem xor_xb (a b : Nat) : a ^^^ (a ^^^ b) = b := by rw [← Nat.xor_assoc, Nat.xor_self, Nat.zero_xor]
theorem xor_lc (a b c : Nat) : a ^^^ (b ^^^ c) = b ^^^ (a ^^^ c) := by rw [← Nat.xor_assoc, Nat.xor_comm a b, Nat.xor_assoc]
/-- Mixed twice. -/
theorem mix2 {p q r s : Nat} (hp : p < 256) (hq : q < 256) (hr : r < 256) (hs : s < 256) :
    mixC (mixC p q r s) (mixC q r s p) (mixC r s p q) (mixC s p q r) = dbl (dbl (p ^^^ r)) ^^^ p := by
  have h1 : mixC p q r s ^^^ mixC q r s p = dbl (p ^^^ r) ^^^ p ^^^ q := by
    unfold mixC
    rw [dbl_xor hp hq, dbl_xor hq hr, dbl_xor hp hr]
    simp only [Nat.xor_assoc, Nat.xor_comm, xor_lc, xor_xb]
  rw [mixC, h1]
  unfold mixC
  rw [dbl_xor (xor8_lt (dbl_lt (xor8_lt hp hr)) hp) hq, dbl_xor (dbl_lt (xor8_lt hp hr)) hp, dbl_xor hq hr, dbl_xor hr hs, dbl_xor hs hp]
  simp only [Nat.xor_assoc, Nat.xor_comm, xor_lc, xor_xb]
/-- Mixed four times. -/
theorem mix4 {p r : Nat} (_ : p < 256) (_ : r < 256) : dbl (dbl ((dbl (dbl (p ^^^ r)) ^^^ p) ^^^ (dbl (dbl (r ^^^ p)) ^^^ r))) ^^^ (dbl (dbl (p ^^^ r)) ^^^ p) = p := by
  rw [Nat.xor_comm r p]
  obtain ⟨x, hx⟩ : ∃ x, dbl (dbl (p ^^^ r)) = x := ⟨_, rfl⟩
  have h : (x ^^^ p) ^^^ (x ^^^ r) = p ^^^ r := by simp only [Nat.xor_assoc, xor_lc, xor_xb]
  rw [hx, h, hx, xor_xb]

/-- Lists of 16 numbers that are the same at each place. -/
theorem eq_of_at {s t : List Nat} (hs : s.length = 16) (ht : t.length = 16) (h : ∀ i, i < 16 → s.getD i 0 = t.getD i 0) : s = t := by
  rw [← list_eta s 16 hs, ← list_eta t 16 ht]
  apply List.map_congr_left
  intro i hi
  exact h i (List.mem_range.1 hi)
theorem at_of_map {f g : Nat → Nat} (h : (List.range 16).map f = (List.range 16).map g) (i : Nat) (hi : i < 16) : f i = g i := by
  have := congrArg (fun l => l.getD i 0) h
  simpa only [map_range_get f 16 i hi, map_range_get g 16 i hi] using this
theorem xorB_inj {s t k : List Nat} (hs : s.length = 16) (ht : t.length = 16) (h : xorB s k = xorB t k) : s = t :=
  eq_of_at hs ht fun i hi => by
    have := at_of_map h i hi
    have h2 : s.getD i 0 ^^^ k.getD i 0 ^^^ k.getD i 0 = t.getD i 0 ^^^ k.getD i 0 ^^^ k.getD i 0 := by rw [this]
    rwa [xor_back, xor_back] at h2
theorem sbox_inj : ∀ a, a < 256 → ∀ b, b < 256 → sbox a = sbox b → a = b := by
  have h : ((List.range 256).all fun a => (List.range 256).all fun b => !(sbox a == sbox b) || (a == b)) = true := by decide +kernel
  intro a ha b hb e
  have h1 := List.all_eq_true.1 (List.all_eq_true.1 h a (List.mem_range.2 ha)) b (List.mem_range.2 hb)
  rw [e] at h1
  simpa using h1
theorem subB_inj {s t : List Nat} (hs : s.length = 16) (ht : t.length = 16) (hsb : ∀ x ∈ s, x < 256) (htb : ∀ x ∈ t, x < 256) (h : subB s = subB t) : s = t :=
  eq_of_at hs ht fun i hi => sbox_inj _ (getD_lt hsb i (by decide)) _ (getD_lt htb i (by decide)) (at_of_map h i hi)
theorem shiftB_inj {s t : List Nat} (hs : s.length = 16) (ht : t.length = 16) (h : shiftB s = shiftB t) : s = t :=
  eq_of_at hs ht fun i hi => by
    have := at_of_map h ((i + i % 4 * 12) % 16) (Nat.mod_lt _ (by decide))
    rwa [show ((i + i % 4 * 12) % 16 + (i + i % 4 * 12) % 16 % 4 * 4) % 16 = i from by omega] at this
theorem mixB_get (s : List Nat) (i : Nat) (hi : i < 16) : (mixB s).getD i 0 = mixC (s.getD (i / 4 * 4 + i % 4) 0) (s.getD (i / 4 * 4 + (i + 1) % 4) 0) (s.getD (i / 4 * 4 + (i + 2) % 4) 0) (s.getD (i / 4 * 4 + (i + 3) % 4) 0) := map_range_get _ 16 i hi
/-- What a column is mixed to twice. -/
theorem mixB2_get (s : List Nat) (hb : ∀ x ∈ s, x < 256) (i : Nat) (hi : i < 16) : (mixB (mixB s)).getD i 0 = dbl (dbl (s.getD i 0 ^^^ s.getD (i / 4 * 4 + (i + 2) % 4) 0)) ^^^ s.getD i 0 := by
  have hl := fun j => getD_lt hb j (by decide)
  rw [mixB_get _ i hi, mixB_get _ _ (by omega), mixB_get _ _ (by omega), mixB_get _ _ (by omega), mixB_get _ _ (by omega)]
  have e0 : i / 4 * 4 + i % 4 = i := by omega
  have a0 : (i / 4 * 4 + i % 4) / 4 * 4 = i / 4 * 4 := by omega
  have a1 : (i / 4 * 4 + (i + 1) % 4) / 4 * 4 = i / 4 * 4 := by omega
  have a2 : (i / 4 * 4 + (i + 2) % 4) / 4 * 4 = i / 4 * 4 := by omega
  have a3 : (i / 4 * 4 + (i + 3) % 4) / 4 * 4 = i / 4 * 4 := by omega
  rw [a0, a1, a2, a3]
  have b : ∀ j k, (i / 4 * 4 + (i + j) % 4 + k) % 4 = (i + (j + k) % 4) % 4 := fun j k => by omega
  have b0 : ∀ k, (i / 4 * 4 + i % 4 + k) % 4 = (i + k) % 4 := fun k => by omega
  have c0 : (i / 4 * 4 + i % 4) % 4 = i % 4 := by omega
  have c : ∀ j, (i / 4 * 4 + (i + j) % 4) % 4 = (i + j) % 4 := fun j => by omega
  simp only [b, b0, c0, c, Nat.reduceAdd, Nat.reduceMod, Nat.add_zero]
  rw [mix2 (hl _) (hl _) (hl _) (hl _), e0]
theorem mixB_four (s : List Nat) (hs : s.length = 16) (hb : ∀ x ∈ s, x < 256) : mixB (mixB (mixB (mixB s))) = s :=
  eq_of_at (mixB_len _) hs fun i hi => by
    have hb2 : ∀ x ∈ mixB (mixB s), x < 256 := mixB_lt (mixB_lt hb)
    rw [mixB2_get _ hb2 i hi, mixB2_get s hb i hi, mixB2_get s hb _ (by omega)]
    rw [show (i / 4 * 4 + (i + 2) % 4) / 4 * 4 + (i / 4 * 4 + (i + 2) % 4 + 2) % 4 = i from by omega]
    exact mix4 (getD_lt hb _ (by decide)) (getD_lt hb _ (by decide))
theorem mixB_inj {s t : List Nat} (hs : s.length = 16) (ht : t.length = 16) (hsb : ∀ x ∈ s, x < 256) (htb : ∀ x ∈ t, x < 256) (h : mixB s = mixB t) : s = t := by
  rw [← mixB_four s hs hsb, ← mixB_four t ht htb, h]
theorem stepB_inj {ks s t : List Nat} (r : Nat) (hs : s.length = 16) (ht : t.length = 16) (hsb : ∀ x ∈ s, x < 256) (htb : ∀ x ∈ t, x < 256) (h : stepB ks s r = stepB ks t r) : s = t := by
  unfold stepB at h
  have h1 := xorB_inj (by split <;> first | exact mixB_len _ | exact shiftB_len _) (by split <;> first | exact mixB_len _ | exact shiftB_len _) h
  have h2 : shiftB (subB s) = shiftB (subB t) := by
    split at h1
    · exact mixB_inj (shiftB_len _) (shiftB_len _) (shiftB_lt (subB_lt _)) (shiftB_lt (subB_lt _)) h1
    · exact h1
  exact subB_inj hs ht hsb htb (shiftB_inj (subB_len _) (subB_len _) h2)
theorem roundsB_inj {ks s t : List Nat} (hk : ∀ x ∈ ks, x < 256) (hs : s.length = 16) (ht : t.length = 16) (hsb : ∀ x ∈ s, x < 256) (htb : ∀ x ∈ t, x < 256) : ∀ r, roundsB ks s r = roundsB ks t r → s = t
  | 0, h => xorB_inj hs ht h
  | r + 1, h => roundsB_inj hk hs ht hsb htb r (stepB_inj (r + 1) (roundsB_len _ _ _) (roundsB_len _ _ _) (roundsB_lt hsb hk r) (roundsB_lt htb hk r) h)
theorem cipherN_inj {key s t : List Nat} (hk : ∀ x ∈ key, x < 256) (hs : s.length = 16) (ht : t.length = 16) (hsb : ∀ x ∈ s, x < 256) (htb : ∀ x ∈ t, x < 256) : (cipherN key s = cipherN key t) ↔ s = t :=
  ⟨fun h => roundsB_inj (keysN_lt hk _) hs ht hsb htb 10 h, fun h => by rw [h]⟩
end Go.Proofs.Ytmimpodbmfmeiaa
