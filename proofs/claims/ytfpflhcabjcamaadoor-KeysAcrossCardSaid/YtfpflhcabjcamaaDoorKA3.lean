/- Texts joined: V8Inj, V8Plain, V8RMath. -/
import Derived.Test.YtfpflhcabjcamaaDoorKA1
import Derived.Test.YtfpflhcabjcamaaDoorKM
import Derived.Test.YtfpflhcabjcamaaDoorKA2

namespace Go.Proofs.YtfpflhcabjcamaaDoor

theorem xor_back (a b : Nat) : a ^^^ b ^^^ b = a := by rw [Nat.xor_assoc, Nat.xor_self, Nat.xor_zero]
theorem xor_xb (a b : Nat) : a ^^^ (a ^^^ b) = b := by rw [← Nat.xor_assoc, Nat.xor_self, Nat.zero_xor]
theorem xor_lc (a b c : Nat) : a ^^^ (b ^^^ c) = b ^^^ (a ^^^ c) := by rw [← Nat.xor_assoc, Nat.xor_comm a b, Nat.xor_assoc]
/-- Mixed twice. -/
theorem mix2 {p q r s : Nat} (hp : p < 256) (hq : q < 256) (hr : r < 256) (hs : s < 256) :
    mixC (mixC p q r s) (mixC q r s p) (mixC r s p q) (mixC s p q r) = dbl (dbl (p ^^^ r)) ^^^ p := by
  have h1 : mixC p q r s ^^^ mixC q r s p = dbl (p ^^^ r) ^^^ p ^^^ q := by
    unfold mixC
    rw [dbl_xor hp hq, dbl_xor hq hr, dbl_xor hp hr]
    simp only [Nat.xor_assoc, Nat.xor_comm, xor_lc, xor_xb]
  rw [mixC, h1]
  unfold mixC
  rw [dbl_xor (xor8_lt (dbl_lt (xor8_lt hp hr)) hp) hq, dbl_xor (dbl_lt (xor8_lt hp hr)) hp, dbl_xor hq hr, dbl_xor hr hs, dbl_xor hs hp]
  simp only [Nat.xor_assoc, Nat.xor_comm, xor_lc, xor_xb]
/-- Mixed four times. -/
theorem mix4 {p r : Nat} (_ : p < 256) (_ : r < 256) : dbl (dbl ((dbl (dbl (p ^^^ r)) ^^^ p) ^^^ (dbl (dbl (r ^^^ p)) ^^^ r))) ^^^ (dbl (dbl (p ^^^ r)) ^^^ p) = p := by
  rw [Nat.xor_comm r p]
  obtain ⟨x, hx⟩ : ∃ x, dbl (dbl (p ^^^ r)) = x := ⟨_, rfl⟩
  have h : (x ^^^ p) ^^^ (x ^^^ r) = p ^^^ r := by simp only [Nat.xor_assoc, xor_lc, xor_xb]
  rw [hx, h, hx, xor_xb]

/-- Lists of 16 numbers that are the same at each place. -/
theorem eq_of_at {s t : List Nat} (hs : s.length = 16) (ht : t.length = 16) (h : ∀ i, i < 16 → s.getD i 0 = t.getD i 0) : s = t := by
  rw [← list_eta s 16 hs, ← list_eta t 16 ht]
  apply List.map_congr_left
  intro i hi
  exact h i (List.mem_range.1 hi)
theorem at_of_map {f g : Nat → Nat} (h : (List.range 16).map f = (List.range 16).map g) (i : Nat) (hi : i < 16) : f i = g i := by
  have := congrArg (fun l => l.getD i 0) h
  simpa only [map_range_get f 16 i hi, map_range_get g 16 i hi] using this
theorem xorB_inj {s t k : List Nat} (hs : s.length = 16) (ht : t.length = 16) (h : xorB s k = xorB t k) : s = t :=
  eq_of_at hs ht fun i hi => by
    have := at_of_map h i hi
    have h2 : s.getD i 0 ^^^ k.getD i 0 ^^^ k.getD i 0 = t.getD i 0 ^^^ k.getD i 0 ^^^ k.getD i 0 := by rw [this]
    rwa [xor_back, xor_back] at h2
theorem sbox_inj : ∀ a, a < 256 → ∀ b, b < 256 → sbox a = sbox b → a = b := by
  have h : ((List.range 256).all fun a => (List.range 256).all fun b => !(sbox a == sbox b) || (a == b)) = true := by decide +kernel
  intro a ha b hb e
  have h1 := List.all_eq_true.1 (List.all_eq_true.1 h a (List.mem_range.2 ha)) b (List.mem_range.2 hb)
  rw [e] at h1
  simpa using h1
theorem subB_inj {s t : List Nat} (hs : s.length = 16) (ht : t.length = 16) (hsb : ∀ x ∈ s, x < 256) (htb : ∀ x ∈ t, x < 256) (h : subB s = subB t) : s = t :=
  eq_of_at hs ht fun i hi => sbox_inj _ (getD_lt hsb i (by decide)) _ (getD_lt htb i (by decide)) (at_of_map h i hi)
theorem shiftB_inj {s t : List Nat} (hs : s.length = 16) (ht : t.length = 16) (h : shiftB s = shiftB t) : s = t :=
  eq_of_at hs ht fun i hi => by
    have := at_of_map h ((i + i % 4 * 12) % 16) (Nat.mod_lt _ (by decide))
    rwa [show ((i + i % 4 * 12) % 16 + (i + i % 4 * 12) % 16 % 4 * 4) % 16 = i from by omega] at this
theorem mixB_get (s : List Nat) (i : Nat) (hi : i < 16) : (mixB s).getD i 0 = mixC (s.getD (i / 4 * 4 + i % 4) 0) (s.getD (i / 4 * 4 + (i + 1) % 4) 0) (s.getD (i / 4 * 4 + (i + 2) % 4) 0) (s.getD (i / 4 * 4 + (i + 3) % 4) 0) := map_range_get _ 16 i hi
/-- What a column is mixed to twice. -/
theorem mixB2_get (s : List Nat) (hb : ∀ x ∈ s, x < 256) (i : Nat) (hi : i < 16) : (mixB (mixB s)).getD i 0 = dbl (dbl (s.getD i 0 ^^^ s.getD (i / 4 * 4 + (i + 2) % 4) 0)) ^^^ s.getD i 0 := by
  have hl := fun j => getD_lt hb j (by decide)
  rw [mixB_get _ i hi, mixB_get _ _ (by omega), mixB_get _ _ (by omega), mixB_get _ _ (by omega), mixB_get _ _ (by omega)]
  have e0 : i / 4 * 4 + i % 4 = i := by omega
  have a0 : (i / 4 * 4 + i % 4) / 4 * 4 = i / 4 * 4 := by omega
  have a1 : (i / 4 * 4 + (i + 1) % 4) / 4 * 4 = i / 4 * 4 := by omega
  have a2 : (i / 4 * 4 + (i + 2) % 4) / 4 * 4 = i / 4 * 4 := by omega
  have a3 : (i / 4 * 4 + (i + 3) % 4) / 4 * 4 = i / 4 * 4 := by omega
  rw [a0, a1, a2, a3]
  have b : ∀ j k, (i / 4 * 4 + (i + j) % 4 + k) % 4 = (i + (j + k) % 4) % 4 := fun j k => by omega
  have b0 : ∀ k, (i / 4 * 4 + i % 4 + k) % 4 = (i + k) % 4 := fun k => by omega
  have c0 : (i / 4 * 4 + i % 4) % 4 = i % 4 := by omega
  have c : ∀ j, (i / 4 * 4 + (i + j) % 4) % 4 = (i + j) % 4 := fun j => by omega
  simp only [b, b0, c0, c, Nat.reduceAdd, Nat.reduceMod, Nat.add_zero]
  rw [mix2 (hl _) (hl _) (hl _) (hl _), e0]
theorem mixB_four (s : List Nat) (hs : s.length = 16) (hb : ∀ x ∈ s, x < 256) : mixB (mixB (mixB (mixB s))) = s :=
  eq_of_at (mixB_len _) hs fun i hi => by
    have hb2 : ∀ x ∈ mixB (mixB s), x < 256 := mixB_lt (mixB_lt hb)
    rw [mixB2_get _ hb2 i hi, mixB2_get s hb i hi, mixB2_get s hb _ (by omega)]
    rw [show (i / 4 * 4 + (i + 2) % 4) / 4 * 4 + (i / 4 * 4 + (i + 2) % 4 + 2) % 4 = i from by omega]
    exact mix4 (getD_lt hb _ (by decide)) (getD_lt hb _ (by decide))
theorem mixB_inj {s t : List Nat} (hs : s.length = 16) (ht : t.length = 16) (hsb : ∀ x ∈ s, x < 256) (htb : ∀ x ∈ t, x < 256) (h : mixB s = mixB t) : s = t := by
  rw [← mixB_four s hs hsb, ← mixB_four t ht htb, h]
theorem stepB_inj {ks s t : List Nat} (r : Nat) (hs : s.length = 16) (ht : t.length = 16) (hsb : ∀ x ∈ s, x < 256) (htb : ∀ x ∈ t, x < 256) (h : stepB ks s r = stepB ks t r) : s = t := by
  unfold stepB at h
  have h1 := xorB_inj (by split <;> first | exact mixB_len _ | exact shiftB_len _) (by split <;> first | exact mixB_len _ | exact shiftB_len _) h
  have h2 : shiftB (subB s) = shiftB (subB t) := by
    split at h1
    · exact mixB_inj (shiftB_len _) (shiftB_len _) (shiftB_lt (subB_lt _)) (shiftB_lt (subB_lt _)) h1
    · exact h1
  exact subB_inj hs ht hsb htb (shiftB_inj (subB_len _) (subB_len _) h2)
theorem roundsB_inj {ks s t : List Nat} (hk : ∀ x ∈ ks, x < 256) (hs : s.length = 16) (ht : t.length = 16) (hsb : ∀ x ∈ s, x < 256) (htb : ∀ x ∈ t, x < 256) : ∀ r, roundsB ks s r = roundsB ks t r → s = t
  | 0, h => xorB_inj hs ht h
  | r + 1, h => roundsB_inj hk hs ht hsb htb r (stepB_inj (r + 1) (roundsB_len _ _ _) (roundsB_len _ _ _) (roundsB_lt hsb hk r) (roundsB_lt htb hk r) h)
theorem cipherN_inj {key s t : List Nat} (hk : ∀ x ∈ key, x < 256) (hs : s.length = 16) (ht : t.length = 16) (hsb : ∀ x ∈ s, x < 256) (htb : ∀ x ∈ t, x < 256) : (cipherN key s = cipherN key t) ↔ s = t :=
  ⟨fun h => roundsB_inj (keysN_lt hk _) hs ht hsb htb 10 h, fun h => by rw [h]⟩
end Go.Proofs.YtfpflhcabjcamaaDoor

namespace Go.Proofs.YtfpflhcabjcamaaDoor
open Go.RowKit

theorem u8_nat {x : Int} (h : (Lit.int .u8 x).wf = true) : ∃ n : Nat, x = (n : Int) ∧ n < 256 := by
  have h2 : (decide (0 ≤ x) && decide (x ≤ 255)) = true := h
  simp only [Bool.and_eq_true, decide_eq_true_eq] at h2
  exact ⟨x.toNat, by omega, by omega⟩
theorem eq_of_get {s t : List Nat} (n : Nat) (hs : s.length = n) (ht : t.length = n) (h : ∀ i, i < n → s.getD i 0 = t.getD i 0) : s = t := by
  rw [← list_eta s n hs, ← list_eta t n ht]
  apply List.map_congr_left
  intro i hi
  exact h i (List.mem_range.1 hi)
theorem streamN_get (key first text : List Nat) (i : Nat) (hi : i < text.length) : (streamN key first text).getD i 0 = text.getD i 0 ^^^ padAt key first i := map_range_get _ _ i hi
/-- Enciphered twice. -/
theorem stream_back (key first text : List Nat) : streamN key first (streamN key first text) = text :=
  eq_of_get text.length (by rw [streamN_len, streamN_len]) rfl fun i hi => by
    rw [streamN_get _ _ _ i (by rw [streamN_len]; exact hi), streamN_get _ _ _ i hi, xor_back]
theorem take_get (l : List Nat) (k i : Nat) (h : i < k) : (l.take k).getD i 0 = l.getD i 0 := by
  rw [List.getD_eq_getElem?_getD, List.getD_eq_getElem?_getD, List.getElem?_take, if_pos h]
theorem stream_take (key first text : List Nat) (k : Nat) (hk : k ≤ text.length) : streamN key first (text.take k) = (streamN key first text).take k :=
  eq_of_get k (by rw [streamN_len, List.length_take]; omega) (by rw [List.length_take, streamN_len]; omega) fun i hi => by
    rw [streamN_get _ _ _ i (by rw [List.length_take]; omega), take_get _ _ _ hi, take_get _ _ _ hi, streamN_get _ _ _ i (by omega)]
end Go.Proofs.YtfpflhcabjcamaaDoor

namespace Go.Proofs.YtfpflhcabjcamaaDoor

/-- Where a place lies in the other order. -/
def posT (j : Nat) : Nat := j % 4 * 4 + j / 4
theorem posT_lt {j : Nat} (h : j < 16) : posT j < 16 := by unfold posT; omega
theorem posT_posT {j : Nat} (h : j < 16) : posT (posT j) = j := by unfold posT; omega
/-- A list filled in the other order, up to k. -/
def trP (f : Nat → Nat) (l : List Nat) (k : Nat) : List Nat := (List.range 16).map fun j => if posT j < k then f (posT j) else l.getD j 0
theorem trP_len (f : Nat → Nat) (l : List Nat) (k : Nat) : (trP f l k).length = 16 := by simp [trP]
theorem trP_0 (f : Nat → Nat) (l : List Nat) (h : l.length = 16) : trP f l 0 = l := by
  unfold trP
  simp only [Nat.not_lt_zero, if_false]
  exact list_eta l 16 h
theorem trP_set (f : Nat → Nat) (l : List Nat) (k : Nat) (h : k < 16) : (trP f l k).set (posT k) (f k) = trP f l (k + 1) := by
  apply List.ext_getElem
  · simp [trP]
  intro i h1 h2
  rw [List.getElem_set]
  simp only [trP, List.getElem_map, List.getElem_range]
  have hi : i < 16 := by simpa [trP] using h2
  by_cases e : posT k = i
  · subst e
    rw [if_pos rfl, posT_posT h, if_pos (by omega)]
  · rw [if_neg e]
    have : posT i ≠ k := fun x => e (by rw [← x, posT_posT hi])
    by_cases e2 : posT i < k
    · rw [if_pos e2, if_pos (by omega)]
    · rw [if_neg e2, if_neg (by omega)]
/-- A block in the other order. -/
def trB (l : List Nat) : List Nat := (List.range 16).map fun j => l.getD (posT j) 0
theorem trB_len (l : List Nat) : (trB l).length = 16 := by simp [trB]
theorem trB_get (l : List Nat) (j : Nat) (h : j < 16) : (trB l).getD j 0 = l.getD (posT j) 0 := map_range_get _ 16 j h
theorem trP_all (f : Nat → Nat) (l : List Nat) : trP f l 16 = trB ((List.range 16).map f) := by
  unfold trP trB
  apply List.map_congr_left
  intro j hj
  have hj : j < 16 := List.mem_range.1 hj
  rw [if_pos (posT_lt hj), map_range_get f 16 _ (posT_lt hj)]
theorem trB_trB (l : List Nat) (h : l.length = 16) : trB (trB l) = l :=
  eq_of_at (trB_len _) h fun i hi => by rw [trB_get _ _ hi, trB_get _ _ (posT_lt hi), posT_posT hi]
theorem trB_lt {l : List Nat} (h : ∀ x ∈ l, x < 256) : ∀ x ∈ trB l, x < 256 := by
  intro x hx
  simp only [trB, List.mem_map] at hx
  obtain ⟨i, _, rfl⟩ := hx
  exact getD_lt h _ (by decide)
/-- Boxes, and rows turned. -/
def boxT (s : List Nat) (m : Nat) : Nat := sbox (s.getD (m / 4 * 4 + (m % 4 + m / 4) % 4) 0)
theorem boxT_all (s : List Nat) : (List.range 16).map (boxT (trB s)) = trB (shiftB (subB s)) :=
  eq_of_at (by simp) (trB_len _) fun i hi => by
    rw [map_range_get _ 16 i hi, trB_get _ _ hi, boxT, trB_get _ _ (by omega)]
    unfold shiftB subB
    rw [map_range_get _ 16 _ (posT_lt hi), map_range_get _ 16 _ (by omega)]
    unfold posT
    rw [(show ∀ i, i < 16 → (i / 4 * 4 + (i % 4 + i / 4) % 4) % 4 * 4 + (i / 4 * 4 + (i % 4 + i / 4) % 4) / 4 = (i % 4 * 4 + i / 4 + (i % 4 * 4 + i / 4) % 4 * 4) % 16 from by decide) i hi]
/-- Columns mixed, up to c. -/
def mixV4 (p q r s : Nat) : Nat := mulN p 2 ^^^ mulN q 3 ^^^ r ^^^ s
theorem mixV4_eq {p q : Nat} (r s : Nat) (hp : p < 256) (hq : q < 256) : mixV4 p q r s = mixC p q r s := by
  rw [mixV4, mixC, mul_two hp, mul_three hq, dbl_xor hp hq]
  simp only [Nat.xor_assoc, xor_lc]
def mixT (n : List Nat) (j : Nat) : Nat := mixC (n.getD (j / 4 * 4 + j % 4) 0) (n.getD ((j / 4 + 1) % 4 * 4 + j % 4) 0) (n.getD ((j / 4 + 2) % 4 * 4 + j % 4) 0) (n.getD ((j / 4 + 3) % 4 * 4 + j % 4) 0)
def mixP (n : List Nat) (c : Nat) : List Nat := (List.range 16).map fun j => if j % 4 < c then mixT n j else n.getD j 0
theorem mixP_len (n : List Nat) (c : Nat) : (mixP n c).length = 16 := by simp [mixP]
theorem mixP_0 (n : List Nat) (h : n.length = 16) : mixP n 0 = n := by
  unfold mixP
  simp only [Nat.not_lt_zero, if_false]
  exact list_eta n 16 h
theorem mixP_set (n : List Nat) (c : Nat) (h : c < 4) : ((((mixP n c).set c (mixT n c)).set (4 + c) (mixT n (4 + c))).set (8 + c) (mixT n (8 + c))).set (12 + c) (mixT n (12 + c)) = mixP n (c + 1) := by
  apply List.ext_getElem
  · simp [mixP]
  intro i h1 h2
  have hi : i < 16 := by simpa [mixP] using h2
  simp only [List.getElem_set, mixP, List.getElem_map, List.getElem_range]
  by_cases e3 : 12 + c = i
  · subst e3; rw [if_pos rfl, if_pos (by omega)]
  rw [if_neg e3]
  by_cases e2 : 8 + c = i
  · subst e2; rw [if_pos rfl, if_pos (by omega)]
  rw [if_neg e2]
  by_cases e1 : 4 + c = i
  · subst e1; rw [if_pos rfl, if_pos (by omega)]
  rw [if_neg e1]
  by_cases e0 : c = i
  · subst e0; rw [if_pos rfl, if_pos (by omega)]
  rw [if_neg e0]
  by_cases e : i % 4 < c
  · rw [if_pos e, if_pos (by omega)]
  · rw [if_neg e, if_neg (by omega)]
theorem mixP_all (n : List Nat) : mixP (trB n) 4 = trB (mixB n) :=
  eq_of_at (mixP_len _ _) (trB_len _) fun i hi => by
    unfold mixP
    rw [map_range_get _ 16 i hi, if_pos (Nat.mod_lt _ (by decide)), trB_get _ _ hi, mixB_get _ _ (posT_lt hi), mixT]
    rw [trB_get _ _ (by omega), trB_get _ _ (by omega), trB_get _ _ (by omega), trB_get _ _ (by omega)]
    unfold posT
    have e : ∀ k, k < 4 → ((i / 4 + k) % 4 * 4 + i % 4) % 4 * 4 + ((i / 4 + k) % 4 * 4 + i % 4) / 4 = (i % 4 * 4 + i / 4) / 4 * 4 + (i % 4 * 4 + i / 4 + k) % 4 := fun k hk => (show ∀ k, k < 4 → ∀ i, i < 16 → ((i / 4 + k) % 4 * 4 + i % 4) % 4 * 4 + ((i / 4 + k) % 4 * 4 + i % 4) / 4 = (i % 4 * 4 + i / 4) / 4 * 4 + (i % 4 * 4 + i / 4 + k) % 4 from by decide) k hk i hi
    rw [e 1 (by decide), e 2 (by decide), e 3 (by decide), show (i / 4 * 4 + i % 4) % 4 * 4 + (i / 4 * 4 + i % 4) / 4 = (i % 4 * 4 + i / 4) / 4 * 4 + (i % 4 * 4 + i / 4) % 4 from by omega]
/-- A step of the rounds, row by row. -/
theorem stepT (ks s : List Nat) (r : Nat) : (List.range 16).map (fun i => ((if r < 10 then mixP (trB (shiftB (subB s))) 4 else trB (shiftB (subB s))).getD (posT i) 0) ^^^ ks.getD (16 * r + i) 0) = stepB ks s r := by
  unfold stepB xorB
  apply List.map_congr_left
  intro i hi
  have hi : i < 16 := List.mem_range.1 hi
  have hd : (ks.drop (16 * r)).getD i 0 = ks.getD (16 * r + i) 0 := by rw [List.getD_eq_getElem?_getD, List.getD_eq_getElem?_getD, List.getElem?_drop]
  rw [hd]
  congr 1
  by_cases h : r < 10
  · rw [if_pos h, if_pos h, mixP_all, trB_get _ _ (posT_lt hi), posT_posT hi]
  · rw [if_neg h, if_neg h, trB_get _ _ (posT_lt hi), posT_posT hi]
end Go.Proofs.YtfpflhcabjcamaaDoor
