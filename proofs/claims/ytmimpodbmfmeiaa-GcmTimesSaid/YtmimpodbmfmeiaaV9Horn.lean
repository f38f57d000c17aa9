/- Layer 9 (gcm), plain: sums, polynomial by polynomial. No program is named here. -/
import Derived.Test.YtmimpodbmfmeiaaV9Sum
import Derived.Test.YtmimpodbmfmeiaaV9Poly
namespace Go.Proofs.Ytmimpodbmfmeiaa

theorem polB_congr {l m : List Nat} (h : ∀ i, i < 16 → l.getD i 0 = m.getD i 0) : polB l = polB m :=
  ofB_congr fun i hi => by unfold polBit; rw [h (i / 8) (by omega)]
/-- The sum behind the first k blocks of l, from y on, by h. -/
def hornS (h y : Nat) (l : List Nat) : Nat → Nat
  | 0 => y
  | k + 1 => gM h (hornS h y l k ^^^ polB (l.drop (16 * k)))
theorem hornS_lt {h y : Nat} (hh : h < 2 ^ 128) (hy : y < 2 ^ 128) (l : List Nat) : ∀ k, hornS h y l k < 2 ^ 128
  | 0 => hy
  | _ + 1 => gM_lt hh _
theorem hornS_add (h y : Nat) (l : List Nat) (a : Nat) : ∀ b, hornS h y l (a + b) = hornS h (hornS h y l a) (l.drop (16 * a)) b
  | 0 => rfl
  | b + 1 => by
    rw [← Nat.add_assoc, hornS, hornS_add h y l a b, hornS, List.drop_drop, show 16 * (a + b) = 16 * a + 16 * b from by omega]
theorem hornS_congr {h y : Nat} {l m : List Nat} : ∀ n, (∀ k, k < n → polB (l.drop (16 * k)) = polB (m.drop (16 * k))) → hornS h y l n = hornS h y m n
  | 0, _ => rfl
  | n + 1, e => by rw [hornS, hornS, hornS_congr n (fun k hk => e k (by omega)), e n (by omega)]
theorem polB_tms (a b : List Nat) : polB (tmsB a b) = gM (polB a) (polB b) := polB_nblk (gM_lt (polB_lt a) _)
theorem polB_xorB (a b : List Nat) : polB (xorB a b) = polB a ^^^ polB b := polB_xor a b
theorem ghS_horn (h all : List Nat) : ∀ n, polB (ghS h all n) = hornS (polB h) 0 all n
  | 0 => by
    show polB (List.replicate 16 0) = 0
    decide +kernel
  | n + 1 => by
    rw [ghS, polB_tms, hornS, gM_comm (polB_lt _) (polB_lt _), polB_xorB, ghS_horn h all n]
theorem padB_get (l : List Nat) (i : Nat) : (padB l).getD i 0 = l.getD i 0 := by
  unfold padB
  rw [List.getD_eq_getElem?_getD, List.getD_eq_getElem?_getD, List.getElem?_append]
  split
  · rfl
  · rename_i h
    rw [List.getElem?_eq_none (by omega : l.length ≤ i), List.getElem?_replicate]
    split <;> rfl
theorem drop_get (l : List Nat) (k i : Nat) : (l.drop k).getD i 0 = l.getD (k + i) 0 := by
  rw [List.getD_eq_getElem?_getD, List.getD_eq_getElem?_getD, List.getElem?_drop]
theorem pad_blk (l m : List Nat) (k : Nat) (hk : k < (l.length + 15) / 16) : polB ((padB l ++ m).drop (16 * k)) = polB (l.drop (16 * k)) :=
  polB_congr fun i hi => by
    have hp := padB_len l
    rw [drop_get, drop_get, ← padB_get l (16 * k + i), List.getD_eq_getElem?_getD, List.getD_eq_getElem?_getD, List.getElem?_append_left (by omega)]
theorem sumG_horn (h more text : List Nat) : polB (sumG h more text) = gM (polB h) (hornS (polB h) (hornS (polB h) 0 more ((more.length + 15) / 16)) text ((text.length + 15) / 16) ^^^ polB (len8 (8 * more.length) ++ len8 (8 * text.length))) := by
  unfold sumG blocksG
  rw [ghS_horn, hornS_add, hornS_add]
  have hm := padB_len more
  have ht := padB_len text
  have e1 : (allG more text).drop (16 * ((more.length + 15) / 16)) = padB text ++ (len8 (8 * more.length) ++ len8 (8 * text.length)) := by
    unfold allG
    rw [List.append_assoc, List.drop_append_of_le_length (by omega), List.drop_of_length_le (by omega), List.nil_append]
  have e2 : (allG more text).drop (16 * ((more.length + 15) / 16 + (text.length + 15) / 16)) = len8 (8 * more.length) ++ len8 (8 * text.length) := by
    rw [Nat.mul_add, ← List.drop_drop, e1, List.drop_append_of_le_length (by omega), List.drop_of_length_le (by omega), List.nil_append]
  rw [e1, e2]
  have e3 : hornS (polB h) 0 (allG more text) ((more.length + 15) / 16) = hornS (polB h) 0 more ((more.length + 15) / 16) := by
    refine hornS_congr _ fun k hk => ?_
    unfold allG
    rw [List.append_assoc]
    exact pad_blk more _ k hk
  have e4 : ∀ y, hornS (polB h) y (padB text ++ (len8 (8 * more.length) ++ len8 (8 * text.length))) ((text.length + 15) / 16) = hornS (polB h) y text ((text.length + 15) / 16) := fun y => hornS_congr _ fun k hk => pad_blk text _ k hk
  rw [e3, e4]
  rfl
theorem sumG_bpol (h more text : List Nat) : bpol (polB (sumG h more text)) = sumG h more text := bpol_polB (sumG_len _ _ _) (sumG_lt _ _ _)
theorem foldB_len8 (n : Nat) (h : n < 2 ^ 64) : foldB 0 (len8 n) = n := by
  unfold foldB len8
  simp only [List.range, List.range.loop, List.map_cons, List.map_nil, List.foldl_cons, List.foldl_nil, Nat.reduceSub, Nat.reducePow]
  omega
theorem lens_words (a b : Nat) (ha : a < 2 ^ 64) (hb : b < 2 ^ 64) : fW (polB (len8 a ++ len8 b)) = a ∧ lW (polB (len8 a ++ len8 b)) = b := by
  have hl : (len8 a ++ len8 b).length = 16 := by simp [len8_len]
  have hlt : ∀ x ∈ len8 a ++ len8 b, x < 256 := by
    intro x hx
    rcases List.mem_append.1 hx with hx | hx <;> exact len8_lt _ x hx
  refine ⟨?_, ?_⟩
  · rw [← fW_pol _ hl hlt, List.take_append_of_le_length (by rw [len8_len]; exact Nat.le_refl _), List.take_of_length_le (by rw [len8_len]; exact Nat.le_refl _), foldB_len8 a ha]
  · rw [← lW_pol _ hl hlt, List.drop_append_of_le_length (by rw [len8_len]; exact Nat.le_refl _), List.drop_of_length_le (by rw [len8_len]; exact Nat.le_refl _), List.nil_append, foldB_len8 b hb]
/-- A block that is filled up. -/
theorem polB_fill (l : List Nat) (n : Nat) : polB (l.take 16 ++ List.replicate n 0) = polB l :=
  polB_congr fun i hi => by
    rw [List.getD_eq_getElem?_getD, List.getD_eq_getElem?_getD, List.getElem?_append]
    split
    · rw [List.getElem?_take, if_pos hi]
    · rename_i h
      rw [List.length_take] at h
      rw [List.getElem?_eq_none (by omega : l.length ≤ i), List.getElem?_replicate]
      split <;> rfl
theorem xor_bpol {s e : List Nat} (hs : s.length = 16) (hsb : ∀ x ∈ s, x < 256) (he : e.length = 16) (heb : ∀ x ∈ e, x < 256) : bpol (polB s ^^^ polB e) = xorB s e := by
  rw [bpol_xor, bpol_polB hs hsb, bpol_polB he heb]
  rfl
end Go.Proofs.Ytmimpodbmfmeiaa
