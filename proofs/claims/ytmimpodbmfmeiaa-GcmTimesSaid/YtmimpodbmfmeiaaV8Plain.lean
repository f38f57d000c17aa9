/- Layer 8 (aes), plain: what is enciphered twice, and a text's beginning. No program is named here but in what it imports. -/
import Derived.Test.YtmimpodbmfmeiaaV8Stream
import Derived.Test.YtmimpodbmfmeiaaV8Inj
namespace Go.Proofs.Ytmimpodbmfmeiaa
open Go.RowKit

theorem u8_nat {x : Int} (h : (Lit.int .u8 x).wf = true) : ∃ n : Nat, x = (n : Int) ∧ n < 256 := by
  have h2 : (decide (0 ≤ x) && decide (x ≤ 255)) = true := h
  simp only [Bool.and_eq_true, decide_eq_true_eq] at h2
  exact ⟨x.toNat, by omega, by omega⟩
theorem eq_of_get {s t : List Nat} (n : Nat) (hs : s.length = n) (ht : t.length = n) (h : ∀ i, i < n → s.getD i 0 = t.getD i 0) : s = t := by
  rw [← list_eta s n hs, ← list_eta t n ht]
  apply List.map_congr_left
  intro i hi
  exact h i (List.mem_range.1 hi)
theorem streamN_get (key first text : List Nat) (i : Nat) (hi : i < text.length) : (streamN key first text).getD i 0 = text.getD i 0 ^^^ padAt key first i := map_range_get _ _ i hi
/-- Enciphered twice. -/
theorem stream_back (key first text : List Nat) : streamN key first (streamN key first text) = text :=
  eq_of_get text.length (by rw [streamN_len, streamN_len]) rfl fun i hi => by
    rw [streamN_get _ _ _ i (by rw [streamN_len]; exact hi), streamN_get _ _ _ i hi, xor_back]
theorem take_get (l : List Nat) (k i : Nat) (h : i < k) : (l.take k).getD i 0 = l.getD i 0 := by
  rw [List.getD_eq_getElem?_getD, List.getD_eq_getElem?_getD, List.getElem?_take, if_pos h]
theorem stream_take (key first text : List Nat) (k : Nat) (hk : k ≤ text.length) : streamN key first (text.take k) = (streamN key first text).take k :=
  eq_of_get k (by rw [streamN_len, List.length_take]; omega) (by rw [List.length_take, streamN_len]; omega) fun i hi => by
    rw [streamN_get _ _ _ i (by rw [List.length_take]; omega), take_get _ _ _ hi, take_get _ _ _ hi, streamN_get _ _ _ i (by omega)]
end Go.Proofs.Ytmimpodbmfmeiaa
