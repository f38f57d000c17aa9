/- Bytes as a string, over views: for every layer. -/
import Derived.Test.YtbmhoijdbhokaaaProg
import Derived.Test.YtbmhoijdbhokaaaBase
import Derived.BigQuiet
import Derived.Deep.QuietTactic
import Derived.Lib.Hide
import Derived.ChangeKeysEq
namespace Go.Proofs.Ytbmhoijdbhokaaa
open Go.RowKit

theorem run_string_view (w : World) (T : Nat → Prop) (A : Option Addr) (n cap : Nat) (l : List Nat) (h : View w T A n (u8s l)) :
    (convert 22 9 (.slice A n cap)).run Try.prog w = .ok (.string (strOfNums (l.map fun (x : Nat) => (x : Int)))) w := by
  rcases Nat.eq_zero_or_pos n with rfl | hn
  · have hl := h.1
    have : l = [] := List.eq_nil_of_length_eq_zero (by simpa using hl)
    subst this
    rw [run_convert_bytes_string w _ _ _ _ 0 cap Try.underlying22 Try.underlying5 Try.underlying9]
    cases A <;> simp [Conv.bytesToString, loadCells]
    all_goals rfl
  · obtain ⟨b, o, ha, _, _, hc⟩ := h.2 hn
    subst ha
    have hl := h.1
    simp at hl
    refine run_convert_bytes_arg w 22 5 Try.underlying22 Try.underlying5 b o n cap (l.map fun (x : Nat) => (x : Int)) (by simpa using hl) (fun i hi => ?_) 9 Try.underlying9
    have hi2 : i < l.length := by omega
    rw [hc i hi, u8s_get]
    simp [hi2, List.getD_eq_getElem?_getD]

theorem strOfNums_beq (l l' : List Nat) (hl : ∀ x ∈ l, x < 256) (hl' : ∀ x ∈ l', x < 256) :
    ((strOfNums (l.map fun (x : Nat) => (x : Int))).toList == (strOfNums (l'.map fun (x : Nat) => (x : Int))).toList) = decide (l = l') := by
  have e : ∀ l : List Nat, (strOfNums (l.map fun (x : Nat) => (x : Int))).toList = l.map UInt8.ofNat := fun l => by
    rw [ByteArray.toList_eq, strOfNums_data, List.map_map]; rfl
  rw [e, e]
  by_cases h : l = l'
  · subst h; simp
  · rw [decide_eq_false h]
    rw [beq_eq_false_iff_ne]
    intro hm
    apply h
    have : ∀ l l' : List Nat, (∀ x ∈ l, x < 256) → (∀ x ∈ l', x < 256) → l.map UInt8.ofNat = l'.map UInt8.ofNat → l = l' := by
      intro l
      induction l with
      | nil => intro l' _ _ h; cases l' with
        | nil => rfl
        | cons _ _ => cases h
      | cons a l ih =>
        intro l' h1 h2 h
        cases l' with
        | nil => cases h
        | cons b l' =>
          simp only [List.map_cons, List.cons.injEq] at h
          have ha := h1 a (by simp)
          have hb := h2 b (by simp)
          have hab : a = b := by
            have := congrArg UInt8.toNat h.1
            simp [Nat.mod_eq_of_lt ha, Nat.mod_eq_of_lt hb] at this
            exact this
          rw [hab, ih l' (fun x hx => h1 x (by simp [hx])) (fun x hx => h2 x (by simp [hx])) h.2]
    exact this l l' hl hl' hm

end Go.Proofs.Ytbmhoijdbhokaaa
