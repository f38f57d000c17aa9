/- The document's answer's Same, over views. -/
import Derived.Test.YtbmhoijdbhokaaaProg
import Derived.Test.YtbmhoijdbhokaaaBase
import Derived.BigQuiet
import Derived.Deep.QuietTactic
import Derived.Lib.Hide
namespace Go.Proofs.Ytbmhoijdbhokaaa
open Go.RowKit

/-- Same, over views. -/
theorem same_any (w : World) (T T' : Nat → Prop) (A A' : Option Addr) (c c' : Nat) (l l' : List Nat) (h : View w T A l.length (u8s l)) (h' : View w T' A' l'.length (u8s l')) (hl : l.length ≤ 1000000) :
    Calls Try.prog 13 #[.slice A l.length c, .slice A' l'.length c'] w fun e w' => e = .returned (.bool (decide (l = l'))) ∧ ∃ k, w' = w.drewN k := by
  by_cases hlen : l.length = l'.length
  · by_cases hz : l.length = 0
    · have e1 : l = [] := List.eq_nil_of_length_eq_zero hz
      have e2 : l' = [] := List.eq_nil_of_length_eq_zero (by omega)
      subst e1; subst e2
      go_enter Try.func13, Try.ntmps13
      go_wp2
      refine wp_loop_rounds 1 ?_
      rw [rounds_succ]
      go_wp2
      go_ret
      exact ⟨rfl, 0, rfl⟩
    · obtain ⟨b, o, rfl, hb, _, hc⟩ := h.2 (by omega)
      obtain ⟨b', o', rfl, hb', _, hc'⟩ := h'.2 (by omega)
      have hne : (((l.length : Nat) : Int) != (l'.length : Int)) = false := by rw [bne_eq_false_iff_eq]; omega
      have hlen' : l'.length ≤ 1000000 := by omega
      have HL := Lib.hid hlen
      clear hlen h h'
      have HC : Hid (∀ j, j < l.length → w.cell? ⟨b, o + j, none⟩ = some (.int .u8 ((l.getD j 0 : Nat) : Int))) := fun j hj => by rw [hc j hj, u8s_get]; simp [hj, List.getD]
      have HC' : Hid (∀ j, j < l'.length → w.cell? ⟨b', o' + j, none⟩ = some (.int .u8 ((l'.getD j 0 : Nat) : Int))) := fun j hj => by rw [hc' j hj, u8s_get]; simp [hj, List.getD]
      clear hc hc'
      go_enter Try.func13, Try.ntmps13
      go_wp2
      go_loopw [5] (fun i wr => ∃ k m : Nat, k ≤ l.length ∧ i = .int .i64 k ∧ wr = w.drewN m ∧ Hid (∀ j, j < k → l.getD j 0 = l'.getD j 0)) (fun i _ => l.length - (intOf i).toNat)
      case atStart => exact ⟨0, 0, Nat.zero_le _, rfl, rfl, fun j hj => absurd hj (by omega)⟩
      case round =>
        obtain ⟨k, m, hk, rfl, rfl, hpre⟩ := hrel
        by_cases hlt : k < l.length
        · have hlt' : k < l'.length := by have := HL.out; omega
          have c1 : w.cell? ⟨b, o + k, none⟩ = some (.int .u8 ((l.getD k 0 : Nat) : Int)) := HC.out k hlt
          have c2 : w.cell? ⟨b', o' + k, none⟩ = some (.int .u8 ((l'.getD k 0 : Nat) : Int)) := HC'.out k hlt'
          have hk0 : (0 : Int) ≤ (k : Int) := by omega
          have hk1 : (k : Int) < (l.length : Int) := by omega
          have hk2 : (k : Int) < (l'.length : Int) := by omega
          generalize hx : l.getD k 0 = x at c1
          generalize hy : l'.getD k 0 = y at c2
          have HX := Lib.hid hx
          have HY := Lib.hid hy
          clear hx hy
          by_cases hxy : x = y
          · have hne2 : (((x : Nat) : Int) != (y : Int)) = false := by rw [bne_eq_false_iff_eq]; omega
            have HXY := Lib.hid hxy
            clear hxy
            go_wp2
            go_quiet (fail)
            go_wp2
            go_roundw
            case rel =>
              refine ⟨k + 1, m + nq, by omega, by go_num, rfl, ?_⟩
              intro j hj
              rcases Nat.lt_or_ge j k with hjk | hjk
              · exact hpre.out j hjk
              · have : j = k := by omega
                subst this
                rw [HX.out, HY.out, HXY.out]
            case measure => simp [intOf]; omega
          · have hne2 : (((x : Nat) : Int) != (y : Int)) = true := by rw [bne_iff_ne]; omega
            have HXY := Lib.hid hxy
            clear hxy
            go_wp2
            go_quiet (fail)
            go_wp2
            go_ret
            refine ⟨ret_bool ?_, m + nq, by simp only [World.drewN, Nat.add_assoc]⟩
            symm
            rw [decide_eq_false_iff_not]
            intro e
            exact HXY.out (by rw [← HX.out, ← HY.out, e])
        · have hkl : k = l.length := by omega
          have HK := Lib.hid hkl
          clear hkl
          have : ¬ (k : Int) < (l.length : Int) := by omega
          go_wp2
          go_ret
          refine ⟨ret_bool ?_, m, rfl⟩
          symm
          rw [decide_eq_true_eq]
          apply List.ext_getElem HL.out
          intro j h1 h2
          have := hpre.out j (by rw [HK.out]; exact h1)
          simpa [List.getD_eq_getElem?_getD, h1, h2] using this
  · have hne : (((l.length : Nat) : Int) != (l'.length : Int)) = true := by simp; omega
    have hd : decide (l = l') = false := by simp; intro e; exact hlen (by rw [e])
    rw [hd]
    go_enter Try.func13, Try.ntmps13
    go_wp2
    go_ret
    exact ⟨rfl, 0, rfl⟩
end Go.Proofs.Ytbmhoijdbhokaaa
