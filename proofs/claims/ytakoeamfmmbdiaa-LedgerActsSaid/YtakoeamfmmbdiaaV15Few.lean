/- Layer 15 (ledger): may what is done be looked at? -/
import Derived.Test.YtakoeamfmmbdiaaV15Open
namespace Go.Proofs.Ytakoeamfmmbdiaa
open Go.RowKit

def fewB (l : List La) : Bool := decide (l.length ≤ 120) && l.all fun x => (decide (x.r.length ≤ 20) && decide (x.p.L.length ≤ 5)) && x.p.L.all fun y => decide (y.1.data.length ≤ 100) && decide (y.1.ranges.length ≤ 20)
theorem fewB_iff (l : List La) : fewB l = true ↔ Few l := by
  unfold fewB
  simp only [Bool.and_eq_true, List.all_eq_true, decide_eq_true_eq]
  exact ⟨fun h => ⟨h.1, fun x hx => (h.2 x hx).1, fun x hx => (h.2 x hx).2⟩, fun h => ⟨h.len, fun x hx => ⟨h.r x hx, h.f x hx⟩⟩⟩
theorem fewB_no {l : List La} (h : ¬ Few l) : fewB l = false := by
  cases hq : fewB l with
  | false => rfl
  | true => exact absurd ((fewB_iff l).1 hq) h

set_option maxRecDepth 100000 in
set_option maxHeartbeats 4000000 in
theorem few_any (l : List La) (A : Option Addr) (c : Nat) (w : World) (hv : View w (fun _ => True) A (l.length * 8) (l.flatMap lac)) (hi : ∀ x ∈ l, LaI w x) :
    Calls Try.prog 8 #[.slice A l.length c] w fun e w' => e = .returned (.bool (fewB l)) ∧ w = w' := by
  by_cases h120 : 120 < l.length
  · have q1 : (120 : Int) < (l.length : Int) := by omega
    have HB : Hid (fewB l = false) := Lib.hid (fewB_no (fun h => by have := h.len; omega))
    rw [HB.out]
    clear h120 hv hi
    go_enter Try.func8, Try.ntmps8
    go_wp2
    go_ret
    exact ⟨rfl, rfl⟩
  · have q1 : ¬ (120 : Int) < (l.length : Int) := by omega
    have HV := Lib.hid hv
    have HI := Lib.hid hi
    have HLN : Hid (l.length ≤ 120) := Lib.hid (by omega)
    clear h120 hv hi
    go_enter Try.func8, Try.ntmps8
    go_wp2
    go_loopw [3] (fun i wr => ∃ k : Nat, i = .int .i64 (k : Int) ∧ k ≤ l.length ∧ w = wr ∧ Hid (∀ j, j < k → ((l.getD j la0).r.length ≤ 20 ∧ (l.getD j la0).p.L.length ≤ 5) ∧ ∀ y ∈ (l.getD j la0).p.L, y.1.data.length ≤ 100 ∧ y.1.ranges.length ≤ 20)) (fun i _ => l.length - (intOf i).toNat)
    case atStart => exact ⟨0, rfl, Nat.zero_le _, rfl, Lib.hid (fun j hj => absurd hj (by omega))⟩
    case round =>
      obtain ⟨k, rfl, hk, rfl, HP⟩ := hrel
      by_cases hlt : k < l.length
      · have k1 : (k : Int) < (l.length : Int) := by omega
        have k0 : (0 : Int) ≤ (k : Int) := by omega
        obtain ⟨b, o, rfl, hb, _, hra⟩ := HV.out.elemAt lac_len (by decide) la0 hlt
        have hr := hra k hlt
        have hmx : l.getD k la0 ∈ l := getD_mem la0 hlt
        obtain ⟨x, hx⟩ : ∃ x, l.getD k la0 = x := ⟨_, rfl⟩
        rw [hx] at hr hmx
        have HX := Lib.hid hx
        have HXI := Lib.hid (HI.out x hmx)
        have HM := Lib.hid hmx
        have c5 := hr 5 _ rfl
        have c6 := hr 6 _ rfl
        simp only [Nat.add_assoc] at c5 c6
        have c5' : w.cell? ⟨b, o + k * 8 + 5, none⟩ = some (.slice x.p.A x.p.L.length x.p.c) := hr 5 _ rfl
        have c6' : w.cell? ⟨b, o + k * 8 + 6, none⟩ = some (.slice x.rA x.r.length x.rc) := hr 6 _ rfl
        clear hra hr hmx hb hx
        by_cases h20 : 20 < x.r.length
        · have q2 : (20 : Int) < (x.r.length : Int) := by omega
          have HB : Hid (fewB l = false) := Lib.hid (fewB_no (fun h => by have := (h.r x HM.out).1; omega))
          clear h20
          go_wp2
          go_ret
          exact ⟨ret_bool HB.out.symm, rfl⟩
        · have q2 : ¬ (20 : Int) < (x.r.length : Int) := by omega
          have HR20 : Hid (x.r.length ≤ 20) := Lib.hid (by omega)
          by_cases h5 : 5 < x.p.L.length
          · have q3 : (5 : Int) < (x.p.L.length : Int) := by omega
            have HB : Hid (fewB l = false) := Lib.hid (fewB_no (fun h => by have := (h.r x HM.out).2; omega))
            clear h20 h5
            go_wp2
            go_ret
            exact ⟨ret_bool HB.out.symm, rfl⟩
          · have q3 : ¬ (5 : Int) < (x.p.L.length : Int) := by omega
            have HL5 : Hid (x.p.L.length ≤ 5) := Lib.hid (by omega)
            clear h20 h5
            go_wp2
            go_loopw [4] (fun i wr => ∃ m : Nat, i = .int .i64 (m : Int) ∧ m ≤ x.p.L.length ∧ w = wr ∧ Hid (∀ j, j < m → (x.p.L.getD j fv0).1.data.length ≤ 100 ∧ (x.p.L.getD j fv0).1.ranges.length ≤ 20)) (fun i _ => x.p.L.length - (intOf i).toNat)
            case atStart => exact ⟨0, rfl, Nat.zero_le _, rfl, Lib.hid (fun j hj => absurd hj (by omega))⟩
            case round =>
              obtain ⟨m, rfl, hm, rfl, HQ⟩ := hrel
              by_cases hmt : m < x.p.L.length
              · have m1 : (m : Int) < (x.p.L.length : Int) := by omega
                have m0 : (0 : Int) ≤ (m : Int) := by omega
                obtain ⟨bf, of_, hA, hbf, _, hrf⟩ := HXI.out.p.view.fAt (fun y hy => (HXI.out.p.each y hy).tok) hmt
                have hmy : x.p.L.getD m fv0 ∈ x.p.L := getD_mem fv0 hmt
                obtain ⟨y, hy⟩ : ∃ y, x.p.L.getD m fv0 = y := ⟨_, rfl⟩
                rw [hy] at hrf hmy
                have HMY := Lib.hid hmy
                have HY := Lib.hid hy
                obtain ⟨Ad, cd, Ar, cr, e1, e2⟩ := (HXI.out.p.each y hmy).shape
                have f6 : w.cell? ⟨bf, of_ + m * 24 + 6, none⟩ = some (.slice Ad y.1.data.length cd) := by rw [← e1]; exact hrf 6 _ rfl
                have f7 : w.cell? ⟨bf, of_ + m * 24 + 7, none⟩ = some (.slice Ar y.1.ranges.length cr) := by rw [← e2]; exact hrf 7 _ rfl
                rw [hA] at c5 c5'
                clear hrf hmy hy hbf e1 e2
                by_cases h100 : 100 < y.1.data.length
                · have q4 : (100 : Int) < (y.1.data.length : Int) := by omega
                  have HB : Hid (fewB l = false) := Lib.hid (fewB_no (fun h => by have := (h.f x HM.out y HMY.out).1; omega))
                  clear h100
                  go_wp2
                  go_ret
                  exact ⟨ret_bool HB.out.symm, rfl⟩
                · have q4 : ¬ (100 : Int) < (y.1.data.length : Int) := by omega
                  by_cases h21 : 20 < y.1.ranges.length
                  · have q5 : (20 : Int) < (y.1.ranges.length : Int) := by omega
                    have HB : Hid (fewB l = false) := Lib.hid (fewB_no (fun h => by have := (h.f x HM.out y HMY.out).2; omega))
                    clear h100 h21
                    go_wp2
                    go_ret
                    exact ⟨ret_bool HB.out.symm, rfl⟩
                  · have q5 : ¬ (20 : Int) < (y.1.ranges.length : Int) := by omega
                    have HYS : Hid (y.1.data.length ≤ 100 ∧ y.1.ranges.length ≤ 20) := Lib.hid (by omega)
                    clear h100 h21
                    go_wp2
                    go_roundw
                    case rel =>
                      refine ⟨m + 1, by go_num, by omega, trivial, Lib.hid (fun j hj => ?_)⟩
                      rcases Nat.lt_or_ge j m with h | h
                      · exact HQ.out j h
                      · rw [show j = m by omega, HY.out]; exact HYS.out
                    case measure => simp [intOf]; omega
              · have hme : m = x.p.L.length := by omega
                subst hme
                clear hmt hm
                go_wp2
                go_roundw
                case rel =>
                  refine ⟨k + 1, by go_num, by omega, trivial, Lib.hid (fun j hj => ?_)⟩
                  rcases Nat.lt_or_ge j k with h | h
                  · exact HP.out j h
                  · rw [show j = k by omega, HX.out]
                    refine ⟨⟨HR20.out, HL5.out⟩, fun y hy => ?_⟩
                    obtain ⟨j, hj, e⟩ := List.mem_iff_getElem.1 hy
                    have := HQ.out j hj
                    rwa [getD_lt fv0 hj, e] at this
                case measure => simp [intOf]; omega
      · have hke : k = l.length := by omega
        subst hke
        have HF : Hid (Few l) := Lib.hid ⟨HLN.out, fun x hx => by
          obtain ⟨j, hj, e⟩ := List.mem_iff_getElem.1 hx
          have := (HP.out j hj).1
          rwa [getD_lt la0 hj, e] at this, fun x hx => by
          obtain ⟨j, hj, e⟩ := List.mem_iff_getElem.1 hx
          have := (HP.out j hj).2
          rwa [getD_lt la0 hj, e] at this⟩
        clear hlt hk HP
        go_wp2
        go_ret
        exact ⟨ret_bool ((fewB_iff l).2 HF.out).symm, rfl⟩
end Go.Proofs.Ytakoeamfmmbdiaa
