/- Layer 15 (ledger): the document's ledger: In, Due, Flight, Last. -/
import Derived.Test.YtakoeamfmmbdiaaV15RSend
import Derived.Test.YtakoeamfmmbdiaaV15P
import Derived.Test.YtakoeamfmmbdiaaV11RAdd
import Derived.StillTailTactics
namespace Go.Proofs.Ytakoeamfmmbdiaa
open Go.RowKit

set_option maxRecDepth 100000 in
set_option maxHeartbeats 4000000 in
theorem In_any (m : Nat) (r : List (Nat × Nat)) (T : Nat → Prop) (A : Option Addr) (c : Nat) (w : World) (hv : View w T A (r.length * 2) (r.flatMap rgc)) (hl : r.length ≤ 1000000) :
    Calls Try.prog 37 #[.slice A r.length c, .int .u64 (m : Int)] w fun e w' => e = .returned (.bool (r.any fun y => decide (y.1 ≤ m) && decide (m ≤ y.2))) ∧ w = w' := by
  have HV := Lib.hid hv
  clear hv
  go_enter Try.func37, Try.ntmps37
  go_wp2
  go_loopw [5] (fun i wr => ∃ k : Nat, i = .int .i64 (k : Int) ∧ k ≤ r.length ∧ w = wr ∧ Hid (∀ j, j < k → (decide ((r.getD j (0, 0)).1 ≤ m) && decide (m ≤ (r.getD j (0, 0)).2)) = false)) (fun i _ => r.length - (intOf i).toNat)
  case atStart => exact ⟨0, rfl, Nat.zero_le _, rfl, Lib.hid (fun j hj => absurd hj (by omega))⟩
  case round =>
    obtain ⟨k, rfl, hk, rfl, HP⟩ := hrel
    by_cases hlt : k < r.length
    · have k1 : (k : Int) < (r.length : Int) := by omega
      have k0 : (0 : Int) ≤ (k : Int) := by omega
      obtain ⟨b, o, rfl, hb, _, hra⟩ := HV.out.elemAt rgc_len (by decide) (0, 0) hlt
      have hm : r.getD k (0, 0) ∈ r := getD_mem (0, 0) hlt
      have hr := hra k hlt
      obtain ⟨x, hx⟩ : ∃ x, r.getD k (0, 0) = x := ⟨_, rfl⟩
      rw [hx] at hr hm
      have HX := Lib.hid hx
      have HM := Lib.hid hm
      have c0 : w.cell? ⟨b, o + k * 2, none⟩ = some (.int .u64 (x.1 : Int)) := hr 0 _ rfl
      have c1 : w.cell? ⟨b, o + k * 2 + 1, none⟩ = some (.int .u64 (x.2 : Int)) := hr 1 _ rfl
      clear hra hr hm hx hb
      by_cases h1 : x.1 ≤ m
      · have q1 : (x.1 : Int) ≤ (m : Int) := by omega
        by_cases h2 : m ≤ x.2
        · have q2 : (m : Int) ≤ (x.2 : Int) := by omega
          have HA : Hid ((r.any fun y => decide (y.1 ≤ m) && decide (m ≤ y.2)) = true) := Lib.hid (List.any_eq_true.2 ⟨x, HM.out, by rw [decide_eq_true h1, decide_eq_true h2]; rfl⟩)
          clear h1 h2
          go_wp2
          go_ret
          exact ⟨ret_bool HA.out.symm, rfl⟩
        · have q2 : ¬ (m : Int) ≤ (x.2 : Int) := by omega
          have HN : Hid ((decide (x.1 ≤ m) && decide (m ≤ x.2)) = false) := Lib.hid (by rw [decide_eq_false h2, Bool.and_false])
          clear h1 h2
          go_wp2
          go_roundw
          case rel =>
            refine ⟨k + 1, by go_num, by omega, trivial, Lib.hid (fun j hj => ?_)⟩
            rcases Nat.lt_or_ge j k with h | h
            · exact HP.out j h
            · rw [show j = k by omega, HX.out]; exact HN.out
          case measure => simp [intOf]; omega
      · have q1 : ¬ (x.1 : Int) ≤ (m : Int) := by omega
        have HN : Hid ((decide (x.1 ≤ m) && decide (m ≤ x.2)) = false) := Lib.hid (by rw [decide_eq_false h1, Bool.false_and])
        clear h1
        go_wp2
        go_roundw
        case rel =>
          refine ⟨k + 1, by go_num, by omega, trivial, Lib.hid (fun j hj => ?_)⟩
          rcases Nat.lt_or_ge j k with h | h
          · exact HP.out j h
          · rw [show j = k by omega, HX.out]; exact HN.out
        case measure => simp [intOf]; omega
    · have hke : k = r.length := by omega
      subst hke
      have HA : Hid ((r.any fun y => decide (y.1 ≤ m) && decide (m ≤ y.2)) = false) := Lib.hid (by
        rw [List.any_eq_false]
        intro x hx
        obtain ⟨j, hj, e⟩ := List.mem_iff_getElem.1 hx
        have := HP.out j hj
        rw [getD_lt (0, 0) hj, e] at this
        rw [this]; simp)
      clear hlt hk
      go_wp2
      go_ret
      exact ⟨ret_bool HA.out.symm, rfl⟩

set_option maxRecDepth 100000 in
set_option maxHeartbeats 4000000 in
theorem RFlight_any (r c next acked : Nat) (T : Nat → Prop) (A : Option Addr) (m : List It) (w : World) (h : RLed w r T A c m next acked) (hl : m.length ≤ 64) (hs : ∀ x ∈ m, 0 ≤ x.size ∧ x.size ≤ 1200) :
    Calls Try.prog 23 #[.pointer (some ⟨r, 0, none⟩)] w fun e w' => e = .returned (.tuple #[.int .i64 ((flN m : Nat) : Int), .int .i64 ((flB m : Nat) : Int)]) ∧ w = w' := by
  have HV := Lib.hid h.view
  have HS := Lib.hid hs
  have r0 : w.cell? ⟨r, 0, none⟩ = some (.slice A m.length c) := h.row.cell 0
  clear h hs
  go_enter Try.func23, Try.ntmps23
  go_wp2
  go_loopw [4, 5, 6] (fun i4 i5 i wr => ∃ k : Nat, i = .int .i64 (k : Int) ∧ i4 = .int .i64 ((flN (m.take k) : Nat) : Int) ∧ i5 = .int .i64 ((flB (m.take k) : Nat) : Int) ∧ k ≤ m.length ∧ w = wr) (fun _ _ i _ => m.length - (intOf i).toNat)
  case atStart => exact ⟨0, rfl, rfl, rfl, Nat.zero_le _, rfl⟩
  case round =>
    obtain ⟨k, rfl, rfl, rfl, hk, rfl⟩ := hrel
    by_cases hlt : k < m.length
    · have k1 : (k : Int) < (m.length : Int) := by omega
      have k0 : (0 : Int) ≤ (k : Int) := by omega
      obtain ⟨b, o, rfl, hb, _, hra⟩ := HV.out.elemAt itc_len (by decide) it0 hlt
      have hr := hra k hlt
      have hmx : m.getD k it0 ∈ m := getD_mem it0 hlt
      obtain ⟨x, hx⟩ : ∃ x, m.getD k it0 = x := ⟨_, rfl⟩
      rw [hx] at hr hmx
      have hsz := HS.out x hmx
      have c2 := hr 2 _ rfl
      have c3 := hr 3 _ rfl
      have HNX : Hid (flN (m.take (k + 1)) = flN (m.take k) + (if x.ask then 1 else 0) ∧ flB (m.take (k + 1)) = flB (m.take k) + (if x.ask then x.size.toNat else 0)) := Lib.hid (by rw [take_snoc it0 hlt, flN_snoc, flB_snoc, hx]; exact ⟨rfl, rfl⟩)
      have HLE : Hid (flN (m.take k) ≤ 64 ∧ flB (m.take k) ≤ 76800) := Lib.hid (by
        have h1 := flN_le (m.take k)
        have h2 := flB_le (m.take k) (fun y hy => (HS.out y (List.mem_of_mem_take hy)).2)
        rw [List.length_take] at h1 h2
        omega)
      have hle1 := HLE.out.1
      have hle2 := HLE.out.2
      generalize flN (m.take k) = n1 at *
      generalize flB (m.take k) = b1 at *
      have hl1 : (n1 : Int) ≤ 64 := by omega
      have hl2 : (b1 : Int) ≤ 76800 := by omega
      have hl3 : (0 : Int) ≤ (n1 : Int) := by omega
      have hl4 : (0 : Int) ≤ (b1 : Int) := by omega
      obtain ⟨s, hse⟩ : ∃ s : Nat, x.size = (s : Int) := ⟨x.size.toNat, by omega⟩
      rw [hse] at c2 HNX hsz
      obtain ⟨hs0, hs1⟩ := hsz
      clear hra hr hx hb hmx hse
      cases hq : x.ask with
      | true =>
        rw [hq] at HNX c3
        have HE : Hid (flN (m.take (k + 1)) = n1 + 1 ∧ flB (m.take (k + 1)) = b1 + s) := Lib.hid (by
          have h1 := HNX.out
          rw [if_pos rfl, if_pos rfl, Int.toNat_natCast] at h1
          exact h1)
        clear HNX hq
        go_wp2
        go_roundw
        case rel => exact ⟨k + 1, by go_num, by rw [HE.out.1]; go_num, by rw [HE.out.2]; go_num, by omega, trivial⟩
        case measure => simp [intOf]; omega
      | false =>
        rw [hq] at HNX c3
        have HE : Hid (flN (m.take (k + 1)) = n1 ∧ flB (m.take (k + 1)) = b1) := Lib.hid (by have h1 := HNX.out; simpa using h1)
        clear HNX hq
        go_wp2
        go_roundw
        case rel => exact ⟨k + 1, by go_num, by rw [HE.out.1], by rw [HE.out.2], by omega, trivial⟩
        case measure => simp [intOf]; omega
    · have hke : k = m.length := by omega
      subst hke
      rw [List.take_of_length_le (Nat.le_refl _)]
      clear hlt hk
      go_wp2
      refine bodyPost_ret (results_tmp2 rfl _ _ _) rfl ?_
      exact ⟨rfl, rfl⟩

/-- When the last one in flight was sent. -/
def lastP (P : List Sn) : Nat × Bool := P.foldl (fun a s => if s.ask then (s.at_, true) else a) (0, false)
def lastI (m : List It) : Nat × Bool := m.foldl (fun a x => if x.ask then (x.at_, true) else a) (0, false)
theorem lastI_pl (m : List It) : lastI m = lastP (m.map It.pl) := by
  unfold lastI lastP
  rw [List.foldl_map]
  rfl
theorem lastI_snoc (m : List It) (x : It) : lastI (m ++ [x]) = if x.ask then (x.at_, true) else lastI m := by simp [lastI]
set_option maxRecDepth 100000 in
set_option maxHeartbeats 4000000 in
theorem RLast_any (r c next acked : Nat) (T : Nat → Prop) (A : Option Addr) (m : List It) (w : World) (h : RLed w r T A c m next acked) (hl : m.length ≤ 64) :
    Calls Try.prog 24 #[.pointer (some ⟨r, 0, none⟩)] w fun e w' => e = .returned (.tuple #[.int .u64 (((lastI m).1 : Nat) : Int), .bool (lastI m).2]) ∧ w = w' := by
  have HV := Lib.hid h.view
  have r0 : w.cell? ⟨r, 0, none⟩ = some (.slice A m.length c) := h.row.cell 0
  clear h
  go_enter Try.func24, Try.ntmps24
  go_wp2
  go_loopw [4, 5, 6] (fun i4 i5 i wr => ∃ k : Nat, i = .int .i64 (k : Int) ∧ i4 = .int .u64 (((lastI (m.take k)).1 : Nat) : Int) ∧ i5 = .bool (lastI (m.take k)).2 ∧ k ≤ m.length ∧ w = wr) (fun _ _ i _ => m.length - (intOf i).toNat)
  case atStart => exact ⟨0, rfl, rfl, rfl, Nat.zero_le _, rfl⟩
  case round =>
    obtain ⟨k, rfl, rfl, rfl, hk, rfl⟩ := hrel
    by_cases hlt : k < m.length
    · have k1 : (k : Int) < (m.length : Int) := by omega
      have k0 : (0 : Int) ≤ (k : Int) := by omega
      obtain ⟨b, o, rfl, hb, _, hra⟩ := HV.out.elemAt itc_len (by decide) it0 hlt
      have hr := hra k hlt
      obtain ⟨x, hx⟩ : ∃ x, m.getD k it0 = x := ⟨_, rfl⟩
      rw [hx] at hr
      have c1 := hr 1 _ rfl
      have c3 := hr 3 _ rfl
      have HNX : Hid (lastI (m.take (k + 1)) = if x.ask then (x.at_, true) else lastI (m.take k)) := Lib.hid (by rw [take_snoc it0 hlt, lastI_snoc, hx])
      generalize lastI (m.take k) = lk at *
      obtain ⟨la, lb⟩ := lk
      clear hra hr hx hb
      cases hq : x.ask with
      | true =>
        rw [hq] at HNX c3
        clear hq
        go_wp2
        go_roundw
        case rel => exact ⟨k + 1, by go_num, by rw [HNX.out]; rfl, by rw [HNX.out]; rfl, by omega, trivial⟩
        case measure => simp [intOf]; omega
      | false =>
        rw [hq] at HNX c3
        clear hq
        go_wp2
        go_roundw
        case rel => exact ⟨k + 1, by go_num, by rw [HNX.out]; rfl, by rw [HNX.out]; rfl, by omega, trivial⟩
        case measure => simp [intOf]; omega
    · have hke : k = m.length := by omega
      subst hke
      rw [List.take_of_length_le (Nat.le_refl _)]
      clear hlt hk
      go_wp2
      refine bodyPost_ret (results_tmp2 rfl _ _ _) rfl ?_
      exact ⟨rfl, rfl⟩
end Go.Proofs.Ytakoeamfmmbdiaa
