/- Layer 15 (ledger): the document's ledger: Due and Lost. -/
import Derived.Test.YtakoeamfmmbdiaaV15RRead
namespace Go.Proofs.Ytakoeamfmmbdiaa
open Go.RowKit

set_option maxRecDepth 100000 in
set_option maxHeartbeats 4000000 in
theorem RDue_any (r c next acked delay : Nat) (T : Nat → Prop) (A : Option Addr) (m : List It) (w : World) (h : RLed w r T A c m next acked) (hl : m.length ≤ 64) (ha : acked < 4611686018427387904) (hd : delay < 18446744073709551616) (hn : ∀ x ∈ m, 0 ≤ x.num ∧ x.num < 4611686018427387904) :
    Calls Try.prog 25 #[.pointer (some ⟨r, 0, none⟩), .int .u64 (delay : Int)] w fun e w' => e = .returned (.int .u64 ((dueN acked delay m : Nat) : Int)) ∧ Chg none_ w w' := by
  have HV : Hid (∀ W, Chg none_ w W → View W T A (m.length * 5) (m.flatMap itc)) := Lib.hid (fun W hc => h.view.chg hc (fun _ _ h => h))
  have HAT : Hid (∀ x ∈ m, x.at_ < 18446744073709551616) := Lib.hid (fun x hx => (h.its x hx).lt)
  have HN := Lib.hid hn
  have HRW : Hid (∀ W, Chg none_ w W → Row W r 48 [.slice A m.length c, .int .i64 (next : Int), .int .i64 (acked : Int)]) := Lib.hid (fun W hc => h.row.chg hc (fun h => h))
  have HTA : Hid (∀ x ∈ m, ∀ W, Calls Try.prog 39 #[.int .u64 (x.at_ : Int), .int .u64 (delay : Int)] W fun e w' => e = .returned (.int .u64 (addN x.at_ delay : Nat)) ∧ W = w') := Lib.hid (fun x hx W => (radd_any x.at_ delay (h.its x hx).lt hd W).mono (fun _ _ q => ⟨q.1, q.2.symm⟩))
  have hab : (acked : Int) < 4611686018427387904 := by omega
  have hab0 : (0 : Int) ≤ (acked : Int) := by omega
  have r0 := h.row.cell 0
  simp only [List.getElem?_cons_zero] at r0
  clear h hn
  go_enter Try.func25, Try.ntmps25
  go_wp2
  go_loopw [5, 6] (fun i5_ i wr => ∃ k d : Nat, i = .int .i64 (k : Int) ∧ i5_ = .int .u64 (d : Int) ∧ k ≤ m.length ∧ Hid (d = dueN acked delay (m.take k)) ∧ Hid (Chg none_ w wr)) (fun _ i _ => m.length - (intOf i).toNat)
  case atStart => exact ⟨0, 18446744073709551615, rfl, rfl, Nat.zero_le _, Lib.hid rfl, Lib.hid (Chg.refl _ _)⟩
  case round =>
    obtain ⟨k, d, rfl, rfl, hk, HDD, HC⟩ := hrel
    have q0 := (HRW.out wr HC.out).cell 0
    have q2_ := (HRW.out wr HC.out).cell 2
    simp only [List.getElem?_cons_zero, List.getElem?_cons_succ] at q0 q2_
    clear r0
    by_cases hlt : k < m.length
    · have k1 : (k : Int) < (m.length : Int) := by omega
      have k0 : (0 : Int) ≤ (k : Int) := by omega
      obtain ⟨b, o, rfl, hb, _, hra⟩ := (HV.out wr HC.out).elemAt itc_len (by decide) it0 hlt
      have hr := hra k hlt
      have hmx : m.getD k it0 ∈ m := getD_mem it0 hlt
      obtain ⟨x, hx⟩ : ∃ x, m.getD k it0 = x := ⟨_, rfl⟩
      rw [hx] at hr hmx
      have hxn := HN.out x hmx
      obtain ⟨hxn0, hxn1⟩ := hxn
      have c0 : wr.cell? ⟨b, o + k * 5, none⟩ = some (.int .i64 x.num) := hr 0 _ rfl
      have c1 : wr.cell? ⟨b, o + k * 5 + 1, none⟩ = some (.int .u64 (x.at_ : Int)) := hr 1 _ rfl
      obtain ⟨s, hs⟩ : ∃ s, s = addN x.at_ delay := ⟨_, rfl⟩
      have HTX : Hid (∀ W, Calls Try.prog 39 #[.int .u64 (x.at_ : Int), .int .u64 (delay : Int)] W fun e w' => e = .returned (.int .u64 (s : Int)) ∧ W = w') := Lib.hid (fun W => by rw [hs]; exact HTA.out x hmx W)
      have HNX : Hid (dueN acked delay (m.take (k + 1)) = dueS acked delay d x) := Lib.hid (by rw [take_snoc it0 hlt, dueN_snoc, hx, ← HDD.out])
      have HWN : Hid (IntKind.i64.wrap (x.num + 1) = x.num + 1) := Lib.hid (by simp [IntKind.wrap, IntKind.bits, IntKind.signed]; omega)
      clear hra hr hx hb hmx
      by_cases h1 : x.num + 1 < (acked : Int)
      · have q1 : decide (x.num + 1 < (acked : Int)) = true := by simpa using h1
        by_cases h2 : s < d
        · have q2 : decide ((s : Int) < (d : Int)) = true := by simpa using h2
          have q3 : decide (s < d) = true := by simpa using h2
          have HE : Hid (dueN acked delay (m.take (k + 1)) = s) := Lib.hid (by rw [HNX.out]; unfold dueS; rw [if_pos (by omega), ← hs]; omega)
          clear h1 h2 hs HNX
          go_wp2_with ((with_reducible show Calls _ 39 _ _ _); refine (HTX.out _).mono ?_; rintro e w6 ⟨rfl, rfl⟩)
          have hwn := HWN.out
          go_quiet (fail)
          go_wp2
          go_roundw
          case rel => exact ⟨k + 1, s, by go_num, rfl, by omega, Lib.hid HE.out.symm, Lib.hid (HC.out.drewN _)⟩
          case measure => simp [intOf]; omega
        · have q2 : decide ((s : Int) < (d : Int)) = false := by simpa using h2
          have q3 : decide (s < d) = false := by simpa using h2
          have HE : Hid (dueN acked delay (m.take (k + 1)) = d) := Lib.hid (by rw [HNX.out]; unfold dueS; rw [if_pos (by omega), ← hs]; omega)
          clear h1 h2 hs HNX
          go_wp2_with ((with_reducible show Calls _ 39 _ _ _); refine (HTX.out _).mono ?_; rintro e w6 ⟨rfl, rfl⟩)
          have hwn := HWN.out
          go_quiet (fail)
          go_wp2
          go_roundw
          case rel => exact ⟨k + 1, d, by go_num, rfl, by omega, Lib.hid HE.out.symm, Lib.hid (HC.out.drewN _)⟩
          case measure => simp [intOf]; omega
      · have q1 : decide (x.num + 1 < (acked : Int)) = false := by simpa using h1
        have HE : Hid (dueN acked delay (m.take (k + 1)) = d) := Lib.hid (by rw [HNX.out]; unfold dueS; rw [if_neg (by omega)])
        clear h1 hs HNX
        go_wp2_with ((with_reducible show Calls _ 39 _ _ _); refine (HTX.out _).mono ?_; rintro e w6 ⟨rfl, rfl⟩)
        have hwn := HWN.out
        go_quiet (fail)
        go_wp2
        go_roundw
        case rel => exact ⟨k + 1, d, by go_num, rfl, by omega, Lib.hid HE.out.symm, Lib.hid (HC.out.drewN _)⟩
        case measure => simp [intOf]; omega
    · have hke : k = m.length := by omega
      subst hke
      have HE : Hid (d = dueN acked delay m) := Lib.hid (by have := HDD.out; rwa [List.take_of_length_le (Nat.le_refl _)] at this)
      clear hlt hk HDD
      go_wp2
      go_ret
      exact ⟨ret_u64 (by rw [HE.out]), HC.out⟩
end Go.Proofs.Ytakoeamfmmbdiaa
