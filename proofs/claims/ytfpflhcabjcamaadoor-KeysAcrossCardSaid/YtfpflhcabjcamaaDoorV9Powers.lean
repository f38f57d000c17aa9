/- Layer 9 (gcm): the iterator over a polynomial's powers of x, the program's. -/
import Derived.RangeFuncFrom
import Derived.RangeFuncBound
import Derived.RangeFuncCalls
import Derived.RangeFuncLeaves
import Derived.Shelf.Abstract
import Derived.WalkKit
import Derived.OwnWalkIn
import Derived.TacticsInMore
import Derived.LoopNIn
import Derived.LoopIn
import Derived.Test.YtfpflhcabjcamaaDoorV9Small
import Derived.Test.YtfpflhcabjcamaaDoorKM
namespace Go.Proofs.YtfpflhcabjcamaaDoor
open Go.RowKit Go.Shelf
attribute [local go_sem] Oper.semAt_some

/-- A power of x below 128. -/
abbrev Pow := { x : Nat // x < 128 }
def encP (x : Pow) : Array Value := #[.int .i64 (x.1 : Int)]

theorem wrap_pow (q : Nat) (h : 2 ^ q < 2 ^ 64) : IntKind.u64.wrap ((2 : Int) ^ q) = ((2 ^ q : Nat) : Int) := by
  have e : ((2 : Int) ^ q) = ((2 ^ q : Nat) : Int) := by simp
  rw [e]
  simp only [IntKind.wrap, IntKind.bits, IntKind.signed]
  generalize 2 ^ q = x at h ⊢
  simp
  omega
theorem info43 : (Tryd.prog.info? 84).map (·.size) = some 1 := by kernel_rfl
theorem run_index_words (a b : Value) (i : Nat) (hi : i < 2) (w : World) (_ha : a.oneCell' = true) (_hb : b.oneCell' = true) : (Instr.index 129 (.agg #[a, b]) (.int .i64 (i : Int))).run Tryd.prog w = .ok (if i = 0 then a else b) w := by
  cases hq : Tryd.prog.info? 84 with
  | none => have := info43; rw [hq] at this; cases this
  | some j =>
    have hsz : j.size = 1 := by have := info43; rw [hq] at this; simpa using this
    rcases (by omega : i = 0 ∨ i = 1) with rfl | rfl
    · simp [Instr.index, run_underlying Tryd.underlying129, asIntOf, sizeOf, typeInfo, hq, hsz, part, isAgg, run_underlying Tryd.underlying84]
    · simp [Instr.index, run_underlying Tryd.underlying129, asIntOf, sizeOf, typeInfo, hq, hsz, part, isAgg, run_underlying Tryd.underlying84]

set_option maxRecDepth 100000 in
set_option maxHeartbeats 4000000 in
theorem powers1_in (n l g n0 : Nat) (J Jx : List Pow → World → Prop)
    (hY : ∀ pre x W, J pre W → pre.length < 128 → YieldAt Fence.wide 0 Tryd.prog l (encP x) W fun e W' => (e = .returned (.bool true) ∧ J (pre ++ [x]) W' ∧ Below n0 W W') ∨ (e = .returned (.bool false) ∧ Jx (pre ++ [x]) W'))
    (W : World) (hr : Row W g 86 (pw n)) (h0 : J [] W) :
    CallsIn Fence.wide 1 Tryd.prog 67 #[.func (.yield l) #[] #[], .pointer (some ⟨g, 0, none⟩)] W fun e W' => (∃ v, e = .returned v) ∧ ((∃ ys : List Pow, ys.map (·.1) = upto n 128 ∧ J ys W') ∨ (∃ pre : List Pow, True ∧ Jx pre W')) := by
  have f1 : W.cell? ⟨g, 0, none⟩ = some (.int .u64 (fW n : Nat)) := hr.cell 0
  have f2 : W.cell? ⟨g, 1, none⟩ = some (.int .u64 (lW n : Nat)) := hr.cell 1
  have HY := Lib.hid hY
  clear hY hr
  refine callsIn_of_wp Tryd.func67 rfl trivial ?_ rfl
  simp only [Tryd.ntmps67, List.size_toArray, List.length_cons, List.length_nil, Nat.reduceAdd, Nat.reduceSub, Array.replicate_succ, Array.replicate_zero, List.push_toArray, List.append_toArray, List.nil_append, List.cons_append]
  gi_wp2
  gi_loopw [3, 4, 5, 11] (fun _ _ _ x wr => ∃ (i : Nat) (pre : List Pow), i ≤ 2 ∧ x = .int .i64 i ∧ Hid (pre.map (·.1) = upto n (64 * i)) ∧ J pre wr) (fun _ _ _ x _ => 2 - (intOf x).toNat)
  case atStart => exact ⟨0, [], Nat.zero_le _, rfl, Lib.hid rfl, h0⟩
  case round =>
    obtain ⟨i, pre, hi, rfl, hp, hJ⟩ := hrel
    have hk := hi
    rcases (by omega : i = 0 ∨ i = 1 ∨ i = 2) with rfl | rfl | rfl
    · -- word 0
      simp only [show ((0 : Nat) : Int) = 0 from rfl]
      have hix := fun w => run_index_words (.int .u64 (fW n : Nat)) (.int .u64 (lW n : Nat)) 0 (by decide) w rfl rfl
      simp only [if_pos, show ((0 : Nat) : Int) = 0 from rfl] at hix
      have HW0 : Hid (wordN n 0 = fW n) := Lib.hid rfl
      have HP0 := Lib.hid hp
      clear hp hk
      gi_wp2
      gi_loopw [4, 5] (fun v _ w2 => ∃ (m wd : Nat) (pr : List Pow), m ≤ 64 ∧ v = .int .u64 (wd : Nat) ∧ Hid (wordN n 0 % 2 ^ (64 - m) = wd) ∧ Hid (pr.map (·.1) = upto n (64 * 0 + m)) ∧ J pr w2) (fun v _ _ => (intOf v).toNat)
      case atStart => exact ⟨0, fW n, pre, Nat.zero_le _, rfl, Lib.hid (by rw [Nat.sub_zero, Nat.mod_eq_of_lt (wordN_lt n 0)]; exact HW0.out), HP0, hJ⟩
      case round =>
        obtain ⟨m, wd, pr, hm, rfl, HWD, HP, hJ2⟩ := hrel
        have HM := Lib.hid hm
        clear hm hJ HP0
        by_cases hz : wd = 0
        · have HE : Hid (pr.map (·.1) = upto n (64 * 1)) := Lib.hid (by rw [HP.out]; exact (left_none n 0 m (by decide) HM.out (by rw [HWD.out, hz])).symm)
          subst hz
          gi_wp2
          go_roundw
          case rel => exact ⟨1, pr, by decide, rfl, HE, hJ2⟩
          case measure => simp [intOf]
        · obtain ⟨p, q, hmp, hp64, hqp, hlog, hup, hx⟩ := left_some n 0 m wd (by decide) HM.out HWD.out hz
          have hlt : wd < 2 ^ 64 := by rw [← HWD.out]; exact Nat.lt_of_lt_of_le (Nat.mod_lt _ (Nat.two_pow_pos _)) (Nat.pow_le_pow_right (by decide) (by omega))
          have HZ : Hid (∀ w, Calls Tryd.prog 68 #[.int .u64 (wd : Int)] w fun e w' => e = .returned (.int .i64 (p : Int)) ∧ w = w') := Lib.hid (fun w => by have := zeros64_any wd hlt (by omega) w; rw [hlog, show 63 - q = p from by omega] at this; exact this)
          obtain ⟨r, hr⟩ : ∃ r, r = wordN n 0 % 2 ^ (64 - (p + 1)) := ⟨_, rfl⟩
          rw [← hr] at hx
          have HRR := Lib.hid hr
          have HQ : Hid (2 ^ q < 2 ^ 64) := Lib.hid (Nat.pow_lt_pow_right (by decide) (by omega))
          have HX : Hid (bits .xor .u64 (wd : Int) (IntKind.u64.wrap (2 ^ q)) = (r : Int)) := Lib.hid (by rw [wrap_pow q HQ.out, ← hx]; exact u64_xor_nat wd (2 ^ q) (by omega) (by have := HQ.out; omega))
          have HLE : Hid (r < wd) := Lib.hid (by
            rw [HRR.out]
            obtain ⟨g1, _⟩ := (Nat.log2_eq_iff hz).1 hlog
            have := Nat.mod_lt (wordN n 0) (Nat.two_pow_pos (64 - (p + 1)))
            rw [show 64 - (p + 1) = q from by omega] at this ⊢
            omega)
          simp only [Nat.mul_zero, Nat.zero_add] at hup
          have HU := Lib.hid hup
          have hlen : pr.length < 128 := by
            have := upto_len n (64 * 0 + m)
            rw [← HP.out, List.length_map] at this
            omega
          have h128 : p < 128 := by omega
          obtain ⟨fn, tmps, assign, body, hy, hR⟩ := HY.out pr ⟨p, h128⟩ wr hJ2 hlen
          have e63 : (63 : Int) - (p : Int) = (q : Int) := by omega
          have q0 : (0 : Int) ≤ (q : Int) := by omega
          have HPQ := Lib.hid hqp
          have hz2 : ((wd : Int) != 0) = true := by simp; omega
          simp only [encP] at hy
          push_cast at hy
          clear hr hup hx hlog hmp hlen hlt hz hqp
          gi_wp2_with (refine ⟨trivial, ?_⟩; gi_at_call 68; refine (callsIn_wide.2 (HZ.out _)).mono ?_; rintro e w' ⟨rfl, rfl⟩)
          refine hR.mono ?_
          rintro e w3 (⟨rfl, hJ3, _⟩ | ⟨rfl, hJx3⟩)
          · gi_wp2
            go_roundw
            case rel => exact ⟨p + 1, r, pr ++ [⟨p, h128⟩], by omega, by rw [HX.out], Lib.hid HRR.out.symm, Lib.hid (by rw [List.map_append, HP.out]; simp only [Nat.mul_zero, Nat.zero_add]; exact HU.out.symm), hJ3⟩
            case measure => have h1 := HLE.out; have h2 := HX.out; clear HX HQ; simp [intOf, h2]; omega
          · gi_wp2
            refine bodyPost_ret (results_none rfl _ _ _) rfl ?_
            exact ⟨⟨_, rfl⟩, .inr ⟨_, trivial, hJx3⟩⟩
    · -- word 1
      simp only [show ((1 : Nat) : Int) = 1 from rfl]
      have hix := fun w => run_index_words (.int .u64 (fW n : Nat)) (.int .u64 (lW n : Nat)) 1 (by decide) w rfl rfl
      simp only [show ¬ (1 : Nat) = 0 from by decide, if_false, show ((1 : Nat) : Int) = 1 from rfl] at hix
      have HW0 : Hid (wordN n 1 = lW n) := Lib.hid rfl
      have HP0 := Lib.hid hp
      clear hp hk
      gi_wp2
      gi_loopw [4, 5] (fun v _ w2 => ∃ (m wd : Nat) (pr : List Pow), m ≤ 64 ∧ v = .int .u64 (wd : Nat) ∧ Hid (wordN n 1 % 2 ^ (64 - m) = wd) ∧ Hid (pr.map (·.1) = upto n (64 * 1 + m)) ∧ J pr w2) (fun v _ _ => (intOf v).toNat)
      case atStart => exact ⟨0, lW n, pre, Nat.zero_le _, rfl, Lib.hid (by rw [Nat.sub_zero, Nat.mod_eq_of_lt (wordN_lt n 1)]; exact HW0.out), HP0, hJ⟩
      case round =>
        obtain ⟨m, wd, pr, hm, rfl, HWD, HP, hJ2⟩ := hrel
        have HM := Lib.hid hm
        clear hm hJ HP0
        by_cases hz : wd = 0
        · have HE : Hid (pr.map (·.1) = upto n (64 * 2)) := Lib.hid (by rw [HP.out]; exact (left_none n 1 m (by decide) HM.out (by rw [HWD.out, hz])).symm)
          subst hz
          gi_wp2
          go_roundw
          case rel => exact ⟨2, pr, by decide, rfl, HE, hJ2⟩
          case measure => simp [intOf]
        · obtain ⟨p, q, hmp, hp64, hqp, hlog, hup, hx⟩ := left_some n 1 m wd (by decide) HM.out HWD.out hz
          have hlt : wd < 2 ^ 64 := by rw [← HWD.out]; exact Nat.lt_of_lt_of_le (Nat.mod_lt _ (Nat.two_pow_pos _)) (Nat.pow_le_pow_right (by decide) (by omega))
          have HZ : Hid (∀ w, Calls Tryd.prog 68 #[.int .u64 (wd : Int)] w fun e w' => e = .returned (.int .i64 (p : Int)) ∧ w = w') := Lib.hid (fun w => by have := zeros64_any wd hlt (by omega) w; rw [hlog, show 63 - q = p from by omega] at this; exact this)
          obtain ⟨r, hr⟩ : ∃ r, r = wordN n 1 % 2 ^ (64 - (p + 1)) := ⟨_, rfl⟩
          rw [← hr] at hx
          have HRR := Lib.hid hr
          have HQ : Hid (2 ^ q < 2 ^ 64) := Lib.hid (Nat.pow_lt_pow_right (by decide) (by omega))
          have HX : Hid (bits .xor .u64 (wd : Int) (IntKind.u64.wrap (2 ^ q)) = (r : Int)) := Lib.hid (by rw [wrap_pow q HQ.out, ← hx]; exact u64_xor_nat wd (2 ^ q) (by omega) (by have := HQ.out; omega))
          have HLE : Hid (r < wd) := Lib.hid (by
            rw [HRR.out]
            obtain ⟨g1, _⟩ := (Nat.log2_eq_iff hz).1 hlog
            have := Nat.mod_lt (wordN n 1) (Nat.two_pow_pos (64 - (p + 1)))
            rw [show 64 - (p + 1) = q from by omega] at this ⊢
            omega)
          simp only [Nat.mul_one] at hup
          have HU := Lib.hid hup
          have hlen : pr.length < 128 := by
            have := upto_len n (64 * 1 + m)
            rw [← HP.out, List.length_map] at this
            omega
          have h128 : 64 + p < 128 := by omega
          obtain ⟨fn, tmps, assign, body, hy, hR⟩ := HY.out pr ⟨64 + p, h128⟩ wr hJ2 hlen
          have e63 : (63 : Int) - (p : Int) = (q : Int) := by omega
          have q0 : (0 : Int) ≤ (q : Int) := by omega
          have HPQ := Lib.hid hqp
          have hz2 : ((wd : Int) != 0) = true := by simp; omega
          simp only [encP] at hy
          push_cast at hy
          clear hr hup hx hlog hmp hlen hlt hz hqp
          gi_wp2_with (refine ⟨trivial, ?_⟩; gi_at_call 68; refine (callsIn_wide.2 (HZ.out _)).mono ?_; rintro e w' ⟨rfl, rfl⟩)
          refine hR.mono ?_
          rintro e w3 (⟨rfl, hJ3, _⟩ | ⟨rfl, hJx3⟩)
          · gi_wp2
            go_roundw
            case rel => exact ⟨p + 1, r, pr ++ [⟨64 + p, h128⟩], by omega, by rw [HX.out], Lib.hid HRR.out.symm, Lib.hid (by rw [List.map_append, HP.out]; simp only [Nat.mul_one]; exact HU.out.symm), hJ3⟩
            case measure => have h1 := HLE.out; have h2 := HX.out; clear HX HQ; simp [intOf, h2]; omega
          · gi_wp2
            refine bodyPost_ret (results_none rfl _ _ _) rfl ?_
            exact ⟨⟨_, rfl⟩, .inr ⟨_, trivial, hJx3⟩⟩
    · gi_wp2
      go_end0
      exact ⟨⟨_, rfl⟩, .inl ⟨pre, hp.out, hJ⟩⟩
end Go.Proofs.YtfpflhcabjcamaaDoor
