/- Layer 8 (aes): products and boxes, the program's. -/
import Derived.Test.YtmimpodbmfmeiaaProg
import Derived.Test.YtmimpodbmfmeiaaV8Row
import Derived.Test.YtmimpodbmfmeiaaV8Math
import Derived.IntWalk
import Derived.Lib.Hide
import Derived.Laws.BitsAllLaws
import Derived.BigQuiet
import Derived.Deep.QuietTactic
namespace Go.Proofs.Ytmimpodbmfmeiaa
open Go.RowKit

theorem dblV (a : Nat) (ha : a < 256) : bits .xor .u8 ((a : Int) * 2 % 256) ((a : Int) / 128 * 27) = ((dbl a : Nat) : Int) := by
  have := u8_xor_nat (2 * a % 256) (a / 128 * 27) (by omega) (by omega)
  unfold dbl
  rw [← this]
  congr 1
  omega
theorem double_any (a : Nat) (ha : a < 256) (w : World) : Calls Try.prog 53 #[.int .u8 a] w fun e w' => e = .returned (.int .u8 (dbl a : Nat)) ∧ w = w' := by
  have H := Lib.hid (dblV a ha)
  go_enter Try.func53, Try.ntmps53
  go_wp2
  go_ret
  exact ⟨ret_u8 H.out, rfl⟩

theorem and1 (b : Nat) (hb : b < 256) : bits .and .u8 (b : Int) 1 = ((b % 2 : Nat) : Int) := by
  have := u8_and_nat b 1 hb (by decide)
  rw [show ((1 : Nat) : Int) = 1 from rfl] at this
  rw [this, Nat.and_one_is_mod]
theorem rolV (x : Nat) (hx : x < 256) : bits .or .u8 ((x : Int) * 2 % 256) ((x : Int) / 128) = ((rol8 x : Nat) : Int) := by
  have h := u8_or_nat (x * 2 % 256) (x / 128) (by omega) (by omega)
  have h2 : x * 2 % 256 ||| x / 128 = x * 2 % 256 + x / 128 := by
    have e : x * 2 % 256 = 2 ^ 1 * (x % 128) := by omega
    rw [e, ← Nat.two_pow_add_eq_or_of_lt (b := x / 128) (by omega)]
  unfold rol8
  rw [h2] at h
  rw [show (2 * x % 256 + x / 128 : Nat) = x * 2 % 256 + x / 128 from by omega, ← h]
  congr 1
theorem rotl8_one (x : Nat) (hx : x < 256) (w : World) : Calls Try.prog 56 #[.int .u8 x, .int .i64 1] w fun e w' => e = .returned (.int .u8 (rol8 x : Nat)) ∧ w = w' := by
  have H := Lib.hid (rolV x hx)
  have c1 : bits .and .u64 1 7 = 1 := by decide +kernel
  go_enter Try.func56, Try.ntmps56
  go_wp2
  go_ret
  exact ⟨ret_u8 H.out, rfl⟩
theorem Row.byte1 {w : World} {g : Nat} {x : Nat} (h : Row w g 5 (u8s [x])) : w.cell? ⟨g, 0, none⟩ = some (.int .u8 (x : Int)) := Row.u8 h (i := 0) (by simp)
set_option maxRecDepth 100000 in
theorem turnOn_any (g h : Nat) (x y : Nat) (w : World) (hx : x < 256) (hy : y < 256) (hg : Row w g 5 (u8s [x])) (hh : Row w h 5 (u8s [y])) (hgh : ¬ g = h) : Calls Try.prog 55 #[.pointer (some ⟨g, 0, none⟩), .pointer (some ⟨h, 0, none⟩)] w fun e w' => e = .returned (.tuple #[]) ∧ Row w' g 5 (u8s [rol8 x]) ∧ Row w' h 5 (u8s [y ^^^ rol8 x]) ∧ Chg (fun b => b = g ∨ b = h) w w' := by
  have c1 := Row.byte1 hg
  have c2 := Row.byte1 hh
  have f1 := hg.frozen 0
  have f2 := hh.frozen 0
  have HG := Lib.hid hg
  have HH := Lib.hid hh
  have hhg : ¬ h = g := fun e => hgh e.symm
  have HX := Lib.hid (u8_xor_nat y (rol8 x) hy (rol8_lt hx))
  clear hg hh
  go_enter Try.func55, Try.ntmps55
  go_wp2_with (go_at_call 56; refine (rotl8_one x hx _).mono ?_; rintro e w' ⟨rfl, rfl⟩)
  refine bodyPost_end (results_none rfl _ _ _) rfl ?_
  refine ⟨rfl, ?_, ?_, ((Chg.refl _ _).setCell (fun _ => Or.inl rfl) _).setCell (fun _ => Or.inr rfl) _⟩
  · exact (HG.out.set 0 _).far (fun e => hgh e) _
  · rw [HX.out]
    exact (HH.out.far (fun e => hgh e.symm) _).set 0 _
set_option maxRecDepth 100000 in
theorem boxOf_any (x : Nat) (hx : x < 256) (w : World) : Calls Try.prog 54 #[.int .u8 x] w fun e w' => e = .returned (.int .u8 (affN x : Nat)) ∧ Chg none_ w w' := by
  have HX := Lib.hid (u8_xor_nat x 99 hx (by decide))
  go_enter Try.func54, Try.ntmps54
  go_wp2
  have e99 : bits BinOp.xor IntKind.u8 (x : Int) 99 = ((x ^^^ 99 : Nat) : Int) := HX.out
  rw [e99]
  have hr1 : Row ((w.alloc (Obj.cells #[Value.int IntKind.u8 (x : Int)] 5)).alloc (Obj.cells #[Value.int IntKind.u8 ((x ^^^ 99 : Nat) : Int)] 5)) w.heap.size 5 (u8s [x]) := Row.new1 w _ _ _
  have hr2 : Row ((w.alloc (Obj.cells #[Value.int IntKind.u8 (x : Int)] 5)).alloc (Obj.cells #[Value.int IntKind.u8 ((x ^^^ 99 : Nat) : Int)] 5)) (w.heap.size + 1) 5 (u8s [x ^^^ 99]) := Row.new2 w _ _ _
  have hc : Chg none_ w ((w.alloc (Obj.cells #[Value.int IntKind.u8 (x : Int)] 5)).alloc (Obj.cells #[Value.int IntKind.u8 ((x ^^^ 99 : Nat) : Int)] 5)) := ((Chg.refl _ _).alloc _).alloc _
  have HR1 := Lib.hid hr1
  have HR2 := Lib.hid hr2
  have HC := Lib.hid hc
  clear hr1 hr2 hc e99
  generalize ((w.alloc (Obj.cells #[Value.int IntKind.u8 (x : Int)] 5)).alloc (Obj.cells #[Value.int IntKind.u8 ((x ^^^ 99 : Nat) : Int)] 5)) = w2 at HR1 HR2 HC ⊢
  go_loopw [8] (fun i wr => ∃ k : Nat, k ≤ 4 ∧ i = .int .i64 k ∧ Row wr w.heap.size 5 (u8s [rolS x k]) ∧ Row wr (w.heap.size + 1) 5 (u8s [affS x k]) ∧ Chg none_ w wr) (fun i _ => 4 - (intOf i).toNat)
  case atStart => exact ⟨0, Nat.zero_le _, rfl, HR1.out, HR2.out, HC.out⟩
  case round =>
    obtain ⟨k, hk, rfl, hr1, hr2, hc⟩ := hrel
    have HRa := Lib.hid hr1
    have HRb := Lib.hid hr2
    have HCk := Lib.hid hc
    clear hc
    by_cases hlt : k < 4
    · clear hr1 hr2
      go_wp2_with (go_at_call 55; refine (turnOn_any w.heap.size (w.heap.size + 1) (rolS x k) (affS x k) _ (rolS_lt hx k) (affS_lt hx k) HRa.out HRb.out (by omega)).mono ?_; rintro e w' ⟨rfl, hra, hrb, hcc⟩; have HRc := Lib.hid hra; have HRd := Lib.hid hrb; have HCc := Lib.hid hcc; clear hra hrb hcc)
      go_roundw
      case rel => exact ⟨k + 1, by omega, by go_num, HRc.out, HRd.out, HCk.out.andThen HCc.out (fun b h e => by rcases e with e | e <;> omega)⟩
      case measure => simp [intOf]; omega
    · have hk4 : k = 4 := by omega
      subst hk4
      have c1 := Row.byte1 hr2
      clear hr1 hr2
      go_wp2
      go_ret
      exact ⟨rfl, HCk.out⟩
end Go.Proofs.Ytmimpodbmfmeiaa
