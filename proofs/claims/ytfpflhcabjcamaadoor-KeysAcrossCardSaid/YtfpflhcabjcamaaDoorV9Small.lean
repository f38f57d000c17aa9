/- Layer 9 (gcm): words, and polynomials as two of them, the program's. -/
import Derived.Test.YtfpflhcabjcamaaDoorProg
import Derived.Test.YtfpflhcabjcamaaDoorK0
import Derived.Test.YtfpflhcabjcamaaDoorKM

import Derived.IntWalk
import Derived.Lib.Hide
import Derived.Laws.BitsAllLaws
import Derived.BigQuiet
import Derived.Deep.QuietTactic
import Derived.RegionTactic
import Derived.BigRegion
namespace Go.Proofs.YtfpflhcabjcamaaDoor
open Go.RowKit

/-- Two words as a value's cells. -/
def w2 (a b : Nat) : List Value := [.int .u64 (a : Nat), .int .u64 (b : Nat)]
theorem pw_w2 (n : Nat) : pw n = w2 (fW n) (lW n) := rfl
theorem size45 : (Tryd.prog.info? 86).map (·.size) = some 2 := by kernel_rfl
theorem zero45 : (Tryd.prog.info? 86).map (·.zero) = some (some (.agg (w2 0 0).toArray)) := by kernel_rfl

theorem Row.newAt (W : World) (e : TypeId) (cs : List Value) (b : Nat) (hb : W.heap.size = b) : Row (W.alloc (.cells cs.toArray e)) b e cs := hb ▸ Row.new W e cs
theorem Row.w2a {w : World} {g : Nat} {e : TypeId} {a b : Nat} (h : Row w g e (w2 a b)) : w.cell? ⟨g, 0, none⟩ = some (.int .u64 (a : Nat)) := h.cell 0
theorem Row.w2b {w : World} {g : Nat} {e : TypeId} {a b : Nat} (h : Row w g e (w2 a b)) : w.cell? ⟨g, 1, none⟩ = some (.int .u64 (b : Nat)) := h.cell 1

set_option maxRecDepth 100000 in
set_option maxHeartbeats 1000000 in
theorem plus_w (a b c d : Nat) (ha : a < 2 ^ 64) (hb : b < 2 ^ 64) (hc : c < 2 ^ 64) (hd : d < 2 ^ 64) (w : World) : Calls Tryd.prog 41 #[.agg (w2 a b).toArray, .agg (w2 c d).toArray] w fun e w' => e = .returned (.agg (w2 (a ^^^ c) (b ^^^ d)).toArray) ∧ Chg none_ w w' := by
  have H1 := Lib.hid (u64_xor_nat a c (by omega) (by omega))
  have H2 := Lib.hid (u64_xor_nat b d (by omega) (by omega))
  unfold w2
  go_enter Tryd.func41, Tryd.ntmps41
  go_wp2
  rw [H1.out, H2.out]
  refine ret_row rfl rfl (Row.newAt _ _ (w2 (a ^^^ c) (b ^^^ d)) _ (by simp)) Tryd.underlying86 rfl size45 rfl ?_
  exact ⟨rfl, (((Chg.refl none_ w).alloc _).alloc _).alloc _⟩
theorem plus_any (m n : Nat) (w : World) : Calls Tryd.prog 41 #[.agg (pw m).toArray, .agg (pw n).toArray] w fun e w' => e = .returned (.agg (pw (m ^^^ n)).toArray) ∧ Chg none_ w w' := by
  have := plus_w (fW m) (lW m) (fW n) (lW n) (fW_lt m) (lW_lt m) (fW_lt n) (lW_lt n) w
  rw [← fW_xor, ← lW_xor] at this
  exact this

set_option maxRecDepth 100000 in
set_option maxHeartbeats 1000000 in
theorem shift_w (f l o e : Nat) (hf : f < 2 ^ 64) (hl : l < 2 ^ 64) (ho : l % 2 = o) (he : o = 0 ∧ e = 0 ∨ o = 1 ∧ e = 16212958658533785600) (w : World) : Calls Tryd.prog 60 #[.agg (w2 f l).toArray] w fun x w' => x = .returned (.agg (w2 (f / 2 ^^^ e) (l / 2 ||| f * 2 ^ 63 % 2 ^ 64)).toArray) ∧ Chg none_ w w' := by
  have H0 : bits .and .u64 (l : Int) 1 = (o : Int) := by
    have := u64_and_nat l 1 (by omega) (by omega)
    rw [show ((1 : Nat) : Int) = 1 from rfl] at this
    rw [this, Nat.and_one_is_mod, ho]
  have H1 := Lib.hid (u64_xor_nat (f / 2) e (by omega) (by omega))
  have H2 := Lib.hid (u64_or_nat (l / 2) (f * 2 ^ 63 % 2 ^ 64) (by omega) (by omega))
  have H3 : Hid ((o : Int) * 16212958658533785600 % 18446744073709551616 = (e : Int)) := Lib.hid (by omega)
  clear ho he
  unfold w2
  go_enter Tryd.func60, Tryd.ntmps60
  go_wp2
  have e1 : IntKind.u64.wrap ((o : Int) * 16212958658533785600) = (e : Int) := by rw [← H3.out]; simp [IntKind.wrap, IntKind.bits, IntKind.signed]
  have e2 : IntKind.u64.wrap ((f : Int) * 9223372036854775808) = ((f * 2 ^ 63 % 2 ^ 64 : Nat) : Int) := by simp [IntKind.wrap, IntKind.bits, IntKind.signed]
  have e3 : bits .xor .u64 ((f : Int) / 2) (e : Int) = ((f / 2 ^^^ e : Nat) : Int) := H1.out
  have e4 : bits .or .u64 ((l : Int) / 2) ((f * 2 ^ 63 % 2 ^ 64 : Nat) : Int) = ((l / 2 ||| f * 2 ^ 63 % 2 ^ 64 : Nat) : Int) := H2.out
  rw [e1, e2, e3, e4]
  refine ret_row rfl rfl (Row.newAt _ _ (w2 (f / 2 ^^^ e) (l / 2 ||| f * 2 ^ 63 % 2 ^ 64)) _ (by simp)) Tryd.underlying86 rfl size45 rfl ?_
  exact ⟨rfl, ((Chg.refl none_ w).alloc _).alloc _⟩
theorem shift_any (n : Nat) (w : World) : Calls Tryd.prog 60 #[.agg (pw n).toArray] w fun x w' => x = .returned (.agg (pw (gD n)).toArray) ∧ Chg none_ w w' := by
  have h := lW_mod2 n
  have := shift_w (fW n) (lW n) (if n.testBit 127 then 1 else 0) (if n.testBit 127 then 225 * 2 ^ 56 else 0) (fW_lt n) (lW_lt n) h (by split <;> simp) w
  rw [← fW_gD, ← lW_gD] at this
  exact this

/-- The number that bytes make. -/
theorem wordOf_any (T : Nat → Prop) (A : Option Addr) (cap : Nat) (l : List Nat) (w : World) (hl : l.length = 8) (hb : ∀ x ∈ l, x < 256) (hv : View w T A 8 (u8s l)) : Calls Tryd.prog 48 #[.slice A 8 cap] w fun e w' => e = .returned (.int .u64 ((foldB 0 l : Nat) : Int)) ∧ w = w' := by
  have HV := Lib.hid hv
  have HL := Lib.hid hl
  have HB := Lib.hid hb
  clear hv hl hb
  go_enter Tryd.func48, Tryd.ntmps48
  go_wp2
  go_loopw [3, 5, 8] (fun p _ i wr => ∃ k : Nat, k ≤ 8 ∧ i = .int .i64 k ∧ p = .int .u64 ((foldB 0 (l.take k) : Nat) : Int) ∧ wr = w) (fun _ _ i _ => 8 - (intOf i).toNat)
  case atStart => exact ⟨0, Nat.zero_le _, rfl, rfl, rfl⟩
  case round =>
    obtain ⟨k, hk, rfl, rfl, rfl⟩ := hrel
    by_cases hlt : k < 8
    · obtain ⟨b, o, rfl, hbl, _, c1⟩ := HV.out.at_ hlt
      have hp : foldB 0 (l.take k) < 2 ^ 56 := by
        have := foldB_lt (l.take k) (fun x hx => HB.out x (List.mem_of_mem_take hx)) 0 1 Nat.zero_lt_one
        rw [List.length_take, HL.out, Nat.min_eq_left hk, Nat.one_mul] at this
        exact Nat.lt_of_lt_of_le this (by have := Nat.pow_le_pow_right (n := 256) (by decide) (show k ≤ 7 by omega); rw [show (2 : Nat) ^ 56 = 256 ^ 7 from by decide]; exact this)
      have HN : Hid (foldB 0 (l.take (k + 1)) = foldB 0 (l.take k) * 256 + l.getD k 0) := Lib.hid (by
        have hk2 : k < l.length := by rw [HL.out]; exact hlt
        rw [List.take_add_one, List.getElem?_eq_getElem hk2, Option.toList_some, foldB_snoc, List.getD_eq_getElem?_getD, List.getElem?_eq_getElem hk2]
        rfl)
      have hx : l.getD k 0 < 256 := getD_lt HB.out k (by decide)
      generalize l.getD k 0 = x at c1 HN hx
      generalize foldB 0 (l.take k) = m at hp HN ⊢
      have HO := Lib.hid (u64_or_nat (m * 256) x (by omega) (by omega))
      have HO2 := Lib.hid (or_256 m x hx)
      have q0 : (0 : Int) ≤ (k : Int) := by omega
      have q1 : (k : Int) < 8 := by omega
      have e0 : (m : Int) * 256 % 18446744073709551616 = (m : Int) * 256 := by omega
      clear hk
      go_wp2
      go_roundw
      case rel => exact ⟨k + 1, by omega, by go_num, by rw [HN.out, ← HO2.out, ← HO.out]; rfl, by first | rfl | trivial⟩
      case measure => simp [intOf]; omega
    · have hk8 : k = 8 := by omega
      subst hk8
      have hE : l.take 8 = l := List.take_of_length_le (by rw [HL.out]; exact Nat.le_refl _)
      rw [hE]
      go_wp2
      go_ret
      exact ⟨rfl, by first | rfl | trivial⟩

/-- How many bits a number has. -/
def lenN (x : Nat) : Nat := if x = 0 then 0 else Nat.log2 x + 1
theorem log2_div (x k : Nat) (h : 2 ^ k ≤ x) : Nat.log2 (x / 2 ^ k) + k = Nat.log2 x := by
  have hx : x ≠ 0 := by have := Nat.two_pow_pos k; omega
  have hq : x / 2 ^ k ≠ 0 := by have := (Nat.le_div_iff_mul_le (Nat.two_pow_pos k)).2 (by rw [Nat.one_mul]; exact h); omega
  symm
  rw [Nat.log2_eq_iff hx]
  obtain ⟨h1, h2⟩ := (Nat.log2_eq_iff hq).1 rfl
  refine ⟨?_, ?_⟩
  · rw [Nat.pow_add]
    exact Nat.le_trans (Nat.mul_le_mul_right _ h1) (Nat.div_mul_le_self _ _)
  · have := (Nat.div_lt_iff_lt_mul (Nat.two_pow_pos k)).1 h2
    rwa [← Nat.pow_add, show Nat.log2 (x / 2 ^ k) + 1 + k = Nat.log2 (x / 2 ^ k) + k + 1 from by omega] at this
theorem lenN_div (x k : Nat) (h : 2 ^ k ≤ x) : lenN (x / 2 ^ k) + k = lenN x := by
  have hx : x ≠ 0 := by have := Nat.two_pow_pos k; omega
  have hq : x / 2 ^ k ≠ 0 := by have := (Nat.le_div_iff_mul_le (Nat.two_pow_pos k)).2 (by rw [Nat.one_mul]; exact h); omega
  unfold lenN
  rw [if_neg hx, if_neg hq, ← log2_div x k h]
  omega
theorem lenN_small : ∀ y, y < 256 → lenN y < 256 := by decide +kernel
theorem wrap_two (c : Int) (n t : Nat) (h : (n : Int) + c = t) (h0 : 0 ≤ c) (hc : c < 256) (hn : n < 256) : wrap64 (c + wrap64 (n : Int)) = t := by
  have e : wrap64 (n : Int) = n := by unfold wrap64; omega
  rw [e]; unfold wrap64; omega
theorem wrap_twice (n t : Nat) (h : (n : Int) + 0 = t) (hn : n < 256) : wrap64 (wrap64 (n : Int)) = t := by
  have e : wrap64 (n : Int) = n := by unfold wrap64; omega
  rw [e, e]; omega
section
variable {P : Program} {ops : Array Oper} {rest : List Oper} {o : Oper} {a : Act} {w : World} {Q : Exit → Act → World → Prop}
/-- A byte of the text that has each byte's number of bits. -/
theorem wpList_index_len (hw : Region.wanted o (yielded ops a.tmps) = true) (t : TypeId) (s : ByteArray) (y : Operand) (ho : o.op = .index t (.const (.string s)) y) (hu : P.underlying t = some .string) (i : Int) (hy : a.eval y = .int .u8 i) (hs : ∀ n, n < 256 → s[n]? = some (lenN n).toUInt8) (h0 : 0 ≤ i) (h1 : i < 256)
    (k : wpList P ops Q rest (a.put o.dst (.int .u8 (lenN i.toNat : Nat))) w) : wpList P ops Q (o :: rest) a w :=
  wpList_val hw _ (fun w => by
    have hn : s[i.toNat]? = some (lenN i.toNat).toUInt8 := hs i.toNat (by omega)
    have hb := lenN_small i.toNat (by omega)
    have hc : a.eval (.const (.string s)) = .string s := rfl
    unfold execOp
    simp [ho, hy, hc, Instr.index, run_underlying hu, asIntOf, h0, hn]
    omega) k
end
set_option maxRecDepth 100000 in
set_option maxHeartbeats 2000000 in
theorem len64_any (x : Nat) (hx : x < 2 ^ 64) (w : World) : Calls Tryd.prog 71 #[.int .u64 (x : Int)] w fun e w' => e = .returned (.int .i64 ((lenN x : Nat) : Int)) ∧ w = w' := by
  by_cases nc32 : x < 4294967296
  · have c32 : ¬ (4294967296 : Int) ≤ (x : Int) := by omega
    by_cases nc16 : x < 65536
    · have c16 : ¬ (65536 : Int) ≤ (x : Int) := by omega
      by_cases nc8 : x < 256
      · have c8 : ¬ (256 : Int) ≤ (x : Int) := by omega
        have HL : Hid (lenN (x) + 0 = lenN x) := Lib.hid (by
          omega)
        have HS : Hid (lenN (x) < 256) := Lib.hid (lenN_small _ (by omega))
        have HT : Hid (((((x : Int)) % 256 : Int)).toNat = x % 256) := Lib.hid (by omega)
        clear hx nc32 nc16 nc8
        go_enter Tryd.func71, Tryd.ntmps71
        go_wp2_with (((with_reducible show wpList _ _ _ (⟨_, .index _ _ _, _, _, _, _⟩ :: _) _ _); refine wpList_index_len rfl _ _ _ rfl Tryd.underlying9 _ rfl (by decide +kernel) (by omega) (by omega) ?_))
        go_ret
        exact ⟨ret_i64 (wrap_twice _ _ (by have := HL.out; omega) HS.out), rfl⟩
      · have c8 : (256 : Int) ≤ (x : Int) := by omega
        have HL : Hid (lenN (x / 256) + 8 = lenN x) := Lib.hid (by
          have h8 := lenN_div (x) 8 (by omega)
          simp only [Nat.reducePow] at *
          omega)
        have HS : Hid (lenN (x / 256) < 256) := Lib.hid (lenN_small _ (by omega))
        have HT : Hid (((((x : Int) / 256) % 256 : Int)).toNat = x / 256 % 256) := Lib.hid (by omega)
        clear hx nc32 nc16 nc8
        go_enter Tryd.func71, Tryd.ntmps71
        go_wp2_with (((with_reducible show wpList _ _ _ (⟨_, .index _ _ _, _, _, _, _⟩ :: _) _ _); refine wpList_index_len rfl _ _ _ rfl Tryd.underlying9 _ rfl (by decide +kernel) (by omega) (by omega) ?_))
        go_ret
        exact ⟨ret_i64 (wrap_two _ _ _ (by have := HL.out; omega) (by decide) (by decide) HS.out), rfl⟩
    · have c16 : (65536 : Int) ≤ (x : Int) := by omega
      by_cases nc8 : x / 65536 < 256
      · have c8 : ¬ (256 : Int) ≤ (x : Int) / 65536 := by omega
        have HL : Hid (lenN (x / 65536) + 16 = lenN x) := Lib.hid (by
          have h16 := lenN_div (x) 16 (by omega)
          simp only [Nat.reducePow] at *
          omega)
        have HS : Hid (lenN (x / 65536) < 256) := Lib.hid (lenN_small _ (by omega))
        have HT : Hid (((((x : Int) / 65536) % 256 : Int)).toNat = x / 65536 % 256) := Lib.hid (by omega)
        clear hx nc32 nc16 nc8
        go_enter Tryd.func71, Tryd.ntmps71
        go_wp2_with (((with_reducible show wpList _ _ _ (⟨_, .index _ _ _, _, _, _, _⟩ :: _) _ _); refine wpList_index_len rfl _ _ _ rfl Tryd.underlying9 _ rfl (by decide +kernel) (by omega) (by omega) ?_))
        go_ret
        exact ⟨ret_i64 (wrap_two _ _ _ (by have := HL.out; omega) (by decide) (by decide) HS.out), rfl⟩
      · have c8 : (256 : Int) ≤ (x : Int) / 65536 := by omega
        have HL : Hid (lenN (x / 65536 / 256) + 24 = lenN x) := Lib.hid (by
          have h16 := lenN_div (x) 16 (by omega)
          have h8 := lenN_div (x / 65536) 8 (by omega)
          simp only [Nat.reducePow] at *
          omega)
        have HS : Hid (lenN (x / 65536 / 256) < 256) := Lib.hid (lenN_small _ (by omega))
        have HT : Hid (((((x : Int) / 65536 / 256) % 256 : Int)).toNat = x / 65536 / 256 % 256) := Lib.hid (by omega)
        clear hx nc32 nc16 nc8
        go_enter Tryd.func71, Tryd.ntmps71
        go_wp2_with (((with_reducible show wpList _ _ _ (⟨_, .index _ _ _, _, _, _, _⟩ :: _) _ _); refine wpList_index_len rfl _ _ _ rfl Tryd.underlying9 _ rfl (by decide +kernel) (by omega) (by omega) ?_))
        go_ret
        exact ⟨ret_i64 (wrap_two _ _ _ (by have := HL.out; omega) (by decide) (by decide) HS.out), rfl⟩
  · have c32 : (4294967296 : Int) ≤ (x : Int) := by omega
    by_cases nc16 : x / 4294967296 < 65536
    · have c16 : ¬ (65536 : Int) ≤ (x : Int) / 4294967296 := by omega
      by_cases nc8 : x / 4294967296 < 256
      · have c8 : ¬ (256 : Int) ≤ (x : Int) / 4294967296 := by omega
        have HL : Hid (lenN (x / 4294967296) + 32 = lenN x) := Lib.hid (by
          have h32 := lenN_div (x) 32 (by omega)
          simp only [Nat.reducePow] at *
          omega)
        have HS : Hid (lenN (x / 4294967296) < 256) := Lib.hid (lenN_small _ (by omega))
        have HT : Hid (((((x : Int) / 4294967296) % 256 : Int)).toNat = x / 4294967296 % 256) := Lib.hid (by omega)
        clear hx nc32 nc16 nc8
        go_enter Tryd.func71, Tryd.ntmps71
        go_wp2_with (((with_reducible show wpList _ _ _ (⟨_, .index _ _ _, _, _, _, _⟩ :: _) _ _); refine wpList_index_len rfl _ _ _ rfl Tryd.underlying9 _ rfl (by decide +kernel) (by omega) (by omega) ?_))
        go_ret
        exact ⟨ret_i64 (wrap_two _ _ _ (by have := HL.out; omega) (by decide) (by decide) HS.out), rfl⟩
      · have c8 : (256 : Int) ≤ (x : Int) / 4294967296 := by omega
        have HL : Hid (lenN (x / 4294967296 / 256) + 40 = lenN x) := Lib.hid (by
          have h32 := lenN_div (x) 32 (by omega)
          have h8 := lenN_div (x / 4294967296) 8 (by omega)
          simp only [Nat.reducePow] at *
          omega)
        have HS : Hid (lenN (x / 4294967296 / 256) < 256) := Lib.hid (lenN_small _ (by omega))
        have HT : Hid (((((x : Int) / 4294967296 / 256) % 256 : Int)).toNat = x / 4294967296 / 256 % 256) := Lib.hid (by omega)
        clear hx nc32 nc16 nc8
        go_enter Tryd.func71, Tryd.ntmps71
        go_wp2_with (((with_reducible show wpList _ _ _ (⟨_, .index _ _ _, _, _, _, _⟩ :: _) _ _); refine wpList_index_len rfl _ _ _ rfl Tryd.underlying9 _ rfl (by decide +kernel) (by omega) (by omega) ?_))
        go_ret
        exact ⟨ret_i64 (wrap_two _ _ _ (by have := HL.out; omega) (by decide) (by decide) HS.out), rfl⟩
    · have c16 : (65536 : Int) ≤ (x : Int) / 4294967296 := by omega
      by_cases nc8 : x / 4294967296 / 65536 < 256
      · have c8 : ¬ (256 : Int) ≤ (x : Int) / 4294967296 / 65536 := by omega
        have HL : Hid (lenN (x / 4294967296 / 65536) + 48 = lenN x) := Lib.hid (by
          have h32 := lenN_div (x) 32 (by omega)
          have h16 := lenN_div (x / 4294967296) 16 (by omega)
          simp only [Nat.reducePow] at *
          omega)
        have HS : Hid (lenN (x / 4294967296 / 65536) < 256) := Lib.hid (lenN_small _ (by omega))
        have HT : Hid (((((x : Int) / 4294967296 / 65536) % 256 : Int)).toNat = x / 4294967296 / 65536 % 256) := Lib.hid (by omega)
        clear hx nc32 nc16 nc8
        go_enter Tryd.func71, Tryd.ntmps71
        go_wp2_with (((with_reducible show wpList _ _ _ (⟨_, .index _ _ _, _, _, _, _⟩ :: _) _ _); refine wpList_index_len rfl _ _ _ rfl Tryd.underlying9 _ rfl (by decide +kernel) (by omega) (by omega) ?_))
        go_ret
        exact ⟨ret_i64 (wrap_two _ _ _ (by have := HL.out; omega) (by decide) (by decide) HS.out), rfl⟩
      · have c8 : (256 : Int) ≤ (x : Int) / 4294967296 / 65536 := by omega
        have HL : Hid (lenN (x / 4294967296 / 65536 / 256) + 56 = lenN x) := Lib.hid (by
          have h32 := lenN_div (x) 32 (by omega)
          have h16 := lenN_div (x / 4294967296) 16 (by omega)
          have h8 := lenN_div (x / 4294967296 / 65536) 8 (by omega)
          simp only [Nat.reducePow] at *
          omega)
        have HS : Hid (lenN (x / 4294967296 / 65536 / 256) < 256) := Lib.hid (lenN_small _ (by omega))
        have HT : Hid (((((x : Int) / 4294967296 / 65536 / 256) % 256 : Int)).toNat = x / 4294967296 / 65536 / 256 % 256) := Lib.hid (by omega)
        have c9 : (x : Int) / 4294967296 / 65536 / 256 < 256 := by omega
        clear hx nc32 nc16 nc8
        go_enter Tryd.func71, Tryd.ntmps71
        go_wp2_with (((with_reducible show wpList _ _ _ (⟨_, .index _ _ _, _, _, _, _⟩ :: _) _ _); refine wpList_index_len rfl _ _ _ rfl Tryd.underlying9 _ rfl (by decide +kernel) (by omega) (by omega) ?_))
        go_ret
        exact ⟨ret_i64 (wrap_two _ _ _ (by have := HL.out; omega) (by decide) (by decide) HS.out), rfl⟩
set_option maxRecDepth 100000 in
theorem zeros64_any (x : Nat) (hx : x < 2 ^ 64) (h0 : 0 < x) (w : World) : Calls Tryd.prog 68 #[.int .u64 (x : Int)] w fun e w' => e = .returned (.int .i64 ((63 - Nat.log2 x : Nat) : Int)) ∧ w = w' := by
  have HE : Hid (lenN x = Nat.log2 x + 1) := Lib.hid (by unfold lenN; rw [if_neg (by omega)])
  have hl : Nat.log2 x < 64 := (Nat.log2_lt (by omega)).2 hx
  have HL := Lib.hid (fun w => len64_any x hx w)
  rw [HE.out] at HL
  generalize Nat.log2 x = m at hl HL
  clear HE hx h0
  go_enter Tryd.func68, Tryd.ntmps68
  go_wp2_with (go_at_call 71; refine (HL.out _).mono ?_; rintro e w' ⟨rfl, rfl⟩)
  go_ret
  refine ⟨ret_i64 ?_, rfl⟩
  omega

end Go.Proofs.YtfpflhcabjcamaaDoor
