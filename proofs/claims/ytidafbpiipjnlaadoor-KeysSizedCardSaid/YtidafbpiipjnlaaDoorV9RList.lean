/- Layer 9 (gcm): a block's bits as a list, the document's. -/
import Derived.Test.YtidafbpiipjnlaaDoorV9RMath
import Derived.Test.YtidafbpiipjnlaaDoorV9Small
import Derived.Test.YtidafbpiipjnlaaDoorK0

import Derived.Deep.OwnRows
namespace Go.Proofs.YtidafbpiipjnlaaDoor
open Go.RowKit

theorem info3 : (Tryd.prog.info? 3).map (fun i => (i.zero, i.size, i.bytes)) = some (some (.int .i64 0), 1, 8) := by kernel_rfl
/-- A slice of the call's own that holds just these ints. -/
def OwnedI (w : World) (base : Nat) (v : Value) (l : List Nat) : Prop := w.ownsRow base 3 1 v l.length (i64s l)
theorem OwnedI.chg {w w' : World} {S : Nat → Prop} {base : Nat} {v : Value} {l : List Nat} (h : OwnedI w base v l) (hc : Chg S w w') (hs : ∀ b, base ≤ b → ¬ S b) : OwnedI w' base v l := own_chg h hc hs
theorem OwnedI.nil (w : World) (base : Nat) : OwnedI w base (.slice none 0 0) [] := World.ownsRow_nil _ _ _ _
/-- Older blocks count, too. -/
theorem OwnedI.base {w : World} {base b0 : Nat} {v : Value} {l : List Nat} (h : OwnedI w base v l) (hb : b0 ≤ base) : OwnedI w b0 v l := by
  refine ⟨h.1, ?_⟩
  rcases h.2 with h2 | ⟨g, cap, cur, h1, hg, h2, h3⟩
  · exact .inl h2
  · exact .inr ⟨g, cap, cur, h1, Nat.le_trans hb hg, h2, h3⟩
section
variable {ops : Array Oper} {rest : List Oper} {o : Oper} {a : Act} {w w0 : World} {Q : Exit → Act → World → Prop}
theorem wpList_append_ints (hgd : o.guard = none) (s x : Operand) (t : TypeId)
    (ho : o.op = .call { callee := .builtin .append, args := #[s, x], argTypes := #[t, t] }) (ht : Tryd.prog.underlying t = some (.slice 3)) {base : Nat} {v : Value} {L M : List Nat} {T : Nat → Prop} {A : Option Addr} {m c : Nat}
    (hs : a.eval s = v) (hown : OwnedI w base v L) (hx : a.eval x = .slice A m c) (hv : View w T A m (i64s M)) (hlen : L.length + m ≤ 1000000) (hbase : base ≤ w.heap.size) (hc0 : Chg none_ w0 w) (hb0 : w0.heap.size ≤ base)
    (k : ∀ v' w', OwnedI w' base v' (L ++ M) → Chg none_ w0 w' → wpList Tryd.prog ops Q rest (a.put o.dst v') w') : wpList Tryd.prog ops Q (o :: rest) a w :=
  wpList_plain hgd fun _ hK => by
    obtain ⟨i0, hi, hz0, hz1, hz2⟩ := info_parts info3
    have hm : M.length = m := by have := hv.1; simpa using this
    refine wp_append_view s x t ho 3 i0 _ 8 ht hi hz0 hz1 hz2 rfl base v L.length (i64s L) hs hown T A m c (i64s M) hx hv (i64s_one _) (by unfold maxLen; omega) (by omega) hbase fun v' w' h2 h3 _ => hK _ _ (k v' w' ?_ (chg_grown hc0 hb0 hown h3))
    rw [i64s_append] at h2
    unfold OwnedI
    rw [List.length_append, hm]
    exact h2
end

set_option maxRecDepth 100000 in
set_option maxHeartbeats 2000000 in
theorem rlist_any (b : List Nat) (w : World) (hb : b.length = 16) (hbb : ∀ x ∈ b, x < 256) : Calls Tryd.prog 87 #[.agg (u8s b).toArray] w fun e w' => ∃ v, e = .returned v ∧ OwnedI w' w.heap.size v (bitsL (polB b) 128) ∧ Chg none_ w w' := by
  have HB := Lib.hid hb
  have HBB := Lib.hid (fun i => getD_lt hbb i (by decide))
  clear hb hbb
  go_enter Tryd.func87, Tryd.ntmps87
  go_wp2_with (first | ((with_reducible show wpList _ _ _ (⟨_, .box 26 _, _, _, _, _⟩ :: _) _ _); refine wpList_box_Row rfl rfl (u8s b) rfl ?_; intro w1 hr1 hc1 hs1; have HR1 := Lib.hid hr1; have HC1 := Lib.hid hc1; clear hr1 hc1 hs1))
  try simp only [Act.put, List.setIfInBounds_toArray, List.set_cons_zero, List.set_cons_succ]
  go_loopw [3, 4, 5, 6] (fun v i _ _ wr => ∃ k : Nat, k ≤ 128 ∧ i = .int .i64 k ∧ OwnedI wr w1.heap.size v (bitsL (polB b) k) ∧ Chg none_ w1 wr) (fun _ i _ _ _ => 128 - (intOf i).toNat)
  case atStart => exact ⟨0, Nat.zero_le _, rfl, OwnedI.nil _ _, Chg.refl _ _⟩
  case round =>
    obtain ⟨k, hk, rfl, hown, hch⟩ := hrel
    have HO := Lib.hid hown
    have HC := Lib.hid hch
    have hrow := HR1.out.chg hch (fun h => h)
    clear hown hch
    by_cases hlt : k < 128
    · obtain ⟨q, hq⟩ : ∃ q, q = k / 8 := ⟨_, rfl⟩
      obtain ⟨r, hr⟩ : ∃ r, r = 7 - k % 8 := ⟨_, rfl⟩
      have c1 := Row.u8 hrow (i := q) (by rw [HB.out]; omega)
      have hx := HBB.out q
      have HBIT : Hid (bitsL (polB b) (k + 1) = bitsL (polB b) k ++ [b.getD q 0 / 2 ^ r % 2]) := Lib.hid (by rw [bitsL_succ, polB_bit _ _ hlt, ← polBit_div, hq, hr])
      generalize b.getD q 0 = x at c1 hx HBIT
      have m1 : (k : Int) / 8 = (q : Int) := by omega
      have m2 : (7 : Int) - (k : Int) % 8 = (r : Int) := by omega
      have q0 : (0 : Int) ≤ (q : Int) := by omega
      have q1 : (q : Int) < 16 := by omega
      have HK := Lib.hid hk
      have HLT := Lib.hid hlt
      clear hrow hk hq hr hlt
      obtain ⟨wA, hwA⟩ : ∃ z, z = wr := ⟨_, rfl⟩
      subst hwA
      go_wp2
      go_loopw [5, 6] (fun c j w2 => ∃ m : Nat, m ≤ r ∧ j = .int .i64 m ∧ c = .int .i64 ((x / 2 ^ m : Nat) : Int) ∧ w2 = wA) (fun _ j _ => r - (intOf j).toNat)
      case atStart => exact ⟨0, Nat.zero_le _, rfl, by rw [Nat.pow_zero, Nat.div_one], rfl⟩
      case round =>
        obtain ⟨m, hm, rfl, rfl, rfl⟩ := hrel
        by_cases hmr : m < r
        · have HN : Hid (((x / 2 ^ m : Nat) : Int) / 2 = ((x / 2 ^ (m + 1) : Nat) : Int)) := Lib.hid (by rw [Nat.pow_succ, ← Nat.div_div_eq_div_mul]; omega)
          have hle : x / 2 ^ m < 256 := Nat.lt_of_le_of_lt (Nat.div_le_self _ _) hx
          generalize x / 2 ^ m = y at HN hle
          clear hm
          go_wp2
          go_roundw
          case rel => exact ⟨m + 1, by omega, by go_num, by rw [HN.out], by first | rfl | trivial⟩
          case measure => simp [intOf]; omega
        · have hmr2 : m = r := by omega
          subst hmr2
          have hle : x / 2 ^ m < 256 := Nat.lt_of_le_of_lt (Nat.div_le_self _ _) hx
          generalize x / 2 ^ m = y at HBIT hle ⊢
          have HYV : Hid ([Value.int .i64 ((y : Int) % 2)] = i64s [y % 2]) := Lib.hid (by simp [i64s])
          have HBL := Lib.hid (bitsL_len (polB b) k)
          clear hm hmr
          go_wp2_with (first | ((with_reducible show wpList _ _ _ (⟨some 28, _, _, _, _, _⟩ :: _) _ _); refine wpList_new_row (v := fun g => .slice (some ⟨g, 0, none⟩) 1 1) (e := 3) (cs := [.int .i64 ((y : Int) % 2)]) rfl (fun w_ => by go_simp) ?_; intro w5 hr5 hc5 hs5; have HR5 := Lib.hid hr5; have HC5 := Lib.hid (HC.out.trans hc5); have HO5 := Lib.hid (HO.out.chg hc5 (fun _ _ h => h)); have HV5 : Hid (View w5 (fun _ => True) (some ⟨wr.heap.size, 0, none⟩) 1 (i64s [y % 2])) := Lib.hid (by rw [← HYV.out]; exact View.all hr5 rfl trivial); clear hr5 hc5 hs5) | ((with_reducible show wpList _ _ _ (⟨some 29, _, _, _, _, _⟩ :: _) _ _); refine wpList_append_ints rfl _ _ _ rfl Tryd.underlying133 (base := w1.heap.size) (L := bitsL (polB b) k) (M := [y % 2]) (A := some ⟨wr.heap.size, 0, none⟩) (m := 1) (c := 1) (w0 := w1) rfl HO5.out rfl HV5.out (by rw [HBL.out]; have := HLT.out; omega) HC5.out.size HC5.out (Nat.le_refl _) ?_; intro v6 w6 ho6 hc6; have HO6 := Lib.hid ho6; have HC6 := Lib.hid hc6; clear ho6 hc6))
          go_roundw
          case rel => exact ⟨k + 1, by have := HLT.out; omega, by go_num, by rw [HBIT.out]; exact HO6.out, HC6.out⟩
          case measure => simp [intOf]; have := HLT.out; omega
    · have hk8 : k = 128 := by omega
      subst hk8
      go_wp2
      go_ret
      exact ⟨_, rfl, (OwnedI.base HO.out HC1.out.size), HC1.out.trans HC.out⟩
end Go.Proofs.YtidafbpiipjnlaaDoor
