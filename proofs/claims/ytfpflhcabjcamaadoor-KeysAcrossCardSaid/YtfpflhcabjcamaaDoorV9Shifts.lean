/- Layer 9 (gcm): a polynomial times each power of x, the program's. -/
import Derived.Test.YtfpflhcabjcamaaDoorV9Conv
namespace Go.Proofs.YtfpflhcabjcamaaDoor
open Go.RowKit

section
variable {P : Program} {ops : Array Oper} {rest : List Oper} {o : Oper} {a : Act} {w : World} {Q : Exit → Act → World → Prop}
/-- Two cells are stored into a row's middle. -/
theorem wpList_store_two {ty : TypeId} {x y : Operand} (ho : o.op = .store ty x y) (hw : Region.wanted o (yielded ops a.tmps) = true) {g off : Nat} {e : TypeId} {cs : List Value} {u v : Value} (hx : a.eval x = .pointer (some ⟨g, off, none⟩)) (h : Row w g e cs) (hl : off + 2 ≤ cs.length)
    (hy : a.eval y = .agg [u, v].toArray) (hi : (P.info? ty).map (·.size) = some 2) (h1 : [u, v].all (·.oneCell') = true)
    (k : ∀ w', Row w' g e ((cs.set off u).set (off + 1) v) → (∀ S w0, Chg S w0 w → (g < w0.heap.size → S g) → Chg S w0 w') → wpList P ops Q rest (a.put o.dst undef) w') : wpList P ops Q (o :: rest) a w :=
  BigFrame.wpList_want hw fun _ hK => wp_store_mid ty x y ho g off [u, v].toArray hx hy (h.there off 2 hl) (by simpa using hi) (by simpa using h1)
    (hK _ _ (k _ ((h.set off u).set (off + 1) v) (fun S w0 hc hg => hc.setCells [u, v] off hg)))
end

/-- The cells of a polynomial's shifts, the first k laid. -/
def sN (a k i : Nat) : Nat := if i / 2 < k then (if i % 2 = 0 then fW (gP a (i / 2)) else lW (gP a (i / 2))) else 0
def shC (a k : Nat) : List Value := (List.range 256).map fun i => Value.int .u64 ((sN a k i : Nat) : Int)
theorem shC_len (a k : Nat) : (shC a k).length = 256 := by simp [shC]
theorem shC_0 (a : Nat) : shC a 0 = List.replicate 256 (.int .u64 0) := by
  unfold shC sN
  simp only [Nat.not_lt_zero, if_false]
  rw [List.map_const']
  simp
theorem shC_get (a k i : Nat) (h : i < 256) : (shC a k)[i]? = some (.int .u64 ((sN a k i : Nat) : Int)) := by simp [shC, h]
theorem shC_set (a k : Nat) : ((shC a k).set (2 * k) (.int .u64 (fW (gP a k) : Nat))).set (2 * k + 1) (.int .u64 (lW (gP a k) : Nat)) = shC a (k + 1) := by
  apply List.ext_getElem (by simp [shC])
  intro i h1 h2
  rw [List.getElem_set, List.getElem_set]
  simp only [shC, List.getElem_map, List.getElem_range]
  unfold sN
  by_cases e1 : 2 * k + 1 = i
  · subst e1
    rw [if_pos rfl, if_pos (by omega), if_neg (by omega), show (2 * k + 1) / 2 = k from by omega]
  · rw [if_neg e1]
    by_cases e2 : 2 * k = i
    · subst e2
      rw [if_pos rfl, if_pos (by omega), if_pos (by omega), show 2 * k / 2 = k from by omega]
    · rw [if_neg e2]
      by_cases h : i / 2 < k
      · rw [if_pos h, if_pos (show i / 2 < k + 1 by omega)]
      · rw [if_neg h, if_neg (show ¬ i / 2 < k + 1 by omega)]
theorem shC_at (a p : Nat) (h : p < 128) : ∀ j v, (pw (gP a p))[j]? = some v → (shC a 128)[2 * p + j]? = some v := by
  intro j v hv
  rcases j with _ | _ | j
  · rw [shC_get _ _ _ (by omega), ← hv]
    unfold sN
    rw [if_pos (by omega), if_pos (by omega), show (2 * p + 0) / 2 = p from by omega]
    rfl
  · rw [shC_get _ _ _ (by omega), ← hv]
    unfold sN
    rw [if_pos (by omega), if_neg (by omega), show (2 * p + (0 + 1)) / 2 = p from by omega]
    rfl
  · simp [pw] at hv
theorem zero60 : (Tryd.prog.info? 116).map (·.zero) = some (some (.agg (List.replicate 256 (Value.int .u64 0)).toArray)) := by kernel_rfl

set_option maxRecDepth 100000 in
set_option maxHeartbeats 1000000 in
theorem shiftsOf_any (n : Nat) (w : World) : Calls Tryd.prog 49 #[.agg (pw n).toArray] w fun e w' => ∃ g, e = .returned (.pointer (some ⟨g, 0, none⟩)) ∧ w.heap.size ≤ g ∧ Row w' g 116 (shC n 128) ∧ Chg none_ w w' := by
  go_enter Tryd.func49, Tryd.ntmps49
  go_wp2_with (first | ((with_reducible show wpList _ _ _ (⟨_, .box 86 _, _, _, _, _⟩ :: _) _ _); refine wpList_box_Row rfl rfl (pw n) rfl ?_; intro w1 hr1 hc1 hs1; have HR1 := Lib.hid hr1; have HC1 := Lib.hid hc1; clear hr1 hc1 hs1) | ((with_reducible show wpList _ _ _ (⟨_, .alloc 116, _, _, _, _⟩ :: _) _ _); refine wpList_alloc_Row rfl rfl (List.replicate 256 (Value.int .u64 0)) zero60 ?_; intro w2 hr2 hc2 hs2; have HR2 := Lib.hid hr2; have HC2 := Lib.hid (HC1.out.trans hc2); have HR1b := Lib.hid (HR1.out.chg hc2 (fun h => h)); clear hr2 hc2 hs2))
  have HG1 := Lib.hid (show w.heap.size < w1.heap.size from HR1.out.lt)
  clear HR1 HC1
  go_loopw [4, 5] (fun _ i wr => ∃ k : Nat, k ≤ 128 ∧ i = .int .i64 k ∧ Row wr w.heap.size 86 (pw (gP n k)) ∧ Row wr w1.heap.size 116 (shC n k) ∧ Chg (fun b => b = w.heap.size ∨ b = w1.heap.size) w2 wr) (fun _ i _ => 128 - (intOf i).toNat)
  case atStart => exact ⟨0, Nat.zero_le _, rfl, HR1b.out, by rw [shC_0]; exact HR2.out, Chg.refl _ _⟩
  case round =>
    obtain ⟨k, hk, rfl, hrow, hrow2, hch⟩ := hrel
    have HROW := Lib.hid hrow
    have HROW2 := Lib.hid hrow2
    have HC := Lib.hid hch
    clear hrow hrow2 hch
    by_cases hlt : k < 128
    · have HPS := Lib.hid (shC_set n k)
      have HL := Lib.hid (shC_len n k)
      have HSH := Lib.hid (fun w => shift_any (gP n k) w)
      have HNX : Hid (gD (gP n k) = gP n (k + 1)) := Lib.hid rfl
      rw [HNX.out] at HSH
      have q0 : (0 : Int) ≤ (k : Int) := by omega
      have q1 : (k : Int) < 128 := by omega
      have e2 : k * 2 = 2 * k := Nat.mul_comm ..
      obtain ⟨wA, hwA⟩ : ∃ x, x = wr := ⟨_, rfl⟩
      subst hwA
      go_wp2_with (first | ((with_reducible show wpList _ _ _ (⟨some 9, .load 86 _, _, _, _, _⟩ :: _) _ _); refine wpList_load_Row rfl rfl rfl (HROW.out) Tryd.underlying86 rfl (size45) ?_) | ((with_reducible show wpList _ _ _ (⟨none, .store 86 (.tmp 10) _, _, _, _, _⟩ :: _) _ _); refine wpList_store_two (off := 2 * k) (u := .int .u64 (fW (gP n k) : Nat)) (v := .int .u64 (lW (gP n k) : Nat)) rfl rfl (by rw [← e2]; rfl) HROW2.out (by rw [HL.out]; omega) rfl size45 rfl ?_; intro w5 hr5 hc5; rw [HPS.out] at hr5; have HR5 := Lib.hid hr5; have HC5 : Hid (Chg (fun b => b = w.heap.size ∨ b = w1.heap.size) w2 w5) := Lib.hid (hc5 _ w2 HC.out (fun _ => Or.inr rfl)); have HROWb := Lib.hid (HROW.out.chg (hc5 (fun b => b = w1.heap.size) wA (Chg.refl _ _) (fun _ => rfl)) (fun e => by have := HG1.out; omega)); clear hr5 hc5) | ((with_reducible show wpList _ _ _ (⟨some 11, .load 86 _, _, _, _, _⟩ :: _) _ _); refine wpList_load_Row rfl rfl rfl (HROWb.out) Tryd.underlying86 rfl (size45) ?_) | (go_at_call 60; refine (HSH.out _).mono ?_; rintro e w6 ⟨rfl, hc6⟩; have HC6 : Hid (Chg (fun b => b = w.heap.size ∨ b = w1.heap.size) w2 w6) := Lib.hid (HC5.out.trans (hc6.mono (fun _ _ h => h.elim))); have HR6 := Lib.hid (HR5.out.chg hc6 (fun h => h)); have HROWc := Lib.hid (HROWb.out.chg hc6 (fun h => h)); clear hc6) | ((with_reducible show wpList _ _ _ (⟨none, .store 86 (.tmp 1) _, _, _, _, _⟩ :: _) _ _); refine wpList_store_Row (xs := pw (gP n (k + 1))) rfl rfl rfl (HROWc.out) rfl rfl size45 rfl ?_; intro w7 hr7 hc7 hs7; have HR7 := Lib.hid hr7; have HC7 : Hid (Chg (fun b => b = w.heap.size ∨ b = w1.heap.size) w2 w7) := Lib.hid (hc7 _ w2 HC6.out (fun _ => Or.inl rfl)); have HS7 := Lib.hid (HR6.out.chg (hc7 (fun b => b = w.heap.size) w6 (Chg.refl _ _) (fun _ => rfl)) (fun e => by have := HG1.out; omega)); clear hr7 hc7 hs7))
      go_roundw
      case rel => exact ⟨k + 1, by omega, by go_num, HR7.out, HS7.out, HC7.out⟩
      case measure => simp [intOf]; omega
    · have hk8 : k = 128 := by omega
      subst hk8
      go_wp2
      go_ret
      exact ⟨w1.heap.size, rfl, by have := HG1.out; omega, HROW2.out, HC2.out.andThen HC.out (fun b h e => by have := HG1.out; omega)⟩
end Go.Proofs.YtfpflhcabjcamaaDoor
