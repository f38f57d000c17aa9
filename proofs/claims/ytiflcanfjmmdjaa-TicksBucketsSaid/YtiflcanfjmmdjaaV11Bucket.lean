/- Layer 11 (ticks): buckets, the program's. -/
import Derived.Test.YtiflcanfjmmdjaaV11Sums
import Derived.Test.YtiflcanfjmmdjaaAloc
namespace Go.Proofs.Ytiflcanfjmmdjaa
open Go.RowKit

/-- A bucket's cells: its size, each token's time, tokens, up to when they came. -/
def bk (S E t u : Nat) : List Value := [.int .u64 (S : Nat), .int .u64 (E : Nat), .int .u64 (t : Nat), .int .u64 (u : Nat)]
theorem sizeBk : (Try.prog.info? 51).map (·.size) = some 4 := by kernel_rfl
theorem Row.newAt (W : World) (e : TypeId) (cs : List Value) (b : Nat) (hb : W.heap.size = b) : Row (W.alloc (.cells cs.toArray e)) b e cs := hb ▸ Row.new W e cs

set_option maxRecDepth 100000 in
set_option maxHeartbeats 1000000 in
theorem full_any (S E t u now : Nat) (w : World) : Calls Try.prog 34 #[.agg (bk S E t u).toArray, .int .u64 (now : Int)] w fun e w' => e = .returned (.agg (bk S E S now).toArray) ∧ Chg none_ w w' := by
  unfold bk
  go_enter Try.func34, Try.ntmps34
  go_wp2
  refine ret_row rfl rfl (Row.newAt _ _ (bk S E S now) _ (by simp)) Try.underlying51 rfl sizeBk rfl ?_
  exact ⟨rfl, ((Chg.refl none_ w).alloc _).alloc _⟩

/-- What is reckoned of a bucket at a time. -/
structure BkOk (S E t u : Nat) : Prop where
  s : S < 18446744073709551616
  e0 : 0 < E
  e : E < 18446744073709551616
  t : t ≤ S
  u : u < 18446744073709551616

theorem at_bound (S E t u now : Nat) (h : BkOk S E t u) (hn : now < 18446744073709551616) : BkOk S E (atN S E t u now).1 (atN S E t u now).2 := by
  refine ⟨h.s, h.e0, h.e, at_le S E t u now h.t, ?_⟩
  by_cases hc : u ≤ now
  · have := at_up S E t u now hc; omega
  · unfold atN; rw [if_pos (by omega)]; exact h.u

set_option maxRecDepth 100000 in
set_option maxHeartbeats 2000000 in
theorem at_any (S E t u now : Nat) (h : BkOk S E t u) (hn : now < 18446744073709551616) (w : World) :
    Calls Try.prog 33 #[.agg (bk S E t u).toArray, .int .u64 (now : Int)] w fun e w' => e = .returned (.agg (bk S E (atN S E t u now).1 (atN S E t u now).2).toArray) ∧ Chg none_ w w' := by
  obtain ⟨hS, hE0, hE, ht, hu⟩ := h
  have HF := Lib.hid (fun w => full_any S E t u now w)
  by_cases h1 : now < u
  · have e1 : atN S E t u now = (t, u) := by unfold atN; rw [if_pos h1]
    rw [e1]
    unfold bk
    have h2 : (now : Int) < (u : Int) := by omega
    go_enter Try.func33, Try.ntmps33
    go_wp2
    refine ret_row rfl rfl (Row.newAt _ _ (bk S E t u) _ (by simp)) Try.underlying51 rfl sizeBk rfl ?_
    exact ⟨rfl, ((Chg.refl none_ w).alloc _).alloc _⟩
  have h2 : ¬ (now : Int) < (u : Int) := by omega
  obtain ⟨room, hr⟩ : ∃ r, r = S - t := ⟨_, rfl⟩
  have hr2 : (S : Int) - (t : Int) = (room : Int) := by omega
  by_cases hz : room = 0
  · have e1 : atN S E t u now = (S, now) := at_room S E t u now (by omega) (by omega)
    rw [e1]
    have hz2 : (S : Int) - (t : Int) = 0 := by omega
    have HZ := Lib.hid (Row.newAt (w.alloc (.cells (bk S E t u).toArray 51)) 51 (bk 0 0 0 0) (w.heap.size + 1) (by simp))
    have HCZ := Lib.hid (((Chg.refl none_ w).alloc (.cells (bk S E t u).toArray 51)).alloc (.cells (bk 0 0 0 0).toArray 51))
    clear hr2 hr
    unfold bk
    go_enter Try.func33, Try.ntmps33
    go_wp2_with (first | (go_at_call 34; refine (HF.out _).mono ?_; rintro e w3 ⟨rfl, hc⟩; have HZ3 := Lib.hid (HZ.out.chg hc (fun h => h)); have HC3 := Lib.hid (HCZ.out.trans hc); clear hc) | ((with_reducible show wpList _ _ _ (⟨_, .store 51 (.tmp 4) _, _, _, _, _⟩ :: _) _ _); refine wpList_store_Row (xs := bk S E S now) rfl rfl rfl HZ3.out rfl rfl sizeBk rfl ?_; intro w4 hr4 hcs4 hs4; have HR4 := Lib.hid hr4; have HC4 := Lib.hid (hcs4 none_ w HC3.out (fun h => by omega)); clear hr4 hcs4 hs4))
    refine ret_row rfl rfl HR4.out Try.underlying51 rfl sizeBk rfl ?_
    exact ⟨rfl, HC4.out⟩
  have hz2 : ((S : Int) - (t : Int) == 0) = false := by rw [beq_eq_false_iff_ne]; omega
  have hz3 : ((room : Int) == 0) = false := by rw [beq_eq_false_iff_ne]; omega
  have hE2 : ((E : Int) == 0) = false := by rw [beq_eq_false_iff_ne]; omega
  obtain ⟨c, hc⟩ : ∃ c, c = (now - u) / E := ⟨_, rfl⟩
  have hc2 : ((now : Int) - (u : Int)) / (E : Int) = (c : Int) := by rw [hc, ← Int.ofNat_sub (show u ≤ now by omega)]; simp
  by_cases hf : room ≤ c
  · have e1 : atN S E t u now = (S, now) := by unfold atN; rw [if_neg h1, if_pos (by omega)]
    rw [e1]
    have hf2 : (room : Int) ≤ (c : Int) := by omega
    have hr3 := hr2
    clear hc
    have HZ := Lib.hid (Row.newAt (w.alloc (.cells (bk S E t u).toArray 51)) 51 (bk 0 0 0 0) (w.heap.size + 1) (by simp))
    have HCZ := Lib.hid (((Chg.refl none_ w).alloc (.cells (bk S E t u).toArray 51)).alloc (.cells (bk 0 0 0 0).toArray 51))
    clear hr3 hr
    unfold bk
    go_enter Try.func33, Try.ntmps33
    go_wp2_with (first | (go_at_call 34; refine (HF.out _).mono ?_; rintro e w3 ⟨rfl, hc⟩; have HZ3 := Lib.hid (HZ.out.chg hc (fun h => h)); have HC3 := Lib.hid (HCZ.out.trans hc); clear hc) | ((with_reducible show wpList _ _ _ (⟨_, .store 51 (.tmp 4) _, _, _, _, _⟩ :: _) _ _); refine wpList_store_Row (xs := bk S E S now) rfl rfl rfl HZ3.out rfl rfl sizeBk rfl ?_; intro w4 hr4 hcs4 hs4; have HR4 := Lib.hid hr4; have HC4 := Lib.hid (hcs4 none_ w HC3.out (fun h => by omega)); clear hr4 hcs4 hs4))
    refine ret_row rfl rfl HR4.out Try.underlying51 rfl sizeBk rfl ?_
    exact ⟨rfl, HC4.out⟩
  · have e1 : atN S E t u now = (t + c, u + c * E) := by unfold atN; rw [if_neg h1, ← hc, if_neg (by omega)]
    have hle : c * E ≤ now - u := by rw [hc]; exact Nat.div_mul_le_self _ _
    rw [e1]
    have hf2 : ¬ (room : Int) ≤ (c : Int) := by omega
    have k1 : IntKind.u64.wrap ((t : Int) + (c : Int)) = ((t + c : Nat) : Int) := wrapN (t + c) (by omega)
    have k2 : IntKind.u64.wrap ((c : Int) * (E : Int)) = ((c * E : Nat) : Int) := wrapN (c * E) (by omega)
    generalize c * E = ce at *
    have k3 : IntKind.u64.wrap ((u : Int) + (ce : Int)) = ((u + ce : Nat) : Int) := wrapN (u + ce) (by omega)
    clear hc
    unfold bk
    go_enter Try.func33, Try.ntmps33
    go_wp2
    refine ret_row rfl rfl (Row.newAt _ _ (bk S E (t + c) (u + ce)) _ (by simp)) Try.underlying51 rfl sizeBk rfl ?_
    exact ⟨rfl, ((Chg.refl none_ w).alloc _).alloc _⟩

theorem field2 (S E t u : Nat) (w : World) : (Instr.field 51 (.agg (bk S E t u).toArray) 2).run Try.prog w = .ok (.int .u64 (t : Int)) w := by
  unfold bk
  simp [Instr.field, run_underlying Try.underlying51, asAgg, go_sem]

theorem Chg.s {S : Nat → Prop} {w w' : World} (h : Chg none_ w w') : Chg S w w' := h.mono (fun _ _ h => h.elim)
theorem Row.bk2 {w : World} {g S E t u : Nat} {e : TypeId} (h : Row w g e (bk S E t u)) : w.cell? ⟨g, 2, none⟩ = some (.int .u64 (t : Int)) := h.cell 2

/-- What is taken: how many are left behind. -/
def takeN (t : Nat) : Nat := t - 1

set_option maxRecDepth 100000 in
set_option maxHeartbeats 1000000 in
theorem new_any (S E : Nat) (hE : 0 < E) (w : World) : Calls Try.prog 20 #[.int .u64 (S : Int), .int .u64 (E : Int)] w fun e w' =>
    e = .returned (.pointer (some ⟨w.heap.size, 0, none⟩)) ∧ Row w' w.heap.size 51 (bk S E S 0) ∧ Chg none_ w w' ∧ w'.heap.size = w.heap.size + 1 := by
  have h : ((E : Int) == 0) = false := by rw [beq_eq_false_iff_ne]; omega
  go_enter Try.func20, Try.ntmps20
  go_wp2
  go_ret
  exact ⟨rfl, Row.newAt _ _ (bk S E S 0) _ rfl, (Chg.refl none_ w).alloc _, by simp⟩

theorem new_nil (S : Nat) (w : World) : Calls Try.prog 20 #[.int .u64 (S : Int), .int .u64 0] w fun e w' => e = .returned (.pointer none) ∧ w' = w := by
  go_enter Try.func20, Try.ntmps20
  go_wp2
  go_ret
  exact ⟨rfl, rfl⟩

theorem take_nil (now : Nat) (w : World) : Calls Try.prog 21 #[.pointer none, .int .u64 (now : Int)] w fun e w' => e = .returned (.bool false) ∧ w' = w := by
  go_enter Try.func21, Try.ntmps21
  go_wp2
  go_ret
  exact ⟨rfl, rfl⟩

theorem left_nil (now : Nat) (w : World) : Calls Try.prog 22 #[.pointer none, .int .u64 (now : Int)] w fun e w' => e = .returned (.int .u64 0) ∧ w' = w := by
  go_enter Try.func22, Try.ntmps22
  go_wp2
  go_ret
  exact ⟨rfl, rfl⟩

set_option maxRecDepth 100000 in
set_option maxHeartbeats 1000000 in
theorem left_any (g S E t u now : Nat) (h : BkOk S E t u) (hn : now < 18446744073709551616) (w : World) (hr : Row w g 51 (bk S E t u)) :
    Calls Try.prog 22 #[.pointer (some ⟨g, 0, none⟩), .int .u64 (now : Int)] w fun e w' => e = .returned (.int .u64 ((atN S E t u now).1 : Nat)) ∧ Chg none_ w w' := by
  have HAT := Lib.hid (fun w => at_any S E t u now h hn w)
  generalize (atN S E t u now).1 = t' at *
  generalize (atN S E t u now).2 = u' at *
  have HR := Lib.hid hr
  have hfl := field2 S E t' u'
  clear hr
  go_enter Try.func22, Try.ntmps22
  go_wp2_with (first | ((with_reducible show wpList _ _ _ (⟨_, .load 51 _, _, _, _, _⟩ :: _) _ _); refine wpList_load_Row rfl rfl rfl HR.out Try.underlying51 rfl sizeBk ?_) | (go_at_call 33; refine (HAT.out _).mono ?_; rintro e w1 ⟨rfl, hc1⟩; have HR1 := Lib.hid (HR.out.chg hc1 (fun h => h)); have HC1 := Lib.hid hc1; clear hc1))
  go_ret
  exact ⟨rfl, HC1.out⟩

set_option maxRecDepth 100000 in
set_option maxHeartbeats 1000000 in
theorem take_any (g S E t u now : Nat) (h : BkOk S E t u) (hn : now < 18446744073709551616) (w : World) (hr : Row w g 51 (bk S E t u)) :
    Calls Try.prog 21 #[.pointer (some ⟨g, 0, none⟩), .int .u64 (now : Int)] w fun e w' => e = .returned (.bool (decide (0 < (atN S E t u now).1))) ∧ Row w' g 51 (bk S E (takeN (atN S E t u now).1) (atN S E t u now).2) ∧ Chg (· = g) w w' := by
  have HAT := Lib.hid (fun w => at_any S E t u now h hn w)
  have hb := at_bound S E t u now h hn
  generalize (atN S E t u now).1 = t' at *
  generalize (atN S E t u now).2 = u' at *
  have HR := Lib.hid hr
  have ht : t' < 18446744073709551616 := by have := hb.t; have := hb.s; omega
  clear hr
  by_cases hz : t' = 0
  · subst hz
    go_enter Try.func21, Try.ntmps21
    go_wp2_with (first | ((with_reducible show wpList _ _ _ (⟨_, .load 51 _, _, _, _, _⟩ :: _) _ _); refine wpList_load_Row rfl rfl rfl HR.out Try.underlying51 rfl sizeBk ?_) | (go_at_call 33; refine (HAT.out _).mono ?_; rintro e w1 ⟨rfl, hc1⟩; have HR1 := Lib.hid (HR.out.chg hc1 (fun h => h)); have HC1 := Lib.hid hc1; clear hc1) | ((with_reducible show wpList _ _ _ (⟨_, .store 51 _ _, _, _, _, _⟩ :: _) _ _); refine wpList_store_Row (xs := bk S E 0 u') rfl rfl rfl HR1.out rfl rfl sizeBk rfl ?_; intro w2 hr2 hcs2 hs2; have f2 : w2.cell? ⟨g, 2, none⟩ = some (.int .u64 ((0 : Nat) : Int)) := hr2.bk2; have g2 := hr2.frozen 2; have HR2 := Lib.hid hr2; have HC2 := Lib.hid (hcs2 (· = g) w HC1.out.s (fun _ => rfl)); clear hr2 hcs2 hs2))
    go_ret
    exact ⟨rfl, HR2.out, HC2.out⟩
  · have hz2 : ((t' : Int) == 0) = false := by rw [beq_eq_false_iff_ne]; omega
    have hd : decide (0 < t') = true := by simp; omega
    rw [hd]
    have hp : (t' : Int) - 1 = ((takeN t' : Nat) : Int) := by unfold takeN; omega
    have hp1 : 0 < (t' : Int) := by omega
    have HSET := Lib.hid (fun (w : World) (hr : Row w g 51 (bk S E t' u')) => hr.set 2 (.int .u64 ((takeN t' : Nat) : Int)))
    generalize takeN t' = tt at *
    go_enter Try.func21, Try.ntmps21
    go_wp2_with (first | ((with_reducible show wpList _ _ _ (⟨_, .load 51 _, _, _, _, _⟩ :: _) _ _); refine wpList_load_Row rfl rfl rfl HR.out Try.underlying51 rfl sizeBk ?_) | (go_at_call 33; refine (HAT.out _).mono ?_; rintro e w1 ⟨rfl, hc1⟩; have HR1 := Lib.hid (HR.out.chg hc1 (fun h => h)); have HC1 := Lib.hid hc1; clear hc1) | ((with_reducible show wpList _ _ _ (⟨_, .store 51 _ _, _, _, _, _⟩ :: _) _ _); refine wpList_store_Row (xs := bk S E t' u') rfl rfl rfl HR1.out rfl rfl sizeBk rfl ?_; intro w2 hr2 hcs2 hs2; have f2 : w2.cell? ⟨g, 2, none⟩ = some (.int .u64 (t' : Int)) := hr2.bk2; have g2 := hr2.frozen 2; have HR2 := Lib.hid hr2; have HC2 := Lib.hid (hcs2 (· = g) w HC1.out.s (fun _ => rfl)); clear hr2 hcs2 hs2))
    go_ret
    exact ⟨rfl, HSET.out _ HR2.out, HC2.out.setCell (fun _ => rfl) _⟩
end Go.Proofs.Ytiflcanfjmmdjaa
