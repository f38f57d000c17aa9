/- Layer 12 (timers): the calls that only read, to the world: they draw, and turn nothing. -/
import Derived.Test.YtblpgpolhibfgaaV12Again
namespace Go.Proofs.Ytblpgpolhibfgaa
open Go.RowKit

set_option maxRecDepth 100000 in
theorem all_q (q n : Nat) (mp : Option Nat) (F : List Tm) (w : World) (h : QM w q F n mp) (hn : n ≤ 200) :
    Calls Try.prog 31 #[.pointer (some ⟨q, 0, none⟩)] w fun e w' => e = .returned (.slice (some ⟨q, 0, none⟩) n 200) ∧ w' = w.drewN 1 := by
  have c0 := h.c600
  clear h
  go_enter Try.func31, Try.ntmps31
  go_wp2
  refine wp_region_still_tail 7 (by kernel_rfl) (by kernel_rfl) ?_
  simp only [List.take_succ_cons, List.take_zero, List.drop_succ_cons, List.drop_zero]
  iterate 7 still_step
  refine wpStill_nil ?_
  change wpList _ _ _ _ _ (World.drew _)
  go_wp2_with ((with_reducible show wpList _ _ _ (⟨_, .slice _ _ _ _ _, _, _, _, _⟩ :: _) _ _); refine wpList_slice_arr_high rfl 57 27 _ _ rfl 200 3 n q 0 rfl rfl Try.underlying57 sizeTm hn ?_)
  go_ret
  exact ⟨rfl, rfl⟩
theorem Len_q (q : Nat) (mp : Option Nat) (S : List Tm) (w : World) (h : QIs w q mp S) :
    Calls Try.prog 14 #[.pointer (some ⟨q, 0, none⟩)] w fun e w' => e = .returned (.int .i64 ((S.length : Nat) : Int)) ∧ ∃ m, w' = w.drewN m := by
  obtain ⟨F, n, M, h⟩ := h
  have HA := Lib.hid (all_q q n mp F w h.qm h.le)
  rw [h.len]
  clear h
  go_enter Try.func14, Try.ntmps14
  go_wp2_with (go_at_call 31; refine HA.out.mono ?_; rintro e w2 ⟨rfl, rfl⟩)
  go_ret
  exact ⟨rfl, 1, rfl⟩
theorem Next_q (q : Nat) (mp : Option Nat) (S : List Tm) (w : World) (h : QIs w q mp S) :
    Calls Try.prog 16 #[.pointer (some ⟨q, 0, none⟩)] w fun e w' => e = .returned (.int .u64 ((nextS S : Nat) : Int)) ∧ ∃ m, w' = w.drewN m := by
  have HL := Lib.hid (Len_q q mp S w h)
  obtain ⟨F, n, M, h⟩ := h
  by_cases hn : n = 0
  · have hS : S = [] := List.eq_nil_of_length_eq_zero (by rw [h.len, hn])
    subst hS
    clear h
    show Calls _ _ _ _ fun e w' => e = .returned (.int .u64 18446744073709551615) ∧ _
    have HL2 : Hid (Calls Try.prog 14 #[.pointer (some ⟨q, 0, none⟩)] w fun e w' => e = .returned (.int .i64 0) ∧ ∃ m, w' = w.drewN m) := HL
    clear HL
    go_enter Try.func16, Try.ntmps16
    go_wp2_with (go_at_call 14; refine HL2.out.mono ?_; rintro e w2 ⟨rfl, hc2⟩; have HC2 := Lib.hid hc2; clear hc2)
    go_ret
    exact ⟨rfl, HC2.out⟩
  · obtain ⟨S', hS⟩ := root_head h.hp (by rw [h.qm.len]; exact h.le) h.perm h.srt (by omega)
    have hne : (((S.length : Nat) : Int) == 0) = false := by rw [h.len, beq_eq_false_iff_ne]; omega
    have HQ := Lib.hid h.qm
    have e1 : nextS S = (tm F 0).at_ := by rw [hS]; rfl
    rw [e1]
    generalize S.length = m at *
    clear h hS e1
    go_enter Try.func16, Try.ntmps16
    go_wp2_with (go_at_call 14; refine HL.out.mono ?_; rintro e w2 ⟨rfl, hc2⟩; have HC2 := Lib.hid hc2; obtain ⟨a0, _, _⟩ := (HQ.out.chg (show Chg none_ w w2 by obtain ⟨k, rfl⟩ := hc2; exact (Chg.refl _ _).drewN k) (fun h => h)).timer (i := 0) (by decide); simp only [Nat.zero_mul] at a0; clear hc2)
    go_ret
    exact ⟨rfl, HC2.out⟩

set_option maxRecDepth 100000 in
theorem At_q (q : Nat) (mp : Option Nat) (S : List Tm) (k : Int × Int) (hk : KOk k) (w : World) (h : QIs w q mp S) :
    Calls Try.prog 17 #[.pointer (some ⟨q, 0, none⟩), .int .i64 k.1, .int .i64 k.2] w fun e w' => e = .returned (.int .u64 ((atS k S : Nat) : Int)) ∧ w' = w := by
  obtain ⟨F, n, M, h⟩ := h
  have HP := Lib.hid (place_any q n mp F S M k hk w h)
  rcases h.find k with ⟨h1, h2⟩ | ⟨i, h1, hi, h2, _⟩
  · have e1 : atS k S = NV := by unfold atS; rw [h2]
    rw [e1]
    rw [h1] at HP
    have HP2 : Hid (Calls Try.prog 27 #[.pointer (some ⟨q, 0, none⟩), .int .i64 k.1, .int .i64 k.2] w fun e w' => e = .returned (.tuple #[.int .i64 0, .bool false]) ∧ w' = w) := HP
    show Calls _ _ _ _ fun e w' => e = .returned (.int .u64 18446744073709551615) ∧ _
    clear HP h h1 h2 e1
    go_enter Try.func17, Try.ntmps17
    go_wp2_with (go_at_call 27; refine HP2.out.mono ?_; rintro e w2 ⟨rfl, rfl⟩)
    go_ret
    exact ⟨rfl, rfl⟩
  · have e1 : atS k S = (tm F i).at_ := by unfold atS; rw [h2]
    rw [e1]
    rw [h1] at HP
    have HP2 : Hid (Calls Try.prog 27 #[.pointer (some ⟨q, 0, none⟩), .int .i64 k.1, .int .i64 k.2] w fun e w' => e = .returned (.tuple #[.int .i64 ((i : Nat) : Int), .bool true]) ∧ w' = w) := HP
    have hle := h.le
    obtain ⟨a0, _, _⟩ := h.qm.timer (i := i) (by omega)
    have i1 : (i : Int) < 200 := by omega
    clear HP h h1 h2 e1
    go_enter Try.func17, Try.ntmps17
    go_wp2_with (go_at_call 27; refine HP2.out.mono ?_; rintro e w2 ⟨rfl, rfl⟩)
    go_ret
    exact ⟨rfl, rfl⟩
end Go.Proofs.Ytblpgpolhibfgaa
