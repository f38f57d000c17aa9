/- Layer 12 (timers): a queue told by its timers in order: where one stands, all, how many, the next. -/
import Derived.Test.YtblpgpolhibfgaaV12Settle
import Derived.Test.YtblpgpolhibfgaaArr
namespace Go.Proofs.Ytblpgpolhibfgaa
open Go.RowKit

def MapAt (w : World) (q : Nat) (mp : Option Nat) (M : Int × Int → Option Nat) : Prop :=
  match mp with
  | some g => MapIn w g M ∧ g ≠ q
  | none => ∀ k, M k = none
/-- The blocks of a queue. -/
def QB (q : Nat) (mp : Option Nat) : Nat → Prop := fun b => b = q ∨ mp = some b
theorem MapAt.chg {w w' : World} {q : Nat} {mp : Option Nat} {M : Int × Int → Option Nat} {S : Nat → Prop} (h : MapAt w q mp M) (hc : Chg S w w') (hs : ∀ b, QB q mp b → ¬ S b) : MapAt w' q mp M := by
  cases mp with
  | none => exact h
  | some g => exact ⟨h.1.chg hc (hs g (Or.inr rfl)), h.2⟩

structure QA (w : World) (q : Nat) (mp : Option Nat) (F : List Tm) (n : Nat) (M : Int × Int → Option Nat) (S : List Tm) : Prop where
  qm : QM w q F n mp
  mi : MapAt w q mp M
  le : n ≤ 200
  pl : Pl F n M
  hp : Hp F n
  perm : (F.take n).Perm S
  srt : Srt S
  never : ∀ t ∈ S, t.at_ ≠ NV
/-- A queue of these timers, in order. -/
def QIs (w : World) (q : Nat) (mp : Option Nat) (S : List Tm) : Prop := ∃ F n M, QA w q mp F n M S

theorem QA.chg {w w' : World} {q n : Nat} {mp : Option Nat} {F S : List Tm} {M : Int × Int → Option Nat} {T : Nat → Prop} (h : QA w q mp F n M S) (hc : Chg T w w') (hs : ∀ b, QB q mp b → ¬ T b) : QA w' q mp F n M S :=
  ⟨h.qm.chg hc (hs q (Or.inl rfl)), h.mi.chg hc hs, h.le, h.pl, h.hp, h.perm, h.srt, h.never⟩
theorem QIs.chg {w w' : World} {q : Nat} {mp : Option Nat} {S : List Tm} {T : Nat → Prop} (h : QIs w q mp S) (hc : Chg T w w') (hs : ∀ b, QB q mp b → ¬ T b) : QIs w' q mp S := by
  obtain ⟨F, n, M, h⟩ := h
  exact ⟨F, n, M, h.chg hc hs⟩
theorem QIs.quiet {w w' : World} {q : Nat} {mp : Option Nat} {S : List Tm} (h : QIs w q mp S) (hc : Chg none_ w w') : QIs w' q mp S := h.chg hc (fun _ _ h => h)
theorem QIs.drew {w : World} {q : Nat} {mp : Option Nat} {S : List Tm} (h : QIs w q mp S) : QIs w.drew q mp S := h.quiet (Chg.refl _ _).drew
theorem QA.len {w : World} {q n : Nat} {mp : Option Nat} {F S : List Tm} {M : Int × Int → Option Nat} (h : QA w q mp F n M S) : S.length = n := by
  have := h.perm.length_eq
  rw [List.length_take, h.qm.len] at this
  have := h.le
  omega
theorem QIs.lt {w : World} {q : Nat} {mp : Option Nat} {S : List Tm} (h : QIs w q mp S) : ∀ b, QB q mp b → b < w.heap.size := by
  obtain ⟨F, n, M, h⟩ := h
  intro b hb
  rcases hb with rfl | rfl
  · exact h.qm.lt
  · exact h.mi.1.lt
theorem QIs.ok {w : World} {q : Nat} {mp : Option Nat} {S : List Tm} (h : QIs w q mp S) : (∀ t ∈ S, TOk t) ∧ Srt S ∧ S.length ≤ 200 ∧ (∀ t ∈ S, t.at_ ≠ NV) := by
  obtain ⟨F, n, M, h⟩ := h
  exact ⟨fun t ht => h.qm.ok t (List.mem_of_mem_take (h.perm.mem_iff.2 ht)), h.srt, by rw [h.len]; exact h.le, h.never⟩

/-- What a map leads to, in the words of the timers in order. -/
theorem QA.find {w : World} {q n : Nat} {mp : Option Nat} {F S : List Tm} {M : Int × Int → Option Nat} (h : QA w q mp F n M S) (k : Int × Int) :
    (M k = none ∧ findS k S = none) ∨ ∃ i, M k = some i ∧ i < n ∧ findS k S = some (tm F i) ∧ (tm F i).key = k := by
  cases hM : M k with
  | none =>
    refine Or.inl ⟨rfl, ?_⟩
    unfold findS
    rw [List.find?_eq_none]
    intro x hx
    obtain ⟨i, hi, e⟩ := List.mem_iff_getElem.1 (h.perm.mem_iff.2 hx)
    rw [List.length_take] at hi
    have := h.pl.none_ hM i (by omega)
    rw [← take_getD (by omega : i < n), List.getD_eq_getElem?_getD, List.getElem?_eq_getElem (by rw [List.length_take]; omega), e] at this
    simpa using this
  | some i =>
    obtain ⟨hi, he⟩ := h.pl.of_ _ _ hM
    refine Or.inr ⟨i, rfl, hi, ?_, he⟩
    have hmem : tm F i ∈ S := by
      apply h.perm.mem_iff.1
      rw [List.mem_iff_getElem]
      have := h.qm.len
      have := h.le
      refine ⟨i, by rw [List.length_take]; omega, ?_⟩
      rw [← take_getD hi, List.getD_eq_getElem?_getD, List.getElem?_eq_getElem (by rw [List.length_take]; omega)]
      rfl
    cases hf : findS k S with
    | none =>
      unfold findS at hf
      rw [List.find?_eq_none] at hf
      exact absurd he (by simpa using hf _ hmem)
    | some x =>
      unfold findS at hf
      have h1 := List.find?_some hf
      have h2 := List.mem_of_find?_eq_some hf
      obtain ⟨j, hj, e⟩ := List.mem_iff_getElem.1 (h.perm.mem_iff.2 h2)
      rw [List.length_take] at hj
      have e2 : tm F j = x := by
        rw [← take_getD (by omega : j < n), List.getD_eq_getElem?_getD, List.getElem?_eq_getElem (by rw [List.length_take]; omega), e]
        rfl
      have : j = i := h.pl.inj (by omega) hi (by rw [e2, he]; simpa using h1)
      rw [← e2, this]

theorem zeroInt (w : World) : (zeroValue 3).run Try.prog w = .ok (.int .i64 0) w := by
  have h : (Try.prog.info? 3).map (·.zero) = some (some (.int .i64 0)) := by kernel_rfl
  cases hq : Try.prog.info? 3 with
  | none => rw [hq] at h; cases h
  | some i =>
    have hz : i.zero = some (.int .i64 0) := by simpa [hq] using h
    simp [zeroValue, typeInfo, hq, hz]

set_option maxRecDepth 100000 in
set_option maxHeartbeats 1000000 in
theorem place_any (q n : Nat) (mp : Option Nat) (F S : List Tm) (M : Int × Int → Option Nat) (k : Int × Int) (hk : KOk k) (w : World) (h : QA w q mp F n M S) :
    Calls Try.prog 27 #[.pointer (some ⟨q, 0, none⟩), .int .i64 k.1, .int .i64 k.2] w fun e w' => e = .returned (.tuple #[.int .i64 (((M k).getD 0 : Nat) : Int), .bool (M k).isSome]) ∧ w' = w := by
  have HK := Lib.hid hk
  have HM := Lib.hid h.mi
  have c1 := h.qm.c601
  clear h hk
  cases mp with
  | some g =>
    go_enter Try.func27, Try.ntmps27
    go_wp2_with ((with_reducible show wpList _ _ _ (⟨_, .lookup _ _ _ _, _, _, _, _⟩ :: _) _ _); refine wpList_lookup_S rfl rfl k rfl rfl Try.underlying58 keyed HM.out.1 HK.out (zeroInt _) ?_)
    go_ret2
    exact ⟨rfl, rfl⟩
  | none =>
    have e := HM.out k
    rw [e]
    go_enter Try.func27, Try.ntmps27
    go_wp2_with ((with_reducible show wpList _ _ _ (⟨_, .lookup _ _ _ _, _, _, _, _⟩ :: _) _ _); refine wpList_lookup_nilS rfl rfl k rfl rfl Try.underlying58 keyed HK.out (zeroInt _) ?_)
    go_ret2
    exact ⟨rfl, rfl⟩
theorem place_nil (c k : Int) (w : World) :
    Calls Try.prog 27 #[.pointer none, .int .i64 c, .int .i64 k] w fun e w' => e = .returned (.tuple #[.int .i64 0, .bool false]) ∧ w' = w := by
  go_enter Try.func27, Try.ntmps27
  go_wp2
  go_ret2
  exact ⟨rfl, rfl⟩

set_option maxRecDepth 100000 in
theorem all_any (q n : Nat) (mp : Option Nat) (F : List Tm) (w : World) (h : QM w q F n mp) (hn : n ≤ 200) :
    Calls Try.prog 31 #[.pointer (some ⟨q, 0, none⟩)] w fun e w' => e = .returned (.slice (some ⟨q, 0, none⟩) n 200) ∧ Chg none_ w w' := by
  have c0 := h.c600
  clear h
  go_enter Try.func31, Try.ntmps31
  go_wp2
  refine wp_region_still_tail 7 (by kernel_rfl) (by kernel_rfl) ?_
  simp only [List.take_succ_cons, List.take_zero, List.drop_succ_cons, List.drop_zero]
  iterate 7 still_step
  refine wpStill_nil ?_
  change wpList _ _ _ _ _ (World.drew _)
  go_wp2_with ((with_reducible show wpList _ _ _ (⟨_, .slice _ _ _ _ _, _, _, _, _⟩ :: _) _ _); refine wpList_slice_arr_high rfl 57 27 _ _ rfl 200 3 n q 0 rfl rfl Try.underlying57 sizeTm hn ?_)
  go_ret
  exact ⟨rfl, (Chg.refl _ _).drew⟩
theorem all_nil (w : World) : Calls Try.prog 31 #[.pointer none] w fun e w' => e = .returned (.slice none 0 0) ∧ w' = w := by
  go_enter Try.func31, Try.ntmps31
  go_wp2
  go_ret
  exact ⟨rfl, rfl⟩

theorem Len_any (q : Nat) (mp : Option Nat) (S : List Tm) (w : World) (h : QIs w q mp S) :
    Calls Try.prog 14 #[.pointer (some ⟨q, 0, none⟩)] w fun e w' => e = .returned (.int .i64 ((S.length : Nat) : Int)) ∧ Chg none_ w w' := by
  obtain ⟨F, n, M, h⟩ := h
  have HA := Lib.hid (all_any q n mp F w h.qm h.le)
  rw [h.len]
  clear h
  go_enter Try.func14, Try.ntmps14
  go_wp2_with (go_at_call 31; refine HA.out.mono ?_; rintro e w2 ⟨rfl, hc2⟩; have HC2 := Lib.hid hc2; clear hc2)
  go_ret
  exact ⟨rfl, HC2.out⟩
theorem Len_nil (w : World) : Calls Try.prog 14 #[.pointer none] w fun e w' => e = .returned (.int .i64 0) ∧ Chg none_ w w' := by
  go_enter Try.func14, Try.ntmps14
  go_wp2_with (go_at_call 31; refine (all_nil _).mono ?_; rintro e w2 ⟨rfl, rfl⟩)
  go_ret
  exact ⟨rfl, Chg.refl _ _⟩

theorem Next_any (q : Nat) (mp : Option Nat) (S : List Tm) (w : World) (h : QIs w q mp S) :
    Calls Try.prog 16 #[.pointer (some ⟨q, 0, none⟩)] w fun e w' => e = .returned (.int .u64 ((nextS S : Nat) : Int)) ∧ Chg none_ w w' := by
  have HL := Lib.hid (Len_any q mp S w h)
  obtain ⟨F, n, M, h⟩ := h
  by_cases hn : n = 0
  · have hS : S = [] := List.eq_nil_of_length_eq_zero (by rw [h.len, hn])
    subst hS
    clear h
    show Calls _ _ _ _ fun e w' => e = .returned (.int .u64 18446744073709551615) ∧ _
    have HL2 : Hid (Calls Try.prog 14 #[.pointer (some ⟨q, 0, none⟩)] w fun e w' => e = .returned (.int .i64 0) ∧ Chg none_ w w') := HL
    clear HL
    go_enter Try.func16, Try.ntmps16
    go_wp2_with (go_at_call 14; refine HL2.out.mono ?_; rintro e w2 ⟨rfl, hc2⟩; have HC2 := Lib.hid hc2; clear hc2)
    go_ret
    exact ⟨rfl, HC2.out⟩
  · obtain ⟨S', hS⟩ := root_head h.hp (by rw [h.qm.len]; exact h.le) h.perm h.srt (by omega)
    have hne : (((S.length : Nat) : Int) == 0) = false := by rw [h.len, beq_eq_false_iff_ne]; omega
    have HQ := Lib.hid h.qm
    have e1 : nextS S = (tm F 0).at_ := by rw [hS]; rfl
    rw [e1]
    generalize S.length = m at *
    clear h hS e1
    go_enter Try.func16, Try.ntmps16
    go_wp2_with (go_at_call 14; refine HL.out.mono ?_; rintro e w2 ⟨rfl, hc2⟩; obtain ⟨a0, _, _⟩ := (HQ.out.chg hc2 (fun h => h)).timer (i := 0) (by decide); simp only [Nat.zero_mul] at a0; have HC2 := Lib.hid hc2; clear hc2)
    go_ret
    exact ⟨rfl, HC2.out⟩
theorem Next_nil (w : World) : Calls Try.prog 16 #[.pointer none] w fun e w' => e = .returned (.int .u64 18446744073709551615) ∧ Chg none_ w w' := by
  go_enter Try.func16, Try.ntmps16
  go_wp2_with (go_at_call 14; refine (Len_nil _).mono ?_; rintro e w2 ⟨rfl, hc2⟩; have HC2 := Lib.hid hc2; clear hc2)
  go_ret
  exact ⟨rfl, HC2.out⟩

set_option maxRecDepth 100000 in
theorem At_any (q : Nat) (mp : Option Nat) (S : List Tm) (k : Int × Int) (hk : KOk k) (w : World) (h : QIs w q mp S) :
    Calls Try.prog 17 #[.pointer (some ⟨q, 0, none⟩), .int .i64 k.1, .int .i64 k.2] w fun e w' => e = .returned (.int .u64 ((atS k S : Nat) : Int)) ∧ Chg none_ w w' := by
  obtain ⟨F, n, M, h⟩ := h
  have HP := Lib.hid (place_any q n mp F S M k hk w h)
  rcases h.find k with ⟨h1, h2⟩ | ⟨i, h1, hi, h2, _⟩
  · have e1 : atS k S = NV := by unfold atS; rw [h2]
    rw [e1]
    rw [h1] at HP
    have HP2 : Hid (Calls Try.prog 27 #[.pointer (some ⟨q, 0, none⟩), .int .i64 k.1, .int .i64 k.2] w fun e w' => e = .returned (.tuple #[.int .i64 0, .bool false]) ∧ w' = w) := HP
    show Calls _ _ _ _ fun e w' => e = .returned (.int .u64 18446744073709551615) ∧ _
    clear HP h h1 h2 e1
    go_enter Try.func17, Try.ntmps17
    go_wp2_with (go_at_call 27; refine HP2.out.mono ?_; rintro e w2 ⟨rfl, rfl⟩)
    go_ret
    exact ⟨rfl, Chg.refl _ _⟩
  · have e1 : atS k S = (tm F i).at_ := by unfold atS; rw [h2]
    rw [e1]
    rw [h1] at HP
    have HP2 : Hid (Calls Try.prog 27 #[.pointer (some ⟨q, 0, none⟩), .int .i64 k.1, .int .i64 k.2] w fun e w' => e = .returned (.tuple #[.int .i64 ((i : Nat) : Int), .bool true]) ∧ w' = w) := HP
    have hle := h.le
    obtain ⟨a0, _, _⟩ := h.qm.timer (i := i) (by omega)
    have i1 : (i : Int) < 200 := by omega
    clear HP h h1 h2 e1
    go_enter Try.func17, Try.ntmps17
    go_wp2_with (go_at_call 27; refine HP2.out.mono ?_; rintro e w2 ⟨rfl, rfl⟩)
    go_ret
    exact ⟨rfl, Chg.refl _ _⟩
theorem At_nil (c k : Int) (w : World) : Calls Try.prog 17 #[.pointer none, .int .i64 c, .int .i64 k] w fun e w' => e = .returned (.int .u64 18446744073709551615) ∧ Chg none_ w w' := by
  go_enter Try.func17, Try.ntmps17
  go_wp2_with (go_at_call 27; refine (place_nil _ _ _).mono ?_; rintro e w2 ⟨rfl, rfl⟩)
  go_ret
  exact ⟨rfl, Chg.refl _ _⟩
end Go.Proofs.Ytblpgpolhibfgaa
