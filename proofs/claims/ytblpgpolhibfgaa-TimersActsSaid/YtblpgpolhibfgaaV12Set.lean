/- Layer 12 (timers): Set, Cancel, Due, New: a queue's calls told by its timers in order. -/
import Derived.Test.YtblpgpolhibfgaaV12Take
namespace Go.Proofs.Ytblpgpolhibfgaa
open Go.RowKit

def hasS (k : Int × Int) (S : List Tm) : Bool := (findS k S).isSome
def dueS (now : Nat) (S : List Tm) : Option (Tm × List Tm) := match S with | t :: S' => if t.at_ ≤ now then some (t, S') else none | [] => none

theorem rem_none {w : World} {q n : Nat} {mp : Option Nat} {F S : List Tm} {M : Int × Int → Option Nat} (h : QA w q mp F n M S) {k : Int × Int} (hk : M k = none) : remS k S = S := by
  unfold remS
  rw [List.filter_eq_self]
  intro x hx
  rcases h.find k with ⟨_, h2⟩ | ⟨i, h1, _⟩
  · unfold findS at h2
    rw [List.find?_eq_none] at h2
    simpa using h2 x hx
  · rw [hk] at h1; cases h1
theorem rem_head {w : World} {q n : Nat} {mp : Option Nat} {F S : List Tm} {M : Int × Int → Option Nat} {t : Tm} (h : QA w q mp F n M (t :: S)) (ht : tm F 0 = t) (hn : 0 < n) : remS t.key (t :: S) = S := by
  unfold remS
  rw [List.filter_cons, if_neg (by simp), List.filter_eq_self]
  intro x hx
  have hne : x ≠ t := fun e => by
    subst e
    exact Ah.irrefl x ((List.pairwise_cons.1 h.srt).1 x hx)
  rcases List.mem_iff_getElem.1 (h.perm.mem_iff.2 (List.mem_cons_of_mem t hx)) with ⟨j, hj, e⟩
  rw [List.length_take] at hj
  have e2 : tm F j = x := by
    rw [← take_getD (by omega : j < n), List.getD_eq_getElem?_getD, List.getElem?_eq_getElem (by rw [List.length_take]; omega), e]
    rfl
  simp only [decide_eq_true_eq]
  intro hk
  have : j = 0 := h.pl.inj (by omega) hn (by rw [e2, ht, hk])
  subst this
  exact hne (e2.symm.trans ht)

set_option maxRecDepth 100000 in
set_option maxHeartbeats 1000000 in
theorem Cancel_any (q : Nat) (mp : Option Nat) (S : List Tm) (k : Int × Int) (hk : KOk k) (w : World) (h : QIs w q mp S) :
    Calls Try.prog 12 #[.pointer (some ⟨q, 0, none⟩), .int .i64 k.1, .int .i64 k.2] w fun e w' => e = .returned (.bool (hasS k S)) ∧ QIs w' q mp (remS k S) ∧ Chg (QB q mp) w w' := by
  obtain ⟨F, n, M, h⟩ := h
  have HP := Lib.hid (place_any q n mp F S M k hk w h)
  unfold hasS
  rcases h.find k with ⟨h1, h2⟩ | ⟨i, h1, hi, h2, h3⟩
  · rw [h2, rem_none h h1]
    rw [h1] at HP
    have HP2 : Hid (Calls Try.prog 27 #[.pointer (some ⟨q, 0, none⟩), .int .i64 k.1, .int .i64 k.2] w fun e w' => e = .returned (.tuple #[.int .i64 0, .bool false]) ∧ w' = w) := HP
    have HQ := Lib.hid h
    show Calls _ _ _ _ fun e w' => e = .returned (.bool false) ∧ _
    clear HP h h1 h2 hk
    go_enter Try.func12, Try.ntmps12
    go_wp2_with (go_at_call 27; refine HP2.out.mono ?_; rintro e w2 ⟨rfl, rfl⟩)
    go_ret
    exact ⟨rfl, ⟨F, n, M, HQ.out⟩, Chg.refl _ _⟩
  · rw [h2]
    rw [h1] at HP
    have HP2 : Hid (Calls Try.prog 27 #[.pointer (some ⟨q, 0, none⟩), .int .i64 k.1, .int .i64 k.2] w fun e w' => e = .returned (.tuple #[.int .i64 ((i : Nat) : Int), .bool true]) ∧ w' = w) := HP
    obtain ⟨m, rfl⟩ : ∃ m, n = m + 1 := ⟨n - 1, by omega⟩
    cases mp with
    | none => exact absurd (zero_n h) (by omega)
    | some g =>
      have HT := Lib.hid (take_any q g m i F S M w h (by omega))
      rw [h3] at HT
      show Calls _ _ _ _ fun e w' => e = .returned (.bool true) ∧ _
      clear HP h h1 h2 h3 hk hi
      generalize tcell (tm F i) = cs at HT
      go_enter Try.func12, Try.ntmps12
      go_wp2_with (first | (go_at_call 27; refine HP2.out.mono ?_; rintro e w2 ⟨rfl, rfl⟩) | (go_at_call 26; refine HT.out.mono ?_; rintro e w3 ⟨rfl, hq3, hc3⟩; have HQ3 := Lib.hid hq3; have HC3 := Lib.hid hc3; clear hq3 hc3))
      go_ret
      exact ⟨rfl, HQ3.out, HC3.out⟩
theorem Cancel_nil (c k : Int) (w : World) : Calls Try.prog 12 #[.pointer none, .int .i64 c, .int .i64 k] w fun e w' => e = .returned (.bool false) ∧ Chg none_ w w' := by
  go_enter Try.func12, Try.ntmps12
  go_wp2_with (go_at_call 27; refine (place_nil _ _ _).mono ?_; rintro e w2 ⟨rfl, rfl⟩)
  go_ret
  exact ⟨rfl, Chg.refl _ _⟩

theorem QA.never_ {w : World} {q n : Nat} {mp : Option Nat} {F S : List Tm} {M : Int × Int → Option Nat} (h : QA w q mp F n M S) : QIs w q mp S := ⟨F, n, M, h⟩

/-- Where a queue's map may lie behind a call. -/
def MNow (w w' : World) (q : Nat) (mp : Option Nat) (S : List Tm) : Prop := ∃ mp', MNew w mp mp' ∧ QIs w' q mp' S

set_option maxRecDepth 100000 in
set_option maxHeartbeats 2000000 in
theorem Set_any (q : Nat) (mp : Option Nat) (S : List Tm) (t : Tm) (ht : TOk t) (w : World) (h : QIs w q mp S) :
    Calls Try.prog 11 #[.pointer (some ⟨q, 0, none⟩), .agg (tcell t).toArray] w fun e w' => e = .returned (.bool (setB t S)) ∧ MNow w w' q mp (setS t S) ∧ Chg (QB q mp) w w' := by
  have HH := Lib.hid h
  have HT := Lib.hid ht
  have HB := Lib.hid (fun b hb => h.lt b hb)
  by_cases hnv : t.at_ = NV
  · have e1 : setB t S = true := by unfold setB; simp [hnv]
    have e2 : setS t S = remS t.key S := by unfold setS; rw [if_pos hnv]
    rw [e1, e2]
    have n1 : ((t.at_ : Int) == 18446744073709551615) = true := by rw [hnv]; decide
    have HCA := Lib.hid (fun w h => Cancel_any q mp S t.key ht.k w h)
    clear h ht e1 e2 hnv
    go_enter Try.func11, Try.ntmps11
    go_wp2_with (first | ((with_reducible show wpList _ _ _ (⟨some 3, .box _ _, _, _, _, _⟩ :: _) _ _); refine wpList_box_Row rfl rfl (tcell t) rfl ?_; intro w1 hr1 hc1 hs1; have a0 := hr1.cell 0; have a1 := hr1.cell 1; have a2 := hr1.cell 2; simp only [tcell, List.getElem?_cons_zero, List.getElem?_cons_succ] at a0 a1 a2; have HC1 := Lib.hid hc1; have HH1 := Lib.hid (HH.out.quiet hc1); clear hr1 hc1 hs1) | (go_at_call 12; refine (HCA.out _ HH1.out).mono ?_; rintro e w2 ⟨rfl, hq2, hc2⟩; have HQ2 := Lib.hid hq2; have HC2 := Lib.hid hc2; clear hq2 hc2))
    go_ret
    exact ⟨rfl, ⟨mp, Or.inl rfl, HQ2.out⟩, (HC1.out.mono (fun _ _ h => h.elim)).trans HC2.out⟩
  · have n1 : ((t.at_ : Int) == 18446744073709551615) = false := by
      rw [beq_eq_false_iff_ne]
      unfold NV at hnv
      omega
    have HNV := Lib.hid hnv
    obtain ⟨F, n, M, h⟩ := h
    have HPL := Lib.hid (fun w h => place_any q n mp F S M t.key ht.k w h)
    have HQ := Lib.hid h
    rcases h.find t.key with ⟨h1, h2⟩ | ⟨i, h1, hi, h2, h3⟩
    · have hlen := h.len
      rw [h1] at HPL
      have HPL2 : Hid (∀ w, QA w q mp F n M S → Calls Try.prog 27 #[.pointer (some ⟨q, 0, none⟩), .int .i64 t.key.1, .int .i64 t.key.2] w fun e w' => e = .returned (.tuple #[.int .i64 0, .bool false]) ∧ w' = w) := HPL
      by_cases hn : n < 200
      · have e1 : setB t S = true := by unfold setB; simp [hlen, hn]
        have e2 : setS t S = insS t (remS t.key S) := by unfold setS; rw [if_neg hnv, if_pos (Or.inr (by omega))]
        rw [e1, e2]
        have HPU : Hid (∀ w, QA w q mp F n M S → Calls Try.prog 29 #[.pointer (some ⟨q, 0, none⟩), .agg (tcell t).toArray] w fun e w' => e = .returned (.bool true) ∧ MNow w w' q mp (insS t (remS t.key S)) ∧ Chg (QB q mp) w w') := Lib.hid (fun w h => by
          cases mp with
          | some g => exact (push_some q g n F S M t w h HT.out HNV.out h1 hn).mono (fun _ _ ⟨a, b, c⟩ => ⟨a, ⟨some g, Or.inl rfl, b⟩, c⟩)
          | none => exact (push_none q n F S M t w h HT.out HNV.out h1 hn).mono (fun _ _ ⟨a, ⟨g, hg, b⟩, c⟩ => ⟨a, ⟨some g, Or.inr ⟨rfl, g, rfl, hg⟩, b⟩, c⟩))
        clear h ht h1 h2 hnv e1 e2 HPL
        go_enter Try.func11, Try.ntmps11
        go_wp2_with (first | ((with_reducible show wpList _ _ _ (⟨some 3, .box _ _, _, _, _, _⟩ :: _) _ _); refine wpList_box_Row rfl rfl (tcell t) rfl ?_; intro w1 hr1 hc1 hs1; have a0 := hr1.cell 0; have a1 := hr1.cell 1; have a2 := hr1.cell 2; simp only [tcell, List.getElem?_cons_zero, List.getElem?_cons_succ] at a0 a1 a2; have HR1 := Lib.hid hr1; have HC1 := Lib.hid hc1; have HH1 := Lib.hid (HQ.out.chg hc1 (fun _ _ h => h)); clear hr1 hc1 hs1) | (go_at_call 27; refine (HPL2.out _ HH1.out).mono ?_; rintro e w2 ⟨rfl, rfl⟩) | ((with_reducible show wpList _ _ _ (⟨some 33, .load _ _, _, _, _, _⟩ :: _) _ _); refine wpList_load_Row rfl rfl rfl HR1.out Try.underlying27 rfl sizeTm ?_) | (go_at_call 29; refine (HPU.out _ HH1.out).mono ?_; rintro e w3 ⟨rfl, hq3, hc3⟩; have HQ3 := Lib.hid hq3; have HC3 := Lib.hid hc3; clear hq3 hc3))
        go_ret
        obtain ⟨mp', hm, hq⟩ := HQ3.out
        have hsz := HC1.out.size
        refine ⟨rfl, ⟨mp', ?_, hq⟩, (HC1.out.mono (fun _ _ h => h.elim)).trans HC3.out⟩
        rcases hm with hm | ⟨hm, g, hg, hl⟩
        · exact Or.inl hm
        · exact Or.inr ⟨hm, g, hg, by omega⟩
      · have hn2 : n = 200 := by have := h.le; omega
        subst hn2
        have e1 : setB t S = false := by unfold setB; simp [hlen, h2, hnv]
        have e2 : setS t S = S := by unfold setS; rw [if_neg hnv, if_neg (by rw [h2, hlen]; simp)]
        rw [e1, e2]
        have HPU := Lib.hid (fun w (h : QM w q F 200 mp) => push_full q mp F t w h)
        clear h ht h1 h2 hnv e1 e2 HPL
        go_enter Try.func11, Try.ntmps11
        go_wp2_with (first | ((with_reducible show wpList _ _ _ (⟨some 3, .box _ _, _, _, _, _⟩ :: _) _ _); refine wpList_box_Row rfl rfl (tcell t) rfl ?_; intro w1 hr1 hc1 hs1; have a0 := hr1.cell 0; have a1 := hr1.cell 1; have a2 := hr1.cell 2; simp only [tcell, List.getElem?_cons_zero, List.getElem?_cons_succ] at a0 a1 a2; have HR1 := Lib.hid hr1; have HC1 := Lib.hid hc1; have HH1 := Lib.hid (HQ.out.chg hc1 (fun _ _ h => h)); clear hr1 hc1 hs1) | (go_at_call 27; refine (HPL2.out _ HH1.out).mono ?_; rintro e w2 ⟨rfl, rfl⟩) | ((with_reducible show wpList _ _ _ (⟨some 33, .load _ _, _, _, _, _⟩ :: _) _ _); refine wpList_load_Row rfl rfl rfl HR1.out Try.underlying27 rfl sizeTm ?_) | (go_at_call 29; refine (HPU.out _ HH1.out.qm).mono ?_; rintro e w3 ⟨rfl, hc3⟩; have HC3 := Lib.hid (HC1.out.trans hc3); clear hc3))
        go_ret
        exact ⟨rfl, ⟨mp, Or.inl rfl, HH.out.quiet HC3.out⟩, HC3.out.mono (fun _ _ h => h.elim)⟩
    · have e1 : setB t S = true := by unfold setB; simp [h2]
      have e2 : setS t S = insS t (remS t.key S) := by unfold setS; rw [if_neg hnv, if_pos (Or.inl (by rw [h2]; rfl))]
      rw [e1, e2]
      rw [h1] at HPL
      have HPL2 : Hid (∀ w, QA w q mp F n M S → Calls Try.prog 27 #[.pointer (some ⟨q, 0, none⟩), .int .i64 t.key.1, .int .i64 t.key.2] w fun e w' => e = .returned (.tuple #[.int .i64 ((i : Nat) : Int), .bool true]) ∧ w' = w) := HPL
      cases mp with
      | none => exact absurd (zero_n h) (by omega)
      | some g =>
        have HSE : Hid (∀ w, QA w q (some g) F n M S → Calls Try.prog 28 #[.pointer (some ⟨q, 0, none⟩), .int .i64 (i : Int), .agg (tcell t).toArray] w fun e w' => e = .returned (.tuple #[]) ∧ QIs w' q (some g) (insS t (remS t.key S)) ∧ Chg (Two q g) w w') := Lib.hid (fun w h => (settle_any q g n t HT.out i F _ M w (h.hs h1)).mono (fun e w' ⟨F', M', a, b1, b2, b3, b4, b5, b6⟩ => ⟨a, (h.set h1 HNV.out b1 b2 b3 b4 b5).never_, b6⟩))
        clear h ht h1 h2 h3 hnv e1 e2 HPL
        go_enter Try.func11, Try.ntmps11
        go_wp2_with (first | ((with_reducible show wpList _ _ _ (⟨some 3, .box _ _, _, _, _, _⟩ :: _) _ _); refine wpList_box_Row rfl rfl (tcell t) rfl ?_; intro w1 hr1 hc1 hs1; have a0 := hr1.cell 0; have a1 := hr1.cell 1; have a2 := hr1.cell 2; simp only [tcell, List.getElem?_cons_zero, List.getElem?_cons_succ] at a0 a1 a2; have HR1 := Lib.hid hr1; have HC1 := Lib.hid hc1; have HH1 := Lib.hid (HQ.out.chg hc1 (fun _ _ h => h)); clear hr1 hc1 hs1) | (go_at_call 27; refine (HPL2.out _ HH1.out).mono ?_; rintro e w2 ⟨rfl, rfl⟩) | ((with_reducible show wpList _ _ _ (⟨some 30, .load _ _, _, _, _, _⟩ :: _) _ _); refine wpList_load_Row rfl rfl rfl HR1.out Try.underlying27 rfl sizeTm ?_) | (go_at_call 28; refine (HSE.out _ HH1.out).mono ?_; rintro e w3 ⟨rfl, hq3, hc3⟩; have HQ3 := Lib.hid hq3; have HC3 := Lib.hid hc3.two; clear hq3 hc3))
        go_ret
        exact ⟨rfl, ⟨some g, Or.inl rfl, HQ3.out⟩, (HC1.out.mono (fun _ _ h => h.elim)).trans HC3.out⟩
theorem Set_nil (t : Tm) (w : World) : Calls Try.prog 11 #[.pointer none, .agg (tcell t).toArray] w fun e w' => e = .returned (.bool false) ∧ Chg none_ w w' := by
  go_enter Try.func11, Try.ntmps11
  go_wp2_with ((with_reducible show wpList _ _ _ (⟨some 3, .box _ _, _, _, _, _⟩ :: _) _ _); refine wpList_box_Row rfl rfl (tcell t) rfl ?_; intro w1 hr1 hc1 hs1; have HC1 := Lib.hid hc1; clear hr1 hc1 hs1)
  go_ret
  exact ⟨rfl, HC1.out⟩

set_option maxRecDepth 100000 in
set_option maxHeartbeats 2000000 in
theorem Due_some (q : Nat) (mp : Option Nat) (t : Tm) (S : List Tm) (now : Nat) (w : World) (h : QIs w q mp (t :: S)) (hd : t.at_ ≤ now) :
    Calls Try.prog 10 #[.pointer (some ⟨q, 0, none⟩), .int .u64 (now : Int)] w fun e w' => e = .returned (.tuple #[.agg (tcell t).toArray, .bool true]) ∧ QIs w' q mp S ∧ Chg (QB q mp) w w' := by
  have HH := Lib.hid h
  have HLT := Lib.hid (fun b hb => h.lt b hb)
  have HL : Hid (∀ w, QIs w q mp (t :: S) → Calls Try.prog 14 #[.pointer (some ⟨q, 0, none⟩)] w fun e w' => e = .returned (.int .i64 ((S.length : Int) + 1)) ∧ Chg none_ w w') := Lib.hid (fun w h => by
    have := Len_any q mp (t :: S) w h
    rwa [List.length_cons, Int.natCast_add] at this)
  have HN : Hid (∀ w, QIs w q mp (t :: S) → Calls Try.prog 16 #[.pointer (some ⟨q, 0, none⟩)] w fun e w' => e = .returned (.int .u64 (t.at_ : Int)) ∧ Chg none_ w w') := Lib.hid (fun w h => Next_any q mp (t :: S) w h)
  have HT : Hid (∀ w, QIs w q mp (t :: S) → Calls Try.prog 26 #[.pointer (some ⟨q, 0, none⟩), .int .i64 0] w fun e w' => e = .returned (.agg (tcell t).toArray) ∧ QIs w' q mp S ∧ Chg (QB q mp) w w') := Lib.hid (fun w h => by
    obtain ⟨F, n, M, h⟩ := h
    have hn : 0 < n := by have := h.len; simp at this; omega
    obtain ⟨S', hS⟩ := root_head h.hp (by rw [h.qm.len]; exact h.le) h.perm h.srt hn
    injection hS with hS1 hS2
    have hr := rem_head h hS1.symm hn
    obtain ⟨m, rfl⟩ : ∃ m, n = m + 1 := ⟨n - 1, by omega⟩
    cases mp with
    | none => exact absurd (zero_n h) (by omega)
    | some g =>
      have := take_any q g m 0 F _ M w h (Nat.zero_le _)
      rw [← hS1, hr] at this
      exact this)
  have l1 : ((S.length : Int) + 1 == 0) = false := by rw [beq_eq_false_iff_ne]; omega
  have d1 : (t.at_ : Int) ≤ (now : Int) := by omega
  have d2 : decide ((now : Int) < (t.at_ : Int)) = false := by simp; omega
  clear h hd
  generalize (S.length : Int) = len at *
  go_enter Try.func10, Try.ntmps10
  go_wp2_with (first | ((with_reducible show wpList _ _ _ (⟨some 4, .alloc _, _, _, _, _⟩ :: _) _ _); refine wpList_alloc_Row rfl rfl (tcell zT) zeroTm ?_; intro w1 hr1 hc1 hs1; have HR1 := Lib.hid hr1; have HC1 := Lib.hid hc1; have HH1 := Lib.hid (HH.out.quiet hc1); clear hr1 hc1 hs1) | (go_at_call 14; refine (HL.out _ HH1.out).mono ?_; rintro e w2 ⟨rfl, hc2⟩; have HC2 := Lib.hid (HC1.out.trans hc2); have HH2 := Lib.hid (HH1.out.quiet hc2); have HR2 := Lib.hid (HR1.out.chg hc2 (fun h => h)); clear hc2) | (go_at_call 16; refine (HN.out _ HH2.out).mono ?_; rintro e w3 ⟨rfl, hc3⟩; have HC3 := Lib.hid (HC2.out.trans hc3); have HH3 := Lib.hid (HH2.out.quiet hc3); have HR3 := Lib.hid (HR2.out.chg hc3 (fun h => h)); clear hc3) | (go_at_call 26; refine (HT.out _ HH3.out).mono ?_; rintro e w4 ⟨rfl, hq4, hc4⟩; have HQ4 := Lib.hid hq4; have HC4 := Lib.hid hc4; have HR4 := Lib.hid (HR3.out.chg hc4 (fun e => by have := HLT.out _ e; omega)); clear hq4 hc4) | ((with_reducible show wpList _ _ _ (⟨none, .store _ (.tmp 4) _, _, _, _, _⟩ :: _) _ _); refine wpList_store_Row (xs := tcell t) rfl rfl rfl HR4.out rfl rfl sizeTm rfl ?_; intro w5 hr5 hcs5 hs5; have HR5 := Lib.hid hr5; have HC5 := Lib.hid (hcs5 (· = w.heap.size) w4 (Chg.refl _ _) (fun _ => rfl)); clear hr5 hcs5 hs5))
  refine ret_row2 rfl rfl HR5.out Try.underlying27 rfl sizeTm rfl ?_
  exact ⟨rfl, HQ4.out.chg HC5.out (fun b hb e => by have := HLT.out _ hb; omega), ((HC3.out.mono (fun _ _ h => h.elim)).trans HC4.out).andThen HC5.out (fun b hb e => by omega)⟩

set_option maxRecDepth 100000 in
set_option maxHeartbeats 2000000 in
theorem Due_late (q : Nat) (mp : Option Nat) (t : Tm) (S : List Tm) (now : Nat) (w : World) (h : QIs w q mp (t :: S)) (hd : now < t.at_) :
    Calls Try.prog 10 #[.pointer (some ⟨q, 0, none⟩), .int .u64 (now : Int)] w fun e w' => e = .returned (.tuple #[.agg (tcell zT).toArray, .bool false]) ∧ Chg none_ w w' := by
  have HH := Lib.hid h
  have HL : Hid (∀ w, QIs w q mp (t :: S) → Calls Try.prog 14 #[.pointer (some ⟨q, 0, none⟩)] w fun e w' => e = .returned (.int .i64 ((S.length : Int) + 1)) ∧ Chg none_ w w') := Lib.hid (fun w h => by
    have := Len_any q mp (t :: S) w h
    rwa [List.length_cons, Int.natCast_add] at this)
  have HN : Hid (∀ w, QIs w q mp (t :: S) → Calls Try.prog 16 #[.pointer (some ⟨q, 0, none⟩)] w fun e w' => e = .returned (.int .u64 (t.at_ : Int)) ∧ Chg none_ w w') := Lib.hid (fun w h => Next_any q mp (t :: S) w h)
  have l1 : ((S.length : Int) + 1 == 0) = false := by rw [beq_eq_false_iff_ne]; omega
  have d1 : (now : Int) < (t.at_ : Int) := by omega
  clear h hd
  generalize (S.length : Int) = len at *
  go_enter Try.func10, Try.ntmps10
  go_wp2_with (first | ((with_reducible show wpList _ _ _ (⟨some 4, .alloc _, _, _, _, _⟩ :: _) _ _); refine wpList_alloc_Row rfl rfl (tcell zT) zeroTm ?_; intro w1 hr1 hc1 hs1; have HR1 := Lib.hid hr1; have HC1 := Lib.hid hc1; have HH1 := Lib.hid (HH.out.quiet hc1); clear hr1 hc1 hs1) | (go_at_call 14; refine (HL.out _ HH1.out).mono ?_; rintro e w2 ⟨rfl, hc2⟩; have HC2 := Lib.hid (HC1.out.trans hc2); have HH2 := Lib.hid (HH1.out.quiet hc2); have HR2 := Lib.hid (HR1.out.chg hc2 (fun h => h)); clear hc2) | (go_at_call 16; refine (HN.out _ HH2.out).mono ?_; rintro e w3 ⟨rfl, hc3⟩; have HC3 := Lib.hid (HC2.out.trans hc3); have HR3 := Lib.hid (HR2.out.chg hc3 (fun h => h)); clear hc3) | ((with_reducible show wpList _ _ _ (⟨none, .store _ (.tmp 4) _, _, _, _, _⟩ :: _) _ _); refine wpList_store_Row (xs := tcell zT) rfl rfl rfl HR3.out rfl rfl sizeTm rfl ?_; intro w5 hr5 hcs5 hs5; have HR5 := Lib.hid hr5; have HC5 := Lib.hid (hcs5 (· = w.heap.size) w3 (Chg.refl _ _) (fun _ => rfl)); clear hr5 hcs5 hs5))
  refine ret_row2 rfl rfl HR5.out Try.underlying27 rfl sizeTm rfl ?_
  exact ⟨rfl, HC3.out.andThen HC5.out (fun b hb e => by omega)⟩

set_option maxRecDepth 100000 in
set_option maxHeartbeats 2000000 in
/-- Due where there are none: a queue of none, or none at all. -/
theorem Due_none (v : Value) (now : Nat) (w : World) (hl : ∀ w', Chg none_ w w' → Calls Try.prog 14 #[v] w' fun e w'' => e = .returned (.int .i64 0) ∧ Chg none_ w' w'') :
    Calls Try.prog 10 #[v, .int .u64 (now : Int)] w fun e w' => e = .returned (.tuple #[.agg (tcell zT).toArray, .bool false]) ∧ Chg none_ w w' := by
  have HL := Lib.hid hl
  clear hl
  go_enter Try.func10, Try.ntmps10
  go_wp2_with (first | ((with_reducible show wpList _ _ _ (⟨some 4, .alloc _, _, _, _, _⟩ :: _) _ _); refine wpList_alloc_Row rfl rfl (tcell zT) zeroTm ?_; intro w1 hr1 hc1 hs1; have HR1 := Lib.hid hr1; have HC1 := Lib.hid hc1; clear hr1 hc1 hs1) | (go_at_call 14; refine (HL.out _ HC1.out).mono ?_; rintro e w2 ⟨rfl, hc2⟩; have HC2 := Lib.hid (HC1.out.trans hc2); have HR2 := Lib.hid (HR1.out.chg hc2 (fun h => h)); clear hc2) | ((with_reducible show wpList _ _ _ (⟨none, .store _ (.tmp 4) _, _, _, _, _⟩ :: _) _ _); refine wpList_store_Row (xs := tcell zT) rfl rfl rfl HR2.out rfl rfl sizeTm rfl ?_; intro w5 hr5 hcs5 hs5; have HR5 := Lib.hid hr5; have HC5 := Lib.hid (hcs5 (· = w.heap.size) w2 (Chg.refl _ _) (fun _ => rfl)); clear hr5 hcs5 hs5))
  refine ret_row2 rfl rfl HR5.out Try.underlying27 rfl sizeTm rfl ?_
  exact ⟨rfl, HC2.out.andThen HC5.out (fun b hb e => by omega)⟩

/-- Due, told in one. -/
theorem Due_any (q : Nat) (mp : Option Nat) (S : List Tm) (now : Nat) (w : World) (h : QIs w q mp S) :
    Calls Try.prog 10 #[.pointer (some ⟨q, 0, none⟩), .int .u64 (now : Int)] w fun e w' => e = .returned (.tuple #[.agg (tcell ((dueS now S).elim zT (·.1))).toArray, .bool (dueS now S).isSome]) ∧ QIs w' q mp ((dueS now S).elim S (·.2)) ∧ Chg (QB q mp) w w' := by
  cases S with
  | nil => exact (Due_none _ now w (fun w' hc => Len_any q mp [] w' (h.quiet hc))).mono (fun _ _ ⟨a, b⟩ => ⟨a, h.quiet b, b.mono (fun _ _ h => h.elim)⟩)
  | cons t S =>
    have e : dueS now (t :: S) = if t.at_ ≤ now then some (t, S) else none := rfl
    rw [e]
    by_cases hd : t.at_ ≤ now
    · rw [if_pos hd]
      exact Due_some q mp t S now w h hd
    · rw [if_neg hd]
      exact (Due_late q mp t S now w h (by omega)).mono (fun _ _ ⟨a, b⟩ => ⟨a, h.quiet b, b.mono (fun _ _ h => h.elim)⟩)

def zQ : List Value := tcells (List.replicate 200 zT) ++ [.int .i64 0, .map none]
theorem zeroQ : (Try.prog.info? 60).map (·.zero) = some (some (.agg zQ.toArray)) := by kernel_rfl
theorem take_zero' {α : Type} (l : List α) : l.take 0 = [] := by cases l <;> rfl
theorem new_is {w : World} {q : Nat} (h : Row w q 60 zQ) : QIs w q none [] :=
  ⟨List.replicate 200 zT, 0, fun _ => none, ⟨h, List.length_replicate, fun t ht => by
    rw [List.eq_of_mem_replicate ht]
    exact ⟨by decide, by decide, by decide⟩⟩, fun _ => rfl, Nat.zero_le _, ⟨fun i hi => absurd hi (by omega), fun k i hM => by cases hM⟩, fun i h0 hi => absurd hi (by omega), by rw [take_zero'], List.Pairwise.nil, by simp⟩
theorem New_any (w : World) : Calls Try.prog 18 #[] w fun e w' => e = .returned (.pointer (some ⟨w.heap.size, 0, none⟩)) ∧ QIs w' w.heap.size none [] ∧ Chg none_ w w' ∧ w'.heap.size = w.heap.size + 1 := by
  go_enter Try.func18, Try.ntmps18
  go_wp2_with ((with_reducible show wpList _ _ _ (⟨_, .alloc _, _, _, _, _⟩ :: _) _ _); refine wpList_alloc_Row rfl rfl zQ zeroQ ?_; intro w1 hr1 hc1 hs1; have HR1 := Lib.hid hr1; have HC1 := Lib.hid hc1; have HS1 := Lib.hid hs1; clear hr1 hc1 hs1)
  go_ret
  exact ⟨rfl, new_is HR1.out, HC1.out, HS1.out⟩
end Go.Proofs.Ytblpgpolhibfgaa
