/- Layer 12 (timers): the law of what was set last, walked. -/
import Derived.Test.YtblpgpolhibfgaaV12Quiet
namespace Go.Proofs.Ytblpgpolhibfgaa
open Go.RowKit

theorem find_rem {k k' : Int × Int} {S : List Tm} (h : k ≠ k') : findS k (remS k' S) = findS k S := by
  induction S with
  | nil => rfl
  | cons a S ih =>
    unfold remS findS at *
    rw [List.filter_cons]
    by_cases h1 : a.key = k'
    · have h2 : a.key ≠ k := fun e => h (e.symm.trans h1)
      rw [if_neg (by simpa using h1), ih, List.find?_cons_of_neg (by simpa using h2)]
    · rw [if_pos (by simpa using h1)]
      by_cases h2 : a.key = k
      · rw [List.find?_cons_of_pos (by simpa using h2), List.find?_cons_of_pos (by simpa using h2)]
      · rw [List.find?_cons_of_neg (by simpa using h2), List.find?_cons_of_neg (by simpa using h2), ih]
theorem find_ins_far {k : Int × Int} {t : Tm} {S : List Tm} (h : t.key ≠ k) : findS k (insS t S) = findS k S := by
  induction S with
  | nil => unfold insS findS; simp [h]
  | cons a S ih =>
    unfold insS
    split
    · unfold findS
      rw [List.find?_cons_of_neg (by simpa using h)]
    · unfold findS at *
      by_cases h2 : a.key = k
      · rw [List.find?_cons_of_pos (by simpa using h2), List.find?_cons_of_pos (by simpa using h2)]
      · rw [List.find?_cons_of_neg (by simpa using h2), List.find?_cons_of_neg (by simpa using h2), ih]
theorem at_set {k : Int × Int} {t : Tm} {S : List Tm} (hl : S.length < 200) : atS k (setS t S) = if t.key = k then t.at_ else atS k S := by
  unfold setS atS
  by_cases hv : t.at_ = NV
  · rw [if_pos hv]
    by_cases hk : t.key = k
    · rw [if_pos hk, hk, find_none (fun x hx => (mem_remS.1 hx).2), hv]
    · rw [if_neg hk, find_rem (fun e => hk e.symm)]
  · rw [if_neg hv, if_pos (Or.inr hl)]
    by_cases hk : t.key = k
    · subst hk
      rw [if_pos rfl, find_ins (fun x hx => (mem_remS.1 hx).2)]
    · rw [if_neg hk, find_ins_far hk, find_rem (fun e => hk e.symm)]
def lastAt (k : Int × Int) (L : List Tm) : Nat := L.foldl (fun a t => if t.key = k then t.at_ else a) NV
theorem lastAt_snoc (k : Int × Int) (L : List Tm) (t : Tm) : lastAt k (L ++ [t]) = if t.key = k then t.at_ else lastAt k L := by
  unfold lastAt
  rw [List.foldl_append]
  rfl

set_option maxRecDepth 100000 in
set_option maxHeartbeats 4000000 in
theorem walk_TimersLast (l : List Tm) (A : Option Addr) (cap : Nat) (w : World) (_hb : l.length ≤ cap ∧ cap ≤ maxLen) (hv : View w (fun _ => True) A (l.length * 3) (tcells l)) (ho : ∀ t ∈ l, TOk t) :
    Calls Try.prog 5 #[.slice A l.length cap] w fun e w' => e = .returned (.bool true) ∧ Chg none_ w w' := by
  by_cases hbig : 150 < l.length
  · have h1 : (150 : Int) < (l.length : Int) := by omega
    clear hv
    go_enter Try.func5, Try.ntmps5
    go_wp2_with (go_at_call 9; refine (alive_any _).mono ?_; rintro e w1 ⟨rfl, hc⟩; have HC := Lib.hid hc; clear hc)
    go_ret
    exact ⟨rfl, HC.out⟩
  have h1 : ¬ (150 : Int) < (l.length : Int) := by omega
  have HV := Lib.hid (fun w' (hc : Chg none_ w w') => hv.chg hc (fun _ _ h => h))
  have HO := Lib.hid (fun k (hk : k < l.length) => ho _ (tm_mem hk))
  clear hv ho
  go_enter Try.func5, Try.ntmps5
  go_wp2_with (first | (go_at_call 9; refine (alive_any _).mono ?_; rintro e w1 ⟨rfl, hc⟩; have HC1 := Lib.hid hc; clear hc) | (go_at_call 18; refine (New_own w1).mono ?_; rintro e w2 ⟨rfl, hqo, hc⟩; have HQ2 := Lib.hid hqo; have HC2 := Lib.hid (HC1.out.trans hc); clear hqo hc))
  have H0 := Lib.hid HC1.out.size
  clear HC1
  generalize w1.heap.size = q at *
  have HTK : Hid (∀ k, k < l.length → l.take (k + 1) = l.take k ++ [tm l k]) := Lib.hid (fun k hk => by
    rw [List.take_add_one]
    unfold tm
    rw [List.getD_eq_getElem?_getD, List.getElem?_eq_getElem hk]
    rfl)
  go_loopw [4] (fun i wr => ∃ (k : Nat) (S : List Tm), i = .int .i64 (k : Int) ∧ k ≤ l.length ∧ QO wr q q S ∧ S.length ≤ k ∧ (∀ x, atS x S = lastAt x (l.take k)) ∧ Chg none_ w wr) (fun i _ => l.length - (intOf i).toNat)
  case atStart => exact ⟨0, [], rfl, Nat.zero_le _, HQ2.out, Nat.le_refl _, fun x => by rw [take_zero']; rfl, HC2.out⟩
  case round =>
    obtain ⟨k, S, rfl, hk, hq, hS, hat, hc⟩ := hrel
    have HQ := Lib.hid hq
    have HC := Lib.hid hc
    by_cases hlt : k < l.length
    · have k1 : (k : Int) < (l.length : Int) := by omega
      obtain ⟨b, o, rfl, hbl, _, hr⟩ := (HV.out wr hc).tmAt hlt
      have HCL : Hid (∀ w', Chg none_ w w' → w'.rangeAt b (o + k * 3) (tcell (tm l k))) := Lib.hid (fun w' hc' => by
        obtain ⟨b', o', hbo, _, _, hr3⟩ := (HV.out w' hc').tmAt hlt
        injection hbo with hbo
        injection hbo with hb1 ho1
        subst hb1 ho1
        exact hr3 k hlt)
      have HT := Lib.hid (HO.out k hlt)
      have hSB : setB (tm l k) S = true := by unfold setB; have : S.length < 200 := by omega
                                              simp [this]
      have HSE : Hid (∀ w1, Chg none_ w w1 → QO w1 q q S → Calls Try.prog 11 #[.pointer (some ⟨q, 0, none⟩), .agg (tcell (tm l k)).toArray] w1 fun e w' => e = .returned (.bool true) ∧ QO w' q q (setS (tm l k) S) ∧ Chg none_ w w') := Lib.hid (fun w1 hc h => by
        have := Set_own q q S (tm l k) HT.out w w1 H0.out h.base hc h
        rwa [hSB] at this)
      have HAT : Hid (∀ w1, QO w1 q q (setS (tm l k) S) → Calls Try.prog 17 #[.pointer (some ⟨q, 0, none⟩), .int .i64 (tm l k).conn, .int .i64 (tm l k).kind] w1 fun e w' => e = .returned (.int .u64 ((tm l k).at_ : Int)) ∧ Chg none_ w1 w') := Lib.hid (fun w1 h => by
        have := At_own q q _ (tm l k).key HT.out.k w1 h
        rwa [at_set (by omega), if_pos rfl] at this)
      have HNX : Hid ((setS (tm l k) S).length ≤ k + 1 ∧ ∀ x, atS x (setS (tm l k) S) = lastAt x (l.take (k + 1))) := Lib.hid ⟨by have := setS_len (tm l k) S; omega, fun x => by
        rw [at_set (by omega), HTK.out k hlt, lastAt_snoc, hat x]⟩
      clear hq hc hr hSB hat
      go_wp2
      refine wp_region_held_drew (S := fun w' => Chg none_ w w') (by kernel_rfl) (HC.out.drew) (fun hch0 => ?_)
      refine wpAnyH_take (i := 0) (v := .pointer (some ⟨q, 0, none⟩)) rfl (by kernel_rfl) (by kernel_rfl) (by kernel_rfl) (by first | exact fun _ _ _ h => h | exact fun _ _ _ h => nomatch h.1) (Or.inl ⟨by rfl, fun w_ hw_ => by go_simp⟩) hch0 ?_
      refine wpAnyH_take (i := 1) (v := .slice (some ⟨b, o, none⟩) l.length cap) rfl (by kernel_rfl) (by kernel_rfl) (by kernel_rfl) (by first | exact fun _ _ _ h => h | exact fun _ _ _ h => nomatch h.1) (Or.inl ⟨by rfl, fun w_ hw_ => by go_simp⟩) hch0 ?_
      refine wpAnyH_take (i := 2) (v := .int .i64 (k : Int)) rfl (by kernel_rfl) (by kernel_rfl) (by kernel_rfl) (by first | exact fun _ _ _ h => h | exact fun _ _ _ h => nomatch h.1) (Or.inl ⟨by rfl, fun w_ hw_ => by go_simp⟩) hch0 ?_
      refine wpAnyH_take (i := 3) (v := .pointer (some ⟨b, o + k * 3, none⟩)) rfl (by kernel_rfl) (by kernel_rfl) (by kernel_rfl) (by first | exact fun _ _ _ h => h | exact fun _ _ _ h => nomatch h.1) (Or.inl ⟨by rfl, fun w_ hw_ => by go_simp⟩) hch0 ?_
      try simp only [Act.put, List.setIfInBounds_toArray, List.set_cons_zero, List.set_cons_succ, List.getElem_toArray, List.getElem_cons_succ, List.getElem_cons_zero]
      refine wpAnyH_take (i := 4) (v := .agg (tcell (tm l k)).toArray) rfl (by kernel_rfl) (by kernel_rfl) (by kernel_rfl) (by first | exact fun _ _ _ h => h | exact fun _ _ _ h => nomatch h.1) (yieldsIf_load_mid (by rfl) 27 _ rfl b (o + k * 3) rfl (tcell (tm l k)) _ (fun w' hw' => HCL.out w' hw') Try.underlying27 rfl sizeTm) hch0 ?_
      try simp only [Act.put, List.setIfInBounds_toArray, List.set_cons_zero, List.set_cons_succ, List.getElem_toArray, List.getElem_cons_succ, List.getElem_cons_zero]
      refine wpAnyH_ready (rs := [5]) (by kernel_rfl) (by simp) ?_
      refine AllReadyH.cons rfl (fun K hK => ?_) AllReadyH.nil
      rw [if_pos (by rfl)]
      try simp only [List.getElem_toArray, List.getElem_cons_succ, List.getElem_cons_zero]
      go_simp
      refine (HSE.out _ HC.out.drew HQ.out.drew).mono ?_
      rintro e w3 ⟨rfl, hqo, hc⟩
      have HQ3 := Lib.hid hqo
      have HC3 := Lib.hid hc
      clear hqo hc
      refine hK.out _ _ (HC3.out) (fun _ => ?_)
      clear hK K
      try simp only [Act.put, List.setIfInBounds_toArray, List.set_cons_zero, List.set_cons_succ, List.getElem_toArray, List.getElem_cons_succ, List.getElem_cons_zero]
      refine wpAnyH_take (i := 6) (v := .bool false) rfl (by kernel_rfl) (by kernel_rfl) (by kernel_rfl) (by first | exact fun _ _ _ h => h | exact fun _ _ _ h => nomatch h.1) (Or.inl ⟨by rfl, fun w_ hw_ => by go_simp⟩) HC3.out ?_
      refine wpAnyH_take (i := 7) (v := .bool false) rfl (by kernel_rfl) (by kernel_rfl) (by kernel_rfl) (by first | exact fun _ _ _ h => h | exact fun _ _ _ h => nomatch h.1) (Or.inl ⟨by rfl, fun w_ hw_ => by go_simp⟩) HC3.out ?_
      try simp only [Act.put, List.setIfInBounds_toArray, List.set_cons_zero, List.set_cons_succ, List.getElem_toArray, List.getElem_cons_succ, List.getElem_cons_zero]
      refine wpAnyH_take (i := 8) (v := .pointer (some ⟨q, 0, none⟩)) rfl (by kernel_rfl) (by kernel_rfl) (by kernel_rfl) (by first | exact fun _ _ _ h => h | exact fun _ _ _ h => nomatch h.1) (Or.inl ⟨by rfl, fun w_ hw_ => by go_simp⟩) HC3.out ?_
      refine wpAnyH_take (i := 9) (v := .slice (some ⟨b, o, none⟩) l.length cap) rfl (by kernel_rfl) (by kernel_rfl) (by kernel_rfl) (by first | exact fun _ _ _ h => h | exact fun _ _ _ h => nomatch h.1) (Or.inl ⟨by rfl, fun w_ hw_ => by go_simp⟩) HC3.out ?_
      refine wpAnyH_take (i := 10) (v := .int .i64 (k : Int)) rfl (by kernel_rfl) (by kernel_rfl) (by kernel_rfl) (by first | exact fun _ _ _ h => h | exact fun _ _ _ h => nomatch h.1) (Or.inl ⟨by rfl, fun w_ hw_ => by go_simp⟩) HC3.out ?_
      refine wpAnyH_take (i := 11) (v := .pointer (some ⟨b, o + k * 3, none⟩)) rfl (by kernel_rfl) (by kernel_rfl) (by kernel_rfl) (by first | exact fun _ _ _ h => h | exact fun _ _ _ h => nomatch h.1) (Or.inl ⟨by rfl, fun w_ hw_ => by go_simp⟩) HC3.out ?_
      try simp only [Act.put, List.setIfInBounds_toArray, List.set_cons_zero, List.set_cons_succ, List.getElem_toArray, List.getElem_cons_succ, List.getElem_cons_zero]
      refine wpAnyH_take (i := 12) (v := .pointer (some ⟨b, o + k * 3 + 1, none⟩)) rfl (by kernel_rfl) (by kernel_rfl) (by kernel_rfl) (by first | exact fun _ _ _ h => h | exact fun _ _ _ h => nomatch h.1) (Or.inl ⟨by rfl, fun w_ hw_ => by go_simp⟩) HC3.out ?_
      try simp only [Act.put, List.setIfInBounds_toArray, List.set_cons_zero, List.set_cons_succ, List.getElem_toArray, List.getElem_cons_succ, List.getElem_cons_zero]
      refine wpAnyH_take (i := 13) (v := .int .i64 (tm l k).conn) rfl (by kernel_rfl) (by kernel_rfl) (by kernel_rfl) (by first | exact fun _ _ _ h => h | exact fun _ _ _ h => nomatch h.1) (Or.inl ⟨by rfl, fun w_ hw_ => by have c := HCL.out w_ hw_ 1 _ rfl; go_simp⟩) HC3.out ?_
      try simp only [Act.put, List.setIfInBounds_toArray, List.set_cons_zero, List.set_cons_succ, List.getElem_toArray, List.getElem_cons_succ, List.getElem_cons_zero]
      refine wpAnyH_take (i := 14) (v := .slice (some ⟨b, o, none⟩) l.length cap) rfl (by kernel_rfl) (by kernel_rfl) (by kernel_rfl) (by first | exact fun _ _ _ h => h | exact fun _ _ _ h => nomatch h.1) (Or.inl ⟨by rfl, fun w_ hw_ => by go_simp⟩) HC3.out ?_
      refine wpAnyH_take (i := 15) (v := .int .i64 (k : Int)) rfl (by kernel_rfl) (by kernel_rfl) (by kernel_rfl) (by first | exact fun _ _ _ h => h | exact fun _ _ _ h => nomatch h.1) (Or.inl ⟨by rfl, fun w_ hw_ => by go_simp⟩) HC3.out ?_
      refine wpAnyH_take (i := 16) (v := .pointer (some ⟨b, o + k * 3, none⟩)) rfl (by kernel_rfl) (by kernel_rfl) (by kernel_rfl) (by first | exact fun _ _ _ h => h | exact fun _ _ _ h => nomatch h.1) (Or.inl ⟨by rfl, fun w_ hw_ => by go_simp⟩) HC3.out ?_
      try simp only [Act.put, List.setIfInBounds_toArray, List.set_cons_zero, List.set_cons_succ, List.getElem_toArray, List.getElem_cons_succ, List.getElem_cons_zero]
      refine wpAnyH_take (i := 17) (v := .pointer (some ⟨b, o + k * 3 + 2, none⟩)) rfl (by kernel_rfl) (by kernel_rfl) (by kernel_rfl) (by first | exact fun _ _ _ h => h | exact fun _ _ _ h => nomatch h.1) (Or.inl ⟨by rfl, fun w_ hw_ => by go_simp⟩) HC3.out ?_
      try simp only [Act.put, List.setIfInBounds_toArray, List.set_cons_zero, List.set_cons_succ, List.getElem_toArray, List.getElem_cons_succ, List.getElem_cons_zero]
      refine wpAnyH_take (i := 18) (v := .int .i64 (tm l k).kind) rfl (by kernel_rfl) (by kernel_rfl) (by kernel_rfl) (by first | exact fun _ _ _ h => h | exact fun _ _ _ h => nomatch h.1) (Or.inl ⟨by rfl, fun w_ hw_ => by have c := HCL.out w_ hw_ 2 _ rfl; go_simp⟩) HC3.out ?_
      try simp only [Act.put, List.setIfInBounds_toArray, List.set_cons_zero, List.set_cons_succ, List.getElem_toArray, List.getElem_cons_succ, List.getElem_cons_zero]
      refine wpAnyH_take (i := 20) (v := .slice (some ⟨b, o, none⟩) l.length cap) rfl (by kernel_rfl) (by kernel_rfl) (by kernel_rfl) (by first | exact fun _ _ _ h => h | exact fun _ _ _ h => nomatch h.1) (Or.inl ⟨by rfl, fun w_ hw_ => by go_simp⟩) HC3.out ?_
      refine wpAnyH_take (i := 21) (v := .int .i64 (k : Int)) rfl (by kernel_rfl) (by kernel_rfl) (by kernel_rfl) (by first | exact fun _ _ _ h => h | exact fun _ _ _ h => nomatch h.1) (Or.inl ⟨by rfl, fun w_ hw_ => by go_simp⟩) HC3.out ?_
      refine wpAnyH_take (i := 22) (v := .pointer (some ⟨b, o + k * 3, none⟩)) rfl (by kernel_rfl) (by kernel_rfl) (by kernel_rfl) (by first | exact fun _ _ _ h => h | exact fun _ _ _ h => nomatch h.1) (Or.inl ⟨by rfl, fun w_ hw_ => by go_simp⟩) HC3.out ?_
      try simp only [Act.put, List.setIfInBounds_toArray, List.set_cons_zero, List.set_cons_succ, List.getElem_toArray, List.getElem_cons_succ, List.getElem_cons_zero]
      refine wpAnyH_take (i := 23) (v := .pointer (some ⟨b, o + k * 3, none⟩)) rfl (by kernel_rfl) (by kernel_rfl) (by kernel_rfl) (by first | exact fun _ _ _ h => h | exact fun _ _ _ h => nomatch h.1) (Or.inl ⟨by rfl, fun w_ hw_ => by go_simp⟩) HC3.out ?_
      try simp only [Act.put, List.setIfInBounds_toArray, List.set_cons_zero, List.set_cons_succ, List.getElem_toArray, List.getElem_cons_succ, List.getElem_cons_zero]
      refine wpAnyH_take (i := 24) (v := .int .u64 ((tm l k).at_ : Int)) rfl (by kernel_rfl) (by kernel_rfl) (by kernel_rfl) (by first | exact fun _ _ _ h => h | exact fun _ _ _ h => nomatch h.1) (Or.inl ⟨by rfl, fun w_ hw_ => by have c := HCL.out w_ hw_ 0 _ rfl; rw [Nat.add_zero] at c; go_simp⟩) HC3.out ?_
      try simp only [Act.put, List.setIfInBounds_toArray, List.set_cons_zero, List.set_cons_succ, List.getElem_toArray, List.getElem_cons_succ, List.getElem_cons_zero]
      refine wpAnyH_ready (rs := [19]) (by kernel_rfl) (by simp) ?_
      refine AllReadyH.cons rfl (fun K hK => ?_) AllReadyH.nil
      rw [if_pos (by rfl)]
      try simp only [List.getElem_toArray, List.getElem_cons_succ, List.getElem_cons_zero]
      go_simp
      refine (HAT.out _ HQ3.out).mono ?_
      rintro e w4 ⟨rfl, hc⟩
      have HQ4 := Lib.hid (HQ3.out.quiet hc)
      have HC4 := Lib.hid (HC3.out.trans hc)
      clear hc
      refine hK.out _ _ (HC4.out) (fun _ => ?_)
      clear hK K
      try simp only [Act.put, List.setIfInBounds_toArray, List.set_cons_zero, List.set_cons_succ, List.getElem_toArray, List.getElem_cons_succ, List.getElem_cons_zero]
      refine wpAnyH_take (i := 25) (v := .bool false) rfl (by kernel_rfl) (by kernel_rfl) (by kernel_rfl) (by first | exact fun _ _ _ h => h | exact fun _ _ _ h => nomatch h.1) (Or.inl ⟨by rfl, fun w_ hw_ => by go_simp⟩) HC4.out ?_
      try simp only [Act.put, List.setIfInBounds_toArray, List.set_cons_zero, List.set_cons_succ, List.getElem_toArray, List.getElem_cons_succ, List.getElem_cons_zero]
      refine wpAnyH_take (i := 26) (v := .bool false) rfl (by kernel_rfl) (by kernel_rfl) (by kernel_rfl) (by first | exact fun _ _ _ h => h | exact fun _ _ _ h => nomatch h.1) (Or.inl ⟨by rfl, fun w_ hw_ => by go_simp⟩) HC4.out ?_
      try simp only [Act.put, List.setIfInBounds_toArray, List.set_cons_zero, List.set_cons_succ, List.getElem_toArray, List.getElem_cons_succ, List.getElem_cons_zero]
      refine wpAnyH_done (by kernel_rfl) ?_ _
      go_wp2
      go_roundw
      case rel => exact ⟨k + 1, _, by go_num, by omega, HQ4.out, HNX.out.1, HNX.out.2, HC4.out⟩
      case measure => simp [intOf]; omega
    · have hke : k = l.length := by omega
      subst hke
      have HAL : Hid (∀ x, atS x S = lastAt x l) := Lib.hid (fun x => by rw [hat x, List.take_length])
      clear hq hc hlt hk hat hS
      go_wp2
      go_loopw [5] (fun i wr => ∃ (k : Nat), i = .int .i64 (k : Int) ∧ k ≤ l.length ∧ QO wr q q S ∧ Chg none_ w wr) (fun i _ => l.length - (intOf i).toNat)
      case atStart => exact ⟨0, rfl, Nat.zero_le _, HQ.out, HC.out⟩
      case round =>
        clear HQ HC
        obtain ⟨k, rfl, hk, hq, hc⟩ := hrel
        have HQ := Lib.hid hq
        have HC := Lib.hid hc
        by_cases hlt : k < l.length
        · have k1 : (k : Int) < (l.length : Int) := by omega
          have k0 : 0 ≤ (k : Int) := by omega
          obtain ⟨b, o, rfl, hbl, _, hr⟩ := (HV.out wr hc).tmAt hlt
          have HCL : Hid (∀ w', Chg none_ w w' → ∀ k, k < l.length → w'.rangeAt b (o + k * 3) (tcell (tm l k))) := Lib.hid (fun w' hc' => by
            obtain ⟨b', o', hbo, _, _, hr3⟩ := (HV.out w' hc').tmAt hlt
            injection hbo with hbo
            injection hbo with hb1 ho1
            subst hb1 ho1
            exact hr3)
          have HT := Lib.hid (HO.out k hlt)
          have a0 := hr k hlt 0 _ rfl
          rw [Nat.add_zero] at a0
          have HL0 : Hid (lastAt (tm l k).key (l.take (k + 1)) = (tm l k).at_) := Lib.hid (by rw [HTK.out k hlt, lastAt_snoc, if_pos rfl])
          clear hq hc hr
          go_wp2
          clear a0
          go_loopw [6, 7] (fun v i wr => ∃ (j : Nat), i = .int .i64 (j : Int) ∧ k + 1 ≤ j ∧ j ≤ l.length ∧ v = .int .u64 ((lastAt (tm l k).key (l.take j) : Nat) : Int) ∧ QO wr q q S ∧ Chg none_ w wr) (fun _ i _ => l.length - (intOf i).toNat)
          case atStart => exact ⟨k + 1, by go_num, Nat.le_refl _, by omega, by rw [HL0.out], HQ.out, HC.out⟩
          case round =>
            clear HQ HC
            obtain ⟨j, rfl, hj1, hj2, rfl, hq, hc⟩ := hrel
            have HQ := Lib.hid hq
            have HC := Lib.hid hc
            by_cases hjl : j < l.length
            · have j1 : (j : Int) < (l.length : Int) := by omega
              have a0 := HCL.out _ hc j hjl 0 _ rfl
              rw [Nat.add_zero] at a0
              have a1 := HCL.out _ hc j hjl 1 _ rfl
              have a2 := HCL.out _ hc j hjl 2 _ rfl
              have b1 := HCL.out _ hc k hlt 1 _ rfl
              have b2 := HCL.out _ hc k hlt 2 _ rfl
              have HLJ : Hid (lastAt (tm l k).key (l.take (j + 1)) = if (tm l j).key = (tm l k).key then (tm l j).at_ else lastAt (tm l k).key (l.take j)) := Lib.hid (by rw [HTK.out j hjl, lastAt_snoc])
              generalize lastAt (tm l k).key (l.take j) = want at *
              clear hq hc HCL
              by_cases h1 : (tm l j).conn = (tm l k).conn
              · have c1 : ((tm l j).conn == (tm l k).conn) = true := by simpa using h1
                by_cases h2 : (tm l j).kind = (tm l k).kind
                · have c2 : ((tm l j).kind == (tm l k).kind) = true := by simpa using h2
                  have HE : Hid ((tm l j).at_ = lastAt (tm l k).key (l.take (j + 1))) := Lib.hid (by rw [HLJ.out, if_pos (by unfold Tm.key; rw [h1, h2])])
                  clear h1 h2 HLJ
                  go_wp2
                  go_quiet (fail)
                  go_wp2
                  go_roundw
                  case rel => exact ⟨j + 1, by go_num, by omega, by omega, by rw [HE.out], HQ.out.quiet ((Chg.refl _ _).drewN _), HC.out.drewN _⟩
                  case measure => simp [intOf]; omega
                · have c2 : ((tm l j).kind == (tm l k).kind) = false := by simpa using h2
                  have HE : Hid (want = lastAt (tm l k).key (l.take (j + 1))) := Lib.hid (by rw [HLJ.out, if_neg (fun e => h2 (congrArg Prod.snd e))])
                  clear h1 h2 HLJ
                  go_wp2
                  go_quiet (fail)
                  go_wp2
                  go_roundw
                  case rel => exact ⟨j + 1, by go_num, by omega, by omega, by rw [HE.out], HQ.out.quiet ((Chg.refl _ _).drewN _), HC.out.drewN _⟩
                  case measure => simp [intOf]; omega
              · have c1 : ((tm l j).conn == (tm l k).conn) = false := by simpa using h1
                have HE : Hid (want = lastAt (tm l k).key (l.take (j + 1))) := Lib.hid (by rw [HLJ.out, if_neg (fun e => h1 (congrArg Prod.fst e))])
                clear h1 HLJ
                go_wp2
                go_quiet (fail)
                go_wp2
                go_roundw
                case rel => exact ⟨j + 1, by go_num, by omega, by omega, by rw [HE.out], HQ.out.quiet ((Chg.refl _ _).drewN _), HC.out.drewN _⟩
                case measure => simp [intOf]; omega
            · have hje : j = l.length := by omega
              subst hje
              have a1 := HCL.out _ hc k hlt 1 _ rfl
              have a2 := HCL.out _ hc k hlt 2 _ rfl
              have HAT : Hid (∀ m, Calls Try.prog 17 #[.pointer (some ⟨q, 0, none⟩), .int .i64 (tm l k).conn, .int .i64 (tm l k).kind] (wr.drewN m) fun e w' => e = .returned (.int .u64 ((lastAt (tm l k).key (l.take l.length) : Nat) : Int)) ∧ w' = wr.drewN m) := Lib.hid (fun m => by
                obtain ⟨mp, hq1, _⟩ := HQ.out
                have := At_q q mp S (tm l k).key HT.out.k (wr.drewN m) (hq1.quiet ((Chg.refl _ _).drewN m))
                rw [HAL.out] at this
                rw [List.take_length]
                exact this)
              generalize lastAt (tm l k).key (l.take l.length) = want at *
              clear hq hc HCL hjl hj1 hj2
              go_wp2
              go_quiet ((go_at_call 17; exact Calls.quiet_of_same (HAT.out _)))
              go_wp2
              go_roundw
              case rel => exact ⟨k + 1, by go_num, by omega, HQ.out.quiet ((Chg.refl _ _).drewN _), HC.out.drewN _⟩
              case measure => simp [intOf]; omega
        · have n1 : ¬ ((k : Int) < (l.length : Int)) := by omega
          clear hq hc
          go_wp2
          go_ret
          exact ⟨rfl, HC.out⟩
end Go.Proofs.Ytblpgpolhibfgaa
