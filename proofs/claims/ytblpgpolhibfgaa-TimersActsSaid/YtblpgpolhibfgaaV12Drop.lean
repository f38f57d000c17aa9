/- Layer 12 (timers): a connection's timers go: Drop. -/
import Derived.Test.YtblpgpolhibfgaaV12List
namespace Go.Proofs.Ytblpgpolhibfgaa
open Go.RowKit

/-- Of the timers, those that are left when these kinds of a connection are gone. -/
def leftK (c : Int) (ks : List Int) (S : List Tm) : List Tm := S.filter fun t => decide (¬ (t.conn = c ∧ t.kind ∈ ks))
theorem leftK_nil (c : Int) (S : List Tm) : leftK c [] S = S := by
  unfold leftK
  rw [List.filter_eq_self]
  simp
theorem leftK_snoc (c : Int) (ks : List Int) (k : Int) (S : List Tm) : remS (c, k) (leftK c ks S) = leftK c (ks ++ [k]) S := by
  unfold remS leftK
  rw [List.filter_filter]
  apply List.filter_congr
  intro t _
  unfold Tm.key
  by_cases h1 : t.conn = c <;> by_cases h2 : t.kind = k <;> by_cases h3 : t.kind ∈ ks <;> simp [h1, h2, h3]
theorem leftK_all (c : Int) (L S : List Tm) (hp : L.Perm S) : leftK c (kindsL c L) S = dropS c S := by
  unfold leftK dropS
  apply List.filter_congr
  intro t ht
  have hm : t ∈ L := hp.mem_iff.2 ht
  by_cases h1 : t.conn = c
  · have : t.kind ∈ kindsL c L := by
      unfold kindsL
      exact List.mem_map.2 ⟨t, List.mem_filter.2 ⟨hm, by simpa using h1⟩, rfl⟩
    simp [h1, this]
  · simp [h1]
theorem kinds_count (c : Int) (L S : List Tm) (hp : L.Perm S) : (kindsL c L).length = S.length - (dropS c S).length ∧ (dropS c S).length ≤ S.length := by
  have h1 : (kindsL c L).length = (S.filter fun t => decide (t.conn = c)).length := by
    unfold kindsL
    rw [List.length_map]
    exact (hp.filter _).length_eq
  have h2 : (S.filter fun t => decide (t.conn = c)).length + (dropS c S).length = S.length := by
    clear h1 hp
    unfold dropS
    induction S with
    | nil => rfl
    | cons a S ih =>
      rw [List.filter_cons, List.filter_cons]
      by_cases h : a.conn = c
      · simp only [h, decide_true, if_true, ne_eq, not_true_eq_false, decide_false, Bool.false_eq_true, if_false, List.length_cons]
        simp only [ne_eq] at ih
        omega
      · simp only [h, decide_false, Bool.false_eq_true, if_false, ne_eq, not_false_eq_true, decide_true, if_true, List.length_cons]
        simp only [ne_eq] at ih
        omega
  omega

set_option maxRecDepth 100000 in
set_option maxHeartbeats 4000000 in
theorem Drop_any (q : Nat) (mp : Option Nat) (S : List Tm) (c : Int) (hc : (Lit.int .i64 c).wf = true) (w : World) (h : QIs w q mp S) :
    Calls Try.prog 13 #[.pointer (some ⟨q, 0, none⟩), .int .i64 c] w fun e w' => e = .returned (.int .i64 ((S.length - (dropS c S).length : Nat) : Int)) ∧ QIs w' q mp (dropS c S) ∧ Chg (QB q mp) w w' := by
  have HH := Lib.hid h
  obtain ⟨F, n, M, h⟩ := h
  have HK := Lib.hid (kinds_any q n mp F c w h.qm h.le)
  have HLT := Lib.hid (fun b hb => HH.out.lt b hb)
  have HAL := Lib.hid (leftK_all c (F.take n) S h.perm)
  have HCN := Lib.hid (kinds_count c (F.take n) S h.perm).1
  have HWK : Hid (∀ k ∈ kindsL c (F.take n), KOk (c, k)) := Lib.hid (fun k hk => by
    unfold kindsL at hk
    obtain ⟨t, ht, rfl⟩ := List.mem_map.1 hk
    have := (h.qm.ok t (List.mem_of_mem_take (List.mem_filter.1 ht).1)).k
    exact ⟨hc, this.2⟩)
  have HL2 : Hid ((kindsL c (F.take n)).length ≤ 200) := Lib.hid (by
    have := kindsL_len c (F.take n)
    rw [List.length_take, h.qm.len] at this
    omega)
  have HCA := Lib.hid (fun k S w hk (h : QIs w q mp S) => Cancel_any q mp S (c, k) hk w h)
  clear h hc
  generalize kindsL c (F.take n) = ks at *
  go_enter Try.func13, Try.ntmps13
  go_wp2_with (go_at_call 30; refine HK.out.mono ?_; rintro e w1 ⟨v1, rfl, ho1, hc1⟩; obtain ⟨A, cap, rfl, _, _, hv1⟩ := ho1.view; have HV1 := Lib.hid hv1; have HC1 := Lib.hid hc1; clear ho1 hc1 hv1)
  go_loopw [13] (fun i wr => ∃ j : Nat, j ≤ ks.length ∧ i = .int .i64 (j : Int) ∧ QIs wr q mp (leftK c (ks.take j) S) ∧ View wr (fun b => w.heap.size ≤ b) A ks.length (ints .i64 ks) ∧ Chg (QB q mp) w wr) (fun i _ => ks.length - (intOf i).toNat)
  case atStart => exact ⟨0, Nat.zero_le _, rfl, by rw [take_zero', leftK_nil]; exact HH.out.quiet HC1.out, HV1.out, HC1.out.mono (fun _ _ h => h.elim)⟩
  case round =>
    obtain ⟨j, hj, rfl, hq, hv, hch⟩ := hrel
    have HQ := Lib.hid hq
    have HV := Lib.hid hv
    have HC := Lib.hid hch
    by_cases hlt : j < ks.length
    · have k1 : (j : Int) < (ks.length : Int) := by omega
      have hl2 := HL2.out
      obtain ⟨b, o, rfl, hb, hbT, hcell⟩ := hv.2 (by omega)
      have g1 : wr.cell? ⟨b, o + j, none⟩ = some (.int .i64 (ks[j])) := by rw [hcell j hlt]; simp [ints, hlt]
      have HTJ : Hid (remS (c, ks[j]) (leftK c (ks.take j) S) = leftK c (ks.take (j + 1)) S) := Lib.hid (by rw [leftK_snoc, List.take_add_one, List.getElem?_eq_getElem hlt]; rfl)
      have HKJ := Lib.hid (HWK.out ks[j] (List.getElem_mem hlt))
      generalize ks[j] = kj at *
      clear hq hv hch hcell
      go_wp2_with (go_at_call 12; refine (HCA.out kj _ _ HKJ.out HQ.out).mono ?_; rintro e w2 ⟨rfl, hq2, hc2⟩; have HQ2 := Lib.hid hq2; have HC2 := Lib.hid (HC.out.trans hc2); have HV2 := Lib.hid (HV.out.chg hc2 (fun b hb hs => by have := HLT.out b hs; omega)); clear hq2 hc2)
      go_roundw
      case rel => exact ⟨j + 1, by omega, by go_num, by rw [← HTJ.out]; exact HQ2.out, HV2.out, HC2.out⟩
      case measure => simp [intOf]; omega
    · have hje : j = ks.length := by omega
      subst hje
      have HE : Hid (leftK c (ks.take ks.length) S = dropS c S) := Lib.hid (by rw [List.take_length]; exact HAL.out)
      clear hq hv hch hlt hj
      go_wp2
      go_ret
      refine ⟨by rw [← HCN.out]; rfl, by rw [← HE.out]; exact HQ.out, HC.out⟩
theorem Drop_nil (c : Int) (w : World) : Calls Try.prog 13 #[.pointer none, .int .i64 c] w fun e w' => e = .returned (.int .i64 0) ∧ Chg none_ w w' := by
  go_enter Try.func13, Try.ntmps13
  go_wp2_with (go_at_call 30; refine (kinds_nil _ _).mono ?_; rintro e w1 ⟨rfl, hc1⟩; have HC1 := Lib.hid hc1; clear hc1)
  refine wp_loop_rounds 1 ?_
  rw [rounds_succ]
  go_wp2
  go_ret
  exact ⟨rfl, HC1.out⟩
end Go.Proofs.Ytblpgpolhibfgaa
