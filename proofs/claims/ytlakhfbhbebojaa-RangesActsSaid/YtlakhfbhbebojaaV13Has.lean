/- Layer 13 (ranges): Has. -/
import Derived.Test.YtlakhfbhbebojaaV13Read
namespace Go.Proofs.Ytlakhfbhbebojaa
open Go.RowKit Go.Shelf Go.Sort

set_option maxRecDepth 100000 in
set_option maxHeartbeats 1000000 in
theorem Has_any (g B y k n : Nat) (l : List (Nat × Nat)) (w : World) (h : SetG w B g l y k) (hk : k ≤ 100) :
    Calls Try.prog 10 #[.pointer (some ⟨g, 0, none⟩), .int .u64 (n : Int)] w fun e w' => e = .returned (.bool (hasL l n)) ∧ Chg none_ w w' := by
  have hlen := h.2.len
  have HF : Hid (∀ w1 pn, SetAt w1 B g l y → w1.cell? ⟨pn, 0, none⟩ = some (.int .u64 (n : Int)) → Calls Try.prog 21 #[.pointer (some ⟨g, 0, none⟩), .func (.func 25) #[] #[.pointer (some ⟨pn, 0, none⟩)]] w1 fun e w' => e = .returned (.int .i64 ((fst_ (loLe n) l : Nat) : Int)) ∧ Chg none_ w1 w') := Lib.hid (fun w1 pn h1 h2 =>
    first_any 25 #[.pointer (some ⟨pn, 0, none⟩)] (loLe n) l y B g w1 h1 (h.2.sep.loLe n) (by omega) (says_has n pn l w1 h2))
  have HH := Lib.hid h.1
  have HS : Hid (∀ w1, Chg none_ w w1 → ∃ A cap, w1.cell? ⟨g, 0, none⟩ = some (.slice A l.length cap) ∧ ∀ p, p < l.length → ∃ b o, A = some ⟨b, o, none⟩ ∧ w1.cell? ⟨b, o + p * 2 + 1, none⟩ = some (.int .u64 ((rg l p).2 : Int))) := Lib.hid (fun w1 hc => by
    obtain ⟨A, cap, hr, _, _, hv, _⟩ := h.1.quiet hc
    refine ⟨A, cap, hr.cell 0, fun p hp => ?_⟩
    obtain ⟨b, o, e, _, _, hk⟩ := hv.rAt hp
    exact ⟨b, o, e, hk p hp 1 _ rfl⟩)
  have hle := fst_le (loLe n) l
  have HV : Hid (hasL l n = if fst_ (loLe n) l < l.length then decide (n ≤ (rg l (fst_ (loLe n) l)).2) else false) := Lib.hid (by
    unfold hasL rg
    split
    · rename_i r hr
      obtain ⟨hlt, _⟩ := List.getElem?_eq_some_iff.1 hr
      rw [if_pos hlt, List.getD_eq_getElem?_getD, hr]
      rfl
    · rename_i hr
      rw [List.getElem?_eq_none_iff] at hr
      rw [if_neg (by omega)])
  have hgw := h.1.lt
  clear h
  generalize fst_ (loLe n) l = p at *
  generalize hasL l n = hv at *
  go_enter Try.func10, Try.ntmps10
  go_wp2_with (go_at_call 21; refine (HF.out _ _ (HH.out.quiet ((Chg.refl none_ w).alloc _)) (by go_simp)).mono ?_; rintro e w9 ⟨rfl, hc⟩; have HC := Lib.hid (((Chg.refl none_ w).alloc _).trans hc); have hn9 := (hc.cell 0 (by show w.heap.size < (w.alloc _).heap.size; simp) (fun h => h)).trans (cell_new_sl w (.int .u64 (n : Int)) 26); clear hc)
  clear HF HH
  obtain ⟨A, cap, c0, hA⟩ := HS.out w9 HC.out
  by_cases hp : p < l.length
  · obtain ⟨b, o, rfl, c1⟩ := hA p hp
    have HD : Hid (hv = decide (n ≤ (rg l p).2)) := Lib.hid (HV.out.trans (if_pos hp))
    have d1 : (p : Int) < (l.length : Int) := by omega
    have d2 : decide ((p : Int) < (l.length : Int)) = true := by simpa using d1
    have d3 : 0 ≤ (p : Int) := by omega
    clear hA HS HV
    go_region
    all_goals go_wp2
    all_goals go_ret
    all_goals exact ⟨ret_bool (by rw [HD.out]), HC.out.drew⟩
  · have HD : Hid (hv = false) := Lib.hid (HV.out.trans (if_neg hp))
    have d1 : ¬ (p : Int) < (l.length : Int) := by omega
    have d2 : decide ((p : Int) < (l.length : Int)) = false := by simpa using d1
    clear hA HS HV
    go_region
    all_goals go_wp2
    all_goals go_ret
    all_goals exact ⟨ret_bool (by rw [HD.out]), HC.out.drew⟩
end Go.Proofs.Ytlakhfbhbebojaa
