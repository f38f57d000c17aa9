/- Layer 11 (ticks): whatever is taken of every bucket is the document's all along, walked. -/
import Derived.Test.YtiflcanfjmmdjaaV11Slow
namespace Go.Proofs.Ytiflcanfjmmdjaa
open Go.RowKit

/-- Words as values. -/
def w64s (l : List Nat) : List Value := l.map fun (x : Nat) => Value.int .u64 (x : Int)
theorem row_w64 {w : World} {a : Option Addr} {len cap : Nat} {zs : List Int} (h : IsRow .u64 w a len cap zs) :
    ∃ xs : List Nat, xs.length = len ∧ (∀ x ∈ xs, x < 18446744073709551616) ∧ View w (fun _ => True) a xs.length (w64s xs) := by
  obtain ⟨xs, h1, _, _, h4, h5⟩ := h.view
  have hw : ∀ x ∈ xs, 0 ≤ x ∧ x ≤ 18446744073709551615 := fun x hx => by
    have := h4 x hx
    rw [show (Lit.int .u64 x).wf = (decide (0 ≤ x) && decide (x ≤ 18446744073709551615)) from rfl] at this
    simpa using this
  refine ⟨xs.map Int.toNat, by simpa using h1, ?_, ?_⟩
  · intro x hx
    obtain ⟨y, hy, rfl⟩ := List.mem_map.1 hx
    have := hw y hy
    omega
  · have e : w64s (xs.map Int.toNat) = ints .u64 xs := by
      simp only [w64s, ints, List.map_map]
      apply List.map_congr_left
      intro x hx
      have := hw x hx
      simp only [Function.comp_apply]
      rw [Int.toNat_of_nonneg this.1]
    rw [e, List.length_map]
    exact h5
theorem w64_at {w : World} {T : Nat → Prop} {A : Option Addr} {n i : Nat} {l : List Nat} (h : View w T A n (w64s l)) (hi : i < n) :
    ∃ b o, A = some ⟨b, o, none⟩ ∧ b < w.heap.size ∧ w.cell? ⟨b, o + i, none⟩ = some (.int .u64 ((l.getD i 0 : Nat) : Int)) := by
  obtain ⟨b, o, ha, hb, _, hc⟩ := h.2 (by omega)
  have hl : i < l.length := by have := h.1; simp [w64s] at this; omega
  exact ⟨b, o, ha, hb, by rw [hc i hi]; simp [w64s, hl, List.getD]⟩
theorem w64_lt {l : List Nat} (hl : ∀ x ∈ l, x < 18446744073709551616) (k : Nat) : l.getD k 0 < 18446744073709551616 := by
  rw [List.getD_eq_getElem?_getD]
  cases h : l[k]? with
  | none => simp
  | some v => exact hl v (List.mem_of_getElem? h)
theorem zeroRb : (Try.prog.info? 34).map (·.zero) = some (some (.agg (bk 0 0 0 0).toArray)) := by kernel_rfl

set_option maxRecDepth 100000 in
set_option maxHeartbeats 4000000 in
theorem buckets_long (S E : Nat) (n : Nat) (A : Option Addr) (cap : Nat) (w : World) (h : 100 < n) :
    Calls Try.prog 4 #[.int .u64 (S : Int), .int .u64 (E : Int), .slice A n cap] w fun e w' => e = .returned (.bool true) ∧ Chg none_ w w' := by
  have h2 : (100 : Int) < (n : Int) := by omega
  go_enter Try.func4, Try.ntmps4
  go_wp2_with ((go_at_call 10; refine (alive_any _).mono ?_; rintro e w9 ⟨rfl, hc⟩; have HC := Lib.hid hc; clear hc))
  go_ret
  exact ⟨rfl, HC.out⟩

set_option maxRecDepth 100000 in
set_option maxHeartbeats 4000000 in
theorem buckets_nil (S : Nat) (n : Nat) (A : Option Addr) (cap : Nat) (w : World) (h : n ≤ 100) :
    Calls Try.prog 4 #[.int .u64 (S : Int), .int .u64 0, .slice A n cap] w fun e w' => e = .returned (.bool true) ∧ Chg none_ w w' := by
  have h2 : ¬ (100 : Int) < (n : Int) := by omega
  have HN0 := Lib.hid (fun w => new_nil S w)
  have HT : Hid (∀ w, Calls Try.prog 21 #[.pointer none, .int .u64 5] w fun e w' => e = .returned (.bool false) ∧ w' = w) := Lib.hid (fun w => take_nil 5 w)
  have HL : Hid (∀ w, Calls Try.prog 22 #[.pointer none, .int .u64 5] w fun e w' => e = .returned (.int .u64 0) ∧ w' = w) := Lib.hid (fun w => left_nil 5 w)
  go_enter Try.func4, Try.ntmps4
  go_wp2_with (first | (go_at_call 10; refine (alive_any _).mono ?_; rintro e w9 ⟨rfl, hc⟩; have HC := Lib.hid hc; clear hc) | (go_at_call 20; refine (HN0.out _).mono ?_; rintro e w8 ⟨rfl, rfl⟩) | (go_at_call 21; refine (HT.out _).mono ?_; rintro e w8 ⟨rfl, rfl⟩) | (go_at_call 22; refine (HL.out _).mono ?_; rintro e w8 ⟨rfl, rfl⟩))
  go_ret
  exact ⟨rfl, HC.out⟩

set_option maxRecDepth 100000 in
set_option maxHeartbeats 4000000 in
theorem buckets_walk (S E : Nat) (l : List Nat) (A : Option Addr) (cap : Nat) (w : World) (hS : S < 18446744073709551616) (hE0 : 0 < E) (hE : E < 18446744073709551616) (hl : l.length ≤ 100) (hb : ∀ x ∈ l, x < 18446744073709551616) (hv : View w (fun _ => True) A l.length (w64s l)) :
    Calls Try.prog 4 #[.int .u64 (S : Int), .int .u64 (E : Int), .slice A l.length cap] w fun e w' => e = .returned (.bool true) ∧ Chg none_ w w' := by
  have HN := Lib.hid (fun w => new_any S E hE0 w)
  have HB := Lib.hid hb
  have HV := Lib.hid hv
  have h2 : ¬ (100 : Int) < (l.length : Int) := by omega
  have hE2 : ((E : Int) == 0) = false := by rw [beq_eq_false_iff_ne]; omega
  have HOK : Hid (BkOk S E S 0) := Lib.hid ⟨hS, hE0, hE, Nat.le_refl _, by omega⟩
  clear hb hv
  go_enter Try.func4, Try.ntmps4
  go_wp2_with (first | (go_at_call 10; refine (alive_any _).mono ?_; rintro e w9 ⟨rfl, hc⟩; have HC := Lib.hid hc; clear hc) | (go_at_call 20; refine (HN.out _).mono ?_; rintro e w1 ⟨rfl, hr, hc, hs⟩; have HR := Lib.hid hr; have HC1 := Lib.hid (HC.out.trans hc); have HG := Lib.hid HC.out.size; have HG2 := Lib.hid hs; clear hr hc hs))
  have hs1 : w1.heap.size = w9.heap.size + 1 := HG2.out
  obtain ⟨wL, hwL⟩ : ∃ x, x = w1.alloc (.cells (bk S E S 0).toArray 34) := ⟨_, rfl⟩
  have HR2 : Hid (Row wL w1.heap.size 34 (bk S E S 0)) := Lib.hid (by rw [hwL]; exact Row.newAt w1 34 (bk S E S 0) w1.heap.size rfl)
  have hca : Chg none_ w1 wL := by rw [hwL]; exact (Chg.refl none_ w1).alloc _
  have HR1 : Hid (Row wL w9.heap.size 51 (bk S E S 0)) := Lib.hid (HR.out.chg hca (fun h => h))
  have HC2 : Hid (Chg none_ w wL) := Lib.hid (HC1.out.trans hca)
  rw [show w1.alloc (.cells #[.int .u64 (S : Int), .int .u64 (E : Int), .int .u64 (S : Int), .int .u64 0] 34) = wL from hwL.symm]
  clear hwL hca
  obtain ⟨g, hg⟩ : ∃ g, g = w9.heap.size := ⟨_, rfl⟩
  obtain ⟨g2, hg2⟩ : ∃ g, g = w1.heap.size := ⟨_, rfl⟩
  rw [← hg] at HR1 HG hs1 ⊢
  rw [← hg2] at HR2 hs1 ⊢
  have HNE : Hid (g2 = g + 1) := Lib.hid hs1
  clear hg hg2 hs1 HR HG2
  go_loopw [9] (fun i wr => ∃ k t u : Nat, k ≤ l.length ∧ i = .int .i64 (k : Int) ∧ Hid (BkOk S E t u) ∧ Hid (Row wr g 51 (bk S E t u)) ∧ Hid (Row wr g2 34 (bk S E t u)) ∧ Hid (Chg none_ w wr)) (fun i _ => l.length - (intOf i).toNat)
  case atStart => exact ⟨0, S, 0, by omega, rfl, HOK, HR1, HR2, HC2⟩
  case round =>
    obtain ⟨k, t, u, hk, rfl, HOKk, HRb, HRr, HCk⟩ := hrel
    by_cases hlt : k < l.length
    · obtain ⟨b, o, rfl, hbl, c0⟩ := w64_at HV.out hlt
      have c1 := (HCk.out.cell (o + k) hbl (fun h => h)).trans c0
      have hbr := Lib.hid (Nat.lt_of_lt_of_le hbl HCk.out.size)
      have hbw := Lib.hid hbl
      have hx := w64_lt HB.out k
      generalize l.getD k 0 = x at c0 c1 hx
      have HBY := Lib.hid (fun (g : Nat) w hr => by_any g S E t u x HOKk.out hx w hr)
      have HLF := Lib.hid (fun w hr => left_any g S E t u x HOKk.out hx w hr)
      have HTK := Lib.hid (fun w hr => take_any g S E t u x HOKk.out hx w hr)
      have HRT := Lib.hid (fun w hr => rtake_any g2 S E t u x HOKk.out hx w hr)
      have HAB := at_bound S E t u x HOKk.out hx
      generalize (atN S E t u x).1 = t' at *
      generalize (atN S E t u x).2 = u' at *
      have HOK' : Hid (BkOk S E (takeN t') u') := Lib.hid ⟨HAB.s, HAB.e0, HAB.e, by have := HAB.t; unfold takeN; omega, HAB.u⟩
      clear c0 HAB hbl
      go_wp2_with (first | ((with_reducible show wpList _ _ _ (⟨_, .load 34 _, _, _, _, _⟩ :: _) _ _); refine wpList_load_Row rfl rfl rfl HRr.out Try.underlying34 rfl sizeRb ?_) | ((with_reducible show wpList _ _ _ (⟨_, .alloc 34, _, _, _, _⟩ :: _) _ _); refine wpList_alloc_Row rfl rfl (bk 0 0 0 0) zeroRb ?_; intro wA hrA hcA hsA; have HRA := Lib.hid hrA; have HCA := Lib.hid hcA; have HSA := Lib.hid hsA; clear hrA hcA hsA) | ((with_reducible show wpList _ _ _ (⟨_, .store 34 _ _, _, _, _, _⟩ :: _) _ _); refine wpList_store_Row (xs := bk S E t u) rfl rfl rfl HRA.out rfl rfl sizeRb rfl ?_; intro wB hrB hcsB hsB; have HRB := Lib.hid hrB; have HCB := Lib.hid (hcsB none_ wr HCA.out (fun h => absurd h (Nat.lt_irrefl _))); have fB := (HCB.out.cell (o + k) hbr.out (fun h => h)).trans c1; clear hrB hcsB hsB) | (go_at_call 23; refine (HBY.out _ _ HRB.out).mono ?_; rintro e wC ⟨rfl, hrC, hcC⟩; have HRC := Lib.hid hrC; have HCC := Lib.hid (HCB.out.past hcC (Nat.le_refl _)); clear hrC hcC))
      have hbg : b < g := Nat.lt_of_lt_of_le hbw.out HG.out
      have hgr : g2 < wr.heap.size := HRr.out.lt
      have HNG : Hid (¬ g2 = g) := Lib.hid (by have := HNE.out; omega)
      have HRg := Lib.hid (HRb.out.chg HCC.out (fun h => h))
      have HRr2 := Lib.hid (HRr.out.chg HCC.out (fun h => h))
      have hlC : wr.heap.size < wC.heap.size := HRC.out.lt
      have HK : Hid (∀ w', Chg (fun y => y = g ∨ y = g2) wC w' → w'.cell? ⟨b, o + k, none⟩ = some (.int .u64 (x : Int)) ∧ w'.cell? ⟨wr.heap.size, 2, none⟩ = some (.int .u64 (t' : Int))) := Lib.hid (fun w' hw => by
        have h1 := HNE.out
        exact ⟨(hw.cell (o + k) (by omega) (by omega)).trans ((HCC.out.cell (o + k) hbr.out (fun h => h)).trans c1), (hw.cell 2 hlC (by omega)).trans HRC.out.bk2⟩)
      obtain ⟨fC1, fC2⟩ := HK.out wC (Chg.refl _ _)
      have HD : Hid (Chg (fun y => y = g ∨ y = g2) wC wC.drew) := Lib.hid (Chg.refl _ _).drew
      clear c1 fB
      go_region_held3 (fun w' => w'.cell? ⟨b, o + k, none⟩ = some (.int .u64 (x : Int)) ∧ w'.cell? ⟨wr.heap.size, 2, none⟩ = some (.int .u64 (t' : Int))) (first | exact HK.out _ (HD.out.trans hl1.s) | exact HK.out _ ((HD.out.trans hl1.s).trans (ht2.mono (fun _ _ h => Or.inl h))) | exact HK.out _ (((HD.out.trans hl1.s).trans (ht2.mono (fun _ _ h => Or.inl h))).trans (ht3.mono (fun _ _ h => Or.inr h))) | go_keep) (first | (go_at_call 22; refine (HLF.out _ HRg.out.drew).mono ?_; rintro e v1 ⟨rfl, hl1⟩) | (go_at_call 21; refine (HTK.out _ (HRg.out.drew.chg hl1 (fun h => h))).mono ?_; rintro e v2 ⟨rfl, hr2, ht2⟩) | (go_at_call 24; refine (HRT.out _ ((HRr2.out.drew.chg hl1 (fun h => h)).chg ht2 HNG.out)).mono ?_; rintro e v3 ⟨rfl, hr3, ht3⟩))
      have HF1 : Hid (Row v3 g 51 (bk S E (takeN t') u')) := Lib.hid (hr2.chg ht3 (fun h => by have := HNE.out; omega))
      have HF2 := Lib.hid hr3
      have HF3 : Hid (Chg none_ w v3) := Lib.hid ((HCk.out.trans HCC.out).andThen (((HD.out.trans hl1.s).trans (ht2.mono (fun _ _ h => Or.inl h))).trans (ht3.mono (fun _ _ h => Or.inr h))) (fun y hy h => by have h1 := HNE.out; have h2 := HG.out; omega))
      clear hr2 hr3 hl1 ht2 ht3
      go_wp2
      go_roundw
      case rel => exact ⟨k + 1, takeN t', u', by omega, by go_num, HOK', HF1, HF2, HF3⟩
      case measure => simp [intOf]; omega
    · have hkl : k = l.length := by omega
      clear hlt hk
      subst hkl
      go_wp2
      go_ret
      exact ⟨rfl, HCk.out⟩

theorem walk_TicksBuckets (s0 e0 : Int) (a : Option Addr) (len cap : Nat) (zs : List Int) (w : World) (hs : (Lit.int .u64 s0).wf = true) (he : (Lit.int .u64 e0).wf = true) (h : IsRow .u64 w a len cap zs) :
    Calls Try.prog 4 #[.int .u64 s0, .int .u64 e0, .slice a len cap] w fun e w' => e = .returned (.bool true) ∧ Chg none_ w w' := by
  obtain ⟨S, rfl⟩ := nat_of_wf hs rfl
  obtain ⟨E, rfl⟩ := nat_of_wf he rfl
  have hS := u64_of_wf hs
  have hE := u64_of_wf he
  obtain ⟨l, rfl, hb, hv⟩ := row_w64 h
  by_cases hc : 100 < l.length
  · exact buckets_long S E l.length a cap w hc
  by_cases hz : E = 0
  · subst hz
    exact buckets_nil S l.length a cap w (by omega)
  · exact buckets_walk S E l a cap w hS (by omega) hE (by omega) hb hv
end Go.Proofs.Ytiflcanfjmmdjaa
