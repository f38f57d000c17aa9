/- Layer 12 (timers): the document's queue: what only reads, and Due. -/
import Derived.Test.YtblpgpolhibfgaaV12RSame
import Derived.Test.YtblpgpolhibfgaaV12Last
import Derived.Test.YtblpgpolhibfgaaStr
namespace Go.Proofs.Ytblpgpolhibfgaa
open Go.RowKit

/-- The document's queue of these timers: its cell, and where they lie. -/
def RQ (w : World) (T : Nat → Prop) (r : Nat) (S : List Tm) : Prop := ∃ A cap, Row w r 40 [.slice A S.length cap] ∧ S.length ≤ cap ∧ cap ≤ maxLen ∧ View w T A (S.length * 3) (tcells S)
theorem RQ.chg {w w' : World} {T C : Nat → Prop} {r : Nat} {S : List Tm} (h : RQ w T r S) (hc : Chg C w w') (h1 : ¬ C r) (h2 : ∀ b, T b → ¬ C b) : RQ w' T r S := by
  obtain ⟨A, cap, k1, k2, k3, k4⟩ := h
  exact ⟨A, cap, k1.chg hc h1, k2, k3, k4.chg hc h2⟩
theorem RQ.quiet {w w' : World} {T : Nat → Prop} {r : Nat} {S : List Tm} (h : RQ w T r S) (hc : Chg none_ w w') : RQ w' T r S := h.chg hc (fun h => h) (fun _ _ h => h)
theorem RQ.mono {w : World} {T T' : Nat → Prop} {r : Nat} {S : List Tm} (h : RQ w T r S) (hT : ∀ b, b < w.heap.size → T b → T' b) : RQ w T' r S := by
  obtain ⟨A, cap, k1, k2, k3, k4⟩ := h
  exact ⟨A, cap, k1, k2, k3, k4.mono hT⟩
theorem RQ.lt {w : World} {T : Nat → Prop} {r : Nat} {S : List Tm} (h : RQ w T r S) : r < w.heap.size := by
  obtain ⟨A, cap, k1, _⟩ := h
  exact k1.lt

theorem find_at {k : Int × Int} : ∀ {S : List Tm} {i : Nat}, i < S.length → (tm S i).key = k → (∀ j, j < i → (tm S j).key ≠ k) → findS k S = some (tm S i)
  | [], _, h, _, _ => by cases h
  | a :: S, 0, _, h1, _ => by
    unfold findS
    rw [List.find?_cons_of_pos (by simpa [tm] using h1)]
    rfl
  | a :: S, i + 1, h, h1, h2 => by
    have h0 : a.key ≠ k := h2 0 (by omega)
    have := find_at (S := S) (i := i) (by simpa using h) h1 (fun j hj => h2 (j + 1) (by omega))
    unfold findS at this ⊢
    rw [List.find?_cons_of_neg (by simpa using h0)]
    exact this
theorem find_out {k : Int × Int} {S : List Tm} (h : ∀ j, j < S.length → (tm S j).key ≠ k) : findS k S = none := find_none (fun x hx => by
  obtain ⟨i, hi, e⟩ := List.mem_iff_getElem.1 hx
  have := h i hi
  unfold tm at this
  rw [List.getD_eq_getElem?_getD, List.getElem?_eq_getElem hi] at this
  rw [← e]
  exact this)

set_option maxRecDepth 100000 in
set_option maxHeartbeats 1000000 in
theorem ahead_any (a b : Tm) (w : World) : Calls Try.prog 34 #[.agg (tcell a).toArray, .agg (tcell b).toArray] w fun e w' => e = .returned (.bool (decide (Ah a b))) ∧ Chg none_ w w' := by
  by_cases h1 : a.at_ = b.at_
  · have c1 : ((a.at_ : Int) == (b.at_ : Int)) = true := by rw [beq_iff_eq]; omega
    by_cases h2 : a.conn = b.conn
    · have c2 : (a.conn == b.conn) = true := by simpa using h2
      have HD : Hid (decide (a.kind < b.kind) = decide (Ah a b)) := Lib.hid (decide_eq_decide.2 (by unfold Ah; omega))
      clear h1 h2
      go_enter Try.func34, Try.ntmps34
      go_wp2_with (first | ((with_reducible show wpList _ _ _ (⟨some 2, .box _ _, _, _, _, _⟩ :: _) _ _); refine wpList_box_Row rfl rfl (tcell a) rfl ?_; intro w1 hr1 hc1 hs1; have HR1 := Lib.hid hr1; have HC1 := Lib.hid hc1; clear hr1 hc1 hs1) | ((with_reducible show wpList _ _ _ (⟨some 3, .box _ _, _, _, _, _⟩ :: _) _ _); refine wpList_box_Row rfl rfl (tcell b) rfl ?_; intro w2 hr2 hc2 hs2; have x0 := (HR1.out.chg hc2 (fun h => h)).cell 0; have x1 := (HR1.out.chg hc2 (fun h => h)).cell 1; have x2 := (HR1.out.chg hc2 (fun h => h)).cell 2; have y0 := hr2.cell 0; have y1 := hr2.cell 1; have y2 := hr2.cell 2; simp only [tcell, List.getElem?_cons_zero, List.getElem?_cons_succ] at x0 x1 x2 y0 y1 y2; have HC2 := Lib.hid (HC1.out.trans hc2); clear hr2 hc2 hs2))
      go_ret
      exact ⟨ret_bool HD.out, HC2.out⟩
    · have c2 : (a.conn == b.conn) = false := by simpa using h2
      have HD : Hid (decide (a.conn < b.conn) = decide (Ah a b)) := Lib.hid (decide_eq_decide.2 (by unfold Ah; omega))
      clear h1 h2
      go_enter Try.func34, Try.ntmps34
      go_wp2_with (first | ((with_reducible show wpList _ _ _ (⟨some 2, .box _ _, _, _, _, _⟩ :: _) _ _); refine wpList_box_Row rfl rfl (tcell a) rfl ?_; intro w1 hr1 hc1 hs1; have HR1 := Lib.hid hr1; have HC1 := Lib.hid hc1; clear hr1 hc1 hs1) | ((with_reducible show wpList _ _ _ (⟨some 3, .box _ _, _, _, _, _⟩ :: _) _ _); refine wpList_box_Row rfl rfl (tcell b) rfl ?_; intro w2 hr2 hc2 hs2; have x0 := (HR1.out.chg hc2 (fun h => h)).cell 0; have x1 := (HR1.out.chg hc2 (fun h => h)).cell 1; have x2 := (HR1.out.chg hc2 (fun h => h)).cell 2; have y0 := hr2.cell 0; have y1 := hr2.cell 1; have y2 := hr2.cell 2; simp only [tcell, List.getElem?_cons_zero, List.getElem?_cons_succ] at x0 x1 x2 y0 y1 y2; have HC2 := Lib.hid (HC1.out.trans hc2); clear hr2 hc2 hs2))
      go_ret
      exact ⟨ret_bool HD.out, HC2.out⟩
  · have c1 : ((a.at_ : Int) == (b.at_ : Int)) = false := by rw [beq_eq_false_iff_ne]; omega
    have HD : Hid (decide (a.at_ < b.at_) = decide (Ah a b)) := Lib.hid (decide_eq_decide.2 (by unfold Ah; omega))
    clear h1
    go_enter Try.func34, Try.ntmps34
    go_wp2_with (first | ((with_reducible show wpList _ _ _ (⟨some 2, .box _ _, _, _, _, _⟩ :: _) _ _); refine wpList_box_Row rfl rfl (tcell a) rfl ?_; intro w1 hr1 hc1 hs1; have HR1 := Lib.hid hr1; have HC1 := Lib.hid hc1; clear hr1 hc1 hs1) | ((with_reducible show wpList _ _ _ (⟨some 3, .box _ _, _, _, _, _⟩ :: _) _ _); refine wpList_box_Row rfl rfl (tcell b) rfl ?_; intro w2 hr2 hc2 hs2; have x0 := (HR1.out.chg hc2 (fun h => h)).cell 0; have x1 := (HR1.out.chg hc2 (fun h => h)).cell 1; have x2 := (HR1.out.chg hc2 (fun h => h)).cell 2; have y0 := hr2.cell 0; have y1 := hr2.cell 1; have y2 := hr2.cell 2; simp only [tcell, List.getElem?_cons_zero, List.getElem?_cons_succ] at x0 x1 x2 y0 y1 y2; have HC2 := Lib.hid (HC1.out.trans hc2); clear hr2 hc2 hs2))
    go_ret
    exact ⟨ret_bool HD.out, HC2.out⟩

set_option maxRecDepth 100000 in
set_option maxHeartbeats 2000000 in
theorem RNext_any (r : Nat) (T : Nat → Prop) (S : List Tm) (w : World) (h : RQ w T r S) :
    Calls Try.prog 23 #[.pointer (some ⟨r, 0, none⟩)] w fun e w' => e = .returned (.int .u64 ((nextS S : Nat) : Int)) ∧ w' = w := by
  obtain ⟨A, cap, hr, _, _, hv⟩ := h
  have c0 : w.cell? ⟨r, 0, none⟩ = some (.slice A S.length cap) := hr.cell 0
  rcases S with _ | ⟨t, S⟩
  · show Calls _ _ _ _ fun e w' => e = .returned (.int .u64 18446744073709551615) ∧ _
    clear hv hr
    go_enter Try.func23, Try.ntmps23
    go_wp2
    go_ret
    exact ⟨rfl, rfl⟩
  · show Calls _ _ _ _ fun e w' => e = .returned (.int .u64 (t.at_ : Int)) ∧ _
    obtain ⟨b, o, rfl, _, _, hk⟩ := hv.tmAt (k := 0) (by simp)
    have a0 : w.cell? ⟨b, o, none⟩ = some (.int .u64 (t.at_ : Int)) := by
      have := hk 0 (by simp) 0 _ rfl
      simp only [Nat.zero_mul, Nat.add_zero] at this
      exact this
    have n1 : (((t :: S).length : Int) == 0) = false := by rw [beq_eq_false_iff_ne, List.length_cons]; omega
    have n2 : (0 : Int) < ((t :: S).length : Int) := by rw [List.length_cons]; omega
    have n3 : 0 < (t :: S).length := by rw [List.length_cons]; omega
    generalize (t :: S).length = n at *
    clear hv hr hk
    go_enter Try.func23, Try.ntmps23
    go_wp2
    go_ret
    exact ⟨rfl, rfl⟩

set_option maxRecDepth 100000 in
set_option maxHeartbeats 2000000 in
theorem RAt_any (r : Nat) (T : Nat → Prop) (S : List Tm) (k : Int × Int) (w : World) (h : RQ w T r S) (hl : S.length ≤ 100000) :
    Calls Try.prog 24 #[.pointer (some ⟨r, 0, none⟩), .int .i64 k.1, .int .i64 k.2] w fun e w' => e = .returned (.int .u64 ((atS k S : Nat) : Int)) ∧ w' = w := by
  obtain ⟨A, cap, hr, _, _, hv⟩ := h
  have c0 : w.cell? ⟨r, 0, none⟩ = some (.slice A S.length cap) := hr.cell 0
  have HV := Lib.hid hv
  clear hv hr
  go_enter Try.func24, Try.ntmps24
  go_wp2
  go_loopw [7] (fun i wr => ∃ j : Nat, i = .int .i64 (j : Int) ∧ j ≤ S.length ∧ (∀ m, m < j → (tm S m).key ≠ k) ∧ w = wr) (fun i _ => S.length - (intOf i).toNat)
  case atStart => exact ⟨0, rfl, Nat.zero_le _, fun m hm => absurd hm (by omega), rfl⟩
  case round =>
    obtain ⟨j, rfl, hj, hm, rfl⟩ := hrel
    by_cases hlt : j < S.length
    · have k1 : (j : Int) < (S.length : Int) := by omega
      have k0 : 0 ≤ (j : Int) := by omega
      obtain ⟨b, o, rfl, _, _, hk⟩ := HV.out.tmAt hlt
      have a0 := hk j hlt 0 _ rfl
      rw [Nat.add_zero] at a0
      have a1 := hk j hlt 1 _ rfl
      have a2 := hk j hlt 2 _ rfl
      clear hk
      by_cases h1 : (tm S j).conn = k.1
      · have q1 : ((tm S j).conn == k.1) = true := by simpa using h1
        by_cases h2 : (tm S j).kind = k.2
        · have q2 : ((tm S j).kind == k.2) = true := by simpa using h2
          have HE : Hid (atS k S = (tm S j).at_) := Lib.hid (by
            unfold atS
            rw [find_at hlt (by unfold Tm.key; rw [h1, h2]) hm])
          clear h1 h2 hm
          go_wp2
          go_ret
          exact ⟨ret_u64 (by rw [HE.out]), rfl⟩
        · have q2 : ((tm S j).kind == k.2) = false := by simpa using h2
          have HM : Hid (∀ m, m < j + 1 → (tm S m).key ≠ k) := Lib.hid (fun m hm' => by
            rcases Nat.lt_or_ge m j with h | h
            · exact hm m h
            · rw [show m = j from by omega]; exact fun e => h2 (congrArg Prod.snd e))
          clear h1 h2 hm
          go_wp2
          go_roundw
          case rel => exact ⟨j + 1, by go_num, by omega, HM.out, trivial⟩
          case measure => simp [intOf]; omega
      · have q1 : ((tm S j).conn == k.1) = false := by simpa using h1
        have HM : Hid (∀ m, m < j + 1 → (tm S m).key ≠ k) := Lib.hid (fun m hm' => by
          rcases Nat.lt_or_ge m j with h | h
          · exact hm m h
          · rw [show m = j from by omega]; exact fun e => h1 (congrArg Prod.fst e))
        clear h1 hm
        go_wp2
        go_roundw
        case rel => exact ⟨j + 1, by go_num, by omega, HM.out, trivial⟩
        case measure => simp [intOf]; omega
    · have hje : j = S.length := by omega
      subst hje
      have HE : Hid (atS k S = NV) := Lib.hid (by unfold atS; rw [find_out hm])
      clear hm hj hlt
      go_wp2
      go_ret
      exact ⟨ret_u64 (by rw [HE.out]; rfl), rfl⟩
end Go.Proofs.Ytblpgpolhibfgaa
