/- Layer 6 (hframe): which settings may stand in one frame. -/
import Derived.Test.YtcdnjeojgjakdaaDoorV6Hf
import Derived.Laws.Cover1
namespace Go.Proofs.YtcdnjeojgjakdaaDoor
open Go.RowKit

theorem forbS_any (n : Nat) (w : World) : Calls Tryd.prog 75 #[.int .u64 n] w fun e w' => e = .returned (.bool (forbS n)) ∧ w = w' := by
  have HF : Hid (forbS n = decide (n = 0 ∨ n = 2 ∨ n = 3 ∨ n = 4 ∨ n = 5)) := rfl
  go_enter Tryd.func75, Tryd.ntmps75
  go_wp2
  all_goals
    go_ret
    exact ⟨ret_bool (by rw [HF.out]; simp only [beq_iff_eq, beq_eq_false_iff_ne, ne_eq] at *; first | (rw [eq_comm, decide_eq_true_eq]; omega) | (rw [eq_comm, decide_eq_false_iff_not]; omega)), rfl⟩
theorem forbN_any (n : Nat) (w : World) : Calls Tryd.prog 59 #[.int .u64 n] w fun e w' => e = .returned (.bool (forbN n)) ∧ w = w' := by
  have HF : Hid (forbN n = decide (n = 2 ∨ n = 6 ∨ n = 8 ∨ n = 9)) := rfl
  go_enter Tryd.func59, Tryd.ntmps59
  go_wp2
  all_goals
    go_ret
    exact ⟨ret_bool (by rw [HF.out]; simp only [beq_iff_eq, beq_eq_false_iff_ne, ne_eq] at *; first | (rw [eq_comm, decide_eq_true_eq]; omega) | (rw [eq_comm, decide_eq_false_iff_not]; omega)), rfl⟩

theorem isS_any (a1 a2 n nb : Nat) (w : World) (hn : w.cell? ⟨nb, 0, none⟩ = some (.int .u64 n)) (hb : nb < w.heap.size) :
    Calls Tryd.prog 74 #[.agg #[.int .u64 a1, .int .u64 a2], .pointer (some ⟨nb, 0, none⟩)] w fun e w' => e = .returned (.bool (decide (a1 = n))) ∧ Chg none_ w w' := by
  have hn2 : (w.alloc (.cells #[.int .u64 (a1 : Int), .int .u64 (a2 : Int)] 49)).cell? ⟨nb, 0, none⟩ = some (.int .u64 n) := (World.cell?_alloc_lt _ _ _ hb).trans hn
  have HC := Lib.hid ((Chg.refl none_ w).alloc (.cells #[.int .u64 (a1 : Int), .int .u64 (a2 : Int)] 49))
  have h0 := (Row.new w 49 [.int .u64 (a1 : Int), .int .u64 (a2 : Int)]).cell 0
  simp only [List.getElem?_cons_zero] at h0
  go_enter Tryd.func74, Tryd.ntmps74
  go_wp2
  go_ret
  exact ⟨ret_bool (by rw [Bool.eq_iff_iff]; simp; omega), HC.out⟩

/-- A place, or none. -/
def IdxPost (b : Bool) (w : World) (e : Ending) (w' : World) : Prop := ∃ n : Int, e = .returned (.int .i64 n) ∧ decide (0 ≤ n) = b ∧ Chg none_ w w'
def anyN (n : Nat) (l : List (Nat × Nat)) : Bool := l.any fun a => a.1 == n

set_option maxRecDepth 100000 in
set_option maxHeartbeats 1000000 in
theorem indexS_any (w : World) (T : Nat → Prop) (A : Option Addr) (c n nb : Nat) (l : List (Nat × Nat)) (hv : View w T A (2 * l.length) (rcells l)) (hl : l.length ≤ 1000000) (hn : w.cell? ⟨nb, 0, none⟩ = some (.int .u64 n)) (hb : nb < w.heap.size) :
    Calls Tryd.prog 78 #[.slice A l.length c, .func (.func 74) #[] #[.pointer (some ⟨nb, 0, none⟩)]] w (IdxPost (anyN n l) w) := by
  have HV := Lib.hid hv
  have HN := Lib.hid (fun w' (hc : Chg none_ w w') a1 a2 => isS_any a1 a2 n nb w' ((hc.cell 0 hb (fun h => h)).trans hn) (Nat.lt_of_lt_of_le hb hc.size))
  clear hv hn hb
  go_enter Tryd.func78, Tryd.ntmps78
  go_wp2
  go_loopw [8] (fun i wr => ∃ k : Nat, k ≤ l.length ∧ i = .int .i64 k ∧ Chg none_ w wr ∧ Hid (∀ j, j < k → (l.getD j (0, 0)).1 ≠ n)) (fun i _ => l.length - (intOf i).toNat)
  case atStart => exact ⟨0, Nat.zero_le _, rfl, Chg.refl _ _, fun j hj => absurd hj (by omega)⟩
  case round =>
    obtain ⟨k, hk, rfl, hch, hpre⟩ := hrel
    by_cases hlt : k < l.length
    · obtain ⟨b, o, rfl, hbl, _, hc⟩ := HV.out.pairs (by omega)
      obtain ⟨c1, c2⟩ := hc k hlt
      rw [← hch.cell _ hbl (fun h => h)] at c1 c2
      have hk0 : (0 : Int) ≤ (k : Int) := by omega
      have hk1 : (k : Int) < (l.length : Int) := by omega
      have HCH := Lib.hid hch
      clear hc hch
      generalize hx : l.getD k (0, 0) = x at c1 c2
      have HXE := Lib.hid hx
      clear hx
      obtain ⟨x1, x2⟩ := x
      simp only at c1 c2
      go_wp2_with fail
      refine (HN.out _ HCH.out x1 x2).mono ?_
      rintro e w1 ⟨rfl, hc1⟩
      have HC1 := Lib.hid (HCH.out.trans hc1)
      clear hc1
      by_cases hxn : x1 = n
      · have hd : decide (x1 = n) = true := by simpa using hxn
        have HXN := Lib.hid hxn
        clear hxn
        go_wp2
        go_ret
        refine ⟨_, rfl, ?_, HC1.out⟩
        have h1 : anyN n l = true := by
          unfold anyN
          rw [List.any_eq_true]
          refine ⟨l.getD k (0, 0), ?_, by rw [HXE.out]; simp [HXN.out]⟩
          rw [List.getD_eq_getElem?_getD, List.getElem?_eq_getElem hlt]
          exact List.getElem_mem _
        rw [h1]
        simp
      · have hd : decide (x1 = n) = false := by simpa using hxn
        have HXN := Lib.hid hxn
        clear hxn
        go_wp2
        go_roundw
        case rel =>
          refine ⟨k + 1, by omega, by go_num, HC1.out, fun j hj => ?_⟩
          rcases Nat.lt_or_ge j k with hjk | hjk
          · exact hpre.out j hjk
          · obtain rfl : j = k := by omega
            rw [HXE.out]; exact HXN.out
        case measure => simp [intOf]; omega
    · have hkl : k = l.length := by omega
      have HK := Lib.hid hkl
      have HCH := Lib.hid hch
      clear hkl hch
      have : ¬ (k : Int) < (l.length : Int) := by omega
      go_wp2
      go_ret
      refine ⟨-1, rfl, ?_, HCH.out⟩
      have h1 : anyN n l = false := by
        unfold anyN
        rw [List.any_eq_false]
        intro x hx
        obtain ⟨j, hj, rfl⟩ := List.mem_iff_getElem.1 hx
        have := hpre.out j (by rw [HK.out]; exact hj)
        simpa [List.getD_eq_getElem?_getD, hj] using this
      rw [h1]; rfl

theorem containsS_any (w : World) (T : Nat → Prop) (A : Option Addr) (c n nb : Nat) (l : List (Nat × Nat)) (hv : View w T A (2 * l.length) (rcells l)) (hl : l.length ≤ 1000000) (hn : w.cell? ⟨nb, 0, none⟩ = some (.int .u64 n)) (hb : nb < w.heap.size) :
    Calls Tryd.prog 73 #[.slice A l.length c, .func (.func 74) #[] #[.pointer (some ⟨nb, 0, none⟩)]] w fun e w' => e = .returned (.bool (anyN n l)) ∧ Chg none_ w w' := by
  have HI := Lib.hid (indexS_any w T A c n nb l hv hl hn hb)
  clear hv hn hb
  go_enter Tryd.func73, Tryd.ntmps73
  go_wp2_with fail
  refine HI.out.mono ?_
  rintro e w1 ⟨m, rfl, hm, hc⟩
  have HM := Lib.hid hm
  clear hm
  go_wp2
  go_ret
  exact ⟨ret_bool HM.out, hc⟩

theorem max2_nat (a b : Nat) (w : World) : (Builtin.max2 (.int .u64 a) (.int .u64 b)).run Tryd.prog w = .ok (.int .u64 ((max a b : Nat) : Int)) w := by
  have : (if a < b then (b : Int) else (a : Int)) = ((max a b : Nat) : Int) := by
    split <;> omega
  simp [Builtin.max2, this]
theorem run_max2 (a b : Nat) (t : TypeId) (ats : Array TypeId) (w : World) : (Builtin.max_ ats t #[.int .u64 a, .int .u64 b]).run Tryd.prog w = .ok (.int .u64 ((max a b : Nat) : Int)) w := by
  simp only [Builtin.max_, List.foldlM_cons, List.foldlM_nil, Sem.run_bind, max2_nat, Result.andThen_ok, Sem.run_pure]

theorem badAt_eq (l : List (Nat × Nat)) (i x1 x2 : Nat) (h : l.getD i (0, 0) = (x1, x2)) : badAt l i = (anyN x1 (l.take i) || (forbS x1 || decide (4611686018427387903 < max x1 x2))) := by
  unfold badAt anyN; rw [h]

set_option maxRecDepth 100000 in
set_option maxHeartbeats 1000000 in
theorem areS_any (w : World) (T : Nat → Prop) (A : Option Addr) (c : Nat) (l : List (Nat × Nat)) (hv : View w T A (2 * l.length) (rcells l)) (hl : l.length ≤ 1000000) (hcap : l.length ≤ c) :
    Calls Tryd.prog 67 #[.slice A l.length c] w fun e w' => e = .returned (.bool (setsB l)) ∧ Chg none_ w w' := by
  have HB : Hid (setsB l = decide (l.length ≤ 16 ∧ ∀ i, i < l.length → badAt l i = false)) := rfl
  have HV := Lib.hid hv
  have HCAP := Lib.hid hcap
  have hmx := run_max2
  clear hv hcap
  by_cases h16 : l.length ≤ 16
  · have h16' : ¬ (16 : Int) < (l.length : Int) := by omega
    go_enter Tryd.func67, Tryd.ntmps67
    go_wp2
    go_loopw [11] (fun i wr => ∃ k : Nat, k ≤ l.length ∧ i = .int .i64 k ∧ Chg none_ w wr ∧ Hid (∀ j, j < k → badAt l j = false)) (fun i _ => l.length - (intOf i).toNat)
    case atStart => exact ⟨0, Nat.zero_le _, rfl, Chg.refl _ _, fun j hj => absurd hj (by omega)⟩
    case round =>
      obtain ⟨k, hk, rfl, hch, hpre⟩ := hrel
      by_cases hlt : k < l.length
      · have hcap := HCAP.out
        obtain ⟨b, o, rfl, hbl, _, hc⟩ := HV.out.pairs (by omega)
        obtain ⟨c1, c2⟩ := hc k hlt
        rw [← hch.cell _ hbl (fun h => h)] at c1 c2
        have hk0 : (0 : Int) ≤ (k : Int) := by omega
        have hk1 : (k : Int) < (l.length : Int) := by omega
        have hk2 : (k : Int) ≤ (c : Int) := by omega
        have HCH := Lib.hid hch
        clear hc hch
        generalize hx : l.getD k (0, 0) = x at c1 c2
        have HXE := Lib.hid hx
        clear hx
        obtain ⟨x1, x2⟩ := x
        simp only at c1 c2
        have HBA := Lib.hid (badAt_eq l k x1 x2 HXE.out)
        have HX3 : Hid (badAt l k = true → setsB l = false) := fun h => by
          rw [HB.out, decide_eq_false_iff_not]
          intro h2
          have := h2.2 k hlt
          rw [h] at this; cases this
        have hbox := Row.new wr 49 [.int .u64 (x1 : Int), .int .u64 (x2 : Int)]
        have HCB := Lib.hid ((Chg.refl none_ wr).alloc (.cells #[.int .u64 (x1 : Int), .int .u64 (x2 : Int)] 49))
        have HROW : Hid (Row (wr.alloc (.cells #[.int .u64 (x1 : Int), .int .u64 (x2 : Int)] 49)) wr.heap.size 49 [.int .u64 (x1 : Int), .int .u64 (x2 : Int)]) := hbox
        have hlk : (l.take k).length = k := by rw [List.length_take]; omega
        have HCON := Lib.hid (containsS_any _ T (some ⟨b, o, none⟩) c x1 wr.heap.size (l.take k) (by
          rw [rcells_take, hlk]
          exact ((HV.out.chg HCH.out (fun _ _ h => h)).chg HCB.out (fun _ _ h => h)).take (by omega)) (by omega) (hbox.cell 0) hbox.lt)
        rw [hlk] at HCON
        clear hbox hlk
        go_wp2_with fail
        refine HCON.out.mono ?_
        rintro e w2 ⟨rfl, hc2⟩
        have hr2 := HROW.out.chg hc2 (fun h => h)
        have k0 := hr2.cell 0
        have k1 := hr2.cell 1
        simp only [List.getElem?_cons_zero, List.getElem?_cons_succ] at k0 k1
        have HC2 := Lib.hid ((HCH.out.trans HCB.out).trans hc2)
        clear hr2 hc2 HCON
        cases hany : anyN x1 (l.take k)
        · cases hfs : forbS x1
          · by_cases hmax : 4611686018427387903 < max x1 x2
            · have hm2 : (4611686018427387903 : Int) < ((max x1 x2 : Nat) : Int) := by omega
              have HBT := Lib.hid (HX3.out (by rw [HBA.out, decide_eq_true hmax]; simp))
              clear hmax
              have HFS := Lib.hid (fun w => forbS_any x1 w)
              rw [hfs] at HFS
              clear hfs hany
              go_wp2_with (go_at_call 75; refine (HFS.out _).mono ?_; rintro e w3 ⟨rfl, rfl⟩)
              go_ret
              exact ⟨ret_bool HBT.out.symm, HC2.out⟩
            · have hm2 : ((max x1 x2 : Nat) : Int) ≤ 4611686018427387903 := by omega
              have HBF : Hid (badAt l k = false) := by rw [HBA.out, hany, hfs, decide_eq_false hmax]; rfl
              clear hmax
              have HFS := Lib.hid (fun w => forbS_any x1 w)
              rw [hfs] at HFS
              clear hfs hany
              go_wp2_with (go_at_call 75; refine (HFS.out _).mono ?_; rintro e w3 ⟨rfl, rfl⟩)
              go_roundw
              case rel =>
                refine ⟨k + 1, by omega, by go_num, HC2.out, fun j hj => ?_⟩
                rcases Nat.lt_or_ge j k with hjk | hjk
                · exact hpre.out j hjk
                · obtain rfl : j = k := by omega
                  exact HBF.out
              case measure => simp [intOf]; omega
          · have HBT := Lib.hid (HX3.out (by rw [HBA.out, hfs]; simp))
            have HFS := Lib.hid (fun w => forbS_any x1 w)
            rw [hfs] at HFS
            clear hfs hany
            go_wp2_with (go_at_call 75; refine (HFS.out _).mono ?_; rintro e w3 ⟨rfl, rfl⟩)
            go_ret
            exact ⟨ret_bool HBT.out.symm, HC2.out⟩
        · have HBT := Lib.hid (HX3.out (by rw [HBA.out, hany]; simp))
          clear hany
          go_wp2
          go_ret
          exact ⟨ret_bool HBT.out.symm, HC2.out⟩
      · have hkl : k = l.length := by omega
        have HK := Lib.hid hkl
        have HCH := Lib.hid hch
        clear hkl hch
        have : ¬ (k : Int) < (l.length : Int) := by omega
        go_wp2
        go_ret
        refine ⟨ret_bool ?_, HCH.out⟩
        rw [HB.out, eq_comm, decide_eq_true_eq]
        exact ⟨h16, fun j hj => hpre.out j (by rw [HK.out]; exact hj)⟩
  · have h16' : (16 : Int) < (l.length : Int) := by omega
    have HBT : Hid (setsB l = false) := by rw [HB.out, decide_eq_false_iff_not]; exact fun h => h16 h.1
    clear h16
    go_enter Tryd.func67, Tryd.ntmps67
    go_wp2
    go_ret
    exact ⟨ret_bool HBT.out.symm, Chg.refl _ _⟩
end Go.Proofs.YtcdnjeojgjakdaaDoor
