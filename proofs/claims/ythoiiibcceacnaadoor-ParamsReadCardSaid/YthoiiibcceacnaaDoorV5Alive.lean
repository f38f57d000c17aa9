/- Layer 5 (params): idle ticks; the laws' own look that the program answers at all. -/
import Derived.Test.YthoiiibcceacnaaDoorV5Back
import Derived.Test.YthoiiibcceacnaaDoorV5Read
import Derived.Test.YthoiiibcceacnaaDoorV5Eq
import Derived.Test.YthoiiibcceacnaaDoorSame
namespace Go.Proofs.YthoiiibcceacnaaDoor
open Go.RowKit

/-- The idle ticks of two. -/
def idleM (a b : Nat) : Nat := if a = 0 ∨ b = 0 then max a b else min a b
theorem idle_any (a b : Nat) (w : World) : Calls Tryd.prog 15 #[.int .u64 a, .int .u64 b] w fun e w' => e = .returned (.int .u64 (idleM a b)) ∧ w = w' := by
  have HI : Hid (idleM a b = if a = 0 ∨ b = 0 then max a b else min a b) := rfl
  by_cases ha : a = 0
  · have ha' : ((a : Int) == 0) = true := by simp [ha]
    have HA := Lib.hid ha
    clear ha
    go_enter Tryd.func15, Tryd.ntmps15
    go_wp2
    all_goals
      go_ret
      refine ⟨ret_u64 ?_, rfl⟩
      rw [HI.out, if_pos (.inl HA.out)]
      have := HA.out
      omega
  have ha' : ((a : Int) == 0) = false := by simp [ha]
  by_cases hb : b = 0
  · have hb' : ((b : Int) == 0) = true := by simp [hb]
    have HA := Lib.hid hb
    clear hb ha
    go_enter Tryd.func15, Tryd.ntmps15
    go_wp2
    all_goals
      go_ret
      refine ⟨ret_u64 ?_, rfl⟩
      rw [HI.out, if_pos (.inr HA.out)]
      have := HA.out
      omega
  have hb' : ((b : Int) == 0) = false := by simp [hb]
  have HA := Lib.hid (show ¬ (a = 0 ∨ b = 0) by omega)
  clear ha hb
  go_enter Tryd.func15, Tryd.ntmps15
  go_wp2
  all_goals
    go_ret
    refine ⟨ret_u64 ?_, rfl⟩
    rw [HI.out, if_neg HA.out]
    omega
def pA : Pm := { idle := 30, data := 1000, stream := 500, streams := 4, has := true, tok := [7, 0, 0, 0, 0, 0, 0, 0, 0, 0, 0, 0, 0, 0, 0, 0] }
def pI : Pm := { idle := 5 }
def pT : Pm := { tok := [1, 0, 0, 0, 0, 0, 0, 0, 0, 0, 0, 0, 0, 0, 0, 0] }
theorem may_pA : mayB pA = true := by decide +kernel
theorem may_pI : mayB pI = true := by decide +kernel
theorem may_pT : mayB pT = false := by decide +kernel
theorem put_pI : putP pI = [1, 1, 5] := by decide +kernel
theorem read_pA : readM (putP pA) = (pA, 0) := by unfold putP; rw [may_pA, if_pos rfl]; exact read_put pA may_pA rfl
theorem read_115 : readM [1, 1, 5, 1, 1, 5] = ({}, 11) := by
  have h := read_twice pI may_pI rfl (by decide +kernel)
  have e : bytesP pI = [1, 1, 5] := by decide +kernel
  rwa [e] at h
theorem pA_ok : pA.Ok := by constructor <;> decide
theorem pI_cells : (cellsP pI).toArray = #[.int .u64 5, .int .u64 0, .int .u64 0, .int .u64 0, .bool false, .int .u8 0, .int .u8 0, .int .u8 0, .int .u8 0, .int .u8 0, .int .u8 0, .int .u8 0, .int .u8 0, .int .u8 0, .int .u8 0, .int .u8 0, .int .u8 0, .int .u8 0, .int .u8 0, .int .u8 0, .int .u8 0] := rfl
theorem cellsA_one (p : Pm) : (cellsP p).all (·.oneCell') = true := List.all_eq_true.2 fun u hu => by
  simp only [cellsP, List.mem_cons] at hu
  rcases hu with rfl | rfl | rfl | rfl | rfl | h
  · rfl
  · rfl
  · rfl
  · rfl
  · rfl
  · exact u8s_one p.tok u h
theorem zeroP_ok : (Pm.mk 0 0 0 0 false (List.replicate 16 0)).Ok := by constructor <;> decide

set_option maxRecDepth 100000 in
set_option maxHeartbeats 2000000 in
theorem alive_any (w : World) (hT : Tab w) : Calls Tryd.prog 9 #[] w fun e w' => e = .returned (.bool true) ∧ Chg none_ w w' := by
  have HT := Lib.hid hT
  clear hT
  go_enter Tryd.func9, Tryd.ntmps9
  have HLA : Hid ((cellsP pA).length = 21) := rfl
  have HPE := pm_eql pA pA pA_ok pA_ok
  rw [decide_eq_true rfl] at HPE
  have HPE2 := Lib.hid HPE
  clear HPE
  unfold aggP at HPE2
  go_wp2_with (first | ((with_reducible show wpList _ _ _ (⟨_, .store 25 _ _, _, _, _, _⟩ :: _) _ _); refine wpList_store_Row (xs := cellsP pA) rfl rfl rfl (Row.new w 25 (cellsP {})) rfl (by rfl) (by exact sizeP) (cellsA_one _) ?_; intro w1 hr1 hch1 hs1; have HC1 := Lib.hid (hch1 none_ w ((Chg.refl none_ w).alloc _) (fun h => absurd h (by omega))); have HX1 := Lib.hid (fun w' (hc : Chg none_ w1 w') => hr1.chg hc (fun h => h)); have c1 : Chg none_ w1 w1 := Chg.refl _ _; clear hr1 hch1 hs1) | ((with_reducible show wpList _ _ _ (⟨_, .load 25 (.tmp 1), _, _, _, _⟩ :: _) _ _); refine wlP rfl rfl rfl (HX1.out _ (by assumption)) HLA.out ?_))
  refine (putP_any pA _ rfl (HT.out.chg HC1.out (fun h => h))).mono ?_
  rintro e w2 ⟨A2, k2, rfl, hv2, hc2⟩
  have HRD := Lib.hid (pread_any w2 _ A2 k2 (putP pA) hv2 (by decide +kernel) (by decide +kernel))
  rw [read_pA] at HRD
  have HC2 := Lib.hid hc2
  clear hv2 hc2 c1
  go_wp2_with fail
  refine HRD.out.mono ?_
  rintro e w3 ⟨rfl, _, hc3⟩
  have HC3 := Lib.hid (HC2.out.trans hc3)
  clear hc3 HRD
  unfold aggP
  simp only
  go_wp2_with ((with_reducible show wpList _ _ _ (⟨_, .store 25 _ _, _, _, _, _⟩ :: _) _ _); refine wpList_store_Row (xs := cellsP pA) rfl rfl rfl (Row.new w3 25 (cellsP {})) rfl (by rfl) (by exact sizeP) (cellsA_one _) ?_; intro w4 hr4 hch4 hs4; have hc4 := hch4 none_ w3 ((Chg.refl none_ w3).alloc _) (fun h => absurd h (by omega)); have HX4 := Lib.hid (fun w' (hc : Chg none_ w4 w') => hr4.chg hc (fun h => h)); clear hr4 hch4 hs4)
  have HC14 := Lib.hid (HC3.out.trans hc4)
  have HC4 := Lib.hid (HC1.out.trans HC14.out)
  have hvw := View.row (T := fun _ => True) (Row.new w4 5 (u8s [1, 1, 5, 1, 1, 5])) (n := 6) (Nat.le_refl _) trivial
  have HRD := Lib.hid (pread_any (w4.alloc (.cells (u8s [1, 1, 5, 1, 1, 5]).toArray 5)) (fun _ => True) (some ⟨w4.heap.size, 0, none⟩) 6 [1, 1, 5, 1, 1, 5] hvw (by decide) (by decide))
  rw [read_115] at HRD
  clear hvw hc4
  go_wp2_with fail
  refine HRD.out.mono ?_
  rintro e w5 ⟨rfl, _, hc5⟩
  have hc45 := ((Chg.refl none_ w4).alloc (.cells (u8s [1, 1, 5, 1, 1, 5]).toArray 5)).trans hc5
  have HC45 := Lib.hid hc45
  clear hc5 HRD hc45
  unfold aggP
  simp only
  go_wp2_with ((with_reducible show wpList _ _ _ (⟨_, .store 25 _ _, _, _, _, _⟩ :: _) _ _); refine wpList_store_Row (xs := cellsP {}) rfl rfl rfl (Row.new w5 25 (cellsP {})) rfl (by rfl) (by exact sizeP) (cellsA_one _) ?_; intro w6 hr6 hch6 hs6; have hc6 := hch6 none_ w5 ((Chg.refl none_ w5).alloc _) (fun h => absurd h (by omega)); clear hr6 hch6 hs6)
  have HC46 := Lib.hid (HC45.out.trans hc6)
  clear hc6
  have HPI := Lib.hid (putP_any pI w6 rfl (HT.out.chg (HC4.out.trans HC46.out) (fun h => h)))
  rw [put_pI] at HPI
  refine HPI.out.mono ?_
  rintro e w7 ⟨A7, k7, rfl, hv7, hc7⟩
  have HC47 := Lib.hid (HC46.out.trans hc7)
  have HSM := Lib.hid (same_any (w7.alloc (.cells (u8s [1, 1, 5]).toArray 5)) _ _ A7 (some ⟨w7.heap.size, 0, none⟩) k7 3 [1, 1, 5] [1, 1, 5] (hv7.chg ((Chg.refl none_ w7).alloc _) (fun _ _ h => h)) (View.row (T := fun _ => True) (Row.new w7 5 (u8s [1, 1, 5])) (n := 3) (Nat.le_refl _) trivial) (by decide))
  rw [decide_eq_true rfl] at HSM
  have HCA := Lib.hid (HC47.out.alloc (.cells (u8s [1, 1, 5]).toArray 5))
  have HM1 := Lib.hid (fun w => may_any pA rfl w)
  have HM2 := Lib.hid (fun w => may_any pT rfl w)
  rw [may_pA] at HM1
  rw [may_pT] at HM2
  unfold aggP at HM1 HM2
  have HI1 := Lib.hid (fun w => idle_any 5 0 w)
  have HI2 := Lib.hid (fun w => idle_any 5 3 w)
  rw [show idleM 5 0 = 5 from rfl] at HI1
  rw [show idleM 5 3 = 3 from rfl] at HI2
  have HPE := HPE2.out
  clear hv7 hc7
  go_wp2_with fail
  refine HSM.out.mono ?_
  rintro e w8 ⟨rfl, kd, rfl⟩
  have HCB := Lib.hid (HCA.out.drewN kd)
  have cB := HCB.out
  have cD : Chg none_ w1 ((w7.alloc (.cells (u8s [1, 1, 5]).toArray 5)).drewN kd) := (HC14.out.trans HCB.out)
  go_wp2_with (first | ((with_reducible show wpList _ _ _ (⟨_, .load 25 (.tmp 1), _, _, _, _⟩ :: _) _ _); refine wlP rfl rfl rfl (HX1.out _ (by assumption)) HLA.out ?_) | ((with_reducible show wpList _ _ _ (⟨_, .load 25 (.tmp 2), _, _, _, _⟩ :: _) _ _); refine wlP rfl rfl rfl (HX4.out _ (by assumption)) HLA.out ?_))
  refine (HM1.out _).mono ?_
  rintro e w9 ⟨rfl, hc9⟩
  go_wp2_with fail
  refine (HM2.out _).mono ?_
  rintro e w10 ⟨rfl, hc10⟩
  go_wp2_with fail
  refine (HI1.out _).mono ?_
  rintro e w11 ⟨rfl, rfl⟩
  go_wp2_with fail
  refine (HI2.out _).mono ?_
  rintro e w12 ⟨rfl, rfl⟩
  go_wp2_with fail
  go_ret
  exact ⟨rfl, ((HC4.out.trans HCB.out).trans hc9).trans hc10⟩
end Go.Proofs.YthoiiibcceacnaaDoor
