/- Layer 2 (pnum): the document's example; the walks of PnumCuts and PnumFull. -/
import Derived.Test.YtmojgnbfcmnkmaaV2Full
import Derived.Test.YtmojgnbfcmnkmaaSame
namespace Go.Proofs.Ytmojgnbfcmnkmaa
open Go.RowKit

theorem x1 : fullI 2821665002 [155, 50] = 2821692210 := by decide +kernel
theorem x2 : lenI 11295746 11266227 = 2 := by decide +kernel
theorem x3 : cutB 11295746 2 = [92, 2] := by decide +kernel

theorem palive_any (w : World) : Calls Try.prog 8 #[] w fun e w' => e = .returned (.bool true) ∧ Chg none_ w w' := by
  go_enter Try.func8, Try.ntmps8
  go_wp2_with fail
  have C1 := Lib.hid ((Chg.refl none_ w).alloc (.cells #[.int .u8 155, .int .u8 50] 5))
  have HF := Lib.hid (full_any 2821665002 (w.alloc (.cells #[.int .u8 155, .int .u8 50] 5)) (fun _ => True) (some ⟨w.heap.size, 0, none⟩) 2 [155, 50] (View.row (cs := u8s [155, 50]) (Row.new _ _ (u8s [155, 50])) (by simp) trivial) (by decide) (by decide))
  rw [x1] at HF
  refine HF.out.mono ?_
  rintro e w' ⟨rfl, rfl⟩
  generalize w.alloc (.cells #[.int .u8 155, .int .u8 50] 5) = w1 at C1 ⊢
  clear HF
  go_wp2_with fail
  refine (length_any 11295746 11266227 _).mono ?_
  rintro e w' ⟨rfl, rfl⟩
  rw [x2]
  go_wp2_with fail
  refine (cut_any 11295746 2 _).mono ?_
  rintro e w2 ⟨v, rfl, hv⟩
  rw [x3] at hv
  obtain ⟨A4, cap4, rfl, hv4⟩ := hv.view
  have C2 := Lib.hid (C1.out.trans hv.1)
  have HV := Lib.hid hv4
  clear hv hv4
  go_wp2_with fail
  have hs := same_any (w2.alloc (.cells #[.int .u8 92, .int .u8 2] 5)) _ (fun _ => True) A4 (some ⟨w2.heap.size, 0, none⟩) cap4 2 [92, 2] [92, 2] (HV.out.chg ((Chg.refl none_ w2).alloc _) (fun _ _ h => h)) (View.row (cs := u8s [92, 2]) (Row.new _ _ (u8s [92, 2])) (by simp) trivial) (by decide)
  have HS := Lib.hid hs
  clear hs
  refine HS.out.mono ?_
  rintro e w5 ⟨rfl, k, rfl⟩
  rw [show decide ([92, 2] = [92, 2]) = true from rfl]
  have C3 := Lib.hid ((C2.out.alloc (.cells #[.int .u8 92, .int .u8 2] 5)).drewN k)
  generalize (w2.alloc (.cells #[.int .u8 92, .int .u8 2] 5)).drewN k = w6 at C3 ⊢
  go_wp2
  go_ret
  exact ⟨rfl, C3.out⟩

theorem walk_PnumCuts (n a s : Int) (w : World) (_ : (Lit.int .i64 n).wf = true) (_ : (Lit.int .i64 a).wf = true) (_ : (Lit.int .i64 s).wf = true) : Calls Try.prog 3 #[.int .i64 n, .int .i64 a, .int .i64 s] w fun e w' => e = .returned (.bool true) ∧ Chg none_ w w' := by
  go_enter Try.func3, Try.ntmps3
  go_wp2_with fail
  refine (palive_any _).mono ?_
  rintro e w1 ⟨rfl, hc⟩
  have C1 := Lib.hid hc
  clear hc
  go_wp2_with fail
  refine (length_any n a _).mono ?_
  rintro e w' ⟨rfl, rfl⟩
  go_wp2_with fail
  refine (rlength_any n a _).mono ?_
  rintro e w' ⟨rfl, rfl⟩
  go_wp2_with fail
  refine (cut_any n s _).mono ?_
  rintro e w2 ⟨v, rfl, hv⟩
  obtain ⟨A2, cap2, rfl, hv2⟩ := hv.view
  have C2 := Lib.hid (C1.out.trans hv.1)
  have V2 := Lib.hid hv2
  clear hv hv2
  go_wp2_with fail
  refine (rcut_any n s _).mono ?_
  rintro e w3 ⟨v, rfl, hv⟩
  obtain ⟨A3, cap3, rfl, hv3⟩ := hv.view
  have C3 := Lib.hid (C2.out.trans hv.1)
  have V23 := Lib.hid (V2.out.chg hv.1 (fun _ _ h => h))
  have V3 := Lib.hid hv3
  clear hv hv3
  have hl : (cutB n s).length ≤ 1000000 := Nat.le_trans (cutB_len n s) (by decide)
  go_wp2_with fail
  refine (same_any _ _ _ A2 A3 cap2 cap3 _ _ V23.out V3.out hl).mono ?_
  rintro e w4 ⟨rfl, k, rfl⟩
  rw [show decide (cutB n s = cutB n s) = true from by simp]
  have C4 := Lib.hid (C3.out.drewN k)
  generalize w3.drewN k = w4 at C4 ⊢
  clear hl
  go_wp2
  go_ret
  exact ⟨rfl, C4.out⟩

theorem walk_PnumFull (la : Int) (a : Option Addr) (len cap : Nat) (zs : List Int) (w : World) (_ : (Lit.int .i64 la).wf = true) (h : IsRow .u8 w a len cap zs) : Calls Try.prog 4 #[.int .i64 la, .slice a len cap] w fun e w' => e = .returned (.bool true) ∧ Chg none_ w w' := by
  obtain ⟨xs, rfl, hlc, hm, hx, hv⟩ := h.u8
  have HV := Lib.hid hv
  have HX := Lib.hid hx
  have hb : xs.length ≤ maxLen := Nat.le_trans hlc hm
  have HB := Lib.hid hb
  unfold maxLen at hb
  clear hv hx h hm
  go_enter Try.func4, Try.ntmps4
  go_wp2_with fail
  refine (palive_any _).mono ?_
  rintro e w1 ⟨rfl, hc⟩
  have C1 := Lib.hid hc
  have V1 := Lib.hid (HV.out.chg hc (fun _ _ h => h))
  clear hc
  by_cases h20 : (20 : Int) < xs.length
  · go_wp2
    go_ret
    exact ⟨rfl, C1.out⟩
  · go_wp2_with (first | (go_at_call 14; refine (full_any la w1 _ a cap xs V1.out HX.out HB.out).mono ?_; rintro e w' ⟨rfl, rfl⟩) | (go_at_call 15; refine (rfull_any la _ _ a cap xs V1.out HX.out HB.out).mono ?_; rintro e w' ⟨rfl, rfl⟩))
    go_ret
    exact ⟨rfl, C1.out⟩
end Go.Proofs.Ytmojgnbfcmnkmaa
