/- Layer 6 (hframe): which fields are right. -/
import Derived.Test.YtcdnjeojgjakdaaDoorV6Fd
import Derived.Test.YtcdnjeojgjakdaaDoorV6Sets
namespace Go.Proofs.YtcdnjeojgjakdaaDoor
open Go.RowKit

theorem cap_any (x : Nat) (w : World) : Calls Tryd.prog 63 #[.int .u8 x] w fun e w' => e = .returned (.bool (capN x)) ∧ w = w' := by
  have HF : Hid (capN x = decide (65 ≤ x ∧ x ≤ 90)) := rfl
  go_enter Tryd.func63, Tryd.ntmps63
  go_wp2
  all_goals
    go_ret
    exact ⟨ret_bool (by rw [HF.out, Bool.eq_iff_iff]; simp only [decide_eq_true_eq, Bool.false_eq_true, false_iff] at *; omega), rfl⟩

/-- A place, or none; nothing turned. -/
def IdxStill (b : Bool) (w : World) (e : Ending) (w' : World) : Prop := ∃ n : Int, e = .returned (.int .i64 n) ∧ decide (0 ≤ n) = b ∧ w = w'

set_option maxRecDepth 100000 in
set_option maxHeartbeats 1000000 in
theorem indexB_any (w : World) (T : Nat → Prop) (A : Option Addr) (c : Nat) (l : List Nat) (hv : View w T A l.length (u8s l)) (hl : l.length ≤ 1000000) :
    Calls Tryd.prog 72 #[.slice A l.length c, .func (.func 63) #[] #[]] w (IdxStill (l.any capN) w) := by
  have HV := Lib.hid hv
  clear hv
  go_enter Tryd.func72, Tryd.ntmps72
  go_wp2
  go_loop [8] (fun i => ∃ k : Nat, k ≤ l.length ∧ i = .int .i64 k ∧ Hid (∀ j, j < k → capN (l.getD j 0) = false)) (fun i => l.length - (intOf i).toNat)
  case atStart => exact ⟨0, Nat.zero_le _, rfl, fun j hj => absurd hj (by omega)⟩
  case round =>
    obtain ⟨k, hk, rfl, hpre⟩ := hrel
    by_cases hlt : k < l.length
    · obtain ⟨b, o, rfl, hbl, _, hc⟩ := HV.out.at_ hlt
      have hk0 : (0 : Int) ≤ (k : Int) := by omega
      have hk1 : (k : Int) < (l.length : Int) := by omega
      generalize hx : l.getD k 0 = x at hc
      have HXE := Lib.hid hx
      have HCP := Lib.hid (cap_any x)
      clear hx
      cases hcp : capN x
      · rw [hcp] at HCP
        have HN := Lib.hid hcp
        clear hcp
        go_wp2_with fail
        refine (HCP.out _).mono ?_
        rintro e w' ⟨rfl, rfl⟩
        go_wp2
        go_round
        case rel =>
          refine ⟨k + 1, by omega, by go_num, fun j hj => ?_⟩
          rcases Nat.lt_or_ge j k with hjk | hjk
          · exact hpre.out j hjk
          · obtain rfl : j = k := by omega
            rw [HXE.out]; exact HN.out
        case measure => simp [intOf]; omega
      · rw [hcp] at HCP
        have HN := Lib.hid hcp
        clear hcp
        go_wp2_with fail
        refine (HCP.out _).mono ?_
        rintro e w' ⟨rfl, rfl⟩
        go_wp2
        go_ret
        refine ⟨_, rfl, ?_, rfl⟩
        have h1 : l.any capN = true := by
          rw [List.any_eq_true]
          refine ⟨l.getD k 0, ?_, by rw [HXE.out]; exact HN.out⟩
          rw [List.getD_eq_getElem?_getD, List.getElem?_eq_getElem hlt]
          exact List.getElem_mem _
        rw [h1]
        simp
    · have hkl : k = l.length := by omega
      have HK := Lib.hid hkl
      clear hkl
      have : ¬ (k : Int) < (l.length : Int) := by omega
      go_wp2
      go_ret
      refine ⟨-1, rfl, ?_, rfl⟩
      have h1 : l.any capN = false := by
        rw [List.any_eq_false]
        intro x hx
        obtain ⟨j, hj, rfl⟩ := List.mem_iff_getElem.1 hx
        have := hpre.out j (by rw [HK.out]; exact hj)
        simpa [List.getD_eq_getElem?_getD, hj] using this
      rw [h1]; rfl
theorem containsB_any (w : World) (T : Nat → Prop) (A : Option Addr) (c : Nat) (l : List Nat) (hv : View w T A l.length (u8s l)) (hl : l.length ≤ 1000000) :
    Calls Tryd.prog 62 #[.slice A l.length c, .func (.func 63) #[] #[]] w fun e w' => e = .returned (.bool (l.any capN)) ∧ w = w' := by
  have HI := Lib.hid (indexB_any w T A c l hv hl)
  clear hv
  go_enter Tryd.func62, Tryd.ntmps62
  go_wp2_with fail
  refine HI.out.mono ?_
  rintro e w1 ⟨m, rfl, hm, rfl⟩
  have HM := Lib.hid hm
  clear hm
  go_wp2
  go_ret
  exact ⟨ret_bool HM.out, rfl⟩

/-- A string's bytes, in new memory. -/
theorem conv_chg (w : World) (e : TypeId) (s : ByteArray) : Chg none_ w (Lib.bytesWorld w e s) :=
  ⟨rfl, rfl, rfl, by rw [Lib.bytesWorld_size]; omega, fun k hk _ => Lib.bytesWorld_at_old w e s k hk⟩
theorem conv_view (w : World) (e : TypeId) (s : ByteArray) : View (Lib.bytesWorld w e s) (fun b => w.heap.size ≤ b) (some ⟨w.heap.size, 0, none⟩) (bs s).length (u8s (bs s)) :=
  ⟨by simp, fun _ => ⟨w.heap.size, 0, rfl, by rw [Lib.bytesWorld_size]; omega, Nat.le_refl _, fun j hj => by
    have hj2 : j < s.size := by rwa [bs_len] at hj
    rw [Nat.zero_add, Lib.bytesWorld_cell w e s j hj2, u8s_get]
    simp [bs, List.getD_eq_getElem?_getD]
    rw [Array.getElem?_eq_getElem (show j < s.data.size from hj2)]
    rfl⟩⟩

set_option maxRecDepth 100000 in
set_option maxHeartbeats 1000000 in
theorem wrong_any (x : Fld) (w : World) : Calls Tryd.prog 37 #[.agg #[.string x.1, .string x.2]] w fun e w' => e = .returned (.bool (wrongF x)) ∧ Chg none_ w w' := by
  obtain ⟨nm, vl⟩ := x
  have HW : Hid (wrongF (nm, vl) = (decide (nm.size < 1 ∨ 60 < nm.size) || ((bs nm).any capN || decide (200 < vl.size)))) := rfl
  have hrow := Row.new w 52 [.string nm, .string vl]
  have k0 : (w.alloc (.cells #[.string nm, .string vl] 52)).cell? ⟨w.heap.size, 0, none⟩ = some (.string nm) := hrow.cell 0
  have k1 : (w.alloc (.cells #[.string nm, .string vl] 52)).cell? ⟨w.heap.size, 1, none⟩ = some (.string vl) := hrow.cell 1
  have HC := Lib.hid ((Chg.refl none_ w).alloc (.cells #[.string nm, .string vl] 52))
  clear hrow
  generalize hWW : w.alloc (.cells #[.string nm, .string vl] 52) = W at *
  have hcv := Lib.run_convert_string_bytes (P := Tryd.prog) W 9 24 5 nm Tryd.underlying9 Tryd.underlying24 Tryd.underlying5
  have HCB := Lib.hid (fun h => containsB_any _ _ _ (grownCap W nm.size 0 5) (bs nm) (conv_view W 5 nm) h)
  have HCW := Lib.hid (conv_chg W 5 nm)
  have HK1 : Hid ((Lib.bytesWorld W 5 nm).cell? ⟨w.heap.size, 1, none⟩ = some (.string vl)) := (HCW.out.cell 1 (World.block_lt_of_cell? W _ k1) (fun h => h)).trans k1
  have hbl := bs_len nm
  rw [hbl] at HCB
  clear hbl
  by_cases hsz : nm.size < 1 ∨ 60 < nm.size
  · have HR : Hid (wrongF (nm, vl) = true) := by rw [HW.out, decide_eq_true hsz]; rfl
    generalize wrongF (nm, vl) = R at *
    clear HW HCB HCW HK1 hcv
    go_enter Tryd.func37, Tryd.ntmps37
    go_wp2
    all_goals first | (exfalso; omega) | (go_ret; exact ⟨ret_bool HR.out.symm, HC.out⟩)
  · have HR : Hid (wrongF (nm, vl) = ((bs nm).any capN || decide (200 < vl.size))) := by rw [HW.out, decide_eq_false hsz]; rfl
    have s1 : ¬ (nm.size : Int) < 1 := by omega
    have s2 : ¬ (60 : Int) < (nm.size : Int) := by omega
    have HCB2 := Lib.hid (HCB.out (by omega))
    generalize wrongF (nm, vl) = R at *
    generalize (bs nm).any capN = q at *
    clear HW HCB hsz
    cases q
    all_goals
      go_enter Tryd.func37, Tryd.ntmps37
      go_wp2_with fail
      refine HCB2.out.mono ?_
      rintro e w2 ⟨rfl, rfl⟩
      have k2 := HK1.out
      go_wp2
      go_ret
      exact ⟨ret_bool (by rw [HR.out]; first | rfl | (rw [Bool.eq_iff_iff]; simp; done) | (rw [Bool.eq_iff_iff]; simp; omega)), HC.out.trans HCW.out⟩

set_option maxRecDepth 100000 in
set_option maxHeartbeats 1000000 in
theorem indexF_any (w : World) (T : Nat → Prop) (A : Option Addr) (c : Nat) (l : List Fld) (hv : View w T A (2 * l.length) (fcells l)) (hl : l.length ≤ 1000000) :
    Calls Tryd.prog 61 #[.slice A l.length c, .func (.func 37) #[] #[]] w (IdxPost (l.any wrongF) w) := by
  have HV := Lib.hid hv
  clear hv
  go_enter Tryd.func61, Tryd.ntmps61
  go_wp2
  go_loopw [8] (fun i wr => ∃ k : Nat, k ≤ l.length ∧ i = .int .i64 k ∧ Chg none_ w wr ∧ Hid (∀ j, j < k → wrongF (l.getD j fld0) = false)) (fun i _ => l.length - (intOf i).toNat)
  case atStart => exact ⟨0, Nat.zero_le _, rfl, Chg.refl _ _, fun j hj => absurd hj (by omega)⟩
  case round =>
    obtain ⟨k, hk, rfl, hch, hpre⟩ := hrel
    by_cases hlt : k < l.length
    · obtain ⟨b, o, rfl, hbl, _, hc⟩ := HV.out.flds (by omega)
      obtain ⟨c1, c2⟩ := hc k hlt
      rw [← hch.cell _ hbl (fun h => h)] at c1 c2
      have hk0 : (0 : Int) ≤ (k : Int) := by omega
      have hk1 : (k : Int) < (l.length : Int) := by omega
      have HCH := Lib.hid hch
      clear hc hch
      generalize hx : l.getD k fld0 = x at c1 c2
      have HXE := Lib.hid hx
      clear hx
      have HWR := Lib.hid (fun w => wrong_any x w)
      cases hwr : wrongF x
      · rw [hwr] at HWR
        have HN := Lib.hid hwr
        clear hwr
        go_wp2_with fail
        refine (HWR.out _).mono ?_
        rintro e w1 ⟨rfl, hc1⟩
        have HC1 := Lib.hid (HCH.out.trans hc1)
        clear hc1
        go_wp2
        go_roundw
        case rel =>
          refine ⟨k + 1, by omega, by go_num, HC1.out, fun j hj => ?_⟩
          rcases Nat.lt_or_ge j k with hjk | hjk
          · exact hpre.out j hjk
          · obtain rfl : j = k := by omega
            rw [HXE.out]; exact HN.out
        case measure => simp [intOf]; omega
      · rw [hwr] at HWR
        have HN := Lib.hid hwr
        clear hwr
        go_wp2_with fail
        refine (HWR.out _).mono ?_
        rintro e w1 ⟨rfl, hc1⟩
        have HC1 := Lib.hid (HCH.out.trans hc1)
        clear hc1
        go_wp2
        go_ret
        refine ⟨_, rfl, ?_, HC1.out⟩
        have h1 : l.any wrongF = true := by
          rw [List.any_eq_true]
          refine ⟨l.getD k fld0, ?_, by rw [HXE.out]; exact HN.out⟩
          rw [List.getD_eq_getElem?_getD, List.getElem?_eq_getElem hlt]
          exact List.getElem_mem _
        rw [h1]
        simp
    · have hkl : k = l.length := by omega
      have HK := Lib.hid hkl
      have HCH := Lib.hid hch
      clear hkl hch
      have : ¬ (k : Int) < (l.length : Int) := by omega
      go_wp2
      go_ret
      refine ⟨-1, rfl, ?_, HCH.out⟩
      have h1 : l.any wrongF = false := by
        rw [List.any_eq_false]
        intro x hx
        obtain ⟨j, hj, rfl⟩ := List.mem_iff_getElem.1 hx
        have := hpre.out j (by rw [HK.out]; exact hj)
        simpa [List.getD_eq_getElem?_getD, hj] using this
      rw [h1]; rfl
theorem containsF_any (w : World) (T : Nat → Prop) (A : Option Addr) (c : Nat) (l : List Fld) (hv : View w T A (2 * l.length) (fcells l)) (hl : l.length ≤ 1000000) :
    Calls Tryd.prog 36 #[.slice A l.length c, .func (.func 37) #[] #[]] w fun e w' => e = .returned (.bool (l.any wrongF)) ∧ Chg none_ w w' := by
  have HI := Lib.hid (indexF_any w T A c l hv hl)
  clear hv
  go_enter Tryd.func36, Tryd.ntmps36
  go_wp2_with fail
  refine HI.out.mono ?_
  rintro e w1 ⟨m, rfl, hm, hc⟩
  have HM := Lib.hid hm
  clear hm
  go_wp2
  go_ret
  exact ⟨ret_bool HM.out, hc⟩
/-- Fields, whatever their number. -/
theorem fields_any (w : World) (T : Nat → Prop) (A : Option Addr) (c : Nat) (l : List Fld) (hv : View w T A (2 * l.length) (fcells l)) :
    Calls Tryd.prog 22 #[.slice A l.length c] w fun e w' => e = .returned (.bool (fieldsB l)) ∧ Chg none_ w w' := by
  have HF : Hid (fieldsB l = (decide (l.length ≤ 32) && !(l.any wrongF))) := rfl
  by_cases h32 : l.length ≤ 32
  · have HI := Lib.hid (containsF_any w T A c l hv (by omega))
    have HR : Hid (fieldsB l = !(l.any wrongF)) := by show _ = _; rw [HF.out, decide_eq_true h32, Bool.true_and]
    have h1 : (l.length : Int) ≤ 32 := by omega
    generalize l.any wrongF = q at *
    clear hv HF h32
    cases q
    all_goals
      go_enter Tryd.func22, Tryd.ntmps22
      go_wp2_with fail
      refine HI.out.mono ?_
      rintro e w1 ⟨rfl, hc⟩
      go_wp2
      go_ret
      exact ⟨ret_bool (by rw [HR.out]; rfl), hc⟩
  · have HR : Hid (fieldsB l = false) := by rw [HF.out, decide_eq_false h32]; rfl
    have h1 : ¬ (l.length : Int) ≤ 32 := by omega
    clear hv HF h32
    go_enter Tryd.func22, Tryd.ntmps22
    go_wp2
    go_ret
    exact ⟨ret_bool HR.out.symm, Chg.refl _ _⟩
end Go.Proofs.YtcdnjeojgjakdaaDoor
