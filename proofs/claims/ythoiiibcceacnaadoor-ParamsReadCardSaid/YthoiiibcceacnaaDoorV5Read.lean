/- Layer 5 (params): Read. -/
import Derived.Test.YthoiiibcceacnaaDoorV5LS
import Derived.Test.YthoiiibcceacnaaDoorRes
namespace Go.Proofs.YthoiiibcceacnaaDoor
open Go.RowKit

set_option maxRecDepth 100000 in
set_option maxHeartbeats 4000000 in
theorem pread_any (w : World) (T0 : Nat → Prop) (A : Option Addr) (cap : Nat) (bs : List Nat) (hv : View w T0 A bs.length (u8s bs)) (hl : bs.length ≤ 1000000) (hb : ∀ x ∈ bs, x < 256) :
    Calls Tryd.prog 17 #[.slice A bs.length cap] w (ReadPost w (readM bs)) := by
  have HV := Lib.hid hv
  have HLE := Lib.hid hl
  have HB := Lib.hid hb
  clear hv hl hb
  go_enter Tryd.func17, Tryd.ntmps17
  go_wp2_with fail
  refine (read_any _ T0 A cap bs (HV.out.chg ((((Chg.refl none_ w).alloc _).alloc _).alloc _) (fun _ _ h => h)) HLE.out).mono ?_
  rintro e w1 ⟨r, rfl, hr1, hrd, hc1⟩
  have HR1 := Lib.hid hr1; have HRD := Lib.hid hrd; have HC1 := Lib.hid hc1
  clear hr1 hrd hc1
  go_wp2_with fail
  refine (table_any _).mono ?_
  rintro e w2 ⟨gs, rfl, hpl, hc2⟩
  have HPL := Lib.hid hpl; have HC2 := Lib.hid hc2
  clear hpl hc2
  go_wp2_with ((with_reducible show wpList _ _ _ (⟨_, .store 46 _ _, _, _, _, _⟩ :: _) _ _); refine wpList_store_Row (xs := tabCells gs) rfl rfl rfl (Row.new w2 46 ([.int .u64 0, .nilFunc, .nilFunc, .int .u64 0, .nilFunc, .nilFunc, .int .u64 0, .nilFunc, .nilFunc, .int .u64 0, .nilFunc, .nilFunc, .int .u64 0, .nilFunc, .nilFunc] : List Value)) rfl rfl sizeTab rfl ?_; intro w3 hr3 hch3 hs3)
  have hc3 : Chg none_ w2 w3 := hch3 none_ w2 ((Chg.refl none_ w2).alloc _) (fun h => absurd h (by omega))
  have hc13 := HC2.out.trans hc3
  have hR0 := (((Row.new w 25 (cellsP {})).alloc (.cells (cellsP {}).toArray 25)).alloc (.cells (bools (List.replicate 5 false)).toArray 51)).chg HC1.out (fun h => h)
  have hR1 := ((Row.new2 w (.cells (cellsP {}).toArray 25) 25 (cellsP {})).alloc (.cells (bools (List.replicate 5 false)).toArray 51)).chg HC1.out (fun h => h)
  have hR2 : Row ((((w.alloc (.cells (cellsP {}).toArray 25)).alloc (.cells (cellsP {}).toArray 25)).alloc (.cells (bools (List.replicate 5 false)).toArray 51))) (w.heap.size + 1 + 1) 51 (bools (List.replicate 5 false)) := by
    have := Row.new2 (w.alloc (.cells (cellsP {}).toArray 25)) (.cells (cellsP {}).toArray 25) 51 (bools (List.replicate 5 false))
    simpa using this
  have hR2' := hR2.chg HC1.out (fun h => h)
  have hr1 := HR1.out
  have hrlt := (show RdS w1 r _ (bs, 0) from ⟨HRD.out, HB.out⟩).lt
  have hLay : Lay w.heap.size r w2.heap.size (fun b => w.heap.size + 3 ≤ b ∧ b ≠ r) := ⟨by simpa using hr1, Nat.lt_of_lt_of_le hrlt HC2.out.size, fun b h => h⟩
  have hLS : LS w.heap.size r w2.heap.size (fun b => w.heap.size + 3 ≤ b ∧ b ≠ r) gs w3 (begin bs) :=
    ⟨hR0.chg hc13 (fun h => h), hR1.chg hc13 (fun h => h), rfl, hR2'.chg hc13 (fun h => h), rfl, (show RdS w1 r _ (bs, 0) from ⟨by simpa using HRD.out, HB.out⟩).chg hc13 (fun h => h) (fun _ _ h => h), hr3, (HPL.out.mono (fun b _ h => Nat.lt_of_lt_of_le hrlt h)).chg hc3 (fun _ _ h => h)⟩
  have hCC : Chg none_ w w3 := (((((Chg.refl none_ w).alloc (.cells (cellsP {}).toArray 25)).alloc (.cells (cellsP {}).toArray 25)).alloc (.cells (bools (List.replicate 5 false)).toArray 51)).trans HC1.out).trans hc13
  have HLAY := Lib.hid hLay; have HLS := Lib.hid hLS; have HCC := Lib.hid hCC
  clear hc3 hc13 hR0 hR1 hR2 hR2' hr1 hrlt hLay hLS hCC hr3 hch3 hs3 HPL HC2 HC1 HRD HR1 HV
  generalize (fun b => w.heap.size + 3 ≤ b ∧ b ≠ r) = T at *
  generalize w2.heap.size = tb at *
  simp only [Act.put]
  go_loopw [10] (fun _ wr => ∃ x, LS w.heap.size r tb T gs wr x ∧ Hid (runR x = runR (begin bs)) ∧ Chg none_ w wr) (fun _ wr => lenAt wr r)
  case atStart => exact ⟨begin bs, HLS.out, rfl, HCC.out⟩
  case round =>
    obtain ⟨x, hls, hrun, hch⟩ := hrel
    have HX := Lib.hid hls
    have HCH := Lib.hid hch
    have HNR : Hid (¬ T r) := fun h => (HLAY.out.hT r h).2 rfl
    clear hls hch
    have HLEFT := Lib.hid (leftS_any wr r T x.s HX.out.rd)
    by_cases h0 : x.s.1.length = 0
    · have hz : decide (0 < x.s.1.length) = false := decide_eq_false (by omega)
      have HRUN : Hid (readM bs = endR x) := by show _ = _; unfold readM; rw [← hrun.out, runR_end x h0]
      have HPL := Lib.hid (cP_len x.p HX.out.tok)
      have HMAY := Lib.hid (fun w => may_any x.p HX.out.tok w)
      have hnr := HLAY.out.hr
      have HPX : Hid (∀ w', Chg (· = r) wr w' → Row w' (w.heap.size + 1) 25 (cellsP x.p)) := fun w' hc => HX.out.p.chg hc (by omega)
      have HZX : Hid (∀ w', Chg (· = r) wr w' → Row w' w.heap.size 25 (cellsP {})) := fun w' hc => HX.out.z.chg hc (by omega)
      have HONE : Hid (∀ p : Pm, (cellsP p).all (·.oneCell') = true) := fun p => List.all_eq_true.2 fun u hu => by
        simp only [cellsP, List.mem_cons] at hu
        rcases hu with rfl | rfl | rfl | rfl | rfl | h
        · rfl
        · rfl
        · rfl
        · rfl
        · rfl
        · exact u8s_one p.tok u h
      have HRW : Hid (w.heap.size ≤ r) := by show _ ≤ _; omega
      have HTOK := Lib.hid HX.out.tok
      have c0 : Chg (· = r) wr wr := Chg.refl _ _
      have HEND : Hid (endR x = if (if mayB x.p then x.s else failSt 3 x.s).2 ≠ 0 then ({}, (if mayB x.p then x.s else failSt 3 x.s).2) else (x.p, 0)) := rfl
      have HRDX : Hid (∀ w', Chg none_ wr w' → RdS w' r T x.s) := fun w' hc => HX.out.rd.chg hc (fun h => h) (fun _ _ h => h)
      clear h0 hnr hrun
      unfold aggP at HMAY
      cases hm : mayB x.p
      · rw [hm] at HEND
        simp only [hm] at HMAY
        have HM := Lib.hid hm
        clear hm
        simp only [if_false, Bool.false_eq_true] at HEND
        have hne : ((failSt 3 x.s).2 != 0) = true := by
          unfold failSt
          split
          · rename_i h; simp; rcases h with h | h; exact h; exact absurd h (by decide)
          · rfl
        have HNE := Lib.hid hne
        rw [if_pos (by simpa using hne)] at HEND
        have HF := Lib.hid (fun w' hc => failS_any w' r T x.s 3 (HRDX.out w' hc))
        generalize failSt 3 x.s = s' at *
        go_wp2_with (first | ((with_reducible show wpList _ _ _ (⟨_, .load 25 _, _, _, _, _⟩ :: _) _ _); refine wlP rfl rfl rfl (HPX.out _ (by assumption)) HPL.out ?_) | (go_at_call 24; refine HLEFT.out.mono ?_; rintro e w4 ⟨rfl, rfl⟩) | (go_at_call 10; refine (HMAY.out _).mono ?_; rintro e w5 ⟨rfl, hc5⟩) | (go_at_call 30; refine (HF.out _ hc5).mono ?_; rintro e w6 ⟨rfl, hrd6, hc6⟩; have hc56 := (hc5.mono (S' := (· = r)) (fun _ _ h => h.elim)).trans hc6) | (go_at_call 29; refine (badS_any _ r T s' hrd6).mono ?_; rintro e w7 ⟨rfl, rfl⟩) | ((with_reducible show wpList _ _ _ (⟨_, .store 25 _ _, _, _, _, _⟩ :: _) _ _); refine wpList_store_Row (xs := cellsP {}) rfl rfl rfl (HZX.out _ (by assumption)) rfl (by first | rfl | exact HPL.out) (by first | exact sizeP | (rw [HPL.out]; exact sizeP)) (HONE.out _) ?_; intro w9 hr9 hch9 hs9))
        refine ret_row2 rfl rfl hr9 Tryd.underlying25 rfl sizeP rfl ?_
        refine ⟨by rw [HRUN.out, HEND.out]; rfl, by rw [HRUN.out, HEND.out]; rfl, hch9 none_ w (HCH.out.andThen hc56 (fun b hb e => by have := HRW.out; have e : b = r := e; omega)) (fun h => absurd h (by omega))⟩
      · rw [hm] at HEND
        simp only [hm] at HMAY
        have HM := Lib.hid hm
        clear hm
        simp only [if_true] at HEND
        have HB := Lib.hid (fun w' hc => badS_any w' r T x.s (HRDX.out w' hc))
        by_cases hb : x.s.2 = 0
        · have hne : (x.s.2 != 0) = false := by simp [hb]
          rw [if_neg (by simp [hb])] at HEND
          have HBB := Lib.hid hb
          clear hb
          go_wp2_with (first | ((with_reducible show wpList _ _ _ (⟨_, .load 25 _, _, _, _, _⟩ :: _) _ _); refine wlP rfl rfl rfl (HPX.out _ (by assumption)) HPL.out ?_) | (go_at_call 24; refine HLEFT.out.mono ?_; rintro e w4 ⟨rfl, rfl⟩) | (go_at_call 10; refine (HMAY.out _).mono ?_; rintro e w5 ⟨rfl, hc5⟩; have hc56 := hc5.mono (S' := (· = r)) (fun _ _ h => h.elim)) | (go_at_call 29; refine (HB.out _ hc5).mono ?_; rintro e w7 ⟨rfl, rfl⟩) | ((with_reducible show wpList _ _ _ (⟨_, .store 25 _ _, _, _, _, _⟩ :: _) _ _); refine wpList_store_Row (xs := cellsP x.p) rfl rfl rfl (HZX.out _ (by assumption)) rfl (by first | rfl | exact HPL.out) (by first | exact sizeP | (rw [HPL.out]; exact sizeP)) (HONE.out _) ?_; intro w9 hr9 hch9 hs9))
          refine ret_row2 rfl rfl hr9 Tryd.underlying25 rfl (by rw [HPL.out]; exact sizeP) rfl ?_
          refine ⟨by rw [HRUN.out, HEND.out]; rfl, by rw [HRUN.out, HEND.out]; exact HTOK.out, hch9 none_ w (HCH.out.andThen hc56 (fun b hb e => by have := HRW.out; have e : b = r := e; omega)) (fun h => absurd h (by omega))⟩
        · have hne : (x.s.2 != 0) = true := by simp [hb]
          rw [if_pos hb] at HEND
          clear hb
          go_wp2_with (first | ((with_reducible show wpList _ _ _ (⟨_, .load 25 _, _, _, _, _⟩ :: _) _ _); refine wlP rfl rfl rfl (HPX.out _ (by assumption)) HPL.out ?_) | (go_at_call 24; refine HLEFT.out.mono ?_; rintro e w4 ⟨rfl, rfl⟩) | (go_at_call 10; refine (HMAY.out _).mono ?_; rintro e w5 ⟨rfl, hc5⟩; have hc56 := hc5.mono (S' := (· = r)) (fun _ _ h => h.elim)) | (go_at_call 29; refine (HB.out _ hc5).mono ?_; rintro e w7 ⟨rfl, rfl⟩) | ((with_reducible show wpList _ _ _ (⟨_, .store 25 _ _, _, _, _, _⟩ :: _) _ _); refine wpList_store_Row (xs := cellsP {}) rfl rfl rfl (HZX.out _ (by assumption)) rfl (by first | rfl | exact HPL.out) (by first | exact sizeP | (rw [HPL.out]; exact sizeP)) (HONE.out _) ?_; intro w9 hr9 hch9 hs9))
          refine ret_row2 rfl rfl hr9 Tryd.underlying25 rfl sizeP rfl ?_
          refine ⟨by rw [HRUN.out, HEND.out]; rfl, by rw [HRUN.out, HEND.out]; rfl, hch9 none_ w (HCH.out.andThen hc56 (fun b hb e => by have := HRW.out; have e : b = r := e; omega)) (fun h => absurd h (by omega))⟩
    · have hz : decide (0 < x.s.1.length) = true := decide_eq_true (by omega)
      have hst := runR_step x h0
      have hsl := stepR_less x h0
      have HSTEP : Hid (runR (stepR x) = runR (begin bs)) := by show _ = _; rw [← hst]; exact hrun.out
      have HSL : Hid ((stepR x).s.1.length < lenAt wr r) := by show _ < _; rw [HX.out.len]; exact hsl
      clear h0 hst hsl hrun
      have HI1 := Lib.hid (int_any wr r T x.s HX.out.rd HNR.out)
      have HNLT := Lib.hid (rdInt_lt x.s HX.out.rd.2)
      obtain ⟨N, hN⟩ : ∃ N, (rdInt x.s).1 = N := ⟨_, rfl⟩
      obtain ⟨s1, hs1⟩ : ∃ s1, (rdInt x.s).2 = s1 := ⟨_, rfl⟩
      obtain ⟨M, hM⟩ : ∃ M, (rdInt s1).1 = M := ⟨_, rfl⟩
      obtain ⟨s2, hs2⟩ : ∃ s2, (rdInt s1).2 = s2 := ⟨_, rfl⟩
      obtain ⟨vs, hvs⟩ : ∃ vs, (rdBytes M s2).1 = vs := ⟨_, rfl⟩
      obtain ⟨s3, hs3⟩ : ∃ s3, (rdBytes M s2).2 = s3 := ⟨_, rfl⟩
      have hSR : stepR x = if s3.2 ≠ 0 ∨ idxP N < 0 then { x with s := s3 } else if x.came.getD (idxP N).toNat false = true then { x with s := failSt 11 s3 }
          else if (takeP (Pk.all.getD (idxP N).toNat .idle) vs x.p).2 = true then ⟨(takeP (Pk.all.getD (idxP N).toNat .idle) vs x.p).1, x.came.set (idxP N).toNat true, s3⟩
          else ⟨(takeP (Pk.all.getD (idxP N).toNat .idle) vs x.p).1, x.came, failSt 3 s3⟩ := by
        unfold stepR; rw [hN, hs1, hM, hs2, hvs, hs3]
      have HSR := Lib.hid hSR
      rw [hN, hs1] at HI1
      rw [hN] at HNLT
      have HBP : Hid (∀ w', RdS w' r T s2 → Calls Tryd.prog 26 #[.pointer (some ⟨r, 0, none⟩), .int .u64 M] w' fun e w'' => ∃ A cap, e = .returned (.slice A vs.length cap) ∧ View w'' (fun b => w'.heap.size ≤ b) A vs.length (u8s vs) ∧ RdS w'' r T s3 ∧ Chg (· = r) w' w'') := fun w' h => by
        have := bytes_any w' r T s2 M h HNR.out
        unfold BytesPost at this
        rwa [hvs, hs3] at this
      have HI2 : Hid (∀ w', RdS w' r T s1 → Calls Tryd.prog 25 #[.pointer (some ⟨r, 0, none⟩)] w' fun e w'' => e = .returned (.int .u64 (M : Nat)) ∧ RdS w'' r T s2 ∧ Chg (· = r) w' w'') := fun w' h => by
        have := int_any w' r T s1 h HNR.out
        rwa [hM, hs2] at this
      have HVB : Hid ((∀ b ∈ s2.1, b < 256) → ∀ b ∈ vs, b < 256) := fun h => by have := (rdBytes_mem M s2 h).1; rwa [hvs] at this
      have HVL : Hid (s2.1.length ≤ 1000000 → vs.length ≤ 1000000) := fun h => by
        have : (rdBytes M s2).1.length ≤ s2.1.length := by
          unfold rdBytes; split
          · simp
          · split
            · simp only [List.length_take]; omega
            · simp
        rw [hvs] at this; omega
      clear hN hs1 hM hs2 hvs hs3 hSR
      go_wp2_with (go_at_call 24; refine HLEFT.out.mono ?_; rintro e w4 ⟨rfl, rfl⟩)
      refine HI1.out.mono ?_
      rintro e w5 ⟨rfl, hr5, hc5⟩
      have HR5 := Lib.hid hr5
      have HC5 := Lib.hid hc5
      have HX5 := Lib.hid (HX.out.read HLAY.out hr5 hc5)
      clear hr5 hc5
      go_wp2_with fail
      refine (HI2.out _ (HR5.out.chg ((Chg.refl none_ w5).alloc _) (fun h => h) (fun _ _ h => h))).mono ?_
      rintro e w6 ⟨rfl, hr6, hc6⟩
      have HR6 := Lib.hid hr6
      have HC6 := Lib.hid hc6
      clear hr6 hc6
      go_wp2_with fail
      refine (HBP.out _ HR6.out).mono ?_
      rintro e w7 ⟨A7, k7, rfl, hv7, hr7, hc7⟩
      have hnr := HLAY.out.htb
      have hsz5 := HX5.out.size
      have hne : w5.heap.size ≠ r := by omega
      have hbox := ((Row.new w5 22 [.int .u64 (N : Int)]).chg HC6.out hne).chg hc7 hne
      have HX6 := Lib.hid ((HX5.out.keep ((Chg.refl none_ w5).alloc (.cells #[.int .u64 (N : Int)] 22))).read HLAY.out HR6.out HC6.out)
      have HX7 := Lib.hid (HX6.out.read HLAY.out hr7 hc7)
      have HIX := Lib.hid (index_any gs N tb w5.heap.size w7 (by have := hbox.cell 0; simpa using this) hbox.lt HX7.out.tab)
      have HV7 := Lib.hid hv7
      have HVS := Lib.hid (HVB.out HR6.out.2)
      have HVN := Lib.hid (HVL.out HR6.out.len)
      have HW57 := Lib.hid (HC5.out.trans ((((Chg.refl none_ w5).alloc (.cells #[.int .u64 (N : Int)] 22)).mono (S' := (· = r)) (fun _ _ h => h.elim)).trans (HC6.out.trans hc7)))
      clear hv7 hr7 hc7 hnr hsz5 hne hbox HBP HI1 HI2 HX HX5 HR5 HR6 HVB HVL HX6 HLEFT HC6 HC5
      go_wp2_with fail
      refine HIX.out.mono ?_
      rintro e w8 ⟨rfl, hc8⟩
      have HX8 := Lib.hid (HX7.out.keep hc8)
      have HV8 := Lib.hid (HV7.out.chg hc8 (fun _ _ h => h))
      have HCH8 : Hid (Chg none_ w w8) := HCH.out.andThen (HW57.out.trans (hc8.mono (fun _ _ h => h.elim))) (fun b hb e => by have := HLAY.out.hr; have e : b = r := e; omega)
      clear hc8 HX7 HV7 HIX HW57 HCH
      have HB := Lib.hid (badS_any w8 r T s3 HX8.out.rd)
      have c8 : Chg none_ w8 w8 := Chg.refl _ _
      by_cases hb : s3.2 = 0
      case neg =>
        have hne : (s3.2 != 0) = true := by simp [hb]
        have e := HSR.out
        rw [if_pos (.inl hb)] at e
        rw [e] at HSTEP HSL
        clear hb e HSR
        generalize idxP N = ix at *
        go_wp2_with (go_at_call 29; refine HB.out.mono ?_; rintro e w9 ⟨rfl, rfl⟩)
        go_roundw
        case rel => exact ⟨_, HX8.out, HSTEP, HCH8.out⟩
        case measure => rw [HX8.out.len]; exact HSL.out
      have hne : (s3.2 != 0) = false := by simp [hb]
      have HB0 := Lib.hid hb
      clear hb
      have hix : idxP N < 0 ∨ idxP N = 0 ∨ idxP N = 1 ∨ idxP N = 2 ∨ idxP N = 3 ∨ idxP N = 4 := by
        unfold idxP
        repeat' split
        all_goals omega
      rcases hix with hix | hix | hix | hix | hix | hix
      · have e := HSR.out
        rw [if_pos (.inr hix)] at e
        rw [e] at HSTEP HSL
        clear e HSR HB0
        generalize idxP N = ix at *
        go_wp2_with (go_at_call 29; refine HB.out.mono ?_; rintro e w9 ⟨rfl, rfl⟩)
        go_roundw
        case rel => exact ⟨_, HX8.out, HSTEP, HCH8.out⟩
        case measure => rw [HX8.out.len]; exact HSL.out
      · have e := HSR.out
        rw [hix] at e
        rw [if_neg (by rw [HB0.out]; simp)] at e
        clear HSR
        rw [hix]
        clear hix
        have hcl : 0 < x.came.length := by have := HX8.out.cl; simp only at this; omega
        have hcm := (HX8.out.came.cell 0).trans (bools_get _ 0 hcl)
        have hfz := HX8.out.came.frozen 0
        clear hcl
        cases hc : x.came.getD 0 false
        case true =>
          rw [if_pos (by simpa using hc)] at e
          rw [e] at HSTEP HSL
          rw [hc] at hcm
          clear e hc
          have HF := Lib.hid (failS_any w8 r T s3 11 HX8.out.rd)
          go_wp2_with (first | (go_at_call 29; refine HB.out.mono ?_; rintro e w9 ⟨rfl, rfl⟩) | (go_at_call 30; refine HF.out.mono ?_; rintro e w10 ⟨rfl, hr10, hc10⟩))
          have HX10 := HX8.out.read HLAY.out hr10 hc10
          go_roundw
          case rel => exact ⟨_, HX10, HSTEP, HCH8.out.andThen hc10 (fun b hb e => by have := HLAY.out.hr; have e : b = r := e; omega)⟩
          case measure => rw [HX10.len]; exact HSL.out
        case false =>
          rw [if_neg (by simpa using hc)] at e
          rw [hc] at hcm
          clear hc
          have HTK : Hid (Calls Tryd.prog 50 #[.pointer (some ⟨w.heap.size + 1, 0, none⟩), .slice A7 vs.length k7, .pointer (some ⟨gs .idle, 0, none⟩)] w8 (TakePost w8 (w.heap.size + 1) (takeP .idle vs x.p))) := take_any x.p w8 .idle (w.heap.size + 1) (gs .idle) k7 _ A7 vs HV8.out HVN.out HVS.out (HX8.out.pl .idle).2 HX8.out.p
          have hfn := HX8.out.tab.cell 2
          simp only [tabCells, cellsK, List.cons_append, List.nil_append, List.getElem?_cons_zero, List.getElem?_cons_succ, clo] at hfn
          have HKT := Lib.hid (takeP_tok .idle vs x.p HX8.out.tok)
          have e2 : stepR x = if (takeP .idle vs x.p).2 = true then ⟨(takeP .idle vs x.p).1, x.came.set 0 true, s3⟩ else ⟨(takeP .idle vs x.p).1, x.came, failSt 3 s3⟩ := e
          clear e
          generalize takeP .idle vs x.p = tk at *
          obtain ⟨p', ok⟩ := tk
          have HKT2 : Hid (p'.tok.length = 16) := HKT.out
          have HSL2 := HSL
          have HSTEP2 := HSTEP
          rw [e2] at HSL2 HSTEP2
          clear e2 HSL HSTEP HKT
          cases ok
          case true =>
            rw [if_pos rfl] at HSL2 HSTEP2
            go_wp2_with (go_at_call 29; refine HB.out.mono ?_; rintro e w9 ⟨rfl, rfl⟩)
            refine HTK.out.mono ?_
            rintro e w9 ⟨rfl, hp9, hc9⟩
            have HX9 := Lib.hid (HX8.out.took HLAY.out HKT2.out hp9 hc9)
            have HCH9 : Hid (Chg none_ w w9) := HCH8.out.andThen hc9 (fun b hb e => by have e : b = w.heap.size + 1 := e; omega)
            have hf9 := HX9.out.came.frozen 0
            have hc9' := (HX9.out.came.cell 0).trans (bools_get _ 0 (by have := HX9.out.cl; simp only at this ⊢; omega))
            clear hcm hfz hp9 hc9
            go_wp2
            have HX10 := HX9.out.mark HLAY.out 0
            go_roundw
            case rel => exact ⟨_, HX10, HSTEP2, HCH9.out.setCell (p := ⟨w.heap.size + 1 + 1, 0, none⟩) (fun h => absurd h (by simp; omega)) _⟩
            case measure => rw [HX10.len]; exact HSL2.out
          case false =>
            rw [if_neg (by simp)] at HSL2 HSTEP2
            go_wp2_with (go_at_call 29; refine HB.out.mono ?_; rintro e w9 ⟨rfl, rfl⟩)
            refine HTK.out.mono ?_
            rintro e w9 ⟨rfl, hp9, hc9⟩
            have HX9 := Lib.hid (HX8.out.took HLAY.out HKT2.out hp9 hc9)
            have HCH9 : Hid (Chg none_ w w9) := HCH8.out.andThen hc9 (fun b hb e => by have e : b = w.heap.size + 1 := e; omega)
            have HF := Lib.hid (failS_any w9 r T s3 3 HX9.out.rd)
            clear hcm hfz hp9 hc9
            go_wp2_with (first | (go_at_call 30; refine HF.out.mono ?_; rintro e w10 ⟨rfl, hr10, hc10⟩))
            have HX10 := HX9.out.read HLAY.out hr10 hc10
            go_roundw
            case rel => exact ⟨_, HX10, HSTEP2, HCH9.out.andThen hc10 (fun b hb e => by have := HLAY.out.hr; have e : b = r := e; omega)⟩
            case measure => rw [HX10.len]; exact HSL2.out
      · have e := HSR.out
        rw [hix] at e
        rw [if_neg (by rw [HB0.out]; simp)] at e
        clear HSR
        rw [hix]
        clear hix
        have hcl : 1 < x.came.length := by have := HX8.out.cl; simp only at this; omega
        have hcm := (HX8.out.came.cell 1).trans (bools_get _ 1 hcl)
        have hfz := HX8.out.came.frozen 1
        clear hcl
        cases hc : x.came.getD 1 false
        case true =>
          rw [if_pos (by simpa using hc)] at e
          rw [e] at HSTEP HSL
          rw [hc] at hcm
          clear e hc
          have HF := Lib.hid (failS_any w8 r T s3 11 HX8.out.rd)
          go_wp2_with (first | (go_at_call 29; refine HB.out.mono ?_; rintro e w9 ⟨rfl, rfl⟩) | (go_at_call 30; refine HF.out.mono ?_; rintro e w10 ⟨rfl, hr10, hc10⟩))
          have HX10 := HX8.out.read HLAY.out hr10 hc10
          go_roundw
          case rel => exact ⟨_, HX10, HSTEP, HCH8.out.andThen hc10 (fun b hb e => by have := HLAY.out.hr; have e : b = r := e; omega)⟩
          case measure => rw [HX10.len]; exact HSL.out
        case false =>
          rw [if_neg (by simpa using hc)] at e
          rw [hc] at hcm
          clear hc
          have HTK : Hid (Calls Tryd.prog 37 #[.pointer (some ⟨w.heap.size + 1, 0, none⟩), .slice A7 vs.length k7] w8 (TakePost w8 (w.heap.size + 1) (takeP .token vs x.p))) := takeT_any x.p w8 (w.heap.size + 1) k7 _ A7 vs HV8.out HX8.out.p HX8.out.tok
          have hfn := HX8.out.tab.cell 5
          simp only [tabCells, cellsK, List.cons_append, List.nil_append, List.getElem?_cons_zero, List.getElem?_cons_succ, fnv] at hfn
          have HKT := Lib.hid (takeP_tok .token vs x.p HX8.out.tok)
          have e2 : stepR x = if (takeP .token vs x.p).2 = true then ⟨(takeP .token vs x.p).1, x.came.set 1 true, s3⟩ else ⟨(takeP .token vs x.p).1, x.came, failSt 3 s3⟩ := e
          clear e
          generalize takeP .token vs x.p = tk at *
          obtain ⟨p', ok⟩ := tk
          have HKT2 : Hid (p'.tok.length = 16) := HKT.out
          have HSL2 := HSL
          have HSTEP2 := HSTEP
          rw [e2] at HSL2 HSTEP2
          clear e2 HSL HSTEP HKT
          cases ok
          case true =>
            rw [if_pos rfl] at HSL2 HSTEP2
            go_wp2_with (go_at_call 29; refine HB.out.mono ?_; rintro e w9 ⟨rfl, rfl⟩)
            refine HTK.out.mono ?_
            rintro e w9 ⟨rfl, hp9, hc9⟩
            have HX9 := Lib.hid (HX8.out.took HLAY.out HKT2.out hp9 hc9)
            have HCH9 : Hid (Chg none_ w w9) := HCH8.out.andThen hc9 (fun b hb e => by have e : b = w.heap.size + 1 := e; omega)
            have hf9 := HX9.out.came.frozen 1
            have hc9' := (HX9.out.came.cell 1).trans (bools_get _ 1 (by have := HX9.out.cl; simp only at this ⊢; omega))
            clear hcm hfz hp9 hc9
            go_wp2
            have HX10 := HX9.out.mark HLAY.out 1
            go_roundw
            case rel => exact ⟨_, HX10, HSTEP2, HCH9.out.setCell (p := ⟨w.heap.size + 1 + 1, 1, none⟩) (fun h => absurd h (by simp; omega)) _⟩
            case measure => rw [HX10.len]; exact HSL2.out
          case false =>
            rw [if_neg (by simp)] at HSL2 HSTEP2
            go_wp2_with (go_at_call 29; refine HB.out.mono ?_; rintro e w9 ⟨rfl, rfl⟩)
            refine HTK.out.mono ?_
            rintro e w9 ⟨rfl, hp9, hc9⟩
            have HX9 := Lib.hid (HX8.out.took HLAY.out HKT2.out hp9 hc9)
            have HCH9 : Hid (Chg none_ w w9) := HCH8.out.andThen hc9 (fun b hb e => by have e : b = w.heap.size + 1 := e; omega)
            have HF := Lib.hid (failS_any w9 r T s3 3 HX9.out.rd)
            clear hcm hfz hp9 hc9
            go_wp2_with (first | (go_at_call 30; refine HF.out.mono ?_; rintro e w10 ⟨rfl, hr10, hc10⟩))
            have HX10 := HX9.out.read HLAY.out hr10 hc10
            go_roundw
            case rel => exact ⟨_, HX10, HSTEP2, HCH9.out.andThen hc10 (fun b hb e => by have := HLAY.out.hr; have e : b = r := e; omega)⟩
            case measure => rw [HX10.len]; exact HSL2.out
      · have e := HSR.out
        rw [hix] at e
        rw [if_neg (by rw [HB0.out]; simp)] at e
        clear HSR
        rw [hix]
        clear hix
        have hcl : 2 < x.came.length := by have := HX8.out.cl; simp only at this; omega
        have hcm := (HX8.out.came.cell 2).trans (bools_get _ 2 hcl)
        have hfz := HX8.out.came.frozen 2
        clear hcl
        cases hc : x.came.getD 2 false
        case true =>
          rw [if_pos (by simpa using hc)] at e
          rw [e] at HSTEP HSL
          rw [hc] at hcm
          clear e hc
          have HF := Lib.hid (failS_any w8 r T s3 11 HX8.out.rd)
          go_wp2_with (first | (go_at_call 29; refine HB.out.mono ?_; rintro e w9 ⟨rfl, rfl⟩) | (go_at_call 30; refine HF.out.mono ?_; rintro e w10 ⟨rfl, hr10, hc10⟩))
          have HX10 := HX8.out.read HLAY.out hr10 hc10
          go_roundw
          case rel => exact ⟨_, HX10, HSTEP, HCH8.out.andThen hc10 (fun b hb e => by have := HLAY.out.hr; have e : b = r := e; omega)⟩
          case measure => rw [HX10.len]; exact HSL.out
        case false =>
          rw [if_neg (by simpa using hc)] at e
          rw [hc] at hcm
          clear hc
          have HTK : Hid (Calls Tryd.prog 50 #[.pointer (some ⟨w.heap.size + 1, 0, none⟩), .slice A7 vs.length k7, .pointer (some ⟨gs .data, 0, none⟩)] w8 (TakePost w8 (w.heap.size + 1) (takeP .data vs x.p))) := take_any x.p w8 .data (w.heap.size + 1) (gs .data) k7 _ A7 vs HV8.out HVN.out HVS.out (HX8.out.pl .data).2 HX8.out.p
          have hfn := HX8.out.tab.cell 8
          simp only [tabCells, cellsK, List.cons_append, List.nil_append, List.getElem?_cons_zero, List.getElem?_cons_succ, clo] at hfn
          have HKT := Lib.hid (takeP_tok .data vs x.p HX8.out.tok)
          have e2 : stepR x = if (takeP .data vs x.p).2 = true then ⟨(takeP .data vs x.p).1, x.came.set 2 true, s3⟩ else ⟨(takeP .data vs x.p).1, x.came, failSt 3 s3⟩ := e
          clear e
          generalize takeP .data vs x.p = tk at *
          obtain ⟨p', ok⟩ := tk
          have HKT2 : Hid (p'.tok.length = 16) := HKT.out
          have HSL2 := HSL
          have HSTEP2 := HSTEP
          rw [e2] at HSL2 HSTEP2
          clear e2 HSL HSTEP HKT
          cases ok
          case true =>
            rw [if_pos rfl] at HSL2 HSTEP2
            go_wp2_with (go_at_call 29; refine HB.out.mono ?_; rintro e w9 ⟨rfl, rfl⟩)
            refine HTK.out.mono ?_
            rintro e w9 ⟨rfl, hp9, hc9⟩
            have HX9 := Lib.hid (HX8.out.took HLAY.out HKT2.out hp9 hc9)
            have HCH9 : Hid (Chg none_ w w9) := HCH8.out.andThen hc9 (fun b hb e => by have e : b = w.heap.size + 1 := e; omega)
            have hf9 := HX9.out.came.frozen 2
            have hc9' := (HX9.out.came.cell 2).trans (bools_get _ 2 (by have := HX9.out.cl; simp only at this ⊢; omega))
            clear hcm hfz hp9 hc9
            go_wp2
            have HX10 := HX9.out.mark HLAY.out 2
            go_roundw
            case rel => exact ⟨_, HX10, HSTEP2, HCH9.out.setCell (p := ⟨w.heap.size + 1 + 1, 2, none⟩) (fun h => absurd h (by simp; omega)) _⟩
            case measure => rw [HX10.len]; exact HSL2.out
          case false =>
            rw [if_neg (by simp)] at HSL2 HSTEP2
            go_wp2_with (go_at_call 29; refine HB.out.mono ?_; rintro e w9 ⟨rfl, rfl⟩)
            refine HTK.out.mono ?_
            rintro e w9 ⟨rfl, hp9, hc9⟩
            have HX9 := Lib.hid (HX8.out.took HLAY.out HKT2.out hp9 hc9)
            have HCH9 : Hid (Chg none_ w w9) := HCH8.out.andThen hc9 (fun b hb e => by have e : b = w.heap.size + 1 := e; omega)
            have HF := Lib.hid (failS_any w9 r T s3 3 HX9.out.rd)
            clear hcm hfz hp9 hc9
            go_wp2_with (first | (go_at_call 30; refine HF.out.mono ?_; rintro e w10 ⟨rfl, hr10, hc10⟩))
            have HX10 := HX9.out.read HLAY.out hr10 hc10
            go_roundw
            case rel => exact ⟨_, HX10, HSTEP2, HCH9.out.andThen hc10 (fun b hb e => by have := HLAY.out.hr; have e : b = r := e; omega)⟩
            case measure => rw [HX10.len]; exact HSL2.out
      · have e := HSR.out
        rw [hix] at e
        rw [if_neg (by rw [HB0.out]; simp)] at e
        clear HSR
        rw [hix]
        clear hix
        have hcl : 3 < x.came.length := by have := HX8.out.cl; simp only at this; omega
        have hcm := (HX8.out.came.cell 3).trans (bools_get _ 3 hcl)
        have hfz := HX8.out.came.frozen 3
        clear hcl
        cases hc : x.came.getD 3 false
        case true =>
          rw [if_pos (by simpa using hc)] at e
          rw [e] at HSTEP HSL
          rw [hc] at hcm
          clear e hc
          have HF := Lib.hid (failS_any w8 r T s3 11 HX8.out.rd)
          go_wp2_with (first | (go_at_call 29; refine HB.out.mono ?_; rintro e w9 ⟨rfl, rfl⟩) | (go_at_call 30; refine HF.out.mono ?_; rintro e w10 ⟨rfl, hr10, hc10⟩))
          have HX10 := HX8.out.read HLAY.out hr10 hc10
          go_roundw
          case rel => exact ⟨_, HX10, HSTEP, HCH8.out.andThen hc10 (fun b hb e => by have := HLAY.out.hr; have e : b = r := e; omega)⟩
          case measure => rw [HX10.len]; exact HSL.out
        case false =>
          rw [if_neg (by simpa using hc)] at e
          rw [hc] at hcm
          clear hc
          have HTK : Hid (Calls Tryd.prog 50 #[.pointer (some ⟨w.heap.size + 1, 0, none⟩), .slice A7 vs.length k7, .pointer (some ⟨gs .stream, 0, none⟩)] w8 (TakePost w8 (w.heap.size + 1) (takeP .stream vs x.p))) := take_any x.p w8 .stream (w.heap.size + 1) (gs .stream) k7 _ A7 vs HV8.out HVN.out HVS.out (HX8.out.pl .stream).2 HX8.out.p
          have hfn := HX8.out.tab.cell 11
          simp only [tabCells, cellsK, List.cons_append, List.nil_append, List.getElem?_cons_zero, List.getElem?_cons_succ, clo] at hfn
          have HKT := Lib.hid (takeP_tok .stream vs x.p HX8.out.tok)
          have e2 : stepR x = if (takeP .stream vs x.p).2 = true then ⟨(takeP .stream vs x.p).1, x.came.set 3 true, s3⟩ else ⟨(takeP .stream vs x.p).1, x.came, failSt 3 s3⟩ := e
          clear e
          generalize takeP .stream vs x.p = tk at *
          obtain ⟨p', ok⟩ := tk
          have HKT2 : Hid (p'.tok.length = 16) := HKT.out
          have HSL2 := HSL
          have HSTEP2 := HSTEP
          rw [e2] at HSL2 HSTEP2
          clear e2 HSL HSTEP HKT
          cases ok
          case true =>
            rw [if_pos rfl] at HSL2 HSTEP2
            go_wp2_with (go_at_call 29; refine HB.out.mono ?_; rintro e w9 ⟨rfl, rfl⟩)
            refine HTK.out.mono ?_
            rintro e w9 ⟨rfl, hp9, hc9⟩
            have HX9 := Lib.hid (HX8.out.took HLAY.out HKT2.out hp9 hc9)
            have HCH9 : Hid (Chg none_ w w9) := HCH8.out.andThen hc9 (fun b hb e => by have e : b = w.heap.size + 1 := e; omega)
            have hf9 := HX9.out.came.frozen 3
            have hc9' := (HX9.out.came.cell 3).trans (bools_get _ 3 (by have := HX9.out.cl; simp only at this ⊢; omega))
            clear hcm hfz hp9 hc9
            go_wp2
            have HX10 := HX9.out.mark HLAY.out 3
            go_roundw
            case rel => exact ⟨_, HX10, HSTEP2, HCH9.out.setCell (p := ⟨w.heap.size + 1 + 1, 3, none⟩) (fun h => absurd h (by simp; omega)) _⟩
            case measure => rw [HX10.len]; exact HSL2.out
          case false =>
            rw [if_neg (by simp)] at HSL2 HSTEP2
            go_wp2_with (go_at_call 29; refine HB.out.mono ?_; rintro e w9 ⟨rfl, rfl⟩)
            refine HTK.out.mono ?_
            rintro e w9 ⟨rfl, hp9, hc9⟩
            have HX9 := Lib.hid (HX8.out.took HLAY.out HKT2.out hp9 hc9)
            have HCH9 : Hid (Chg none_ w w9) := HCH8.out.andThen hc9 (fun b hb e => by have e : b = w.heap.size + 1 := e; omega)
            have HF := Lib.hid (failS_any w9 r T s3 3 HX9.out.rd)
            clear hcm hfz hp9 hc9
            go_wp2_with (first | (go_at_call 30; refine HF.out.mono ?_; rintro e w10 ⟨rfl, hr10, hc10⟩))
            have HX10 := HX9.out.read HLAY.out hr10 hc10
            go_roundw
            case rel => exact ⟨_, HX10, HSTEP2, HCH9.out.andThen hc10 (fun b hb e => by have := HLAY.out.hr; have e : b = r := e; omega)⟩
            case measure => rw [HX10.len]; exact HSL2.out
      · have e := HSR.out
        rw [hix] at e
        rw [if_neg (by rw [HB0.out]; simp)] at e
        clear HSR
        rw [hix]
        clear hix
        have hcl : 4 < x.came.length := by have := HX8.out.cl; simp only at this; omega
        have hcm := (HX8.out.came.cell 4).trans (bools_get _ 4 hcl)
        have hfz := HX8.out.came.frozen 4
        clear hcl
        cases hc : x.came.getD 4 false
        case true =>
          rw [if_pos (by simpa using hc)] at e
          rw [e] at HSTEP HSL
          rw [hc] at hcm
          clear e hc
          have HF := Lib.hid (failS_any w8 r T s3 11 HX8.out.rd)
          go_wp2_with (first | (go_at_call 29; refine HB.out.mono ?_; rintro e w9 ⟨rfl, rfl⟩) | (go_at_call 30; refine HF.out.mono ?_; rintro e w10 ⟨rfl, hr10, hc10⟩))
          have HX10 := HX8.out.read HLAY.out hr10 hc10
          go_roundw
          case rel => exact ⟨_, HX10, HSTEP, HCH8.out.andThen hc10 (fun b hb e => by have := HLAY.out.hr; have e : b = r := e; omega)⟩
          case measure => rw [HX10.len]; exact HSL.out
        case false =>
          rw [if_neg (by simpa using hc)] at e
          rw [hc] at hcm
          clear hc
          have HTK : Hid (Calls Tryd.prog 50 #[.pointer (some ⟨w.heap.size + 1, 0, none⟩), .slice A7 vs.length k7, .pointer (some ⟨gs .streams, 0, none⟩)] w8 (TakePost w8 (w.heap.size + 1) (takeP .streams vs x.p))) := take_any x.p w8 .streams (w.heap.size + 1) (gs .streams) k7 _ A7 vs HV8.out HVN.out HVS.out (HX8.out.pl .streams).2 HX8.out.p
          have hfn := HX8.out.tab.cell 14
          simp only [tabCells, cellsK, List.cons_append, List.nil_append, List.getElem?_cons_zero, List.getElem?_cons_succ, clo] at hfn
          have HKT := Lib.hid (takeP_tok .streams vs x.p HX8.out.tok)
          have e2 : stepR x = if (takeP .streams vs x.p).2 = true then ⟨(takeP .streams vs x.p).1, x.came.set 4 true, s3⟩ else ⟨(takeP .streams vs x.p).1, x.came, failSt 3 s3⟩ := e
          clear e
          generalize takeP .streams vs x.p = tk at *
          obtain ⟨p', ok⟩ := tk
          have HKT2 : Hid (p'.tok.length = 16) := HKT.out
          have HSL2 := HSL
          have HSTEP2 := HSTEP
          rw [e2] at HSL2 HSTEP2
          clear e2 HSL HSTEP HKT
          cases ok
          case true =>
            rw [if_pos rfl] at HSL2 HSTEP2
            go_wp2_with (go_at_call 29; refine HB.out.mono ?_; rintro e w9 ⟨rfl, rfl⟩)
            refine HTK.out.mono ?_
            rintro e w9 ⟨rfl, hp9, hc9⟩
            have HX9 := Lib.hid (HX8.out.took HLAY.out HKT2.out hp9 hc9)
            have HCH9 : Hid (Chg none_ w w9) := HCH8.out.andThen hc9 (fun b hb e => by have e : b = w.heap.size + 1 := e; omega)
            have hf9 := HX9.out.came.frozen 4
            have hc9' := (HX9.out.came.cell 4).trans (bools_get _ 4 (by have := HX9.out.cl; simp only at this ⊢; omega))
            clear hcm hfz hp9 hc9
            go_wp2
            have HX10 := HX9.out.mark HLAY.out 4
            go_roundw
            case rel => exact ⟨_, HX10, HSTEP2, HCH9.out.setCell (p := ⟨w.heap.size + 1 + 1, 4, none⟩) (fun h => absurd h (by simp; omega)) _⟩
            case measure => rw [HX10.len]; exact HSL2.out
          case false =>
            rw [if_neg (by simp)] at HSL2 HSTEP2
            go_wp2_with (go_at_call 29; refine HB.out.mono ?_; rintro e w9 ⟨rfl, rfl⟩)
            refine HTK.out.mono ?_
            rintro e w9 ⟨rfl, hp9, hc9⟩
            have HX9 := Lib.hid (HX8.out.took HLAY.out HKT2.out hp9 hc9)
            have HCH9 : Hid (Chg none_ w w9) := HCH8.out.andThen hc9 (fun b hb e => by have e : b = w.heap.size + 1 := e; omega)
            have HF := Lib.hid (failS_any w9 r T s3 3 HX9.out.rd)
            clear hcm hfz hp9 hc9
            go_wp2_with (first | (go_at_call 30; refine HF.out.mono ?_; rintro e w10 ⟨rfl, hr10, hc10⟩))
            have HX10 := HX9.out.read HLAY.out hr10 hc10
            go_roundw
            case rel => exact ⟨_, HX10, HSTEP2, HCH9.out.andThen hc10 (fun b hb e => by have := HLAY.out.hr; have e : b = r := e; omega)⟩
            case measure => rw [HX10.len]; exact HSL2.out
end Go.Proofs.YthoiiibcceacnaaDoor
