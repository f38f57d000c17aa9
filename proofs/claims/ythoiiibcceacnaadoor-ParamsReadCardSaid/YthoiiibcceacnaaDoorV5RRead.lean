/- Layer 5 (params): Read, by the document's answer. -/
import Derived.Test.YthoiiibcceacnaaDoorV5RLS
import Derived.Deep.RegionHeld3
import Derived.Test.YthoiiibcceacnaaDoorRes
namespace Go.Proofs.YthoiiibcceacnaaDoor
open Go.RowKit

theorem cellsP_one (p : Pm) : (cellsP p).all (·.oneCell') = true := List.all_eq_true.2 fun u hu => by
  simp only [cellsP, List.mem_cons] at hu
  rcases hu with rfl | rfl | rfl | rfl | rfl | h
  · rfl
  · rfl
  · rfl
  · rfl
  · rfl
  · exact u8s_one p.tok u h

def zP : Pm := {}
theorem List.set_getElem?_self_of {α : Type} {l : List α} {i : Nat} {v : α} (h : l[i]? = some v) : l.set i v = l := by
  obtain ⟨hl, rfl⟩ := List.getElem?_eq_some_iff.1 h
  exact List.set_getElem_self hl
theorem Chg.at_ {n : Nat} {w w' : World} (h : Chg (· = n) w w') (i : Nat) (u : Value) : Chg (· = n) w (w'.setCell ⟨n, i, none⟩ u) := h.setCell (p := ⟨n, i, none⟩) (fun _ => rfl) u
theorem Row.same {w : World} {g i : Nat} {e : TypeId} {cs : List Value} {v : Value} (h : Row w g e cs) (hi : cs[i]? = some v) : Row (w.setCell ⟨g, i, none⟩ v) g e cs := by
  have := h.set i v
  rwa [List.set_getElem?_self_of hi] at this
/-- A zero struct was stored behind a read that ends all. -/
theorem rret_zero {w w9 : World} {bs : List Nat} {x : RX} {e : Int} (hrun : runR x = runR (begin bs)) (hx : x.s.1.length = 0) (he : x.s.2 = e) (h0 : e ≠ 0) (hc : Chg none_ w w9) : ReadPost w (readM bs) (.returned (.tuple #[.agg (cellsP {}).toArray, .int .i64 e])) w9 := by
  have : readM bs = ({}, e) := by
    unfold readM
    rw [← hrun, runR_end x hx, endR_bad x (by rw [he]; exact h0), he]
  rw [this]
  exact ⟨rfl, rfl, hc⟩

theorem tok_set (p : Pm) (v : List Nat) (k : Nat) (hv : v.length = 16) (hp : p.tok.length = 16) (hk : k < 16) :
    (cellsP { p with has := true, tok := v.take k ++ p.tok.drop k }).set (5 + k) (.int .u8 ((v.getD k 0 : Nat) : Int)) = cellsP { p with has := true, tok := v.take (k + 1) ++ p.tok.drop (k + 1) } := by
  have e : (u8s (v.take k ++ p.tok.drop k)).set k (.int .u8 ((v.getD k 0 : Nat) : Int)) = u8s (v.take (k + 1) ++ p.tok.drop (k + 1)) := by
    have hu : ∀ (l : List Nat) (i x : Nat), (u8s l).set i (.int .u8 (x : Int)) = u8s (l.set i x) := fun l i x => by simp [u8s, List.map_set]
    rw [hu]
    congr 1
    rw [List.set_append_right _ _ (by rw [List.length_take]; omega), List.length_take, Nat.min_eq_left (by omega), Nat.sub_self]
    rw [List.take_succ_eq_append_getElem (by omega), List.append_assoc]
    congr 1
    rw [List.drop_eq_getElem_cons (show k < p.tok.length by omega)]
    simp only [List.getD_eq_getElem?_getD, List.getElem?_eq_getElem (show k < v.length by omega), Option.getD_some]
    rfl
  unfold cellsP
  simp only
  rw [← e, Nat.add_comm 5 k]
  rfl
theorem hadL_get (c : List Bool) : (hadL c)[1]? = some (c.getD 0 false) ∧ (hadL c)[2]? = some (c.getD 1 false) ∧ (hadL c)[4]? = some (c.getD 2 false) ∧ (hadL c)[5]? = some (c.getD 3 false) ∧ (hadL c)[8]? = some (c.getD 4 false) := ⟨rfl, rfl, rfl, rfl, rfl⟩
theorem fail_end (e : Int) (s : St) (h : s.2 = 0) (he : e ≠ 0) : failSt e s = ([], e) := by unfold failSt; rw [if_neg (by rw [h]; simp [he])]
theorem idx_num (n : Nat) : (idxP n < 0 ∧ n ≠ 1 ∧ n ≠ 2 ∧ n ≠ 4 ∧ n ≠ 5 ∧ n ≠ 8) ∨ n = 1 ∨ n = 2 ∨ n = 4 ∨ n = 5 ∨ n = 8 := by
  unfold idxP
  repeat' split
  all_goals omega

set_option maxRecDepth 100000 in
set_option maxHeartbeats 40000000 in
theorem rread_any' (w : World) (A : Option Addr) (cap : Nat) (bs : List Nat) (hv : View w (fun _ => True) A bs.length (u8s bs)) (hl : bs.length ≤ 1000000) (hcap : bs.length ≤ cap) (hb : ∀ x ∈ bs, x < 256) :
    Calls Tryd.prog 18 #[.slice A bs.length cap] w (ReadPost w (readM bs)) := by
  have HV := Lib.hid hv
  have HLE := Lib.hid hl
  have HCAP := Lib.hid hcap
  have HB := Lib.hid hb
  clear hv hl hb hcap
  have hR0 := (((Row.new w 25 (cellsP {})).alloc (.cells (cellsP {}).toArray 25)).alloc (.cells (bools (List.replicate 9 false)).toArray 62)).alloc (.cells [.slice A bs.length cap, .int .i64 0, .int .i64 0].toArray 65)
  have hR1 := ((Row.new2 w (.cells (cellsP {}).toArray 25) 25 (cellsP {})).alloc (.cells (bools (List.replicate 9 false)).toArray 62)).alloc (.cells [.slice A bs.length cap, .int .i64 0, .int .i64 0].toArray 65)
  have hR2 : Row ((((w.alloc (.cells (cellsP {}).toArray 25)).alloc (.cells (cellsP {}).toArray 25)).alloc (.cells (bools (List.replicate 9 false)).toArray 62))) (w.heap.size + 1 + 1) 62 (bools (List.replicate 9 false)) := by
    have := Row.new2 (w.alloc (.cells (cellsP {}).toArray 25)) (.cells (cellsP {}).toArray 25) 62 (bools (List.replicate 9 false))
    simpa using this
  have hR2' := hR2.alloc (.cells [.slice A bs.length cap, .int .i64 0, .int .i64 0].toArray 65)
  have hR3 : Row (((((w.alloc (.cells (cellsP {}).toArray 25)).alloc (.cells (cellsP {}).toArray 25)).alloc (.cells (bools (List.replicate 9 false)).toArray 62))).alloc (.cells [.slice A bs.length cap, .int .i64 0, .int .i64 0].toArray 65)) (w.heap.size + 1 + 1 + 1) 65 [.slice A bs.length cap, .int .i64 0, .int .i64 0] := by
    have := Row.new (((w.alloc (.cells (cellsP {}).toArray 25)).alloc (.cells (cellsP {}).toArray 25)).alloc (.cells (bools (List.replicate 9 false)).toArray 62)) 65 [.slice A bs.length cap, .int .i64 0, .int .i64 0]
    simpa using this
  have hCC := ((((Chg.refl none_ w).alloc (.cells (cellsP {}).toArray 25)).alloc (.cells (cellsP {}).toArray 25)).alloc (.cells (bools (List.replicate 9 false)).toArray 62)).alloc (.cells [.slice A bs.length cap, .int .i64 0, .int .i64 0].toArray 65)
  have hLS : RLS w.heap.size (fun b => b < w.heap.size) bs _ (begin bs) := ⟨hR0, hR1, rfl, hR2', rfl, ⟨0, ⟨A, cap, hR3, HCAP.out, Nat.zero_le _, HLE.out, (HV.out.mono (T' := fun b => b < w.heap.size) (fun b hb _ => hb)).chg hCC (fun _ _ h => h)⟩, fun _ => rfl, fun q => absurd rfl q, HB.out⟩, fun b h => h⟩
  have HLS := Lib.hid hLS
  have HCC := Lib.hid hCC
  have HNT : Hid (¬ (fun b => b < w.heap.size) (w.heap.size + 1 + 1 + 1)) := by show ¬ (_ < _); omega
  clear hR0 hR1 hR2 hR2' hR3 hCC hLS
  generalize (fun b => b < w.heap.size) = T at HLS HNT
  go_enter Tryd.func18, Tryd.ntmps18
  go_wp2_with fail
  go_loopw [7] (fun _ wr => ∃ x, RLS w.heap.size T bs wr x ∧ x.s.2 = 0 ∧ Hid (runR x = runR (begin bs)) ∧ Chg none_ w wr) (fun _ wr => lenR wr (w.heap.size + 1 + 1 + 1))
  case atStart => exact ⟨begin bs, HLS.out, rfl, rfl, HCC.out⟩
  case round =>
    clear HLS HCC
    obtain ⟨x, hls, hb0, hrun, hch⟩ := hrel
    have HX := Lib.hid hls
    have HCH := Lib.hid hch
    have HB0 := Lib.hid hb0
    clear hls hch hb0
    have HLEFT := Lib.hid (rleft_st HX.out.rd)
    by_cases h0 : x.s.1.length = 0
    · as_aux_lemma =>
        have hz : decide (0 < x.s.1.length) = false := decide_eq_false (by omega)
        have HRUN : Hid (readM bs = if mayB x.p then (x.p, 0) else ({}, 3)) := by show _ = _; unfold readM; rw [← hrun.out, runR_end x h0, endR_ok x HB0.out]
        have HPL := Lib.hid (cP_len x.p HX.out.tok)
        have HMAY := Lib.hid (fun w => rmay_any x.p HX.out.tok w)
        have HPX : Hid (∀ w', Chg none_ wr w' → Row w' (w.heap.size + 1) 25 (cellsP x.p)) := fun w' hc => HX.out.p.chg hc (fun h => h)
        have HZX : Hid (∀ w', Chg none_ wr w' → Row w' w.heap.size 25 (cellsP {})) := fun w' hc => HX.out.z.chg hc (fun h => h)
        have HTOK := Lib.hid HX.out.tok
        have hcz : ∀ k, Chg none_ wr (wr.drewN k) := fun k => (Chg.refl none_ wr).drewN k
        clear h0 hrun
        unfold aggP at HMAY
        cases hm : mayB x.p
        · rw [hm] at HRUN
          simp only [hm] at HMAY
          clear hm
          go_wp2_with (first | ((with_reducible show wpList _ _ _ (⟨_, .load 25 _, _, _, _, _⟩ :: _) _ _); refine wlP rfl rfl rfl (HPX.out _ (by first | assumption | exact hcz _)) HPL.out ?_) | (go_at_call 31; refine HLEFT.out.mono ?_; rintro e w4 ⟨rfl, kd, rfl⟩) | (go_at_call 11; refine (HMAY.out _).mono ?_; rintro e w5 ⟨rfl, hc5⟩; have hc56 := ((Chg.refl none_ wr).drewN kd).trans hc5) | ((with_reducible show wpList _ _ _ (⟨_, .store 25 _ _, _, _, _, _⟩ :: _) _ _); refine wpList_store_Row (xs := cellsP {}) rfl rfl rfl (HZX.out _ (by assumption)) rfl (by first | rfl | exact HPL.out) (by first | exact sizeP | (rw [HPL.out]; exact sizeP)) (cellsP_one _) ?_; intro w9 hr9 hch9 hs9))
          refine ret_row2 rfl rfl hr9 Tryd.underlying25 rfl sizeP rfl ?_
          exact ⟨by rw [HRUN.out]; rfl, by rw [HRUN.out]; rfl, hch9 none_ w (HCH.out.trans hc56) (fun h => absurd h (by omega))⟩
        · rw [hm] at HRUN
          simp only [hm] at HMAY
          clear hm
          go_wp2_with (first | ((with_reducible show wpList _ _ _ (⟨_, .load 25 _, _, _, _, _⟩ :: _) _ _); refine wlP rfl rfl rfl (HPX.out _ (by first | assumption | exact hcz _)) HPL.out ?_) | (go_at_call 31; refine HLEFT.out.mono ?_; rintro e w4 ⟨rfl, kd, rfl⟩) | (go_at_call 11; refine (HMAY.out _).mono ?_; rintro e w5 ⟨rfl, hc5⟩; have hc56 := ((Chg.refl none_ wr).drewN kd).trans hc5) | ((with_reducible show wpList _ _ _ (⟨_, .store 25 _ _, _, _, _, _⟩ :: _) _ _); refine wpList_store_Row (xs := cellsP x.p) rfl rfl rfl (HZX.out _ (by assumption)) rfl (by first | rfl | exact HPL.out) (by first | exact sizeP | (rw [HPL.out]; exact sizeP)) (cellsP_one _) ?_; intro w9 hr9 hch9 hs9))
          refine ret_row2 rfl rfl hr9 Tryd.underlying25 rfl (by rw [HPL.out]; exact sizeP) rfl ?_
          exact ⟨by rw [HRUN.out]; rfl, by rw [HRUN.out]; exact HTOK.out, hch9 none_ w (HCH.out.trans hc56) (fun h => absurd h (by omega))⟩
    · have hz : decide (0 < x.s.1.length) = true := decide_eq_true (by omega)
      have hst := runR_step x h0
      have hsl := stepR_less x h0
      have HSTEP : Hid (runR (stepR x) = runR (begin bs)) := by show _ = _; rw [← hst]; exact hrun.out
      have HSL : Hid ((stepR x).s.1.length < lenR wr (w.heap.size + 1 + 1 + 1)) := by show _ < _; rw [HX.out.len HB0.out]; exact hsl
      clear h0 hst hsl hrun
      have HNLT := Lib.hid (rdInt_lt x.s HX.out.rd.mem)
      obtain ⟨N, hN⟩ : ∃ N, (rdInt x.s).1 = N := ⟨_, rfl⟩
      obtain ⟨s1, hs1⟩ : ∃ s1, (rdInt x.s).2 = s1 := ⟨_, rfl⟩
      obtain ⟨M, hM⟩ : ∃ M, (rdInt s1).1 = M := ⟨_, rfl⟩
      obtain ⟨s2, hs2⟩ : ∃ s2, (rdInt s1).2 = s2 := ⟨_, rfl⟩
      obtain ⟨vs, hvs⟩ : ∃ vs, (rdBytes M s2).1 = vs := ⟨_, rfl⟩
      obtain ⟨s3, hs3⟩ : ∃ s3, (rdBytes M s2).2 = s3 := ⟨_, rfl⟩
      have hSR : stepR x = if s3.2 ≠ 0 ∨ idxP N < 0 then { x with s := s3 } else if x.came.getD (idxP N).toNat false = true then { x with s := failSt 11 s3 }
          else if (takeP (Pk.all.getD (idxP N).toNat .idle) vs x.p).2 = true then ⟨(takeP (Pk.all.getD (idxP N).toNat .idle) vs x.p).1, x.came.set (idxP N).toNat true, s3⟩
          else ⟨(takeP (Pk.all.getD (idxP N).toNat .idle) vs x.p).1, x.came, failSt 3 s3⟩ := by
        unfold stepR; rw [hN, hs1, hM, hs2, hvs, hs3]
      have HSR := Lib.hid hSR
      rw [hN] at HNLT
      have HI1 : Hid (∀ w', Chg none_ wr w' → Calls Tryd.prog 32 #[.pointer (some ⟨w.heap.size + 1 + 1 + 1, 0, none⟩)] w' fun e w'' => e = .returned (.int .u64 (N : Nat)) ∧ RS w'' (w.heap.size + 1 + 1 + 1) T bs s1 ∧ Chg (· = w.heap.size + 1 + 1 + 1) w' w'') := fun w' hc => by
        have := rint_st (HX.out.keep hc).rd HNT.out
        rwa [hN, hs1] at this
      have HI2 : Hid (∀ w', RS w' (w.heap.size + 1 + 1 + 1) T bs s1 → Calls Tryd.prog 32 #[.pointer (some ⟨w.heap.size + 1 + 1 + 1, 0, none⟩)] w' fun e w'' => e = .returned (.int .u64 (M : Nat)) ∧ RS w'' (w.heap.size + 1 + 1 + 1) T bs s2 ∧ Chg (· = w.heap.size + 1 + 1 + 1) w' w'') := fun w' h => by
        have := rint_st h HNT.out
        rwa [hM, hs2] at this
      have HBP : Hid (∀ w', RS w' (w.heap.size + 1 + 1 + 1) T bs s2 → Calls Tryd.prog 33 #[.pointer (some ⟨w.heap.size + 1 + 1 + 1, 0, none⟩), .int .u64 M] w' fun e w'' => ∃ A c, e = .returned (.slice A vs.length c) ∧ vs.length ≤ c ∧ View w'' (fun b => w'.heap.size ≤ b) A vs.length (u8s vs) ∧ RS w'' (w.heap.size + 1 + 1 + 1) T bs s3 ∧ Chg (· = w.heap.size + 1 + 1 + 1) w' w'') := fun w' h => by
        have := rbytes_stc M h HNT.out
        rwa [hvs, hs3] at this
      have HVB : Hid ((∀ b ∈ s2.1, b < 256) → ∀ b ∈ vs, b < 256) := fun h => by have := (rdBytes_mem M s2 h).1; rwa [hvs] at this
      have HVL : Hid (s2.1.length ≤ 1000000 → vs.length ≤ 1000000) := fun h => by
        have : (rdBytes M s2).1.length ≤ s2.1.length := by
          unfold rdBytes; split
          · simp
          · split
            · simp only [List.length_take]; omega
            · simp
        rw [hvs] at this; omega
      have HZ3 : Hid (s3.2 ≠ 0 → s3.1 = []) := fun h => by
        rw [← hs3] at h ⊢
        unfold rdBytes at h ⊢
        split
        · rfl
        · split
          · rename_i q1 q2; rw [if_neg q1, if_pos q2] at h; exact absurd rfl h
          · rfl
      clear hN hs1 hM hs2 hvs hs3 hSR
      go_wp2_with (go_at_call 31; refine HLEFT.out.mono ?_; rintro e w4 ⟨rfl, kd, rfl⟩)
      refine (HI1.out _ ((Chg.refl none_ wr).drewN kd)).mono ?_
      rintro e w5 ⟨rfl, hr5, hc5⟩
      have HX5 := Lib.hid ((HX.out.keep ((Chg.refl none_ wr).drewN kd)).read hr5 hc5)
      have HC5 := Lib.hid (((Chg.refl (· = w.heap.size + 1 + 1 + 1) wr).drewN kd).trans hc5)
      clear hr5 hc5
      go_wp2_with fail
      refine (HI2.out _ HX5.out.rd).mono ?_
      rintro e w6 ⟨rfl, hr6, hc6⟩
      have HX6 := Lib.hid (HX5.out.read hr6 hc6)
      have HC6 := Lib.hid (HC5.out.trans hc6)
      clear hr6 hc6
      go_wp2_with fail
      refine (HBP.out _ HX6.out.rd).mono ?_
      rintro e w7 ⟨A7, k7, rfl, hk7, hv7, hr7, hc7⟩
      have HX7 := Lib.hid (HX6.out.read hr7 hc7)
      have HCH7 : Hid (Chg none_ w w7) := HCH.out.andThen (HC6.out.trans hc7) (fun b hb e => by have e : b = w.heap.size + 1 + 1 + 1 := e; omega)
      have HVS := Lib.hid (HVB.out HX6.out.rd.mem)
      have HVN := Lib.hid (HVL.out HX6.out.rd.len)
      have HV7 : Hid (View w7 (fun b => w.heap.size + 1 + 1 + 1 < b) A7 vs.length (u8s vs)) := hv7.mono (fun b _ hb => by have := HX6.out.rd.lt; omega)
      have HK7 := Lib.hid hk7
      clear hv7 hr7 hc7 hk7 HX HX5 HX6 HC5 HC6 HI1 HI2 HBP HVB HVL HLEFT HCH HB0
      have hcb : w7.cell? ⟨w.heap.size + 1 + 1 + 1, 2, none⟩ = some (.int .i64 s3.2) := by
        obtain ⟨_, _, _, q⟩ := HX7.out.rd.bad
        exact q.cell 2
      by_cases hb : s3.2 = 0
      case neg =>
        have hne : (s3.2 != 0) = true := by simp [hb]
        have e := HSR.out
        rw [if_pos (.inl hb)] at e
        rw [e] at HSTEP HSL
        have HZ := Lib.hid (HZ3.out hb)
        have HBN := Lib.hid hb
        clear hb e HSR HZ3 HSL
        have HCX : Hid (∀ w', Chg (· = w.heap.size) w7 w' → w'.cell? ⟨w.heap.size + 1 + 1 + 1, 2, none⟩ = some (.int .i64 s3.2)) := fun w' hc => (hc.cell 2 HX7.out.rd.lt (by omega)).trans hcb
        have hch0 : Chg (· = w.heap.size) w7 w7.drew := (Chg.refl _ _).drew
        have hch0n : Chg none_ w7 w7.drew := (Chg.refl _ _).drew
        have hzr := HX7.out.z.chg hch0n (fun h => h)
        obtain ⟨BV, hBV⟩ : ∃ BV, s3.2 = BV := ⟨_, rfl⟩
        rw [hBV] at HCX hcb hne
        have HBV := Lib.hid hBV
        clear hBV
        go_wp2
        refine wp_region_held_drew (S := fun w' => Chg (· = w.heap.size) w7 w') (by kernel_rfl) (hch0) (fun _ => ?_)
        refine wpAnyH_take (i := 0) (v := .agg (cellsP zP).toArray) rfl (by kernel_rfl) (by kernel_rfl) (by kernel_rfl) (by first | exact fun _ _ _ h => h | exact fun _ _ _ h => nomatch h.1) (Or.inl ⟨by rfl, fun w' hw' => by go_simp; rfl⟩) hch0 ?_
        refine wpAnyH_take (i := 1) (v := .pointer (some ⟨w.heap.size + 1 + 1 + 1, 0, none⟩)) rfl (by kernel_rfl) (by kernel_rfl) (by kernel_rfl) (by first | exact fun _ _ _ h => h | exact fun _ _ _ h => nomatch h.1) (Or.inl ⟨by rfl, fun w_ hw_ => by go_simp⟩) hch0 ?_
        try simp only [Act.put, List.setIfInBounds_toArray, List.set_cons_zero, List.set_cons_succ, List.getElem_toArray, List.getElem_cons_succ, List.getElem_cons_zero]
        refine wpAnyH_take (i := 2) (v := .pointer (some ⟨w.heap.size + 1 + 1 + 1, 0, none⟩)) rfl (by kernel_rfl) (by kernel_rfl) (by kernel_rfl) (by first | exact fun _ _ _ h => h | exact fun _ _ _ h => nomatch h.1) (Or.inl ⟨by rfl, fun w_ hw_ => by go_simp⟩) hch0 ?_
        try simp only [Act.put, List.setIfInBounds_toArray, List.set_cons_zero, List.set_cons_succ, List.getElem_toArray, List.getElem_cons_succ, List.getElem_cons_zero]
        refine wpAnyH_take (i := 3) (v := .pointer (some ⟨w.heap.size + 1 + 1 + 1, 2, none⟩)) rfl (by kernel_rfl) (by kernel_rfl) (by kernel_rfl) (by first | exact fun _ _ _ h => h | exact fun _ _ _ h => nomatch h.1) (Or.inl ⟨by rfl, fun w_ hw_ => by go_simp⟩) hch0 ?_
        try simp only [Act.put, List.setIfInBounds_toArray, List.set_cons_zero, List.set_cons_succ, List.getElem_toArray, List.getElem_cons_succ, List.getElem_cons_zero]
        refine wpAnyH_take (i := 4) (v := .int .i64 BV) rfl (by kernel_rfl) (by kernel_rfl) (by kernel_rfl) (by first | exact fun _ _ _ h => h | exact fun _ _ _ h => nomatch h.1) (Or.inl ⟨by rfl, fun w' hw' => by have hh := HCX.out w' hw'; go_simp⟩) hch0 ?_
        try simp only [Act.put, List.setIfInBounds_toArray, List.set_cons_zero, List.set_cons_succ, List.getElem_toArray, List.getElem_cons_succ, List.getElem_cons_zero]
        refine wpAnyH_ready (rs := [5]) (by kernel_rfl) (by simp) ?_
        refine AllReadyH.cons rfl (fun K hK => ?_) AllReadyH.nil
        rw [if_pos (by rfl)]
        try simp only [Act.put, List.setIfInBounds_toArray, List.set_cons_zero, List.set_cons_succ, List.getElem_toArray, List.getElem_cons_succ, List.getElem_cons_zero]
        refine wp_store_whole (ty := 25) (xs := cellsP zP) rfl rfl (hzr) rfl (rfl) sizeP (cellsP_one _) ?_
        intro w9 hr_w9 hc_w9
        have hq9 := hc_w9 (· = w.heap.size) w7 hch0 (fun _ => rfl)
        refine hK.out _ _ hq9 (fun _ => ?_)
        clear hK K
        try simp only [Act.put, List.setIfInBounds_toArray, List.set_cons_zero, List.set_cons_succ, List.getElem_toArray, List.getElem_cons_succ, List.getElem_cons_zero]
        refine wpAnyH_take (i := 6) (v := .int .i64 BV) rfl (by kernel_rfl) (by kernel_rfl) (by kernel_rfl) (by first | exact fun _ _ _ h => h | exact fun _ _ _ h => nomatch h.1) (Or.inl ⟨by rfl, fun w_ hw_ => by go_simp⟩) hq9 ?_
        try simp only [Act.put, List.setIfInBounds_toArray, List.set_cons_zero, List.set_cons_succ, List.getElem_toArray, List.getElem_cons_succ, List.getElem_cons_zero]
        refine wpAnyH_done (by kernel_rfl) ?_ _
        go_wp2
        refine ret_row2 rfl rfl hr_w9 Tryd.underlying25 rfl sizeP rfl ?_
        exact rret_zero HSTEP.out (by show s3.1.length = 0; rw [HZ.out]; rfl) HBV.out (by rw [← HBV.out]; exact HBN.out) (hc_w9 none_ w (HCH7.out.trans hch0n) (fun h => absurd h (by omega)))
      have hne : (s3.2 != 0) = false := by simp [hb]
      have HB3 := Lib.hid hb
      clear hb
      rcases idx_num N with hix | hix | hix | hix | hix | hix
      · as_aux_lemma =>
          obtain ⟨hix, n1, n2, n4, n5, n8⟩ := hix
          have e := HSR.out
          rw [if_pos (.inr hix)] at e
          rw [e] at HSTEP HSL
          have m1 : ((N : Int) != 1) = true := by simp; omega
          have m2 : ((N : Int) != 2) = true := by simp; omega
          have m4 : ((N : Int) != 4) = true := by simp; omega
          have m5 : ((N : Int) != 5) = true := by simp; omega
          have m8 : ((N : Int) != 8) = true := by simp; omega
          clear e HSR hix n1 n2 n4 n5 n8
          go_wp2
          go_roundw
          case rel => exact ⟨_, HX7.out, HB3.out, HSTEP, HCH7.out⟩
          case measure => rw [HX7.out.len HB3.out]; exact HSL.out
      · subst hix
        have e := HSR.out
        rw [if_neg (by rw [HB3.out]; decide)] at e
        have hcm := (HX7.out.had.cell 1).trans (show (bools (hadL x.came))[1]? = some (.bool (x.came.getD 0 false)) by simp [bools, (hadL_get x.came).1])
        have hfz := HX7.out.had.frozen 1
        clear HSR HZ3
        cases hc : x.came.getD 0 false
        case true =>
          as_aux_lemma =>
            rw [show (idxP 1).toNat = 0 from rfl, if_pos hc] at e
            rw [e, fail_end 11 s3 HB3.out (by decide)] at HSTEP
            rw [hc] at hcm
            clear e hc HSL
            go_wp2_with ((with_reducible show wpList _ _ _ (⟨_, .store 25 _ _, _, _, _, _⟩ :: _) _ _); refine wpList_store_Row (xs := cellsP {}) rfl rfl rfl HX7.out.z rfl rfl sizeP (cellsP_one _) ?_; intro w19 hr19 hch19 hs19)
            refine ret_row2 rfl rfl hr19 Tryd.underlying25 rfl sizeP rfl ?_
            exact rret_zero HSTEP.out rfl rfl (by decide) (hch19 none_ w HCH7.out (fun h => absurd h (by omega)))
        case false =>
          as_aux_lemma =>
            rw [if_neg (by rw [show (idxP 1).toNat = 0 from rfl, hc]; decide)] at e
            have e2 : stepR x = if (takeP .idle vs x.p).2 = true then ⟨(takeP .idle vs x.p).1, x.came.set 0 true, s3⟩ else ⟨(takeP .idle vs x.p).1, x.came, failSt 3 s3⟩ := e
            have HKT := Lib.hid (takeP_tok .idle vs x.p HX7.out.tok)
            rw [hc] at hcm
            clear e hc
            rw [e2] at HSTEP HSL
            clear e2
            have HM8 := Lib.hid (HX7.out.mark 0 1 (hadL_set x.came HX7.out.cl).1)
            have HCH8 : Hid (Chg none_ w (w7.setCell ⟨w.heap.size + 1 + 1, 1, none⟩ (.bool true))) := HCH7.out.setCell (p := ⟨w.heap.size + 1 + 1, 1, none⟩) (fun h => absurd h (by simp; omega)) _
            have HV8 := Lib.hid (HV7.out.setCell ⟨w.heap.size + 1 + 1, 1, none⟩ (by show ¬ (w.heap.size + 1 + 1 + 1 < w.heap.size + 1 + 1); omega) (.bool true))
            have HRB : Hid (∀ (W8 : World) , View W8 (fun b => w.heap.size + 1 + 1 + 1 < b) A7 vs.length (u8s vs) → RS (W8.alloc (.cells [.slice A7 vs.length k7, .int .i64 0, .int .i64 0].toArray 65)) W8.heap.size (fun b => b < W8.heap.size) vs (vs, 0)) := fun W8 hv => ⟨0, ⟨A7, k7, Row.new _ _ _, HK7.out, Nat.zero_le _, HVN.out, (hv.mono (T' := fun b => b < W8.heap.size) (fun b hb _ => hb)).chg ((Chg.refl none_ W8).alloc _) (fun _ _ h => h)⟩, fun _ => rfl, fun q => absurd rfl q, HVS.out⟩
            have HTP : Hid (takeP .idle vs x.p = (setP .idle (rdInt (vs, 0)).1 x.p, decide ((rdInt (vs, 0)).2.2 = 0) && decide ((rdInt (vs, 0)).2.1.length = 0))) := rfl
            obtain ⟨W8, hW8⟩ : ∃ W8, W8 = w7.setCell ⟨w.heap.size + 1 + 1, 1, none⟩ (.bool true) := ⟨_, rfl⟩
            have HSZ8 : Hid (W8.heap.size = w7.heap.size) := by show _ = _; rw [hW8]; simp
            rw [← hW8] at HM8 HCH8 HV8
            go_wp2_with fail
            rw [← hW8]
            clear hW8 hcm hfz hcb
            have hRS := HRB.out W8 HV8.out
            rw [HSZ8.out] at hRS
            have HRS := Lib.hid hRS
            clear hRS
            refine (rint_st HRS.out (Nat.lt_irrefl _)).mono ?_
            rintro e w10 ⟨rfl, hr10, hc10⟩
            have hca : Chg none_ W8 (W8.alloc (.cells [.slice A7 vs.length k7, .int .i64 0, .int .i64 0].toArray 65)) := (Chg.refl none_ W8).alloc _
            have hc8 : Chg none_ W8 w10 := hca.andThen hc10 (fun b hb e => by have e : b = w7.heap.size := e; have := HSZ8.out; omega)
            have HX10 := Lib.hid (HM8.out.keep hc8)
            have HCH10 := Lib.hid (HCH8.out.trans hc8)
            have hcb : w10.cell? ⟨w7.heap.size, 2, none⟩ = some (.int .i64 (rdInt (vs, 0)).2.2) := by
              obtain ⟨_, _, _, q⟩ := hr10.bad
              exact q.cell 2
            have HL2 := Lib.hid (rleft_st hr10)
            clear hr10 hc10 hca hc8 HRS HRB HM8 HCH8 HV8
            generalize (rdInt (vs, 0)).2 = sy at *
            generalize (rdInt (vs, 0)).1 = y at *
            have HFAIL : Hid ((takeP .idle vs x.p).2 = false → runR ⟨(takeP .idle vs x.p).1, x.came, ([], 3)⟩ = runR (begin bs)) := fun h => by
              have := HSTEP.out
              rwa [if_neg (by rw [h]; decide), fail_end 3 s3 HB3.out (by decide)] at this
            by_cases hy : sy.2 = 0
            · have hy1 : (sy.2 != 0) = false := by simp [hy]
              by_cases hy2 : sy.1.length = 0
              · have hy3 : ((sy.1.length : Int) != 0) = false := by simp; exact List.eq_nil_of_length_eq_zero hy2
                rw [HTP.out] at HSTEP HSL
                rw [if_pos (by simp [hy, List.eq_nil_of_length_eq_zero hy2])] at HSTEP HSL
                have hpc := (HX10.out.p.cell 0).trans (cells_getP .idle x.p)
                have hpf := HX10.out.p.frozen 0
                clear hy hy2 HFAIL
                go_wp2_with (go_at_call 31; refine HL2.out.mono ?_; rintro e w11 ⟨rfl, kd2, rfl⟩)
                have HX11 := HX10.out.keep ((Chg.refl none_ w10).drewN kd2)
                have hpr : Row ((w10.drewN kd2).setCell ⟨w.heap.size + 1, 0, none⟩ (.int .u64 (y : Int))) (w.heap.size + 1) 25 ((cellsP x.p).set (ixP .idle) (.int .u64 (y : Int))) := HX11.p.set 0 (.int .u64 (y : Int))
                rw [cells_setP .idle y x.p] at hpr
                have hcp : Chg (· = w.heap.size + 1) (w10.drewN kd2) ((w10.drewN kd2).setCell ⟨w.heap.size + 1, 0, none⟩ (.int .u64 (y : Int))) := (Chg.refl (· = w.heap.size + 1) (w10.drewN kd2)).setCell (p := ⟨w.heap.size + 1, 0, none⟩) (fun _ => rfl) _
                have HXF := HX11.took (p := setP .idle y x.p) (by have := HKT.out; rwa [HTP.out] at this) hpr hcp
                go_roundw
                case rel => exact ⟨_, HXF, HB3.out, HSTEP, (HCH10.out.drewN kd2).andThen hcp (fun b hb e => by have e : b = w.heap.size + 1 := e; omega)⟩
                case measure => rw [HXF.len HB3.out]; exact HSL.out
              · have hy3 : ((sy.1.length : Int) != 0) = true := by simp; intro e; exact hy2 (by rw [e]; rfl)
                have HF := HFAIL.out (by rw [HTP.out]; simp [hy]; intro e; exact hy2 (by rw [e]; rfl))
                have HF2 := Lib.hid HF
                have HZR := Lib.hid (fun k => (HX10.out.keep ((Chg.refl none_ w10).drewN k)).z)
                clear hy hy2 HFAIL HF HSTEP HSL
                go_wp2_with (first | (go_at_call 31; refine HL2.out.mono ?_; rintro e w11 ⟨rfl, kd2, rfl⟩) | ((with_reducible show wpList _ _ _ (⟨_, .store 25 _ _, _, _, _, _⟩ :: _) _ _); refine wpList_store_Row (xs := cellsP {}) rfl rfl rfl (HZR.out _) rfl rfl sizeP (cellsP_one _) ?_; intro w19 hr19 hch19 hs19))
                refine ret_row2 rfl rfl hr19 Tryd.underlying25 rfl sizeP rfl ?_
                exact rret_zero HF2.out rfl rfl (by decide) (hch19 none_ w (HCH10.out.drewN kd2) (fun h => absurd h (by omega)))
            · have hy1 : (sy.2 != 0) = true := by simp [hy]
              have HF2 := Lib.hid (HFAIL.out (by rw [HTP.out]; simp [hy]))
              have HZR := Lib.hid HX10.out.z
              clear hy HFAIL HSTEP HSL
              go_wp2_with ((with_reducible show wpList _ _ _ (⟨_, .store 25 _ _, _, _, _, _⟩ :: _) _ _); refine wpList_store_Row (xs := cellsP {}) rfl rfl rfl HZR.out rfl rfl sizeP (cellsP_one _) ?_; intro w19 hr19 hch19 hs19)
              refine ret_row2 rfl rfl hr19 Tryd.underlying25 rfl sizeP rfl ?_
              exact rret_zero HF2.out rfl rfl (by decide) (hch19 none_ w HCH10.out (fun h => absurd h (by omega)))
      · subst hix
        have e := HSR.out
        rw [if_neg (by rw [HB3.out]; decide)] at e
        have hcm := (HX7.out.had.cell 2).trans (show (bools (hadL x.came))[2]? = some (.bool (x.came.getD 1 false)) by simp [bools, (hadL_get x.came).2.1])
        have hfz := HX7.out.had.frozen 2
        clear HSR HZ3
        cases hc : x.came.getD 1 false
        case true =>
          as_aux_lemma =>
            rw [show (idxP 2).toNat = 1 from rfl, if_pos hc] at e
            rw [e, fail_end 11 s3 HB3.out (by decide)] at HSTEP
            rw [hc] at hcm
            clear e hc HSL
            go_wp2_with ((with_reducible show wpList _ _ _ (⟨_, .store 25 _ _, _, _, _, _⟩ :: _) _ _); refine wpList_store_Row (xs := cellsP {}) rfl rfl rfl HX7.out.z rfl rfl sizeP (cellsP_one _) ?_; intro w19 hr19 hch19 hs19)
            refine ret_row2 rfl rfl hr19 Tryd.underlying25 rfl sizeP rfl ?_
            exact rret_zero HSTEP.out rfl rfl (by decide) (hch19 none_ w HCH7.out (fun h => absurd h (by omega)))
        case false =>
          as_aux_lemma =>
            rw [if_neg (by rw [show (idxP 2).toNat = 1 from rfl, hc]; decide)] at e
            have e2 : stepR x = if (takeP .token vs x.p).2 = true then ⟨(takeP .token vs x.p).1, x.came.set 1 true, s3⟩ else ⟨(takeP .token vs x.p).1, x.came, failSt 3 s3⟩ := e
            have HKT := Lib.hid (takeP_tok .token vs x.p HX7.out.tok)
            rw [hc] at hcm
            clear e hc
            rw [e2] at HSTEP HSL
            clear e2
            have HM8 := Lib.hid (HX7.out.mark 1 2 (hadL_set x.came HX7.out.cl).2.1)
            have HCH8 : Hid (Chg none_ w (w7.setCell ⟨w.heap.size + 1 + 1, 2, none⟩ (.bool true))) := HCH7.out.setCell (p := ⟨w.heap.size + 1 + 1, 2, none⟩) (fun h => absurd h (by simp; omega)) _
            have HV8 := Lib.hid (HV7.out.setCell ⟨w.heap.size + 1 + 1, 2, none⟩ (by show ¬ (w.heap.size + 1 + 1 + 1 < w.heap.size + 1 + 1); omega) (.bool true))
            by_cases h16 : vs.length = 16
            · have hTP : takeP .token vs x.p = ({ x.p with has := true, tok := vs }, true) := by unfold takeP; rw [if_pos h16]
              rw [hTP] at HSTEP HSL
              rw [if_pos rfl] at HSTEP HSL
              obtain ⟨b, o, rfl, hbl, hbT, hbc⟩ := HV8.out.2 (by omega)
              have HVC : Hid (∀ k, k < 16 → (w7.setCell ⟨w.heap.size + 1 + 1, 2, none⟩ (.bool true)).cell? ⟨b, o + k, none⟩ = some (.int .u8 ((vs.getD k 0 : Nat) : Int))) := fun k hk => by
                rw [hbc k (by omega), u8s_get]; simp [show k < vs.length by omega, List.getD]
              have HBL := Lib.hid hbl
              have HBT := Lib.hid hbT
              have h4 := (HX7.out.p.cell 4).trans (cP_4 x.p)
              have f4 := HX7.out.p.frozen 4
              have H16 := Lib.hid h16
              have HTOK := Lib.hid HX7.out.tok
              clear hTP hbl hbT hbc HV7 HV8
              obtain ⟨W8, hW8⟩ : ∃ W8, W8 = w7.setCell ⟨w.heap.size + 1 + 1, 2, none⟩ (.bool true) := ⟨_, rfl⟩
              rw [h16]
              clear h16
              rw [← hW8] at HM8 HCH8 HVC HBL
              go_wp2_with fail
              rw [← hW8]
              clear hW8 hcm hfz h4 f4 hcb
              have hp4 := HM8.out.p.set 4 (.bool true)
              have hc4 : Chg (· = w.heap.size + 1) W8 (W8.setCell ⟨w.heap.size + 1, 4, none⟩ (.bool true)) := (Chg.refl (· = w.heap.size + 1) W8).setCell (p := ⟨w.heap.size + 1, 4, none⟩) (fun _ => rfl) _
              have HP4 := Lib.hid hp4
              have HC4 := Lib.hid hc4
              clear hp4 hc4
              go_loopw [10] (fun i wr => ∃ k : Nat, k ≤ 16 ∧ i = .int .i64 k ∧ Row wr (w.heap.size + 1) 25 (cellsP { x.p with has := true, tok := vs.take k ++ x.p.tok.drop k }) ∧ Chg (· = w.heap.size + 1) W8 wr) (fun i _ => 16 - (intOf i).toNat)
              case atStart => exact ⟨0, by omega, rfl, HP4.out, HC4.out⟩
              case round =>
                obtain ⟨k, hk, rfl, hrow, hcq⟩ := hrel
                by_cases hlt : k < 16
                · have hck := (hcq.cell (o + k) HBL.out (by have := HBT.out; omega)).trans (HVC.out k hlt)
                  have hpc : wr.cell? ⟨w.heap.size + 1, 5 + k, none⟩ = some (.int .u8 (((vs.take k ++ x.p.tok.drop k).getD k 0 : Nat) : Int)) := by
                    rw [hrow.cell, Nat.add_comm 5 k]
                    show (u8s (vs.take k ++ x.p.tok.drop k))[k]? = _
                    rw [u8s_get]
                    have : k < (vs.take k ++ x.p.tok.drop k).length := by rw [List.length_append, List.length_take, List.length_drop, H16.out, HTOK.out]; omega
                    rw [List.getD_eq_getElem?_getD, List.getElem?_eq_getElem this]; rfl
                  have hpf := hrow.frozen (5 + k)
                  have HRS := Lib.hid (hrow.set (5 + k) (.int .u8 ((vs.getD k 0 : Nat) : Int)))
                  have HCQ := Lib.hid hcq
                  clear hrow hcq
                  have HTS := Lib.hid (tok_set x.p vs k H16.out HTOK.out hlt)
                  generalize vs.getD k 0 = z at *
                  go_wp2
                  go_roundw
                  case rel => exact ⟨k + 1, by omega, by go_num, by have := HRS.out; rwa [HTS.out] at this, HCQ.out.setCell (p := ⟨w.heap.size + 1, 5 + k, none⟩) (fun _ => rfl) _⟩
                  case measure => simp [intOf]; omega
                · obtain rfl : k = 16 := by omega
                  rw [List.take_of_length_le (by rw [H16.out]; omega), List.drop_eq_nil_of_le (by rw [HTOK.out]; omega), List.append_nil] at hrow
                  have HXF := HM8.out.took (p := { x.p with has := true, tok := vs }) H16.out hrow hcq
                  have HCQ := Lib.hid hcq
                  clear hrow hcq
                  go_wp2
                  go_roundw
                  case rel => exact ⟨_, HXF, HB3.out, HSTEP, HCH8.out.andThen HCQ.out (fun b hb e => by have e : b = w.heap.size + 1 := e; omega)⟩
                  case measure => rw [HXF.len HB3.out]; exact HSL.out
            · have hTP : takeP .token vs x.p = (x.p, false) := by unfold takeP; rw [if_neg h16]
              rw [hTP] at HSTEP
              rw [if_neg (by simp), fail_end 3 s3 HB3.out (by decide)] at HSTEP
              have hne16 : ((vs.length : Int) != 16) = true := by simp; omega
              have HZR := Lib.hid HM8.out.z
              clear hTP h16 HSL
              go_wp2_with ((with_reducible show wpList _ _ _ (⟨_, .store 25 _ _, _, _, _, _⟩ :: _) _ _); refine wpList_store_Row (xs := cellsP {}) rfl rfl rfl HZR.out rfl rfl sizeP (cellsP_one _) ?_; intro w19 hr19 hch19 hs19)
              refine ret_row2 rfl rfl hr19 Tryd.underlying25 rfl sizeP rfl ?_
              exact rret_zero HSTEP.out rfl rfl (by decide) (hch19 none_ w HCH8.out (fun h => absurd h (by omega)))
      · subst hix
        have e := HSR.out
        rw [if_neg (by rw [HB3.out]; decide)] at e
        have hcm := (HX7.out.had.cell 4).trans (show (bools (hadL x.came))[4]? = some (.bool (x.came.getD 2 false)) by simp [bools, (hadL_get x.came).2.2.1])
        have hfz := HX7.out.had.frozen 4
        clear HSR HZ3
        cases hc : x.came.getD 2 false
        case true =>
          as_aux_lemma =>
            rw [show (idxP 4).toNat = 2 from rfl, if_pos hc] at e
            rw [e, fail_end 11 s3 HB3.out (by decide)] at HSTEP
            rw [hc] at hcm
            clear e hc HSL
            go_wp2_with ((with_reducible show wpList _ _ _ (⟨_, .store 25 _ _, _, _, _, _⟩ :: _) _ _); refine wpList_store_Row (xs := cellsP {}) rfl rfl rfl HX7.out.z rfl rfl sizeP (cellsP_one _) ?_; intro w19 hr19 hch19 hs19)
            refine ret_row2 rfl rfl hr19 Tryd.underlying25 rfl sizeP rfl ?_
            exact rret_zero HSTEP.out rfl rfl (by decide) (hch19 none_ w HCH7.out (fun h => absurd h (by omega)))
        case false =>
          as_aux_lemma =>
            rw [if_neg (by rw [show (idxP 4).toNat = 2 from rfl, hc]; decide)] at e
            have e2 : stepR x = if (takeP .data vs x.p).2 = true then ⟨(takeP .data vs x.p).1, x.came.set 2 true, s3⟩ else ⟨(takeP .data vs x.p).1, x.came, failSt 3 s3⟩ := e
            have HKT := Lib.hid (takeP_tok .data vs x.p HX7.out.tok)
            rw [hc] at hcm
            clear e hc
            rw [e2] at HSTEP HSL
            clear e2
            have HM8 := Lib.hid (HX7.out.mark 2 4 (hadL_set x.came HX7.out.cl).2.2.1)
            have HCH8 : Hid (Chg none_ w (w7.setCell ⟨w.heap.size + 1 + 1, 4, none⟩ (.bool true))) := HCH7.out.setCell (p := ⟨w.heap.size + 1 + 1, 4, none⟩) (fun h => absurd h (by simp; omega)) _
            have HV8 := Lib.hid (HV7.out.setCell ⟨w.heap.size + 1 + 1, 4, none⟩ (by show ¬ (w.heap.size + 1 + 1 + 1 < w.heap.size + 1 + 1); omega) (.bool true))
            have HRB : Hid (∀ (W8 : World) , View W8 (fun b => w.heap.size + 1 + 1 + 1 < b) A7 vs.length (u8s vs) → RS (W8.alloc (.cells [.slice A7 vs.length k7, .int .i64 0, .int .i64 0].toArray 65)) W8.heap.size (fun b => b < W8.heap.size) vs (vs, 0)) := fun W8 hv => ⟨0, ⟨A7, k7, Row.new _ _ _, HK7.out, Nat.zero_le _, HVN.out, (hv.mono (T' := fun b => b < W8.heap.size) (fun b hb _ => hb)).chg ((Chg.refl none_ W8).alloc _) (fun _ _ h => h)⟩, fun _ => rfl, fun q => absurd rfl q, HVS.out⟩
            have HTP : Hid (takeP .data vs x.p = (setP .data (rdInt (vs, 0)).1 x.p, decide ((rdInt (vs, 0)).2.2 = 0) && decide ((rdInt (vs, 0)).2.1.length = 0))) := rfl
            obtain ⟨W8, hW8⟩ : ∃ W8, W8 = w7.setCell ⟨w.heap.size + 1 + 1, 4, none⟩ (.bool true) := ⟨_, rfl⟩
            have HSZ8 : Hid (W8.heap.size = w7.heap.size) := by show _ = _; rw [hW8]; simp
            rw [← hW8] at HM8 HCH8 HV8
            go_wp2_with fail
            rw [← hW8]
            clear hW8 hcm hfz hcb
            have hRS := HRB.out W8 HV8.out
            rw [HSZ8.out] at hRS
            have HRS := Lib.hid hRS
            clear hRS
            refine (rint_st HRS.out (Nat.lt_irrefl _)).mono ?_
            rintro e w10 ⟨rfl, hr10, hc10⟩
            have hca : Chg none_ W8 (W8.alloc (.cells [.slice A7 vs.length k7, .int .i64 0, .int .i64 0].toArray 65)) := (Chg.refl none_ W8).alloc _
            have hc8 : Chg none_ W8 w10 := hca.andThen hc10 (fun b hb e => by have e : b = w7.heap.size := e; have := HSZ8.out; omega)
            have HX10 := Lib.hid (HM8.out.keep hc8)
            have HCH10 := Lib.hid (HCH8.out.trans hc8)
            have hcb : w10.cell? ⟨w7.heap.size, 2, none⟩ = some (.int .i64 (rdInt (vs, 0)).2.2) := by
              obtain ⟨_, _, _, q⟩ := hr10.bad
              exact q.cell 2
            have HL2 := Lib.hid (rleft_st hr10)
            clear hr10 hc10 hca hc8 HRS HRB HM8 HCH8 HV8
            generalize (rdInt (vs, 0)).2 = sy at *
            generalize (rdInt (vs, 0)).1 = y at *
            have HFAIL : Hid ((takeP .data vs x.p).2 = false → runR ⟨(takeP .data vs x.p).1, x.came, ([], 3)⟩ = runR (begin bs)) := fun h => by
              have := HSTEP.out
              rwa [if_neg (by rw [h]; decide), fail_end 3 s3 HB3.out (by decide)] at this
            by_cases hy : sy.2 = 0
            · have hy1 : (sy.2 != 0) = false := by simp [hy]
              by_cases hy2 : sy.1.length = 0
              · have hy3 : ((sy.1.length : Int) != 0) = false := by simp; exact List.eq_nil_of_length_eq_zero hy2
                rw [HTP.out] at HSTEP HSL
                rw [if_pos (by simp [hy, List.eq_nil_of_length_eq_zero hy2])] at HSTEP HSL
                have hpc := (HX10.out.p.cell 1).trans (cells_getP .data x.p)
                have hpf := HX10.out.p.frozen 1
                clear hy hy2 HFAIL
                go_wp2_with (go_at_call 31; refine HL2.out.mono ?_; rintro e w11 ⟨rfl, kd2, rfl⟩)
                have HX11 := HX10.out.keep ((Chg.refl none_ w10).drewN kd2)
                have hpr : Row ((w10.drewN kd2).setCell ⟨w.heap.size + 1, 1, none⟩ (.int .u64 (y : Int))) (w.heap.size + 1) 25 ((cellsP x.p).set (ixP .data) (.int .u64 (y : Int))) := HX11.p.set 1 (.int .u64 (y : Int))
                rw [cells_setP .data y x.p] at hpr
                have hcp : Chg (· = w.heap.size + 1) (w10.drewN kd2) ((w10.drewN kd2).setCell ⟨w.heap.size + 1, 1, none⟩ (.int .u64 (y : Int))) := (Chg.refl (· = w.heap.size + 1) (w10.drewN kd2)).setCell (p := ⟨w.heap.size + 1, 1, none⟩) (fun _ => rfl) _
                have HXF := HX11.took (p := setP .data y x.p) (by have := HKT.out; rwa [HTP.out] at this) hpr hcp
                go_roundw
                case rel => exact ⟨_, HXF, HB3.out, HSTEP, (HCH10.out.drewN kd2).andThen hcp (fun b hb e => by have e : b = w.heap.size + 1 := e; omega)⟩
                case measure => rw [HXF.len HB3.out]; exact HSL.out
              · have hy3 : ((sy.1.length : Int) != 0) = true := by simp; intro e; exact hy2 (by rw [e]; rfl)
                have HF := HFAIL.out (by rw [HTP.out]; simp [hy]; intro e; exact hy2 (by rw [e]; rfl))
                have HF2 := Lib.hid HF
                have HZR := Lib.hid (fun k => (HX10.out.keep ((Chg.refl none_ w10).drewN k)).z)
                clear hy hy2 HFAIL HF HSTEP HSL
                go_wp2_with (first | (go_at_call 31; refine HL2.out.mono ?_; rintro e w11 ⟨rfl, kd2, rfl⟩) | ((with_reducible show wpList _ _ _ (⟨_, .store 25 _ _, _, _, _, _⟩ :: _) _ _); refine wpList_store_Row (xs := cellsP {}) rfl rfl rfl (HZR.out _) rfl rfl sizeP (cellsP_one _) ?_; intro w19 hr19 hch19 hs19))
                refine ret_row2 rfl rfl hr19 Tryd.underlying25 rfl sizeP rfl ?_
                exact rret_zero HF2.out rfl rfl (by decide) (hch19 none_ w (HCH10.out.drewN kd2) (fun h => absurd h (by omega)))
            · have hy1 : (sy.2 != 0) = true := by simp [hy]
              have HF2 := Lib.hid (HFAIL.out (by rw [HTP.out]; simp [hy]))
              have HZR := Lib.hid HX10.out.z
              clear hy HFAIL HSTEP HSL
              go_wp2_with ((with_reducible show wpList _ _ _ (⟨_, .store 25 _ _, _, _, _, _⟩ :: _) _ _); refine wpList_store_Row (xs := cellsP {}) rfl rfl rfl HZR.out rfl rfl sizeP (cellsP_one _) ?_; intro w19 hr19 hch19 hs19)
              refine ret_row2 rfl rfl hr19 Tryd.underlying25 rfl sizeP rfl ?_
              exact rret_zero HF2.out rfl rfl (by decide) (hch19 none_ w HCH10.out (fun h => absurd h (by omega)))
      · subst hix
        have e := HSR.out
        rw [if_neg (by rw [HB3.out]; decide)] at e
        have hcm := (HX7.out.had.cell 5).trans (show (bools (hadL x.came))[5]? = some (.bool (x.came.getD 3 false)) by simp [bools, (hadL_get x.came).2.2.2.1])
        have hfz := HX7.out.had.frozen 5
        clear HSR HZ3
        cases hc : x.came.getD 3 false
        case true =>
          as_aux_lemma =>
            rw [show (idxP 5).toNat = 3 from rfl, if_pos hc] at e
            rw [e, fail_end 11 s3 HB3.out (by decide)] at HSTEP
            rw [hc] at hcm
            clear e hc HSL
            go_wp2_with ((with_reducible show wpList _ _ _ (⟨_, .store 25 _ _, _, _, _, _⟩ :: _) _ _); refine wpList_store_Row (xs := cellsP {}) rfl rfl rfl HX7.out.z rfl rfl sizeP (cellsP_one _) ?_; intro w19 hr19 hch19 hs19)
            refine ret_row2 rfl rfl hr19 Tryd.underlying25 rfl sizeP rfl ?_
            exact rret_zero HSTEP.out rfl rfl (by decide) (hch19 none_ w HCH7.out (fun h => absurd h (by omega)))
        case false =>
          as_aux_lemma =>
            rw [if_neg (by rw [show (idxP 5).toNat = 3 from rfl, hc]; decide)] at e
            have e2 : stepR x = if (takeP .stream vs x.p).2 = true then ⟨(takeP .stream vs x.p).1, x.came.set 3 true, s3⟩ else ⟨(takeP .stream vs x.p).1, x.came, failSt 3 s3⟩ := e
            have HKT := Lib.hid (takeP_tok .stream vs x.p HX7.out.tok)
            rw [hc] at hcm
            clear e hc
            rw [e2] at HSTEP HSL
            clear e2
            have HM8 := Lib.hid (HX7.out.mark 3 5 (hadL_set x.came HX7.out.cl).2.2.2.1)
            have HCH8 : Hid (Chg none_ w (w7.setCell ⟨w.heap.size + 1 + 1, 5, none⟩ (.bool true))) := HCH7.out.setCell (p := ⟨w.heap.size + 1 + 1, 5, none⟩) (fun h => absurd h (by simp; omega)) _
            have HV8 := Lib.hid (HV7.out.setCell ⟨w.heap.size + 1 + 1, 5, none⟩ (by show ¬ (w.heap.size + 1 + 1 + 1 < w.heap.size + 1 + 1); omega) (.bool true))
            have HRB : Hid (∀ (W8 : World) , View W8 (fun b => w.heap.size + 1 + 1 + 1 < b) A7 vs.length (u8s vs) → RS (W8.alloc (.cells [.slice A7 vs.length k7, .int .i64 0, .int .i64 0].toArray 65)) W8.heap.size (fun b => b < W8.heap.size) vs (vs, 0)) := fun W8 hv => ⟨0, ⟨A7, k7, Row.new _ _ _, HK7.out, Nat.zero_le _, HVN.out, (hv.mono (T' := fun b => b < W8.heap.size) (fun b hb _ => hb)).chg ((Chg.refl none_ W8).alloc _) (fun _ _ h => h)⟩, fun _ => rfl, fun q => absurd rfl q, HVS.out⟩
            have HTP : Hid (takeP .stream vs x.p = (setP .stream (rdInt (vs, 0)).1 x.p, decide ((rdInt (vs, 0)).2.2 = 0) && decide ((rdInt (vs, 0)).2.1.length = 0))) := rfl
            obtain ⟨W8, hW8⟩ : ∃ W8, W8 = w7.setCell ⟨w.heap.size + 1 + 1, 5, none⟩ (.bool true) := ⟨_, rfl⟩
            have HSZ8 : Hid (W8.heap.size = w7.heap.size) := by show _ = _; rw [hW8]; simp
            rw [← hW8] at HM8 HCH8 HV8
            go_wp2_with fail
            rw [← hW8]
            clear hW8 hcm hfz hcb
            have hRS := HRB.out W8 HV8.out
            rw [HSZ8.out] at hRS
            have HRS := Lib.hid hRS
            clear hRS
            refine (rint_st HRS.out (Nat.lt_irrefl _)).mono ?_
            rintro e w10 ⟨rfl, hr10, hc10⟩
            have hca : Chg none_ W8 (W8.alloc (.cells [.slice A7 vs.length k7, .int .i64 0, .int .i64 0].toArray 65)) := (Chg.refl none_ W8).alloc _
            have hc8 : Chg none_ W8 w10 := hca.andThen hc10 (fun b hb e => by have e : b = w7.heap.size := e; have := HSZ8.out; omega)
            have HX10 := Lib.hid (HM8.out.keep hc8)
            have HCH10 := Lib.hid (HCH8.out.trans hc8)
            have hcb : w10.cell? ⟨w7.heap.size, 2, none⟩ = some (.int .i64 (rdInt (vs, 0)).2.2) := by
              obtain ⟨_, _, _, q⟩ := hr10.bad
              exact q.cell 2
            have HL2 := Lib.hid (rleft_st hr10)
            clear hr10 hc10 hca hc8 HRS HRB HM8 HCH8 HV8
            generalize (rdInt (vs, 0)).2 = sy at *
            generalize (rdInt (vs, 0)).1 = y at *
            have HFAIL : Hid ((takeP .stream vs x.p).2 = false → runR ⟨(takeP .stream vs x.p).1, x.came, ([], 3)⟩ = runR (begin bs)) := fun h => by
              have := HSTEP.out
              rwa [if_neg (by rw [h]; decide), fail_end 3 s3 HB3.out (by decide)] at this
            by_cases hy : sy.2 = 0
            · have hy1 : (sy.2 != 0) = false := by simp [hy]
              by_cases hy2 : sy.1.length = 0
              · have hy3 : ((sy.1.length : Int) != 0) = false := by simp; exact List.eq_nil_of_length_eq_zero hy2
                rw [HTP.out] at HSTEP HSL
                rw [if_pos (by simp [hy, List.eq_nil_of_length_eq_zero hy2])] at HSTEP HSL
                have hpc := (HX10.out.p.cell 2).trans (cells_getP .stream x.p)
                have hpf := HX10.out.p.frozen 2
                clear hy hy2 HFAIL
                go_wp2_with (go_at_call 31; refine HL2.out.mono ?_; rintro e w11 ⟨rfl, kd2, rfl⟩)
                have HX11 := HX10.out.keep ((Chg.refl none_ w10).drewN kd2)
                have hpr : Row ((w10.drewN kd2).setCell ⟨w.heap.size + 1, 2, none⟩ (.int .u64 (y : Int))) (w.heap.size + 1) 25 ((cellsP x.p).set (ixP .stream) (.int .u64 (y : Int))) := HX11.p.set 2 (.int .u64 (y : Int))
                rw [cells_setP .stream y x.p] at hpr
                have hcp : Chg (· = w.heap.size + 1) (w10.drewN kd2) ((w10.drewN kd2).setCell ⟨w.heap.size + 1, 2, none⟩ (.int .u64 (y : Int))) := (Chg.refl (· = w.heap.size + 1) (w10.drewN kd2)).setCell (p := ⟨w.heap.size + 1, 2, none⟩) (fun _ => rfl) _
                have HXF := HX11.took (p := setP .stream y x.p) (by have := HKT.out; rwa [HTP.out] at this) hpr hcp
                go_roundw
                case rel => exact ⟨_, HXF, HB3.out, HSTEP, (HCH10.out.drewN kd2).andThen hcp (fun b hb e => by have e : b = w.heap.size + 1 := e; omega)⟩
                case measure => rw [HXF.len HB3.out]; exact HSL.out
              · have hy3 : ((sy.1.length : Int) != 0) = true := by simp; intro e; exact hy2 (by rw [e]; rfl)
                have HF := HFAIL.out (by rw [HTP.out]; simp [hy]; intro e; exact hy2 (by rw [e]; rfl))
                have HF2 := Lib.hid HF
                have HZR := Lib.hid (fun k => (HX10.out.keep ((Chg.refl none_ w10).drewN k)).z)
                clear hy hy2 HFAIL HF HSTEP HSL
                go_wp2_with (first | (go_at_call 31; refine HL2.out.mono ?_; rintro e w11 ⟨rfl, kd2, rfl⟩) | ((with_reducible show wpList _ _ _ (⟨_, .store 25 _ _, _, _, _, _⟩ :: _) _ _); refine wpList_store_Row (xs := cellsP {}) rfl rfl rfl (HZR.out _) rfl rfl sizeP (cellsP_one _) ?_; intro w19 hr19 hch19 hs19))
                refine ret_row2 rfl rfl hr19 Tryd.underlying25 rfl sizeP rfl ?_
                exact rret_zero HF2.out rfl rfl (by decide) (hch19 none_ w (HCH10.out.drewN kd2) (fun h => absurd h (by omega)))
            · have hy1 : (sy.2 != 0) = true := by simp [hy]
              have HF2 := Lib.hid (HFAIL.out (by rw [HTP.out]; simp [hy]))
              have HZR := Lib.hid HX10.out.z
              clear hy HFAIL HSTEP HSL
              go_wp2_with ((with_reducible show wpList _ _ _ (⟨_, .store 25 _ _, _, _, _, _⟩ :: _) _ _); refine wpList_store_Row (xs := cellsP {}) rfl rfl rfl HZR.out rfl rfl sizeP (cellsP_one _) ?_; intro w19 hr19 hch19 hs19)
              refine ret_row2 rfl rfl hr19 Tryd.underlying25 rfl sizeP rfl ?_
              exact rret_zero HF2.out rfl rfl (by decide) (hch19 none_ w HCH10.out (fun h => absurd h (by omega)))
      · subst hix
        have e := HSR.out
        rw [if_neg (by rw [HB3.out]; decide)] at e
        have hcm := (HX7.out.had.cell 8).trans (show (bools (hadL x.came))[8]? = some (.bool (x.came.getD 4 false)) by simp [bools, (hadL_get x.came).2.2.2.2])
        have hfz := HX7.out.had.frozen 8
        clear HSR HZ3
        cases hc : x.came.getD 4 false
        case true =>
          as_aux_lemma =>
            rw [show (idxP 8).toNat = 4 from rfl, if_pos hc] at e
            rw [e, fail_end 11 s3 HB3.out (by decide)] at HSTEP
            rw [hc] at hcm
            clear e hc HSL
            go_wp2_with ((with_reducible show wpList _ _ _ (⟨_, .store 25 _ _, _, _, _, _⟩ :: _) _ _); refine wpList_store_Row (xs := cellsP {}) rfl rfl rfl HX7.out.z rfl rfl sizeP (cellsP_one _) ?_; intro w19 hr19 hch19 hs19)
            refine ret_row2 rfl rfl hr19 Tryd.underlying25 rfl sizeP rfl ?_
            exact rret_zero HSTEP.out rfl rfl (by decide) (hch19 none_ w HCH7.out (fun h => absurd h (by omega)))
        case false =>
          as_aux_lemma =>
            rw [if_neg (by rw [show (idxP 8).toNat = 4 from rfl, hc]; decide)] at e
            have e2 : stepR x = if (takeP .streams vs x.p).2 = true then ⟨(takeP .streams vs x.p).1, x.came.set 4 true, s3⟩ else ⟨(takeP .streams vs x.p).1, x.came, failSt 3 s3⟩ := e
            have HKT := Lib.hid (takeP_tok .streams vs x.p HX7.out.tok)
            rw [hc] at hcm
            clear e hc
            rw [e2] at HSTEP HSL
            clear e2
            have HM8 := Lib.hid (HX7.out.mark 4 8 (hadL_set x.came HX7.out.cl).2.2.2.2)
            have HCH8 : Hid (Chg none_ w (w7.setCell ⟨w.heap.size + 1 + 1, 8, none⟩ (.bool true))) := HCH7.out.setCell (p := ⟨w.heap.size + 1 + 1, 8, none⟩) (fun h => absurd h (by simp; omega)) _
            have HV8 := Lib.hid (HV7.out.setCell ⟨w.heap.size + 1 + 1, 8, none⟩ (by show ¬ (w.heap.size + 1 + 1 + 1 < w.heap.size + 1 + 1); omega) (.bool true))
            have HRB : Hid (∀ (W8 : World) , View W8 (fun b => w.heap.size + 1 + 1 + 1 < b) A7 vs.length (u8s vs) → RS (W8.alloc (.cells [.slice A7 vs.length k7, .int .i64 0, .int .i64 0].toArray 65)) W8.heap.size (fun b => b < W8.heap.size) vs (vs, 0)) := fun W8 hv => ⟨0, ⟨A7, k7, Row.new _ _ _, HK7.out, Nat.zero_le _, HVN.out, (hv.mono (T' := fun b => b < W8.heap.size) (fun b hb _ => hb)).chg ((Chg.refl none_ W8).alloc _) (fun _ _ h => h)⟩, fun _ => rfl, fun q => absurd rfl q, HVS.out⟩
            have HTP : Hid (takeP .streams vs x.p = (setP .streams (rdInt (vs, 0)).1 x.p, decide ((rdInt (vs, 0)).2.2 = 0) && decide ((rdInt (vs, 0)).2.1.length = 0))) := rfl
            obtain ⟨W8, hW8⟩ : ∃ W8, W8 = w7.setCell ⟨w.heap.size + 1 + 1, 8, none⟩ (.bool true) := ⟨_, rfl⟩
            have HSZ8 : Hid (W8.heap.size = w7.heap.size) := by show _ = _; rw [hW8]; simp
            rw [← hW8] at HM8 HCH8 HV8
            go_wp2_with fail
            rw [← hW8]
            clear hW8 hcm hfz hcb
            have hRS := HRB.out W8 HV8.out
            rw [HSZ8.out] at hRS
            have HRS := Lib.hid hRS
            clear hRS
            refine (rint_st HRS.out (Nat.lt_irrefl _)).mono ?_
            rintro e w10 ⟨rfl, hr10, hc10⟩
            have hca : Chg none_ W8 (W8.alloc (.cells [.slice A7 vs.length k7, .int .i64 0, .int .i64 0].toArray 65)) := (Chg.refl none_ W8).alloc _
            have hc8 : Chg none_ W8 w10 := hca.andThen hc10 (fun b hb e => by have e : b = w7.heap.size := e; have := HSZ8.out; omega)
            have HX10 := Lib.hid (HM8.out.keep hc8)
            have HCH10 := Lib.hid (HCH8.out.trans hc8)
            have hcb : w10.cell? ⟨w7.heap.size, 2, none⟩ = some (.int .i64 (rdInt (vs, 0)).2.2) := by
              obtain ⟨_, _, _, q⟩ := hr10.bad
              exact q.cell 2
            have HL2 := Lib.hid (rleft_st hr10)
            clear hr10 hc10 hca hc8 HRS HRB HM8 HCH8 HV8
            generalize (rdInt (vs, 0)).2 = sy at *
            generalize (rdInt (vs, 0)).1 = y at *
            have HFAIL : Hid ((takeP .streams vs x.p).2 = false → runR ⟨(takeP .streams vs x.p).1, x.came, ([], 3)⟩ = runR (begin bs)) := fun h => by
              have := HSTEP.out
              rwa [if_neg (by rw [h]; decide), fail_end 3 s3 HB3.out (by decide)] at this
            by_cases hy : sy.2 = 0
            · have hy1 : (sy.2 != 0) = false := by simp [hy]
              by_cases hy2 : sy.1.length = 0
              · have hy3 : ((sy.1.length : Int) != 0) = false := by simp; exact List.eq_nil_of_length_eq_zero hy2
                rw [HTP.out] at HSTEP HSL
                rw [if_pos (by simp [hy, List.eq_nil_of_length_eq_zero hy2])] at HSTEP HSL
                have hpc := (HX10.out.p.cell 3).trans (cells_getP .streams x.p)
                have hpf := HX10.out.p.frozen 3
                clear hy hy2 HFAIL
                go_wp2_with (go_at_call 31; refine HL2.out.mono ?_; rintro e w11 ⟨rfl, kd2, rfl⟩)
                have HX11 := HX10.out.keep ((Chg.refl none_ w10).drewN kd2)
                have hpr : Row ((w10.drewN kd2).setCell ⟨w.heap.size + 1, 3, none⟩ (.int .u64 (y : Int))) (w.heap.size + 1) 25 ((cellsP x.p).set (ixP .streams) (.int .u64 (y : Int))) := HX11.p.set 3 (.int .u64 (y : Int))
                rw [cells_setP .streams y x.p] at hpr
                have hcp : Chg (· = w.heap.size + 1) (w10.drewN kd2) ((w10.drewN kd2).setCell ⟨w.heap.size + 1, 3, none⟩ (.int .u64 (y : Int))) := (Chg.refl (· = w.heap.size + 1) (w10.drewN kd2)).setCell (p := ⟨w.heap.size + 1, 3, none⟩) (fun _ => rfl) _
                have HXF := HX11.took (p := setP .streams y x.p) (by have := HKT.out; rwa [HTP.out] at this) hpr hcp
                go_roundw
                case rel => exact ⟨_, HXF, HB3.out, HSTEP, (HCH10.out.drewN kd2).andThen hcp (fun b hb e => by have e : b = w.heap.size + 1 := e; omega)⟩
                case measure => rw [HXF.len HB3.out]; exact HSL.out
              · have hy3 : ((sy.1.length : Int) != 0) = true := by simp; intro e; exact hy2 (by rw [e]; rfl)
                have HF := HFAIL.out (by rw [HTP.out]; simp [hy]; intro e; exact hy2 (by rw [e]; rfl))
                have HF2 := Lib.hid HF
                have HZR := Lib.hid (fun k => (HX10.out.keep ((Chg.refl none_ w10).drewN k)).z)
                clear hy hy2 HFAIL HF HSTEP HSL
                go_wp2_with (first | (go_at_call 31; refine HL2.out.mono ?_; rintro e w11 ⟨rfl, kd2, rfl⟩) | ((with_reducible show wpList _ _ _ (⟨_, .store 25 _ _, _, _, _, _⟩ :: _) _ _); refine wpList_store_Row (xs := cellsP {}) rfl rfl rfl (HZR.out _) rfl rfl sizeP (cellsP_one _) ?_; intro w19 hr19 hch19 hs19))
                refine ret_row2 rfl rfl hr19 Tryd.underlying25 rfl sizeP rfl ?_
                exact rret_zero HF2.out rfl rfl (by decide) (hch19 none_ w (HCH10.out.drewN kd2) (fun h => absurd h (by omega)))
            · have hy1 : (sy.2 != 0) = true := by simp [hy]
              have HF2 := Lib.hid (HFAIL.out (by rw [HTP.out]; simp [hy]))
              have HZR := Lib.hid HX10.out.z
              clear hy HFAIL HSTEP HSL
              go_wp2_with ((with_reducible show wpList _ _ _ (⟨_, .store 25 _ _, _, _, _, _⟩ :: _) _ _); refine wpList_store_Row (xs := cellsP {}) rfl rfl rfl HZR.out rfl rfl sizeP (cellsP_one _) ?_; intro w19 hr19 hch19 hs19)
              refine ret_row2 rfl rfl hr19 Tryd.underlying25 rfl sizeP rfl ?_
              exact rret_zero HF2.out rfl rfl (by decide) (hch19 none_ w HCH10.out (fun h => absurd h (by omega)))
end Go.Proofs.YthoiiibcceacnaaDoor
