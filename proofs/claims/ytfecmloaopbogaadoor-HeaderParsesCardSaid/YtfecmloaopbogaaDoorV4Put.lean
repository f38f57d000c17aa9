/- Layer 4 (header): Put. -/
import Derived.Test.YtfecmloaopbogaaDoorV4Join
import Derived.Test.YtfecmloaopbogaaDoorV4Right
import Derived.Deep.RegionHeld3
namespace Go.Proofs.YtfecmloaopbogaaDoor
open Go.RowKit

def enI (n : Nat) : List Nat := wideB n (szN n)
/-- A long header's bytes ahead of what its kind has. -/
def aheadH (h : Hd) : List Nat := [firstM h] ++ (arr h.version 4 4 ++ ((h.dst.length :: h.dst) ++ (h.src.length :: h.src)))
/-- A header's bytes, were it right. -/
def bytesH (h : Hd) : List Nat :=
  if h.long then (if h.kind = 0 then aheadH h ++ (enI h.token.length ++ (h.token ++ (enI (h.cut.length + h.rest.toNat) ++ h.cut))) else aheadH h ++ (enI (h.cut.length + h.rest.toNat) ++ h.cut))
  else [firstM h] ++ (h.dst ++ h.cut)
def putH (h : Hd) : List Nat := if rightH h then bytesH h else []

structure RightF (h : Hd) : Prop where
  c1 : 1 ≤ h.cut.length
  c4 : h.cut.length ≤ 4
  d : h.dst.length ≤ 20
  s : h.src.length ≤ 20
  t : h.token.length ≤ 200
  r0 : 0 ≤ h.rest
  r1 : h.rest ≤ 1200
  k : h.kind = 0 ∨ h.kind = 2
  kl : h.long = false → h.kind = 0 ∧ h.version = 0 ∧ h.src = [] ∧ h.token = [] ∧ h.dst.length = 8
  kt : h.kind ≠ 0 → h.token = []
  kp : h.long = true → h.phase = false
theorem rightF {h : Hd} (hr : rightH h = true) : RightF h := by
  obtain ⟨long, phase, kind, version, dst, src, token, cut, rest⟩ := h
  cases long
  · simp [rightH, rightN, shortN] at hr
    obtain ⟨⟨h1, h2, h3, h4, h5, h6⟩, h7, h8, h9, h10, h11⟩ := hr
    subst h9; subst h10
    constructor <;> simp <;> omega
  · simp [rightH, rightN, longN] at hr
    obtain ⟨⟨h1, h2, h3, h4, h5, h6⟩, h7⟩ := hr
    rcases h7 with ⟨h7, h8, h9⟩ | ⟨h7, h8, h9⟩
    · constructor <;> simp <;> (try omega) <;> first | assumption | (intro h; exact absurd h7 h)
    · subst h9
      constructor <;> simp <;> (try omega) <;> assumption

theorem got_sl2 {w w' : World} {l : List Nat} {e : Ending} (h : GotBytes w l e w') (hl : l.length ≤ 1000000) : ∃ A c, e = .returned (.slice A l.length c) ∧ Sl w' (fun b => w.heap.size ≤ b) (.slice A l.length c) l ∧ Chg none_ w w' := by
  obtain ⟨A, c, h1, h2, h3⟩ := h
  exact ⟨_, _, h1, ⟨A, c, rfl, hl, h2.view⟩, h3⟩
theorem got_sl {w w' : World} {l : List Nat} {e : Ending} (h : GotBytes w l e w') (hl : l.length ≤ 1000000) : ∃ v, e = .returned v ∧ Sl w' (fun b => w.heap.size ≤ b) v l ∧ Chg none_ w w' := by
  obtain ⟨A, c, h1, h2, h3⟩ := h
  exact ⟨_, h1, ⟨A, c, rfl, hl, h2.view⟩, h3⟩
/-- A list of slices that were built in a row: together. -/
theorem together_new (w : World) (vs : List Value) (ls : List (List Nat)) (hp : Parts w (fun _ => True) vs ls) (hn : ls.length ≤ 8) (n : Nat) (hnn : n = ls.length) :
    Calls Tryd.prog 25 #[.slice (some ⟨w.heap.size, 0, none⟩) n n] (w.alloc (.cells vs.toArray 23)) (GotBytes w (cat ls)) := by
  subst hnn
  have hv := View.new w 23 vs
  rw [hp.1] at hv
  have hc : Chg none_ w (w.alloc (.cells vs.toArray 23)) := (Chg.refl none_ w).alloc _
  refine (together_any _ (fun _ => True) _ _ vs ls (hv.mono (fun _ _ _ => trivial)) (hp.chg hc (fun _ _ h => h)) hn).mono ?_
  rintro e w' ⟨A, c, h1, h2, h3⟩
  exact ⟨A, c, h1, h2.base hc.size, hc.trans h3⟩
theorem Parts.two {w : World} {T : Nat → Prop} {v1 v2 : Value} {l1 l2 : List Nat} (h1 : Sl w T v1 l1) (h2 : Sl w T v2 l2) : Parts w T [v1, v2] [l1, l2] :=
  ⟨rfl, fun i hi => by match i, hi with | 0, _ => exact h1 | 1, _ => exact h2⟩
theorem Parts.cons {w : World} {T : Nat → Prop} {v : Value} {l : List Nat} {vs : List Value} {ls : List (List Nat)} (h1 : Sl w T v l) (h2 : Parts w T vs ls) : Parts w T (v :: vs) (l :: ls) :=
  ⟨by simp [h2.1], fun i hi => by
    cases i with
    | zero => exact h1
    | succ i => exact h2.2 i (by simpa using hi)⟩

set_option maxRecDepth 100000 in
set_option maxHeartbeats 2000000 in
theorem put_short (h : Hd) (v : Four) (w : World) (T : Nat → Prop) (hd : HdD w T h v) (hr : rightH h = true) (hl : h.long = false) :
    Calls Tryd.prog 15 #[aggH h v] w (GotBytes w (bytesH h)) := by
  have hF := rightF hr
  have HR := Lib.hid (fun w' => right_any h v w' w T hd)
  have HF := Lib.hid (fun w' => firstOf_any h v w' w T hd.c hF.c1 hF.c4 hF.k)
  rw [hr] at HR
  have HD := Lib.hid hd
  have HB : Hid (bytesH h = [firstM h] ++ (h.dst ++ h.cut)) := by show _ = _; unfold bytesH; rw [hl]; rfl
  have h0 := cH_0 h v
  have h4 := cH_4 h v
  have h7 := cH_7 h v
  have h9 := cH_len h v
  rw [hl] at h0
  unfold aggH at *
  obtain ⟨D, d', e4, _, _⟩ := hd.d
  obtain ⟨C, c', e7, _, _⟩ := hd.c
  rw [e4] at h4; rw [e7] at h7
  have HSD := Lib.hid (e4 ▸ hd.d)
  have HSC := Lib.hid (e7 ▸ hd.c)
  generalize bytesH h = B at *
  generalize hcs : cellsH h v = cs at *
  have H9 := Lib.hid h9
  have HRW := Lib.hid (Row.new w 25 cs)
  have HCW := Lib.hid ((Chg.refl none_ w).alloc (.cells cs.toArray 25))
  clear hcs h9 hd hF hr hl e4 e7
  go_enter Tryd.func15, Tryd.ntmps15
  go_wp2_with (first | ((with_reducible show wpList _ _ _ (⟨_, .load 25 _, _, _, _, _⟩ :: _) _ _); refine wlH rfl rfl rfl HRW.out H9.out ?_) | (go_at_call 12; refine (HR.out _).mono ?_; rintro e w1 ⟨rfl, hc1⟩; have hh0 := ((HRW.out.chg hc1 (fun h => h)).cell 0).trans h0))
  have HX : Hid (∀ w', Chg none_ w1 w' → Row w' w.heap.size 25 cs) := fun w' hc => (HRW.out.chg hc1 (fun h => h)).chg hc (fun h => h)
  have HCW1 : Hid (Chg none_ w w1) := HCW.out.trans hc1
  have hch0 : Chg none_ w1 w1.drew := (Chg.refl _ _).drew
  clear hc1
  refine wp_region_held_drew (S := fun w' => Chg none_ w1 w') (by kernel_rfl) hch0 (fun _ => ?_)
  refine wpAnyH_take (i := 0) (v := .agg cs.toArray) rfl (by kernel_rfl) (by kernel_rfl) (by kernel_rfl) (by first | exact fun _ _ _ h => h | exact fun _ _ _ h => nomatch h.1) (yieldsIf_load_mid (by rfl) 25 _ rfl w.heap.size 0 rfl cs _ (fun w' hw' => (HX.out w' hw').range) Tryd.underlying25 rfl (by rw [H9.out]; exact sizeH)) hch0 ?_
  refine wpAnyH_take (i := 2) (v := .pointer (some ⟨w.heap.size, 4, none⟩)) rfl (by kernel_rfl) (by kernel_rfl) (by kernel_rfl) (by first | exact fun _ _ _ h => h | exact fun _ _ _ h => nomatch h.1) (Or.inl ⟨by rfl, fun w' hw' => by go_simp⟩) hch0 ?_
  refine wpAnyH_take (i := 3) (v := .slice D h.dst.length d') rfl (by kernel_rfl) (by kernel_rfl) (by kernel_rfl) (by first | exact fun _ _ _ h => h | exact fun _ _ _ h => nomatch h.1) (Or.inl ⟨by rfl, fun w' hw' => by have hh := ((HX.out w' hw').cell 4).trans h4; go_simp⟩) hch0 ?_
  refine wpAnyH_take (i := 4) (v := .pointer (some ⟨w.heap.size, 7, none⟩)) rfl (by kernel_rfl) (by kernel_rfl) (by kernel_rfl) (by first | exact fun _ _ _ h => h | exact fun _ _ _ h => nomatch h.1) (Or.inl ⟨by rfl, fun w' hw' => by go_simp⟩) hch0 ?_
  refine wpAnyH_take (i := 5) (v := .slice C h.cut.length c') rfl (by kernel_rfl) (by kernel_rfl) (by kernel_rfl) (by first | exact fun _ _ _ h => h | exact fun _ _ _ h => nomatch h.1) (Or.inl ⟨by rfl, fun w' hw' => by have hh := ((HX.out w' hw').cell 7).trans h7; go_simp⟩) hch0 ?_
  refine wpAnyH_ready (rs := [1]) (by kernel_rfl) (by simp) ?_
  refine AllReadyH.cons rfl (fun K hK => ?_) AllReadyH.nil
  rw [if_pos (by rfl)]
  try simp only [List.getElem_toArray, List.getElem_cons_succ, List.getElem_cons_zero]
  go_simp
  refine (HF.out _).mono ?_
  rintro e w2 hg2
  obtain ⟨A2, c2, rfl, hs2, hc2⟩ := got_sl2 hg2 (by simp)
  have hch1 : Chg none_ w1 w2 := (hch0).trans hc2
  refine hK.out _ _ hch1 (fun _ => ?_)
  clear hK K
  try simp only [Act.put, List.setIfInBounds_toArray, List.set_cons_zero, List.set_cons_succ, List.getElem_toArray, List.getElem_cons_succ, List.getElem_cons_zero]
  refine wpAnyH_ready (rs := [6]) (by kernel_rfl) (by simp) ?_
  refine AllReadyH.cons rfl (fun K hK => ?_) AllReadyH.nil
  rw [if_pos (by rfl)]
  try simp only [List.getElem_toArray, List.getElem_cons_succ, List.getElem_cons_zero]
  go_simp
  have hch2 : Chg none_ w1 (w2.alloc (.cells [.slice A2 1 c2, .slice D h.dst.length d', .slice C h.cut.length c'].toArray 23)) := hch1.alloc _
  refine hK.out _ _ hch2 (fun _ => ?_)
  clear hK K
  try simp only [Act.put, List.setIfInBounds_toArray, List.set_cons_zero, List.set_cons_succ, List.getElem_toArray, List.getElem_cons_succ, List.getElem_cons_zero]
  refine wpAnyH_ready (rs := [7]) (by kernel_rfl) (by simp) ?_
  refine AllReadyH.cons rfl (fun K hK => ?_) AllReadyH.nil
  rw [if_pos (by rfl)]
  try simp only [List.getElem_toArray, List.getElem_cons_succ, List.getElem_cons_zero]
  go_simp
  have hcx := HCW1.out.trans hch1
  refine (together_new w2 [.slice A2 1 c2, .slice D h.dst.length d', .slice C h.cut.length c'] [[firstM h], h.dst, h.cut] (Parts.cons (hs2.mono (fun _ _ _ => trivial)) (Parts.two ((HSD.out.chg hcx (fun _ _ h => h)).mono (fun _ _ _ => trivial)) ((HSC.out.chg hcx (fun _ _ h => h)).mono (fun _ _ _ => trivial)))) (by simp) 3 rfl).mono ?_
  rintro e w3 ⟨A3, c3, rfl, hv3, hc3⟩
  have hch3 : Chg none_ w1 w3 := hch1.trans hc3
  refine hK.out _ _ hch3 (fun _ => ?_)
  clear hK K
  try simp only [Act.put, List.setIfInBounds_toArray, List.set_cons_zero, List.set_cons_succ, List.getElem_toArray, List.getElem_cons_succ, List.getElem_cons_zero]
  refine wpAnyH_ready (rs := [8]) (by kernel_rfl) (by simp) ?_
  refine AllReadyH.cons rfl (fun K hK => ?_) AllReadyH.nil
  rw [if_pos (by rfl)]
  try simp only [List.getElem_toArray, List.getElem_cons_succ, List.getElem_cons_zero]
  go_simp
  refine hK.out _ _ hch3 (fun _ => ?_)
  clear hK K
  try simp only [Act.put, List.setIfInBounds_toArray, List.set_cons_zero, List.set_cons_succ, List.getElem_toArray, List.getElem_cons_succ, List.getElem_cons_zero]
  refine wpAnyH_done (by kernel_rfl) ?_ _
  go_wp2
  go_ret
  refine ⟨A3, c3, by rw [HB.out]; simp [cat], ?_, HCW1.out.trans hch3⟩
  rw [HB.out]
  simp only [cat, List.flatMap_cons, List.flatMap_nil, id, List.append_nil] at hv3
  exact hv3.base (HCW1.out.trans hch1).size

/-- varint.Put, as new bytes. -/
theorem vput_got (n : Nat) (w : World) (hT : Tab w) : Calls Tryd.prog 29 #[.int .u64 n] w (GotBytes w (enI n)) :=
  (put_any n w hT).mono fun e w' ⟨v, h1, h2⟩ => by
    have hown := own_of_new h2 (Nat.le_trans (wideB_len n) (by unfold maxLen; omega))
    obtain ⟨A, c, h3, h4⟩ := h2.view
    subst h3
    exact ⟨A, c, h1, ⟨h4, hown⟩, h2.1⟩
theorem enI_len (n : Nat) : (enI n).length ≤ 1000000 := Nat.le_trans (wideB_len n) (by omega)

set_option maxRecDepth 100000 in
set_option maxHeartbeats 2000000 in
theorem put_long0 (h : Hd) (v : Four) (w : World) (T : Nat → Prop) (hd : HdD w T h v) (hr : rightH h = true) (hl : h.long = true) (hk : h.kind = 0) (hv32 : h.version < 4294967296) (hT : Tab w) :
    Calls Tryd.prog 15 #[aggH h v] w (GotBytes w (bytesH h)) := by
  have hF := rightF hr
  have HR := Lib.hid (fun w' => right_any h v w' w T hd)
  have HF := Lib.hid (fun w' => firstOf_any h v w' w T hd.c hF.c1 hF.c4 hF.k)
  rw [hr] at HR
  have HB : Hid (bytesH h = aheadH h ++ (enI h.token.length ++ (h.token ++ (enI (h.cut.length + h.rest.toNat) ++ h.cut)))) := by show _ = _; unfold bytesH; rw [hl, hk]; rfl
  have h0 := cH_0 h v
  have h2 := cH_2 h v
  have h3 := cH_3 h v
  have h4 := cH_4 h v
  have h5 := cH_5 h v
  have h6 := cH_6 h v
  have h7 := cH_7 h v
  have h8 := cH_8 h v
  have h9 := cH_len h v
  rw [hl] at h0
  rw [hk] at h2
  obtain ⟨ρ, hρ⟩ : ∃ ρ : Nat, h.rest = (ρ : Int) := ⟨h.rest.toNat, by have := hF.r0; omega⟩
  have hρ1 : ρ ≤ 1200 := by have := hF.r1; omega
  rw [hρ] at h8
  rw [hρ, Int.toNat_natCast] at HB
  have hct : h.cut.length ≤ 4 := hF.c4
  have htt : h.token.length ≤ 200 := hF.t
  have hdl : h.dst.length < 256 := by have := hF.d; omega
  have hsl : h.src.length < 256 := by have := hF.s; omega
  unfold aggH at *
  obtain ⟨D, d', e4, _, _⟩ := hd.d
  obtain ⟨S, s', e5, _, _⟩ := hd.s
  obtain ⟨Tk, t', e6, _, _⟩ := hd.t
  obtain ⟨C, c', e7, _, _⟩ := hd.c
  rw [e4] at h4; rw [e5] at h5; rw [e6] at h6; rw [e7] at h7
  have HSD := Lib.hid (e4 ▸ hd.d)
  have HSS := Lib.hid (e5 ▸ hd.s)
  have HST := Lib.hid (e6 ▸ hd.t)
  have HSC := Lib.hid (e7 ▸ hd.c)
  have HTAB := Lib.hid hT
  have HPR : Hid (∀ w', Tab w' → Calls Tryd.prog 29 #[.int .u64 ((h.cut.length : Int) + (ρ : Int))] w' (GotBytes w' (enI (h.cut.length + ρ)))) := fun w' h' => vput_got (h.cut.length + ρ) w' h'
  have HPT : Hid (∀ w', Tab w' → Calls Tryd.prog 29 #[.int .u64 (h.token.length : Nat)] w' (GotBytes w' (enI h.token.length))) := fun w' h' => vput_got h.token.length w' h'
  have HAH : Hid (aheadH h = [firstM h] ++ (arr h.version 4 4 ++ ((h.dst.length :: h.dst) ++ (h.src.length :: h.src)))) := rfl
  generalize bytesH h = B at *
  generalize hcs : cellsH h v = cs at *
  have H9 := Lib.hid h9
  have HRW := Lib.hid (Row.new w 25 cs)
  have HCW := Lib.hid ((Chg.refl none_ w).alloc (.cells cs.toArray 25))
  clear hcs h9 hd hF hr hl e4 e5 e6 e7 hT hρ hk
  go_enter Tryd.func15, Tryd.ntmps15
  go_wp2_with (first | ((with_reducible show wpList _ _ _ (⟨_, .load 25 _, _, _, _, _⟩ :: _) _ _); refine wlH rfl rfl rfl HRW.out H9.out ?_) | (go_at_call 12; refine (HR.out _).mono ?_; rintro e w1 ⟨rfl, hc1⟩; have hh0 := ((HRW.out.chg hc1 (fun h => h)).cell 0).trans h0))
  have HX : Hid (∀ w', Chg none_ w1 w' → Row w' w.heap.size 25 cs) := fun w' hc => (HRW.out.chg hc1 (fun h => h)).chg hc (fun h => h)
  have HCW1 : Hid (Chg none_ w w1) := HCW.out.trans hc1
  have hch0 : Chg none_ w1 w1.drew := (Chg.refl _ _).drew
  clear hc1 hh0
  refine wp_region_held_drew (S := fun w' => Chg none_ w1 w') (by kernel_rfl) hch0 (fun _ => ?_)
  refine wpAnyH_take (i := 0) (v := .agg cs.toArray) rfl (by kernel_rfl) (by kernel_rfl) (by kernel_rfl) (by first | exact fun _ _ _ h => h | exact fun _ _ _ h => nomatch h.1) (yieldsIf_load_mid (by rfl) 25 _ rfl w.heap.size 0 rfl cs _ (fun w' hw' => (HX.out w' hw').range) Tryd.underlying25 rfl (by rw [H9.out]; exact sizeH)) hch0 ?_
  refine wpAnyH_take (i := 2) (v := .pointer (some ⟨w.heap.size, 3, none⟩)) rfl (by kernel_rfl) (by kernel_rfl) (by kernel_rfl) (by first | exact fun _ _ _ h => h | exact fun _ _ _ h => nomatch h.1) (Or.inl ⟨by rfl, fun w' hw' => by go_simp⟩) hch0 ?_
  refine wpAnyH_take (i := 3) (v := .int .u32 (h.version : Nat)) rfl (by kernel_rfl) (by kernel_rfl) (by kernel_rfl) (by first | exact fun _ _ _ h => h | exact fun _ _ _ h => nomatch h.1) (Or.inl ⟨by rfl, fun w' hw' => by have hh := ((HX.out w' hw').cell 3).trans h3; go_simp⟩) hch0 ?_
  refine wpAnyH_take (i := 5) (v := .pointer (some ⟨w.heap.size, 4, none⟩)) rfl (by kernel_rfl) (by kernel_rfl) (by kernel_rfl) (by first | exact fun _ _ _ h => h | exact fun _ _ _ h => nomatch h.1) (Or.inl ⟨by rfl, fun w' hw' => by go_simp⟩) hch0 ?_
  refine wpAnyH_take (i := 6) (v := .slice D h.dst.length d') rfl (by kernel_rfl) (by kernel_rfl) (by kernel_rfl) (by first | exact fun _ _ _ h => h | exact fun _ _ _ h => nomatch h.1) (Or.inl ⟨by rfl, fun w' hw' => by have hh := ((HX.out w' hw').cell 4).trans h4; go_simp⟩) hch0 ?_
  refine wpAnyH_take (i := 8) (v := .pointer (some ⟨w.heap.size, 5, none⟩)) rfl (by kernel_rfl) (by kernel_rfl) (by kernel_rfl) (by first | exact fun _ _ _ h => h | exact fun _ _ _ h => nomatch h.1) (Or.inl ⟨by rfl, fun w' hw' => by go_simp⟩) hch0 ?_
  refine wpAnyH_take (i := 9) (v := .slice S h.src.length s') rfl (by kernel_rfl) (by kernel_rfl) (by kernel_rfl) (by first | exact fun _ _ _ h => h | exact fun _ _ _ h => nomatch h.1) (Or.inl ⟨by rfl, fun w' hw' => by have hh := ((HX.out w' hw').cell 5).trans h5; go_simp⟩) hch0 ?_
  refine wpAnyH_ready (rs := [1]) (by kernel_rfl) (by simp) ?_
  refine AllReadyH.cons rfl (fun K hK => ?_) AllReadyH.nil
  rw [if_pos (by rfl)]
  try simp only [List.getElem_toArray, List.getElem_cons_succ, List.getElem_cons_zero]
  go_simp
  refine (HF.out _).mono ?_
  rintro e w2 hg2
  obtain ⟨A2, c2, rfl, hs2, hc2⟩ := got_sl2 hg2 (by simp)
  have hch1 : Chg none_ w1 w2 := (hch0).trans hc2
  refine hK.out _ _ hch1 (fun _ => ?_)
  clear hK K
  try simp only [Act.put, List.setIfInBounds_toArray, List.set_cons_zero, List.set_cons_succ, List.getElem_toArray, List.getElem_cons_succ, List.getElem_cons_zero]
  refine wpAnyH_ready (rs := [4]) (by kernel_rfl) (by simp) ?_
  refine AllReadyH.cons rfl (fun K hK => ?_) AllReadyH.nil
  rw [if_pos (by rfl)]
  try simp only [List.getElem_toArray, List.getElem_cons_succ, List.getElem_cons_zero]
  go_simp
  refine (putVersion_any h.version w2 hv32).mono ?_
  rintro e w3 hg3
  obtain ⟨A3, c3, rfl, hs3, hc3⟩ := got_sl2 hg3 (by simp [arr_len])
  have hch2 : Chg none_ w1 w3 := hch1.trans hc3
  refine hK.out _ _ hch2 (fun _ => ?_)
  clear hK K
  try simp only [Act.put, List.setIfInBounds_toArray, List.set_cons_zero, List.set_cons_succ, List.getElem_toArray, List.getElem_cons_succ, List.getElem_cons_zero]
  refine wpAnyH_ready (rs := [7]) (by kernel_rfl) (by simp) ?_
  refine AllReadyH.cons rfl (fun K hK => ?_) AllReadyH.nil
  rw [if_pos (by rfl)]
  try simp only [List.getElem_toArray, List.getElem_cons_succ, List.getElem_cons_zero]
  go_simp
  refine (counted_any w3 T _ h.dst (HSD.out.chg (HCW1.out.trans hch2) (fun _ _ h => h)) hdl).mono ?_
  rintro e w4 hg4
  obtain ⟨A4, c4, rfl, hs4, hc4⟩ := got_sl2 hg4 (by simp; omega)
  have hch3 : Chg none_ w1 w4 := hch2.trans hc4
  refine hK.out _ _ hch3 (fun _ => ?_)
  clear hK K
  try simp only [Act.put, List.setIfInBounds_toArray, List.set_cons_zero, List.set_cons_succ, List.getElem_toArray, List.getElem_cons_succ, List.getElem_cons_zero]
  refine wpAnyH_ready (rs := [10]) (by kernel_rfl) (by simp) ?_
  refine AllReadyH.cons rfl (fun K hK => ?_) AllReadyH.nil
  rw [if_pos (by rfl)]
  try simp only [List.getElem_toArray, List.getElem_cons_succ, List.getElem_cons_zero]
  go_simp
  refine (counted_any w4 T _ h.src (HSS.out.chg (HCW1.out.trans hch3) (fun _ _ h => h)) hsl).mono ?_
  rintro e w5 hg5
  obtain ⟨A5, c5, rfl, hs5, hc5⟩ := got_sl2 hg5 (by simp; omega)
  have hch4 : Chg none_ w1 w5 := hch3.trans hc5
  refine hK.out _ _ hch4 (fun _ => ?_)
  clear hK K
  try simp only [Act.put, List.setIfInBounds_toArray, List.set_cons_zero, List.set_cons_succ, List.getElem_toArray, List.getElem_cons_succ, List.getElem_cons_zero]
  refine wpAnyH_ready (rs := [11]) (by kernel_rfl) (by simp) ?_
  refine AllReadyH.cons rfl (fun K hK => ?_) AllReadyH.nil
  rw [if_pos (by rfl)]
  try simp only [List.getElem_toArray, List.getElem_cons_succ, List.getElem_cons_zero]
  go_simp
  have hch5 : Chg none_ w1 (w5.alloc (.cells [.slice A2 1 c2, .slice A3 (arr h.version 4 4).length c3, .slice A4 (h.dst.length + 1) c4, .slice A5 (h.src.length + 1) c5].toArray 23)) := hch4.alloc _
  refine hK.out _ _ hch5 (fun _ => ?_)
  clear hK K
  try simp only [Act.put, List.setIfInBounds_toArray, List.set_cons_zero, List.set_cons_succ, List.getElem_toArray, List.getElem_cons_succ, List.getElem_cons_zero]
  refine wpAnyH_ready (rs := [12]) (by kernel_rfl) (by simp) ?_
  refine AllReadyH.cons rfl (fun K hK => ?_) AllReadyH.nil
  rw [if_pos (by rfl)]
  try simp only [List.getElem_toArray, List.getElem_cons_succ, List.getElem_cons_zero]
  go_simp
  refine (together_new w5 [.slice A2 1 c2, .slice A3 (arr h.version 4 4).length c3, .slice A4 (h.dst.length + 1) c4, .slice A5 (h.src.length + 1) c5] [[firstM h], arr h.version 4 4, h.dst.length :: h.dst, h.src.length :: h.src]
    (Parts.cons ((hs2.chg ((hc3.trans hc4).trans hc5) (fun _ _ h => h)).mono (fun _ _ _ => trivial)) (Parts.cons ((hs3.chg (hc4.trans hc5) (fun _ _ h => h)).mono (fun _ _ _ => trivial)) (Parts.two ((hs4.chg hc5 (fun _ _ h => h)).mono (fun _ _ _ => trivial)) (hs5.mono (fun _ _ _ => trivial))))) (by simp) 4 rfl).mono ?_
  rintro e w6 hg6
  have HAC : Hid (cat [[firstM h], arr h.version 4 4, h.dst.length :: h.dst, h.src.length :: h.src] = aheadH h) := by show _ = _; rw [HAH.out]; simp [cat]
  rw [HAC.out] at hg6
  have hal : (aheadH h).length ≤ 1000000 := by rw [HAH.out]; simp [arr_len]; omega
  obtain ⟨A6, c6, rfl, hs6, hc6⟩ := got_sl2 hg6 hal
  have hch6 : Chg none_ w1 w6 := hch4.trans hc6
  refine hK.out _ _ hch6 (fun _ => ?_)
  clear hK K
  try simp only [Act.put, List.setIfInBounds_toArray, List.set_cons_zero, List.set_cons_succ, List.getElem_toArray, List.getElem_cons_succ, List.getElem_cons_zero]
  refine wpAnyH_ready (rs := [13]) (by kernel_rfl) (by simp) ?_
  refine AllReadyH.cons rfl (fun K hK => ?_) AllReadyH.nil
  rw [if_pos (by rfl)]
  try simp only [List.getElem_toArray, List.getElem_cons_succ, List.getElem_cons_zero]
  go_simp
  refine hK.out _ _ hch6 (fun _ => ?_)
  clear hK K
  try simp only [Act.put, List.setIfInBounds_toArray, List.set_cons_zero, List.set_cons_succ, List.getElem_toArray, List.getElem_cons_succ, List.getElem_cons_zero]
  refine wpAnyH_done (by kernel_rfl) ?_ _
  have HS6 := Lib.hid hs6
  have HC16 := Lib.hid hch6
  generalize aheadH h = ah at *
  clear hs2 hs3 hs4 hs5 hs6 hg2 hg3 hg4 hg5 hg6 hc2 hc3 hc4 hc5 hc6 hch0 hch1 hch2 hch3 hch4 hch5
  have hh7 := ((HX.out _ hch6).cell 7).trans h7
  have hh8 := ((HX.out _ hch6).cell 8).trans h8
  go_wp2_with (go_at_call 29; refine (HPR.out _ (HTAB.out.chg (HCW1.out.trans HC16.out) (fun h => h))).mono ?_; rintro e w7 hg7; obtain ⟨A7, c7, rfl, hs7, hc7⟩ := got_sl2 hg7 (enI_len _); have hch7 : Chg none_ w1 w7 := HC16.out.trans hc7; have hh2 := ((HX.out _ hch7).cell 2).trans h2; have hk7 := ((HX.out _ hch7).cell 7).trans h7)
  have hch8 : Chg none_ w1 w7.drew := hch7.drew
  refine wp_region_held_drew (S := fun w' => Chg none_ w1 w' ∧ Chg none_ w7 w') (by kernel_rfl) ⟨hch8, (Chg.refl _ _).drew⟩ (fun _ => ?_)
  refine wpAnyH_take (i := 0) (v := .slice A6 ah.length c6) rfl (by kernel_rfl) (by kernel_rfl) (by kernel_rfl) (by first | exact fun _ _ _ h => h | exact fun _ _ _ h => nomatch h.1) (Or.inl ⟨by rfl, fun w' hw' => by go_simp⟩) ⟨hch8, (Chg.refl _ _).drew⟩ ?_
  refine wpAnyH_take (i := 1) (v := .pointer (some ⟨w.heap.size, 6, none⟩)) rfl (by kernel_rfl) (by kernel_rfl) (by kernel_rfl) (by first | exact fun _ _ _ h => h | exact fun _ _ _ h => nomatch h.1) (Or.inl ⟨by rfl, fun w' hw' => by go_simp⟩) ⟨hch8, (Chg.refl _ _).drew⟩ ?_
  refine wpAnyH_take (i := 2) (v := .slice Tk h.token.length t') rfl (by kernel_rfl) (by kernel_rfl) (by kernel_rfl) (by first | exact fun _ _ _ h => h | exact fun _ _ _ h => nomatch h.1) (Or.inl ⟨by rfl, fun w' hw' => by have hh := ((HX.out w' hw'.1).cell 6).trans h6; go_simp⟩) ⟨hch8, (Chg.refl _ _).drew⟩ ?_
  refine wpAnyH_take (i := 3) (v := .int .i64 (h.token.length : Nat)) rfl (by kernel_rfl) (by kernel_rfl) (by kernel_rfl) (by first | exact fun _ _ _ h => h | exact fun _ _ _ h => nomatch h.1) (Or.inl ⟨by rfl, fun w' hw' => by go_simp⟩) ⟨hch8, (Chg.refl _ _).drew⟩ ?_
  refine wpAnyH_take (i := 4) (v := .int .u64 (h.token.length : Nat)) rfl (by kernel_rfl) (by kernel_rfl) (by kernel_rfl) (by first | exact fun _ _ _ h => h | exact fun _ _ _ h => nomatch h.1) (Or.inl ⟨by rfl, fun w' hw' => by have hw64 : IntKind.u64.wrap ((h.token.length : Nat) : Int) = (h.token.length : Int) := IntWalk.u64_in _ (by omega); go_simp⟩) ⟨hch8, (Chg.refl _ _).drew⟩ ?_
  refine wpAnyH_take (i := 6) (v := .pointer (some ⟨w.heap.size, 6, none⟩)) rfl (by kernel_rfl) (by kernel_rfl) (by kernel_rfl) (by first | exact fun _ _ _ h => h | exact fun _ _ _ h => nomatch h.1) (Or.inl ⟨by rfl, fun w' hw' => by go_simp⟩) ⟨hch8, (Chg.refl _ _).drew⟩ ?_
  refine wpAnyH_take (i := 7) (v := .slice Tk h.token.length t') rfl (by kernel_rfl) (by kernel_rfl) (by kernel_rfl) (by first | exact fun _ _ _ h => h | exact fun _ _ _ h => nomatch h.1) (Or.inl ⟨by rfl, fun w' hw' => by have hh := ((HX.out w' hw'.1).cell 6).trans h6; go_simp⟩) ⟨hch8, (Chg.refl _ _).drew⟩ ?_
  refine wpAnyH_take (i := 8) (v := .slice A7 (enI (h.cut.length + ρ)).length c7) rfl (by kernel_rfl) (by kernel_rfl) (by kernel_rfl) (by first | exact fun _ _ _ h => h | exact fun _ _ _ h => nomatch h.1) (Or.inl ⟨by rfl, fun w' hw' => by go_simp⟩) ⟨hch8, (Chg.refl _ _).drew⟩ ?_
  refine wpAnyH_take (i := 9) (v := .pointer (some ⟨w.heap.size, 7, none⟩)) rfl (by kernel_rfl) (by kernel_rfl) (by kernel_rfl) (by first | exact fun _ _ _ h => h | exact fun _ _ _ h => nomatch h.1) (Or.inl ⟨by rfl, fun w' hw' => by go_simp⟩) ⟨hch8, (Chg.refl _ _).drew⟩ ?_
  refine wpAnyH_take (i := 10) (v := .slice C h.cut.length c') rfl (by kernel_rfl) (by kernel_rfl) (by kernel_rfl) (by first | exact fun _ _ _ h => h | exact fun _ _ _ h => nomatch h.1) (Or.inl ⟨by rfl, fun w' hw' => by have hh := ((HX.out w' hw'.1).cell 7).trans h7; go_simp⟩) ⟨hch8, (Chg.refl _ _).drew⟩ ?_
  refine wpAnyH_ready (rs := [5]) (by kernel_rfl) (by simp) ?_
  refine AllReadyH.cons rfl (fun K hK => ?_) AllReadyH.nil
  rw [if_pos (by rfl)]
  try simp only [List.getElem_toArray, List.getElem_cons_succ, List.getElem_cons_zero]
  go_simp
  refine (HPT.out _ (HTAB.out.chg (HCW1.out.trans hch8) (fun h => h))).mono ?_
  rintro e w8 hg8
  obtain ⟨A8, c8, rfl, hs8, hc8⟩ := got_sl2 hg8 (enI_len _)
  have hch9 : Chg none_ w1 w8 := hch8.trans hc8
  have hc78 : Chg none_ w7 w8 := ((Chg.refl _ _).drew).trans hc8
  refine hK.out _ _ ⟨hch9, hc78⟩ (fun _ => ?_)
  clear hK K
  try simp only [Act.put, List.setIfInBounds_toArray, List.set_cons_zero, List.set_cons_succ, List.getElem_toArray, List.getElem_cons_succ, List.getElem_cons_zero]
  refine wpAnyH_ready (rs := [11]) (by kernel_rfl) (by simp) ?_
  refine AllReadyH.cons rfl (fun K hK => ?_) AllReadyH.nil
  rw [if_pos (by rfl)]
  try simp only [List.getElem_toArray, List.getElem_cons_succ, List.getElem_cons_zero]
  go_simp
  have hch10 : Chg none_ w1 (w8.alloc (.cells [.slice A6 ah.length c6, .slice A8 (enI h.token.length).length c8, .slice Tk h.token.length t', .slice A7 (enI (h.cut.length + ρ)).length c7, .slice C h.cut.length c'].toArray 23)) := hch9.alloc _
  refine hK.out _ _ ⟨hch10, hc78.alloc _⟩ (fun _ => ?_)
  clear hK K
  try simp only [Act.put, List.setIfInBounds_toArray, List.set_cons_zero, List.set_cons_succ, List.getElem_toArray, List.getElem_cons_succ, List.getElem_cons_zero]
  refine wpAnyH_ready (rs := [12]) (by kernel_rfl) (by simp) ?_
  refine AllReadyH.cons rfl (fun K hK => ?_) AllReadyH.nil
  rw [if_pos (by rfl)]
  try simp only [List.getElem_toArray, List.getElem_cons_succ, List.getElem_cons_zero]
  go_simp
  have hcx := HCW1.out.trans hch9
  refine (together_new w8 [.slice A6 ah.length c6, .slice A8 (enI h.token.length).length c8, .slice Tk h.token.length t', .slice A7 (enI (h.cut.length + ρ)).length c7, .slice C h.cut.length c'] [ah, enI h.token.length, h.token, enI (h.cut.length + ρ), h.cut]
    (Parts.cons ((HS6.out.chg (hc7.trans hc78) (fun _ _ h => h)).mono (fun _ _ _ => trivial)) (Parts.cons (hs8.mono (fun _ _ _ => trivial)) (Parts.cons ((HST.out.chg hcx (fun _ _ h => h)).mono (fun _ _ _ => trivial)) (Parts.two ((hs7.chg hc78 (fun _ _ h => h)).mono (fun _ _ _ => trivial)) ((HSC.out.chg hcx (fun _ _ h => h)).mono (fun _ _ _ => trivial)))))) (by simp) 5 rfl).mono ?_
  rintro e w9 ⟨A9, c9, rfl, hv9, hc9⟩
  have hch11 : Chg none_ w1 w9 := hch9.trans hc9
  refine hK.out _ _ ⟨hch11, hc78.trans hc9⟩ (fun _ => ?_)
  clear hK K
  try simp only [Act.put, List.setIfInBounds_toArray, List.set_cons_zero, List.set_cons_succ, List.getElem_toArray, List.getElem_cons_succ, List.getElem_cons_zero]
  refine wpAnyH_ready (rs := [13]) (by kernel_rfl) (by simp) ?_
  refine AllReadyH.cons rfl (fun K hK => ?_) AllReadyH.nil
  rw [if_pos (by rfl)]
  try simp only [List.getElem_toArray, List.getElem_cons_succ, List.getElem_cons_zero]
  go_simp
  refine hK.out _ _ ⟨hch11, hc78.trans hc9⟩ (fun _ => ?_)
  clear hK K
  try simp only [Act.put, List.setIfInBounds_toArray, List.set_cons_zero, List.set_cons_succ, List.getElem_toArray, List.getElem_cons_succ, List.getElem_cons_zero]
  refine wpAnyH_done (by kernel_rfl) ?_ _
  go_wp2
  go_ret
  refine ⟨A9, c9, by rw [HB.out]; simp [cat], ?_, HCW1.out.trans hch11⟩
  rw [HB.out]
  simp only [cat, List.flatMap_cons, List.flatMap_nil, id, List.append_nil] at hv9
  exact hv9.base hcx.size

set_option maxRecDepth 100000 in
set_option maxHeartbeats 2000000 in
theorem put_long2 (h : Hd) (v : Four) (w : World) (T : Nat → Prop) (hd : HdD w T h v) (hr : rightH h = true) (hl : h.long = true) (hk : h.kind = 2) (hv32 : h.version < 4294967296) (hT : Tab w) :
    Calls Tryd.prog 15 #[aggH h v] w (GotBytes w (bytesH h)) := by
  have hF := rightF hr
  have HR := Lib.hid (fun w' => right_any h v w' w T hd)
  have HF := Lib.hid (fun w' => firstOf_any h v w' w T hd.c hF.c1 hF.c4 hF.k)
  rw [hr] at HR
  have HB : Hid (bytesH h = aheadH h ++ (enI (h.cut.length + h.rest.toNat) ++ h.cut)) := by show _ = _; unfold bytesH; rw [hl, hk]; rfl
  have h0 := cH_0 h v
  have h2 := cH_2 h v
  have h3 := cH_3 h v
  have h4 := cH_4 h v
  have h5 := cH_5 h v
  have h6 := cH_6 h v
  have h7 := cH_7 h v
  have h8 := cH_8 h v
  have h9 := cH_len h v
  rw [hl] at h0
  rw [hk] at h2
  obtain ⟨ρ, hρ⟩ : ∃ ρ : Nat, h.rest = (ρ : Int) := ⟨h.rest.toNat, by have := hF.r0; omega⟩
  have hρ1 : ρ ≤ 1200 := by have := hF.r1; omega
  rw [hρ] at h8
  rw [hρ, Int.toNat_natCast] at HB
  have hct : h.cut.length ≤ 4 := hF.c4
  have htt : h.token.length ≤ 200 := hF.t
  have hdl : h.dst.length < 256 := by have := hF.d; omega
  have hsl : h.src.length < 256 := by have := hF.s; omega
  unfold aggH at *
  obtain ⟨D, d', e4, _, _⟩ := hd.d
  obtain ⟨S, s', e5, _, _⟩ := hd.s
  obtain ⟨Tk, t', e6, _, _⟩ := hd.t
  obtain ⟨C, c', e7, _, _⟩ := hd.c
  rw [e4] at h4; rw [e5] at h5; rw [e6] at h6; rw [e7] at h7
  have HSD := Lib.hid (e4 ▸ hd.d)
  have HSS := Lib.hid (e5 ▸ hd.s)
  have HST := Lib.hid (e6 ▸ hd.t)
  have HSC := Lib.hid (e7 ▸ hd.c)
  have HTAB := Lib.hid hT
  have HPR : Hid (∀ w', Tab w' → Calls Tryd.prog 29 #[.int .u64 ((h.cut.length : Int) + (ρ : Int))] w' (GotBytes w' (enI (h.cut.length + ρ)))) := fun w' h' => vput_got (h.cut.length + ρ) w' h'
  have HPT : Hid (∀ w', Tab w' → Calls Tryd.prog 29 #[.int .u64 (h.token.length : Nat)] w' (GotBytes w' (enI h.token.length))) := fun w' h' => vput_got h.token.length w' h'
  have HAH : Hid (aheadH h = [firstM h] ++ (arr h.version 4 4 ++ ((h.dst.length :: h.dst) ++ (h.src.length :: h.src)))) := rfl
  generalize bytesH h = B at *
  generalize hcs : cellsH h v = cs at *
  have H9 := Lib.hid h9
  have HRW := Lib.hid (Row.new w 25 cs)
  have HCW := Lib.hid ((Chg.refl none_ w).alloc (.cells cs.toArray 25))
  clear hcs h9 hd hF hr hl e4 e5 e6 e7 hT hρ hk
  go_enter Tryd.func15, Tryd.ntmps15
  go_wp2_with (first | ((with_reducible show wpList _ _ _ (⟨_, .load 25 _, _, _, _, _⟩ :: _) _ _); refine wlH rfl rfl rfl HRW.out H9.out ?_) | (go_at_call 12; refine (HR.out _).mono ?_; rintro e w1 ⟨rfl, hc1⟩; have hh0 := ((HRW.out.chg hc1 (fun h => h)).cell 0).trans h0))
  have HX : Hid (∀ w', Chg none_ w1 w' → Row w' w.heap.size 25 cs) := fun w' hc => (HRW.out.chg hc1 (fun h => h)).chg hc (fun h => h)
  have HCW1 : Hid (Chg none_ w w1) := HCW.out.trans hc1
  have hch0 : Chg none_ w1 w1.drew := (Chg.refl _ _).drew
  clear hc1 hh0
  refine wp_region_held_drew (S := fun w' => Chg none_ w1 w') (by kernel_rfl) hch0 (fun _ => ?_)
  refine wpAnyH_take (i := 0) (v := .agg cs.toArray) rfl (by kernel_rfl) (by kernel_rfl) (by kernel_rfl) (by first | exact fun _ _ _ h => h | exact fun _ _ _ h => nomatch h.1) (yieldsIf_load_mid (by rfl) 25 _ rfl w.heap.size 0 rfl cs _ (fun w' hw' => (HX.out w' hw').range) Tryd.underlying25 rfl (by rw [H9.out]; exact sizeH)) hch0 ?_
  refine wpAnyH_take (i := 2) (v := .pointer (some ⟨w.heap.size, 3, none⟩)) rfl (by kernel_rfl) (by kernel_rfl) (by kernel_rfl) (by first | exact fun _ _ _ h => h | exact fun _ _ _ h => nomatch h.1) (Or.inl ⟨by rfl, fun w' hw' => by go_simp⟩) hch0 ?_
  refine wpAnyH_take (i := 3) (v := .int .u32 (h.version : Nat)) rfl (by kernel_rfl) (by kernel_rfl) (by kernel_rfl) (by first | exact fun _ _ _ h => h | exact fun _ _ _ h => nomatch h.1) (Or.inl ⟨by rfl, fun w' hw' => by have hh := ((HX.out w' hw').cell 3).trans h3; go_simp⟩) hch0 ?_
  refine wpAnyH_take (i := 5) (v := .pointer (some ⟨w.heap.size, 4, none⟩)) rfl (by kernel_rfl) (by kernel_rfl) (by kernel_rfl) (by first | exact fun _ _ _ h => h | exact fun _ _ _ h => nomatch h.1) (Or.inl ⟨by rfl, fun w' hw' => by go_simp⟩) hch0 ?_
  refine wpAnyH_take (i := 6) (v := .slice D h.dst.length d') rfl (by kernel_rfl) (by kernel_rfl) (by kernel_rfl) (by first | exact fun _ _ _ h => h | exact fun _ _ _ h => nomatch h.1) (Or.inl ⟨by rfl, fun w' hw' => by have hh := ((HX.out w' hw').cell 4).trans h4; go_simp⟩) hch0 ?_
  refine wpAnyH_take (i := 8) (v := .pointer (some ⟨w.heap.size, 5, none⟩)) rfl (by kernel_rfl) (by kernel_rfl) (by kernel_rfl) (by first | exact fun _ _ _ h => h | exact fun _ _ _ h => nomatch h.1) (Or.inl ⟨by rfl, fun w' hw' => by go_simp⟩) hch0 ?_
  refine wpAnyH_take (i := 9) (v := .slice S h.src.length s') rfl (by kernel_rfl) (by kernel_rfl) (by kernel_rfl) (by first | exact fun _ _ _ h => h | exact fun _ _ _ h => nomatch h.1) (Or.inl ⟨by rfl, fun w' hw' => by have hh := ((HX.out w' hw').cell 5).trans h5; go_simp⟩) hch0 ?_
  refine wpAnyH_ready (rs := [1]) (by kernel_rfl) (by simp) ?_
  refine AllReadyH.cons rfl (fun K hK => ?_) AllReadyH.nil
  rw [if_pos (by rfl)]
  try simp only [List.getElem_toArray, List.getElem_cons_succ, List.getElem_cons_zero]
  go_simp
  refine (HF.out _).mono ?_
  rintro e w2 hg2
  obtain ⟨A2, c2, rfl, hs2, hc2⟩ := got_sl2 hg2 (by simp)
  have hch1 : Chg none_ w1 w2 := (hch0).trans hc2
  refine hK.out _ _ hch1 (fun _ => ?_)
  clear hK K
  try simp only [Act.put, List.setIfInBounds_toArray, List.set_cons_zero, List.set_cons_succ, List.getElem_toArray, List.getElem_cons_succ, List.getElem_cons_zero]
  refine wpAnyH_ready (rs := [4]) (by kernel_rfl) (by simp) ?_
  refine AllReadyH.cons rfl (fun K hK => ?_) AllReadyH.nil
  rw [if_pos (by rfl)]
  try simp only [List.getElem_toArray, List.getElem_cons_succ, List.getElem_cons_zero]
  go_simp
  refine (putVersion_any h.version w2 hv32).mono ?_
  rintro e w3 hg3
  obtain ⟨A3, c3, rfl, hs3, hc3⟩ := got_sl2 hg3 (by simp [arr_len])
  have hch2 : Chg none_ w1 w3 := hch1.trans hc3
  refine hK.out _ _ hch2 (fun _ => ?_)
  clear hK K
  try simp only [Act.put, List.setIfInBounds_toArray, List.set_cons_zero, List.set_cons_succ, List.getElem_toArray, List.getElem_cons_succ, List.getElem_cons_zero]
  refine wpAnyH_ready (rs := [7]) (by kernel_rfl) (by simp) ?_
  refine AllReadyH.cons rfl (fun K hK => ?_) AllReadyH.nil
  rw [if_pos (by rfl)]
  try simp only [List.getElem_toArray, List.getElem_cons_succ, List.getElem_cons_zero]
  go_simp
  refine (counted_any w3 T _ h.dst (HSD.out.chg (HCW1.out.trans hch2) (fun _ _ h => h)) hdl).mono ?_
  rintro e w4 hg4
  obtain ⟨A4, c4, rfl, hs4, hc4⟩ := got_sl2 hg4 (by simp; omega)
  have hch3 : Chg none_ w1 w4 := hch2.trans hc4
  refine hK.out _ _ hch3 (fun _ => ?_)
  clear hK K
  try simp only [Act.put, List.setIfInBounds_toArray, List.set_cons_zero, List.set_cons_succ, List.getElem_toArray, List.getElem_cons_succ, List.getElem_cons_zero]
  refine wpAnyH_ready (rs := [10]) (by kernel_rfl) (by simp) ?_
  refine AllReadyH.cons rfl (fun K hK => ?_) AllReadyH.nil
  rw [if_pos (by rfl)]
  try simp only [List.getElem_toArray, List.getElem_cons_succ, List.getElem_cons_zero]
  go_simp
  refine (counted_any w4 T _ h.src (HSS.out.chg (HCW1.out.trans hch3) (fun _ _ h => h)) hsl).mono ?_
  rintro e w5 hg5
  obtain ⟨A5, c5, rfl, hs5, hc5⟩ := got_sl2 hg5 (by simp; omega)
  have hch4 : Chg none_ w1 w5 := hch3.trans hc5
  refine hK.out _ _ hch4 (fun _ => ?_)
  clear hK K
  try simp only [Act.put, List.setIfInBounds_toArray, List.set_cons_zero, List.set_cons_succ, List.getElem_toArray, List.getElem_cons_succ, List.getElem_cons_zero]
  refine wpAnyH_ready (rs := [11]) (by kernel_rfl) (by simp) ?_
  refine AllReadyH.cons rfl (fun K hK => ?_) AllReadyH.nil
  rw [if_pos (by rfl)]
  try simp only [List.getElem_toArray, List.getElem_cons_succ, List.getElem_cons_zero]
  go_simp
  have hch5 : Chg none_ w1 (w5.alloc (.cells [.slice A2 1 c2, .slice A3 (arr h.version 4 4).length c3, .slice A4 (h.dst.length + 1) c4, .slice A5 (h.src.length + 1) c5].toArray 23)) := hch4.alloc _
  refine hK.out _ _ hch5 (fun _ => ?_)
  clear hK K
  try simp only [Act.put, List.setIfInBounds_toArray, List.set_cons_zero, List.set_cons_succ, List.getElem_toArray, List.getElem_cons_succ, List.getElem_cons_zero]
  refine wpAnyH_ready (rs := [12]) (by kernel_rfl) (by simp) ?_
  refine AllReadyH.cons rfl (fun K hK => ?_) AllReadyH.nil
  rw [if_pos (by rfl)]
  try simp only [List.getElem_toArray, List.getElem_cons_succ, List.getElem_cons_zero]
  go_simp
  refine (together_new w5 [.slice A2 1 c2, .slice A3 (arr h.version 4 4).length c3, .slice A4 (h.dst.length + 1) c4, .slice A5 (h.src.length + 1) c5] [[firstM h], arr h.version 4 4, h.dst.length :: h.dst, h.src.length :: h.src]
    (Parts.cons ((hs2.chg ((hc3.trans hc4).trans hc5) (fun _ _ h => h)).mono (fun _ _ _ => trivial)) (Parts.cons ((hs3.chg (hc4.trans hc5) (fun _ _ h => h)).mono (fun _ _ _ => trivial)) (Parts.two ((hs4.chg hc5 (fun _ _ h => h)).mono (fun _ _ _ => trivial)) (hs5.mono (fun _ _ _ => trivial))))) (by simp) 4 rfl).mono ?_
  rintro e w6 hg6
  have HAC : Hid (cat [[firstM h], arr h.version 4 4, h.dst.length :: h.dst, h.src.length :: h.src] = aheadH h) := by show _ = _; rw [HAH.out]; simp [cat]
  rw [HAC.out] at hg6
  have hal : (aheadH h).length ≤ 1000000 := by rw [HAH.out]; simp [arr_len]; omega
  obtain ⟨A6, c6, rfl, hs6, hc6⟩ := got_sl2 hg6 hal
  have hch6 : Chg none_ w1 w6 := hch4.trans hc6
  refine hK.out _ _ hch6 (fun _ => ?_)
  clear hK K
  try simp only [Act.put, List.setIfInBounds_toArray, List.set_cons_zero, List.set_cons_succ, List.getElem_toArray, List.getElem_cons_succ, List.getElem_cons_zero]
  refine wpAnyH_ready (rs := [13]) (by kernel_rfl) (by simp) ?_
  refine AllReadyH.cons rfl (fun K hK => ?_) AllReadyH.nil
  rw [if_pos (by rfl)]
  try simp only [List.getElem_toArray, List.getElem_cons_succ, List.getElem_cons_zero]
  go_simp
  refine hK.out _ _ hch6 (fun _ => ?_)
  clear hK K
  try simp only [Act.put, List.setIfInBounds_toArray, List.set_cons_zero, List.set_cons_succ, List.getElem_toArray, List.getElem_cons_succ, List.getElem_cons_zero]
  refine wpAnyH_done (by kernel_rfl) ?_ _
  have HS6 := Lib.hid hs6
  have HC16 := Lib.hid hch6
  generalize aheadH h = ah at *
  clear hs2 hs3 hs4 hs5 hs6 hg2 hg3 hg4 hg5 hg6 hc2 hc3 hc4 hc5 hc6 hch0 hch1 hch2 hch3 hch4 hch5
  have hh7 := ((HX.out _ hch6).cell 7).trans h7
  have hh8 := ((HX.out _ hch6).cell 8).trans h8
  go_wp2_with (go_at_call 29; refine (HPR.out _ (HTAB.out.chg (HCW1.out.trans HC16.out) (fun h => h))).mono ?_; rintro e w7 hg7; obtain ⟨A7, c7, rfl, hs7, hc7⟩ := got_sl2 hg7 (enI_len _); have hch7 : Chg none_ w1 w7 := HC16.out.trans hc7; have hh2 := ((HX.out _ hch7).cell 2).trans h2; have hk7 := ((HX.out _ hch7).cell 7).trans h7)
  go_wp2_with (go_at_call 25; refine (together_new w7 [.slice A6 ah.length c6, .slice A7 (enI (h.cut.length + ρ)).length c7, .slice C h.cut.length c'] [ah, enI (h.cut.length + ρ), h.cut] (Parts.cons ((HS6.out.chg hc7 (fun _ _ h => h)).mono (fun _ _ _ => trivial)) (Parts.two (hs7.mono (fun _ _ _ => trivial)) ((HSC.out.chg (HCW1.out.trans hch7) (fun _ _ h => h)).mono (fun _ _ _ => trivial)))) (by simp) 3 rfl).mono ?_; rintro e w9 ⟨A9, c9, rfl, hv9, hc9⟩)
  go_ret
  refine ⟨A9, c9, by rw [HB.out]; simp [cat], ?_, HCW1.out.trans (hch7.trans hc9)⟩
  rw [HB.out]
  simp only [cat, List.flatMap_cons, List.flatMap_nil, id, List.append_nil] at hv9
  exact hv9.base (HCW1.out.trans hch7).size
theorem put_none (h : Hd) (v : Four) (w : World) (T : Nat → Prop) (hd : HdD w T h v) (hr : rightH h = false) :
    Calls Tryd.prog 15 #[aggH h v] w (GotBytes w []) := by
  have HR := Lib.hid (fun w' => right_any h v w' w T hd)
  rw [hr] at HR
  have h9 := cH_len h v
  unfold aggH at *
  generalize cellsH h v = cs at *
  have H9 := Lib.hid h9
  have HRW := Lib.hid (Row.new w 25 cs)
  have HCW := Lib.hid ((Chg.refl none_ w).alloc (.cells cs.toArray 25))
  clear h9 hd hr
  go_enter Tryd.func15, Tryd.ntmps15
  go_wp2_with (first | ((with_reducible show wpList _ _ _ (⟨_, .load 25 _, _, _, _, _⟩ :: _) _ _); refine wlH rfl rfl rfl HRW.out H9.out ?_) | (go_at_call 12; refine (HR.out _).mono ?_; rintro e w1 ⟨rfl, hc1⟩))
  go_ret
  exact ⟨none, 0, rfl, Fresh.nil _ _, HCW.out.trans hc1⟩

/-- Put, of whatever header. -/
theorem put_hd (h : Hd) (v : Four) (w : World) (T : Nat → Prop) (hd : HdD w T h v) (hv32 : h.version < 4294967296) (hT : Tab w) :
    Calls Tryd.prog 15 #[aggH h v] w (GotBytes w (putH h)) := by
  unfold putH
  cases hr : rightH h with
  | false => exact put_none h v w T hd hr
  | true =>
    cases hl : h.long with
    | false => exact put_short h v w T hd hr hl
    | true =>
      rcases (rightF hr).k with hk | hk
      · exact put_long0 h v w T hd hr hl hk hv32 hT
      · exact put_long2 h v w T hd hr hl hk hv32 hT
end Go.Proofs.YtfecmloaopbogaaDoor
