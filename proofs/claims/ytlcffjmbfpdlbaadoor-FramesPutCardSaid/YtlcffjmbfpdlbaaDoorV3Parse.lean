/- Layer 3 (frames): all frames of bytes. -/
import Derived.Test.YtlcffjmbfpdlbaaDoorV3Frs
namespace Go.Proofs.YtlcffjmbfpdlbaaDoor
open Go.RowKit

theorem RdS.restrict {w : World} {g : Nat} {T T' : Nat → Prop} {s : St} (h : RdS w g T s) (hs : ∀ b, b < w.heap.size → T b → T' b) : RdS w g T' s := by
  obtain ⟨⟨A, cap, h1, h2, h3, h4, h5⟩, h6⟩ := h
  exact ⟨⟨A, cap, h1, h2, h3, h4.mono hs, h5⟩, h6⟩
/-- How many bytes a reader has left, in memory. -/
def leftAt (w : World) (g : Nat) : Nat := match w.cell? ⟨g, 0, none⟩ with | some (.slice _ n _) => n | _ => 0
theorem RdS.left {w : World} {g : Nat} {T : Nat → Prop} {s : St} (h : RdS w g T s) : leftAt w g = s.1.length := by
  obtain ⟨⟨A, cap, h1, _⟩, _⟩ := h
  have : w.cell? ⟨g, 0, none⟩ = some (.slice A s.1.length cap) := h1.cell 0
  unfold leftAt; rw [this]
theorem one_of {w : World} {T : Nat → Prop} {f : Fr} {sd sr : Value} (h : FrD w T f sd sr) : (cellsF f sd sr).all (·.oneCell') = true := by
  obtain ⟨_, ⟨A1, c1, rfl, _⟩, ⟨B1, d1, rfl, _⟩⟩ := h
  exact cF_one _ _ _ _ _ _ _
theorem new_cells {w : World} {g : Nat} {e : TypeId} {cs : List Value} (h : Row w g e cs) : ∀ j u, cs[j]? = some u → w.cell? ((⟨g, 0, none⟩ : Addr).add j) = some u := fun j u hu => by
  rw [addr_add, Nat.zero_add, h.cell]
  exact hu
/-- The frames, or the error. -/
def ParsePost (m : List Fr × Int) (w : World) (e : Ending) (w' : World) : Prop :=
  ∃ v L base T, e = .returned (.tuple #[v, .int .i64 m.2]) ∧ FsAt w' base T v L ∧ w.heap.size ≤ base ∧ L.map (·.1) = m.1 ∧ Chg none_ w w'
theorem ParsePost.none (m : List Fr × Int) (w w' : World) (h : m.1 = []) (hc : Chg none_ w w') : ParsePost m w (.returned (.tuple #[.slice Option.none 0 0, .int .i64 m.2])) w' :=
  ⟨_, [], w.heap.size, _, rfl, FsAt.nil w' _, Nat.le_refl _, h.symm, hc⟩

set_option maxRecDepth 100000 in
set_option maxHeartbeats 4000000 in
theorem parse_any (w : World) (T : Nat → Prop) (A : Option Addr) (c : Nat) (bb : List Nat) (hv : View w T A bb.length (u8s bb)) (hl : bb.length ≤ 1000000) (hx : ∀ x ∈ bb, x < 256) :
    Calls Tryd.prog 14 #[.slice A bb.length c] w (ParsePost (parseM bb) w) := by
  obtain ⟨j0, hj, hsz, hz, hby⟩ := infoF_parts
  have HRD := Lib.hid (read_any w T A c bb hv hl)
  have HX := Lib.hid hx
  have HU := Lib.hid (parseM_eq bb)
  clear hv hx
  generalize parseM bb = U at *
  go_enter Tryd.func14, Tryd.ntmps14
  go_wp2
  refine wp_scope_fwd 0 rfl ?_
  go_wp2_with (first | (go_at_call 24; refine HRD.out.mono ?_; rintro e w1 ⟨r, rfl, hgr, hrd, hc1⟩; have HRd1 := Lib.hid hrd; have HC1 := Lib.hid hc1; have HGR := Lib.hid hgr; clear hrd hc1 hgr) | (go_at_call 15; refine (kinds_any w1).mono ?_; rintro e w2 ⟨rfl, hk2, hc2⟩; have HK2 := Lib.hid hk2; have HC2 := Lib.hid hc2; clear hk2 hc2))
  have HRS1 : RdS w1 r (fun b => w.heap.size ≤ b ∧ b ≠ r) (bb, 0) := ⟨HRd1.out, HX.out⟩
  have HG : Hid (w.heap.size ≤ r ∧ r < w1.heap.size ∧ w1.heap.size ≤ w2.heap.size) := Lib.hid ⟨HGR.out, HRS1.lt, HC2.out.size⟩
  have R0 : RdS w2 r (fun b => w.heap.size ≤ b ∧ b ≠ r ∧ b < w1.heap.size) (bb, 0) := (HRS1.restrict (fun b hb h => ⟨h.1, h.2, hb⟩)).chg HC2.out (fun h => h) (fun _ _ h => h)
  have K0 : Hid (KindsAt w2 (fun b => w1.heap.size < b ∧ b < w2.heap.size) w1.heap.size) := Lib.hid (HK2.out.lift 0 (fun b hb h => ⟨h, hb⟩))
  have HCW0 := Lib.hid (HC1.out.trans HC2.out)
  clear HRS1 HRD HX HK2 HGR HRd1
  go_loopw [4, 7] (fun v _ wr => ∃ (L : List FrV) (s : St) (T' : Nat → Prop), L.length ≤ 65 ∧ FsAt wr w2.heap.size T' v L ∧ RdS wr r (fun b => w.heap.size ≤ b ∧ b ≠ r ∧ b < w1.heap.size) s ∧ Chg (fun b => b = r) w2 wr ∧ Hid (loopP [] (bb, 0) = loopP (L.map (·.1)) s)) (fun _ _ wr => leftAt wr r)
  case atStart => exact ⟨[], (bb, 0), _, by simp, FsAt.nil _ _, R0, Chg.refl _ _, Lib.hid rfl⟩
  case round =>
    obtain ⟨L, s, T', hll, hfs, hrd, hch, heq⟩ := hrel
    clear R0
    obtain ⟨A1, cap1, rfl, hnc, hmc, _⟩ := view_ownN hfs.own
    have HFS := Lib.hid hfs
    have HLEN := Lib.hid hrd.left
    have HCH := Lib.hid hch
    have HRDS := Lib.hid hrd
    clear hfs hch hrd
    have HCW : Hid (Chg none_ w wr) := Lib.hid (HCW0.out.andThen HCH.out (fun b hb h => by have h5 : b = r := h; have := HG.out; omega))
    by_cases hs : s.1 = []
    · have hz0 : s.1.length = 0 := by rw [hs]; rfl
      have hz1 : ¬ (0 : Int) < (s.1.length : Int) := by omega
      have hu := HU.out _ s (heq.out.trans (loopP_stop _ s hs))
      rw [List.length_map] at hu
      have HU2 := Lib.hid hu
      clear hs hz0 heq HU hu
      by_cases hb : s.2 = 0
      · have hbz : (s.2 != 0) = false := by rw [bne_eq_false_iff_eq]; exact hb
        have hfail : failSt 3 s = ([], 3) := by unfold failSt; rw [if_neg (by rw [hb]; decide)]
        by_cases h0 : L.length = 0
        · have HU3 : Hid (U = ([], 3)) := Lib.hid (by rw [HU2.out, if_neg (by rw [hb]; decide), if_pos (.inl h0)])
          have q0 : ((L.length : Int) == 0) = true := by rw [h0]; rfl
          have HFL := Lib.hid hfail
          clear hfail h0
          go_wp2_with (first | (go_at_call 25; refine (leftS_any _ r _ s HRDS.out).mono ?_; rintro e w' ⟨rfl, rfl⟩) | (go_at_call 27; refine (badS_any _ r _ s HRDS.out).mono ?_; rintro e w' ⟨rfl, rfl⟩))
          go_step3
          simp only [Exit.then]
          refine jump_fwd ?_
          go_wp2_with (first | (go_at_call 28; refine (failS_any _ r _ s 3 HRDS.out).mono ?_; rintro e w9 ⟨rfl, hr9, hc9⟩; have HR9 := Lib.hid hr9; have HC9 := Lib.hid (HCW.out.andThen hc9 (fun b hb h => by have h5 : b = r := h; have := HG.out; omega)); clear hr9 hc9) | (go_at_call 27; refine (badS_any _ r _ _ HR9.out).mono ?_; rintro e w' ⟨rfl, rfl⟩))
          rw [Exit.noGoto_ret]
          refine bodyPost_ret (results_tmp2 rfl _ _ _) rfl ?_
          rw [HU3.out, HFL.out]
          exact ParsePost.none ([], 3) w _ rfl HC9.out
        have q0 : ((L.length : Int) == 0) = false := by rw [beq_eq_false_iff_ne]; omega
        by_cases h64 : 64 < L.length
        · have HU3 : Hid (U = ([], 3)) := Lib.hid (by rw [HU2.out, if_neg (by rw [hb]; decide), if_pos (.inr h64)])
          have q1 : (64 : Int) < (L.length : Int) := by omega
          have HFL := Lib.hid hfail
          clear hfail h0 h64
          go_wp2_with (first | (go_at_call 25; refine (leftS_any _ r _ s HRDS.out).mono ?_; rintro e w' ⟨rfl, rfl⟩) | (go_at_call 27; refine (badS_any _ r _ s HRDS.out).mono ?_; rintro e w' ⟨rfl, rfl⟩))
          go_step3
          simp only [Exit.then]
          refine jump_fwd ?_
          go_wp2_with (first | (go_at_call 28; refine (failS_any _ r _ s 3 HRDS.out).mono ?_; rintro e w9 ⟨rfl, hr9, hc9⟩; have HR9 := Lib.hid hr9; have HC9 := Lib.hid (HCW.out.andThen hc9 (fun b hb h => by have h5 : b = r := h; have := HG.out; omega)); clear hr9 hc9) | (go_at_call 27; refine (badS_any _ r _ _ HR9.out).mono ?_; rintro e w' ⟨rfl, rfl⟩))
          rw [Exit.noGoto_ret]
          refine bodyPost_ret (results_tmp2 rfl _ _ _) rfl ?_
          rw [HU3.out, HFL.out]
          exact ParsePost.none ([], 3) w _ rfl HC9.out
        · have HU3 : Hid (U = (L.map (·.1), 0)) := Lib.hid (by rw [HU2.out, if_neg (by rw [hb]; decide), if_neg (by omega)])
          have q1 : ¬ (64 : Int) < (L.length : Int) := by omega
          clear hfail h0 h64
          go_wp2_with (first | (go_at_call 25; refine (leftS_any _ r _ s HRDS.out).mono ?_; rintro e w' ⟨rfl, rfl⟩) | (go_at_call 27; refine (badS_any _ r _ s HRDS.out).mono ?_; rintro e w' ⟨rfl, rfl⟩))
          rw [jump_ret]
          refine bodyPost_ret (results_tmp2 rfl _ _ _) rfl ?_
          rw [HU3.out]
          exact ⟨_, L, _, T', rfl, HFS.out, by have := HG.out; omega, rfl, HCW.out⟩
      · have hbz : (s.2 != 0) = true := by rw [bne_iff_ne]; exact hb
        have HU3 : Hid (U = ([], s.2)) := Lib.hid (by rw [HU2.out, if_pos hb])
        have HFL : Hid (failSt 3 s = s) := Lib.hid (by unfold failSt; rw [if_pos (.inl hb)])
        go_wp2_with (first | (go_at_call 25; refine (leftS_any _ r _ s HRDS.out).mono ?_; rintro e w' ⟨rfl, rfl⟩) | (go_at_call 27; refine (badS_any _ r _ s HRDS.out).mono ?_; rintro e w' ⟨rfl, rfl⟩))
        go_step3
        simp only [Exit.then]
        refine jump_fwd ?_
        go_wp2_with (first | (go_at_call 28; refine (failS_any _ r _ s 3 HRDS.out).mono ?_; rintro e w9 ⟨rfl, hr9, hc9⟩; have HR9 := Lib.hid hr9; have HC9 := Lib.hid (HCW.out.andThen hc9 (fun b hb h => by have h5 : b = r := h; have := HG.out; omega)); clear hr9 hc9) | (go_at_call 27; refine (badS_any _ r _ _ HR9.out).mono ?_; rintro e w' ⟨rfl, rfl⟩))
        rw [Exit.noGoto_ret]
        refine bodyPost_ret (results_tmp2 rfl _ _ _) rfl ?_
        rw [HU3.out, HFL.out]
        exact ParsePost.none ([], s.2) w _ rfl HC9.out
    · have hz1 : (0 : Int) < (s.1.length : Int) := by have := List.length_pos_iff.2 hs; omega
      have hlt := nextM_less s hs
      have hE := heq.out.trans (loopP_on _ s hs)
      clear heq hs
      have hnx := next_any s r w1.heap.size wr _ (fun b => w1.heap.size < b ∧ b < w2.heap.size) HRDS.out (fun h => h.2.1 rfl) (fun b hb => by have := HG.out; have := HCH.out.size; have := hb.2.2; omega) (K0.out.chg HCH.out (fun h => by have h5 : w1.heap.size = r := h; have := HG.out; omega) (fun b hb h => by have h5 : b = r := h; have := HG.out; have := hb.1; omega)) (fun h => by have := HG.out; have := h.1; omega) (fun b hb => by have := HCH.out.size; have := hb.2; omega) (by have := HG.out; omega)
      unfold NextPost aggF at hnx
      obtain ⟨f, s', hR⟩ : ∃ f s', nextM s = (f, s') := ⟨_, _, rfl⟩
      rw [hR] at hnx hlt hE
      simp only at hnx hlt hE
      have HNX := Lib.hid hnx
      have HLT := Lib.hid hlt
      have HE := Lib.hid hE
      clear hnx hlt hE hR
      have HOWN : Hid (∀ x3 x6, Chg (fun b => b = r) wr x3 → Chg none_ x3 x6 → x6.ownsRow w2.heap.size 27 24 (.slice A1 L.length cap1) L.length (fcellsL L)) := Lib.hid (fun x3 x6 h3 h6 => own_chgF (own_chgF HFS.out.own h3 (fun b e h => by have h5 : b = r := h; have := (HFS.out.own.lt b e).1; have := HG.out; omega)) h6 (fun _ _ h => h))
      have HSZ : Hid (∀ x3 x6, Chg (fun b => b = r) wr x3 → Chg none_ x3 x6 → w2.heap.size ≤ x6.heap.size) := Lib.hid (fun x3 x6 h3 h6 => Nat.le_trans HCH.out.size (Nat.le_trans h3.size h6.size))
      by_cases h64 : L.length ≤ 64
      · have q1 : (L.length : Int) ≤ 64 := by omega
        have HBYT : Hid ((L.length + 1) * j0.bytes ≤ 140737488355328) := Lib.hid (by have := Nat.mul_le_mul (show L.length + 1 ≤ 66 by omega) hby; omega)
        have HST : Hid (stepP (L.map (·.1)) f = L.map (·.1) ++ [f]) := Lib.hid (if_pos (by rw [List.length_map]; exact h64))
        go_wp2_with (first | (go_at_call 25; refine (leftS_any _ r _ s HRDS.out).mono ?_; rintro e w' ⟨rfl, rfl⟩) | (go_at_call 26; refine HNX.out.mono ?_; rintro e w3 ⟨sd, sr, rfl, hfd, hr3, hc3⟩; have HFD := Lib.hid hfd; have HR3 := Lib.hid hr3; have HC3 := Lib.hid hc3; have HL24 := Lib.hid (cF_len f sd sr hfd.tok); have HONE := Lib.hid (one_of hfd); clear hfd hr3 hc3) | ((with_reducible show wpList _ _ _ (⟨some 7, .alloc 27, _, _, _, _⟩ :: _) _ _); refine wpList_alloc_Row rfl rfl zeroF zero27 ?_; intro w4 hr4 hc4 hs4; have HR4 := Lib.hid hr4; have HC4 := Lib.hid hc4; clear hr4 hc4 hs4) | ((with_reducible show wpList _ _ _ (⟨_, .store 27 _ _, _, _, _, _⟩ :: _) _ _); refine wpList_store_Row (xs := cellsF f sd sr) rfl rfl rfl HR4.out rfl (by rw [HL24.out, zeroF_len]) (by rw [HL24.out]; exact size27) HONE.out ?_; intro w5 hr5 hcs5 hs5; have HR5 := Lib.hid hr5; have HC5 := Lib.hid (hcs5 none_ w3 HC4.out (fun h => absurd h (Nat.lt_irrefl _))); clear hr5 hcs5 hs5) | ((with_reducible show wpList _ _ _ (⟨some 21, .load 27 _, _, _, _, _⟩ :: _) _ _); refine wpList_load_Row rfl rfl rfl HR5.out Tryd.underlying27 rfl (by rw [HL24.out]; exact size27) ?_) | ((with_reducible show wpList _ _ _ (⟨some 22, _, _, _, _, _⟩ :: _) _ _); refine wpList_newF (v := fun g => .slice (some ⟨g, 0, none⟩) 1 1) (e := 27) (cs := cellsF f sd sr) rfl (fun w_ => by have hh := run_sliceF (cellsF f sd sr) HL24.out w_; unfold execOp; simp [Act.eval, Act.put, hh]) ?_; intro w6 hr6 hc6 hs6; have HR6 := Lib.hid hr6; have HC6 := Lib.hid (HC5.out.trans hc6); clear hr6 hc6 hs6) | (at_builtin; refine wpList_append_own_at _ rfl _ _ 35 rfl w2.heap.size 27 j0 _ 24 j0.bytes Tryd.underlying35 hj hz hsz rfl rfl (by omega) (.slice A1 L.length cap1) L.length (fcellsL L) rfl (HOWN.out w3 w6 HC3.out HC6.out) ⟨w5.heap.size, 0, none⟩ 1 1 (cellsF f sd sr) rfl (by rw [HL24.out]) (new_cells HR6.out) (fun u hu => List.all_eq_true.1 HONE.out u hu) (by unfold maxLen; omega) HBYT.out (HSZ.out w3 w6 HC3.out HC6.out) ?_; intro v' w7 hown7 hgrow7 _ hblk7))
        have hc36 : Chg (fun b => b = r) wr w6 := HC3.out.trans (HC6.out.mono (fun _ _ h => h.elim))
        have hc7 : Chg (fun b => (Value.slice A1 L.length cap1).ownBlock = some b) w6 w7 := Chg.of_grown hgrow7
        have hbr : ∀ b, w2.heap.size ≤ b → ¬ b = r := fun b hb e => by have := HG.out; omega
        have hf6 : FrD w6 (fun b => wr.heap.size ≤ b ∧ b < w6.heap.size) f sd sr := ((HFD.out.mono (T' := fun b => wr.heap.size ≤ b ∧ b < w3.heap.size) (fun b hb h => ⟨h, hb⟩)).chg HC6.out (fun _ _ h => h)).mono (fun b _ h => ⟨h.1, Nat.lt_of_lt_of_le h.2 HC6.out.size⟩)
        have hfs7 := FsAt.snoc (x := (f, sd, sr)) HFS.out HCH.out.size hc36 hbr hf6 hc7 hown7 (fun b e => by
          rcases hblk7 with h | h
          · exact .inl (by rw [← h]; exact e)
          · rw [h] at e; cases e; exact .inr (Nat.le_refl _))
        have hob : ∀ b, (Value.slice A1 L.length cap1).ownBlock = some b → w2.heap.size ≤ b := fun b e => (HFS.out.own.lt b e).1
        have hrd7 := (HR3.out.chg HC6.out (fun h => h) (fun _ _ h => h)).chg hc7 (fun h => by have := hob _ h; have := HG.out; omega) (fun b hb h => by have := hob _ h; have := HG.out; have := hb.2.2; omega)
        have hch7 : Chg (fun b => b = r) w2 w7 := (HCH.out.trans hc36).andThen hc7 (fun b hb e => by have := hob _ e; omega)
        have HE2 : Hid (loopP [] (bb, 0) = loopP ((L ++ [(f, sd, sr)]).map (·.1)) s') := Lib.hid (by rw [HE.out, HST.out, List.map_append]; rfl)
        clear hown7 hgrow7 hblk7
        go_roundw
        case rel => exact ⟨L ++ [(f, sd, sr)], s', _, by simp; omega, hfs7, hrd7, hch7, HE2⟩
        case measure =>
          rw [hrd7.left, HLEN.out]
          exact HLT.out
      · have q1 : ¬ (L.length : Int) ≤ 64 := by omega
        have HST : Hid (stepP (L.map (·.1)) f = L.map (·.1)) := Lib.hid (if_neg (by rw [List.length_map]; exact h64))
        have HE2 : Hid (loopP [] (bb, 0) = loopP (L.map (·.1)) s') := Lib.hid (by rw [HE.out, HST.out])
        go_wp2_with (first | (go_at_call 25; refine (leftS_any _ r _ s HRDS.out).mono ?_; rintro e w' ⟨rfl, rfl⟩) | (go_at_call 26; refine HNX.out.mono ?_; rintro e w3 ⟨sd, sr, rfl, hfd, hr3, hc3⟩; have HFD := Lib.hid hfd; have HR3 := Lib.hid hr3; have HC3 := Lib.hid hc3; have HL24 := Lib.hid (cF_len f sd sr hfd.tok); have HONE := Lib.hid (one_of hfd); clear hfd hr3 hc3) | ((with_reducible show wpList _ _ _ (⟨some 7, .alloc 27, _, _, _, _⟩ :: _) _ _); refine wpList_alloc_Row rfl rfl zeroF zero27 ?_; intro w4 hr4 hc4 hs4; have HR4 := Lib.hid hr4; have HC4 := Lib.hid hc4; clear hr4 hc4 hs4) | ((with_reducible show wpList _ _ _ (⟨_, .store 27 _ _, _, _, _, _⟩ :: _) _ _); refine wpList_store_Row (xs := cellsF f sd sr) rfl rfl rfl HR4.out rfl (by rw [HL24.out, zeroF_len]) (by rw [HL24.out]; exact size27) HONE.out ?_; intro w5 hr5 hcs5 hs5; have HR5 := Lib.hid hr5; have HC5 := Lib.hid (hcs5 none_ w3 HC4.out (fun h => absurd h (Nat.lt_irrefl _))); clear hr5 hcs5 hs5))
        have hc35 : Chg (fun b => b = r) wr w5 := HC3.out.trans (HC5.out.mono (fun _ _ h => h.elim))
        have hbr : ∀ b, w2.heap.size ≤ b → ¬ b = r := fun b hb e => by have := HG.out; omega
        have hrd5 := HR3.out.chg HC5.out (fun h => h) (fun _ _ h => h)
        go_roundw
        case rel => exact ⟨L, s', T', hll, HFS.out.chg hc35 hbr, hrd5, HCH.out.trans hc35, HE2⟩
        case measure =>
          rw [hrd5.left, HLEN.out]
          exact HLT.out
end Go.Proofs.YtlcffjmbfpdlbaaDoor
