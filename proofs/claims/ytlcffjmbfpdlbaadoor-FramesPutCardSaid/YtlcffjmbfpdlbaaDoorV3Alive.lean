/- Layer 3 (frames): the laws' own look that the program answers at all. -/
import Derived.Test.YtlcffjmbfpdlbaaDoorV3Parse
import Derived.Test.YtlcffjmbfpdlbaaDoorV3TwoM
import Derived.Test.YtlcffjmbfpdlbaaDoorSame
import Derived.Test.YtlcffjmbfpdlbaaDoorStr
namespace Go.Proofs.YtlcffjmbfpdlbaaDoor
open Go.RowKit

def fA : Fr := { kind := 2, b := 5, ranges := [(8, 10), (2, 5)] }
def fS : Fr := { kind := 8, id := 4, a := 9, flag := true, data := [97, 98] }
def fP : Fr := { kind := 1 }
theorem rightA : rightB fA = true := by decide +kernel
theorem rightS : rightB fS = true := by decide +kernel
theorem rightP : rightB fP = true := by decide +kernel
theorem rightZ : rightB {} = false := by decide +kernel
theorem okA : fA.Ok := by constructor <;> decide
theorem okS : fS.Ok := by constructor <;> decide
theorem okP : fP.Ok := by constructor <;> decide
theorem okZ : ({} : Fr).Ok := by constructor <;> decide
theorem putP1 : putM fP = [1] := by decide +kernel
theorem parseAS : parseM (putM fA ++ putM fS) = ([fA, fS], 0) := by
  have h : loopP [] (putM fA ++ putM fS, 0) = ([fA, fS], ([], 0)) := by
    rw [loop_more okA rfl (by decide) rightA [] _ (fun e => by cases e), show stepP [] fA = [fA] from rfl, loop_one okS rfl (by decide) rightS]
    rfl
  rw [parseM_eq _ _ _ h]
  rfl
theorem parse31 : parseM [31] = ([], 3) := by
  have hn : nextM ([31], 0) = ({}, ([], 3)) := by decide +kernel
  have h : loopP [] ([31], 0) = ([{}], ([], 3)) := by
    rw [loopP_on _ _ (by simp), hn, loopP_stop _ _ rfl]
    rfl
  rw [parseM_eq _ _ _ h]
  rfl
theorem putAS_lt : ∀ x ∈ putM fA ++ putM fS, x < 256 := by decide +kernel
theorem putAS_len : (putM fA ++ putM fS).length ≤ 1000 := by decide +kernel
theorem wp_world {P : Program} {c : Code} {Q : Exit → Act → World → Prop} {a : Act} {w : World} (h : ∀ x, x = w → c.wp P Q a x) : c.wp P Q a w := h w rfl
theorem Row.newAt (W : World) (e : TypeId) (cs : List Value) (b : Nat) (hb : W.heap.size = b) : Row (W.alloc (.cells cs.toArray e)) b e cs := hb ▸ Row.new W e cs

set_option maxRecDepth 100000 in
set_option maxHeartbeats 4000000 in
theorem alive_any (w : World) (hT : Tab w) : Calls Tryd.prog 4 #[] w fun e w' => e = .returned (.bool true) ∧ Chg none_ w w' := by
  obtain ⟨i0, hi, hz0, hz1, hz2⟩ := info_parts info5
  have HT := Lib.hid hT
  clear hT
  go_enter Tryd.func4, Tryd.ntmps4
  go_wp2_with (first | ((with_reducible show wpList _ _ _ (⟨some 1, .alloc 27, _, _, _, _⟩ :: _) _ _); refine wpList_alloc_Row rfl rfl zeroF zero27 ?_; intro w2 hr2 hc2 hs2; have HR2 := Lib.hid hr2; have HC2 := Lib.hid hc2; clear hr2 hc2 hs2) | ((with_reducible show wpList _ _ _ (⟨_, .store 27 (.tmp 1) _, _, _, _, _⟩ :: _) _ _); refine wpList_store_Row (xs := cellsF fA (.slice none 0 0) (.slice (some ⟨w.heap.size, 0, none⟩) 2 2)) rfl rfl rfl HR2.out rfl rfl size27 rfl ?_; intro w3 hr3 hcs3 hs3; have HR3 := Lib.hid hr3; have HC3 := Lib.hid (hcs3 none_ _ HC2.out (fun h => absurd h (Nat.lt_irrefl _))); clear hr3 hcs3 hs3) | ((with_reducible show wpList _ _ _ (⟨some 12, _, _, _, _, _⟩ :: _) _ _); refine wpList_bytes_mark (cs := [.int .u8 97, .int .u8 98]) rfl rfl rfl Tryd.underlying23 Tryd.underlying5 (Row.newAt w3 _ [.int .u8 97, .int .u8 98] w3.heap.size rfl) ?_; intro w4 hv4 hc4 hs4; have HV4 := Lib.hid hv4; have HX4 := Lib.hid hc4; clear hv4 hc4 hs4) | ((with_reducible show wpList _ _ _ (⟨some 2, .alloc 27, _, _, _, _⟩ :: _) _ _); refine wpList_alloc_Row rfl rfl zeroF zero27 ?_; intro w5 hr5 hc5 hs5; have HR5 := Lib.hid hr5; have HC5 := Lib.hid hc5; clear hr5 hc5 hs5) | ((with_reducible show wpList _ _ _ (⟨_, .store 27 (.tmp 2) _, _, _, _, _⟩ :: _) _ _); refine wpList_store_Row (xs := cellsF fS (.slice (some ⟨w3.heap.size, 0, none⟩) 2 2) (.slice none 0 0)) rfl rfl rfl HR5.out rfl rfl size27 rfl ?_; intro w6 hr6 hcs6 hs6; have HR6 := Lib.hid hr6; have HC6 := Lib.hid (hcs6 none_ _ HC5.out (fun h => absurd h (Nat.lt_irrefl _))); clear hr6 hcs6 hs6))
  -- REGION3
  try simp only [Act.put, List.setIfInBounds_toArray, List.set_cons_zero, List.set_cons_succ]
  have hrA := HR3.out
  rw [show ∀ o, (w.alloc o).heap.size = w.heap.size + 1 from fun o => by simp] at hrA
  have hrG : Row w3 w.heap.size 34 (rcells [(8, 10), (2, 5)]) := (Row.new w 34 (rcells [(8, 10), (2, 5)])).chg HC3.out (fun h => h)
  have hlt3 := hrA.lt
  have hc34 : Chg none_ w3 w4 := ((Chg.refl none_ w3).alloc _).andThen HX4.out (fun b hb e => by have e2 : b = w3.heap.size := e; omega)
  have hc36 : Chg none_ w3 w6 := hc34.trans HC6.out
  have hcW6 : Chg none_ w w6 := (((Chg.refl none_ w).alloc _).trans HC3.out).trans hc36
  have HCW6 := Lib.hid hcW6
  have HRA := Lib.hid (hrA.chg hc36 (fun h => h))
  have HRS := Lib.hid HR6.out
  have HT6 := Lib.hid (HT.out.chg hcW6 (fun h => h))
  have HDA : Hid (FrD w6 (fun _ => True) fA (.slice none 0 0) (.slice (some ⟨w.heap.size, 0, none⟩) 2 2)) := Lib.hid ⟨rfl, ⟨none, 0, rfl, by decide, View.none_ _ _ _⟩, ⟨some ⟨w.heap.size, 0, none⟩, 2, rfl, ⟨by decide, by decide⟩, View.row (T := fun _ => True) (hrG.chg hc36 (fun h => h)) (n := 4) (by decide) trivial⟩⟩
  have HDS : Hid (FrD w6 (fun _ => True) fS (.slice (some ⟨w3.heap.size, 0, none⟩) 2 2) (.slice none 0 0)) := Lib.hid ⟨rfl, ⟨some ⟨w3.heap.size, 0, none⟩, 2, rfl, by decide, (HV4.out.mono (T' := fun _ => True) (fun _ _ _ => trivial)).chg HC6.out (fun _ _ h => h)⟩, ⟨none, 0, rfl, ⟨by decide, by decide⟩, View.none_ _ _ _⟩⟩
  have HPA := Lib.hid (fun w' (hc : Chg none_ w6 w') => Put_own fA _ _ w' _ (HT6.out.chg hc (fun h => h)) (HDA.out.chg hc (fun _ _ h => h)) okA)
  have HPS := Lib.hid (fun w' (hc : Chg none_ w6 w') => Put_own fS _ _ w' _ (HT6.out.chg hc (fun h => h)) (HDS.out.chg hc (fun _ _ h => h)) okS)
  have HLA : Hid ((cellsF fA (.slice none 0 0) (.slice (some ⟨w.heap.size, 0, none⟩) 2 2)).length = 24) := Lib.hid (cF_len _ _ _ rfl)
  have HLS : Hid ((cellsF fS (.slice (some ⟨w3.heap.size, 0, none⟩) 2 2) (.slice none 0 0)).length = 24) := Lib.hid (cF_len _ _ _ rfl)
  unfold aggF at HPA HPS
  clear hrA hrG hlt3 hc34 hc36 hcW6 HR2 HC2 HR3 HC3 HV4 HX4 HR5 HC5 HR6 HC6 HT
  refine wp_region_held_drew (S := fun w' => Chg none_ w6 w') (by kernel_rfl) ((Chg.refl none_ w6).drew) (fun hch0 => ?_)
  generalize w6.drew = wd at hch0 ⊢
  refine wpAnyH_take (i := 0) (v := .agg (cellsF fA (.slice none 0 0) (.slice (some ⟨w.heap.size, 0, none⟩) 2 2)).toArray) rfl (by kernel_rfl) (by kernel_rfl) (by kernel_rfl) (by first | exact fun _ _ _ h => h | exact fun _ _ _ h => nomatch h.1) (yieldsIf_load_mid (by rfl) 27 _ rfl (w.heap.size + 1) 0 rfl (cellsF fA (.slice none 0 0) (.slice (some ⟨w.heap.size, 0, none⟩) 2 2)) _ (fun w' hw' => (HRA.out.chg hw' (fun h => h)).range) Tryd.underlying27 rfl (by rw [HLA.out]; exact size27)) hch0 ?_
  refine wpAnyH_take (i := 2) (v := .agg (cellsF fS (.slice (some ⟨w3.heap.size, 0, none⟩) 2 2) (.slice none 0 0)).toArray) rfl (by kernel_rfl) (by kernel_rfl) (by kernel_rfl) (by first | exact fun _ _ _ h => h | exact fun _ _ _ h => nomatch h.1) (yieldsIf_load_mid (by rfl) 27 _ rfl w4.heap.size 0 rfl (cellsF fS (.slice (some ⟨w3.heap.size, 0, none⟩) 2 2) (.slice none 0 0)) _ (fun w' hw' => (HRS.out.chg hw' (fun h => h)).range) Tryd.underlying27 rfl (by rw [HLS.out]; exact size27)) hch0 ?_
  try simp only [Act.put, List.setIfInBounds_toArray, List.set_cons_zero, List.set_cons_succ, List.getElem_toArray, List.getElem_cons_succ, List.getElem_cons_zero]
  refine wpAnyH_ready (rs := [1]) (by kernel_rfl) (by simp) ?_
  refine AllReadyH.cons rfl (fun K hK => ?_) AllReadyH.nil
  rw [if_pos (by rfl)]
  try simp only [List.getElem_toArray, List.getElem_cons_succ, List.getElem_cons_zero]
  go_simp
  refine (HPA.out _ hch0).mono ?_
  rintro e x1 ⟨v1, rfl, ho1, hcx1⟩
  have hch1 : Chg none_ w6 x1 := hch0.trans hcx1
  refine hK.out _ _ (hch1) (fun _ => ?_)
  clear hK K
  try simp only [Act.put, List.setIfInBounds_toArray, List.set_cons_zero, List.set_cons_succ, List.getElem_toArray, List.getElem_cons_succ, List.getElem_cons_zero]
  refine wpAnyH_ready (rs := [3]) (by kernel_rfl) (by simp) ?_
  refine AllReadyH.cons rfl (fun K hK => ?_) AllReadyH.nil
  rw [if_pos (by rfl)]
  try simp only [List.getElem_toArray, List.getElem_cons_succ, List.getElem_cons_zero]
  go_simp
  refine (HPS.out _ hch1).mono ?_
  rintro e x2 ⟨v2, rfl, ho2, hcx2⟩
  have hch2 : Chg none_ w6 x2 := hch1.trans hcx2
  obtain ⟨A2, c2, rfl, _, _, hv2⟩ := View.own (T := fun b => True) ho2 (fun _ _ => trivial)
  refine hK.out _ _ (hch2) (fun _ => ?_)
  clear hK K
  try simp only [Act.put, List.setIfInBounds_toArray, List.set_cons_zero, List.set_cons_succ, List.getElem_toArray, List.getElem_cons_succ, List.getElem_cons_zero]
  refine wpAnyH_ready (rs := [4]) (by kernel_rfl) (by simp) ?_
  refine AllReadyH.cons rfl (fun K hK => ?_) AllReadyH.nil
  rw [if_pos (by rfl)]
  try simp only [List.getElem_toArray, List.getElem_cons_succ, List.getElem_cons_zero]
  refine wp_append_view (.tmp 16) (.tmp 18) 23 rfl 5 i0 _ 1 Tryd.underlying23 hi hz0 hz1 hz2 rfl wd.heap.size v1 (putM fA).length (u8s (putM fA)) rfl (ownsRow_chg ho1 hcx2) (fun _ => True) A2 (putM fS).length c2 (u8s (putM fS)) rfl hv2 (u8s_one _) (by decide +kernel) (by decide +kernel) (Nat.le_trans hcx1.size hcx2.size) ?_
  intro v3 x3 ho3 hg3 _
  have hch3 : Chg none_ w6 x3 := hch2.grown hg3 (fun k hk hlt => by have := (ho1.lt k hk).1; have := hch0.size; omega)
  refine hK.out _ _ hch3 (fun _ => ?_)
  clear hK K
  try simp only [Act.put, List.setIfInBounds_toArray, List.set_cons_zero, List.set_cons_succ]
  obtain ⟨A3, c3, rfl, _, _, hv3⟩ := View.own (T := fun b => True) ho3 (fun _ _ => trivial)
  have HPR := Lib.hid (parse_any x3 (fun _ => True) A3 c3 (putM fA ++ putM fS) (by rw [List.length_append, ← u8s_append]; exact hv3) (by have := putAS_len; omega) putAS_lt)
  rw [parseAS, List.length_append] at HPR
  refine wpAnyH_ready (rs := [5]) (by kernel_rfl) (by simp) ?_
  refine AllReadyH.cons rfl (fun K hK => ?_) AllReadyH.nil
  rw [if_pos (by rfl)]
  try simp only [List.getElem_toArray, List.getElem_cons_succ, List.getElem_cons_zero]
  go_simp
  refine (HPR.out).mono ?_
  rintro e x4 ⟨v4, L, base, T4, rfl, hfs, hbase, hL, hcx4⟩
  have hch4 : Chg none_ w6 x4 := hch3.trans hcx4
  refine hK.out _ _ (hch4) (fun _ => ?_)
  clear hK K
  refine wpAnyH_take (i := 6) (v := .tuple #[v4, .int .i64 0]) rfl (by kernel_rfl) (by kernel_rfl) (by kernel_rfl) (by first | exact fun _ _ _ h => h | exact fun _ _ _ h => nomatch h.1) (Or.inl ⟨by rfl, fun w_ hw_ => by go_simp⟩) hch4 ?_
  try simp only [Act.put, List.setIfInBounds_toArray, List.set_cons_zero, List.set_cons_succ, List.getElem_toArray, List.getElem_cons_succ, List.getElem_cons_zero]
  refine wpAnyH_take (i := 7) (v := v4) rfl (by kernel_rfl) (by kernel_rfl) (by kernel_rfl) (by first | exact fun _ _ _ h => h | exact fun _ _ _ h => nomatch h.1) (Or.inl ⟨by rfl, fun w_ hw_ => by go_simp⟩) hch4 ?_
  refine wpAnyH_take (i := 8) (v := .int .i64 0) rfl (by kernel_rfl) (by kernel_rfl) (by kernel_rfl) (by first | exact fun _ _ _ h => h | exact fun _ _ _ h => nomatch h.1) (Or.inl ⟨by rfl, fun w_ hw_ => by go_simp⟩) hch4 ?_
  try simp only [Act.put, List.setIfInBounds_toArray, List.set_cons_zero, List.set_cons_succ, List.getElem_toArray, List.getElem_cons_succ, List.getElem_cons_zero]
  refine wpAnyH_take (i := 9) (v := v4) rfl (by kernel_rfl) (by kernel_rfl) (by kernel_rfl) (by first | exact fun _ _ _ h => h | exact fun _ _ _ h => nomatch h.1) (Or.inl ⟨by rfl, fun w_ hw_ => by go_simp⟩) hch4 ?_
  refine wpAnyH_take (i := 10) (v := .int .i64 0) rfl (by kernel_rfl) (by kernel_rfl) (by kernel_rfl) (by first | exact fun _ _ _ h => h | exact fun _ _ _ h => nomatch h.1) (Or.inl ⟨by rfl, fun w_ hw_ => by go_simp⟩) hch4 ?_
  try simp only [Act.put, List.setIfInBounds_toArray, List.set_cons_zero, List.set_cons_succ, List.getElem_toArray, List.getElem_cons_succ, List.getElem_cons_zero]
  refine wpAnyH_done (by kernel_rfl) ?_ _
  obtain ⟨sa, ra, ss, rs, rfl⟩ : ∃ sa ra ss rs, L = [(fA, sa, ra), (fS, ss, rs)] := by
    rcases L with _ | ⟨⟨f1, a1, b1⟩, _ | ⟨⟨f2, a2, b2⟩, _ | ⟨y, L⟩⟩⟩
    · cases hL
    · cases hL
    · simp only [List.map_cons, List.map_nil, List.cons.injEq, and_true] at hL
      obtain ⟨rfl, rfl⟩ := hL
      exact ⟨_, _, _, _, rfl⟩
    · simp at hL
  have HD1 : Hid (FrD x4 T4 fA sa ra) := Lib.hid (hfs.at_ (fA, sa, ra) (by simp))
  have HD2 : Hid (FrD x4 T4 fS ss rs) := Lib.hid (hfs.at_ (fS, ss, rs) (by simp))
  obtain ⟨g4, cap4, rfl, HVW⟩ : ∃ g cap, v4 = .slice (some ⟨g, 0, none⟩) 2 cap ∧ Hid (View x4 (fun _ => True) (some ⟨g, 0, none⟩) 48 (cellsF fA sa ra ++ cellsF fS ss rs)) := by
    obtain ⟨A, cap, h1, _, _, h4⟩ := view_ownN hfs.own
    rcases hfs.own.2 with ⟨h2, _⟩ | ⟨g, cap2, cur, h2, _⟩
    · rw [h1] at h2; cases h2
    · rw [h1] at h2
      simp only [Value.slice.injEq] at h2
      obtain ⟨rfl, _, rfl⟩ := h2
      refine ⟨g, cap, h1, Lib.hid ?_⟩
      have h5 : View x4 _ (some ⟨g, 0, none⟩) (2 * 24) (fcellsL [(fA, sa, ra), (fS, ss, rs)]) := h4
      have h6 : fcellsL [(fA, sa, ra), (fS, ss, rs)] = cellsF fA sa ra ++ cellsF fS ss rs := by simp [fcellsL]
      rw [h6] at h5
      exact h5.mono (fun _ _ _ => trivial)
  have HC4 := Lib.hid hch4
  clear hfs hbase hL hcx4 hch4 hch3 hch2 hch1 hch0 hcx1 hcx2 ho1 ho2 ho3 hg3 hv2 hv3 HPR HPA HPS
  have HP31 := Lib.hid (parse_any (x4.alloc (.cells [Value.int .u8 31].toArray 5)) (fun _ => True) (some ⟨x4.heap.size, 0, none⟩) 1 [31] (View.row (cs := u8s [31]) (Row.new x4 _ (u8s [31])) (by simp) trivial) (by decide) (by decide))
  rw [parse31] at HP31
  go_wp2_with fail
  refine HP31.out.mono ?_
  rintro e x5 ⟨v5, L5, b5, T5, rfl, _, _, _, hc5⟩
  have hc45 : Chg none_ x4 x5 := ((Chg.refl none_ x4).alloc _).trans hc5
  have hc65 := HC4.out.trans hc45
  have HRA5 := Lib.hid (HRA.out.chg hc65 (fun h => h))
  have HRS5 := Lib.hid (HRS.out.chg hc65 (fun h => h))
  have HCW5 := Lib.hid (HCW6.out.trans hc65)
  have HT5 := Lib.hid (HT6.out.chg hc65 (fun h => h))
  have HDA5 := Lib.hid (HDA.out.chg hc65 (fun _ _ h => h))
  have HDS5 := Lib.hid (HDS.out.chg hc65 (fun _ _ h => h))
  have HD15 := Lib.hid (HD1.out.chg hc45 (fun _ _ h => h))
  have HD25 := Lib.hid (HD2.out.chg hc45 (fun _ _ h => h))
  have HV5 := Lib.hid (HVW.out.chg hc45 (fun _ _ h => h))
  have HL1 : Hid ((cellsF fA sa ra).length = 24) := Lib.hid (cF_len _ _ _ rfl)
  have HL2 : Hid ((cellsF fS ss rs).length = 24) := Lib.hid (cF_len _ _ _ rfl)
  have HG0 : Hid (∀ w', Chg none_ x5 w' → w'.rangeAt g4 0 (cellsF fA sa ra)) := Lib.hid (fun w' hc j v hv => by
    have hj : j < 24 := by
      rcases Nat.lt_or_ge j 24 with h | h
      · exact h
      · rw [List.getElem?_eq_none (by rw [HL1.out]; exact h)] at hv; cases hv
    obtain ⟨b, o, hA, hb, _, hcell⟩ := HV5.out.2 (by omega)
    cases hA
    refine ((hc.cell _ hb (fun h => h)).trans (hcell j (by omega))).trans ?_
    rw [List.getElem?_append_left (by rw [HL1.out]; exact hj)]
    exact hv)
  have HG1 : Hid (∀ w', Chg none_ x5 w' → w'.rangeAt g4 24 (cellsF fS ss rs)) := Lib.hid (fun w' hc j v hv => by
    have hj : j < 24 := by
      rcases Nat.lt_or_ge j 24 with h | h
      · exact h
      · rw [List.getElem?_eq_none (by rw [HL2.out]; exact h)] at hv; cases hv
    obtain ⟨b, o, hA, hb, _, hcell⟩ := HV5.out.2 (by omega)
    cases hA
    have h1 := hcell (24 + j) (by omega)
    rw [Nat.zero_add] at h1
    refine ((hc.cell _ hb (fun h => h)).trans h1).trans ?_
    rw [List.getElem?_append_right (by rw [HL1.out]; omega), HL1.out, Nat.add_sub_cancel_left]
    exact hv)
  clear hc5 hc45 hc65 HP31 HRA HRS HCW6 HT6 HDA HDS HD1 HD2 HVW HC4 HV5
  go_wp2_with fail
  try simp only [Act.put, List.setIfInBounds_toArray, List.set_cons_zero, List.set_cons_succ]
  have HPP : Hid (∀ w', Chg none_ x5 w' → Calls Tryd.prog 9 #[.agg (cellsF fP (.slice none 0 0) (.slice none 0 0)).toArray] w' fun e w'' => ∃ A c, e = .returned (.slice A 1 c) ∧ View w'' (fun b => w'.heap.size ≤ b) A 1 (u8s [1]) ∧ Chg none_ w' w'') := Lib.hid (fun w' hc => by
    have := Put_any fP (.slice none 0 0) (.slice none 0 0) w' (fun _ => True) (HT5.out.chg hc (fun h => h)) ⟨rfl, ⟨none, 0, rfl, by decide, View.none_ _ _ _⟩, ⟨none, 0, rfl, ⟨by decide, by decide⟩, View.none_ _ _ _⟩⟩ okP
    rw [putP1] at this
    exact this)
  have HSM : Hid (∀ w' (T' : Nat → Prop) A c g, View w' T' A 1 (u8s [1]) → Row w' g 5 [.int .u8 1] → Calls Tryd.prog 8 #[.slice A 1 c, .slice (some ⟨g, 0, none⟩) 1 1] w' fun e w'' => e = .returned (.bool true) ∧ Chg none_ w' w'') := Lib.hid (fun w' T' A c g hv hr => by
    refine (same_any w' T' (fun _ => True) A (some ⟨g, 0, none⟩) c 1 [1] [1] hv (View.row (cs := u8s [1]) hr (by decide) trivial) (by decide)).mono ?_
    rintro e w2 ⟨rfl, k, rfl⟩
    exact ⟨rfl, (Chg.refl none_ w').drewN k⟩)
  have HF1 : Hid (∀ w', Chg none_ x5 w' → Calls Tryd.prog 11 #[.agg (cellsF fA sa ra).toArray, .agg (cellsF fA (.slice none 0 0) (.slice (some ⟨w.heap.size, 0, none⟩) 2 2)).toArray] w' fun e w'' => e = .returned (.bool true) ∧ Chg none_ w' w'') := Lib.hid (fun w' hc => by
    have := sameF_any fA fA sa ra (.slice none 0 0) (.slice (some ⟨w.heap.size, 0, none⟩) 2 2) w' _ _ (HD15.out.chg hc (fun _ _ h => h)) (HDA5.out.chg hc (fun _ _ h => h)) okA okA
    rw [decide_eq_true rfl] at this
    exact this)
  have HF2 : Hid (∀ w', Chg none_ x5 w' → Calls Tryd.prog 11 #[.agg (cellsF fS ss rs).toArray, .agg (cellsF fS (.slice (some ⟨w3.heap.size, 0, none⟩) 2 2) (.slice none 0 0)).toArray] w' fun e w'' => e = .returned (.bool true) ∧ Chg none_ w' w'') := Lib.hid (fun w' hc => by
    have := sameF_any fS fS ss rs (.slice (some ⟨w3.heap.size, 0, none⟩) 2 2) (.slice none 0 0) w' _ _ (HD25.out.chg hc (fun _ _ h => h)) (HDS5.out.chg hc (fun _ _ h => h)) okS okS
    rw [decide_eq_true rfl] at this
    exact this)
  have HR1 : Hid (∀ w', Chg none_ x5 w' → Calls Tryd.prog 6 #[.agg (cellsF fA (.slice none 0 0) (.slice (some ⟨w.heap.size, 0, none⟩) 2 2)).toArray] w' fun e w'' => e = .returned (.bool true) ∧ Chg none_ w' w'') := Lib.hid (fun w' hc => by
    have := Right_any fA (.slice none 0 0) (.slice (some ⟨w.heap.size, 0, none⟩) 2 2) w' _ (HDA5.out.chg hc (fun _ _ h => h)) okA
    rw [rightA] at this
    exact this)
  have HR0 : Hid (∀ w', Chg none_ x5 w' → Calls Tryd.prog 6 #[.agg (cellsF {} (.slice none 0 0) (.slice none 0 0)).toArray] w' fun e w'' => e = .returned (.bool false) ∧ Chg none_ w' w'') := Lib.hid (fun w' hc => by
    have := Right_any {} (.slice none 0 0) (.slice none 0 0) w' (fun _ => True) ⟨rfl, ⟨none, 0, rfl, by decide, View.none_ _ _ _⟩, ⟨none, 0, rfl, ⟨by decide, by decide⟩, View.none_ _ _ _⟩⟩ okZ
    rw [rightZ] at this
    exact this)
  have HE1 : Hid (∀ w', Chg none_ x5 w' → Calls Tryd.prog 13 #[.agg (cellsF fS (.slice (some ⟨w3.heap.size, 0, none⟩) 2 2) (.slice none 0 0)).toArray] w' fun e w'' => e = .returned (.bool true) ∧ Chg none_ w' w'') := Lib.hid (fun w' hc => by
    have := eliciting_any fS (.slice (some ⟨w3.heap.size, 0, none⟩) 2 2) (.slice none 0 0) w'
    rw [show decide (fS.kind ≠ 0 ∧ fS.kind ≠ 2 ∧ fS.kind ≠ 28) = true by decide] at this
    exact this)
  have HE0 : Hid (∀ w', Chg none_ x5 w' → Calls Tryd.prog 13 #[.agg (cellsF fA (.slice none 0 0) (.slice (some ⟨w.heap.size, 0, none⟩) 2 2)).toArray] w' fun e w'' => e = .returned (.bool false) ∧ Chg none_ w' w'') := Lib.hid (fun w' hc => by
    have := eliciting_any fA (.slice none 0 0) (.slice (some ⟨w.heap.size, 0, none⟩) 2 2) w'
    rw [show decide (fA.kind ≠ 0 ∧ fA.kind ≠ 2 ∧ fA.kind ≠ 28) = false by decide] at this
    exact this)
  refine wp_region_held_drew (S := fun w' => Chg none_ x5 w') (by kernel_rfl) ((Chg.refl none_ x5).drew) (fun hch0 => ?_)
  generalize x5.drew = wd at hch0 ⊢
  refine wpAnyH_take (i := 0) (v := .agg (cellsF fP (.slice none 0 0) (.slice none 0 0)).toArray) rfl (by kernel_rfl) (by kernel_rfl) (by kernel_rfl) (by first | exact fun _ _ _ h => h | exact fun _ _ _ h => nomatch h.1) (Or.inl ⟨by rfl, fun w_ hw_ => by go_simp; try rfl⟩) hch0 ?_
  try simp only [Act.put, List.setIfInBounds_toArray, List.set_cons_zero, List.set_cons_succ, List.getElem_toArray, List.getElem_cons_zero]
  refine wpAnyH_ready (rs := [1, 2]) (by kernel_rfl) (by simp) ?_
  refine AllReadyH.cons rfl (fun K hK => ?_) (AllReadyH.cons rfl (fun K hK => ?_) AllReadyH.nil)
  · rw [if_pos (by rfl)]
    try simp only [List.getElem_toArray, List.getElem_cons_succ, List.getElem_cons_zero]
    go_simp
    refine (HPP.out _ hch0).mono ?_
    rintro e y1 ⟨A5, c5, rfl, hvA, hcy1⟩
    have hch1 : Chg none_ x5 y1 := hch0.trans hcy1
    refine hK.out _ _ hch1 (fun _ => ?_)
    clear hK K
    try simp only [Act.put, List.setIfInBounds_toArray, List.set_cons_zero, List.set_cons_succ, List.getElem_toArray, List.getElem_cons_succ, List.getElem_cons_zero]
    refine wpAnyH_ready (rs := [2]) (by kernel_rfl) (by simp) ?_
    refine AllReadyH.cons rfl (fun K hK => ?_) AllReadyH.nil
    rw [if_pos (by rfl)]
    try simp only [List.getElem_toArray, List.getElem_cons_succ, List.getElem_cons_zero]
    refine wp_new_row (v := fun g => .slice (some ⟨g, 0, none⟩) 1 1) (e := 5) (cs := [.int .u8 1]) (fun w_ => by go_simp) ?_
    intro y2 hrB hcy2 hsy2
    have hch2 : Chg none_ x5 y2 := hch1.trans hcy2
    refine hK.out _ _ hch2 (fun _ => ?_)
    clear hK K
    try simp only [Act.put, List.setIfInBounds_toArray, List.set_cons_zero, List.set_cons_succ]
    replace hvA := hvA.chg hcy2 (fun _ _ h => h)
    refine wpAnyH_ready (rs := [3]) (by kernel_rfl) (by simp) ?_
    refine AllReadyH.cons rfl (fun K hK => ?_) AllReadyH.nil
    rw [if_pos (by rfl)]
    try simp only [List.getElem_toArray, List.getElem_cons_succ, List.getElem_cons_zero]
    go_simp
    refine (HSM.out _ _ _ _ _ hvA hrB).mono ?_
    rintro e y3 ⟨rfl, hcy3⟩
    have hch3 : Chg none_ x5 y3 := hch2.trans hcy3
    refine hK.out _ _ (hch3) (fun _ => ?_)
    clear hK K
    try simp only [Act.put, List.setIfInBounds_toArray, List.set_cons_zero, List.set_cons_succ, List.getElem_toArray, List.getElem_cons_succ, List.getElem_cons_zero]
    refine wpAnyH_take (i := 4) (v := .bool true) rfl (by kernel_rfl) (by kernel_rfl) (by kernel_rfl) (by first | exact fun _ _ _ h => h | exact fun _ _ _ h => nomatch h.1) (Or.inl ⟨by rfl, fun w_ hw_ => by go_simp⟩) hch3 ?_
    try simp only [Act.put, List.setIfInBounds_toArray, List.set_cons_zero, List.set_cons_succ, List.getElem_toArray, List.getElem_cons_succ, List.getElem_cons_zero]
    refine wpAnyH_take (i := 5) (v := .int .i64 0) rfl (by kernel_rfl) (by kernel_rfl) (by kernel_rfl) (by first | exact fun _ _ _ h => h | exact fun _ _ _ h => nomatch h.1) (Or.inl ⟨by rfl, fun w_ hw_ => by go_simp⟩) hch3 ?_
    try simp only [Act.put, List.setIfInBounds_toArray, List.set_cons_zero, List.set_cons_succ, List.getElem_toArray, List.getElem_cons_succ, List.getElem_cons_zero]
    refine wpAnyH_take (i := 6) (v := .bool true) rfl (by kernel_rfl) (by kernel_rfl) (by kernel_rfl) (by first | exact fun _ _ _ h => h | exact fun _ _ _ h => nomatch h.1) (Or.inl ⟨by rfl, fun w_ hw_ => by go_simp⟩) hch3 ?_
    try simp only [Act.put, List.setIfInBounds_toArray, List.set_cons_zero, List.set_cons_succ, List.getElem_toArray, List.getElem_cons_succ, List.getElem_cons_zero]
    refine wpAnyH_take (i := 7) (v := .bool true) rfl (by kernel_rfl) (by kernel_rfl) (by kernel_rfl) (by first | exact fun _ _ _ h => h | exact fun _ _ _ h => nomatch h.1) (Or.inl ⟨by rfl, fun w_ hw_ => by go_simp⟩) hch3 ?_
    try simp only [Act.put, List.setIfInBounds_toArray, List.set_cons_zero, List.set_cons_succ, List.getElem_toArray, List.getElem_cons_succ, List.getElem_cons_zero]
    refine wpAnyH_take (i := 8) (v := .bool true) rfl (by kernel_rfl) (by kernel_rfl) (by kernel_rfl) (by first | exact fun _ _ _ h => h | exact fun _ _ _ h => nomatch h.1) (Or.inl ⟨by rfl, fun w_ hw_ => by go_simp⟩) hch3 ?_
    try simp only [Act.put, List.setIfInBounds_toArray, List.set_cons_zero, List.set_cons_succ, List.getElem_toArray, List.getElem_cons_succ, List.getElem_cons_zero]
    refine wpAnyH_take (i := 9) (v := .int .i64 3) rfl (by kernel_rfl) (by kernel_rfl) (by kernel_rfl) (by first | exact fun _ _ _ h => h | exact fun _ _ _ h => nomatch h.1) (Or.inl ⟨by rfl, fun w_ hw_ => by go_simp⟩) hch3 ?_
    try simp only [Act.put, List.setIfInBounds_toArray, List.set_cons_zero, List.set_cons_succ, List.getElem_toArray, List.getElem_cons_succ, List.getElem_cons_zero]
    refine wpAnyH_take (i := 10) (v := .bool true) rfl (by kernel_rfl) (by kernel_rfl) (by kernel_rfl) (by first | exact fun _ _ _ h => h | exact fun _ _ _ h => nomatch h.1) (Or.inl ⟨by rfl, fun w_ hw_ => by go_simp⟩) hch3 ?_
    try simp only [Act.put, List.setIfInBounds_toArray, List.set_cons_zero, List.set_cons_succ, List.getElem_toArray, List.getElem_cons_succ, List.getElem_cons_zero]
    refine wpAnyH_take (i := 11) (v := .bool true) rfl (by kernel_rfl) (by kernel_rfl) (by kernel_rfl) (by first | exact fun _ _ _ h => h | exact fun _ _ _ h => nomatch h.1) (Or.inl ⟨by rfl, fun w_ hw_ => by go_simp⟩) hch3 ?_
    try simp only [Act.put, List.setIfInBounds_toArray, List.set_cons_zero, List.set_cons_succ, List.getElem_toArray, List.getElem_cons_succ, List.getElem_cons_zero]
    refine wpAnyH_take (i := 12) (v := .bool true) rfl (by kernel_rfl) (by kernel_rfl) (by kernel_rfl) (by first | exact fun _ _ _ h => h | exact fun _ _ _ h => nomatch h.1) (Or.inl ⟨by rfl, fun w_ hw_ => by go_simp⟩) hch3 ?_
    try simp only [Act.put, List.setIfInBounds_toArray, List.set_cons_zero, List.set_cons_succ, List.getElem_toArray, List.getElem_cons_succ, List.getElem_cons_zero]
    refine wpAnyH_take (i := 13) (v := .slice (some ⟨g4, 0, none⟩) 2 cap4) rfl (by kernel_rfl) (by kernel_rfl) (by kernel_rfl) (by first | exact fun _ _ _ h => h | exact fun _ _ _ h => nomatch h.1) (Or.inl ⟨by rfl, fun w_ hw_ => by go_simp⟩) hch3 ?_
    try simp only [Act.put, List.setIfInBounds_toArray, List.set_cons_zero, List.set_cons_succ, List.getElem_toArray, List.getElem_cons_succ, List.getElem_cons_zero]
    refine wpAnyH_take (i := 14) (v := .int .i64 2) rfl (by kernel_rfl) (by kernel_rfl) (by kernel_rfl) (by first | exact fun _ _ _ h => h | exact fun _ _ _ h => nomatch h.1) (Or.inl ⟨by rfl, fun w_ hw_ => by go_simp⟩) hch3 ?_
    try simp only [Act.put, List.setIfInBounds_toArray, List.set_cons_zero, List.set_cons_succ, List.getElem_toArray, List.getElem_cons_succ, List.getElem_cons_zero]
    refine wpAnyH_take (i := 15) (v := .bool true) rfl (by kernel_rfl) (by kernel_rfl) (by kernel_rfl) (by first | exact fun _ _ _ h => h | exact fun _ _ _ h => nomatch h.1) (Or.inl ⟨by rfl, fun w_ hw_ => by go_simp⟩) hch3 ?_
    try simp only [Act.put, List.setIfInBounds_toArray, List.set_cons_zero, List.set_cons_succ, List.getElem_toArray, List.getElem_cons_succ, List.getElem_cons_zero]
    refine wpAnyH_take (i := 16) (v := .bool true) rfl (by kernel_rfl) (by kernel_rfl) (by kernel_rfl) (by first | exact fun _ _ _ h => h | exact fun _ _ _ h => nomatch h.1) (Or.inl ⟨by rfl, fun w_ hw_ => by go_simp⟩) hch3 ?_
    try simp only [Act.put, List.setIfInBounds_toArray, List.set_cons_zero, List.set_cons_succ, List.getElem_toArray, List.getElem_cons_succ, List.getElem_cons_zero]
    refine wpAnyH_take (i := 17) (v := .bool true) rfl (by kernel_rfl) (by kernel_rfl) (by kernel_rfl) (by first | exact fun _ _ _ h => h | exact fun _ _ _ h => nomatch h.1) (Or.inl ⟨by rfl, fun w_ hw_ => by go_simp⟩) hch3 ?_
    try simp only [Act.put, List.setIfInBounds_toArray, List.set_cons_zero, List.set_cons_succ, List.getElem_toArray, List.getElem_cons_succ, List.getElem_cons_zero]
    refine wpAnyH_take (i := 18) (v := .slice (some ⟨g4, 0, none⟩) 2 cap4) rfl (by kernel_rfl) (by kernel_rfl) (by kernel_rfl) (by first | exact fun _ _ _ h => h | exact fun _ _ _ h => nomatch h.1) (Or.inl ⟨by rfl, fun w_ hw_ => by go_simp⟩) hch3 ?_
    try simp only [Act.put, List.setIfInBounds_toArray, List.set_cons_zero, List.set_cons_succ, List.getElem_toArray, List.getElem_cons_succ, List.getElem_cons_zero]
    refine wpAnyH_take (i := 19) (v := .pointer (some ⟨g4, 0, none⟩)) rfl (by kernel_rfl) (by kernel_rfl) (by kernel_rfl) (by first | exact fun _ _ _ h => h | exact fun _ _ _ h => nomatch h.1) (Or.inl ⟨by rfl, fun w_ hw_ => by go_simp⟩) hch3 ?_
    try simp only [Act.put, List.setIfInBounds_toArray, List.set_cons_zero, List.set_cons_succ, List.getElem_toArray, List.getElem_cons_succ, List.getElem_cons_zero]
    refine wpAnyH_take (i := 20) (v := .agg (cellsF fA sa ra).toArray) rfl (by kernel_rfl) (by kernel_rfl) (by kernel_rfl) (by first | exact fun _ _ _ h => h | exact fun _ _ _ h => nomatch h.1) (yieldsIf_load_mid (by rfl) 27 _ rfl g4 0 rfl (cellsF fA sa ra) _ (fun w' hw' => HG0.out w' hw') Tryd.underlying27 rfl (by rw [HL1.out]; exact size27)) hch3 ?_
    refine wpAnyH_take (i := 21) (v := .agg (cellsF fA (.slice none 0 0) (.slice (some ⟨w.heap.size, 0, none⟩) 2 2)).toArray) rfl (by kernel_rfl) (by kernel_rfl) (by kernel_rfl) (by first | exact fun _ _ _ h => h | exact fun _ _ _ h => nomatch h.1) (yieldsIf_load_mid (by rfl) 27 _ rfl (w.heap.size + 1) 0 rfl (cellsF fA (.slice none 0 0) (.slice (some ⟨w.heap.size, 0, none⟩) 2 2)) _ (fun w' hw' => (HRA5.out.chg hw' (fun h => h)).range) Tryd.underlying27 rfl (by rw [HLA.out]; exact size27)) hch3 ?_
    try simp only [Act.put, List.setIfInBounds_toArray, List.set_cons_zero, List.set_cons_succ, List.getElem_toArray, List.getElem_cons_succ, List.getElem_cons_zero]
    refine wpAnyH_ready (rs := [22]) (by kernel_rfl) (by simp) ?_
    refine AllReadyH.cons rfl (fun K hK => ?_) AllReadyH.nil
    rw [if_pos (by rfl)]
    try simp only [List.getElem_toArray, List.getElem_cons_succ, List.getElem_cons_zero]
    go_simp
    refine (HF1.out _ hch3).mono ?_
    rintro e y4 ⟨rfl, hcy4⟩
    have hch4 : Chg none_ x5 y4 := hch3.trans hcy4
    refine hK.out _ _ (hch4) (fun _ => ?_)
    clear hK K
    try simp only [Act.put, List.setIfInBounds_toArray, List.set_cons_zero, List.set_cons_succ, List.getElem_toArray, List.getElem_cons_succ, List.getElem_cons_zero]
    refine wpAnyH_take (i := 23) (v := .bool true) rfl (by kernel_rfl) (by kernel_rfl) (by kernel_rfl) (by first | exact fun _ _ _ h => h | exact fun _ _ _ h => nomatch h.1) (Or.inl ⟨by rfl, fun w_ hw_ => by go_simp⟩) hch4 ?_
    try simp only [Act.put, List.setIfInBounds_toArray, List.set_cons_zero, List.set_cons_succ, List.getElem_toArray, List.getElem_cons_succ, List.getElem_cons_zero]
    refine wpAnyH_take (i := 24) (v := .bool true) rfl (by kernel_rfl) (by kernel_rfl) (by kernel_rfl) (by first | exact fun _ _ _ h => h | exact fun _ _ _ h => nomatch h.1) (Or.inl ⟨by rfl, fun w_ hw_ => by go_simp⟩) hch4 ?_
    try simp only [Act.put, List.setIfInBounds_toArray, List.set_cons_zero, List.set_cons_succ, List.getElem_toArray, List.getElem_cons_succ, List.getElem_cons_zero]
    refine wpAnyH_take (i := 25) (v := .slice (some ⟨g4, 0, none⟩) 2 cap4) rfl (by kernel_rfl) (by kernel_rfl) (by kernel_rfl) (by first | exact fun _ _ _ h => h | exact fun _ _ _ h => nomatch h.1) (Or.inl ⟨by rfl, fun w_ hw_ => by go_simp⟩) hch4 ?_
    try simp only [Act.put, List.setIfInBounds_toArray, List.set_cons_zero, List.set_cons_succ, List.getElem_toArray, List.getElem_cons_succ, List.getElem_cons_zero]
    refine wpAnyH_take (i := 26) (v := .pointer (some ⟨g4, 24, none⟩)) rfl (by kernel_rfl) (by kernel_rfl) (by kernel_rfl) (by first | exact fun _ _ _ h => h | exact fun _ _ _ h => nomatch h.1) (Or.inl ⟨by rfl, fun w_ hw_ => by go_simp⟩) hch4 ?_
    try simp only [Act.put, List.setIfInBounds_toArray, List.set_cons_zero, List.set_cons_succ, List.getElem_toArray, List.getElem_cons_succ, List.getElem_cons_zero]
    refine wpAnyH_take (i := 27) (v := .agg (cellsF fS ss rs).toArray) rfl (by kernel_rfl) (by kernel_rfl) (by kernel_rfl) (by first | exact fun _ _ _ h => h | exact fun _ _ _ h => nomatch h.1) (yieldsIf_load_mid (by rfl) 27 _ rfl g4 24 rfl (cellsF fS ss rs) _ (fun w' hw' => HG1.out w' hw') Tryd.underlying27 rfl (by rw [HL2.out]; exact size27)) hch4 ?_
    refine wpAnyH_take (i := 28) (v := .agg (cellsF fS (.slice (some ⟨w3.heap.size, 0, none⟩) 2 2) (.slice none 0 0)).toArray) rfl (by kernel_rfl) (by kernel_rfl) (by kernel_rfl) (by first | exact fun _ _ _ h => h | exact fun _ _ _ h => nomatch h.1) (yieldsIf_load_mid (by rfl) 27 _ rfl w4.heap.size 0 rfl (cellsF fS (.slice (some ⟨w3.heap.size, 0, none⟩) 2 2) (.slice none 0 0)) _ (fun w' hw' => (HRS5.out.chg hw' (fun h => h)).range) Tryd.underlying27 rfl (by rw [HLS.out]; exact size27)) hch4 ?_
    try simp only [Act.put, List.setIfInBounds_toArray, List.set_cons_zero, List.set_cons_succ, List.getElem_toArray, List.getElem_cons_succ, List.getElem_cons_zero]
    refine wpAnyH_ready (rs := [29]) (by kernel_rfl) (by simp) ?_
    refine AllReadyH.cons rfl (fun K hK => ?_) AllReadyH.nil
    rw [if_pos (by rfl)]
    try simp only [List.getElem_toArray, List.getElem_cons_succ, List.getElem_cons_zero]
    go_simp
    refine (HF2.out _ hch4).mono ?_
    rintro e y5 ⟨rfl, hcy5⟩
    have hch5 : Chg none_ x5 y5 := hch4.trans hcy5
    refine hK.out _ _ (hch5) (fun _ => ?_)
    clear hK K
    try simp only [Act.put, List.setIfInBounds_toArray, List.set_cons_zero, List.set_cons_succ, List.getElem_toArray, List.getElem_cons_succ, List.getElem_cons_zero]
    refine wpAnyH_take (i := 30) (v := .bool true) rfl (by kernel_rfl) (by kernel_rfl) (by kernel_rfl) (by first | exact fun _ _ _ h => h | exact fun _ _ _ h => nomatch h.1) (Or.inl ⟨by rfl, fun w_ hw_ => by go_simp⟩) hch5 ?_
    try simp only [Act.put, List.setIfInBounds_toArray, List.set_cons_zero, List.set_cons_succ, List.getElem_toArray, List.getElem_cons_succ, List.getElem_cons_zero]
    refine wpAnyH_take (i := 31) (v := .bool true) rfl (by kernel_rfl) (by kernel_rfl) (by kernel_rfl) (by first | exact fun _ _ _ h => h | exact fun _ _ _ h => nomatch h.1) (Or.inl ⟨by rfl, fun w_ hw_ => by go_simp⟩) hch5 ?_
    try simp only [Act.put, List.setIfInBounds_toArray, List.set_cons_zero, List.set_cons_succ, List.getElem_toArray, List.getElem_cons_succ, List.getElem_cons_zero]
    refine wpAnyH_take (i := 32) (v := .agg (cellsF fA (.slice none 0 0) (.slice (some ⟨w.heap.size, 0, none⟩) 2 2)).toArray) rfl (by kernel_rfl) (by kernel_rfl) (by kernel_rfl) (by first | exact fun _ _ _ h => h | exact fun _ _ _ h => nomatch h.1) (yieldsIf_load_mid (by rfl) 27 _ rfl (w.heap.size + 1) 0 rfl (cellsF fA (.slice none 0 0) (.slice (some ⟨w.heap.size, 0, none⟩) 2 2)) _ (fun w' hw' => (HRA5.out.chg hw' (fun h => h)).range) Tryd.underlying27 rfl (by rw [HLA.out]; exact size27)) hch5 ?_
    try simp only [Act.put, List.setIfInBounds_toArray, List.set_cons_zero, List.set_cons_succ, List.getElem_toArray, List.getElem_cons_succ, List.getElem_cons_zero]
    refine wpAnyH_ready (rs := [33]) (by kernel_rfl) (by simp) ?_
    refine AllReadyH.cons rfl (fun K hK => ?_) AllReadyH.nil
    rw [if_pos (by rfl)]
    try simp only [List.getElem_toArray, List.getElem_cons_succ, List.getElem_cons_zero]
    go_simp
    refine (HR1.out _ hch5).mono ?_
    rintro e y6 ⟨rfl, hcy6⟩
    have hch6 : Chg none_ x5 y6 := hch5.trans hcy6
    refine hK.out _ _ (hch6) (fun _ => ?_)
    clear hK K
    try simp only [Act.put, List.setIfInBounds_toArray, List.set_cons_zero, List.set_cons_succ, List.getElem_toArray, List.getElem_cons_succ, List.getElem_cons_zero]
    refine wpAnyH_take (i := 34) (v := .bool true) rfl (by kernel_rfl) (by kernel_rfl) (by kernel_rfl) (by first | exact fun _ _ _ h => h | exact fun _ _ _ h => nomatch h.1) (Or.inl ⟨by rfl, fun w_ hw_ => by go_simp⟩) hch6 ?_
    try simp only [Act.put, List.setIfInBounds_toArray, List.set_cons_zero, List.set_cons_succ, List.getElem_toArray, List.getElem_cons_succ, List.getElem_cons_zero]
    refine wpAnyH_take (i := 35) (v := .bool true) rfl (by kernel_rfl) (by kernel_rfl) (by kernel_rfl) (by first | exact fun _ _ _ h => h | exact fun _ _ _ h => nomatch h.1) (Or.inl ⟨by rfl, fun w_ hw_ => by go_simp⟩) hch6 ?_
    try simp only [Act.put, List.setIfInBounds_toArray, List.set_cons_zero, List.set_cons_succ, List.getElem_toArray, List.getElem_cons_succ, List.getElem_cons_zero]
    refine wpAnyH_take (i := 36) (v := .agg (cellsF {} (.slice none 0 0) (.slice none 0 0)).toArray) rfl (by kernel_rfl) (by kernel_rfl) (by kernel_rfl) (by first | exact fun _ _ _ h => h | exact fun _ _ _ h => nomatch h.1) (Or.inl ⟨by rfl, fun w_ hw_ => by go_simp; try rfl⟩) hch6 ?_
    try simp only [Act.put, List.setIfInBounds_toArray, List.set_cons_zero, List.set_cons_succ, List.getElem_toArray, List.getElem_cons_succ, List.getElem_cons_zero]
    refine wpAnyH_ready (rs := [37]) (by kernel_rfl) (by simp) ?_
    refine AllReadyH.cons rfl (fun K hK => ?_) AllReadyH.nil
    rw [if_pos (by rfl)]
    try simp only [List.getElem_toArray, List.getElem_cons_succ, List.getElem_cons_zero]
    go_simp
    refine (HR0.out _ hch6).mono ?_
    rintro e y7 ⟨rfl, hcy7⟩
    have hch7 : Chg none_ x5 y7 := hch6.trans hcy7
    refine hK.out _ _ (hch7) (fun _ => ?_)
    clear hK K
    try simp only [Act.put, List.setIfInBounds_toArray, List.set_cons_zero, List.set_cons_succ, List.getElem_toArray, List.getElem_cons_succ, List.getElem_cons_zero]
    refine wpAnyH_take (i := 38) (v := .bool true) rfl (by kernel_rfl) (by kernel_rfl) (by kernel_rfl) (by first | exact fun _ _ _ h => h | exact fun _ _ _ h => nomatch h.1) (Or.inl ⟨by rfl, fun w_ hw_ => by go_simp⟩) hch7 ?_
    try simp only [Act.put, List.setIfInBounds_toArray, List.set_cons_zero, List.set_cons_succ, List.getElem_toArray, List.getElem_cons_succ, List.getElem_cons_zero]
    refine wpAnyH_take (i := 39) (v := .bool true) rfl (by kernel_rfl) (by kernel_rfl) (by kernel_rfl) (by first | exact fun _ _ _ h => h | exact fun _ _ _ h => nomatch h.1) (Or.inl ⟨by rfl, fun w_ hw_ => by go_simp⟩) hch7 ?_
    try simp only [Act.put, List.setIfInBounds_toArray, List.set_cons_zero, List.set_cons_succ, List.getElem_toArray, List.getElem_cons_succ, List.getElem_cons_zero]
    refine wpAnyH_take (i := 40) (v := .bool true) rfl (by kernel_rfl) (by kernel_rfl) (by kernel_rfl) (by first | exact fun _ _ _ h => h | exact fun _ _ _ h => nomatch h.1) (Or.inl ⟨by rfl, fun w_ hw_ => by go_simp⟩) hch7 ?_
    try simp only [Act.put, List.setIfInBounds_toArray, List.set_cons_zero, List.set_cons_succ, List.getElem_toArray, List.getElem_cons_succ, List.getElem_cons_zero]
    refine wpAnyH_take (i := 41) (v := .agg (cellsF fS (.slice (some ⟨w3.heap.size, 0, none⟩) 2 2) (.slice none 0 0)).toArray) rfl (by kernel_rfl) (by kernel_rfl) (by kernel_rfl) (by first | exact fun _ _ _ h => h | exact fun _ _ _ h => nomatch h.1) (yieldsIf_load_mid (by rfl) 27 _ rfl w4.heap.size 0 rfl (cellsF fS (.slice (some ⟨w3.heap.size, 0, none⟩) 2 2) (.slice none 0 0)) _ (fun w' hw' => (HRS5.out.chg hw' (fun h => h)).range) Tryd.underlying27 rfl (by rw [HLS.out]; exact size27)) hch7 ?_
    try simp only [Act.put, List.setIfInBounds_toArray, List.set_cons_zero, List.set_cons_succ, List.getElem_toArray, List.getElem_cons_succ, List.getElem_cons_zero]
    refine wpAnyH_ready (rs := [42]) (by kernel_rfl) (by simp) ?_
    refine AllReadyH.cons rfl (fun K hK => ?_) AllReadyH.nil
    rw [if_pos (by rfl)]
    try simp only [List.getElem_toArray, List.getElem_cons_succ, List.getElem_cons_zero]
    go_simp
    refine (HE1.out _ hch7).mono ?_
    rintro e y8 ⟨rfl, hcy8⟩
    have hch8 : Chg none_ x5 y8 := hch7.trans hcy8
    refine hK.out _ _ (hch8) (fun _ => ?_)
    clear hK K
    try simp only [Act.put, List.setIfInBounds_toArray, List.set_cons_zero, List.set_cons_succ, List.getElem_toArray, List.getElem_cons_succ, List.getElem_cons_zero]
    refine wpAnyH_take (i := 43) (v := .bool true) rfl (by kernel_rfl) (by kernel_rfl) (by kernel_rfl) (by first | exact fun _ _ _ h => h | exact fun _ _ _ h => nomatch h.1) (Or.inl ⟨by rfl, fun w_ hw_ => by go_simp⟩) hch8 ?_
    try simp only [Act.put, List.setIfInBounds_toArray, List.set_cons_zero, List.set_cons_succ, List.getElem_toArray, List.getElem_cons_succ, List.getElem_cons_zero]
    refine wpAnyH_take (i := 44) (v := .bool true) rfl (by kernel_rfl) (by kernel_rfl) (by kernel_rfl) (by first | exact fun _ _ _ h => h | exact fun _ _ _ h => nomatch h.1) (Or.inl ⟨by rfl, fun w_ hw_ => by go_simp⟩) hch8 ?_
    try simp only [Act.put, List.setIfInBounds_toArray, List.set_cons_zero, List.set_cons_succ, List.getElem_toArray, List.getElem_cons_succ, List.getElem_cons_zero]
    refine wpAnyH_take (i := 45) (v := .agg (cellsF fA (.slice none 0 0) (.slice (some ⟨w.heap.size, 0, none⟩) 2 2)).toArray) rfl (by kernel_rfl) (by kernel_rfl) (by kernel_rfl) (by first | exact fun _ _ _ h => h | exact fun _ _ _ h => nomatch h.1) (yieldsIf_load_mid (by rfl) 27 _ rfl (w.heap.size + 1) 0 rfl (cellsF fA (.slice none 0 0) (.slice (some ⟨w.heap.size, 0, none⟩) 2 2)) _ (fun w' hw' => (HRA5.out.chg hw' (fun h => h)).range) Tryd.underlying27 rfl (by rw [HLA.out]; exact size27)) hch8 ?_
    try simp only [Act.put, List.setIfInBounds_toArray, List.set_cons_zero, List.set_cons_succ, List.getElem_toArray, List.getElem_cons_succ, List.getElem_cons_zero]
    refine wpAnyH_ready (rs := [46]) (by kernel_rfl) (by simp) ?_
    refine AllReadyH.cons rfl (fun K hK => ?_) AllReadyH.nil
    rw [if_pos (by rfl)]
    try simp only [List.getElem_toArray, List.getElem_cons_succ, List.getElem_cons_zero]
    go_simp
    refine (HE0.out _ hch8).mono ?_
    rintro e y9 ⟨rfl, hcy9⟩
    have hch9 : Chg none_ x5 y9 := hch8.trans hcy9
    refine hK.out _ _ (hch9) (fun _ => ?_)
    clear hK K
    try simp only [Act.put, List.setIfInBounds_toArray, List.set_cons_zero, List.set_cons_succ, List.getElem_toArray, List.getElem_cons_succ, List.getElem_cons_zero]
    refine wpAnyH_take (i := 47) (v := .bool true) rfl (by kernel_rfl) (by kernel_rfl) (by kernel_rfl) (by first | exact fun _ _ _ h => h | exact fun _ _ _ h => nomatch h.1) (Or.inl ⟨by rfl, fun w_ hw_ => by go_simp⟩) hch9 ?_
    try simp only [Act.put, List.setIfInBounds_toArray, List.set_cons_zero, List.set_cons_succ, List.getElem_toArray, List.getElem_cons_succ, List.getElem_cons_zero]
    refine wpAnyH_take (i := 48) (v := .bool true) rfl (by kernel_rfl) (by kernel_rfl) (by kernel_rfl) (by first | exact fun _ _ _ h => h | exact fun _ _ _ h => nomatch h.1) (Or.inl ⟨by rfl, fun w_ hw_ => by go_simp⟩) hch9 ?_
    try simp only [Act.put, List.setIfInBounds_toArray, List.set_cons_zero, List.set_cons_succ, List.getElem_toArray, List.getElem_cons_succ, List.getElem_cons_zero]
    refine wpAnyH_take (i := 49) (v := .bool true) rfl (by kernel_rfl) (by kernel_rfl) (by kernel_rfl) (by first | exact fun _ _ _ h => h | exact fun _ _ _ h => nomatch h.1) (Or.inl ⟨by rfl, fun w_ hw_ => by go_simp⟩) hch9 ?_
    try simp only [Act.put, List.setIfInBounds_toArray, List.set_cons_zero, List.getElem_toArray, List.getElem_cons_succ, List.getElem_cons_zero]
    refine wpAnyH_done (by kernel_rfl) ?_ _
    go_wp2
    go_ret
    exact ⟨rfl, HCW5.out.trans hch9⟩
  · rw [if_pos (by rfl)]
    try simp only [List.getElem_toArray, List.getElem_cons_succ, List.getElem_cons_zero]
    refine wp_new_row (v := fun g => .slice (some ⟨g, 0, none⟩) 1 1) (e := 5) (cs := [.int .u8 1]) (fun w_ => by go_simp) ?_
    intro y1 hrB hcy1 hsy1
    have hch1 : Chg none_ x5 y1 := hch0.trans hcy1
    refine hK.out _ _ hch1 (fun _ => ?_)
    clear hK K
    try simp only [Act.put, List.setIfInBounds_toArray, List.set_cons_zero, List.set_cons_succ]
    refine wpAnyH_ready (rs := [1]) (by kernel_rfl) (by simp) ?_
    refine AllReadyH.cons rfl (fun K hK => ?_) AllReadyH.nil
    rw [if_pos (by rfl)]
    try simp only [List.getElem_toArray, List.getElem_cons_succ, List.getElem_cons_zero]
    go_simp
    refine (HPP.out _ hch1).mono ?_
    rintro e y2 ⟨A5, c5, rfl, hvA, hcy2⟩
    have hch2 : Chg none_ x5 y2 := hch1.trans hcy2
    refine hK.out _ _ hch2 (fun _ => ?_)
    clear hK K
    try simp only [Act.put, List.setIfInBounds_toArray, List.set_cons_zero, List.set_cons_succ, List.getElem_toArray, List.getElem_cons_succ, List.getElem_cons_zero]
    replace hrB := hrB.chg hcy2 (fun h => h)
    refine wpAnyH_ready (rs := [3]) (by kernel_rfl) (by simp) ?_
    refine AllReadyH.cons rfl (fun K hK => ?_) AllReadyH.nil
    rw [if_pos (by rfl)]
    try simp only [List.getElem_toArray, List.getElem_cons_succ, List.getElem_cons_zero]
    go_simp
    refine (HSM.out _ _ _ _ _ hvA hrB).mono ?_
    rintro e y3 ⟨rfl, hcy3⟩
    have hch3 : Chg none_ x5 y3 := hch2.trans hcy3
    refine hK.out _ _ (hch3) (fun _ => ?_)
    clear hK K
    try simp only [Act.put, List.setIfInBounds_toArray, List.set_cons_zero, List.set_cons_succ, List.getElem_toArray, List.getElem_cons_succ, List.getElem_cons_zero]
    refine wpAnyH_take (i := 4) (v := .bool true) rfl (by kernel_rfl) (by kernel_rfl) (by kernel_rfl) (by first | exact fun _ _ _ h => h | exact fun _ _ _ h => nomatch h.1) (Or.inl ⟨by rfl, fun w_ hw_ => by go_simp⟩) hch3 ?_
    try simp only [Act.put, List.setIfInBounds_toArray, List.set_cons_zero, List.set_cons_succ, List.getElem_toArray, List.getElem_cons_succ, List.getElem_cons_zero]
    refine wpAnyH_take (i := 5) (v := .int .i64 0) rfl (by kernel_rfl) (by kernel_rfl) (by kernel_rfl) (by first | exact fun _ _ _ h => h | exact fun _ _ _ h => nomatch h.1) (Or.inl ⟨by rfl, fun w_ hw_ => by go_simp⟩) hch3 ?_
    try simp only [Act.put, List.setIfInBounds_toArray, List.set_cons_zero, List.set_cons_succ, List.getElem_toArray, List.getElem_cons_succ, List.getElem_cons_zero]
    refine wpAnyH_take (i := 6) (v := .bool true) rfl (by kernel_rfl) (by kernel_rfl) (by kernel_rfl) (by first | exact fun _ _ _ h => h | exact fun _ _ _ h => nomatch h.1) (Or.inl ⟨by rfl, fun w_ hw_ => by go_simp⟩) hch3 ?_
    try simp only [Act.put, List.setIfInBounds_toArray, List.set_cons_zero, List.set_cons_succ, List.getElem_toArray, List.getElem_cons_succ, List.getElem_cons_zero]
    refine wpAnyH_take (i := 7) (v := .bool true) rfl (by kernel_rfl) (by kernel_rfl) (by kernel_rfl) (by first | exact fun _ _ _ h => h | exact fun _ _ _ h => nomatch h.1) (Or.inl ⟨by rfl, fun w_ hw_ => by go_simp⟩) hch3 ?_
    try simp only [Act.put, List.setIfInBounds_toArray, List.set_cons_zero, List.set_cons_succ, List.getElem_toArray, List.getElem_cons_succ, List.getElem_cons_zero]
    refine wpAnyH_take (i := 8) (v := .bool true) rfl (by kernel_rfl) (by kernel_rfl) (by kernel_rfl) (by first | exact fun _ _ _ h => h | exact fun _ _ _ h => nomatch h.1) (Or.inl ⟨by rfl, fun w_ hw_ => by go_simp⟩) hch3 ?_
    try simp only [Act.put, List.setIfInBounds_toArray, List.set_cons_zero, List.set_cons_succ, List.getElem_toArray, List.getElem_cons_succ, List.getElem_cons_zero]
    refine wpAnyH_take (i := 9) (v := .int .i64 3) rfl (by kernel_rfl) (by kernel_rfl) (by kernel_rfl) (by first | exact fun _ _ _ h => h | exact fun _ _ _ h => nomatch h.1) (Or.inl ⟨by rfl, fun w_ hw_ => by go_simp⟩) hch3 ?_
    try simp only [Act.put, List.setIfInBounds_toArray, List.set_cons_zero, List.set_cons_succ, List.getElem_toArray, List.getElem_cons_succ, List.getElem_cons_zero]
    refine wpAnyH_take (i := 10) (v := .bool true) rfl (by kernel_rfl) (by kernel_rfl) (by kernel_rfl) (by first | exact fun _ _ _ h => h | exact fun _ _ _ h => nomatch h.1) (Or.inl ⟨by rfl, fun w_ hw_ => by go_simp⟩) hch3 ?_
    try simp only [Act.put, List.setIfInBounds_toArray, List.set_cons_zero, List.set_cons_succ, List.getElem_toArray, List.getElem_cons_succ, List.getElem_cons_zero]
    refine wpAnyH_take (i := 11) (v := .bool true) rfl (by kernel_rfl) (by kernel_rfl) (by kernel_rfl) (by first | exact fun _ _ _ h => h | exact fun _ _ _ h => nomatch h.1) (Or.inl ⟨by rfl, fun w_ hw_ => by go_simp⟩) hch3 ?_
    try simp only [Act.put, List.setIfInBounds_toArray, List.set_cons_zero, List.set_cons_succ, List.getElem_toArray, List.getElem_cons_succ, List.getElem_cons_zero]
    refine wpAnyH_take (i := 12) (v := .bool true) rfl (by kernel_rfl) (by kernel_rfl) (by kernel_rfl) (by first | exact fun _ _ _ h => h | exact fun _ _ _ h => nomatch h.1) (Or.inl ⟨by rfl, fun w_ hw_ => by go_simp⟩) hch3 ?_
    try simp only [Act.put, List.setIfInBounds_toArray, List.set_cons_zero, List.set_cons_succ, List.getElem_toArray, List.getElem_cons_succ, List.getElem_cons_zero]
    refine wpAnyH_take (i := 13) (v := .slice (some ⟨g4, 0, none⟩) 2 cap4) rfl (by kernel_rfl) (by kernel_rfl) (by kernel_rfl) (by first | exact fun _ _ _ h => h | exact fun _ _ _ h => nomatch h.1) (Or.inl ⟨by rfl, fun w_ hw_ => by go_simp⟩) hch3 ?_
    try simp only [Act.put, List.setIfInBounds_toArray, List.set_cons_zero, List.set_cons_succ, List.getElem_toArray, List.getElem_cons_succ, List.getElem_cons_zero]
    refine wpAnyH_take (i := 14) (v := .int .i64 2) rfl (by kernel_rfl) (by kernel_rfl) (by kernel_rfl) (by first | exact fun _ _ _ h => h | exact fun _ _ _ h => nomatch h.1) (Or.inl ⟨by rfl, fun w_ hw_ => by go_simp⟩) hch3 ?_
    try simp only [Act.put, List.setIfInBounds_toArray, List.set_cons_zero, List.set_cons_succ, List.getElem_toArray, List.getElem_cons_succ, List.getElem_cons_zero]
    refine wpAnyH_take (i := 15) (v := .bool true) rfl (by kernel_rfl) (by kernel_rfl) (by kernel_rfl) (by first | exact fun _ _ _ h => h | exact fun _ _ _ h => nomatch h.1) (Or.inl ⟨by rfl, fun w_ hw_ => by go_simp⟩) hch3 ?_
    try simp only [Act.put, List.setIfInBounds_toArray, List.set_cons_zero, List.set_cons_succ, List.getElem_toArray, List.getElem_cons_succ, List.getElem_cons_zero]
    refine wpAnyH_take (i := 16) (v := .bool true) rfl (by kernel_rfl) (by kernel_rfl) (by kernel_rfl) (by first | exact fun _ _ _ h => h | exact fun _ _ _ h => nomatch h.1) (Or.inl ⟨by rfl, fun w_ hw_ => by go_simp⟩) hch3 ?_
    try simp only [Act.put, List.setIfInBounds_toArray, List.set_cons_zero, List.set_cons_succ, List.getElem_toArray, List.getElem_cons_succ, List.getElem_cons_zero]
    refine wpAnyH_take (i := 17) (v := .bool true) rfl (by kernel_rfl) (by kernel_rfl) (by kernel_rfl) (by first | exact fun _ _ _ h => h | exact fun _ _ _ h => nomatch h.1) (Or.inl ⟨by rfl, fun w_ hw_ => by go_simp⟩) hch3 ?_
    try simp only [Act.put, List.setIfInBounds_toArray, List.set_cons_zero, List.set_cons_succ, List.getElem_toArray, List.getElem_cons_succ, List.getElem_cons_zero]
    refine wpAnyH_take (i := 18) (v := .slice (some ⟨g4, 0, none⟩) 2 cap4) rfl (by kernel_rfl) (by kernel_rfl) (by kernel_rfl) (by first | exact fun _ _ _ h => h | exact fun _ _ _ h => nomatch h.1) (Or.inl ⟨by rfl, fun w_ hw_ => by go_simp⟩) hch3 ?_
    try simp only [Act.put, List.setIfInBounds_toArray, List.set_cons_zero, List.set_cons_succ, List.getElem_toArray, List.getElem_cons_succ, List.getElem_cons_zero]
    refine wpAnyH_take (i := 19) (v := .pointer (some ⟨g4, 0, none⟩)) rfl (by kernel_rfl) (by kernel_rfl) (by kernel_rfl) (by first | exact fun _ _ _ h => h | exact fun _ _ _ h => nomatch h.1) (Or.inl ⟨by rfl, fun w_ hw_ => by go_simp⟩) hch3 ?_
    try simp only [Act.put, List.setIfInBounds_toArray, List.set_cons_zero, List.set_cons_succ, List.getElem_toArray, List.getElem_cons_succ, List.getElem_cons_zero]
    refine wpAnyH_take (i := 20) (v := .agg (cellsF fA sa ra).toArray) rfl (by kernel_rfl) (by kernel_rfl) (by kernel_rfl) (by first | exact fun _ _ _ h => h | exact fun _ _ _ h => nomatch h.1) (yieldsIf_load_mid (by rfl) 27 _ rfl g4 0 rfl (cellsF fA sa ra) _ (fun w' hw' => HG0.out w' hw') Tryd.underlying27 rfl (by rw [HL1.out]; exact size27)) hch3 ?_
    refine wpAnyH_take (i := 21) (v := .agg (cellsF fA (.slice none 0 0) (.slice (some ⟨w.heap.size, 0, none⟩) 2 2)).toArray) rfl (by kernel_rfl) (by kernel_rfl) (by kernel_rfl) (by first | exact fun _ _ _ h => h | exact fun _ _ _ h => nomatch h.1) (yieldsIf_load_mid (by rfl) 27 _ rfl (w.heap.size + 1) 0 rfl (cellsF fA (.slice none 0 0) (.slice (some ⟨w.heap.size, 0, none⟩) 2 2)) _ (fun w' hw' => (HRA5.out.chg hw' (fun h => h)).range) Tryd.underlying27 rfl (by rw [HLA.out]; exact size27)) hch3 ?_
    try simp only [Act.put, List.setIfInBounds_toArray, List.set_cons_zero, List.set_cons_succ, List.getElem_toArray, List.getElem_cons_succ, List.getElem_cons_zero]
    refine wpAnyH_ready (rs := [22]) (by kernel_rfl) (by simp) ?_
    refine AllReadyH.cons rfl (fun K hK => ?_) AllReadyH.nil
    rw [if_pos (by rfl)]
    try simp only [List.getElem_toArray, List.getElem_cons_succ, List.getElem_cons_zero]
    go_simp
    refine (HF1.out _ hch3).mono ?_
    rintro e y4 ⟨rfl, hcy4⟩
    have hch4 : Chg none_ x5 y4 := hch3.trans hcy4
    refine hK.out _ _ (hch4) (fun _ => ?_)
    clear hK K
    try simp only [Act.put, List.setIfInBounds_toArray, List.set_cons_zero, List.set_cons_succ, List.getElem_toArray, List.getElem_cons_succ, List.getElem_cons_zero]
    refine wpAnyH_take (i := 23) (v := .bool true) rfl (by kernel_rfl) (by kernel_rfl) (by kernel_rfl) (by first | exact fun _ _ _ h => h | exact fun _ _ _ h => nomatch h.1) (Or.inl ⟨by rfl, fun w_ hw_ => by go_simp⟩) hch4 ?_
    try simp only [Act.put, List.setIfInBounds_toArray, List.set_cons_zero, List.set_cons_succ, List.getElem_toArray, List.getElem_cons_succ, List.getElem_cons_zero]
    refine wpAnyH_take (i := 24) (v := .bool true) rfl (by kernel_rfl) (by kernel_rfl) (by kernel_rfl) (by first | exact fun _ _ _ h => h | exact fun _ _ _ h => nomatch h.1) (Or.inl ⟨by rfl, fun w_ hw_ => by go_simp⟩) hch4 ?_
    try simp only [Act.put, List.setIfInBounds_toArray, List.set_cons_zero, List.set_cons_succ, List.getElem_toArray, List.getElem_cons_succ, List.getElem_cons_zero]
    refine wpAnyH_take (i := 25) (v := .slice (some ⟨g4, 0, none⟩) 2 cap4) rfl (by kernel_rfl) (by kernel_rfl) (by kernel_rfl) (by first | exact fun _ _ _ h => h | exact fun _ _ _ h => nomatch h.1) (Or.inl ⟨by rfl, fun w_ hw_ => by go_simp⟩) hch4 ?_
    try simp only [Act.put, List.setIfInBounds_toArray, List.set_cons_zero, List.set_cons_succ, List.getElem_toArray, List.getElem_cons_succ, List.getElem_cons_zero]
    refine wpAnyH_take (i := 26) (v := .pointer (some ⟨g4, 24, none⟩)) rfl (by kernel_rfl) (by kernel_rfl) (by kernel_rfl) (by first | exact fun _ _ _ h => h | exact fun _ _ _ h => nomatch h.1) (Or.inl ⟨by rfl, fun w_ hw_ => by go_simp⟩) hch4 ?_
    try simp only [Act.put, List.setIfInBounds_toArray, List.set_cons_zero, List.set_cons_succ, List.getElem_toArray, List.getElem_cons_succ, List.getElem_cons_zero]
    refine wpAnyH_take (i := 27) (v := .agg (cellsF fS ss rs).toArray) rfl (by kernel_rfl) (by kernel_rfl) (by kernel_rfl) (by first | exact fun _ _ _ h => h | exact fun _ _ _ h => nomatch h.1) (yieldsIf_load_mid (by rfl) 27 _ rfl g4 24 rfl (cellsF fS ss rs) _ (fun w' hw' => HG1.out w' hw') Tryd.underlying27 rfl (by rw [HL2.out]; exact size27)) hch4 ?_
    refine wpAnyH_take (i := 28) (v := .agg (cellsF fS (.slice (some ⟨w3.heap.size, 0, none⟩) 2 2) (.slice none 0 0)).toArray) rfl (by kernel_rfl) (by kernel_rfl) (by kernel_rfl) (by first | exact fun _ _ _ h => h | exact fun _ _ _ h => nomatch h.1) (yieldsIf_load_mid (by rfl) 27 _ rfl w4.heap.size 0 rfl (cellsF fS (.slice (some ⟨w3.heap.size, 0, none⟩) 2 2) (.slice none 0 0)) _ (fun w' hw' => (HRS5.out.chg hw' (fun h => h)).range) Tryd.underlying27 rfl (by rw [HLS.out]; exact size27)) hch4 ?_
    try simp only [Act.put, List.setIfInBounds_toArray, List.set_cons_zero, List.set_cons_succ, List.getElem_toArray, List.getElem_cons_succ, List.getElem_cons_zero]
    refine wpAnyH_ready (rs := [29]) (by kernel_rfl) (by simp) ?_
    refine AllReadyH.cons rfl (fun K hK => ?_) AllReadyH.nil
    rw [if_pos (by rfl)]
    try simp only [List.getElem_toArray, List.getElem_cons_succ, List.getElem_cons_zero]
    go_simp
    refine (HF2.out _ hch4).mono ?_
    rintro e y5 ⟨rfl, hcy5⟩
    have hch5 : Chg none_ x5 y5 := hch4.trans hcy5
    refine hK.out _ _ (hch5) (fun _ => ?_)
    clear hK K
    try simp only [Act.put, List.setIfInBounds_toArray, List.set_cons_zero, List.set_cons_succ, List.getElem_toArray, List.getElem_cons_succ, List.getElem_cons_zero]
    refine wpAnyH_take (i := 30) (v := .bool true) rfl (by kernel_rfl) (by kernel_rfl) (by kernel_rfl) (by first | exact fun _ _ _ h => h | exact fun _ _ _ h => nomatch h.1) (Or.inl ⟨by rfl, fun w_ hw_ => by go_simp⟩) hch5 ?_
    try simp only [Act.put, List.setIfInBounds_toArray, List.set_cons_zero, List.set_cons_succ, List.getElem_toArray, List.getElem_cons_succ, List.getElem_cons_zero]
    refine wpAnyH_take (i := 31) (v := .bool true) rfl (by kernel_rfl) (by kernel_rfl) (by kernel_rfl) (by first | exact fun _ _ _ h => h | exact fun _ _ _ h => nomatch h.1) (Or.inl ⟨by rfl, fun w_ hw_ => by go_simp⟩) hch5 ?_
    try simp only [Act.put, List.setIfInBounds_toArray, List.set_cons_zero, List.set_cons_succ, List.getElem_toArray, List.getElem_cons_succ, List.getElem_cons_zero]
    refine wpAnyH_take (i := 32) (v := .agg (cellsF fA (.slice none 0 0) (.slice (some ⟨w.heap.size, 0, none⟩) 2 2)).toArray) rfl (by kernel_rfl) (by kernel_rfl) (by kernel_rfl) (by first | exact fun _ _ _ h => h | exact fun _ _ _ h => nomatch h.1) (yieldsIf_load_mid (by rfl) 27 _ rfl (w.heap.size + 1) 0 rfl (cellsF fA (.slice none 0 0) (.slice (some ⟨w.heap.size, 0, none⟩) 2 2)) _ (fun w' hw' => (HRA5.out.chg hw' (fun h => h)).range) Tryd.underlying27 rfl (by rw [HLA.out]; exact size27)) hch5 ?_
    try simp only [Act.put, List.setIfInBounds_toArray, List.set_cons_zero, List.set_cons_succ, List.getElem_toArray, List.getElem_cons_succ, List.getElem_cons_zero]
    refine wpAnyH_ready (rs := [33]) (by kernel_rfl) (by simp) ?_
    refine AllReadyH.cons rfl (fun K hK => ?_) AllReadyH.nil
    rw [if_pos (by rfl)]
    try simp only [List.getElem_toArray, List.getElem_cons_succ, List.getElem_cons_zero]
    go_simp
    refine (HR1.out _ hch5).mono ?_
    rintro e y6 ⟨rfl, hcy6⟩
    have hch6 : Chg none_ x5 y6 := hch5.trans hcy6
    refine hK.out _ _ (hch6) (fun _ => ?_)
    clear hK K
    try simp only [Act.put, List.setIfInBounds_toArray, List.set_cons_zero, List.set_cons_succ, List.getElem_toArray, List.getElem_cons_succ, List.getElem_cons_zero]
    refine wpAnyH_take (i := 34) (v := .bool true) rfl (by kernel_rfl) (by kernel_rfl) (by kernel_rfl) (by first | exact fun _ _ _ h => h | exact fun _ _ _ h => nomatch h.1) (Or.inl ⟨by rfl, fun w_ hw_ => by go_simp⟩) hch6 ?_
    try simp only [Act.put, List.setIfInBounds_toArray, List.set_cons_zero, List.set_cons_succ, List.getElem_toArray, List.getElem_cons_succ, List.getElem_cons_zero]
    refine wpAnyH_take (i := 35) (v := .bool true) rfl (by kernel_rfl) (by kernel_rfl) (by kernel_rfl) (by first | exact fun _ _ _ h => h | exact fun _ _ _ h => nomatch h.1) (Or.inl ⟨by rfl, fun w_ hw_ => by go_simp⟩) hch6 ?_
    try simp only [Act.put, List.setIfInBounds_toArray, List.set_cons_zero, List.set_cons_succ, List.getElem_toArray, List.getElem_cons_succ, List.getElem_cons_zero]
    refine wpAnyH_take (i := 36) (v := .agg (cellsF {} (.slice none 0 0) (.slice none 0 0)).toArray) rfl (by kernel_rfl) (by kernel_rfl) (by kernel_rfl) (by first | exact fun _ _ _ h => h | exact fun _ _ _ h => nomatch h.1) (Or.inl ⟨by rfl, fun w_ hw_ => by go_simp; try rfl⟩) hch6 ?_
    try simp only [Act.put, List.setIfInBounds_toArray, List.set_cons_zero, List.set_cons_succ, List.getElem_toArray, List.getElem_cons_succ, List.getElem_cons_zero]
    refine wpAnyH_ready (rs := [37]) (by kernel_rfl) (by simp) ?_
    refine AllReadyH.cons rfl (fun K hK => ?_) AllReadyH.nil
    rw [if_pos (by rfl)]
    try simp only [List.getElem_toArray, List.getElem_cons_succ, List.getElem_cons_zero]
    go_simp
    refine (HR0.out _ hch6).mono ?_
    rintro e y7 ⟨rfl, hcy7⟩
    have hch7 : Chg none_ x5 y7 := hch6.trans hcy7
    refine hK.out _ _ (hch7) (fun _ => ?_)
    clear hK K
    try simp only [Act.put, List.setIfInBounds_toArray, List.set_cons_zero, List.set_cons_succ, List.getElem_toArray, List.getElem_cons_succ, List.getElem_cons_zero]
    refine wpAnyH_take (i := 38) (v := .bool true) rfl (by kernel_rfl) (by kernel_rfl) (by kernel_rfl) (by first | exact fun _ _ _ h => h | exact fun _ _ _ h => nomatch h.1) (Or.inl ⟨by rfl, fun w_ hw_ => by go_simp⟩) hch7 ?_
    try simp only [Act.put, List.setIfInBounds_toArray, List.set_cons_zero, List.set_cons_succ, List.getElem_toArray, List.getElem_cons_succ, List.getElem_cons_zero]
    refine wpAnyH_take (i := 39) (v := .bool true) rfl (by kernel_rfl) (by kernel_rfl) (by kernel_rfl) (by first | exact fun _ _ _ h => h | exact fun _ _ _ h => nomatch h.1) (Or.inl ⟨by rfl, fun w_ hw_ => by go_simp⟩) hch7 ?_
    try simp only [Act.put, List.setIfInBounds_toArray, List.set_cons_zero, List.set_cons_succ, List.getElem_toArray, List.getElem_cons_succ, List.getElem_cons_zero]
    refine wpAnyH_take (i := 40) (v := .bool true) rfl (by kernel_rfl) (by kernel_rfl) (by kernel_rfl) (by first | exact fun _ _ _ h => h | exact fun _ _ _ h => nomatch h.1) (Or.inl ⟨by rfl, fun w_ hw_ => by go_simp⟩) hch7 ?_
    try simp only [Act.put, List.setIfInBounds_toArray, List.set_cons_zero, List.set_cons_succ, List.getElem_toArray, List.getElem_cons_succ, List.getElem_cons_zero]
    refine wpAnyH_take (i := 41) (v := .agg (cellsF fS (.slice (some ⟨w3.heap.size, 0, none⟩) 2 2) (.slice none 0 0)).toArray) rfl (by kernel_rfl) (by kernel_rfl) (by kernel_rfl) (by first | exact fun _ _ _ h => h | exact fun _ _ _ h => nomatch h.1) (yieldsIf_load_mid (by rfl) 27 _ rfl w4.heap.size 0 rfl (cellsF fS (.slice (some ⟨w3.heap.size, 0, none⟩) 2 2) (.slice none 0 0)) _ (fun w' hw' => (HRS5.out.chg hw' (fun h => h)).range) Tryd.underlying27 rfl (by rw [HLS.out]; exact size27)) hch7 ?_
    try simp only [Act.put, List.setIfInBounds_toArray, List.set_cons_zero, List.set_cons_succ, List.getElem_toArray, List.getElem_cons_succ, List.getElem_cons_zero]
    refine wpAnyH_ready (rs := [42]) (by kernel_rfl) (by simp) ?_
    refine AllReadyH.cons rfl (fun K hK => ?_) AllReadyH.nil
    rw [if_pos (by rfl)]
    try simp only [List.getElem_toArray, List.getElem_cons_succ, List.getElem_cons_zero]
    go_simp
    refine (HE1.out _ hch7).mono ?_
    rintro e y8 ⟨rfl, hcy8⟩
    have hch8 : Chg none_ x5 y8 := hch7.trans hcy8
    refine hK.out _ _ (hch8) (fun _ => ?_)
    clear hK K
    try simp only [Act.put, List.setIfInBounds_toArray, List.set_cons_zero, List.set_cons_succ, List.getElem_toArray, List.getElem_cons_succ, List.getElem_cons_zero]
    refine wpAnyH_take (i := 43) (v := .bool true) rfl (by kernel_rfl) (by kernel_rfl) (by kernel_rfl) (by first | exact fun _ _ _ h => h | exact fun _ _ _ h => nomatch h.1) (Or.inl ⟨by rfl, fun w_ hw_ => by go_simp⟩) hch8 ?_
    try simp only [Act.put, List.setIfInBounds_toArray, List.set_cons_zero, List.set_cons_succ, List.getElem_toArray, List.getElem_cons_succ, List.getElem_cons_zero]
    refine wpAnyH_take (i := 44) (v := .bool true) rfl (by kernel_rfl) (by kernel_rfl) (by kernel_rfl) (by first | exact fun _ _ _ h => h | exact fun _ _ _ h => nomatch h.1) (Or.inl ⟨by rfl, fun w_ hw_ => by go_simp⟩) hch8 ?_
    try simp only [Act.put, List.setIfInBounds_toArray, List.set_cons_zero, List.set_cons_succ, List.getElem_toArray, List.getElem_cons_succ, List.getElem_cons_zero]
    refine wpAnyH_take (i := 45) (v := .agg (cellsF fA (.slice none 0 0) (.slice (some ⟨w.heap.size, 0, none⟩) 2 2)).toArray) rfl (by kernel_rfl) (by kernel_rfl) (by kernel_rfl) (by first | exact fun _ _ _ h => h | exact fun _ _ _ h => nomatch h.1) (yieldsIf_load_mid (by rfl) 27 _ rfl (w.heap.size + 1) 0 rfl (cellsF fA (.slice none 0 0) (.slice (some ⟨w.heap.size, 0, none⟩) 2 2)) _ (fun w' hw' => (HRA5.out.chg hw' (fun h => h)).range) Tryd.underlying27 rfl (by rw [HLA.out]; exact size27)) hch8 ?_
    try simp only [Act.put, List.setIfInBounds_toArray, List.set_cons_zero, List.set_cons_succ, List.getElem_toArray, List.getElem_cons_succ, List.getElem_cons_zero]
    refine wpAnyH_ready (rs := [46]) (by kernel_rfl) (by simp) ?_
    refine AllReadyH.cons rfl (fun K hK => ?_) AllReadyH.nil
    rw [if_pos (by rfl)]
    try simp only [List.getElem_toArray, List.getElem_cons_succ, List.getElem_cons_zero]
    go_simp
    refine (HE0.out _ hch8).mono ?_
    rintro e y9 ⟨rfl, hcy9⟩
    have hch9 : Chg none_ x5 y9 := hch8.trans hcy9
    refine hK.out _ _ (hch9) (fun _ => ?_)
    clear hK K
    try simp only [Act.put, List.setIfInBounds_toArray, List.set_cons_zero, List.set_cons_succ, List.getElem_toArray, List.getElem_cons_succ, List.getElem_cons_zero]
    refine wpAnyH_take (i := 47) (v := .bool true) rfl (by kernel_rfl) (by kernel_rfl) (by kernel_rfl) (by first | exact fun _ _ _ h => h | exact fun _ _ _ h => nomatch h.1) (Or.inl ⟨by rfl, fun w_ hw_ => by go_simp⟩) hch9 ?_
    try simp only [Act.put, List.setIfInBounds_toArray, List.set_cons_zero, List.set_cons_succ, List.getElem_toArray, List.getElem_cons_succ, List.getElem_cons_zero]
    refine wpAnyH_take (i := 48) (v := .bool true) rfl (by kernel_rfl) (by kernel_rfl) (by kernel_rfl) (by first | exact fun _ _ _ h => h | exact fun _ _ _ h => nomatch h.1) (Or.inl ⟨by rfl, fun w_ hw_ => by go_simp⟩) hch9 ?_
    try simp only [Act.put, List.setIfInBounds_toArray, List.set_cons_zero, List.set_cons_succ, List.getElem_toArray, List.getElem_cons_succ, List.getElem_cons_zero]
    refine wpAnyH_take (i := 49) (v := .bool true) rfl (by kernel_rfl) (by kernel_rfl) (by kernel_rfl) (by first | exact fun _ _ _ h => h | exact fun _ _ _ h => nomatch h.1) (Or.inl ⟨by rfl, fun w_ hw_ => by go_simp⟩) hch9 ?_
    try simp only [Act.put, List.setIfInBounds_toArray, List.set_cons_zero, List.getElem_toArray, List.getElem_cons_succ, List.getElem_cons_zero]
    refine wpAnyH_done (by kernel_rfl) ?_ _
    go_wp2
    go_ret
    exact ⟨rfl, HCW5.out.trans hch9⟩
end Go.Proofs.YtlcffjmbfpdlbaaDoor
