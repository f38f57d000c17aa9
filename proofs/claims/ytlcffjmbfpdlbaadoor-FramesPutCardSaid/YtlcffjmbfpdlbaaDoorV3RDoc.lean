/- Layer 3 (frames), plainly: the bytes of acked ranges, so many of them. -/
import Derived.BigQuiet
import Derived.Deep.QuietTactic
import Derived.Lib.Hide
import Derived.Deep.OwnRows
import Derived.Test.YtlcffjmbfpdlbaaDoorV3Same
import Derived.Test.YtlcffjmbfpdlbaaDoorSame
import Derived.Test.YtlcffjmbfpdlbaaDoorV3Frs
import Derived.Test.YtlcffjmbfpdlbaaDoorV3Drop
import Derived.Test.YtlcffjmbfpdlbaaDoorV3Right
import Derived.Test.YtlcffjmbfpdlbaaDoorV3TwoM
import Derived.Test.YtlcffjmbfpdlbaaDoorV3PutM
import Derived.Test.YtlcffjmbfpdlbaaDoorV3Put
import Derived.Test.YtlcffjmbfpdlbaaDoorV1Small
import Derived.Test.YtlcffjmbfpdlbaaDoorV1Wide
import Derived.Test.YtlcffjmbfpdlbaaDoorAloc
import Derived.Test.YtlcffjmbfpdlbaaDoorV3PutAck

namespace Go.Proofs.YtlcffjmbfpdlbaaDoor
open Go.RowKit

set_option maxRecDepth 100000 in
set_option maxHeartbeats 4000000 in
theorem rsameF_any (f g : Fr) (sd sr sd' sr' : Value) (w : World) (T T' : Nat → Prop) (hf : FrD w T f sd sr) (hg : FrD w T' g sd' sr') :
    Calls Tryd.prog 12 #[aggF f sd sr, aggF g sd' sr'] w fun e w' => e = .returned (.bool (decide (f = g))) ∧ Chg none_ w w' := by
  unfold aggF
  obtain ⟨ht, ⟨A, c, rfl, hdl, hvd⟩, ⟨B, d, rfl, hrl, hvr⟩⟩ := hf
  obtain ⟨ht', ⟨A', c', rfl, hdl', hvd'⟩, ⟨B', d', rfl, hrl', hvr'⟩⟩ := hg
  have a0 := cF_0 f (.slice A f.data.length c) (.slice B f.ranges.length d)
  have a1 := cF_1 f (.slice A f.data.length c) (.slice B f.ranges.length d)
  have a2 := cF_2 f (.slice A f.data.length c) (.slice B f.ranges.length d)
  have a3 := cF_3 f (.slice A f.data.length c) (.slice B f.ranges.length d)
  have a4 := cF_4 f (.slice A f.data.length c) (.slice B f.ranges.length d)
  have a5 := cF_5 f (.slice A f.data.length c) (.slice B f.ranges.length d)
  have a6 := cF_6 f (.slice A f.data.length c) (.slice B f.ranges.length d)
  have a7 := cF_7 f (.slice A f.data.length c) (.slice B f.ranges.length d)
  have b0 := cF_0 g (.slice A' g.data.length c') (.slice B' g.ranges.length d')
  have b1 := cF_1 g (.slice A' g.data.length c') (.slice B' g.ranges.length d')
  have b2 := cF_2 g (.slice A' g.data.length c') (.slice B' g.ranges.length d')
  have b3 := cF_3 g (.slice A' g.data.length c') (.slice B' g.ranges.length d')
  have b4 := cF_4 g (.slice A' g.data.length c') (.slice B' g.ranges.length d')
  have b5 := cF_5 g (.slice A' g.data.length c') (.slice B' g.ranges.length d')
  have b6 := cF_6 g (.slice A' g.data.length c') (.slice B' g.ranges.length d')
  have b7 := cF_7 g (.slice A' g.data.length c') (.slice B' g.ranges.length d')
  have hR1 : ∀ (w' : World) (_ : w'.heap = ((w.alloc (.cells (cellsF f (.slice A f.data.length c) (.slice B f.ranges.length d)).toArray 27)).alloc (.cells (cellsF g (.slice A' g.data.length c') (.slice B' g.ranges.length d')).toArray 27)).heap), w'.rangeAt w.heap.size 8 (u8s f.tok) := fun w' hw => by
    have := tok_range ((Row.new w 27 (cellsF f (.slice A f.data.length c) (.slice B f.ranges.length d))).alloc (.cells (cellsF g (.slice A' g.data.length c') (.slice B' g.ranges.length d')).toArray 27))
    intro j v hv
    have := this j v hv
    simpa [World.cell?, hw] using this
  have hR2 : ∀ (w' : World) (_ : w'.heap = ((w.alloc (.cells (cellsF f (.slice A f.data.length c) (.slice B f.ranges.length d)).toArray 27)).alloc (.cells (cellsF g (.slice A' g.data.length c') (.slice B' g.ranges.length d')).toArray 27)).heap), w'.rangeAt (w.heap.size + 1) 8 (u8s g.tok) := fun w' hw => by
    have := tok_range (Row.new (w.alloc (.cells (cellsF f (.slice A f.data.length c) (.slice B f.ranges.length d)).toArray 27)) 27 (cellsF g (.slice A' g.data.length c') (.slice B' g.ranges.length d')))
    intro j v hv
    have := this j v hv
    simpa [World.cell?, hw] using this
  generalize cellsF f (.slice A f.data.length c) (.slice B f.ranges.length d) = cs at *
  generalize cellsF g (.slice A' g.data.length c') (.slice B' g.ranges.length d') = cs' at *
  have hC : Chg none_ w ((w.alloc (.cells cs.toArray 27)).alloc (.cells cs'.toArray 27)) := ((Chg.refl none_ w).alloc _).alloc _
  have HC := Lib.hid hC
  have HB := Lib.hid (same_any _ T T' A A' c c' f.data g.data (hvd.chg hC (fun _ _ h => h)) (hvd'.chg hC (fun _ _ h => h)) hdl)
  have HVR := Lib.hid (hvr.chg hC (fun _ _ h => h))
  have HVR' := Lib.hid (hvr'.chg hC (fun _ _ h => h))
  have hrm := hrl.1
  have HR1 := Lib.hid hR1
  have HR2 := Lib.hid hR2
  have HT := Lib.hid ht
  have HT' := Lib.hid ht'
  have hte := tok_eql f.tok g.tok ht ht'
  have HEQ := Lib.hid (f.eq_iff g)
  clear hC hvd hvd' hvr hvr' hR1 hR2 ht ht' hdl hdl' hrl hrl'
  go_enter Tryd.func12, Tryd.ntmps12
  go_wp2_with (first | ((with_reducible show wpList _ _ _ (⟨_, .load 25 _, _, _, _, _⟩ :: _) _ _); first | refine wl25 rfl rfl rfl (HR1.out _ rfl) HT.out ?_ | refine wl25 rfl rfl rfl (HR2.out _ rfl) HT'.out ?_) | (go_at_call 8; refine HB.out.mono ?_; rintro e w' ⟨rfl, nk, rfl⟩))
  all_goals try
    go_ret
    refine ⟨ret_bool ?_, by first | exact HC.out | exact HC.out.drewN _⟩
    have heq := HEQ.out
    clear HC HB HVR HVR' HR1 HR2 HT HT' HEQ a0 a1 a2 a3 a4 a5 a6 a7 b0 b1 b2 b3 b4 b5 b6 b7
    clear hte
    symm
    rw [decide_eq_false_iff_not]
    intro hfg
    obtain ⟨x1, x2, x3, x4, x5, x6, x7, x8, x9⟩ := heq.1 hfg
    have x8' := congrArg List.length x8
    first | (exfalso; omega) | (clear x8'; simp_all; done)
  rename_i e0 e1 e2 e3 e4 e5 e8 e7 e6 K0 KA0
  have HRE : Hid (decide (f = g) = decide (f.ranges = g.ranges)) := Lib.hid (decide_eq_decide.2 (by
    rw [HEQ.out]
    simp only [Bool.not_eq_false', decide_eq_true_eq] at e6
    refine ⟨fun h => h.2.2.2.2.2.2.2.1, fun h => ⟨e0, by omega, by omega, by omega, by omega, e5, e6, h, e8⟩⟩))
  obtain ⟨W, hW⟩ : ∃ W : World, W = (w.alloc (.cells cs.toArray 27)).alloc (.cells cs'.toArray 27) := ⟨_, rfl⟩
  have r7 : W.cell? ⟨w.heap.size, 7, none⟩ = some (.slice B f.ranges.length d) := by rw [hW]; exact ((Row.new1 w _ 27 cs).cell 7).trans a7
  have s7 : W.cell? ⟨w.heap.size + 1, 7, none⟩ = some (.slice B' g.ranges.length d') := by rw [hW]; exact ((Row.new2 w _ 27 cs').cell 7).trans b7
  rw [← hW] at HVR HVR' HC ⊢
  have hlen : f.ranges.length = g.ranges.length := by omega
  have HLE := Lib.hid hlen
  clear hW HB HR1 HR2 HT HT' HEQ hlen
  clear a0 a1 a2 a3 a4 a5 a6 a7 b0 b1 b2 b3 b4 b5 b6 b7 hte e0 e1 e2 e3 e4 e5 e6 e7 e8
  generalize w.heap.size + 1 = gs1 at *
  generalize w.heap.size = gs0 at *
  generalize hfr : f.ranges = l at *
  generalize hgr : g.ranges = l' at *
  clear hfr hgr
  go_loopw [5] (fun i wr => ∃ k m : Nat, k ≤ l.length ∧ i = .int .i64 (k : Int) ∧ wr = W.drewN m ∧ Hid (∀ j, j < k → l.getD j (0, 0) = l'.getD j (0, 0))) (fun i _ => l.length - (intOf i).toNat)
  case atStart => exact ⟨0, nk, Nat.zero_le _, rfl, rfl, Lib.hid (fun j hj => absurd hj (by omega))⟩
  case round =>
    obtain ⟨k, m, hk, rfl, rfl, hpre⟩ := hrel
    by_cases hlt : k < l.length
    · have hlt' : k < l'.length := by have := HLE.out; omega
      obtain ⟨b, o, rfl, hb, _, hc⟩ := HVR.out.ranges (by omega)
      obtain ⟨b', o', rfl, hb', _, hc'⟩ := HVR'.out.ranges (by omega)
      obtain ⟨c1, c2⟩ := hc k hlt
      obtain ⟨c3, c4⟩ := hc' k hlt'
      clear hc hc' hb hb'
      have hk0 : (0 : Int) ≤ (k : Int) := by omega
      have hk1 : (k : Int) < (l.length : Int) := by omega
      have hk2 : (k : Int) < (l'.length : Int) := by omega
      generalize hx : l.getD k (0, 0) = x at c1 c2
      generalize hy : l'.getD k (0, 0) = y at c3 c4
      have HX := Lib.hid hx
      have HY := Lib.hid hy
      clear hx hy
      obtain ⟨x1, x2⟩ := x
      obtain ⟨y1, y2⟩ := y
      simp only at c1 c2 c3 c4
      by_cases hxy : x1 = y1 ∧ x2 = y2
      · obtain ⟨rfl, rfl⟩ := hxy
        go_wp2
        go_quiet (fail)
        go_wp2
        go_roundw
        case rel =>
          refine ⟨k + 1, m + nq, by omega, by go_num, by first | rfl | rw [World.drewN_drewN], Lib.hid ?_⟩
          intro j hj
          rcases Nat.lt_or_ge j k with hjk | hjk
          · exact hpre.out j hjk
          · have : j = k := by omega
            subst this
            rw [HX.out, HY.out]
        case measure => simp [intOf]; omega
      · have HXY := Lib.hid hxy
        have hne : l ≠ l' := fun e => HXY.out (by
          have h1 := HX.out
          rw [e, HY.out] at h1
          simpa [eq_comm] using h1)
        have HNE := Lib.hid hne
        clear hne
        by_cases h1 : x1 = y1
        · subst h1
          have h2 : ((x2 : Int) == (y2 : Int)) = false := by simp; omega
          clear hxy
          go_wp2
          go_quiet (fail)
          go_wp2
          go_ret
          refine ⟨ret_bool ?_, (HC.out.drewN _).drewN _⟩
          rw [HRE.out, decide_eq_false HNE.out]
        · have h2 : ((x1 : Int) == (y1 : Int)) = false := by simp; omega
          clear hxy h1
          go_wp2
          go_quiet (fail)
          go_wp2
          go_ret
          refine ⟨ret_bool ?_, (HC.out.drewN _).drewN _⟩
          rw [HRE.out, decide_eq_false HNE.out]
    · have hkl : k = l.length := by omega
      have HK := Lib.hid hkl
      clear hkl
      have hn : ¬ (k : Int) < (l.length : Int) := by omega
      go_wp2
      go_ret
      refine ⟨ret_bool ?_, HC.out.drewN _⟩
      rw [HRE.out]
      symm
      rw [decide_eq_true_eq]
      apply List.ext_getElem HLE.out
      intro j h1 h2
      have := hpre.out j (by rw [HK.out]; exact h1)
      simpa [List.getD_eq_getElem?_getD, h1, h2] using this
end Go.Proofs.YtlcffjmbfpdlbaaDoor

namespace Go.Proofs.YtlcffjmbfpdlbaaDoor
open Go.RowKit

theorem cells_oneF (f : Fr) (sd sr : Value) (h1 : sd.oneCell' = true) (h2 : sr.oneCell' = true) : (cellsF f sd sr).all (·.oneCell') = true := by
  simp only [cellsF, List.all_cons, h1, h2, Bool.true_and]
  simp [Value.oneCell']
  exact fun u hu => u8s_one _ u hu

set_option maxRecDepth 100000 in
set_option maxHeartbeats 4000000 in
theorem only_a (f : Fr) (A B : Option Addr) (n c m d : Nat) (ht : f.tok.length = 16) (w : World) :
    Calls Tryd.prog 18 #[.agg (cellsF f (.slice A n c) (.slice B m d)).toArray, .string ⟨#[97]⟩] w fun e w' => e = .returned (.agg (cellsF { kind := f.kind, a := f.a, tok := List.replicate 16 0 } (.slice none 0 0) (.slice none 0 0)).toArray) ∧ Chg none_ w w' := by
  have HTF := Lib.hid ht
  have HTK : Hid (({ kind := f.kind, a := f.a, tok := List.replicate 16 0 } : Fr).tok.length = 16) := Lib.hid (rfl)
  have HONE : Hid ((cellsF { kind := f.kind, a := f.a, tok := List.replicate 16 0 } (.slice none 0 0) (.slice none 0 0)).all (·.oneCell') = true) := Lib.hid (cells_oneF _ _ _ rfl rfl)
  have HSZ : Hid ((Tryd.prog.info? 27).map (·.size) = some (cellsF { kind := f.kind, a := f.a, tok := List.replicate 16 0 } (.slice none 0 0) (.slice none 0 0)).length) := Lib.hid (by rw [cF_len _ _ _ HTK.out]; exact size27)
  have HSL : Hid ((cellsF { kind := f.kind, a := f.a, tok := List.replicate 16 0 } (.slice none 0 0) (.slice none 0 0)).length = zeroF.length) := Lib.hid (by rw [cF_len _ _ _ HTK.out]; rfl)
  clear ht
  go_enter Tryd.func18, Tryd.ntmps18
  go_wp2_with (first | ((with_reducible show wpList _ _ _ (⟨some 2, .box _ _, _, _, _, _⟩ :: _) _ _); refine wpList_box_Row rfl rfl (cellsF f (.slice A n c) (.slice B m d)) rfl ?_; intro w1 hr1 hc1 hs1; have HR1 := Lib.hid hr1; have HC1 := Lib.hid hc1; have HS1 := Lib.hid hs1; have q0 := (hr1.cell 0).trans (cF_0 f (.slice A n c) (.slice B m d)); clear hr1 hc1 hs1) | ((with_reducible show wpList _ _ _ (⟨some 4, .alloc _, _, _, _, _⟩ :: _) _ _); refine wpList_alloc_Row rfl rfl zeroF zero27 ?_; intro w2 hr2 hc2 hs2; have HR2 := Lib.hid hr2; have HC2 := Lib.hid hc2; have HS2 := Lib.hid hs2; have q0 := (HR1.out.chg hc2 (fun h => h)).cell 0; rw [cF_0] at q0; clear hr2 hc2 hs2) | ((with_reducible show wpList _ _ _ (⟨some 5, .alloc _, _, _, _, _⟩ :: _) _ _); refine wpList_alloc_Row rfl rfl zeroF zero27 ?_; intro w3 hr3 hc3 hs3; have HR3 := Lib.hid hr3; have HC3 := Lib.hid hc3; have HS3 := Lib.hid hs3; clear hr3 hc3 hs3) | ((with_reducible show wpList _ _ _ (⟨none, .store 27 (.tmp 5) _, _, _, _, _⟩ :: _) _ _); refine wpList_store_Row (xs := cellsF { kind := f.kind, tok := List.replicate 16 0 } (.slice none 0 0) (.slice none 0 0)) rfl rfl rfl HR3.out rfl rfl size27 rfl ?_; intro w5 hr5 hcs5 hs5; have HR5 := Lib.hid hr5; have HC5 := Lib.hid (hcs5 (· = w2.heap.size) w3 (Chg.refl _ _) (fun _ => rfl)); clear hr5 hcs5 hs5))
  have HR2' := Lib.hid ((HR2.out.chg HC3.out (fun h => h)).chg HC5.out (fun (e : w1.heap.size = w2.heap.size) => by have := HS2.out; omega))
  have HR1' := Lib.hid (((HR1.out.chg HC2.out (fun h => h)).chg HC3.out (fun h => h)).chg HC5.out (fun (e : w.heap.size = w2.heap.size) => by have := HS2.out; have := HS1.out; omega))
  have HCW : Hid (Chg none_ w w5) := Lib.hid (((HC1.out.trans HC2.out).trans HC3.out).andThen HC5.out (fun b hb (e : b = w2.heap.size) => by have := HS2.out; have := HS1.out; omega))
  have hne1 : w.heap.size ≠ w2.heap.size := by have := HS2.out; have := HS1.out; omega
  have hne2 : w1.heap.size ≠ w2.heap.size := by have := HS2.out; omega
  have HG4 : Hid (w.heap.size ≤ w1.heap.size) := Lib.hid (by have := HS1.out; omega)
  have HG5 : Hid (w.heap.size ≤ w2.heap.size) := Lib.hid (by have := HS2.out; have := HS1.out; omega)
  clear HR1 HR2 HR3 HC1 HC2 HC3 HC5 HS1 HS2 HS3 q0
  obtain ⟨g2, hg2⟩ : ∃ g, g = w.heap.size := ⟨_, rfl⟩
  obtain ⟨g4, hg4⟩ : ∃ g, g = w1.heap.size := ⟨_, rfl⟩
  obtain ⟨g5, hg5⟩ : ∃ g, g = w2.heap.size := ⟨_, rfl⟩
  have HW2 := Lib.hid hg2
  rw [← hg4, ← hg2] at HG4
  rw [← hg5, ← hg2] at HG5
  rw [← hg2, ← hg5] at hne1
  rw [← hg4, ← hg5] at hne2
  rw [← hg2] at HR1'
  rw [← hg4] at HR2'
  rw [← hg5] at HR5
  rw [← hg2, ← hg4, ← hg5]
  clear hg2 hg4 hg5
  have HRE : Hid (Row _ g5 27 (cellsF { kind := f.kind, a := f.a, tok := List.replicate 16 0 } (.slice none 0 0) (.slice none 0 0))) := Lib.hid ((HR5.out).set 2 (.int .u64 (f.a : Nat)))
  have HCE5 : Chg (· = g5) w5 _ := (Chg.refl (· = g5) w5).setCell (p := ⟨g5, 2, none⟩) (fun _ => rfl) (.int .u64 (f.a : Nat))
  have HR4 := Lib.hid (HR2'.out.chg HCE5 hne2)
  have HCE := Lib.hid (HCW.out.andThen HCE5 (fun b hb e => by have := HG5.out; have := HW2.out; omega))
  clear HCE5
  have a2 := (HR1'.out.cell 2).trans (cF_2 f (.slice A n c) (.slice B m d))
  have b2 := HR5.out.cell 2
  simp only [cF_2] at b2
  have z5 := HR5.out.frozen
  have ix0 : ((({ data := #[97] } : ByteArray)[0]).toNat : Int) = 97 := rfl
  refine wp_loop_rounds 2 ?_
  rw [rounds_succ]
  go_wp2
  rw [rounds_succ]
  go_wp2_with (first | ((with_reducible show wpList _ _ _ (⟨some 59, .load _ _, _, _, _, _⟩ :: _) _ _); refine wpList_load_Row (cs := cellsF { kind := f.kind, a := f.a, tok := List.replicate 16 0 } (.slice none 0 0) (.slice none 0 0)) rfl rfl rfl HRE.out Tryd.underlying27 rfl (HSZ.out) ?_) | ((with_reducible show wpList _ _ _ (⟨none, .store 27 (.tmp 4) _, _, _, _, _⟩ :: _) _ _); refine wpList_store_Row (xs := cellsF { kind := f.kind, a := f.a, tok := List.replicate 16 0 } (.slice none 0 0) (.slice none 0 0)) rfl rfl rfl HR4.out rfl (HSL.out) (HSZ.out) HONE.out ?_; intro w9 hr9 hcs9 hs9; have HR9 := Lib.hid hr9; have HC9 := Lib.hid (hcs9 none_ w HCE.out (fun h => by have := HG4.out; have := HW2.out; omega)); clear hr9 hcs9 hs9))
  refine ret_row rfl rfl HR9.out Tryd.underlying27 rfl (HSZ.out) rfl ?_
  exact ⟨rfl, HC9.out⟩

set_option maxRecDepth 100000 in
set_option maxHeartbeats 4000000 in
theorem only_e (f : Fr) (A B : Option Addr) (n c m d : Nat) (ht : f.tok.length = 16) (w : World) :
    Calls Tryd.prog 18 #[.agg (cellsF f (.slice A n c) (.slice B m d)).toArray, .string ⟨#[]⟩] w fun e w' => e = .returned (.agg (cellsF { kind := f.kind, tok := List.replicate 16 0 } (.slice none 0 0) (.slice none 0 0)).toArray) ∧ Chg none_ w w' := by
  have HTF := Lib.hid ht
  have HTK : Hid (({ kind := f.kind, tok := List.replicate 16 0 } : Fr).tok.length = 16) := Lib.hid (rfl)
  have HONE : Hid ((cellsF { kind := f.kind, tok := List.replicate 16 0 } (.slice none 0 0) (.slice none 0 0)).all (·.oneCell') = true) := Lib.hid (cells_oneF _ _ _ rfl rfl)
  have HSZ : Hid ((Tryd.prog.info? 27).map (·.size) = some (cellsF { kind := f.kind, tok := List.replicate 16 0 } (.slice none 0 0) (.slice none 0 0)).length) := Lib.hid (by rw [cF_len _ _ _ HTK.out]; exact size27)
  have HSL : Hid ((cellsF { kind := f.kind, tok := List.replicate 16 0 } (.slice none 0 0) (.slice none 0 0)).length = zeroF.length) := Lib.hid (by rw [cF_len _ _ _ HTK.out]; rfl)
  clear ht
  go_enter Tryd.func18, Tryd.ntmps18
  go_wp2_with (first | ((with_reducible show wpList _ _ _ (⟨some 2, .box _ _, _, _, _, _⟩ :: _) _ _); refine wpList_box_Row rfl rfl (cellsF f (.slice A n c) (.slice B m d)) rfl ?_; intro w1 hr1 hc1 hs1; have HR1 := Lib.hid hr1; have HC1 := Lib.hid hc1; have HS1 := Lib.hid hs1; have q0 := (hr1.cell 0).trans (cF_0 f (.slice A n c) (.slice B m d)); clear hr1 hc1 hs1) | ((with_reducible show wpList _ _ _ (⟨some 4, .alloc _, _, _, _, _⟩ :: _) _ _); refine wpList_alloc_Row rfl rfl zeroF zero27 ?_; intro w2 hr2 hc2 hs2; have HR2 := Lib.hid hr2; have HC2 := Lib.hid hc2; have HS2 := Lib.hid hs2; have q0 := (HR1.out.chg hc2 (fun h => h)).cell 0; rw [cF_0] at q0; clear hr2 hc2 hs2) | ((with_reducible show wpList _ _ _ (⟨some 5, .alloc _, _, _, _, _⟩ :: _) _ _); refine wpList_alloc_Row rfl rfl zeroF zero27 ?_; intro w3 hr3 hc3 hs3; have HR3 := Lib.hid hr3; have HC3 := Lib.hid hc3; have HS3 := Lib.hid hs3; clear hr3 hc3 hs3) | ((with_reducible show wpList _ _ _ (⟨none, .store 27 (.tmp 5) _, _, _, _, _⟩ :: _) _ _); refine wpList_store_Row (xs := cellsF { kind := f.kind, tok := List.replicate 16 0 } (.slice none 0 0) (.slice none 0 0)) rfl rfl rfl HR3.out rfl rfl size27 rfl ?_; intro w5 hr5 hcs5 hs5; have HR5 := Lib.hid hr5; have HC5 := Lib.hid (hcs5 (· = w2.heap.size) w3 (Chg.refl _ _) (fun _ => rfl)); clear hr5 hcs5 hs5))
  have HR2' := Lib.hid ((HR2.out.chg HC3.out (fun h => h)).chg HC5.out (fun (e : w1.heap.size = w2.heap.size) => by have := HS2.out; omega))
  have HR1' := Lib.hid (((HR1.out.chg HC2.out (fun h => h)).chg HC3.out (fun h => h)).chg HC5.out (fun (e : w.heap.size = w2.heap.size) => by have := HS2.out; have := HS1.out; omega))
  have HCW : Hid (Chg none_ w w5) := Lib.hid (((HC1.out.trans HC2.out).trans HC3.out).andThen HC5.out (fun b hb (e : b = w2.heap.size) => by have := HS2.out; have := HS1.out; omega))
  have hne1 : w.heap.size ≠ w2.heap.size := by have := HS2.out; have := HS1.out; omega
  have hne2 : w1.heap.size ≠ w2.heap.size := by have := HS2.out; omega
  have HG4 : Hid (w.heap.size ≤ w1.heap.size) := Lib.hid (by have := HS1.out; omega)
  have HG5 : Hid (w.heap.size ≤ w2.heap.size) := Lib.hid (by have := HS2.out; have := HS1.out; omega)
  clear HR1 HR2 HR3 HC1 HC2 HC3 HC5 HS1 HS2 HS3 q0
  obtain ⟨g2, hg2⟩ : ∃ g, g = w.heap.size := ⟨_, rfl⟩
  obtain ⟨g4, hg4⟩ : ∃ g, g = w1.heap.size := ⟨_, rfl⟩
  obtain ⟨g5, hg5⟩ : ∃ g, g = w2.heap.size := ⟨_, rfl⟩
  have HW2 := Lib.hid hg2
  rw [← hg4, ← hg2] at HG4
  rw [← hg5, ← hg2] at HG5
  rw [← hg2, ← hg5] at hne1
  rw [← hg4, ← hg5] at hne2
  rw [← hg2] at HR1'
  rw [← hg4] at HR2'
  rw [← hg5] at HR5
  rw [← hg2, ← hg4, ← hg5]
  clear hg2 hg4 hg5
  have HRE : Hid (Row _ g5 27 (cellsF { kind := f.kind, tok := List.replicate 16 0 } (.slice none 0 0) (.slice none 0 0))) := Lib.hid (HR5.out)
  have HCE5 : Chg (· = g5) w5 _ := Chg.refl (· = g5) w5
  have HR4 := Lib.hid (HR2'.out.chg HCE5 hne2)
  have HCE := Lib.hid (HCW.out.andThen HCE5 (fun b hb e => by have := HG5.out; have := HW2.out; omega))
  clear HCE5
  have z5 := HR5.out.frozen
  refine wp_loop_rounds 1 ?_
  rw [rounds_succ]
  go_wp2_with (first | ((with_reducible show wpList _ _ _ (⟨some 59, .load _ _, _, _, _, _⟩ :: _) _ _); refine wpList_load_Row (cs := cellsF { kind := f.kind, tok := List.replicate 16 0 } (.slice none 0 0) (.slice none 0 0)) rfl rfl rfl HRE.out Tryd.underlying27 rfl (HSZ.out) ?_) | ((with_reducible show wpList _ _ _ (⟨none, .store 27 (.tmp 4) _, _, _, _, _⟩ :: _) _ _); refine wpList_store_Row (xs := cellsF { kind := f.kind, tok := List.replicate 16 0 } (.slice none 0 0) (.slice none 0 0)) rfl rfl rfl HR4.out rfl (HSL.out) (HSZ.out) HONE.out ?_; intro w9 hr9 hcs9 hs9; have HR9 := Lib.hid hr9; have HC9 := Lib.hid (hcs9 none_ w HCE.out (fun h => by have := HG4.out; have := HW2.out; omega)); clear hr9 hcs9 hs9))
  refine ret_row rfl rfl HR9.out Tryd.underlying27 rfl (HSZ.out) rfl ?_
  exact ⟨rfl, HC9.out⟩

set_option maxRecDepth 100000 in
set_option maxHeartbeats 4000000 in
theorem only_br (f : Fr) (A B : Option Addr) (n c m d : Nat) (ht : f.tok.length = 16) (w : World) :
    Calls Tryd.prog 18 #[.agg (cellsF f (.slice A n c) (.slice B m d)).toArray, .string ⟨#[98, 114]⟩] w fun e w' => e = .returned (.agg (cellsF { kind := f.kind, b := f.b, ranges := f.ranges, tok := List.replicate 16 0 } (.slice none 0 0) ((.slice B m d))).toArray) ∧ Chg none_ w w' := by
  have HTF := Lib.hid ht
  have HTK : Hid (({ kind := f.kind, b := f.b, ranges := f.ranges, tok := List.replicate 16 0 } : Fr).tok.length = 16) := Lib.hid (rfl)
  have HONE : Hid ((cellsF { kind := f.kind, b := f.b, ranges := f.ranges, tok := List.replicate 16 0 } (.slice none 0 0) ((.slice B m d))).all (·.oneCell') = true) := Lib.hid (cells_oneF _ _ _ rfl rfl)
  have HSZ : Hid ((Tryd.prog.info? 27).map (·.size) = some (cellsF { kind := f.kind, b := f.b, ranges := f.ranges, tok := List.replicate 16 0 } (.slice none 0 0) ((.slice B m d))).length) := Lib.hid (by rw [cF_len _ _ _ HTK.out]; exact size27)
  have HSL : Hid ((cellsF { kind := f.kind, b := f.b, ranges := f.ranges, tok := List.replicate 16 0 } (.slice none 0 0) ((.slice B m d))).length = zeroF.length) := Lib.hid (by rw [cF_len _ _ _ HTK.out]; rfl)
  clear ht
  go_enter Tryd.func18, Tryd.ntmps18
  go_wp2_with (first | ((with_reducible show wpList _ _ _ (⟨some 2, .box _ _, _, _, _, _⟩ :: _) _ _); refine wpList_box_Row rfl rfl (cellsF f (.slice A n c) (.slice B m d)) rfl ?_; intro w1 hr1 hc1 hs1; have HR1 := Lib.hid hr1; have HC1 := Lib.hid hc1; have HS1 := Lib.hid hs1; have q0 := (hr1.cell 0).trans (cF_0 f (.slice A n c) (.slice B m d)); clear hr1 hc1 hs1) | ((with_reducible show wpList _ _ _ (⟨some 4, .alloc _, _, _, _, _⟩ :: _) _ _); refine wpList_alloc_Row rfl rfl zeroF zero27 ?_; intro w2 hr2 hc2 hs2; have HR2 := Lib.hid hr2; have HC2 := Lib.hid hc2; have HS2 := Lib.hid hs2; have q0 := (HR1.out.chg hc2 (fun h => h)).cell 0; rw [cF_0] at q0; clear hr2 hc2 hs2) | ((with_reducible show wpList _ _ _ (⟨some 5, .alloc _, _, _, _, _⟩ :: _) _ _); refine wpList_alloc_Row rfl rfl zeroF zero27 ?_; intro w3 hr3 hc3 hs3; have HR3 := Lib.hid hr3; have HC3 := Lib.hid hc3; have HS3 := Lib.hid hs3; clear hr3 hc3 hs3) | ((with_reducible show wpList _ _ _ (⟨none, .store 27 (.tmp 5) _, _, _, _, _⟩ :: _) _ _); refine wpList_store_Row (xs := cellsF { kind := f.kind, tok := List.replicate 16 0 } (.slice none 0 0) (.slice none 0 0)) rfl rfl rfl HR3.out rfl rfl size27 rfl ?_; intro w5 hr5 hcs5 hs5; have HR5 := Lib.hid hr5; have HC5 := Lib.hid (hcs5 (· = w2.heap.size) w3 (Chg.refl _ _) (fun _ => rfl)); clear hr5 hcs5 hs5))
  have HR2' := Lib.hid ((HR2.out.chg HC3.out (fun h => h)).chg HC5.out (fun (e : w1.heap.size = w2.heap.size) => by have := HS2.out; omega))
  have HR1' := Lib.hid (((HR1.out.chg HC2.out (fun h => h)).chg HC3.out (fun h => h)).chg HC5.out (fun (e : w.heap.size = w2.heap.size) => by have := HS2.out; have := HS1.out; omega))
  have HCW : Hid (Chg none_ w w5) := Lib.hid (((HC1.out.trans HC2.out).trans HC3.out).andThen HC5.out (fun b hb (e : b = w2.heap.size) => by have := HS2.out; have := HS1.out; omega))
  have hne1 : w.heap.size ≠ w2.heap.size := by have := HS2.out; have := HS1.out; omega
  have hne2 : w1.heap.size ≠ w2.heap.size := by have := HS2.out; omega
  have HG4 : Hid (w.heap.size ≤ w1.heap.size) := Lib.hid (by have := HS1.out; omega)
  have HG5 : Hid (w.heap.size ≤ w2.heap.size) := Lib.hid (by have := HS2.out; have := HS1.out; omega)
  clear HR1 HR2 HR3 HC1 HC2 HC3 HC5 HS1 HS2 HS3 q0
  obtain ⟨g2, hg2⟩ : ∃ g, g = w.heap.size := ⟨_, rfl⟩
  obtain ⟨g4, hg4⟩ : ∃ g, g = w1.heap.size := ⟨_, rfl⟩
  obtain ⟨g5, hg5⟩ : ∃ g, g = w2.heap.size := ⟨_, rfl⟩
  have HW2 := Lib.hid hg2
  rw [← hg4, ← hg2] at HG4
  rw [← hg5, ← hg2] at HG5
  rw [← hg2, ← hg5] at hne1
  rw [← hg4, ← hg5] at hne2
  rw [← hg2] at HR1'
  rw [← hg4] at HR2'
  rw [← hg5] at HR5
  rw [← hg2, ← hg4, ← hg5]
  clear hg2 hg4 hg5
  have HRE : Hid (Row _ g5 27 (cellsF { kind := f.kind, b := f.b, ranges := f.ranges, tok := List.replicate 16 0 } (.slice none 0 0) ((.slice B m d)))) := Lib.hid (((HR5.out).set 3 (.int .u64 (f.b : Nat))).set 7 ((.slice B m d)))
  have HCE5 : Chg (· = g5) w5 _ := ((Chg.refl (· = g5) w5).setCell (p := ⟨g5, 3, none⟩) (fun _ => rfl) (.int .u64 (f.b : Nat))).setCell (p := ⟨g5, 7, none⟩) (fun _ => rfl) ((.slice B m d))
  have HR4 := Lib.hid (HR2'.out.chg HCE5 hne2)
  have HCE := Lib.hid (HCW.out.andThen HCE5 (fun b hb e => by have := HG5.out; have := HW2.out; omega))
  clear HCE5
  have a3 := (HR1'.out.cell 3).trans (cF_3 f (.slice A n c) (.slice B m d))
  have b3 := HR5.out.cell 3
  simp only [cF_3] at b3
  have a7 := (HR1'.out.cell 7).trans (cF_7 f (.slice A n c) (.slice B m d))
  have b7 := HR5.out.cell 7
  simp only [cF_7] at b7
  have z5 := HR5.out.frozen
  have ix0 : ((({ data := #[98, 114] } : ByteArray)[0]).toNat : Int) = 98 := rfl
  have ix1 : ((({ data := #[98, 114] } : ByteArray)[1]).toNat : Int) = 114 := rfl
  refine wp_loop_rounds 3 ?_
  rw [rounds_succ]
  go_wp2
  rw [rounds_succ]
  go_wp2
  rw [rounds_succ]
  go_wp2_with (first | ((with_reducible show wpList _ _ _ (⟨some 59, .load _ _, _, _, _, _⟩ :: _) _ _); refine wpList_load_Row (cs := cellsF { kind := f.kind, b := f.b, ranges := f.ranges, tok := List.replicate 16 0 } (.slice none 0 0) ((.slice B m d))) rfl rfl rfl HRE.out Tryd.underlying27 rfl (HSZ.out) ?_) | ((with_reducible show wpList _ _ _ (⟨none, .store 27 (.tmp 4) _, _, _, _, _⟩ :: _) _ _); refine wpList_store_Row (xs := cellsF { kind := f.kind, b := f.b, ranges := f.ranges, tok := List.replicate 16 0 } (.slice none 0 0) ((.slice B m d))) rfl rfl rfl HR4.out rfl (HSL.out) (HSZ.out) HONE.out ?_; intro w9 hr9 hcs9 hs9; have HR9 := Lib.hid hr9; have HC9 := Lib.hid (hcs9 none_ w HCE.out (fun h => by have := HG4.out; have := HW2.out; omega)); clear hr9 hcs9 hs9))
  refine ret_row rfl rfl HR9.out Tryd.underlying27 rfl (HSZ.out) rfl ?_
  exact ⟨rfl, HC9.out⟩

set_option maxRecDepth 100000 in
set_option maxHeartbeats 4000000 in
theorem only_ica (f : Fr) (A B : Option Addr) (n c m d : Nat) (ht : f.tok.length = 16) (w : World) :
    Calls Tryd.prog 18 #[.agg (cellsF f (.slice A n c) (.slice B m d)).toArray, .string ⟨#[105, 99, 97]⟩] w fun e w' => e = .returned (.agg (cellsF { kind := f.kind, id := f.id, code := f.code, a := f.a, tok := List.replicate 16 0 } (.slice none 0 0) (.slice none 0 0)).toArray) ∧ Chg none_ w w' := by
  have HTF := Lib.hid ht
  have HTK : Hid (({ kind := f.kind, id := f.id, code := f.code, a := f.a, tok := List.replicate 16 0 } : Fr).tok.length = 16) := Lib.hid (rfl)
  have HONE : Hid ((cellsF { kind := f.kind, id := f.id, code := f.code, a := f.a, tok := List.replicate 16 0 } (.slice none 0 0) (.slice none 0 0)).all (·.oneCell') = true) := Lib.hid (cells_oneF _ _ _ rfl rfl)
  have HSZ : Hid ((Tryd.prog.info? 27).map (·.size) = some (cellsF { kind := f.kind, id := f.id, code := f.code, a := f.a, tok := List.replicate 16 0 } (.slice none 0 0) (.slice none 0 0)).length) := Lib.hid (by rw [cF_len _ _ _ HTK.out]; exact size27)
  have HSL : Hid ((cellsF { kind := f.kind, id := f.id, code := f.code, a := f.a, tok := List.replicate 16 0 } (.slice none 0 0) (.slice none 0 0)).length = zeroF.length) := Lib.hid (by rw [cF_len _ _ _ HTK.out]; rfl)
  clear ht
  go_enter Tryd.func18, Tryd.ntmps18
  go_wp2_with (first | ((with_reducible show wpList _ _ _ (⟨some 2, .box _ _, _, _, _, _⟩ :: _) _ _); refine wpList_box_Row rfl rfl (cellsF f (.slice A n c) (.slice B m d)) rfl ?_; intro w1 hr1 hc1 hs1; have HR1 := Lib.hid hr1; have HC1 := Lib.hid hc1; have HS1 := Lib.hid hs1; have q0 := (hr1.cell 0).trans (cF_0 f (.slice A n c) (.slice B m d)); clear hr1 hc1 hs1) | ((with_reducible show wpList _ _ _ (⟨some 4, .alloc _, _, _, _, _⟩ :: _) _ _); refine wpList_alloc_Row rfl rfl zeroF zero27 ?_; intro w2 hr2 hc2 hs2; have HR2 := Lib.hid hr2; have HC2 := Lib.hid hc2; have HS2 := Lib.hid hs2; have q0 := (HR1.out.chg hc2 (fun h => h)).cell 0; rw [cF_0] at q0; clear hr2 hc2 hs2) | ((with_reducible show wpList _ _ _ (⟨some 5, .alloc _, _, _, _, _⟩ :: _) _ _); refine wpList_alloc_Row rfl rfl zeroF zero27 ?_; intro w3 hr3 hc3 hs3; have HR3 := Lib.hid hr3; have HC3 := Lib.hid hc3; have HS3 := Lib.hid hs3; clear hr3 hc3 hs3) | ((with_reducible show wpList _ _ _ (⟨none, .store 27 (.tmp 5) _, _, _, _, _⟩ :: _) _ _); refine wpList_store_Row (xs := cellsF { kind := f.kind, tok := List.replicate 16 0 } (.slice none 0 0) (.slice none 0 0)) rfl rfl rfl HR3.out rfl rfl size27 rfl ?_; intro w5 hr5 hcs5 hs5; have HR5 := Lib.hid hr5; have HC5 := Lib.hid (hcs5 (· = w2.heap.size) w3 (Chg.refl _ _) (fun _ => rfl)); clear hr5 hcs5 hs5))
  have HR2' := Lib.hid ((HR2.out.chg HC3.out (fun h => h)).chg HC5.out (fun (e : w1.heap.size = w2.heap.size) => by have := HS2.out; omega))
  have HR1' := Lib.hid (((HR1.out.chg HC2.out (fun h => h)).chg HC3.out (fun h => h)).chg HC5.out (fun (e : w.heap.size = w2.heap.size) => by have := HS2.out; have := HS1.out; omega))
  have HCW : Hid (Chg none_ w w5) := Lib.hid (((HC1.out.trans HC2.out).trans HC3.out).andThen HC5.out (fun b hb (e : b = w2.heap.size) => by have := HS2.out; have := HS1.out; omega))
  have hne1 : w.heap.size ≠ w2.heap.size := by have := HS2.out; have := HS1.out; omega
  have hne2 : w1.heap.size ≠ w2.heap.size := by have := HS2.out; omega
  have HG4 : Hid (w.heap.size ≤ w1.heap.size) := Lib.hid (by have := HS1.out; omega)
  have HG5 : Hid (w.heap.size ≤ w2.heap.size) := Lib.hid (by have := HS2.out; have := HS1.out; omega)
  clear HR1 HR2 HR3 HC1 HC2 HC3 HC5 HS1 HS2 HS3 q0
  obtain ⟨g2, hg2⟩ : ∃ g, g = w.heap.size := ⟨_, rfl⟩
  obtain ⟨g4, hg4⟩ : ∃ g, g = w1.heap.size := ⟨_, rfl⟩
  obtain ⟨g5, hg5⟩ : ∃ g, g = w2.heap.size := ⟨_, rfl⟩
  have HW2 := Lib.hid hg2
  rw [← hg4, ← hg2] at HG4
  rw [← hg5, ← hg2] at HG5
  rw [← hg2, ← hg5] at hne1
  rw [← hg4, ← hg5] at hne2
  rw [← hg2] at HR1'
  rw [← hg4] at HR2'
  rw [← hg5] at HR5
  rw [← hg2, ← hg4, ← hg5]
  clear hg2 hg4 hg5
  have HRE : Hid (Row _ g5 27 (cellsF { kind := f.kind, id := f.id, code := f.code, a := f.a, tok := List.replicate 16 0 } (.slice none 0 0) (.slice none 0 0))) := Lib.hid ((((HR5.out).set 1 (.int .u64 (f.id : Nat))).set 4 (.int .u64 (f.code : Nat))).set 2 (.int .u64 (f.a : Nat)))
  have HCE5 : Chg (· = g5) w5 _ := (((Chg.refl (· = g5) w5).setCell (p := ⟨g5, 1, none⟩) (fun _ => rfl) (.int .u64 (f.id : Nat))).setCell (p := ⟨g5, 4, none⟩) (fun _ => rfl) (.int .u64 (f.code : Nat))).setCell (p := ⟨g5, 2, none⟩) (fun _ => rfl) (.int .u64 (f.a : Nat))
  have HR4 := Lib.hid (HR2'.out.chg HCE5 hne2)
  have HCE := Lib.hid (HCW.out.andThen HCE5 (fun b hb e => by have := HG5.out; have := HW2.out; omega))
  clear HCE5
  have a1 := (HR1'.out.cell 1).trans (cF_1 f (.slice A n c) (.slice B m d))
  have b1 := HR5.out.cell 1
  simp only [cF_1] at b1
  have a4 := (HR1'.out.cell 4).trans (cF_4 f (.slice A n c) (.slice B m d))
  have b4 := HR5.out.cell 4
  simp only [cF_4] at b4
  have a2 := (HR1'.out.cell 2).trans (cF_2 f (.slice A n c) (.slice B m d))
  have b2 := HR5.out.cell 2
  simp only [cF_2] at b2
  have z5 := HR5.out.frozen
  have ix0 : ((({ data := #[105, 99, 97] } : ByteArray)[0]).toNat : Int) = 105 := rfl
  have ix1 : ((({ data := #[105, 99, 97] } : ByteArray)[1]).toNat : Int) = 99 := rfl
  have ix2 : ((({ data := #[105, 99, 97] } : ByteArray)[2]).toNat : Int) = 97 := rfl
  refine wp_loop_rounds 4 ?_
  rw [rounds_succ]
  go_wp2
  rw [rounds_succ]
  go_wp2
  rw [rounds_succ]
  go_wp2
  rw [rounds_succ]
  go_wp2_with (first | ((with_reducible show wpList _ _ _ (⟨some 59, .load _ _, _, _, _, _⟩ :: _) _ _); refine wpList_load_Row (cs := cellsF { kind := f.kind, id := f.id, code := f.code, a := f.a, tok := List.replicate 16 0 } (.slice none 0 0) (.slice none 0 0)) rfl rfl rfl HRE.out Tryd.underlying27 rfl (HSZ.out) ?_) | ((with_reducible show wpList _ _ _ (⟨none, .store 27 (.tmp 4) _, _, _, _, _⟩ :: _) _ _); refine wpList_store_Row (xs := cellsF { kind := f.kind, id := f.id, code := f.code, a := f.a, tok := List.replicate 16 0 } (.slice none 0 0) (.slice none 0 0)) rfl rfl rfl HR4.out rfl (HSL.out) (HSZ.out) HONE.out ?_; intro w9 hr9 hcs9 hs9; have HR9 := Lib.hid hr9; have HC9 := Lib.hid (hcs9 none_ w HCE.out (fun h => by have := HG4.out; have := HW2.out; omega)); clear hr9 hcs9 hs9))
  refine ret_row rfl rfl HR9.out Tryd.underlying27 rfl (HSZ.out) rfl ?_
  exact ⟨rfl, HC9.out⟩

set_option maxRecDepth 100000 in
set_option maxHeartbeats 4000000 in
theorem only_ic (f : Fr) (A B : Option Addr) (n c m d : Nat) (ht : f.tok.length = 16) (w : World) :
    Calls Tryd.prog 18 #[.agg (cellsF f (.slice A n c) (.slice B m d)).toArray, .string ⟨#[105, 99]⟩] w fun e w' => e = .returned (.agg (cellsF { kind := f.kind, id := f.id, code := f.code, tok := List.replicate 16 0 } (.slice none 0 0) (.slice none 0 0)).toArray) ∧ Chg none_ w w' := by
  have HTF := Lib.hid ht
  have HTK : Hid (({ kind := f.kind, id := f.id, code := f.code, tok := List.replicate 16 0 } : Fr).tok.length = 16) := Lib.hid (rfl)
  have HONE : Hid ((cellsF { kind := f.kind, id := f.id, code := f.code, tok := List.replicate 16 0 } (.slice none 0 0) (.slice none 0 0)).all (·.oneCell') = true) := Lib.hid (cells_oneF _ _ _ rfl rfl)
  have HSZ : Hid ((Tryd.prog.info? 27).map (·.size) = some (cellsF { kind := f.kind, id := f.id, code := f.code, tok := List.replicate 16 0 } (.slice none 0 0) (.slice none 0 0)).length) := Lib.hid (by rw [cF_len _ _ _ HTK.out]; exact size27)
  have HSL : Hid ((cellsF { kind := f.kind, id := f.id, code := f.code, tok := List.replicate 16 0 } (.slice none 0 0) (.slice none 0 0)).length = zeroF.length) := Lib.hid (by rw [cF_len _ _ _ HTK.out]; rfl)
  clear ht
  go_enter Tryd.func18, Tryd.ntmps18
  go_wp2_with (first | ((with_reducible show wpList _ _ _ (⟨some 2, .box _ _, _, _, _, _⟩ :: _) _ _); refine wpList_box_Row rfl rfl (cellsF f (.slice A n c) (.slice B m d)) rfl ?_; intro w1 hr1 hc1 hs1; have HR1 := Lib.hid hr1; have HC1 := Lib.hid hc1; have HS1 := Lib.hid hs1; have q0 := (hr1.cell 0).trans (cF_0 f (.slice A n c) (.slice B m d)); clear hr1 hc1 hs1) | ((with_reducible show wpList _ _ _ (⟨some 4, .alloc _, _, _, _, _⟩ :: _) _ _); refine wpList_alloc_Row rfl rfl zeroF zero27 ?_; intro w2 hr2 hc2 hs2; have HR2 := Lib.hid hr2; have HC2 := Lib.hid hc2; have HS2 := Lib.hid hs2; have q0 := (HR1.out.chg hc2 (fun h => h)).cell 0; rw [cF_0] at q0; clear hr2 hc2 hs2) | ((with_reducible show wpList _ _ _ (⟨some 5, .alloc _, _, _, _, _⟩ :: _) _ _); refine wpList_alloc_Row rfl rfl zeroF zero27 ?_; intro w3 hr3 hc3 hs3; have HR3 := Lib.hid hr3; have HC3 := Lib.hid hc3; have HS3 := Lib.hid hs3; clear hr3 hc3 hs3) | ((with_reducible show wpList _ _ _ (⟨none, .store 27 (.tmp 5) _, _, _, _, _⟩ :: _) _ _); refine wpList_store_Row (xs := cellsF { kind := f.kind, tok := List.replicate 16 0 } (.slice none 0 0) (.slice none 0 0)) rfl rfl rfl HR3.out rfl rfl size27 rfl ?_; intro w5 hr5 hcs5 hs5; have HR5 := Lib.hid hr5; have HC5 := Lib.hid (hcs5 (· = w2.heap.size) w3 (Chg.refl _ _) (fun _ => rfl)); clear hr5 hcs5 hs5))
  have HR2' := Lib.hid ((HR2.out.chg HC3.out (fun h => h)).chg HC5.out (fun (e : w1.heap.size = w2.heap.size) => by have := HS2.out; omega))
  have HR1' := Lib.hid (((HR1.out.chg HC2.out (fun h => h)).chg HC3.out (fun h => h)).chg HC5.out (fun (e : w.heap.size = w2.heap.size) => by have := HS2.out; have := HS1.out; omega))
  have HCW : Hid (Chg none_ w w5) := Lib.hid (((HC1.out.trans HC2.out).trans HC3.out).andThen HC5.out (fun b hb (e : b = w2.heap.size) => by have := HS2.out; have := HS1.out; omega))
  have hne1 : w.heap.size ≠ w2.heap.size := by have := HS2.out; have := HS1.out; omega
  have hne2 : w1.heap.size ≠ w2.heap.size := by have := HS2.out; omega
  have HG4 : Hid (w.heap.size ≤ w1.heap.size) := Lib.hid (by have := HS1.out; omega)
  have HG5 : Hid (w.heap.size ≤ w2.heap.size) := Lib.hid (by have := HS2.out; have := HS1.out; omega)
  clear HR1 HR2 HR3 HC1 HC2 HC3 HC5 HS1 HS2 HS3 q0
  obtain ⟨g2, hg2⟩ : ∃ g, g = w.heap.size := ⟨_, rfl⟩
  obtain ⟨g4, hg4⟩ : ∃ g, g = w1.heap.size := ⟨_, rfl⟩
  obtain ⟨g5, hg5⟩ : ∃ g, g = w2.heap.size := ⟨_, rfl⟩
  have HW2 := Lib.hid hg2
  rw [← hg4, ← hg2] at HG4
  rw [← hg5, ← hg2] at HG5
  rw [← hg2, ← hg5] at hne1
  rw [← hg4, ← hg5] at hne2
  rw [← hg2] at HR1'
  rw [← hg4] at HR2'
  rw [← hg5] at HR5
  rw [← hg2, ← hg4, ← hg5]
  clear hg2 hg4 hg5
  have HRE : Hid (Row _ g5 27 (cellsF { kind := f.kind, id := f.id, code := f.code, tok := List.replicate 16 0 } (.slice none 0 0) (.slice none 0 0))) := Lib.hid (((HR5.out).set 1 (.int .u64 (f.id : Nat))).set 4 (.int .u64 (f.code : Nat)))
  have HCE5 : Chg (· = g5) w5 _ := ((Chg.refl (· = g5) w5).setCell (p := ⟨g5, 1, none⟩) (fun _ => rfl) (.int .u64 (f.id : Nat))).setCell (p := ⟨g5, 4, none⟩) (fun _ => rfl) (.int .u64 (f.code : Nat))
  have HR4 := Lib.hid (HR2'.out.chg HCE5 hne2)
  have HCE := Lib.hid (HCW.out.andThen HCE5 (fun b hb e => by have := HG5.out; have := HW2.out; omega))
  clear HCE5
  have a1 := (HR1'.out.cell 1).trans (cF_1 f (.slice A n c) (.slice B m d))
  have b1 := HR5.out.cell 1
  simp only [cF_1] at b1
  have a4 := (HR1'.out.cell 4).trans (cF_4 f (.slice A n c) (.slice B m d))
  have b4 := HR5.out.cell 4
  simp only [cF_4] at b4
  have z5 := HR5.out.frozen
  have ix0 : ((({ data := #[105, 99] } : ByteArray)[0]).toNat : Int) = 105 := rfl
  have ix1 : ((({ data := #[105, 99] } : ByteArray)[1]).toNat : Int) = 99 := rfl
  refine wp_loop_rounds 3 ?_
  rw [rounds_succ]
  go_wp2
  rw [rounds_succ]
  go_wp2
  rw [rounds_succ]
  go_wp2_with (first | ((with_reducible show wpList _ _ _ (⟨some 59, .load _ _, _, _, _, _⟩ :: _) _ _); refine wpList_load_Row (cs := cellsF { kind := f.kind, id := f.id, code := f.code, tok := List.replicate 16 0 } (.slice none 0 0) (.slice none 0 0)) rfl rfl rfl HRE.out Tryd.underlying27 rfl (HSZ.out) ?_) | ((with_reducible show wpList _ _ _ (⟨none, .store 27 (.tmp 4) _, _, _, _, _⟩ :: _) _ _); refine wpList_store_Row (xs := cellsF { kind := f.kind, id := f.id, code := f.code, tok := List.replicate 16 0 } (.slice none 0 0) (.slice none 0 0)) rfl rfl rfl HR4.out rfl (HSL.out) (HSZ.out) HONE.out ?_; intro w9 hr9 hcs9 hs9; have HR9 := Lib.hid hr9; have HC9 := Lib.hid (hcs9 none_ w HCE.out (fun h => by have := HG4.out; have := HW2.out; omega)); clear hr9 hcs9 hs9))
  refine ret_row rfl rfl HR9.out Tryd.underlying27 rfl (HSZ.out) rfl ?_
  exact ⟨rfl, HC9.out⟩

set_option maxRecDepth 100000 in
set_option maxHeartbeats 4000000 in
theorem only_ad (f : Fr) (A B : Option Addr) (n c m d : Nat) (ht : f.tok.length = 16) (w : World) :
    Calls Tryd.prog 18 #[.agg (cellsF f (.slice A n c) (.slice B m d)).toArray, .string ⟨#[97, 100]⟩] w fun e w' => e = .returned (.agg (cellsF { kind := f.kind, a := f.a, data := f.data, tok := List.replicate 16 0 } ((.slice A n c)) (.slice none 0 0)).toArray) ∧ Chg none_ w w' := by
  have HTF := Lib.hid ht
  have HTK : Hid (({ kind := f.kind, a := f.a, data := f.data, tok := List.replicate 16 0 } : Fr).tok.length = 16) := Lib.hid (rfl)
  have HONE : Hid ((cellsF { kind := f.kind, a := f.a, data := f.data, tok := List.replicate 16 0 } ((.slice A n c)) (.slice none 0 0)).all (·.oneCell') = true) := Lib.hid (cells_oneF _ _ _ rfl rfl)
  have HSZ : Hid ((Tryd.prog.info? 27).map (·.size) = some (cellsF { kind := f.kind, a := f.a, data := f.data, tok := List.replicate 16 0 } ((.slice A n c)) (.slice none 0 0)).length) := Lib.hid (by rw [cF_len _ _ _ HTK.out]; exact size27)
  have HSL : Hid ((cellsF { kind := f.kind, a := f.a, data := f.data, tok := List.replicate 16 0 } ((.slice A n c)) (.slice none 0 0)).length = zeroF.length) := Lib.hid (by rw [cF_len _ _ _ HTK.out]; rfl)
  clear ht
  go_enter Tryd.func18, Tryd.ntmps18
  go_wp2_with (first | ((with_reducible show wpList _ _ _ (⟨some 2, .box _ _, _, _, _, _⟩ :: _) _ _); refine wpList_box_Row rfl rfl (cellsF f (.slice A n c) (.slice B m d)) rfl ?_; intro w1 hr1 hc1 hs1; have HR1 := Lib.hid hr1; have HC1 := Lib.hid hc1; have HS1 := Lib.hid hs1; have q0 := (hr1.cell 0).trans (cF_0 f (.slice A n c) (.slice B m d)); clear hr1 hc1 hs1) | ((with_reducible show wpList _ _ _ (⟨some 4, .alloc _, _, _, _, _⟩ :: _) _ _); refine wpList_alloc_Row rfl rfl zeroF zero27 ?_; intro w2 hr2 hc2 hs2; have HR2 := Lib.hid hr2; have HC2 := Lib.hid hc2; have HS2 := Lib.hid hs2; have q0 := (HR1.out.chg hc2 (fun h => h)).cell 0; rw [cF_0] at q0; clear hr2 hc2 hs2) | ((with_reducible show wpList _ _ _ (⟨some 5, .alloc _, _, _, _, _⟩ :: _) _ _); refine wpList_alloc_Row rfl rfl zeroF zero27 ?_; intro w3 hr3 hc3 hs3; have HR3 := Lib.hid hr3; have HC3 := Lib.hid hc3; have HS3 := Lib.hid hs3; clear hr3 hc3 hs3) | ((with_reducible show wpList _ _ _ (⟨none, .store 27 (.tmp 5) _, _, _, _, _⟩ :: _) _ _); refine wpList_store_Row (xs := cellsF { kind := f.kind, tok := List.replicate 16 0 } (.slice none 0 0) (.slice none 0 0)) rfl rfl rfl HR3.out rfl rfl size27 rfl ?_; intro w5 hr5 hcs5 hs5; have HR5 := Lib.hid hr5; have HC5 := Lib.hid (hcs5 (· = w2.heap.size) w3 (Chg.refl _ _) (fun _ => rfl)); clear hr5 hcs5 hs5))
  have HR2' := Lib.hid ((HR2.out.chg HC3.out (fun h => h)).chg HC5.out (fun (e : w1.heap.size = w2.heap.size) => by have := HS2.out; omega))
  have HR1' := Lib.hid (((HR1.out.chg HC2.out (fun h => h)).chg HC3.out (fun h => h)).chg HC5.out (fun (e : w.heap.size = w2.heap.size) => by have := HS2.out; have := HS1.out; omega))
  have HCW : Hid (Chg none_ w w5) := Lib.hid (((HC1.out.trans HC2.out).trans HC3.out).andThen HC5.out (fun b hb (e : b = w2.heap.size) => by have := HS2.out; have := HS1.out; omega))
  have hne1 : w.heap.size ≠ w2.heap.size := by have := HS2.out; have := HS1.out; omega
  have hne2 : w1.heap.size ≠ w2.heap.size := by have := HS2.out; omega
  have HG4 : Hid (w.heap.size ≤ w1.heap.size) := Lib.hid (by have := HS1.out; omega)
  have HG5 : Hid (w.heap.size ≤ w2.heap.size) := Lib.hid (by have := HS2.out; have := HS1.out; omega)
  clear HR1 HR2 HR3 HC1 HC2 HC3 HC5 HS1 HS2 HS3 q0
  obtain ⟨g2, hg2⟩ : ∃ g, g = w.heap.size := ⟨_, rfl⟩
  obtain ⟨g4, hg4⟩ : ∃ g, g = w1.heap.size := ⟨_, rfl⟩
  obtain ⟨g5, hg5⟩ : ∃ g, g = w2.heap.size := ⟨_, rfl⟩
  have HW2 := Lib.hid hg2
  rw [← hg4, ← hg2] at HG4
  rw [← hg5, ← hg2] at HG5
  rw [← hg2, ← hg5] at hne1
  rw [← hg4, ← hg5] at hne2
  rw [← hg2] at HR1'
  rw [← hg4] at HR2'
  rw [← hg5] at HR5
  rw [← hg2, ← hg4, ← hg5]
  clear hg2 hg4 hg5
  have HRE : Hid (Row _ g5 27 (cellsF { kind := f.kind, a := f.a, data := f.data, tok := List.replicate 16 0 } ((.slice A n c)) (.slice none 0 0))) := Lib.hid (((HR5.out).set 2 (.int .u64 (f.a : Nat))).set 6 ((.slice A n c)))
  have HCE5 : Chg (· = g5) w5 _ := ((Chg.refl (· = g5) w5).setCell (p := ⟨g5, 2, none⟩) (fun _ => rfl) (.int .u64 (f.a : Nat))).setCell (p := ⟨g5, 6, none⟩) (fun _ => rfl) ((.slice A n c))
  have HR4 := Lib.hid (HR2'.out.chg HCE5 hne2)
  have HCE := Lib.hid (HCW.out.andThen HCE5 (fun b hb e => by have := HG5.out; have := HW2.out; omega))
  clear HCE5
  have a2 := (HR1'.out.cell 2).trans (cF_2 f (.slice A n c) (.slice B m d))
  have b2 := HR5.out.cell 2
  simp only [cF_2] at b2
  have a6 := (HR1'.out.cell 6).trans (cF_6 f (.slice A n c) (.slice B m d))
  have b6 := HR5.out.cell 6
  simp only [cF_6] at b6
  have z5 := HR5.out.frozen
  have ix0 : ((({ data := #[97, 100] } : ByteArray)[0]).toNat : Int) = 97 := rfl
  have ix1 : ((({ data := #[97, 100] } : ByteArray)[1]).toNat : Int) = 100 := rfl
  refine wp_loop_rounds 3 ?_
  rw [rounds_succ]
  go_wp2
  rw [rounds_succ]
  go_wp2
  rw [rounds_succ]
  go_wp2_with (first | ((with_reducible show wpList _ _ _ (⟨some 59, .load _ _, _, _, _, _⟩ :: _) _ _); refine wpList_load_Row (cs := cellsF { kind := f.kind, a := f.a, data := f.data, tok := List.replicate 16 0 } ((.slice A n c)) (.slice none 0 0)) rfl rfl rfl HRE.out Tryd.underlying27 rfl (HSZ.out) ?_) | ((with_reducible show wpList _ _ _ (⟨none, .store 27 (.tmp 4) _, _, _, _, _⟩ :: _) _ _); refine wpList_store_Row (xs := cellsF { kind := f.kind, a := f.a, data := f.data, tok := List.replicate 16 0 } ((.slice A n c)) (.slice none 0 0)) rfl rfl rfl HR4.out rfl (HSL.out) (HSZ.out) HONE.out ?_; intro w9 hr9 hcs9 hs9; have HR9 := Lib.hid hr9; have HC9 := Lib.hid (hcs9 none_ w HCE.out (fun h => by have := HG4.out; have := HW2.out; omega)); clear hr9 hcs9 hs9))
  refine ret_row rfl rfl HR9.out Tryd.underlying27 rfl (HSZ.out) rfl ?_
  exact ⟨rfl, HC9.out⟩

set_option maxRecDepth 100000 in
set_option maxHeartbeats 4000000 in
theorem only_d (f : Fr) (A B : Option Addr) (n c m d : Nat) (ht : f.tok.length = 16) (w : World) :
    Calls Tryd.prog 18 #[.agg (cellsF f (.slice A n c) (.slice B m d)).toArray, .string ⟨#[100]⟩] w fun e w' => e = .returned (.agg (cellsF { kind := f.kind, data := f.data, tok := List.replicate 16 0 } ((.slice A n c)) (.slice none 0 0)).toArray) ∧ Chg none_ w w' := by
  have HTF := Lib.hid ht
  have HTK : Hid (({ kind := f.kind, data := f.data, tok := List.replicate 16 0 } : Fr).tok.length = 16) := Lib.hid (rfl)
  have HONE : Hid ((cellsF { kind := f.kind, data := f.data, tok := List.replicate 16 0 } ((.slice A n c)) (.slice none 0 0)).all (·.oneCell') = true) := Lib.hid (cells_oneF _ _ _ rfl rfl)
  have HSZ : Hid ((Tryd.prog.info? 27).map (·.size) = some (cellsF { kind := f.kind, data := f.data, tok := List.replicate 16 0 } ((.slice A n c)) (.slice none 0 0)).length) := Lib.hid (by rw [cF_len _ _ _ HTK.out]; exact size27)
  have HSL : Hid ((cellsF { kind := f.kind, data := f.data, tok := List.replicate 16 0 } ((.slice A n c)) (.slice none 0 0)).length = zeroF.length) := Lib.hid (by rw [cF_len _ _ _ HTK.out]; rfl)
  clear ht
  go_enter Tryd.func18, Tryd.ntmps18
  go_wp2_with (first | ((with_reducible show wpList _ _ _ (⟨some 2, .box _ _, _, _, _, _⟩ :: _) _ _); refine wpList_box_Row rfl rfl (cellsF f (.slice A n c) (.slice B m d)) rfl ?_; intro w1 hr1 hc1 hs1; have HR1 := Lib.hid hr1; have HC1 := Lib.hid hc1; have HS1 := Lib.hid hs1; have q0 := (hr1.cell 0).trans (cF_0 f (.slice A n c) (.slice B m d)); clear hr1 hc1 hs1) | ((with_reducible show wpList _ _ _ (⟨some 4, .alloc _, _, _, _, _⟩ :: _) _ _); refine wpList_alloc_Row rfl rfl zeroF zero27 ?_; intro w2 hr2 hc2 hs2; have HR2 := Lib.hid hr2; have HC2 := Lib.hid hc2; have HS2 := Lib.hid hs2; have q0 := (HR1.out.chg hc2 (fun h => h)).cell 0; rw [cF_0] at q0; clear hr2 hc2 hs2) | ((with_reducible show wpList _ _ _ (⟨some 5, .alloc _, _, _, _, _⟩ :: _) _ _); refine wpList_alloc_Row rfl rfl zeroF zero27 ?_; intro w3 hr3 hc3 hs3; have HR3 := Lib.hid hr3; have HC3 := Lib.hid hc3; have HS3 := Lib.hid hs3; clear hr3 hc3 hs3) | ((with_reducible show wpList _ _ _ (⟨none, .store 27 (.tmp 5) _, _, _, _, _⟩ :: _) _ _); refine wpList_store_Row (xs := cellsF { kind := f.kind, tok := List.replicate 16 0 } (.slice none 0 0) (.slice none 0 0)) rfl rfl rfl HR3.out rfl rfl size27 rfl ?_; intro w5 hr5 hcs5 hs5; have HR5 := Lib.hid hr5; have HC5 := Lib.hid (hcs5 (· = w2.heap.size) w3 (Chg.refl _ _) (fun _ => rfl)); clear hr5 hcs5 hs5))
  have HR2' := Lib.hid ((HR2.out.chg HC3.out (fun h => h)).chg HC5.out (fun (e : w1.heap.size = w2.heap.size) => by have := HS2.out; omega))
  have HR1' := Lib.hid (((HR1.out.chg HC2.out (fun h => h)).chg HC3.out (fun h => h)).chg HC5.out (fun (e : w.heap.size = w2.heap.size) => by have := HS2.out; have := HS1.out; omega))
  have HCW : Hid (Chg none_ w w5) := Lib.hid (((HC1.out.trans HC2.out).trans HC3.out).andThen HC5.out (fun b hb (e : b = w2.heap.size) => by have := HS2.out; have := HS1.out; omega))
  have hne1 : w.heap.size ≠ w2.heap.size := by have := HS2.out; have := HS1.out; omega
  have hne2 : w1.heap.size ≠ w2.heap.size := by have := HS2.out; omega
  have HG4 : Hid (w.heap.size ≤ w1.heap.size) := Lib.hid (by have := HS1.out; omega)
  have HG5 : Hid (w.heap.size ≤ w2.heap.size) := Lib.hid (by have := HS2.out; have := HS1.out; omega)
  clear HR1 HR2 HR3 HC1 HC2 HC3 HC5 HS1 HS2 HS3 q0
  obtain ⟨g2, hg2⟩ : ∃ g, g = w.heap.size := ⟨_, rfl⟩
  obtain ⟨g4, hg4⟩ : ∃ g, g = w1.heap.size := ⟨_, rfl⟩
  obtain ⟨g5, hg5⟩ : ∃ g, g = w2.heap.size := ⟨_, rfl⟩
  have HW2 := Lib.hid hg2
  rw [← hg4, ← hg2] at HG4
  rw [← hg5, ← hg2] at HG5
  rw [← hg2, ← hg5] at hne1
  rw [← hg4, ← hg5] at hne2
  rw [← hg2] at HR1'
  rw [← hg4] at HR2'
  rw [← hg5] at HR5
  rw [← hg2, ← hg4, ← hg5]
  clear hg2 hg4 hg5
  have HRE : Hid (Row _ g5 27 (cellsF { kind := f.kind, data := f.data, tok := List.replicate 16 0 } ((.slice A n c)) (.slice none 0 0))) := Lib.hid ((HR5.out).set 6 ((.slice A n c)))
  have HCE5 : Chg (· = g5) w5 _ := (Chg.refl (· = g5) w5).setCell (p := ⟨g5, 6, none⟩) (fun _ => rfl) ((.slice A n c))
  have HR4 := Lib.hid (HR2'.out.chg HCE5 hne2)
  have HCE := Lib.hid (HCW.out.andThen HCE5 (fun b hb e => by have := HG5.out; have := HW2.out; omega))
  clear HCE5
  have a6 := (HR1'.out.cell 6).trans (cF_6 f (.slice A n c) (.slice B m d))
  have b6 := HR5.out.cell 6
  simp only [cF_6] at b6
  have z5 := HR5.out.frozen
  have ix0 : ((({ data := #[100] } : ByteArray)[0]).toNat : Int) = 100 := rfl
  refine wp_loop_rounds 2 ?_
  rw [rounds_succ]
  go_wp2
  rw [rounds_succ]
  go_wp2_with (first | ((with_reducible show wpList _ _ _ (⟨some 59, .load _ _, _, _, _, _⟩ :: _) _ _); refine wpList_load_Row (cs := cellsF { kind := f.kind, data := f.data, tok := List.replicate 16 0 } ((.slice A n c)) (.slice none 0 0)) rfl rfl rfl HRE.out Tryd.underlying27 rfl (HSZ.out) ?_) | ((with_reducible show wpList _ _ _ (⟨none, .store 27 (.tmp 4) _, _, _, _, _⟩ :: _) _ _); refine wpList_store_Row (xs := cellsF { kind := f.kind, data := f.data, tok := List.replicate 16 0 } ((.slice A n c)) (.slice none 0 0)) rfl rfl rfl HR4.out rfl (HSL.out) (HSZ.out) HONE.out ?_; intro w9 hr9 hcs9 hs9; have HR9 := Lib.hid hr9; have HC9 := Lib.hid (hcs9 none_ w HCE.out (fun h => by have := HG4.out; have := HW2.out; omega)); clear hr9 hcs9 hs9))
  refine ret_row rfl rfl HR9.out Tryd.underlying27 rfl (HSZ.out) rfl ?_
  exact ⟨rfl, HC9.out⟩

set_option maxRecDepth 100000 in
set_option maxHeartbeats 4000000 in
theorem only_iafd (f : Fr) (A B : Option Addr) (n c m d : Nat) (ht : f.tok.length = 16) (w : World) :
    Calls Tryd.prog 18 #[.agg (cellsF f (.slice A n c) (.slice B m d)).toArray, .string ⟨#[105, 97, 102, 100]⟩] w fun e w' => e = .returned (.agg (cellsF { kind := f.kind, id := f.id, a := f.a, flag := f.flag, data := f.data, tok := List.replicate 16 0 } ((.slice A n c)) (.slice none 0 0)).toArray) ∧ Chg none_ w w' := by
  have HTF := Lib.hid ht
  have HTK : Hid (({ kind := f.kind, id := f.id, a := f.a, flag := f.flag, data := f.data, tok := List.replicate 16 0 } : Fr).tok.length = 16) := Lib.hid (rfl)
  have HONE : Hid ((cellsF { kind := f.kind, id := f.id, a := f.a, flag := f.flag, data := f.data, tok := List.replicate 16 0 } ((.slice A n c)) (.slice none 0 0)).all (·.oneCell') = true) := Lib.hid (cells_oneF _ _ _ rfl rfl)
  have HSZ : Hid ((Tryd.prog.info? 27).map (·.size) = some (cellsF { kind := f.kind, id := f.id, a := f.a, flag := f.flag, data := f.data, tok := List.replicate 16 0 } ((.slice A n c)) (.slice none 0 0)).length) := Lib.hid (by rw [cF_len _ _ _ HTK.out]; exact size27)
  have HSL : Hid ((cellsF { kind := f.kind, id := f.id, a := f.a, flag := f.flag, data := f.data, tok := List.replicate 16 0 } ((.slice A n c)) (.slice none 0 0)).length = zeroF.length) := Lib.hid (by rw [cF_len _ _ _ HTK.out]; rfl)
  clear ht
  go_enter Tryd.func18, Tryd.ntmps18
  go_wp2_with (first | ((with_reducible show wpList _ _ _ (⟨some 2, .box _ _, _, _, _, _⟩ :: _) _ _); refine wpList_box_Row rfl rfl (cellsF f (.slice A n c) (.slice B m d)) rfl ?_; intro w1 hr1 hc1 hs1; have HR1 := Lib.hid hr1; have HC1 := Lib.hid hc1; have HS1 := Lib.hid hs1; have q0 := (hr1.cell 0).trans (cF_0 f (.slice A n c) (.slice B m d)); clear hr1 hc1 hs1) | ((with_reducible show wpList _ _ _ (⟨some 4, .alloc _, _, _, _, _⟩ :: _) _ _); refine wpList_alloc_Row rfl rfl zeroF zero27 ?_; intro w2 hr2 hc2 hs2; have HR2 := Lib.hid hr2; have HC2 := Lib.hid hc2; have HS2 := Lib.hid hs2; have q0 := (HR1.out.chg hc2 (fun h => h)).cell 0; rw [cF_0] at q0; clear hr2 hc2 hs2) | ((with_reducible show wpList _ _ _ (⟨some 5, .alloc _, _, _, _, _⟩ :: _) _ _); refine wpList_alloc_Row rfl rfl zeroF zero27 ?_; intro w3 hr3 hc3 hs3; have HR3 := Lib.hid hr3; have HC3 := Lib.hid hc3; have HS3 := Lib.hid hs3; clear hr3 hc3 hs3) | ((with_reducible show wpList _ _ _ (⟨none, .store 27 (.tmp 5) _, _, _, _, _⟩ :: _) _ _); refine wpList_store_Row (xs := cellsF { kind := f.kind, tok := List.replicate 16 0 } (.slice none 0 0) (.slice none 0 0)) rfl rfl rfl HR3.out rfl rfl size27 rfl ?_; intro w5 hr5 hcs5 hs5; have HR5 := Lib.hid hr5; have HC5 := Lib.hid (hcs5 (· = w2.heap.size) w3 (Chg.refl _ _) (fun _ => rfl)); clear hr5 hcs5 hs5))
  have HR2' := Lib.hid ((HR2.out.chg HC3.out (fun h => h)).chg HC5.out (fun (e : w1.heap.size = w2.heap.size) => by have := HS2.out; omega))
  have HR1' := Lib.hid (((HR1.out.chg HC2.out (fun h => h)).chg HC3.out (fun h => h)).chg HC5.out (fun (e : w.heap.size = w2.heap.size) => by have := HS2.out; have := HS1.out; omega))
  have HCW : Hid (Chg none_ w w5) := Lib.hid (((HC1.out.trans HC2.out).trans HC3.out).andThen HC5.out (fun b hb (e : b = w2.heap.size) => by have := HS2.out; have := HS1.out; omega))
  have hne1 : w.heap.size ≠ w2.heap.size := by have := HS2.out; have := HS1.out; omega
  have hne2 : w1.heap.size ≠ w2.heap.size := by have := HS2.out; omega
  have HG4 : Hid (w.heap.size ≤ w1.heap.size) := Lib.hid (by have := HS1.out; omega)
  have HG5 : Hid (w.heap.size ≤ w2.heap.size) := Lib.hid (by have := HS2.out; have := HS1.out; omega)
  clear HR1 HR2 HR3 HC1 HC2 HC3 HC5 HS1 HS2 HS3 q0
  obtain ⟨g2, hg2⟩ : ∃ g, g = w.heap.size := ⟨_, rfl⟩
  obtain ⟨g4, hg4⟩ : ∃ g, g = w1.heap.size := ⟨_, rfl⟩
  obtain ⟨g5, hg5⟩ : ∃ g, g = w2.heap.size := ⟨_, rfl⟩
  have HW2 := Lib.hid hg2
  rw [← hg4, ← hg2] at HG4
  rw [← hg5, ← hg2] at HG5
  rw [← hg2, ← hg5] at hne1
  rw [← hg4, ← hg5] at hne2
  rw [← hg2] at HR1'
  rw [← hg4] at HR2'
  rw [← hg5] at HR5
  rw [← hg2, ← hg4, ← hg5]
  clear hg2 hg4 hg5
  have HRE : Hid (Row _ g5 27 (cellsF { kind := f.kind, id := f.id, a := f.a, flag := f.flag, data := f.data, tok := List.replicate 16 0 } ((.slice A n c)) (.slice none 0 0))) := Lib.hid (((((HR5.out).set 1 (.int .u64 (f.id : Nat))).set 2 (.int .u64 (f.a : Nat))).set 5 (.bool f.flag)).set 6 ((.slice A n c)))
  have HCE5 : Chg (· = g5) w5 _ := ((((Chg.refl (· = g5) w5).setCell (p := ⟨g5, 1, none⟩) (fun _ => rfl) (.int .u64 (f.id : Nat))).setCell (p := ⟨g5, 2, none⟩) (fun _ => rfl) (.int .u64 (f.a : Nat))).setCell (p := ⟨g5, 5, none⟩) (fun _ => rfl) (.bool f.flag)).setCell (p := ⟨g5, 6, none⟩) (fun _ => rfl) ((.slice A n c))
  have HR4 := Lib.hid (HR2'.out.chg HCE5 hne2)
  have HCE := Lib.hid (HCW.out.andThen HCE5 (fun b hb e => by have := HG5.out; have := HW2.out; omega))
  clear HCE5
  have a1 := (HR1'.out.cell 1).trans (cF_1 f (.slice A n c) (.slice B m d))
  have b1 := HR5.out.cell 1
  simp only [cF_1] at b1
  have a2 := (HR1'.out.cell 2).trans (cF_2 f (.slice A n c) (.slice B m d))
  have b2 := HR5.out.cell 2
  simp only [cF_2] at b2
  have a5 := (HR1'.out.cell 5).trans (cF_5 f (.slice A n c) (.slice B m d))
  have b5 := HR5.out.cell 5
  simp only [cF_5] at b5
  have a6 := (HR1'.out.cell 6).trans (cF_6 f (.slice A n c) (.slice B m d))
  have b6 := HR5.out.cell 6
  simp only [cF_6] at b6
  have z5 := HR5.out.frozen
  have ix0 : ((({ data := #[105, 97, 102, 100] } : ByteArray)[0]).toNat : Int) = 105 := rfl
  have ix1 : ((({ data := #[105, 97, 102, 100] } : ByteArray)[1]).toNat : Int) = 97 := rfl
  have ix2 : ((({ data := #[105, 97, 102, 100] } : ByteArray)[2]).toNat : Int) = 102 := rfl
  have ix3 : ((({ data := #[105, 97, 102, 100] } : ByteArray)[3]).toNat : Int) = 100 := rfl
  refine wp_loop_rounds 5 ?_
  rw [rounds_succ]
  go_wp2
  rw [rounds_succ]
  go_wp2
  rw [rounds_succ]
  go_wp2
  rw [rounds_succ]
  go_wp2
  rw [rounds_succ]
  go_wp2_with (first | ((with_reducible show wpList _ _ _ (⟨some 59, .load _ _, _, _, _, _⟩ :: _) _ _); refine wpList_load_Row (cs := cellsF { kind := f.kind, id := f.id, a := f.a, flag := f.flag, data := f.data, tok := List.replicate 16 0 } ((.slice A n c)) (.slice none 0 0)) rfl rfl rfl HRE.out Tryd.underlying27 rfl (HSZ.out) ?_) | ((with_reducible show wpList _ _ _ (⟨none, .store 27 (.tmp 4) _, _, _, _, _⟩ :: _) _ _); refine wpList_store_Row (xs := cellsF { kind := f.kind, id := f.id, a := f.a, flag := f.flag, data := f.data, tok := List.replicate 16 0 } ((.slice A n c)) (.slice none 0 0)) rfl rfl rfl HR4.out rfl (HSL.out) (HSZ.out) HONE.out ?_; intro w9 hr9 hcs9 hs9; have HR9 := Lib.hid hr9; have HC9 := Lib.hid (hcs9 none_ w HCE.out (fun h => by have := HG4.out; have := HW2.out; omega)); clear hr9 hcs9 hs9))
  refine ret_row rfl rfl HR9.out Tryd.underlying27 rfl (HSZ.out) rfl ?_
  exact ⟨rfl, HC9.out⟩

set_option maxRecDepth 100000 in
set_option maxHeartbeats 4000000 in
theorem only_ia (f : Fr) (A B : Option Addr) (n c m d : Nat) (ht : f.tok.length = 16) (w : World) :
    Calls Tryd.prog 18 #[.agg (cellsF f (.slice A n c) (.slice B m d)).toArray, .string ⟨#[105, 97]⟩] w fun e w' => e = .returned (.agg (cellsF { kind := f.kind, id := f.id, a := f.a, tok := List.replicate 16 0 } (.slice none 0 0) (.slice none 0 0)).toArray) ∧ Chg none_ w w' := by
  have HTF := Lib.hid ht
  have HTK : Hid (({ kind := f.kind, id := f.id, a := f.a, tok := List.replicate 16 0 } : Fr).tok.length = 16) := Lib.hid (rfl)
  have HONE : Hid ((cellsF { kind := f.kind, id := f.id, a := f.a, tok := List.replicate 16 0 } (.slice none 0 0) (.slice none 0 0)).all (·.oneCell') = true) := Lib.hid (cells_oneF _ _ _ rfl rfl)
  have HSZ : Hid ((Tryd.prog.info? 27).map (·.size) = some (cellsF { kind := f.kind, id := f.id, a := f.a, tok := List.replicate 16 0 } (.slice none 0 0) (.slice none 0 0)).length) := Lib.hid (by rw [cF_len _ _ _ HTK.out]; exact size27)
  have HSL : Hid ((cellsF { kind := f.kind, id := f.id, a := f.a, tok := List.replicate 16 0 } (.slice none 0 0) (.slice none 0 0)).length = zeroF.length) := Lib.hid (by rw [cF_len _ _ _ HTK.out]; rfl)
  clear ht
  go_enter Tryd.func18, Tryd.ntmps18
  go_wp2_with (first | ((with_reducible show wpList _ _ _ (⟨some 2, .box _ _, _, _, _, _⟩ :: _) _ _); refine wpList_box_Row rfl rfl (cellsF f (.slice A n c) (.slice B m d)) rfl ?_; intro w1 hr1 hc1 hs1; have HR1 := Lib.hid hr1; have HC1 := Lib.hid hc1; have HS1 := Lib.hid hs1; have q0 := (hr1.cell 0).trans (cF_0 f (.slice A n c) (.slice B m d)); clear hr1 hc1 hs1) | ((with_reducible show wpList _ _ _ (⟨some 4, .alloc _, _, _, _, _⟩ :: _) _ _); refine wpList_alloc_Row rfl rfl zeroF zero27 ?_; intro w2 hr2 hc2 hs2; have HR2 := Lib.hid hr2; have HC2 := Lib.hid hc2; have HS2 := Lib.hid hs2; have q0 := (HR1.out.chg hc2 (fun h => h)).cell 0; rw [cF_0] at q0; clear hr2 hc2 hs2) | ((with_reducible show wpList _ _ _ (⟨some 5, .alloc _, _, _, _, _⟩ :: _) _ _); refine wpList_alloc_Row rfl rfl zeroF zero27 ?_; intro w3 hr3 hc3 hs3; have HR3 := Lib.hid hr3; have HC3 := Lib.hid hc3; have HS3 := Lib.hid hs3; clear hr3 hc3 hs3) | ((with_reducible show wpList _ _ _ (⟨none, .store 27 (.tmp 5) _, _, _, _, _⟩ :: _) _ _); refine wpList_store_Row (xs := cellsF { kind := f.kind, tok := List.replicate 16 0 } (.slice none 0 0) (.slice none 0 0)) rfl rfl rfl HR3.out rfl rfl size27 rfl ?_; intro w5 hr5 hcs5 hs5; have HR5 := Lib.hid hr5; have HC5 := Lib.hid (hcs5 (· = w2.heap.size) w3 (Chg.refl _ _) (fun _ => rfl)); clear hr5 hcs5 hs5))
  have HR2' := Lib.hid ((HR2.out.chg HC3.out (fun h => h)).chg HC5.out (fun (e : w1.heap.size = w2.heap.size) => by have := HS2.out; omega))
  have HR1' := Lib.hid (((HR1.out.chg HC2.out (fun h => h)).chg HC3.out (fun h => h)).chg HC5.out (fun (e : w.heap.size = w2.heap.size) => by have := HS2.out; have := HS1.out; omega))
  have HCW : Hid (Chg none_ w w5) := Lib.hid (((HC1.out.trans HC2.out).trans HC3.out).andThen HC5.out (fun b hb (e : b = w2.heap.size) => by have := HS2.out; have := HS1.out; omega))
  have hne1 : w.heap.size ≠ w2.heap.size := by have := HS2.out; have := HS1.out; omega
  have hne2 : w1.heap.size ≠ w2.heap.size := by have := HS2.out; omega
  have HG4 : Hid (w.heap.size ≤ w1.heap.size) := Lib.hid (by have := HS1.out; omega)
  have HG5 : Hid (w.heap.size ≤ w2.heap.size) := Lib.hid (by have := HS2.out; have := HS1.out; omega)
  clear HR1 HR2 HR3 HC1 HC2 HC3 HC5 HS1 HS2 HS3 q0
  obtain ⟨g2, hg2⟩ : ∃ g, g = w.heap.size := ⟨_, rfl⟩
  obtain ⟨g4, hg4⟩ : ∃ g, g = w1.heap.size := ⟨_, rfl⟩
  obtain ⟨g5, hg5⟩ : ∃ g, g = w2.heap.size := ⟨_, rfl⟩
  have HW2 := Lib.hid hg2
  rw [← hg4, ← hg2] at HG4
  rw [← hg5, ← hg2] at HG5
  rw [← hg2, ← hg5] at hne1
  rw [← hg4, ← hg5] at hne2
  rw [← hg2] at HR1'
  rw [← hg4] at HR2'
  rw [← hg5] at HR5
  rw [← hg2, ← hg4, ← hg5]
  clear hg2 hg4 hg5
  have HRE : Hid (Row _ g5 27 (cellsF { kind := f.kind, id := f.id, a := f.a, tok := List.replicate 16 0 } (.slice none 0 0) (.slice none 0 0))) := Lib.hid (((HR5.out).set 1 (.int .u64 (f.id : Nat))).set 2 (.int .u64 (f.a : Nat)))
  have HCE5 : Chg (· = g5) w5 _ := ((Chg.refl (· = g5) w5).setCell (p := ⟨g5, 1, none⟩) (fun _ => rfl) (.int .u64 (f.id : Nat))).setCell (p := ⟨g5, 2, none⟩) (fun _ => rfl) (.int .u64 (f.a : Nat))
  have HR4 := Lib.hid (HR2'.out.chg HCE5 hne2)
  have HCE := Lib.hid (HCW.out.andThen HCE5 (fun b hb e => by have := HG5.out; have := HW2.out; omega))
  clear HCE5
  have a1 := (HR1'.out.cell 1).trans (cF_1 f (.slice A n c) (.slice B m d))
  have b1 := HR5.out.cell 1
  simp only [cF_1] at b1
  have a2 := (HR1'.out.cell 2).trans (cF_2 f (.slice A n c) (.slice B m d))
  have b2 := HR5.out.cell 2
  simp only [cF_2] at b2
  have z5 := HR5.out.frozen
  have ix0 : ((({ data := #[105, 97] } : ByteArray)[0]).toNat : Int) = 105 := rfl
  have ix1 : ((({ data := #[105, 97] } : ByteArray)[1]).toNat : Int) = 97 := rfl
  refine wp_loop_rounds 3 ?_
  rw [rounds_succ]
  go_wp2
  rw [rounds_succ]
  go_wp2
  rw [rounds_succ]
  go_wp2_with (first | ((with_reducible show wpList _ _ _ (⟨some 59, .load _ _, _, _, _, _⟩ :: _) _ _); refine wpList_load_Row (cs := cellsF { kind := f.kind, id := f.id, a := f.a, tok := List.replicate 16 0 } (.slice none 0 0) (.slice none 0 0)) rfl rfl rfl HRE.out Tryd.underlying27 rfl (HSZ.out) ?_) | ((with_reducible show wpList _ _ _ (⟨none, .store 27 (.tmp 4) _, _, _, _, _⟩ :: _) _ _); refine wpList_store_Row (xs := cellsF { kind := f.kind, id := f.id, a := f.a, tok := List.replicate 16 0 } (.slice none 0 0) (.slice none 0 0)) rfl rfl rfl HR4.out rfl (HSL.out) (HSZ.out) HONE.out ?_; intro w9 hr9 hcs9 hs9; have HR9 := Lib.hid hr9; have HC9 := Lib.hid (hcs9 none_ w HCE.out (fun h => by have := HG4.out; have := HW2.out; omega)); clear hr9 hcs9 hs9))
  refine ret_row rfl rfl HR9.out Tryd.underlying27 rfl (HSZ.out) rfl ?_
  exact ⟨rfl, HC9.out⟩

set_option maxRecDepth 100000 in
set_option maxHeartbeats 4000000 in
theorem only_af (f : Fr) (A B : Option Addr) (n c m d : Nat) (ht : f.tok.length = 16) (w : World) :
    Calls Tryd.prog 18 #[.agg (cellsF f (.slice A n c) (.slice B m d)).toArray, .string ⟨#[97, 102]⟩] w fun e w' => e = .returned (.agg (cellsF { kind := f.kind, a := f.a, flag := f.flag, tok := List.replicate 16 0 } (.slice none 0 0) (.slice none 0 0)).toArray) ∧ Chg none_ w w' := by
  have HTF := Lib.hid ht
  have HTK : Hid (({ kind := f.kind, a := f.a, flag := f.flag, tok := List.replicate 16 0 } : Fr).tok.length = 16) := Lib.hid (rfl)
  have HONE : Hid ((cellsF { kind := f.kind, a := f.a, flag := f.flag, tok := List.replicate 16 0 } (.slice none 0 0) (.slice none 0 0)).all (·.oneCell') = true) := Lib.hid (cells_oneF _ _ _ rfl rfl)
  have HSZ : Hid ((Tryd.prog.info? 27).map (·.size) = some (cellsF { kind := f.kind, a := f.a, flag := f.flag, tok := List.replicate 16 0 } (.slice none 0 0) (.slice none 0 0)).length) := Lib.hid (by rw [cF_len _ _ _ HTK.out]; exact size27)
  have HSL : Hid ((cellsF { kind := f.kind, a := f.a, flag := f.flag, tok := List.replicate 16 0 } (.slice none 0 0) (.slice none 0 0)).length = zeroF.length) := Lib.hid (by rw [cF_len _ _ _ HTK.out]; rfl)
  clear ht
  go_enter Tryd.func18, Tryd.ntmps18
  go_wp2_with (first | ((with_reducible show wpList _ _ _ (⟨some 2, .box _ _, _, _, _, _⟩ :: _) _ _); refine wpList_box_Row rfl rfl (cellsF f (.slice A n c) (.slice B m d)) rfl ?_; intro w1 hr1 hc1 hs1; have HR1 := Lib.hid hr1; have HC1 := Lib.hid hc1; have HS1 := Lib.hid hs1; have q0 := (hr1.cell 0).trans (cF_0 f (.slice A n c) (.slice B m d)); clear hr1 hc1 hs1) | ((with_reducible show wpList _ _ _ (⟨some 4, .alloc _, _, _, _, _⟩ :: _) _ _); refine wpList_alloc_Row rfl rfl zeroF zero27 ?_; intro w2 hr2 hc2 hs2; have HR2 := Lib.hid hr2; have HC2 := Lib.hid hc2; have HS2 := Lib.hid hs2; have q0 := (HR1.out.chg hc2 (fun h => h)).cell 0; rw [cF_0] at q0; clear hr2 hc2 hs2) | ((with_reducible show wpList _ _ _ (⟨some 5, .alloc _, _, _, _, _⟩ :: _) _ _); refine wpList_alloc_Row rfl rfl zeroF zero27 ?_; intro w3 hr3 hc3 hs3; have HR3 := Lib.hid hr3; have HC3 := Lib.hid hc3; have HS3 := Lib.hid hs3; clear hr3 hc3 hs3) | ((with_reducible show wpList _ _ _ (⟨none, .store 27 (.tmp 5) _, _, _, _, _⟩ :: _) _ _); refine wpList_store_Row (xs := cellsF { kind := f.kind, tok := List.replicate 16 0 } (.slice none 0 0) (.slice none 0 0)) rfl rfl rfl HR3.out rfl rfl size27 rfl ?_; intro w5 hr5 hcs5 hs5; have HR5 := Lib.hid hr5; have HC5 := Lib.hid (hcs5 (· = w2.heap.size) w3 (Chg.refl _ _) (fun _ => rfl)); clear hr5 hcs5 hs5))
  have HR2' := Lib.hid ((HR2.out.chg HC3.out (fun h => h)).chg HC5.out (fun (e : w1.heap.size = w2.heap.size) => by have := HS2.out; omega))
  have HR1' := Lib.hid (((HR1.out.chg HC2.out (fun h => h)).chg HC3.out (fun h => h)).chg HC5.out (fun (e : w.heap.size = w2.heap.size) => by have := HS2.out; have := HS1.out; omega))
  have HCW : Hid (Chg none_ w w5) := Lib.hid (((HC1.out.trans HC2.out).trans HC3.out).andThen HC5.out (fun b hb (e : b = w2.heap.size) => by have := HS2.out; have := HS1.out; omega))
  have hne1 : w.heap.size ≠ w2.heap.size := by have := HS2.out; have := HS1.out; omega
  have hne2 : w1.heap.size ≠ w2.heap.size := by have := HS2.out; omega
  have HG4 : Hid (w.heap.size ≤ w1.heap.size) := Lib.hid (by have := HS1.out; omega)
  have HG5 : Hid (w.heap.size ≤ w2.heap.size) := Lib.hid (by have := HS2.out; have := HS1.out; omega)
  clear HR1 HR2 HR3 HC1 HC2 HC3 HC5 HS1 HS2 HS3 q0
  obtain ⟨g2, hg2⟩ : ∃ g, g = w.heap.size := ⟨_, rfl⟩
  obtain ⟨g4, hg4⟩ : ∃ g, g = w1.heap.size := ⟨_, rfl⟩
  obtain ⟨g5, hg5⟩ : ∃ g, g = w2.heap.size := ⟨_, rfl⟩
  have HW2 := Lib.hid hg2
  rw [← hg4, ← hg2] at HG4
  rw [← hg5, ← hg2] at HG5
  rw [← hg2, ← hg5] at hne1
  rw [← hg4, ← hg5] at hne2
  rw [← hg2] at HR1'
  rw [← hg4] at HR2'
  rw [← hg5] at HR5
  rw [← hg2, ← hg4, ← hg5]
  clear hg2 hg4 hg5
  have HRE : Hid (Row _ g5 27 (cellsF { kind := f.kind, a := f.a, flag := f.flag, tok := List.replicate 16 0 } (.slice none 0 0) (.slice none 0 0))) := Lib.hid (((HR5.out).set 2 (.int .u64 (f.a : Nat))).set 5 (.bool f.flag))
  have HCE5 : Chg (· = g5) w5 _ := ((Chg.refl (· = g5) w5).setCell (p := ⟨g5, 2, none⟩) (fun _ => rfl) (.int .u64 (f.a : Nat))).setCell (p := ⟨g5, 5, none⟩) (fun _ => rfl) (.bool f.flag)
  have HR4 := Lib.hid (HR2'.out.chg HCE5 hne2)
  have HCE := Lib.hid (HCW.out.andThen HCE5 (fun b hb e => by have := HG5.out; have := HW2.out; omega))
  clear HCE5
  have a2 := (HR1'.out.cell 2).trans (cF_2 f (.slice A n c) (.slice B m d))
  have b2 := HR5.out.cell 2
  simp only [cF_2] at b2
  have a5 := (HR1'.out.cell 5).trans (cF_5 f (.slice A n c) (.slice B m d))
  have b5 := HR5.out.cell 5
  simp only [cF_5] at b5
  have z5 := HR5.out.frozen
  have ix0 : ((({ data := #[97, 102] } : ByteArray)[0]).toNat : Int) = 97 := rfl
  have ix1 : ((({ data := #[97, 102] } : ByteArray)[1]).toNat : Int) = 102 := rfl
  refine wp_loop_rounds 3 ?_
  rw [rounds_succ]
  go_wp2
  rw [rounds_succ]
  go_wp2
  rw [rounds_succ]
  go_wp2_with (first | ((with_reducible show wpList _ _ _ (⟨some 59, .load _ _, _, _, _, _⟩ :: _) _ _); refine wpList_load_Row (cs := cellsF { kind := f.kind, a := f.a, flag := f.flag, tok := List.replicate 16 0 } (.slice none 0 0) (.slice none 0 0)) rfl rfl rfl HRE.out Tryd.underlying27 rfl (HSZ.out) ?_) | ((with_reducible show wpList _ _ _ (⟨none, .store 27 (.tmp 4) _, _, _, _, _⟩ :: _) _ _); refine wpList_store_Row (xs := cellsF { kind := f.kind, a := f.a, flag := f.flag, tok := List.replicate 16 0 } (.slice none 0 0) (.slice none 0 0)) rfl rfl rfl HR4.out rfl (HSL.out) (HSZ.out) HONE.out ?_; intro w9 hr9 hcs9 hs9; have HR9 := Lib.hid hr9; have HC9 := Lib.hid (hcs9 none_ w HCE.out (fun h => by have := HG4.out; have := HW2.out; omega)); clear hr9 hcs9 hs9))
  refine ret_row rfl rfl HR9.out Tryd.underlying27 rfl (HSZ.out) rfl ?_
  exact ⟨rfl, HC9.out⟩

set_option maxRecDepth 100000 in
set_option maxHeartbeats 4000000 in
theorem only_iadt (f : Fr) (A B : Option Addr) (n c m d : Nat) (ht : f.tok.length = 16) (w : World) :
    Calls Tryd.prog 18 #[.agg (cellsF f (.slice A n c) (.slice B m d)).toArray, .string ⟨#[105, 97, 100, 116]⟩] w fun e w' => e = .returned (.agg (cellsF { kind := f.kind, id := f.id, a := f.a, data := f.data, tok := f.tok } ((.slice A n c)) (.slice none 0 0)).toArray) ∧ Chg none_ w w' := by
  have HTF := Lib.hid ht
  have HTK : Hid (({ kind := f.kind, id := f.id, a := f.a, data := f.data, tok := f.tok } : Fr).tok.length = 16) := Lib.hid (ht)
  have HONE : Hid ((cellsF { kind := f.kind, id := f.id, a := f.a, data := f.data, tok := f.tok } ((.slice A n c)) (.slice none 0 0)).all (·.oneCell') = true) := Lib.hid (cells_oneF _ _ _ rfl rfl)
  have HSZ : Hid ((Tryd.prog.info? 27).map (·.size) = some (cellsF { kind := f.kind, id := f.id, a := f.a, data := f.data, tok := f.tok } ((.slice A n c)) (.slice none 0 0)).length) := Lib.hid (by rw [cF_len _ _ _ HTK.out]; exact size27)
  have HSL : Hid ((cellsF { kind := f.kind, id := f.id, a := f.a, data := f.data, tok := f.tok } ((.slice A n c)) (.slice none 0 0)).length = zeroF.length) := Lib.hid (by rw [cF_len _ _ _ HTK.out]; rfl)
  clear ht
  go_enter Tryd.func18, Tryd.ntmps18
  go_wp2_with (first | ((with_reducible show wpList _ _ _ (⟨some 2, .box _ _, _, _, _, _⟩ :: _) _ _); refine wpList_box_Row rfl rfl (cellsF f (.slice A n c) (.slice B m d)) rfl ?_; intro w1 hr1 hc1 hs1; have HR1 := Lib.hid hr1; have HC1 := Lib.hid hc1; have HS1 := Lib.hid hs1; have q0 := (hr1.cell 0).trans (cF_0 f (.slice A n c) (.slice B m d)); clear hr1 hc1 hs1) | ((with_reducible show wpList _ _ _ (⟨some 4, .alloc _, _, _, _, _⟩ :: _) _ _); refine wpList_alloc_Row rfl rfl zeroF zero27 ?_; intro w2 hr2 hc2 hs2; have HR2 := Lib.hid hr2; have HC2 := Lib.hid hc2; have HS2 := Lib.hid hs2; have q0 := (HR1.out.chg hc2 (fun h => h)).cell 0; rw [cF_0] at q0; clear hr2 hc2 hs2) | ((with_reducible show wpList _ _ _ (⟨some 5, .alloc _, _, _, _, _⟩ :: _) _ _); refine wpList_alloc_Row rfl rfl zeroF zero27 ?_; intro w3 hr3 hc3 hs3; have HR3 := Lib.hid hr3; have HC3 := Lib.hid hc3; have HS3 := Lib.hid hs3; clear hr3 hc3 hs3) | ((with_reducible show wpList _ _ _ (⟨none, .store 27 (.tmp 5) _, _, _, _, _⟩ :: _) _ _); refine wpList_store_Row (xs := cellsF { kind := f.kind, tok := List.replicate 16 0 } (.slice none 0 0) (.slice none 0 0)) rfl rfl rfl HR3.out rfl rfl size27 rfl ?_; intro w5 hr5 hcs5 hs5; have HR5 := Lib.hid hr5; have HC5 := Lib.hid (hcs5 (· = w2.heap.size) w3 (Chg.refl _ _) (fun _ => rfl)); clear hr5 hcs5 hs5))
  have HR2' := Lib.hid ((HR2.out.chg HC3.out (fun h => h)).chg HC5.out (fun (e : w1.heap.size = w2.heap.size) => by have := HS2.out; omega))
  have HR1' := Lib.hid (((HR1.out.chg HC2.out (fun h => h)).chg HC3.out (fun h => h)).chg HC5.out (fun (e : w.heap.size = w2.heap.size) => by have := HS2.out; have := HS1.out; omega))
  have HCW : Hid (Chg none_ w w5) := Lib.hid (((HC1.out.trans HC2.out).trans HC3.out).andThen HC5.out (fun b hb (e : b = w2.heap.size) => by have := HS2.out; have := HS1.out; omega))
  have hne1 : w.heap.size ≠ w2.heap.size := by have := HS2.out; have := HS1.out; omega
  have hne2 : w1.heap.size ≠ w2.heap.size := by have := HS2.out; omega
  have HG4 : Hid (w.heap.size ≤ w1.heap.size) := Lib.hid (by have := HS1.out; omega)
  have HG5 : Hid (w.heap.size ≤ w2.heap.size) := Lib.hid (by have := HS2.out; have := HS1.out; omega)
  clear HR1 HR2 HR3 HC1 HC2 HC3 HC5 HS1 HS2 HS3 q0
  obtain ⟨g2, hg2⟩ : ∃ g, g = w.heap.size := ⟨_, rfl⟩
  obtain ⟨g4, hg4⟩ : ∃ g, g = w1.heap.size := ⟨_, rfl⟩
  obtain ⟨g5, hg5⟩ : ∃ g, g = w2.heap.size := ⟨_, rfl⟩
  have HW2 := Lib.hid hg2
  rw [← hg4, ← hg2] at HG4
  rw [← hg5, ← hg2] at HG5
  rw [← hg2, ← hg5] at hne1
  rw [← hg4, ← hg5] at hne2
  rw [← hg2] at HR1'
  rw [← hg4] at HR2'
  rw [← hg5] at HR5
  rw [← hg2, ← hg4, ← hg5]
  clear hg2 hg4 hg5
  have HRE : Hid (Row _ g5 27 (cellsF { kind := f.kind, id := f.id, a := f.a, data := f.data, tok := List.replicate 16 0 } ((.slice A n c)) (.slice none 0 0))) := Lib.hid ((((HR5.out).set 1 (.int .u64 (f.id : Nat))).set 2 (.int .u64 (f.a : Nat))).set 6 ((.slice A n c)))
  have HCE5 : Chg (· = g5) w5 _ := (((Chg.refl (· = g5) w5).setCell (p := ⟨g5, 1, none⟩) (fun _ => rfl) (.int .u64 (f.id : Nat))).setCell (p := ⟨g5, 2, none⟩) (fun _ => rfl) (.int .u64 (f.a : Nat))).setCell (p := ⟨g5, 6, none⟩) (fun _ => rfl) ((.slice A n c))
  have HR4 := Lib.hid (HR2'.out.chg HCE5 hne2)
  have HCE := Lib.hid (HCW.out.andThen HCE5 (fun b hb e => by have := HG5.out; have := HW2.out; omega))
  have HRT := Lib.hid (tok_range (HR1'.out.chg HCE5 hne1))
  clear HCE5
  have a1 := (HR1'.out.cell 1).trans (cF_1 f (.slice A n c) (.slice B m d))
  have b1 := HR5.out.cell 1
  simp only [cF_1] at b1
  have a2 := (HR1'.out.cell 2).trans (cF_2 f (.slice A n c) (.slice B m d))
  have b2 := HR5.out.cell 2
  simp only [cF_2] at b2
  have a6 := (HR1'.out.cell 6).trans (cF_6 f (.slice A n c) (.slice B m d))
  have b6 := HR5.out.cell 6
  simp only [cF_6] at b6
  have z5 := HR5.out.frozen
  have ix0 : ((({ data := #[105, 97, 100, 116] } : ByteArray)[0]).toNat : Int) = 105 := rfl
  have ix1 : ((({ data := #[105, 97, 100, 116] } : ByteArray)[1]).toNat : Int) = 97 := rfl
  have ix2 : ((({ data := #[105, 97, 100, 116] } : ByteArray)[2]).toNat : Int) = 100 := rfl
  have ix3 : ((({ data := #[105, 97, 100, 116] } : ByteArray)[3]).toNat : Int) = 116 := rfl
  refine wp_loop_rounds 5 ?_
  have HREP : Hid (Row _ g5 27 ([.int .i64 f.kind, .int .u64 (f.id : Nat), .int .u64 (f.a : Nat), .int .u64 ((0 : Nat) : Int), .int .u64 ((0 : Nat) : Int), .bool false, (.slice A n c), .slice none 0 0] ++ u8s (List.replicate 16 0) ++ [])) := Lib.hid (by have := HRE.out; simpa [cellsF] using this)
  have HU1 : Hid ((u8s f.tok).all (·.oneCell') = true) := Lib.hid (by simpa using fun u hu => u8s_one _ u hu)
  have rowtok : ∀ {w7 : World}, Row w7 g5 27 ([.int .i64 f.kind, .int .u64 (f.id : Nat), .int .u64 (f.a : Nat), .int .u64 ((0 : Nat) : Int), .int .u64 ((0 : Nat) : Int), .bool false, (.slice A n c), .slice none 0 0] ++ u8s f.tok ++ []) → Row w7 g5 27 (cellsF { kind := f.kind, id := f.id, a := f.a, data := f.data, tok := f.tok } ((.slice A n c)) (.slice none 0 0)) := fun h => by simpa [cellsF] using h
  rw [rounds_succ]
  go_wp2
  rw [rounds_succ]
  go_wp2
  rw [rounds_succ]
  go_wp2
  rw [rounds_succ]
  go_wp2_with (first | ((with_reducible show wpList _ _ _ (⟨some 57, .load 25 _, _, _, _, _⟩ :: _) _ _); refine wl25 rfl rfl rfl HRT.out HTF.out ?_) | ((with_reducible show wpList _ _ _ (⟨none, .store 25 _ _, _, _, _, _⟩ :: _) _ _); refine wpList_store_Mid (pre := [.int .i64 f.kind, .int .u64 (f.id : Nat), .int .u64 (f.a : Nat), .int .u64 ((0 : Nat) : Int), .int .u64 ((0 : Nat) : Int), .bool false, (.slice A n c), .slice none 0 0]) (ys := u8s (List.replicate 16 0)) (post := []) (xs := u8s f.tok) rfl rfl rfl HREP.out rfl (by rw [u8s_length, u8s_length, HTF.out]; rfl) (by rw [u8s_length, HTF.out]; exact size25) HU1.out ?_; intro w7 hr7 hcs7 hs7; have HRE : Hid (Row w7 g5 27 (cellsF { kind := f.kind, id := f.id, a := f.a, data := f.data, tok := f.tok } ((.slice A n c)) (.slice none 0 0))) := Lib.hid (rowtok hr7); have HR4 := Lib.hid (HR4.out.chg (hcs7 (· = g5) _ (Chg.refl _ _) (fun _ => rfl)) hne2); have HCE := Lib.hid (hcs7 none_ w HCE.out (fun h => by have := HG5.out; have := HW2.out; omega)); clear hr7 hcs7 hs7))
  rw [rounds_succ]
  go_wp2_with (first | ((with_reducible show wpList _ _ _ (⟨some 59, .load _ _, _, _, _, _⟩ :: _) _ _); refine wpList_load_Row (cs := cellsF { kind := f.kind, id := f.id, a := f.a, data := f.data, tok := f.tok } ((.slice A n c)) (.slice none 0 0)) rfl rfl rfl HRE.out Tryd.underlying27 rfl (HSZ.out) ?_) | ((with_reducible show wpList _ _ _ (⟨none, .store 27 (.tmp 4) _, _, _, _, _⟩ :: _) _ _); refine wpList_store_Row (xs := cellsF { kind := f.kind, id := f.id, a := f.a, data := f.data, tok := f.tok } ((.slice A n c)) (.slice none 0 0)) rfl rfl rfl HR4.out rfl (HSL.out) (HSZ.out) HONE.out ?_; intro w9 hr9 hcs9 hs9; have HR9 := Lib.hid hr9; have HC9 := Lib.hid (hcs9 none_ w HCE.out (fun h => by have := HG4.out; have := HW2.out; omega)); clear hr9 hcs9 hs9))
  refine ret_row rfl rfl HR9.out Tryd.underlying27 rfl (HSZ.out) rfl ?_
  exact ⟨rfl, HC9.out⟩

set_option maxRecDepth 100000 in
set_option maxHeartbeats 4000000 in
theorem only_i (f : Fr) (A B : Option Addr) (n c m d : Nat) (ht : f.tok.length = 16) (w : World) :
    Calls Tryd.prog 18 #[.agg (cellsF f (.slice A n c) (.slice B m d)).toArray, .string ⟨#[105]⟩] w fun e w' => e = .returned (.agg (cellsF { kind := f.kind, id := f.id, tok := List.replicate 16 0 } (.slice none 0 0) (.slice none 0 0)).toArray) ∧ Chg none_ w w' := by
  have HTF := Lib.hid ht
  have HTK : Hid (({ kind := f.kind, id := f.id, tok := List.replicate 16 0 } : Fr).tok.length = 16) := Lib.hid (rfl)
  have HONE : Hid ((cellsF { kind := f.kind, id := f.id, tok := List.replicate 16 0 } (.slice none 0 0) (.slice none 0 0)).all (·.oneCell') = true) := Lib.hid (cells_oneF _ _ _ rfl rfl)
  have HSZ : Hid ((Tryd.prog.info? 27).map (·.size) = some (cellsF { kind := f.kind, id := f.id, tok := List.replicate 16 0 } (.slice none 0 0) (.slice none 0 0)).length) := Lib.hid (by rw [cF_len _ _ _ HTK.out]; exact size27)
  have HSL : Hid ((cellsF { kind := f.kind, id := f.id, tok := List.replicate 16 0 } (.slice none 0 0) (.slice none 0 0)).length = zeroF.length) := Lib.hid (by rw [cF_len _ _ _ HTK.out]; rfl)
  clear ht
  go_enter Tryd.func18, Tryd.ntmps18
  go_wp2_with (first | ((with_reducible show wpList _ _ _ (⟨some 2, .box _ _, _, _, _, _⟩ :: _) _ _); refine wpList_box_Row rfl rfl (cellsF f (.slice A n c) (.slice B m d)) rfl ?_; intro w1 hr1 hc1 hs1; have HR1 := Lib.hid hr1; have HC1 := Lib.hid hc1; have HS1 := Lib.hid hs1; have q0 := (hr1.cell 0).trans (cF_0 f (.slice A n c) (.slice B m d)); clear hr1 hc1 hs1) | ((with_reducible show wpList _ _ _ (⟨some 4, .alloc _, _, _, _, _⟩ :: _) _ _); refine wpList_alloc_Row rfl rfl zeroF zero27 ?_; intro w2 hr2 hc2 hs2; have HR2 := Lib.hid hr2; have HC2 := Lib.hid hc2; have HS2 := Lib.hid hs2; have q0 := (HR1.out.chg hc2 (fun h => h)).cell 0; rw [cF_0] at q0; clear hr2 hc2 hs2) | ((with_reducible show wpList _ _ _ (⟨some 5, .alloc _, _, _, _, _⟩ :: _) _ _); refine wpList_alloc_Row rfl rfl zeroF zero27 ?_; intro w3 hr3 hc3 hs3; have HR3 := Lib.hid hr3; have HC3 := Lib.hid hc3; have HS3 := Lib.hid hs3; clear hr3 hc3 hs3) | ((with_reducible show wpList _ _ _ (⟨none, .store 27 (.tmp 5) _, _, _, _, _⟩ :: _) _ _); refine wpList_store_Row (xs := cellsF { kind := f.kind, tok := List.replicate 16 0 } (.slice none 0 0) (.slice none 0 0)) rfl rfl rfl HR3.out rfl rfl size27 rfl ?_; intro w5 hr5 hcs5 hs5; have HR5 := Lib.hid hr5; have HC5 := Lib.hid (hcs5 (· = w2.heap.size) w3 (Chg.refl _ _) (fun _ => rfl)); clear hr5 hcs5 hs5))
  have HR2' := Lib.hid ((HR2.out.chg HC3.out (fun h => h)).chg HC5.out (fun (e : w1.heap.size = w2.heap.size) => by have := HS2.out; omega))
  have HR1' := Lib.hid (((HR1.out.chg HC2.out (fun h => h)).chg HC3.out (fun h => h)).chg HC5.out (fun (e : w.heap.size = w2.heap.size) => by have := HS2.out; have := HS1.out; omega))
  have HCW : Hid (Chg none_ w w5) := Lib.hid (((HC1.out.trans HC2.out).trans HC3.out).andThen HC5.out (fun b hb (e : b = w2.heap.size) => by have := HS2.out; have := HS1.out; omega))
  have hne1 : w.heap.size ≠ w2.heap.size := by have := HS2.out; have := HS1.out; omega
  have hne2 : w1.heap.size ≠ w2.heap.size := by have := HS2.out; omega
  have HG4 : Hid (w.heap.size ≤ w1.heap.size) := Lib.hid (by have := HS1.out; omega)
  have HG5 : Hid (w.heap.size ≤ w2.heap.size) := Lib.hid (by have := HS2.out; have := HS1.out; omega)
  clear HR1 HR2 HR3 HC1 HC2 HC3 HC5 HS1 HS2 HS3 q0
  obtain ⟨g2, hg2⟩ : ∃ g, g = w.heap.size := ⟨_, rfl⟩
  obtain ⟨g4, hg4⟩ : ∃ g, g = w1.heap.size := ⟨_, rfl⟩
  obtain ⟨g5, hg5⟩ : ∃ g, g = w2.heap.size := ⟨_, rfl⟩
  have HW2 := Lib.hid hg2
  rw [← hg4, ← hg2] at HG4
  rw [← hg5, ← hg2] at HG5
  rw [← hg2, ← hg5] at hne1
  rw [← hg4, ← hg5] at hne2
  rw [← hg2] at HR1'
  rw [← hg4] at HR2'
  rw [← hg5] at HR5
  rw [← hg2, ← hg4, ← hg5]
  clear hg2 hg4 hg5
  have HRE : Hid (Row _ g5 27 (cellsF { kind := f.kind, id := f.id, tok := List.replicate 16 0 } (.slice none 0 0) (.slice none 0 0))) := Lib.hid ((HR5.out).set 1 (.int .u64 (f.id : Nat)))
  have HCE5 : Chg (· = g5) w5 _ := (Chg.refl (· = g5) w5).setCell (p := ⟨g5, 1, none⟩) (fun _ => rfl) (.int .u64 (f.id : Nat))
  have HR4 := Lib.hid (HR2'.out.chg HCE5 hne2)
  have HCE := Lib.hid (HCW.out.andThen HCE5 (fun b hb e => by have := HG5.out; have := HW2.out; omega))
  clear HCE5
  have a1 := (HR1'.out.cell 1).trans (cF_1 f (.slice A n c) (.slice B m d))
  have b1 := HR5.out.cell 1
  simp only [cF_1] at b1
  have z5 := HR5.out.frozen
  have ix0 : ((({ data := #[105] } : ByteArray)[0]).toNat : Int) = 105 := rfl
  refine wp_loop_rounds 2 ?_
  rw [rounds_succ]
  go_wp2
  rw [rounds_succ]
  go_wp2_with (first | ((with_reducible show wpList _ _ _ (⟨some 59, .load _ _, _, _, _, _⟩ :: _) _ _); refine wpList_load_Row (cs := cellsF { kind := f.kind, id := f.id, tok := List.replicate 16 0 } (.slice none 0 0) (.slice none 0 0)) rfl rfl rfl HRE.out Tryd.underlying27 rfl (HSZ.out) ?_) | ((with_reducible show wpList _ _ _ (⟨none, .store 27 (.tmp 4) _, _, _, _, _⟩ :: _) _ _); refine wpList_store_Row (xs := cellsF { kind := f.kind, id := f.id, tok := List.replicate 16 0 } (.slice none 0 0) (.slice none 0 0)) rfl rfl rfl HR4.out rfl (HSL.out) (HSZ.out) HONE.out ?_; intro w9 hr9 hcs9 hs9; have HR9 := Lib.hid hr9; have HC9 := Lib.hid (hcs9 none_ w HCE.out (fun h => by have := HG4.out; have := HW2.out; omega)); clear hr9 hcs9 hs9))
  refine ret_row rfl rfl HR9.out Tryd.underlying27 rfl (HSZ.out) rfl ?_
  exact ⟨rfl, HC9.out⟩

set_option maxRecDepth 100000 in
set_option maxHeartbeats 4000000 in
theorem only_cafd (f : Fr) (A B : Option Addr) (n c m d : Nat) (ht : f.tok.length = 16) (w : World) :
    Calls Tryd.prog 18 #[.agg (cellsF f (.slice A n c) (.slice B m d)).toArray, .string ⟨#[99, 97, 102, 100]⟩] w fun e w' => e = .returned (.agg (cellsF { kind := f.kind, code := f.code, a := f.a, flag := f.flag, data := f.data, tok := List.replicate 16 0 } ((.slice A n c)) (.slice none 0 0)).toArray) ∧ Chg none_ w w' := by
  have HTF := Lib.hid ht
  have HTK : Hid (({ kind := f.kind, code := f.code, a := f.a, flag := f.flag, data := f.data, tok := List.replicate 16 0 } : Fr).tok.length = 16) := Lib.hid (rfl)
  have HONE : Hid ((cellsF { kind := f.kind, code := f.code, a := f.a, flag := f.flag, data := f.data, tok := List.replicate 16 0 } ((.slice A n c)) (.slice none 0 0)).all (·.oneCell') = true) := Lib.hid (cells_oneF _ _ _ rfl rfl)
  have HSZ : Hid ((Tryd.prog.info? 27).map (·.size) = some (cellsF { kind := f.kind, code := f.code, a := f.a, flag := f.flag, data := f.data, tok := List.replicate 16 0 } ((.slice A n c)) (.slice none 0 0)).length) := Lib.hid (by rw [cF_len _ _ _ HTK.out]; exact size27)
  have HSL : Hid ((cellsF { kind := f.kind, code := f.code, a := f.a, flag := f.flag, data := f.data, tok := List.replicate 16 0 } ((.slice A n c)) (.slice none 0 0)).length = zeroF.length) := Lib.hid (by rw [cF_len _ _ _ HTK.out]; rfl)
  clear ht
  go_enter Tryd.func18, Tryd.ntmps18
  go_wp2_with (first | ((with_reducible show wpList _ _ _ (⟨some 2, .box _ _, _, _, _, _⟩ :: _) _ _); refine wpList_box_Row rfl rfl (cellsF f (.slice A n c) (.slice B m d)) rfl ?_; intro w1 hr1 hc1 hs1; have HR1 := Lib.hid hr1; have HC1 := Lib.hid hc1; have HS1 := Lib.hid hs1; have q0 := (hr1.cell 0).trans (cF_0 f (.slice A n c) (.slice B m d)); clear hr1 hc1 hs1) | ((with_reducible show wpList _ _ _ (⟨some 4, .alloc _, _, _, _, _⟩ :: _) _ _); refine wpList_alloc_Row rfl rfl zeroF zero27 ?_; intro w2 hr2 hc2 hs2; have HR2 := Lib.hid hr2; have HC2 := Lib.hid hc2; have HS2 := Lib.hid hs2; have q0 := (HR1.out.chg hc2 (fun h => h)).cell 0; rw [cF_0] at q0; clear hr2 hc2 hs2) | ((with_reducible show wpList _ _ _ (⟨some 5, .alloc _, _, _, _, _⟩ :: _) _ _); refine wpList_alloc_Row rfl rfl zeroF zero27 ?_; intro w3 hr3 hc3 hs3; have HR3 := Lib.hid hr3; have HC3 := Lib.hid hc3; have HS3 := Lib.hid hs3; clear hr3 hc3 hs3) | ((with_reducible show wpList _ _ _ (⟨none, .store 27 (.tmp 5) _, _, _, _, _⟩ :: _) _ _); refine wpList_store_Row (xs := cellsF { kind := f.kind, tok := List.replicate 16 0 } (.slice none 0 0) (.slice none 0 0)) rfl rfl rfl HR3.out rfl rfl size27 rfl ?_; intro w5 hr5 hcs5 hs5; have HR5 := Lib.hid hr5; have HC5 := Lib.hid (hcs5 (· = w2.heap.size) w3 (Chg.refl _ _) (fun _ => rfl)); clear hr5 hcs5 hs5))
  have HR2' := Lib.hid ((HR2.out.chg HC3.out (fun h => h)).chg HC5.out (fun (e : w1.heap.size = w2.heap.size) => by have := HS2.out; omega))
  have HR1' := Lib.hid (((HR1.out.chg HC2.out (fun h => h)).chg HC3.out (fun h => h)).chg HC5.out (fun (e : w.heap.size = w2.heap.size) => by have := HS2.out; have := HS1.out; omega))
  have HCW : Hid (Chg none_ w w5) := Lib.hid (((HC1.out.trans HC2.out).trans HC3.out).andThen HC5.out (fun b hb (e : b = w2.heap.size) => by have := HS2.out; have := HS1.out; omega))
  have hne1 : w.heap.size ≠ w2.heap.size := by have := HS2.out; have := HS1.out; omega
  have hne2 : w1.heap.size ≠ w2.heap.size := by have := HS2.out; omega
  have HG4 : Hid (w.heap.size ≤ w1.heap.size) := Lib.hid (by have := HS1.out; omega)
  have HG5 : Hid (w.heap.size ≤ w2.heap.size) := Lib.hid (by have := HS2.out; have := HS1.out; omega)
  clear HR1 HR2 HR3 HC1 HC2 HC3 HC5 HS1 HS2 HS3 q0
  obtain ⟨g2, hg2⟩ : ∃ g, g = w.heap.size := ⟨_, rfl⟩
  obtain ⟨g4, hg4⟩ : ∃ g, g = w1.heap.size := ⟨_, rfl⟩
  obtain ⟨g5, hg5⟩ : ∃ g, g = w2.heap.size := ⟨_, rfl⟩
  have HW2 := Lib.hid hg2
  rw [← hg4, ← hg2] at HG4
  rw [← hg5, ← hg2] at HG5
  rw [← hg2, ← hg5] at hne1
  rw [← hg4, ← hg5] at hne2
  rw [← hg2] at HR1'
  rw [← hg4] at HR2'
  rw [← hg5] at HR5
  rw [← hg2, ← hg4, ← hg5]
  clear hg2 hg4 hg5
  have HRE : Hid (Row _ g5 27 (cellsF { kind := f.kind, code := f.code, a := f.a, flag := f.flag, data := f.data, tok := List.replicate 16 0 } ((.slice A n c)) (.slice none 0 0))) := Lib.hid (((((HR5.out).set 4 (.int .u64 (f.code : Nat))).set 2 (.int .u64 (f.a : Nat))).set 5 (.bool f.flag)).set 6 ((.slice A n c)))
  have HCE5 : Chg (· = g5) w5 _ := ((((Chg.refl (· = g5) w5).setCell (p := ⟨g5, 4, none⟩) (fun _ => rfl) (.int .u64 (f.code : Nat))).setCell (p := ⟨g5, 2, none⟩) (fun _ => rfl) (.int .u64 (f.a : Nat))).setCell (p := ⟨g5, 5, none⟩) (fun _ => rfl) (.bool f.flag)).setCell (p := ⟨g5, 6, none⟩) (fun _ => rfl) ((.slice A n c))
  have HR4 := Lib.hid (HR2'.out.chg HCE5 hne2)
  have HCE := Lib.hid (HCW.out.andThen HCE5 (fun b hb e => by have := HG5.out; have := HW2.out; omega))
  clear HCE5
  have a4 := (HR1'.out.cell 4).trans (cF_4 f (.slice A n c) (.slice B m d))
  have b4 := HR5.out.cell 4
  simp only [cF_4] at b4
  have a2 := (HR1'.out.cell 2).trans (cF_2 f (.slice A n c) (.slice B m d))
  have b2 := HR5.out.cell 2
  simp only [cF_2] at b2
  have a5 := (HR1'.out.cell 5).trans (cF_5 f (.slice A n c) (.slice B m d))
  have b5 := HR5.out.cell 5
  simp only [cF_5] at b5
  have a6 := (HR1'.out.cell 6).trans (cF_6 f (.slice A n c) (.slice B m d))
  have b6 := HR5.out.cell 6
  simp only [cF_6] at b6
  have z5 := HR5.out.frozen
  have ix0 : ((({ data := #[99, 97, 102, 100] } : ByteArray)[0]).toNat : Int) = 99 := rfl
  have ix1 : ((({ data := #[99, 97, 102, 100] } : ByteArray)[1]).toNat : Int) = 97 := rfl
  have ix2 : ((({ data := #[99, 97, 102, 100] } : ByteArray)[2]).toNat : Int) = 102 := rfl
  have ix3 : ((({ data := #[99, 97, 102, 100] } : ByteArray)[3]).toNat : Int) = 100 := rfl
  refine wp_loop_rounds 5 ?_
  rw [rounds_succ]
  go_wp2
  rw [rounds_succ]
  go_wp2
  rw [rounds_succ]
  go_wp2
  rw [rounds_succ]
  go_wp2
  rw [rounds_succ]
  go_wp2_with (first | ((with_reducible show wpList _ _ _ (⟨some 59, .load _ _, _, _, _, _⟩ :: _) _ _); refine wpList_load_Row (cs := cellsF { kind := f.kind, code := f.code, a := f.a, flag := f.flag, data := f.data, tok := List.replicate 16 0 } ((.slice A n c)) (.slice none 0 0)) rfl rfl rfl HRE.out Tryd.underlying27 rfl (HSZ.out) ?_) | ((with_reducible show wpList _ _ _ (⟨none, .store 27 (.tmp 4) _, _, _, _, _⟩ :: _) _ _); refine wpList_store_Row (xs := cellsF { kind := f.kind, code := f.code, a := f.a, flag := f.flag, data := f.data, tok := List.replicate 16 0 } ((.slice A n c)) (.slice none 0 0)) rfl rfl rfl HR4.out rfl (HSL.out) (HSZ.out) HONE.out ?_; intro w9 hr9 hcs9 hs9; have HR9 := Lib.hid hr9; have HC9 := Lib.hid (hcs9 none_ w HCE.out (fun h => by have := HG4.out; have := HW2.out; omega)); clear hr9 hcs9 hs9))
  refine ret_row rfl rfl HR9.out Tryd.underlying27 rfl (HSZ.out) rfl ?_
  exact ⟨rfl, HC9.out⟩
end Go.Proofs.YtlcffjmbfpdlbaaDoor

namespace Go.Proofs.YtlcffjmbfpdlbaaDoor
open Go.RowKit

/-- The letters of what a kind has. -/
def whatL : List (Int × List UInt8) := [(0, [97]), (16, [97]), (20, [97]), (1, []), (30, []), (2, [98, 114]), (4, [105, 99, 97]), (5, [105, 99]), (6, [97, 100]), (7, [100]), (26, [100]), (27, [100]), (8, [105, 97, 102, 100]), (17, [105, 97]), (21, [105, 97]), (18, [97, 102]), (22, [97, 102]), (24, [105, 97, 100, 116]), (25, [105]), (28, [99, 97, 102, 100])]
def whatM (k : Int) : Option (List UInt8) := (whatL.find? fun x => x.1 == k).map (·.2)
/-- As a string: "?" where there is none. -/
def whatS (k : Int) : ByteArray := match whatM k with | none => ⟨#[63]⟩ | some l => ⟨l.toArray⟩

set_option maxRecDepth 100000 in
set_option maxHeartbeats 4000000 in
theorem what_any (k : Int) (w : World) : Calls Tryd.prog 17 #[.int .i64 k] w fun e w' => e = .returned (.string (whatS k)) ∧ w' = w := by
  by_cases h0 : k = 0
  · subst h0
    go_enter Tryd.func17, Tryd.ntmps17
    go_wp2
    go_ret
    exact ⟨rfl, rfl⟩
  by_cases h16 : k = 16
  · subst h16
    go_enter Tryd.func17, Tryd.ntmps17
    go_wp2
    go_ret
    exact ⟨rfl, rfl⟩
  by_cases h20 : k = 20
  · subst h20
    go_enter Tryd.func17, Tryd.ntmps17
    go_wp2
    go_ret
    exact ⟨rfl, rfl⟩
  by_cases h1 : k = 1
  · subst h1
    go_enter Tryd.func17, Tryd.ntmps17
    go_wp2
    go_ret
    exact ⟨rfl, rfl⟩
  by_cases h30 : k = 30
  · subst h30
    go_enter Tryd.func17, Tryd.ntmps17
    go_wp2
    go_ret
    exact ⟨rfl, rfl⟩
  by_cases h2 : k = 2
  · subst h2
    go_enter Tryd.func17, Tryd.ntmps17
    go_wp2
    go_ret
    exact ⟨rfl, rfl⟩
  by_cases h4 : k = 4
  · subst h4
    go_enter Tryd.func17, Tryd.ntmps17
    go_wp2
    go_ret
    exact ⟨rfl, rfl⟩
  by_cases h5 : k = 5
  · subst h5
    go_enter Tryd.func17, Tryd.ntmps17
    go_wp2
    go_ret
    exact ⟨rfl, rfl⟩
  by_cases h6 : k = 6
  · subst h6
    go_enter Tryd.func17, Tryd.ntmps17
    go_wp2
    go_ret
    exact ⟨rfl, rfl⟩
  by_cases h7 : k = 7
  · subst h7
    go_enter Tryd.func17, Tryd.ntmps17
    go_wp2
    go_ret
    exact ⟨rfl, rfl⟩
  by_cases h26 : k = 26
  · subst h26
    go_enter Tryd.func17, Tryd.ntmps17
    go_wp2
    go_ret
    exact ⟨rfl, rfl⟩
  by_cases h27 : k = 27
  · subst h27
    go_enter Tryd.func17, Tryd.ntmps17
    go_wp2
    go_ret
    exact ⟨rfl, rfl⟩
  by_cases h8 : k = 8
  · subst h8
    go_enter Tryd.func17, Tryd.ntmps17
    go_wp2
    go_ret
    exact ⟨rfl, rfl⟩
  by_cases h17 : k = 17
  · subst h17
    go_enter Tryd.func17, Tryd.ntmps17
    go_wp2
    go_ret
    exact ⟨rfl, rfl⟩
  by_cases h21 : k = 21
  · subst h21
    go_enter Tryd.func17, Tryd.ntmps17
    go_wp2
    go_ret
    exact ⟨rfl, rfl⟩
  by_cases h18 : k = 18
  · subst h18
    go_enter Tryd.func17, Tryd.ntmps17
    go_wp2
    go_ret
    exact ⟨rfl, rfl⟩
  by_cases h22 : k = 22
  · subst h22
    go_enter Tryd.func17, Tryd.ntmps17
    go_wp2
    go_ret
    exact ⟨rfl, rfl⟩
  by_cases h24 : k = 24
  · subst h24
    go_enter Tryd.func17, Tryd.ntmps17
    go_wp2
    go_ret
    exact ⟨rfl, rfl⟩
  by_cases h25 : k = 25
  · subst h25
    go_enter Tryd.func17, Tryd.ntmps17
    go_wp2
    go_ret
    exact ⟨rfl, rfl⟩
  by_cases h28 : k = 28
  · subst h28
    go_enter Tryd.func17, Tryd.ntmps17
    go_wp2
    go_ret
    exact ⟨rfl, rfl⟩
  have e0 : (k == 0) = false := by rw [beq_eq_false_iff_ne]; exact h0
  have e16 : (k == 16) = false := by rw [beq_eq_false_iff_ne]; exact h16
  have e20 : (k == 20) = false := by rw [beq_eq_false_iff_ne]; exact h20
  have e1 : (k == 1) = false := by rw [beq_eq_false_iff_ne]; exact h1
  have e30 : (k == 30) = false := by rw [beq_eq_false_iff_ne]; exact h30
  have e2 : (k == 2) = false := by rw [beq_eq_false_iff_ne]; exact h2
  have e4 : (k == 4) = false := by rw [beq_eq_false_iff_ne]; exact h4
  have e5 : (k == 5) = false := by rw [beq_eq_false_iff_ne]; exact h5
  have e6 : (k == 6) = false := by rw [beq_eq_false_iff_ne]; exact h6
  have e7 : (k == 7) = false := by rw [beq_eq_false_iff_ne]; exact h7
  have e26 : (k == 26) = false := by rw [beq_eq_false_iff_ne]; exact h26
  have e27 : (k == 27) = false := by rw [beq_eq_false_iff_ne]; exact h27
  have e8 : (k == 8) = false := by rw [beq_eq_false_iff_ne]; exact h8
  have e17 : (k == 17) = false := by rw [beq_eq_false_iff_ne]; exact h17
  have e21 : (k == 21) = false := by rw [beq_eq_false_iff_ne]; exact h21
  have e18 : (k == 18) = false := by rw [beq_eq_false_iff_ne]; exact h18
  have e22 : (k == 22) = false := by rw [beq_eq_false_iff_ne]; exact h22
  have e24 : (k == 24) = false := by rw [beq_eq_false_iff_ne]; exact h24
  have e25 : (k == 25) = false := by rw [beq_eq_false_iff_ne]; exact h25
  have e28 : (k == 28) = false := by rw [beq_eq_false_iff_ne]; exact h28
  have hw : whatS k = ⟨#[63]⟩ := by
    have : whatM k = none := by
      unfold whatM whatL
      rw [List.find?_eq_none.2 (by
        intro x hx
        simp only [List.mem_cons, List.not_mem_nil, or_false] at hx
        rcases hx with rfl | rfl | rfl | rfl | rfl | rfl | rfl | rfl | rfl | rfl | rfl | rfl | rfl | rfl | rfl | rfl | rfl | rfl | rfl | rfl
        all_goals (simp only [beq_iff_eq]; omega))]
      rfl
    unfold whatS
    rw [this]
  rw [hw]
  clear hw h0 h16 h20 h1 h30 h2 h4 h5 h6 h7 h26 h27 h8 h17 h21 h18 h22 h24 h25 h28
  go_enter Tryd.func17, Tryd.ntmps17
  go_wp2
  go_ret
  exact ⟨rfl, rfl⟩
end Go.Proofs.YtlcffjmbfpdlbaaDoor

namespace Go.Proofs.YtlcffjmbfpdlbaaDoor
open Go.RowKit

/-- A frame with what is told of it by letters. -/
def onlyM (f : Fr) (l : List UInt8) : Fr :=
  { kind := f.kind, id := if l.contains 105 then f.id else 0, a := if l.contains 97 then f.a else 0, b := if l.contains 98 then f.b else 0, code := if l.contains 99 then f.code else 0,
    flag := if l.contains 102 then f.flag else false, data := if l.contains 100 then f.data else [], ranges := if l.contains 114 then f.ranges else [], tok := if l.contains 116 then f.tok else List.replicate 16 0 }
def fitsR (f : Fr) : Bool :=
  if f.kind = 0 then decide (1 ≤ f.a ∧ f.a ≤ 1200)
  else if f.kind = 2 then decide (apart f.ranges)
  else if f.kind = 6 ∨ f.kind = 8 then decide (f.data.length ≤ 1200 ∧ f.a + f.data.length ≤ 4611686018427387903)
  else if f.kind = 7 then decide (1 ≤ f.data.length ∧ f.data.length ≤ 1200)
  else if f.kind = 18 ∨ f.kind = 22 then decide (f.a ≤ 1152921504606846976)
  else if f.kind = 24 then decide (f.a ≤ f.id ∧ 1 ≤ f.data.length ∧ f.data.length ≤ 20)
  else if f.kind = 26 ∨ f.kind = 27 then decide (f.data.length = 8)
  else if f.kind = 28 then decide (f.data.length ≤ 1200) && (!f.flag || decide (f.a = 0))
  else true
def boundB (f : Fr) : Bool := decide (f.id ≤ 4611686018427387903 ∧ f.a ≤ 4611686018427387903 ∧ f.b ≤ 4611686018427387903 ∧ f.code ≤ 4611686018427387903)

theorem rdoc_0 (id a b c : Nat) (fl : Bool) (dt : List Nat) (rg : List (Nat × Nat)) (tk : List Nat) : rightB ⟨0, id, a, b, c, fl, dt, rg, tk⟩ = (boundB ⟨0, id, a, b, c, fl, dt, rg, tk⟩ && (decide ((⟨0, id, a, b, c, fl, dt, rg, tk⟩ : Fr) = onlyM ⟨0, id, a, b, c, fl, dt, rg, tk⟩ [97]) && fitsR ⟨0, id, a, b, c, fl, dt, rg, tk⟩)) := by
  rw [Bool.eq_iff_iff]
  cases fl <;> by_cases ha : a = 0
  all_goals simp [rightB, keyM, kdM, kdL, hasB, boundB, PF.parts, dropAll, dropP, setP, onlyM, fitsR, fitsB, ha]
theorem rdoc_16 (id a b c : Nat) (fl : Bool) (dt : List Nat) (rg : List (Nat × Nat)) (tk : List Nat) : rightB ⟨16, id, a, b, c, fl, dt, rg, tk⟩ = (boundB ⟨16, id, a, b, c, fl, dt, rg, tk⟩ && (decide ((⟨16, id, a, b, c, fl, dt, rg, tk⟩ : Fr) = onlyM ⟨16, id, a, b, c, fl, dt, rg, tk⟩ [97]) && fitsR ⟨16, id, a, b, c, fl, dt, rg, tk⟩)) := by
  rw [Bool.eq_iff_iff]
  cases fl <;> by_cases ha : a = 0
  all_goals simp [rightB, keyM, kdM, kdL, hasB, boundB, PF.parts, dropAll, dropP, setP, onlyM, fitsR, ha]
theorem rdoc_20 (id a b c : Nat) (fl : Bool) (dt : List Nat) (rg : List (Nat × Nat)) (tk : List Nat) : rightB ⟨20, id, a, b, c, fl, dt, rg, tk⟩ = (boundB ⟨20, id, a, b, c, fl, dt, rg, tk⟩ && (decide ((⟨20, id, a, b, c, fl, dt, rg, tk⟩ : Fr) = onlyM ⟨20, id, a, b, c, fl, dt, rg, tk⟩ [97]) && fitsR ⟨20, id, a, b, c, fl, dt, rg, tk⟩)) := by
  rw [Bool.eq_iff_iff]
  cases fl <;> by_cases ha : a = 0
  all_goals simp [rightB, keyM, kdM, kdL, hasB, boundB, PF.parts, dropAll, dropP, setP, onlyM, fitsR, ha]
theorem rdoc_1 (id a b c : Nat) (fl : Bool) (dt : List Nat) (rg : List (Nat × Nat)) (tk : List Nat) : rightB ⟨1, id, a, b, c, fl, dt, rg, tk⟩ = (boundB ⟨1, id, a, b, c, fl, dt, rg, tk⟩ && (decide ((⟨1, id, a, b, c, fl, dt, rg, tk⟩ : Fr) = onlyM ⟨1, id, a, b, c, fl, dt, rg, tk⟩ []) && fitsR ⟨1, id, a, b, c, fl, dt, rg, tk⟩)) := by
  rw [Bool.eq_iff_iff]
  cases fl <;> by_cases ha : a = 0
  all_goals simp [rightB, keyM, kdM, kdL, hasB, boundB, PF.parts, dropAll, dropP, setP, onlyM, fitsR, ha]
theorem rdoc_30 (id a b c : Nat) (fl : Bool) (dt : List Nat) (rg : List (Nat × Nat)) (tk : List Nat) : rightB ⟨30, id, a, b, c, fl, dt, rg, tk⟩ = (boundB ⟨30, id, a, b, c, fl, dt, rg, tk⟩ && (decide ((⟨30, id, a, b, c, fl, dt, rg, tk⟩ : Fr) = onlyM ⟨30, id, a, b, c, fl, dt, rg, tk⟩ []) && fitsR ⟨30, id, a, b, c, fl, dt, rg, tk⟩)) := by
  rw [Bool.eq_iff_iff]
  cases fl <;> by_cases ha : a = 0
  all_goals simp [rightB, keyM, kdM, kdL, hasB, boundB, PF.parts, dropAll, dropP, setP, onlyM, fitsR, ha]
theorem rdoc_2 (id a b c : Nat) (fl : Bool) (dt : List Nat) (rg : List (Nat × Nat)) (tk : List Nat) : rightB ⟨2, id, a, b, c, fl, dt, rg, tk⟩ = (boundB ⟨2, id, a, b, c, fl, dt, rg, tk⟩ && (decide ((⟨2, id, a, b, c, fl, dt, rg, tk⟩ : Fr) = onlyM ⟨2, id, a, b, c, fl, dt, rg, tk⟩ [98, 114]) && fitsR ⟨2, id, a, b, c, fl, dt, rg, tk⟩)) := by
  rw [Bool.eq_iff_iff]
  cases fl <;> by_cases ha : a = 0
  all_goals simp [rightB, keyM, kdM, kdL, hasB, boundB, PF.parts, dropAll, dropP, setP, onlyM, fitsR, fitsB, typM, ackParts, ha]
theorem rdoc_4 (id a b c : Nat) (fl : Bool) (dt : List Nat) (rg : List (Nat × Nat)) (tk : List Nat) : rightB ⟨4, id, a, b, c, fl, dt, rg, tk⟩ = (boundB ⟨4, id, a, b, c, fl, dt, rg, tk⟩ && (decide ((⟨4, id, a, b, c, fl, dt, rg, tk⟩ : Fr) = onlyM ⟨4, id, a, b, c, fl, dt, rg, tk⟩ [105, 99, 97]) && fitsR ⟨4, id, a, b, c, fl, dt, rg, tk⟩)) := by
  rw [Bool.eq_iff_iff]
  cases fl <;> by_cases ha : a = 0
  all_goals simp [rightB, keyM, kdM, kdL, hasB, boundB, PF.parts, dropAll, dropP, setP, onlyM, fitsR, ha]
theorem rdoc_5 (id a b c : Nat) (fl : Bool) (dt : List Nat) (rg : List (Nat × Nat)) (tk : List Nat) : rightB ⟨5, id, a, b, c, fl, dt, rg, tk⟩ = (boundB ⟨5, id, a, b, c, fl, dt, rg, tk⟩ && (decide ((⟨5, id, a, b, c, fl, dt, rg, tk⟩ : Fr) = onlyM ⟨5, id, a, b, c, fl, dt, rg, tk⟩ [105, 99]) && fitsR ⟨5, id, a, b, c, fl, dt, rg, tk⟩)) := by
  rw [Bool.eq_iff_iff]
  cases fl <;> by_cases ha : a = 0
  all_goals simp [rightB, keyM, kdM, kdL, hasB, boundB, PF.parts, dropAll, dropP, setP, onlyM, fitsR, ha]
theorem rdoc_6 (id a b c : Nat) (fl : Bool) (dt : List Nat) (rg : List (Nat × Nat)) (tk : List Nat) : rightB ⟨6, id, a, b, c, fl, dt, rg, tk⟩ = (boundB ⟨6, id, a, b, c, fl, dt, rg, tk⟩ && (decide ((⟨6, id, a, b, c, fl, dt, rg, tk⟩ : Fr) = onlyM ⟨6, id, a, b, c, fl, dt, rg, tk⟩ [97, 100]) && fitsR ⟨6, id, a, b, c, fl, dt, rg, tk⟩)) := by
  rw [Bool.eq_iff_iff]
  cases fl <;> by_cases ha : a = 0
  all_goals simp [rightB, keyM, kdM, kdL, hasB, boundB, PF.parts, dropAll, dropP, setP, onlyM, fitsR, fitsB, ha]
theorem rdoc_7 (id a b c : Nat) (fl : Bool) (dt : List Nat) (rg : List (Nat × Nat)) (tk : List Nat) : rightB ⟨7, id, a, b, c, fl, dt, rg, tk⟩ = (boundB ⟨7, id, a, b, c, fl, dt, rg, tk⟩ && (decide ((⟨7, id, a, b, c, fl, dt, rg, tk⟩ : Fr) = onlyM ⟨7, id, a, b, c, fl, dt, rg, tk⟩ [100]) && fitsR ⟨7, id, a, b, c, fl, dt, rg, tk⟩)) := by
  rw [Bool.eq_iff_iff]
  cases fl <;> by_cases ha : a = 0
  all_goals simp [rightB, keyM, kdM, kdL, hasB, boundB, PF.parts, dropAll, dropP, setP, onlyM, fitsR, fitsB, ha]
theorem rdoc_26 (id a b c : Nat) (fl : Bool) (dt : List Nat) (rg : List (Nat × Nat)) (tk : List Nat) : rightB ⟨26, id, a, b, c, fl, dt, rg, tk⟩ = (boundB ⟨26, id, a, b, c, fl, dt, rg, tk⟩ && (decide ((⟨26, id, a, b, c, fl, dt, rg, tk⟩ : Fr) = onlyM ⟨26, id, a, b, c, fl, dt, rg, tk⟩ [100]) && fitsR ⟨26, id, a, b, c, fl, dt, rg, tk⟩)) := by
  rw [Bool.eq_iff_iff]
  cases fl <;> by_cases ha : a = 0
  all_goals simp [rightB, keyM, kdM, kdL, hasB, boundB, PF.parts, dropAll, dropP, setP, onlyM, fitsR, fitsB, ha]
theorem rdoc_27 (id a b c : Nat) (fl : Bool) (dt : List Nat) (rg : List (Nat × Nat)) (tk : List Nat) : rightB ⟨27, id, a, b, c, fl, dt, rg, tk⟩ = (boundB ⟨27, id, a, b, c, fl, dt, rg, tk⟩ && (decide ((⟨27, id, a, b, c, fl, dt, rg, tk⟩ : Fr) = onlyM ⟨27, id, a, b, c, fl, dt, rg, tk⟩ [100]) && fitsR ⟨27, id, a, b, c, fl, dt, rg, tk⟩)) := by
  rw [Bool.eq_iff_iff]
  cases fl <;> by_cases ha : a = 0
  all_goals simp [rightB, keyM, kdM, kdL, hasB, boundB, PF.parts, dropAll, dropP, setP, onlyM, fitsR, fitsB, ha]
theorem rdoc_8 (id a b c : Nat) (fl : Bool) (dt : List Nat) (rg : List (Nat × Nat)) (tk : List Nat) : rightB ⟨8, id, a, b, c, fl, dt, rg, tk⟩ = (boundB ⟨8, id, a, b, c, fl, dt, rg, tk⟩ && (decide ((⟨8, id, a, b, c, fl, dt, rg, tk⟩ : Fr) = onlyM ⟨8, id, a, b, c, fl, dt, rg, tk⟩ [105, 97, 102, 100]) && fitsR ⟨8, id, a, b, c, fl, dt, rg, tk⟩)) := by
  rw [Bool.eq_iff_iff]
  cases fl <;> by_cases ha : a = 0
  all_goals simp [rightB, keyM, kdM, kdL, hasB, boundB, PF.parts, dropAll, dropP, setP, onlyM, fitsR, fitsB, typM, streamParts, ha]
theorem rdoc_17 (id a b c : Nat) (fl : Bool) (dt : List Nat) (rg : List (Nat × Nat)) (tk : List Nat) : rightB ⟨17, id, a, b, c, fl, dt, rg, tk⟩ = (boundB ⟨17, id, a, b, c, fl, dt, rg, tk⟩ && (decide ((⟨17, id, a, b, c, fl, dt, rg, tk⟩ : Fr) = onlyM ⟨17, id, a, b, c, fl, dt, rg, tk⟩ [105, 97]) && fitsR ⟨17, id, a, b, c, fl, dt, rg, tk⟩)) := by
  rw [Bool.eq_iff_iff]
  cases fl <;> by_cases ha : a = 0
  all_goals simp [rightB, keyM, kdM, kdL, hasB, boundB, PF.parts, dropAll, dropP, setP, onlyM, fitsR, ha]
theorem rdoc_21 (id a b c : Nat) (fl : Bool) (dt : List Nat) (rg : List (Nat × Nat)) (tk : List Nat) : rightB ⟨21, id, a, b, c, fl, dt, rg, tk⟩ = (boundB ⟨21, id, a, b, c, fl, dt, rg, tk⟩ && (decide ((⟨21, id, a, b, c, fl, dt, rg, tk⟩ : Fr) = onlyM ⟨21, id, a, b, c, fl, dt, rg, tk⟩ [105, 97]) && fitsR ⟨21, id, a, b, c, fl, dt, rg, tk⟩)) := by
  rw [Bool.eq_iff_iff]
  cases fl <;> by_cases ha : a = 0
  all_goals simp [rightB, keyM, kdM, kdL, hasB, boundB, PF.parts, dropAll, dropP, setP, onlyM, fitsR, ha]
theorem rdoc_18 (id a b c : Nat) (fl : Bool) (dt : List Nat) (rg : List (Nat × Nat)) (tk : List Nat) : rightB ⟨18, id, a, b, c, fl, dt, rg, tk⟩ = (boundB ⟨18, id, a, b, c, fl, dt, rg, tk⟩ && (decide ((⟨18, id, a, b, c, fl, dt, rg, tk⟩ : Fr) = onlyM ⟨18, id, a, b, c, fl, dt, rg, tk⟩ [97, 102]) && fitsR ⟨18, id, a, b, c, fl, dt, rg, tk⟩)) := by
  rw [Bool.eq_iff_iff]
  cases fl <;> by_cases ha : a = 0
  all_goals simp [rightB, keyM, kdM, kdL, hasB, boundB, PF.parts, dropAll, dropP, setP, onlyM, fitsR, fitsB, ha]
theorem rdoc_22 (id a b c : Nat) (fl : Bool) (dt : List Nat) (rg : List (Nat × Nat)) (tk : List Nat) : rightB ⟨22, id, a, b, c, fl, dt, rg, tk⟩ = (boundB ⟨22, id, a, b, c, fl, dt, rg, tk⟩ && (decide ((⟨22, id, a, b, c, fl, dt, rg, tk⟩ : Fr) = onlyM ⟨22, id, a, b, c, fl, dt, rg, tk⟩ [97, 102]) && fitsR ⟨22, id, a, b, c, fl, dt, rg, tk⟩)) := by
  rw [Bool.eq_iff_iff]
  cases fl <;> by_cases ha : a = 0
  all_goals simp [rightB, keyM, kdM, kdL, hasB, boundB, PF.parts, dropAll, dropP, setP, onlyM, fitsR, fitsB, ha]
theorem rdoc_24 (id a b c : Nat) (fl : Bool) (dt : List Nat) (rg : List (Nat × Nat)) (tk : List Nat) : rightB ⟨24, id, a, b, c, fl, dt, rg, tk⟩ = (boundB ⟨24, id, a, b, c, fl, dt, rg, tk⟩ && (decide ((⟨24, id, a, b, c, fl, dt, rg, tk⟩ : Fr) = onlyM ⟨24, id, a, b, c, fl, dt, rg, tk⟩ [105, 97, 100, 116]) && fitsR ⟨24, id, a, b, c, fl, dt, rg, tk⟩)) := by
  rw [Bool.eq_iff_iff]
  cases fl <;> by_cases ha : a = 0
  all_goals simp [rightB, keyM, kdM, kdL, hasB, boundB, PF.parts, dropAll, dropP, setP, onlyM, fitsR, fitsB, ha]
theorem rdoc_25 (id a b c : Nat) (fl : Bool) (dt : List Nat) (rg : List (Nat × Nat)) (tk : List Nat) : rightB ⟨25, id, a, b, c, fl, dt, rg, tk⟩ = (boundB ⟨25, id, a, b, c, fl, dt, rg, tk⟩ && (decide ((⟨25, id, a, b, c, fl, dt, rg, tk⟩ : Fr) = onlyM ⟨25, id, a, b, c, fl, dt, rg, tk⟩ [105]) && fitsR ⟨25, id, a, b, c, fl, dt, rg, tk⟩)) := by
  rw [Bool.eq_iff_iff]
  cases fl <;> by_cases ha : a = 0
  all_goals simp [rightB, keyM, kdM, kdL, hasB, boundB, PF.parts, dropAll, dropP, setP, onlyM, fitsR, ha]
theorem rdoc_28 (id a b c : Nat) (fl : Bool) (dt : List Nat) (rg : List (Nat × Nat)) (tk : List Nat) : rightB ⟨28, id, a, b, c, fl, dt, rg, tk⟩ = (boundB ⟨28, id, a, b, c, fl, dt, rg, tk⟩ && (decide ((⟨28, id, a, b, c, fl, dt, rg, tk⟩ : Fr) = onlyM ⟨28, id, a, b, c, fl, dt, rg, tk⟩ [99, 97, 102, 100]) && fitsR ⟨28, id, a, b, c, fl, dt, rg, tk⟩)) := by
  rw [Bool.eq_iff_iff]
  cases fl <;> by_cases ha : a = 0
  all_goals simp [rightB, keyM, kdM, kdL, hasB, boundB, PF.parts, dropAll, dropP, setP, onlyM, fitsR, fitsB, typM, closeParts, ha]
end Go.Proofs.YtlcffjmbfpdlbaaDoor

namespace Go.Proofs.YtlcffjmbfpdlbaaDoor
open Go.RowKit

/-- A kind that has letters. -/
theorem what_some {k : Int} {l : List UInt8} (h : whatM k = some l) : (k = 0 ∧ l = [97]) ∨ (k = 16 ∧ l = [97]) ∨ (k = 20 ∧ l = [97]) ∨ (k = 1 ∧ l = []) ∨ (k = 30 ∧ l = []) ∨ (k = 2 ∧ l = [98, 114]) ∨ (k = 4 ∧ l = [105, 99, 97]) ∨ (k = 5 ∧ l = [105, 99]) ∨ (k = 6 ∧ l = [97, 100]) ∨ (k = 7 ∧ l = [100]) ∨ (k = 26 ∧ l = [100]) ∨ (k = 27 ∧ l = [100]) ∨ (k = 8 ∧ l = [105, 97, 102, 100]) ∨ (k = 17 ∧ l = [105, 97]) ∨ (k = 21 ∧ l = [105, 97]) ∨ (k = 18 ∧ l = [97, 102]) ∨ (k = 22 ∧ l = [97, 102]) ∨ (k = 24 ∧ l = [105, 97, 100, 116]) ∨ (k = 25 ∧ l = [105]) ∨ (k = 28 ∧ l = [99, 97, 102, 100]) := by
  unfold whatM at h
  simp only [Option.map_eq_some_iff] at h
  obtain ⟨x, hx, rfl⟩ := h
  have hk : x.1 = k := by have := List.find?_some hx; simpa using this
  have hm := List.mem_of_find?_eq_some hx
  simp only [whatL, List.mem_cons, List.not_mem_nil, or_false] at hm
  rcases hm with rfl | rfl | rfl | rfl | rfl | rfl | rfl | rfl | rfl | rfl | rfl | rfl | rfl | rfl | rfl | rfl | rfl | rfl | rfl | rfl
  all_goals (simp only at hk; subst hk; simp)

theorem right_doc {f : Fr} {l : List UInt8} (h : whatM f.kind = some l) : rightB f = (boundB f && (decide (f = onlyM f l) && fitsR f)) := by
  obtain ⟨k, id, a, b, c, fl, dt, rg, tk⟩ := f
  have hk := what_some h
  simp only at h hk
  rcases hk with ⟨rfl, rfl⟩ | ⟨rfl, rfl⟩ | ⟨rfl, rfl⟩ | ⟨rfl, rfl⟩ | ⟨rfl, rfl⟩ | ⟨rfl, rfl⟩ | ⟨rfl, rfl⟩ | ⟨rfl, rfl⟩ | ⟨rfl, rfl⟩ | ⟨rfl, rfl⟩ | ⟨rfl, rfl⟩ | ⟨rfl, rfl⟩ | ⟨rfl, rfl⟩ | ⟨rfl, rfl⟩ | ⟨rfl, rfl⟩ | ⟨rfl, rfl⟩ | ⟨rfl, rfl⟩ | ⟨rfl, rfl⟩ | ⟨rfl, rfl⟩ | ⟨rfl, rfl⟩
  · exact rdoc_0 id a b c fl dt rg tk
  · exact rdoc_16 id a b c fl dt rg tk
  · exact rdoc_20 id a b c fl dt rg tk
  · exact rdoc_1 id a b c fl dt rg tk
  · exact rdoc_30 id a b c fl dt rg tk
  · exact rdoc_2 id a b c fl dt rg tk
  · exact rdoc_4 id a b c fl dt rg tk
  · exact rdoc_5 id a b c fl dt rg tk
  · exact rdoc_6 id a b c fl dt rg tk
  · exact rdoc_7 id a b c fl dt rg tk
  · exact rdoc_26 id a b c fl dt rg tk
  · exact rdoc_27 id a b c fl dt rg tk
  · exact rdoc_8 id a b c fl dt rg tk
  · exact rdoc_17 id a b c fl dt rg tk
  · exact rdoc_21 id a b c fl dt rg tk
  · exact rdoc_18 id a b c fl dt rg tk
  · exact rdoc_22 id a b c fl dt rg tk
  · exact rdoc_24 id a b c fl dt rg tk
  · exact rdoc_25 id a b c fl dt rg tk
  · exact rdoc_28 id a b c fl dt rg tk
theorem right_none {f : Fr} (of : f.Ok) (h : whatM f.kind = none) : rightB f = false := by
  unfold rightB
  cases hd : kdM (keyM f.kind) with
  | none => rfl
  | some d =>
    have hsm := keyM_small f.kind of.k0 of.k1 (kdM_lt hd)
    unfold kdM at hd
    simp only [Option.map_eq_some_iff] at hd
    obtain ⟨x, hx, rfl⟩ := hd
    have hk : x.1 = keyM f.kind := by have := List.find?_some hx; simpa using this
    have hm := List.mem_of_find?_eq_some hx
    simp only [kdL, List.mem_cons, List.not_mem_nil, or_false] at hm
    exfalso
    rcases hm with rfl | rfl | rfl | rfl | rfl | rfl | rfl | rfl | rfl | rfl | rfl | rfl | rfl | rfl | rfl | rfl | rfl | rfl | rfl | rfl
    all_goals
      simp only at hk
      rw [show f.kind = _ from (by omega : f.kind = ((f.kind.toNat : Nat) : Int)), show f.kind.toNat = _ from (hsm.2.2.symm.trans hk.symm)] at h
      cases h

/-- What is told of a frame by its kind's letters, the document's. -/
theorem only_any {f : Fr} {l : List UInt8} (h : whatM f.kind = some l) (ht : f.tok.length = 16) (A B : Option Addr) (c d : Nat) :
    ∃ sd' sr', (∀ w, Calls Tryd.prog 18 #[.agg (cellsF f (.slice A f.data.length c) (.slice B f.ranges.length d)).toArray, .string (whatS f.kind)] w fun e w' => e = .returned (.agg (cellsF (onlyM f l) sd' sr').toArray) ∧ Chg none_ w w') ∧
      (∀ w T, FrD w T f (.slice A f.data.length c) (.slice B f.ranges.length d) → FrD w T (onlyM f l) sd' sr') := by
  have hk := what_some h
  rcases hk with ⟨hk, rfl⟩ | ⟨hk, rfl⟩ | ⟨hk, rfl⟩ | ⟨hk, rfl⟩ | ⟨hk, rfl⟩ | ⟨hk, rfl⟩ | ⟨hk, rfl⟩ | ⟨hk, rfl⟩ | ⟨hk, rfl⟩ | ⟨hk, rfl⟩ | ⟨hk, rfl⟩ | ⟨hk, rfl⟩ | ⟨hk, rfl⟩ | ⟨hk, rfl⟩ | ⟨hk, rfl⟩ | ⟨hk, rfl⟩ | ⟨hk, rfl⟩ | ⟨hk, rfl⟩ | ⟨hk, rfl⟩ | ⟨hk, rfl⟩
  · have hS : whatS f.kind = ⟨#[97]⟩ := by rw [hk]; rfl
    rw [hS]
    refine ⟨.slice none 0 0, .slice none 0 0, fun w => ?_, fun w T hf => ?_⟩
    · have := only_a f A B f.data.length c f.ranges.length d ht w
      simpa [onlyM] using this
    · obtain ⟨h1, ⟨A', c', h2, h3, h4⟩, ⟨B', d', h5, h6, h7⟩⟩ := hf
      exact ⟨by simp [onlyM], ⟨none, 0, by simp [onlyM], by simp [onlyM], by simpa [onlyM, u8s] using View.none_ _ _ _⟩, ⟨none, 0, by simp [onlyM], ⟨by simp [onlyM], by simp [onlyM]⟩, by simpa [onlyM, rcells] using View.none_ _ _ _⟩⟩
  · have hS : whatS f.kind = ⟨#[97]⟩ := by rw [hk]; rfl
    rw [hS]
    refine ⟨.slice none 0 0, .slice none 0 0, fun w => ?_, fun w T hf => ?_⟩
    · have := only_a f A B f.data.length c f.ranges.length d ht w
      simpa [onlyM] using this
    · obtain ⟨h1, ⟨A', c', h2, h3, h4⟩, ⟨B', d', h5, h6, h7⟩⟩ := hf
      exact ⟨by simp [onlyM], ⟨none, 0, by simp [onlyM], by simp [onlyM], by simpa [onlyM, u8s] using View.none_ _ _ _⟩, ⟨none, 0, by simp [onlyM], ⟨by simp [onlyM], by simp [onlyM]⟩, by simpa [onlyM, rcells] using View.none_ _ _ _⟩⟩
  · have hS : whatS f.kind = ⟨#[97]⟩ := by rw [hk]; rfl
    rw [hS]
    refine ⟨.slice none 0 0, .slice none 0 0, fun w => ?_, fun w T hf => ?_⟩
    · have := only_a f A B f.data.length c f.ranges.length d ht w
      simpa [onlyM] using this
    · obtain ⟨h1, ⟨A', c', h2, h3, h4⟩, ⟨B', d', h5, h6, h7⟩⟩ := hf
      exact ⟨by simp [onlyM], ⟨none, 0, by simp [onlyM], by simp [onlyM], by simpa [onlyM, u8s] using View.none_ _ _ _⟩, ⟨none, 0, by simp [onlyM], ⟨by simp [onlyM], by simp [onlyM]⟩, by simpa [onlyM, rcells] using View.none_ _ _ _⟩⟩
  · have hS : whatS f.kind = ⟨#[]⟩ := by rw [hk]; rfl
    rw [hS]
    refine ⟨.slice none 0 0, .slice none 0 0, fun w => ?_, fun w T hf => ?_⟩
    · have := only_e f A B f.data.length c f.ranges.length d ht w
      simpa [onlyM] using this
    · obtain ⟨h1, ⟨A', c', h2, h3, h4⟩, ⟨B', d', h5, h6, h7⟩⟩ := hf
      exact ⟨by simp [onlyM], ⟨none, 0, by simp [onlyM], by simp [onlyM], by simpa [onlyM, u8s] using View.none_ _ _ _⟩, ⟨none, 0, by simp [onlyM], ⟨by simp [onlyM], by simp [onlyM]⟩, by simpa [onlyM, rcells] using View.none_ _ _ _⟩⟩
  · have hS : whatS f.kind = ⟨#[]⟩ := by rw [hk]; rfl
    rw [hS]
    refine ⟨.slice none 0 0, .slice none 0 0, fun w => ?_, fun w T hf => ?_⟩
    · have := only_e f A B f.data.length c f.ranges.length d ht w
      simpa [onlyM] using this
    · obtain ⟨h1, ⟨A', c', h2, h3, h4⟩, ⟨B', d', h5, h6, h7⟩⟩ := hf
      exact ⟨by simp [onlyM], ⟨none, 0, by simp [onlyM], by simp [onlyM], by simpa [onlyM, u8s] using View.none_ _ _ _⟩, ⟨none, 0, by simp [onlyM], ⟨by simp [onlyM], by simp [onlyM]⟩, by simpa [onlyM, rcells] using View.none_ _ _ _⟩⟩
  · have hS : whatS f.kind = ⟨#[98, 114]⟩ := by rw [hk]; rfl
    rw [hS]
    refine ⟨.slice none 0 0, .slice B f.ranges.length d, fun w => ?_, fun w T hf => ?_⟩
    · have := only_br f A B f.data.length c f.ranges.length d ht w
      simpa [onlyM] using this
    · obtain ⟨h1, ⟨A', c', h2, h3, h4⟩, ⟨B', d', h5, h6, h7⟩⟩ := hf
      exact ⟨by simp [onlyM], ⟨none, 0, by simp [onlyM], by simp [onlyM], by simpa [onlyM, u8s] using View.none_ _ _ _⟩, ⟨B', d', by simpa [onlyM] using h5, by simpa [onlyM] using h6, by simpa [onlyM] using h7⟩⟩
  · have hS : whatS f.kind = ⟨#[105, 99, 97]⟩ := by rw [hk]; rfl
    rw [hS]
    refine ⟨.slice none 0 0, .slice none 0 0, fun w => ?_, fun w T hf => ?_⟩
    · have := only_ica f A B f.data.length c f.ranges.length d ht w
      simpa [onlyM] using this
    · obtain ⟨h1, ⟨A', c', h2, h3, h4⟩, ⟨B', d', h5, h6, h7⟩⟩ := hf
      exact ⟨by simp [onlyM], ⟨none, 0, by simp [onlyM], by simp [onlyM], by simpa [onlyM, u8s] using View.none_ _ _ _⟩, ⟨none, 0, by simp [onlyM], ⟨by simp [onlyM], by simp [onlyM]⟩, by simpa [onlyM, rcells] using View.none_ _ _ _⟩⟩
  · have hS : whatS f.kind = ⟨#[105, 99]⟩ := by rw [hk]; rfl
    rw [hS]
    refine ⟨.slice none 0 0, .slice none 0 0, fun w => ?_, fun w T hf => ?_⟩
    · have := only_ic f A B f.data.length c f.ranges.length d ht w
      simpa [onlyM] using this
    · obtain ⟨h1, ⟨A', c', h2, h3, h4⟩, ⟨B', d', h5, h6, h7⟩⟩ := hf
      exact ⟨by simp [onlyM], ⟨none, 0, by simp [onlyM], by simp [onlyM], by simpa [onlyM, u8s] using View.none_ _ _ _⟩, ⟨none, 0, by simp [onlyM], ⟨by simp [onlyM], by simp [onlyM]⟩, by simpa [onlyM, rcells] using View.none_ _ _ _⟩⟩
  · have hS : whatS f.kind = ⟨#[97, 100]⟩ := by rw [hk]; rfl
    rw [hS]
    refine ⟨.slice A f.data.length c, .slice none 0 0, fun w => ?_, fun w T hf => ?_⟩
    · have := only_ad f A B f.data.length c f.ranges.length d ht w
      simpa [onlyM] using this
    · obtain ⟨h1, ⟨A', c', h2, h3, h4⟩, ⟨B', d', h5, h6, h7⟩⟩ := hf
      exact ⟨by simp [onlyM], ⟨A', c', by simpa [onlyM] using h2, by simpa [onlyM] using h3, by simpa [onlyM] using h4⟩, ⟨none, 0, by simp [onlyM], ⟨by simp [onlyM], by simp [onlyM]⟩, by simpa [onlyM, rcells] using View.none_ _ _ _⟩⟩
  · have hS : whatS f.kind = ⟨#[100]⟩ := by rw [hk]; rfl
    rw [hS]
    refine ⟨.slice A f.data.length c, .slice none 0 0, fun w => ?_, fun w T hf => ?_⟩
    · have := only_d f A B f.data.length c f.ranges.length d ht w
      simpa [onlyM] using this
    · obtain ⟨h1, ⟨A', c', h2, h3, h4⟩, ⟨B', d', h5, h6, h7⟩⟩ := hf
      exact ⟨by simp [onlyM], ⟨A', c', by simpa [onlyM] using h2, by simpa [onlyM] using h3, by simpa [onlyM] using h4⟩, ⟨none, 0, by simp [onlyM], ⟨by simp [onlyM], by simp [onlyM]⟩, by simpa [onlyM, rcells] using View.none_ _ _ _⟩⟩
  · have hS : whatS f.kind = ⟨#[100]⟩ := by rw [hk]; rfl
    rw [hS]
    refine ⟨.slice A f.data.length c, .slice none 0 0, fun w => ?_, fun w T hf => ?_⟩
    · have := only_d f A B f.data.length c f.ranges.length d ht w
      simpa [onlyM] using this
    · obtain ⟨h1, ⟨A', c', h2, h3, h4⟩, ⟨B', d', h5, h6, h7⟩⟩ := hf
      exact ⟨by simp [onlyM], ⟨A', c', by simpa [onlyM] using h2, by simpa [onlyM] using h3, by simpa [onlyM] using h4⟩, ⟨none, 0, by simp [onlyM], ⟨by simp [onlyM], by simp [onlyM]⟩, by simpa [onlyM, rcells] using View.none_ _ _ _⟩⟩
  · have hS : whatS f.kind = ⟨#[100]⟩ := by rw [hk]; rfl
    rw [hS]
    refine ⟨.slice A f.data.length c, .slice none 0 0, fun w => ?_, fun w T hf => ?_⟩
    · have := only_d f A B f.data.length c f.ranges.length d ht w
      simpa [onlyM] using this
    · obtain ⟨h1, ⟨A', c', h2, h3, h4⟩, ⟨B', d', h5, h6, h7⟩⟩ := hf
      exact ⟨by simp [onlyM], ⟨A', c', by simpa [onlyM] using h2, by simpa [onlyM] using h3, by simpa [onlyM] using h4⟩, ⟨none, 0, by simp [onlyM], ⟨by simp [onlyM], by simp [onlyM]⟩, by simpa [onlyM, rcells] using View.none_ _ _ _⟩⟩
  · have hS : whatS f.kind = ⟨#[105, 97, 102, 100]⟩ := by rw [hk]; rfl
    rw [hS]
    refine ⟨.slice A f.data.length c, .slice none 0 0, fun w => ?_, fun w T hf => ?_⟩
    · have := only_iafd f A B f.data.length c f.ranges.length d ht w
      simpa [onlyM] using this
    · obtain ⟨h1, ⟨A', c', h2, h3, h4⟩, ⟨B', d', h5, h6, h7⟩⟩ := hf
      exact ⟨by simp [onlyM], ⟨A', c', by simpa [onlyM] using h2, by simpa [onlyM] using h3, by simpa [onlyM] using h4⟩, ⟨none, 0, by simp [onlyM], ⟨by simp [onlyM], by simp [onlyM]⟩, by simpa [onlyM, rcells] using View.none_ _ _ _⟩⟩
  · have hS : whatS f.kind = ⟨#[105, 97]⟩ := by rw [hk]; rfl
    rw [hS]
    refine ⟨.slice none 0 0, .slice none 0 0, fun w => ?_, fun w T hf => ?_⟩
    · have := only_ia f A B f.data.length c f.ranges.length d ht w
      simpa [onlyM] using this
    · obtain ⟨h1, ⟨A', c', h2, h3, h4⟩, ⟨B', d', h5, h6, h7⟩⟩ := hf
      exact ⟨by simp [onlyM], ⟨none, 0, by simp [onlyM], by simp [onlyM], by simpa [onlyM, u8s] using View.none_ _ _ _⟩, ⟨none, 0, by simp [onlyM], ⟨by simp [onlyM], by simp [onlyM]⟩, by simpa [onlyM, rcells] using View.none_ _ _ _⟩⟩
  · have hS : whatS f.kind = ⟨#[105, 97]⟩ := by rw [hk]; rfl
    rw [hS]
    refine ⟨.slice none 0 0, .slice none 0 0, fun w => ?_, fun w T hf => ?_⟩
    · have := only_ia f A B f.data.length c f.ranges.length d ht w
      simpa [onlyM] using this
    · obtain ⟨h1, ⟨A', c', h2, h3, h4⟩, ⟨B', d', h5, h6, h7⟩⟩ := hf
      exact ⟨by simp [onlyM], ⟨none, 0, by simp [onlyM], by simp [onlyM], by simpa [onlyM, u8s] using View.none_ _ _ _⟩, ⟨none, 0, by simp [onlyM], ⟨by simp [onlyM], by simp [onlyM]⟩, by simpa [onlyM, rcells] using View.none_ _ _ _⟩⟩
  · have hS : whatS f.kind = ⟨#[97, 102]⟩ := by rw [hk]; rfl
    rw [hS]
    refine ⟨.slice none 0 0, .slice none 0 0, fun w => ?_, fun w T hf => ?_⟩
    · have := only_af f A B f.data.length c f.ranges.length d ht w
      simpa [onlyM] using this
    · obtain ⟨h1, ⟨A', c', h2, h3, h4⟩, ⟨B', d', h5, h6, h7⟩⟩ := hf
      exact ⟨by simp [onlyM], ⟨none, 0, by simp [onlyM], by simp [onlyM], by simpa [onlyM, u8s] using View.none_ _ _ _⟩, ⟨none, 0, by simp [onlyM], ⟨by simp [onlyM], by simp [onlyM]⟩, by simpa [onlyM, rcells] using View.none_ _ _ _⟩⟩
  · have hS : whatS f.kind = ⟨#[97, 102]⟩ := by rw [hk]; rfl
    rw [hS]
    refine ⟨.slice none 0 0, .slice none 0 0, fun w => ?_, fun w T hf => ?_⟩
    · have := only_af f A B f.data.length c f.ranges.length d ht w
      simpa [onlyM] using this
    · obtain ⟨h1, ⟨A', c', h2, h3, h4⟩, ⟨B', d', h5, h6, h7⟩⟩ := hf
      exact ⟨by simp [onlyM], ⟨none, 0, by simp [onlyM], by simp [onlyM], by simpa [onlyM, u8s] using View.none_ _ _ _⟩, ⟨none, 0, by simp [onlyM], ⟨by simp [onlyM], by simp [onlyM]⟩, by simpa [onlyM, rcells] using View.none_ _ _ _⟩⟩
  · have hS : whatS f.kind = ⟨#[105, 97, 100, 116]⟩ := by rw [hk]; rfl
    rw [hS]
    refine ⟨.slice A f.data.length c, .slice none 0 0, fun w => ?_, fun w T hf => ?_⟩
    · have := only_iadt f A B f.data.length c f.ranges.length d ht w
      simpa [onlyM] using this
    · obtain ⟨h1, ⟨A', c', h2, h3, h4⟩, ⟨B', d', h5, h6, h7⟩⟩ := hf
      exact ⟨by simp [onlyM, h1], ⟨A', c', by simpa [onlyM] using h2, by simpa [onlyM] using h3, by simpa [onlyM] using h4⟩, ⟨none, 0, by simp [onlyM], ⟨by simp [onlyM], by simp [onlyM]⟩, by simpa [onlyM, rcells] using View.none_ _ _ _⟩⟩
  · have hS : whatS f.kind = ⟨#[105]⟩ := by rw [hk]; rfl
    rw [hS]
    refine ⟨.slice none 0 0, .slice none 0 0, fun w => ?_, fun w T hf => ?_⟩
    · have := only_i f A B f.data.length c f.ranges.length d ht w
      simpa [onlyM] using this
    · obtain ⟨h1, ⟨A', c', h2, h3, h4⟩, ⟨B', d', h5, h6, h7⟩⟩ := hf
      exact ⟨by simp [onlyM], ⟨none, 0, by simp [onlyM], by simp [onlyM], by simpa [onlyM, u8s] using View.none_ _ _ _⟩, ⟨none, 0, by simp [onlyM], ⟨by simp [onlyM], by simp [onlyM]⟩, by simpa [onlyM, rcells] using View.none_ _ _ _⟩⟩
  · have hS : whatS f.kind = ⟨#[99, 97, 102, 100]⟩ := by rw [hk]; rfl
    rw [hS]
    refine ⟨.slice A f.data.length c, .slice none 0 0, fun w => ?_, fun w T hf => ?_⟩
    · have := only_cafd f A B f.data.length c f.ranges.length d ht w
      simpa [onlyM] using this
    · obtain ⟨h1, ⟨A', c', h2, h3, h4⟩, ⟨B', d', h5, h6, h7⟩⟩ := hf
      exact ⟨by simp [onlyM], ⟨A', c', by simpa [onlyM] using h2, by simpa [onlyM] using h3, by simpa [onlyM] using h4⟩, ⟨none, 0, by simp [onlyM], ⟨by simp [onlyM], by simp [onlyM]⟩, by simpa [onlyM, rcells] using View.none_ _ _ _⟩⟩
end Go.Proofs.YtlcffjmbfpdlbaaDoor

namespace Go.Proofs.YtlcffjmbfpdlbaaDoor
open Go.RowKit

set_option maxRecDepth 100000 in
set_option maxHeartbeats 4000000 in
theorem rright_none (f : Fr) (sd sr : Value) (w : World) (h : whatM f.kind = none) :
    Calls Tryd.prog 7 #[.agg (cellsF f sd sr).toArray] w fun e w' => e = .returned (.bool false) ∧ Chg none_ w w' := by
  have HWH : Hid (∀ w, Calls Tryd.prog 17 #[.int .i64 f.kind] w fun e w' => e = .returned (.string ⟨#[63]⟩) ∧ w' = w) := Lib.hid (fun w => by have := what_any f.kind w; rw [show whatS f.kind = ⟨#[63]⟩ by unfold whatS; rw [h]] at this; exact this)
  clear h
  go_enter Tryd.func7, Tryd.ntmps7
  go_wp2_with (first | ((with_reducible show wpList _ _ _ (⟨some 1, .box _ _, _, _, _, _⟩ :: _) _ _); refine wpList_box_Row rfl rfl (cellsF f sd sr) rfl ?_; intro w1 hr1 hc1 hs1; have HR1 := Lib.hid hr1; have HC1 := Lib.hid hc1; have q0 := (hr1.cell 0).trans (cF_0 f sd sr); clear hr1 hc1 hs1) | (go_at_call 17; refine (HWH.out _).mono ?_; rintro e w1 ⟨rfl, rfl⟩))
  go_quiet (fail)
  go_wp2
  go_ret
  exact ⟨rfl, HC1.out.drewN _⟩

set_option maxRecDepth 100000 in
set_option maxHeartbeats 4000000 in
theorem rright_one (f : Fr) (sd sr : Value) (T : Nat → Prop) (w : World) (l : List UInt8) (h : whatM f.kind = some l) (hf : FrD w T f sd sr) (hd : decide (f = onlyM f l) = false) :
    Calls Tryd.prog 7 #[.agg (cellsF f sd sr).toArray] w fun e w' => e = .returned (.bool false) ∧ Chg none_ w w' := by
  have HSZ : Hid ((Tryd.prog.info? 27).map (·.size) = some (cellsF f sd sr).length) := Lib.hid (by rw [cF_len _ _ _ hf.tok]; exact size27)
  obtain ⟨sd', sr', HON, HSM, HWH, HQ⟩ : ∃ sd' sr', Hid (∀ w, Calls Tryd.prog 18 #[.agg (cellsF f sd sr).toArray, .string (whatS f.kind)] w fun e w' => e = .returned (.agg (cellsF (onlyM f l) sd' sr').toArray) ∧ Chg none_ w w') ∧
      Hid (∀ w', Chg none_ w w' → Calls Tryd.prog 12 #[.agg (cellsF f sd sr).toArray, .agg (cellsF (onlyM f l) sd' sr').toArray] w' fun e w'' => e = .returned (.bool (decide (f = onlyM f l))) ∧ Chg none_ w' w'') ∧
      Hid (∀ w, Calls Tryd.prog 17 #[.int .i64 f.kind] w fun e w' => e = .returned (.string (whatS f.kind)) ∧ w' = w) ∧ ¬ (whatS f.kind).toList = [63] := by
    obtain ⟨A, c, rfl, _, _⟩ := hf.data
    obtain ⟨B, d, rfl, _, _⟩ := hf.ranges
    obtain ⟨sd', sr', h1, h2⟩ := only_any h hf.tok A B c d
    refine ⟨sd', sr', Lib.hid h1, Lib.hid (fun w' hc => ?_), Lib.hid (fun w => what_any f.kind w), ?_⟩
    · have hf' := hf.chg hc (fun _ _ h => h)
      exact rsameF_any f (onlyM f l) _ _ sd' sr' w' T T hf' (h2 w' T hf')
    · rcases what_some h with ⟨hk, rfl⟩ | ⟨hk, rfl⟩ | ⟨hk, rfl⟩ | ⟨hk, rfl⟩ | ⟨hk, rfl⟩ | ⟨hk, rfl⟩ | ⟨hk, rfl⟩ | ⟨hk, rfl⟩ | ⟨hk, rfl⟩ | ⟨hk, rfl⟩ | ⟨hk, rfl⟩ | ⟨hk, rfl⟩ | ⟨hk, rfl⟩ | ⟨hk, rfl⟩ | ⟨hk, rfl⟩ | ⟨hk, rfl⟩ | ⟨hk, rfl⟩ | ⟨hk, rfl⟩ | ⟨hk, rfl⟩ | ⟨hk, rfl⟩
      all_goals (rw [hk]; decide +kernel)
  generalize hgo : onlyM f l = g at *
  generalize whatS f.kind = S at *
  rw [hd] at HSM
  clear h hf
  go_enter Tryd.func7, Tryd.ntmps7
  go_wp2_with (first | ((with_reducible show wpList _ _ _ (⟨some 1, .box _ _, _, _, _, _⟩ :: _) _ _); refine wpList_box_Row rfl rfl (cellsF f sd sr) rfl ?_; intro w1 hr1 hc1 hs1; have HR1 := Lib.hid hr1; have HC1 := Lib.hid hc1; have q0 := (hr1.cell 0).trans (cF_0 f sd sr); clear hr1 hc1 hs1) | (go_at_call 17; refine (HWH.out _).mono ?_; rintro e w1 ⟨rfl, rfl⟩))
  obtain ⟨gR, hgR⟩ : ∃ g, g = w.heap.size := ⟨_, rfl⟩
  have HRX := Lib.hid (show ∀ x, Chg none_ w1 x → Row x gR 27 (cellsF f sd sr) from fun x hx => by rw [hgR]; exact HR1.out.chg hx (fun h => h))
  have HSM := Lib.hid (fun x (hx : Chg none_ w1 x) => HSM.out x (HC1.out.trans hx))
  rw [← hgR]
  clear hgR HR1
  refine wp_region_held_drew (S := fun x => Chg none_ w1 x) (by kernel_rfl) ((Chg.refl none_ w1).drew) (fun hch0 => ?_)
  have hz : Chg none_ w1 w1.drew := (Chg.refl none_ w1).drew
  generalize w1.drew = wz at hz ⊢
  clear hch0
  refine wpAnyH_take (i := 0) (v := .string S) rfl (by kernel_rfl) (by kernel_rfl) (by kernel_rfl) (by first | exact fun _ _ _ h => h | exact fun _ _ _ h => nomatch h.1) (Or.inl ⟨by rfl, fun w_ hw_ => by go_simp⟩) hz ?_
  try simp only [Act.put, List.setIfInBounds_toArray, List.set_cons_zero, List.set_cons_succ, List.getElem_toArray, List.getElem_cons_zero]
  refine wpAnyH_take (i := 1) (v := .bool false) rfl (by kernel_rfl) (by kernel_rfl) (by kernel_rfl) (by first | exact fun _ _ _ h => h | exact fun _ _ _ h => nomatch h.1) (Or.inl ⟨by rfl, fun w_ hw_ => by go_simp⟩) hz ?_
  try simp only [Act.put, List.setIfInBounds_toArray, List.set_cons_zero, List.set_cons_succ, List.getElem_toArray, List.getElem_cons_succ, List.getElem_cons_zero]
  refine wpAnyH_take (i := 2) (v := .bool false) rfl (by kernel_rfl) (by kernel_rfl) (by kernel_rfl) (by first | exact fun _ _ _ h => h | exact fun _ _ _ h => nomatch h.1) (Or.inl ⟨by rfl, fun w_ hw_ => by go_simp⟩) hz ?_
  try simp only [Act.put, List.setIfInBounds_toArray, List.set_cons_zero, List.set_cons_succ, List.getElem_toArray, List.getElem_cons_succ, List.getElem_cons_zero]
  refine wpAnyH_take (i := 3) (v := .agg (cellsF f sd sr).toArray) rfl (by kernel_rfl) (by kernel_rfl) (by kernel_rfl) (by first | exact fun _ _ _ h => h | exact fun _ _ _ h => nomatch h.1) (yieldsIf_load_mid (by rfl) 27 _ rfl gR 0 rfl (cellsF f sd sr) _ (fun x hx => (HRX.out x hx).rangeMid 0 _ (fun j v hv => by rw [Nat.zero_add]; exact hv)) Tryd.underlying27 rfl HSZ.out) hz ?_
  try simp only [Act.put, List.setIfInBounds_toArray, List.set_cons_zero, List.set_cons_succ, List.getElem_toArray, List.getElem_cons_succ, List.getElem_cons_zero]
  refine wpAnyH_take (i := 4) (v := .agg (cellsF f sd sr).toArray) rfl (by kernel_rfl) (by kernel_rfl) (by kernel_rfl) (by first | exact fun _ _ _ h => h | exact fun _ _ _ h => nomatch h.1) (yieldsIf_load_mid (by rfl) 27 _ rfl gR 0 rfl (cellsF f sd sr) _ (fun x hx => (HRX.out x hx).rangeMid 0 _ (fun j v hv => by rw [Nat.zero_add]; exact hv)) Tryd.underlying27 rfl HSZ.out) hz ?_
  try simp only [Act.put, List.setIfInBounds_toArray, List.set_cons_zero, List.set_cons_succ, List.getElem_toArray, List.getElem_cons_succ, List.getElem_cons_zero]
  refine wpAnyH_take (i := 5) (v := .string S) rfl (by kernel_rfl) (by kernel_rfl) (by kernel_rfl) (by first | exact fun _ _ _ h => h | exact fun _ _ _ h => nomatch h.1) (Or.inl ⟨by rfl, fun w_ hw_ => by go_simp⟩) hz ?_
  try simp only [Act.put, List.setIfInBounds_toArray, List.set_cons_zero, List.set_cons_succ, List.getElem_toArray, List.getElem_cons_succ, List.getElem_cons_zero]
  refine wpAnyH_ready (rs := [6]) (by kernel_rfl) (by simp) ?_
  refine AllReadyH.cons rfl (fun K hK => ?_) AllReadyH.nil
  rw [if_pos (by rfl)]
  try simp only [List.getElem_toArray, List.getElem_cons_succ, List.getElem_cons_zero]
  go_simp
  refine (HON.out _).mono ?_
  rintro e y1 ⟨rfl, hcx⟩
  have hz := hz.trans hcx
  clear hcx
  refine hK.out _ _ hz (fun _ => ?_)
  clear hK K
  try simp only [Act.put, List.setIfInBounds_toArray, List.set_cons_zero, List.set_cons_succ, List.getElem_toArray, List.getElem_cons_succ, List.getElem_cons_zero]
  refine wpAnyH_ready (rs := [7]) (by kernel_rfl) (by simp) ?_
  refine AllReadyH.cons rfl (fun K hK => ?_) AllReadyH.nil
  rw [if_pos (by rfl)]
  try simp only [List.getElem_toArray, List.getElem_cons_succ, List.getElem_cons_zero]
  go_simp
  refine (HSM.out _ hz).mono ?_
  rintro e y2 ⟨rfl, hcx⟩
  have hz := hz.trans hcx
  clear hcx
  refine hK.out _ _ hz (fun _ => ?_)
  clear hK K
  try simp only [Act.put, List.setIfInBounds_toArray, List.set_cons_zero, List.set_cons_succ, List.getElem_toArray, List.getElem_cons_succ, List.getElem_cons_zero]
  refine wpAnyH_take (i := 8) (v := .bool true) rfl (by kernel_rfl) (by kernel_rfl) (by kernel_rfl) (by first | exact fun _ _ _ h => h | exact fun _ _ _ h => nomatch h.1) (Or.inl ⟨by rfl, fun w_ hw_ => by go_simp⟩) hz ?_
  try simp only [Act.put, List.setIfInBounds_toArray, List.set_cons_zero, List.set_cons_succ, List.getElem_toArray, List.getElem_cons_succ, List.getElem_cons_zero]
  refine wpAnyH_take (i := 9) (v := .bool true) rfl (by kernel_rfl) (by kernel_rfl) (by kernel_rfl) (by first | exact fun _ _ _ h => h | exact fun _ _ _ h => nomatch h.1) (Or.inl ⟨by rfl, fun w_ hw_ => by go_simp⟩) hz ?_
  try simp only [Act.put, List.setIfInBounds_toArray, List.set_cons_zero, List.set_cons_succ, List.getElem_toArray, List.getElem_cons_succ, List.getElem_cons_zero]
  refine wpAnyH_take (i := 10) (v := .bool true) rfl (by kernel_rfl) (by kernel_rfl) (by kernel_rfl) (by first | exact fun _ _ _ h => h | exact fun _ _ _ h => nomatch h.1) (Or.inl ⟨by rfl, fun w_ hw_ => by go_simp⟩) hz ?_
  try simp only [Act.put, List.setIfInBounds_toArray, List.set_cons_zero, List.set_cons_succ, List.getElem_toArray, List.getElem_cons_succ, List.getElem_cons_zero]
  refine wpAnyH_take (i := 11) (v := undef) rfl (by kernel_rfl) (by kernel_rfl) (by kernel_rfl) (by first | exact fun _ _ _ h => h | exact fun _ _ _ h => nomatch h.1) (Or.inr ⟨by rfl, rfl⟩) hz ?_
  try simp only [Act.put, List.setIfInBounds_toArray, List.set_cons_zero, List.set_cons_succ, List.getElem_toArray, List.getElem_cons_succ, List.getElem_cons_zero]
  refine wpAnyH_take (i := 12) (v := undef) rfl (by kernel_rfl) (by kernel_rfl) (by kernel_rfl) (by first | exact fun _ _ _ h => h | exact fun _ _ _ h => nomatch h.1) (Or.inr ⟨by rfl, rfl⟩) hz ?_
  try simp only [Act.put, List.setIfInBounds_toArray, List.set_cons_zero, List.set_cons_succ, List.getElem_toArray, List.getElem_cons_succ, List.getElem_cons_zero]
  refine wpAnyH_take (i := 13) (v := undef) rfl (by kernel_rfl) (by kernel_rfl) (by kernel_rfl) (by first | exact fun _ _ _ h => h | exact fun _ _ _ h => nomatch h.1) (Or.inr ⟨by rfl, rfl⟩) hz ?_
  try simp only [Act.put, List.setIfInBounds_toArray, List.set_cons_zero, List.set_cons_succ, List.getElem_toArray, List.getElem_cons_succ, List.getElem_cons_zero]
  refine wpAnyH_take (i := 14) (v := .bool true) rfl (by kernel_rfl) (by kernel_rfl) (by kernel_rfl) (by first | exact fun _ _ _ h => h | exact fun _ _ _ h => nomatch h.1) (Or.inl ⟨by rfl, fun w_ hw_ => by go_simp⟩) hz ?_
  try simp only [Act.put, List.setIfInBounds_toArray, List.set_cons_zero, List.set_cons_succ, List.getElem_toArray, List.getElem_cons_succ, List.getElem_cons_zero]
  refine wpAnyH_take (i := 15) (v := .bool true) rfl (by kernel_rfl) (by kernel_rfl) (by kernel_rfl) (by first | exact fun _ _ _ h => h | exact fun _ _ _ h => nomatch h.1) (Or.inl ⟨by rfl, fun w_ hw_ => by go_simp⟩) hz ?_
  try simp only [Act.put, List.setIfInBounds_toArray, List.set_cons_zero, List.set_cons_succ, List.getElem_toArray, List.getElem_cons_succ, List.getElem_cons_zero]
  refine wpAnyH_take (i := 16) (v := undef) rfl (by kernel_rfl) (by kernel_rfl) (by kernel_rfl) (by first | exact fun _ _ _ h => h | exact fun _ _ _ h => nomatch h.1) (Or.inr ⟨by rfl, rfl⟩) hz ?_
  try simp only [Act.put, List.setIfInBounds_toArray, List.set_cons_zero, List.set_cons_succ, List.getElem_toArray, List.getElem_cons_succ, List.getElem_cons_zero]
  refine wpAnyH_take (i := 17) (v := undef) rfl (by kernel_rfl) (by kernel_rfl) (by kernel_rfl) (by first | exact fun _ _ _ h => h | exact fun _ _ _ h => nomatch h.1) (Or.inr ⟨by rfl, rfl⟩) hz ?_
  try simp only [Act.put, List.setIfInBounds_toArray, List.set_cons_zero, List.set_cons_succ, List.getElem_toArray, List.getElem_cons_succ, List.getElem_cons_zero]
  refine wpAnyH_take (i := 18) (v := undef) rfl (by kernel_rfl) (by kernel_rfl) (by kernel_rfl) (by first | exact fun _ _ _ h => h | exact fun _ _ _ h => nomatch h.1) (Or.inr ⟨by rfl, rfl⟩) hz ?_
  try simp only [Act.put, List.setIfInBounds_toArray, List.set_cons_zero, List.set_cons_succ, List.getElem_toArray, List.getElem_cons_succ, List.getElem_cons_zero]
  refine wpAnyH_take (i := 19) (v := .bool true) rfl (by kernel_rfl) (by kernel_rfl) (by kernel_rfl) (by first | exact fun _ _ _ h => h | exact fun _ _ _ h => nomatch h.1) (Or.inl ⟨by rfl, fun w_ hw_ => by go_simp⟩) hz ?_
  try simp only [Act.put, List.setIfInBounds_toArray, List.set_cons_zero, List.set_cons_succ, List.getElem_toArray, List.getElem_cons_succ, List.getElem_cons_zero]
  refine wpAnyH_take (i := 20) (v := .bool true) rfl (by kernel_rfl) (by kernel_rfl) (by kernel_rfl) (by first | exact fun _ _ _ h => h | exact fun _ _ _ h => nomatch h.1) (Or.inl ⟨by rfl, fun w_ hw_ => by go_simp⟩) hz ?_
  try simp only [Act.put, List.setIfInBounds_toArray, List.set_cons_zero, List.set_cons_succ, List.getElem_toArray, List.getElem_cons_succ, List.getElem_cons_zero]
  refine wpAnyH_take (i := 21) (v := undef) rfl (by kernel_rfl) (by kernel_rfl) (by kernel_rfl) (by first | exact fun _ _ _ h => h | exact fun _ _ _ h => nomatch h.1) (Or.inr ⟨by rfl, rfl⟩) hz ?_
  try simp only [Act.put, List.setIfInBounds_toArray, List.set_cons_zero, List.set_cons_succ, List.getElem_toArray, List.getElem_cons_succ, List.getElem_cons_zero]
  refine wpAnyH_take (i := 22) (v := undef) rfl (by kernel_rfl) (by kernel_rfl) (by kernel_rfl) (by first | exact fun _ _ _ h => h | exact fun _ _ _ h => nomatch h.1) (Or.inr ⟨by rfl, rfl⟩) hz ?_
  try simp only [Act.put, List.setIfInBounds_toArray, List.set_cons_zero, List.set_cons_succ, List.getElem_toArray, List.getElem_cons_succ, List.getElem_cons_zero]
  refine wpAnyH_take (i := 23) (v := undef) rfl (by kernel_rfl) (by kernel_rfl) (by kernel_rfl) (by first | exact fun _ _ _ h => h | exact fun _ _ _ h => nomatch h.1) (Or.inr ⟨by rfl, rfl⟩) hz ?_
  try simp only [Act.put, List.setIfInBounds_toArray, List.set_cons_zero, List.set_cons_succ, List.getElem_toArray, List.getElem_cons_succ, List.getElem_cons_zero]
  refine wpAnyH_take (i := 24) (v := .bool true) rfl (by kernel_rfl) (by kernel_rfl) (by kernel_rfl) (by first | exact fun _ _ _ h => h | exact fun _ _ _ h => nomatch h.1) (Or.inl ⟨by rfl, fun w_ hw_ => by go_simp⟩) hz ?_
  try simp only [Act.put, List.setIfInBounds_toArray, List.set_cons_zero, List.set_cons_succ, List.getElem_toArray, List.getElem_cons_succ, List.getElem_cons_zero]
  refine wpAnyH_take (i := 25) (v := .bool true) rfl (by kernel_rfl) (by kernel_rfl) (by kernel_rfl) (by first | exact fun _ _ _ h => h | exact fun _ _ _ h => nomatch h.1) (Or.inl ⟨by rfl, fun w_ hw_ => by go_simp⟩) hz ?_
  try simp only [Act.put, List.setIfInBounds_toArray, List.set_cons_zero, List.set_cons_succ, List.getElem_toArray, List.getElem_cons_succ, List.getElem_cons_zero]
  refine wpAnyH_take (i := 26) (v := undef) rfl (by kernel_rfl) (by kernel_rfl) (by kernel_rfl) (by first | exact fun _ _ _ h => h | exact fun _ _ _ h => nomatch h.1) (Or.inr ⟨by rfl, rfl⟩) hz ?_
  try simp only [Act.put, List.setIfInBounds_toArray, List.set_cons_zero, List.set_cons_succ, List.getElem_toArray, List.getElem_cons_succ, List.getElem_cons_zero]
  refine wpAnyH_take (i := 27) (v := undef) rfl (by kernel_rfl) (by kernel_rfl) (by kernel_rfl) (by first | exact fun _ _ _ h => h | exact fun _ _ _ h => nomatch h.1) (Or.inr ⟨by rfl, rfl⟩) hz ?_
  try simp only [Act.put, List.setIfInBounds_toArray, List.set_cons_zero, List.set_cons_succ, List.getElem_toArray, List.getElem_cons_succ, List.getElem_cons_zero]
  refine wpAnyH_take (i := 28) (v := undef) rfl (by kernel_rfl) (by kernel_rfl) (by kernel_rfl) (by first | exact fun _ _ _ h => h | exact fun _ _ _ h => nomatch h.1) (Or.inr ⟨by rfl, rfl⟩) hz ?_
  try simp only [Act.put, List.setIfInBounds_toArray, List.set_cons_zero, List.set_cons_succ, List.getElem_toArray, List.getElem_cons_succ, List.getElem_cons_zero]
  refine wpAnyH_take (i := 29) (v := .bool true) rfl (by kernel_rfl) (by kernel_rfl) (by kernel_rfl) (by first | exact fun _ _ _ h => h | exact fun _ _ _ h => nomatch h.1) (Or.inl ⟨by rfl, fun w_ hw_ => by go_simp⟩) hz ?_
  try simp only [Act.put, List.setIfInBounds_toArray, List.set_cons_zero, List.set_cons_succ, List.getElem_toArray, List.getElem_cons_succ, List.getElem_cons_zero]
  refine wpAnyH_done (by kernel_rfl) ?_ _
  go_wp2
  go_ret
  exact ⟨rfl, HC1.out.trans hz⟩

set_option maxRecDepth 100000 in
set_option maxHeartbeats 4000000 in
theorem rright_id (f : Fr) (sd sr : Value) (T : Nat → Prop) (w : World) (l : List UInt8) (h : whatM f.kind = some l) (hf : FrD w T f sd sr) (hd : decide (f = onlyM f l) = true)  (hx : 4611686018427387903 < f.id) :
    Calls Tryd.prog 7 #[.agg (cellsF f sd sr).toArray] w fun e w' => e = .returned (.bool false) ∧ Chg none_ w w' := by
  have HSZ : Hid ((Tryd.prog.info? 27).map (·.size) = some (cellsF f sd sr).length) := Lib.hid (by rw [cF_len _ _ _ hf.tok]; exact size27)
  obtain ⟨sd', sr', HON, HSM, HWH, HQ⟩ : ∃ sd' sr', Hid (∀ w, Calls Tryd.prog 18 #[.agg (cellsF f sd sr).toArray, .string (whatS f.kind)] w fun e w' => e = .returned (.agg (cellsF (onlyM f l) sd' sr').toArray) ∧ Chg none_ w w') ∧
      Hid (∀ w', Chg none_ w w' → Calls Tryd.prog 12 #[.agg (cellsF f sd sr).toArray, .agg (cellsF (onlyM f l) sd' sr').toArray] w' fun e w'' => e = .returned (.bool (decide (f = onlyM f l))) ∧ Chg none_ w' w'') ∧
      Hid (∀ w, Calls Tryd.prog 17 #[.int .i64 f.kind] w fun e w' => e = .returned (.string (whatS f.kind)) ∧ w' = w) ∧ ¬ (whatS f.kind).toList = [63] := by
    obtain ⟨A, c, rfl, _, _⟩ := hf.data
    obtain ⟨B, d, rfl, _, _⟩ := hf.ranges
    obtain ⟨sd', sr', h1, h2⟩ := only_any h hf.tok A B c d
    refine ⟨sd', sr', Lib.hid h1, Lib.hid (fun w' hc => ?_), Lib.hid (fun w => what_any f.kind w), ?_⟩
    · have hf' := hf.chg hc (fun _ _ h => h)
      exact rsameF_any f (onlyM f l) _ _ sd' sr' w' T T hf' (h2 w' T hf')
    · rcases what_some h with ⟨hk, rfl⟩ | ⟨hk, rfl⟩ | ⟨hk, rfl⟩ | ⟨hk, rfl⟩ | ⟨hk, rfl⟩ | ⟨hk, rfl⟩ | ⟨hk, rfl⟩ | ⟨hk, rfl⟩ | ⟨hk, rfl⟩ | ⟨hk, rfl⟩ | ⟨hk, rfl⟩ | ⟨hk, rfl⟩ | ⟨hk, rfl⟩ | ⟨hk, rfl⟩ | ⟨hk, rfl⟩ | ⟨hk, rfl⟩ | ⟨hk, rfl⟩ | ⟨hk, rfl⟩ | ⟨hk, rfl⟩ | ⟨hk, rfl⟩
      all_goals (rw [hk]; decide +kernel)
  generalize hgo : onlyM f l = g at *
  generalize whatS f.kind = S at *
  rw [hd] at HSM
  clear h hf
  have hx' : (4611686018427387903 : Int) < (f.id : Int) := by omega
  go_enter Tryd.func7, Tryd.ntmps7
  go_wp2_with (first | ((with_reducible show wpList _ _ _ (⟨some 1, .box _ _, _, _, _, _⟩ :: _) _ _); refine wpList_box_Row rfl rfl (cellsF f sd sr) rfl ?_; intro w1 hr1 hc1 hs1; have HR1 := Lib.hid hr1; have HC1 := Lib.hid hc1; have q0 := (hr1.cell 0).trans (cF_0 f sd sr); clear hr1 hc1 hs1) | (go_at_call 17; refine (HWH.out _).mono ?_; rintro e w1 ⟨rfl, rfl⟩))
  obtain ⟨gR, hgR⟩ : ∃ g, g = w.heap.size := ⟨_, rfl⟩
  have HRX := Lib.hid (show ∀ x, Chg none_ w1 x → Row x gR 27 (cellsF f sd sr) from fun x hx => by rw [hgR]; exact HR1.out.chg hx (fun h => h))
  have HSM := Lib.hid (fun x (hx : Chg none_ w1 x) => HSM.out x (HC1.out.trans hx))
  rw [← hgR]
  clear hgR HR1
  refine wp_region_held_drew (S := fun x => Chg none_ w1 x) (by kernel_rfl) ((Chg.refl none_ w1).drew) (fun hch0 => ?_)
  have hz : Chg none_ w1 w1.drew := (Chg.refl none_ w1).drew
  generalize w1.drew = wz at hz ⊢
  clear hch0
  refine wpAnyH_take (i := 0) (v := .string S) rfl (by kernel_rfl) (by kernel_rfl) (by kernel_rfl) (by first | exact fun _ _ _ h => h | exact fun _ _ _ h => nomatch h.1) (Or.inl ⟨by rfl, fun w_ hw_ => by go_simp⟩) hz ?_
  try simp only [Act.put, List.setIfInBounds_toArray, List.set_cons_zero, List.set_cons_succ, List.getElem_toArray, List.getElem_cons_zero]
  refine wpAnyH_take (i := 1) (v := .bool false) rfl (by kernel_rfl) (by kernel_rfl) (by kernel_rfl) (by first | exact fun _ _ _ h => h | exact fun _ _ _ h => nomatch h.1) (Or.inl ⟨by rfl, fun w_ hw_ => by go_simp⟩) hz ?_
  try simp only [Act.put, List.setIfInBounds_toArray, List.set_cons_zero, List.set_cons_succ, List.getElem_toArray, List.getElem_cons_succ, List.getElem_cons_zero]
  refine wpAnyH_take (i := 2) (v := .bool false) rfl (by kernel_rfl) (by kernel_rfl) (by kernel_rfl) (by first | exact fun _ _ _ h => h | exact fun _ _ _ h => nomatch h.1) (Or.inl ⟨by rfl, fun w_ hw_ => by go_simp⟩) hz ?_
  try simp only [Act.put, List.setIfInBounds_toArray, List.set_cons_zero, List.set_cons_succ, List.getElem_toArray, List.getElem_cons_succ, List.getElem_cons_zero]
  refine wpAnyH_take (i := 3) (v := .agg (cellsF f sd sr).toArray) rfl (by kernel_rfl) (by kernel_rfl) (by kernel_rfl) (by first | exact fun _ _ _ h => h | exact fun _ _ _ h => nomatch h.1) (yieldsIf_load_mid (by rfl) 27 _ rfl gR 0 rfl (cellsF f sd sr) _ (fun x hx => (HRX.out x hx).rangeMid 0 _ (fun j v hv => by rw [Nat.zero_add]; exact hv)) Tryd.underlying27 rfl HSZ.out) hz ?_
  try simp only [Act.put, List.setIfInBounds_toArray, List.set_cons_zero, List.set_cons_succ, List.getElem_toArray, List.getElem_cons_succ, List.getElem_cons_zero]
  refine wpAnyH_take (i := 4) (v := .agg (cellsF f sd sr).toArray) rfl (by kernel_rfl) (by kernel_rfl) (by kernel_rfl) (by first | exact fun _ _ _ h => h | exact fun _ _ _ h => nomatch h.1) (yieldsIf_load_mid (by rfl) 27 _ rfl gR 0 rfl (cellsF f sd sr) _ (fun x hx => (HRX.out x hx).rangeMid 0 _ (fun j v hv => by rw [Nat.zero_add]; exact hv)) Tryd.underlying27 rfl HSZ.out) hz ?_
  try simp only [Act.put, List.setIfInBounds_toArray, List.set_cons_zero, List.set_cons_succ, List.getElem_toArray, List.getElem_cons_succ, List.getElem_cons_zero]
  refine wpAnyH_take (i := 5) (v := .string S) rfl (by kernel_rfl) (by kernel_rfl) (by kernel_rfl) (by first | exact fun _ _ _ h => h | exact fun _ _ _ h => nomatch h.1) (Or.inl ⟨by rfl, fun w_ hw_ => by go_simp⟩) hz ?_
  try simp only [Act.put, List.setIfInBounds_toArray, List.set_cons_zero, List.set_cons_succ, List.getElem_toArray, List.getElem_cons_succ, List.getElem_cons_zero]
  refine wpAnyH_ready (rs := [6]) (by kernel_rfl) (by simp) ?_
  refine AllReadyH.cons rfl (fun K hK => ?_) AllReadyH.nil
  rw [if_pos (by rfl)]
  try simp only [List.getElem_toArray, List.getElem_cons_succ, List.getElem_cons_zero]
  go_simp
  refine (HON.out _).mono ?_
  rintro e y1 ⟨rfl, hcx⟩
  have hz := hz.trans hcx
  clear hcx
  refine hK.out _ _ hz (fun _ => ?_)
  clear hK K
  try simp only [Act.put, List.setIfInBounds_toArray, List.set_cons_zero, List.set_cons_succ, List.getElem_toArray, List.getElem_cons_succ, List.getElem_cons_zero]
  refine wpAnyH_ready (rs := [7]) (by kernel_rfl) (by simp) ?_
  refine AllReadyH.cons rfl (fun K hK => ?_) AllReadyH.nil
  rw [if_pos (by rfl)]
  try simp only [List.getElem_toArray, List.getElem_cons_succ, List.getElem_cons_zero]
  go_simp
  refine (HSM.out _ hz).mono ?_
  rintro e y2 ⟨rfl, hcx⟩
  have hz := hz.trans hcx
  clear hcx
  refine hK.out _ _ hz (fun _ => ?_)
  clear hK K
  try simp only [Act.put, List.setIfInBounds_toArray, List.set_cons_zero, List.set_cons_succ, List.getElem_toArray, List.getElem_cons_succ, List.getElem_cons_zero]
  refine wpAnyH_take (i := 8) (v := .bool false) rfl (by kernel_rfl) (by kernel_rfl) (by kernel_rfl) (by first | exact fun _ _ _ h => h | exact fun _ _ _ h => nomatch h.1) (Or.inl ⟨by rfl, fun w_ hw_ => by go_simp⟩) hz ?_
  try simp only [Act.put, List.setIfInBounds_toArray, List.set_cons_zero, List.set_cons_succ, List.getElem_toArray, List.getElem_cons_succ, List.getElem_cons_zero]
  refine wpAnyH_take (i := 9) (v := .bool false) rfl (by kernel_rfl) (by kernel_rfl) (by kernel_rfl) (by first | exact fun _ _ _ h => h | exact fun _ _ _ h => nomatch h.1) (Or.inl ⟨by rfl, fun w_ hw_ => by go_simp⟩) hz ?_
  try simp only [Act.put, List.setIfInBounds_toArray, List.set_cons_zero, List.set_cons_succ, List.getElem_toArray, List.getElem_cons_succ, List.getElem_cons_zero]
  refine wpAnyH_take (i := 10) (v := .bool false) rfl (by kernel_rfl) (by kernel_rfl) (by kernel_rfl) (by first | exact fun _ _ _ h => h | exact fun _ _ _ h => nomatch h.1) (Or.inl ⟨by rfl, fun w_ hw_ => by go_simp⟩) hz ?_
  try simp only [Act.put, List.setIfInBounds_toArray, List.set_cons_zero, List.set_cons_succ, List.getElem_toArray, List.getElem_cons_succ, List.getElem_cons_zero]
  refine wpAnyH_take (i := 11) (v := .pointer (some ⟨gR, 1, none⟩)) rfl (by kernel_rfl) (by kernel_rfl) (by kernel_rfl) (by first | exact fun _ _ _ h => h | exact fun _ _ _ h => nomatch h.1) (Or.inl ⟨by rfl, fun w_ hw_ => by go_simp⟩) hz ?_
  try simp only [Act.put, List.setIfInBounds_toArray, List.set_cons_zero, List.set_cons_succ, List.getElem_toArray, List.getElem_cons_succ, List.getElem_cons_zero]
  refine wpAnyH_take (i := 12) (v := .int .u64 (f.id : Nat)) rfl (by kernel_rfl) (by kernel_rfl) (by kernel_rfl) (by first | exact fun _ _ _ h => h | exact fun _ _ _ h => nomatch h.1) (Or.inl ⟨by rfl, fun w_ hw_ => by have q_ : w_.cell? ⟨gR, 1, none⟩ = some (.int .u64 (f.id : Nat)) := (HRX.out _ hw_).cell 1; go_simp⟩) hz ?_
  try simp only [Act.put, List.setIfInBounds_toArray, List.set_cons_zero, List.set_cons_succ, List.getElem_toArray, List.getElem_cons_succ, List.getElem_cons_zero]
  refine wpAnyH_take (i := 13) (v := .bool true) rfl (by kernel_rfl) (by kernel_rfl) (by kernel_rfl) (by first | exact fun _ _ _ h => h | exact fun _ _ _ h => nomatch h.1) (Or.inl ⟨by rfl, fun w_ hw_ => by go_simp⟩) hz ?_
  try simp only [Act.put, List.setIfInBounds_toArray, List.set_cons_zero, List.set_cons_succ, List.getElem_toArray, List.getElem_cons_succ, List.getElem_cons_zero]
  refine wpAnyH_take (i := 14) (v := .bool true) rfl (by kernel_rfl) (by kernel_rfl) (by kernel_rfl) (by first | exact fun _ _ _ h => h | exact fun _ _ _ h => nomatch h.1) (Or.inl ⟨by rfl, fun w_ hw_ => by go_simp⟩) hz ?_
  try simp only [Act.put, List.setIfInBounds_toArray, List.set_cons_zero, List.set_cons_succ, List.getElem_toArray, List.getElem_cons_succ, List.getElem_cons_zero]
  refine wpAnyH_take (i := 15) (v := .bool true) rfl (by kernel_rfl) (by kernel_rfl) (by kernel_rfl) (by first | exact fun _ _ _ h => h | exact fun _ _ _ h => nomatch h.1) (Or.inl ⟨by rfl, fun w_ hw_ => by go_simp⟩) hz ?_
  try simp only [Act.put, List.setIfInBounds_toArray, List.set_cons_zero, List.set_cons_succ, List.getElem_toArray, List.getElem_cons_succ, List.getElem_cons_zero]
  refine wpAnyH_take (i := 16) (v := undef) rfl (by kernel_rfl) (by kernel_rfl) (by kernel_rfl) (by first | exact fun _ _ _ h => h | exact fun _ _ _ h => nomatch h.1) (Or.inr ⟨by rfl, rfl⟩) hz ?_
  try simp only [Act.put, List.setIfInBounds_toArray, List.set_cons_zero, List.set_cons_succ, List.getElem_toArray, List.getElem_cons_succ, List.getElem_cons_zero]
  refine wpAnyH_take (i := 17) (v := undef) rfl (by kernel_rfl) (by kernel_rfl) (by kernel_rfl) (by first | exact fun _ _ _ h => h | exact fun _ _ _ h => nomatch h.1) (Or.inr ⟨by rfl, rfl⟩) hz ?_
  try simp only [Act.put, List.setIfInBounds_toArray, List.set_cons_zero, List.set_cons_succ, List.getElem_toArray, List.getElem_cons_succ, List.getElem_cons_zero]
  refine wpAnyH_take (i := 18) (v := undef) rfl (by kernel_rfl) (by kernel_rfl) (by kernel_rfl) (by first | exact fun _ _ _ h => h | exact fun _ _ _ h => nomatch h.1) (Or.inr ⟨by rfl, rfl⟩) hz ?_
  try simp only [Act.put, List.setIfInBounds_toArray, List.set_cons_zero, List.set_cons_succ, List.getElem_toArray, List.getElem_cons_succ, List.getElem_cons_zero]
  refine wpAnyH_take (i := 19) (v := .bool true) rfl (by kernel_rfl) (by kernel_rfl) (by kernel_rfl) (by first | exact fun _ _ _ h => h | exact fun _ _ _ h => nomatch h.1) (Or.inl ⟨by rfl, fun w_ hw_ => by go_simp⟩) hz ?_
  try simp only [Act.put, List.setIfInBounds_toArray, List.set_cons_zero, List.set_cons_succ, List.getElem_toArray, List.getElem_cons_succ, List.getElem_cons_zero]
  refine wpAnyH_take (i := 20) (v := .bool true) rfl (by kernel_rfl) (by kernel_rfl) (by kernel_rfl) (by first | exact fun _ _ _ h => h | exact fun _ _ _ h => nomatch h.1) (Or.inl ⟨by rfl, fun w_ hw_ => by go_simp⟩) hz ?_
  try simp only [Act.put, List.setIfInBounds_toArray, List.set_cons_zero, List.set_cons_succ, List.getElem_toArray, List.getElem_cons_succ, List.getElem_cons_zero]
  refine wpAnyH_take (i := 21) (v := undef) rfl (by kernel_rfl) (by kernel_rfl) (by kernel_rfl) (by first | exact fun _ _ _ h => h | exact fun _ _ _ h => nomatch h.1) (Or.inr ⟨by rfl, rfl⟩) hz ?_
  try simp only [Act.put, List.setIfInBounds_toArray, List.set_cons_zero, List.set_cons_succ, List.getElem_toArray, List.getElem_cons_succ, List.getElem_cons_zero]
  refine wpAnyH_take (i := 22) (v := undef) rfl (by kernel_rfl) (by kernel_rfl) (by kernel_rfl) (by first | exact fun _ _ _ h => h | exact fun _ _ _ h => nomatch h.1) (Or.inr ⟨by rfl, rfl⟩) hz ?_
  try simp only [Act.put, List.setIfInBounds_toArray, List.set_cons_zero, List.set_cons_succ, List.getElem_toArray, List.getElem_cons_succ, List.getElem_cons_zero]
  refine wpAnyH_take (i := 23) (v := undef) rfl (by kernel_rfl) (by kernel_rfl) (by kernel_rfl) (by first | exact fun _ _ _ h => h | exact fun _ _ _ h => nomatch h.1) (Or.inr ⟨by rfl, rfl⟩) hz ?_
  try simp only [Act.put, List.setIfInBounds_toArray, List.set_cons_zero, List.set_cons_succ, List.getElem_toArray, List.getElem_cons_succ, List.getElem_cons_zero]
  refine wpAnyH_take (i := 24) (v := .bool true) rfl (by kernel_rfl) (by kernel_rfl) (by kernel_rfl) (by first | exact fun _ _ _ h => h | exact fun _ _ _ h => nomatch h.1) (Or.inl ⟨by rfl, fun w_ hw_ => by go_simp⟩) hz ?_
  try simp only [Act.put, List.setIfInBounds_toArray, List.set_cons_zero, List.set_cons_succ, List.getElem_toArray, List.getElem_cons_succ, List.getElem_cons_zero]
  refine wpAnyH_take (i := 25) (v := .bool true) rfl (by kernel_rfl) (by kernel_rfl) (by kernel_rfl) (by first | exact fun _ _ _ h => h | exact fun _ _ _ h => nomatch h.1) (Or.inl ⟨by rfl, fun w_ hw_ => by go_simp⟩) hz ?_
  try simp only [Act.put, List.setIfInBounds_toArray, List.set_cons_zero, List.set_cons_succ, List.getElem_toArray, List.getElem_cons_succ, List.getElem_cons_zero]
  refine wpAnyH_take (i := 26) (v := undef) rfl (by kernel_rfl) (by kernel_rfl) (by kernel_rfl) (by first | exact fun _ _ _ h => h | exact fun _ _ _ h => nomatch h.1) (Or.inr ⟨by rfl, rfl⟩) hz ?_
  try simp only [Act.put, List.setIfInBounds_toArray, List.set_cons_zero, List.set_cons_succ, List.getElem_toArray, List.getElem_cons_succ, List.getElem_cons_zero]
  refine wpAnyH_take (i := 27) (v := undef) rfl (by kernel_rfl) (by kernel_rfl) (by kernel_rfl) (by first | exact fun _ _ _ h => h | exact fun _ _ _ h => nomatch h.1) (Or.inr ⟨by rfl, rfl⟩) hz ?_
  try simp only [Act.put, List.setIfInBounds_toArray, List.set_cons_zero, List.set_cons_succ, List.getElem_toArray, List.getElem_cons_succ, List.getElem_cons_zero]
  refine wpAnyH_take (i := 28) (v := undef) rfl (by kernel_rfl) (by kernel_rfl) (by kernel_rfl) (by first | exact fun _ _ _ h => h | exact fun _ _ _ h => nomatch h.1) (Or.inr ⟨by rfl, rfl⟩) hz ?_
  try simp only [Act.put, List.setIfInBounds_toArray, List.set_cons_zero, List.set_cons_succ, List.getElem_toArray, List.getElem_cons_succ, List.getElem_cons_zero]
  refine wpAnyH_take (i := 29) (v := .bool true) rfl (by kernel_rfl) (by kernel_rfl) (by kernel_rfl) (by first | exact fun _ _ _ h => h | exact fun _ _ _ h => nomatch h.1) (Or.inl ⟨by rfl, fun w_ hw_ => by go_simp⟩) hz ?_
  try simp only [Act.put, List.setIfInBounds_toArray, List.set_cons_zero, List.set_cons_succ, List.getElem_toArray, List.getElem_cons_succ, List.getElem_cons_zero]
  refine wpAnyH_done (by kernel_rfl) ?_ _
  go_wp2
  go_ret
  exact ⟨rfl, HC1.out.trans hz⟩

set_option maxRecDepth 100000 in
set_option maxHeartbeats 4000000 in
theorem rright_a (f : Fr) (sd sr : Value) (T : Nat → Prop) (w : World) (l : List UInt8) (h : whatM f.kind = some l) (hf : FrD w T f sd sr) (hd : decide (f = onlyM f l) = true) (n0 : f.id ≤ 4611686018427387903) (hx : 4611686018427387903 < f.a) :
    Calls Tryd.prog 7 #[.agg (cellsF f sd sr).toArray] w fun e w' => e = .returned (.bool false) ∧ Chg none_ w w' := by
  have HSZ : Hid ((Tryd.prog.info? 27).map (·.size) = some (cellsF f sd sr).length) := Lib.hid (by rw [cF_len _ _ _ hf.tok]; exact size27)
  obtain ⟨sd', sr', HON, HSM, HWH, HQ⟩ : ∃ sd' sr', Hid (∀ w, Calls Tryd.prog 18 #[.agg (cellsF f sd sr).toArray, .string (whatS f.kind)] w fun e w' => e = .returned (.agg (cellsF (onlyM f l) sd' sr').toArray) ∧ Chg none_ w w') ∧
      Hid (∀ w', Chg none_ w w' → Calls Tryd.prog 12 #[.agg (cellsF f sd sr).toArray, .agg (cellsF (onlyM f l) sd' sr').toArray] w' fun e w'' => e = .returned (.bool (decide (f = onlyM f l))) ∧ Chg none_ w' w'') ∧
      Hid (∀ w, Calls Tryd.prog 17 #[.int .i64 f.kind] w fun e w' => e = .returned (.string (whatS f.kind)) ∧ w' = w) ∧ ¬ (whatS f.kind).toList = [63] := by
    obtain ⟨A, c, rfl, _, _⟩ := hf.data
    obtain ⟨B, d, rfl, _, _⟩ := hf.ranges
    obtain ⟨sd', sr', h1, h2⟩ := only_any h hf.tok A B c d
    refine ⟨sd', sr', Lib.hid h1, Lib.hid (fun w' hc => ?_), Lib.hid (fun w => what_any f.kind w), ?_⟩
    · have hf' := hf.chg hc (fun _ _ h => h)
      exact rsameF_any f (onlyM f l) _ _ sd' sr' w' T T hf' (h2 w' T hf')
    · rcases what_some h with ⟨hk, rfl⟩ | ⟨hk, rfl⟩ | ⟨hk, rfl⟩ | ⟨hk, rfl⟩ | ⟨hk, rfl⟩ | ⟨hk, rfl⟩ | ⟨hk, rfl⟩ | ⟨hk, rfl⟩ | ⟨hk, rfl⟩ | ⟨hk, rfl⟩ | ⟨hk, rfl⟩ | ⟨hk, rfl⟩ | ⟨hk, rfl⟩ | ⟨hk, rfl⟩ | ⟨hk, rfl⟩ | ⟨hk, rfl⟩ | ⟨hk, rfl⟩ | ⟨hk, rfl⟩ | ⟨hk, rfl⟩ | ⟨hk, rfl⟩
      all_goals (rw [hk]; decide +kernel)
  generalize hgo : onlyM f l = g at *
  generalize whatS f.kind = S at *
  rw [hd] at HSM
  clear h hf
  have n0' : ¬ (4611686018427387903 : Int) < (f.id : Int) := by omega
  have hx' : (4611686018427387903 : Int) < (f.a : Int) := by omega
  go_enter Tryd.func7, Tryd.ntmps7
  go_wp2_with (first | ((with_reducible show wpList _ _ _ (⟨some 1, .box _ _, _, _, _, _⟩ :: _) _ _); refine wpList_box_Row rfl rfl (cellsF f sd sr) rfl ?_; intro w1 hr1 hc1 hs1; have HR1 := Lib.hid hr1; have HC1 := Lib.hid hc1; have q0 := (hr1.cell 0).trans (cF_0 f sd sr); clear hr1 hc1 hs1) | (go_at_call 17; refine (HWH.out _).mono ?_; rintro e w1 ⟨rfl, rfl⟩))
  obtain ⟨gR, hgR⟩ : ∃ g, g = w.heap.size := ⟨_, rfl⟩
  have HRX := Lib.hid (show ∀ x, Chg none_ w1 x → Row x gR 27 (cellsF f sd sr) from fun x hx => by rw [hgR]; exact HR1.out.chg hx (fun h => h))
  have HSM := Lib.hid (fun x (hx : Chg none_ w1 x) => HSM.out x (HC1.out.trans hx))
  rw [← hgR]
  clear hgR HR1
  refine wp_region_held_drew (S := fun x => Chg none_ w1 x) (by kernel_rfl) ((Chg.refl none_ w1).drew) (fun hch0 => ?_)
  have hz : Chg none_ w1 w1.drew := (Chg.refl none_ w1).drew
  generalize w1.drew = wz at hz ⊢
  clear hch0
  refine wpAnyH_take (i := 0) (v := .string S) rfl (by kernel_rfl) (by kernel_rfl) (by kernel_rfl) (by first | exact fun _ _ _ h => h | exact fun _ _ _ h => nomatch h.1) (Or.inl ⟨by rfl, fun w_ hw_ => by go_simp⟩) hz ?_
  try simp only [Act.put, List.setIfInBounds_toArray, List.set_cons_zero, List.set_cons_succ, List.getElem_toArray, List.getElem_cons_zero]
  refine wpAnyH_take (i := 1) (v := .bool false) rfl (by kernel_rfl) (by kernel_rfl) (by kernel_rfl) (by first | exact fun _ _ _ h => h | exact fun _ _ _ h => nomatch h.1) (Or.inl ⟨by rfl, fun w_ hw_ => by go_simp⟩) hz ?_
  try simp only [Act.put, List.setIfInBounds_toArray, List.set_cons_zero, List.set_cons_succ, List.getElem_toArray, List.getElem_cons_succ, List.getElem_cons_zero]
  refine wpAnyH_take (i := 2) (v := .bool false) rfl (by kernel_rfl) (by kernel_rfl) (by kernel_rfl) (by first | exact fun _ _ _ h => h | exact fun _ _ _ h => nomatch h.1) (Or.inl ⟨by rfl, fun w_ hw_ => by go_simp⟩) hz ?_
  try simp only [Act.put, List.setIfInBounds_toArray, List.set_cons_zero, List.set_cons_succ, List.getElem_toArray, List.getElem_cons_succ, List.getElem_cons_zero]
  refine wpAnyH_take (i := 3) (v := .agg (cellsF f sd sr).toArray) rfl (by kernel_rfl) (by kernel_rfl) (by kernel_rfl) (by first | exact fun _ _ _ h => h | exact fun _ _ _ h => nomatch h.1) (yieldsIf_load_mid (by rfl) 27 _ rfl gR 0 rfl (cellsF f sd sr) _ (fun x hx => (HRX.out x hx).rangeMid 0 _ (fun j v hv => by rw [Nat.zero_add]; exact hv)) Tryd.underlying27 rfl HSZ.out) hz ?_
  try simp only [Act.put, List.setIfInBounds_toArray, List.set_cons_zero, List.set_cons_succ, List.getElem_toArray, List.getElem_cons_succ, List.getElem_cons_zero]
  refine wpAnyH_take (i := 4) (v := .agg (cellsF f sd sr).toArray) rfl (by kernel_rfl) (by kernel_rfl) (by kernel_rfl) (by first | exact fun _ _ _ h => h | exact fun _ _ _ h => nomatch h.1) (yieldsIf_load_mid (by rfl) 27 _ rfl gR 0 rfl (cellsF f sd sr) _ (fun x hx => (HRX.out x hx).rangeMid 0 _ (fun j v hv => by rw [Nat.zero_add]; exact hv)) Tryd.underlying27 rfl HSZ.out) hz ?_
  try simp only [Act.put, List.setIfInBounds_toArray, List.set_cons_zero, List.set_cons_succ, List.getElem_toArray, List.getElem_cons_succ, List.getElem_cons_zero]
  refine wpAnyH_take (i := 5) (v := .string S) rfl (by kernel_rfl) (by kernel_rfl) (by kernel_rfl) (by first | exact fun _ _ _ h => h | exact fun _ _ _ h => nomatch h.1) (Or.inl ⟨by rfl, fun w_ hw_ => by go_simp⟩) hz ?_
  try simp only [Act.put, List.setIfInBounds_toArray, List.set_cons_zero, List.set_cons_succ, List.getElem_toArray, List.getElem_cons_succ, List.getElem_cons_zero]
  refine wpAnyH_ready (rs := [6]) (by kernel_rfl) (by simp) ?_
  refine AllReadyH.cons rfl (fun K hK => ?_) AllReadyH.nil
  rw [if_pos (by rfl)]
  try simp only [List.getElem_toArray, List.getElem_cons_succ, List.getElem_cons_zero]
  go_simp
  refine (HON.out _).mono ?_
  rintro e y1 ⟨rfl, hcx⟩
  have hz := hz.trans hcx
  clear hcx
  refine hK.out _ _ hz (fun _ => ?_)
  clear hK K
  try simp only [Act.put, List.setIfInBounds_toArray, List.set_cons_zero, List.set_cons_succ, List.getElem_toArray, List.getElem_cons_succ, List.getElem_cons_zero]
  refine wpAnyH_ready (rs := [7]) (by kernel_rfl) (by simp) ?_
  refine AllReadyH.cons rfl (fun K hK => ?_) AllReadyH.nil
  rw [if_pos (by rfl)]
  try simp only [List.getElem_toArray, List.getElem_cons_succ, List.getElem_cons_zero]
  go_simp
  refine (HSM.out _ hz).mono ?_
  rintro e y2 ⟨rfl, hcx⟩
  have hz := hz.trans hcx
  clear hcx
  refine hK.out _ _ hz (fun _ => ?_)
  clear hK K
  try simp only [Act.put, List.setIfInBounds_toArray, List.set_cons_zero, List.set_cons_succ, List.getElem_toArray, List.getElem_cons_succ, List.getElem_cons_zero]
  refine wpAnyH_take (i := 8) (v := .bool false) rfl (by kernel_rfl) (by kernel_rfl) (by kernel_rfl) (by first | exact fun _ _ _ h => h | exact fun _ _ _ h => nomatch h.1) (Or.inl ⟨by rfl, fun w_ hw_ => by go_simp⟩) hz ?_
  try simp only [Act.put, List.setIfInBounds_toArray, List.set_cons_zero, List.set_cons_succ, List.getElem_toArray, List.getElem_cons_succ, List.getElem_cons_zero]
  refine wpAnyH_take (i := 9) (v := .bool false) rfl (by kernel_rfl) (by kernel_rfl) (by kernel_rfl) (by first | exact fun _ _ _ h => h | exact fun _ _ _ h => nomatch h.1) (Or.inl ⟨by rfl, fun w_ hw_ => by go_simp⟩) hz ?_
  try simp only [Act.put, List.setIfInBounds_toArray, List.set_cons_zero, List.set_cons_succ, List.getElem_toArray, List.getElem_cons_succ, List.getElem_cons_zero]
  refine wpAnyH_take (i := 10) (v := .bool false) rfl (by kernel_rfl) (by kernel_rfl) (by kernel_rfl) (by first | exact fun _ _ _ h => h | exact fun _ _ _ h => nomatch h.1) (Or.inl ⟨by rfl, fun w_ hw_ => by go_simp⟩) hz ?_
  try simp only [Act.put, List.setIfInBounds_toArray, List.set_cons_zero, List.set_cons_succ, List.getElem_toArray, List.getElem_cons_succ, List.getElem_cons_zero]
  refine wpAnyH_take (i := 11) (v := .pointer (some ⟨gR, 1, none⟩)) rfl (by kernel_rfl) (by kernel_rfl) (by kernel_rfl) (by first | exact fun _ _ _ h => h | exact fun _ _ _ h => nomatch h.1) (Or.inl ⟨by rfl, fun w_ hw_ => by go_simp⟩) hz ?_
  try simp only [Act.put, List.setIfInBounds_toArray, List.set_cons_zero, List.set_cons_succ, List.getElem_toArray, List.getElem_cons_succ, List.getElem_cons_zero]
  refine wpAnyH_take (i := 12) (v := .int .u64 (f.id : Nat)) rfl (by kernel_rfl) (by kernel_rfl) (by kernel_rfl) (by first | exact fun _ _ _ h => h | exact fun _ _ _ h => nomatch h.1) (Or.inl ⟨by rfl, fun w_ hw_ => by have q_ : w_.cell? ⟨gR, 1, none⟩ = some (.int .u64 (f.id : Nat)) := (HRX.out _ hw_).cell 1; go_simp⟩) hz ?_
  try simp only [Act.put, List.setIfInBounds_toArray, List.set_cons_zero, List.set_cons_succ, List.getElem_toArray, List.getElem_cons_succ, List.getElem_cons_zero]
  refine wpAnyH_take (i := 13) (v := .bool false) rfl (by kernel_rfl) (by kernel_rfl) (by kernel_rfl) (by first | exact fun _ _ _ h => h | exact fun _ _ _ h => nomatch h.1) (Or.inl ⟨by rfl, fun w_ hw_ => by go_simp⟩) hz ?_
  try simp only [Act.put, List.setIfInBounds_toArray, List.set_cons_zero, List.set_cons_succ, List.getElem_toArray, List.getElem_cons_succ, List.getElem_cons_zero]
  refine wpAnyH_take (i := 14) (v := .bool false) rfl (by kernel_rfl) (by kernel_rfl) (by kernel_rfl) (by first | exact fun _ _ _ h => h | exact fun _ _ _ h => nomatch h.1) (Or.inl ⟨by rfl, fun w_ hw_ => by go_simp⟩) hz ?_
  try simp only [Act.put, List.setIfInBounds_toArray, List.set_cons_zero, List.set_cons_succ, List.getElem_toArray, List.getElem_cons_succ, List.getElem_cons_zero]
  refine wpAnyH_take (i := 15) (v := .bool false) rfl (by kernel_rfl) (by kernel_rfl) (by kernel_rfl) (by first | exact fun _ _ _ h => h | exact fun _ _ _ h => nomatch h.1) (Or.inl ⟨by rfl, fun w_ hw_ => by go_simp⟩) hz ?_
  try simp only [Act.put, List.setIfInBounds_toArray, List.set_cons_zero, List.set_cons_succ, List.getElem_toArray, List.getElem_cons_succ, List.getElem_cons_zero]
  refine wpAnyH_take (i := 16) (v := .pointer (some ⟨gR, 2, none⟩)) rfl (by kernel_rfl) (by kernel_rfl) (by kernel_rfl) (by first | exact fun _ _ _ h => h | exact fun _ _ _ h => nomatch h.1) (Or.inl ⟨by rfl, fun w_ hw_ => by go_simp⟩) hz ?_
  try simp only [Act.put, List.setIfInBounds_toArray, List.set_cons_zero, List.set_cons_succ, List.getElem_toArray, List.getElem_cons_succ, List.getElem_cons_zero]
  refine wpAnyH_take (i := 17) (v := .int .u64 (f.a : Nat)) rfl (by kernel_rfl) (by kernel_rfl) (by kernel_rfl) (by first | exact fun _ _ _ h => h | exact fun _ _ _ h => nomatch h.1) (Or.inl ⟨by rfl, fun w_ hw_ => by have q_ : w_.cell? ⟨gR, 2, none⟩ = some (.int .u64 (f.a : Nat)) := (HRX.out _ hw_).cell 2; go_simp⟩) hz ?_
  try simp only [Act.put, List.setIfInBounds_toArray, List.set_cons_zero, List.set_cons_succ, List.getElem_toArray, List.getElem_cons_succ, List.getElem_cons_zero]
  refine wpAnyH_take (i := 18) (v := .bool true) rfl (by kernel_rfl) (by kernel_rfl) (by kernel_rfl) (by first | exact fun _ _ _ h => h | exact fun _ _ _ h => nomatch h.1) (Or.inl ⟨by rfl, fun w_ hw_ => by go_simp⟩) hz ?_
  try simp only [Act.put, List.setIfInBounds_toArray, List.set_cons_zero, List.set_cons_succ, List.getElem_toArray, List.getElem_cons_succ, List.getElem_cons_zero]
  refine wpAnyH_take (i := 19) (v := .bool true) rfl (by kernel_rfl) (by kernel_rfl) (by kernel_rfl) (by first | exact fun _ _ _ h => h | exact fun _ _ _ h => nomatch h.1) (Or.inl ⟨by rfl, fun w_ hw_ => by go_simp⟩) hz ?_
  try simp only [Act.put, List.setIfInBounds_toArray, List.set_cons_zero, List.set_cons_succ, List.getElem_toArray, List.getElem_cons_succ, List.getElem_cons_zero]
  refine wpAnyH_take (i := 20) (v := .bool true) rfl (by kernel_rfl) (by kernel_rfl) (by kernel_rfl) (by first | exact fun _ _ _ h => h | exact fun _ _ _ h => nomatch h.1) (Or.inl ⟨by rfl, fun w_ hw_ => by go_simp⟩) hz ?_
  try simp only [Act.put, List.setIfInBounds_toArray, List.set_cons_zero, List.set_cons_succ, List.getElem_toArray, List.getElem_cons_succ, List.getElem_cons_zero]
  refine wpAnyH_take (i := 21) (v := undef) rfl (by kernel_rfl) (by kernel_rfl) (by kernel_rfl) (by first | exact fun _ _ _ h => h | exact fun _ _ _ h => nomatch h.1) (Or.inr ⟨by rfl, rfl⟩) hz ?_
  try simp only [Act.put, List.setIfInBounds_toArray, List.set_cons_zero, List.set_cons_succ, List.getElem_toArray, List.getElem_cons_succ, List.getElem_cons_zero]
  refine wpAnyH_take (i := 22) (v := undef) rfl (by kernel_rfl) (by kernel_rfl) (by kernel_rfl) (by first | exact fun _ _ _ h => h | exact fun _ _ _ h => nomatch h.1) (Or.inr ⟨by rfl, rfl⟩) hz ?_
  try simp only [Act.put, List.setIfInBounds_toArray, List.set_cons_zero, List.set_cons_succ, List.getElem_toArray, List.getElem_cons_succ, List.getElem_cons_zero]
  refine wpAnyH_take (i := 23) (v := undef) rfl (by kernel_rfl) (by kernel_rfl) (by kernel_rfl) (by first | exact fun _ _ _ h => h | exact fun _ _ _ h => nomatch h.1) (Or.inr ⟨by rfl, rfl⟩) hz ?_
  try simp only [Act.put, List.setIfInBounds_toArray, List.set_cons_zero, List.set_cons_succ, List.getElem_toArray, List.getElem_cons_succ, List.getElem_cons_zero]
  refine wpAnyH_take (i := 24) (v := .bool true) rfl (by kernel_rfl) (by kernel_rfl) (by kernel_rfl) (by first | exact fun _ _ _ h => h | exact fun _ _ _ h => nomatch h.1) (Or.inl ⟨by rfl, fun w_ hw_ => by go_simp⟩) hz ?_
  try simp only [Act.put, List.setIfInBounds_toArray, List.set_cons_zero, List.set_cons_succ, List.getElem_toArray, List.getElem_cons_succ, List.getElem_cons_zero]
  refine wpAnyH_take (i := 25) (v := .bool true) rfl (by kernel_rfl) (by kernel_rfl) (by kernel_rfl) (by first | exact fun _ _ _ h => h | exact fun _ _ _ h => nomatch h.1) (Or.inl ⟨by rfl, fun w_ hw_ => by go_simp⟩) hz ?_
  try simp only [Act.put, List.setIfInBounds_toArray, List.set_cons_zero, List.set_cons_succ, List.getElem_toArray, List.getElem_cons_succ, List.getElem_cons_zero]
  refine wpAnyH_take (i := 26) (v := undef) rfl (by kernel_rfl) (by kernel_rfl) (by kernel_rfl) (by first | exact fun _ _ _ h => h | exact fun _ _ _ h => nomatch h.1) (Or.inr ⟨by rfl, rfl⟩) hz ?_
  try simp only [Act.put, List.setIfInBounds_toArray, List.set_cons_zero, List.set_cons_succ, List.getElem_toArray, List.getElem_cons_succ, List.getElem_cons_zero]
  refine wpAnyH_take (i := 27) (v := undef) rfl (by kernel_rfl) (by kernel_rfl) (by kernel_rfl) (by first | exact fun _ _ _ h => h | exact fun _ _ _ h => nomatch h.1) (Or.inr ⟨by rfl, rfl⟩) hz ?_
  try simp only [Act.put, List.setIfInBounds_toArray, List.set_cons_zero, List.set_cons_succ, List.getElem_toArray, List.getElem_cons_succ, List.getElem_cons_zero]
  refine wpAnyH_take (i := 28) (v := undef) rfl (by kernel_rfl) (by kernel_rfl) (by kernel_rfl) (by first | exact fun _ _ _ h => h | exact fun _ _ _ h => nomatch h.1) (Or.inr ⟨by rfl, rfl⟩) hz ?_
  try simp only [Act.put, List.setIfInBounds_toArray, List.set_cons_zero, List.set_cons_succ, List.getElem_toArray, List.getElem_cons_succ, List.getElem_cons_zero]
  refine wpAnyH_take (i := 29) (v := .bool true) rfl (by kernel_rfl) (by kernel_rfl) (by kernel_rfl) (by first | exact fun _ _ _ h => h | exact fun _ _ _ h => nomatch h.1) (Or.inl ⟨by rfl, fun w_ hw_ => by go_simp⟩) hz ?_
  try simp only [Act.put, List.setIfInBounds_toArray, List.set_cons_zero, List.set_cons_succ, List.getElem_toArray, List.getElem_cons_succ, List.getElem_cons_zero]
  refine wpAnyH_done (by kernel_rfl) ?_ _
  go_wp2
  go_ret
  exact ⟨rfl, HC1.out.trans hz⟩

set_option maxRecDepth 100000 in
set_option maxHeartbeats 4000000 in
theorem rright_b (f : Fr) (sd sr : Value) (T : Nat → Prop) (w : World) (l : List UInt8) (h : whatM f.kind = some l) (hf : FrD w T f sd sr) (hd : decide (f = onlyM f l) = true) (n0 : f.id ≤ 4611686018427387903) (n1 : f.a ≤ 4611686018427387903) (hx : 4611686018427387903 < f.b) :
    Calls Tryd.prog 7 #[.agg (cellsF f sd sr).toArray] w fun e w' => e = .returned (.bool false) ∧ Chg none_ w w' := by
  have HSZ : Hid ((Tryd.prog.info? 27).map (·.size) = some (cellsF f sd sr).length) := Lib.hid (by rw [cF_len _ _ _ hf.tok]; exact size27)
  obtain ⟨sd', sr', HON, HSM, HWH, HQ⟩ : ∃ sd' sr', Hid (∀ w, Calls Tryd.prog 18 #[.agg (cellsF f sd sr).toArray, .string (whatS f.kind)] w fun e w' => e = .returned (.agg (cellsF (onlyM f l) sd' sr').toArray) ∧ Chg none_ w w') ∧
      Hid (∀ w', Chg none_ w w' → Calls Tryd.prog 12 #[.agg (cellsF f sd sr).toArray, .agg (cellsF (onlyM f l) sd' sr').toArray] w' fun e w'' => e = .returned (.bool (decide (f = onlyM f l))) ∧ Chg none_ w' w'') ∧
      Hid (∀ w, Calls Tryd.prog 17 #[.int .i64 f.kind] w fun e w' => e = .returned (.string (whatS f.kind)) ∧ w' = w) ∧ ¬ (whatS f.kind).toList = [63] := by
    obtain ⟨A, c, rfl, _, _⟩ := hf.data
    obtain ⟨B, d, rfl, _, _⟩ := hf.ranges
    obtain ⟨sd', sr', h1, h2⟩ := only_any h hf.tok A B c d
    refine ⟨sd', sr', Lib.hid h1, Lib.hid (fun w' hc => ?_), Lib.hid (fun w => what_any f.kind w), ?_⟩
    · have hf' := hf.chg hc (fun _ _ h => h)
      exact rsameF_any f (onlyM f l) _ _ sd' sr' w' T T hf' (h2 w' T hf')
    · rcases what_some h with ⟨hk, rfl⟩ | ⟨hk, rfl⟩ | ⟨hk, rfl⟩ | ⟨hk, rfl⟩ | ⟨hk, rfl⟩ | ⟨hk, rfl⟩ | ⟨hk, rfl⟩ | ⟨hk, rfl⟩ | ⟨hk, rfl⟩ | ⟨hk, rfl⟩ | ⟨hk, rfl⟩ | ⟨hk, rfl⟩ | ⟨hk, rfl⟩ | ⟨hk, rfl⟩ | ⟨hk, rfl⟩ | ⟨hk, rfl⟩ | ⟨hk, rfl⟩ | ⟨hk, rfl⟩ | ⟨hk, rfl⟩ | ⟨hk, rfl⟩
      all_goals (rw [hk]; decide +kernel)
  generalize hgo : onlyM f l = g at *
  generalize whatS f.kind = S at *
  rw [hd] at HSM
  clear h hf
  have n0' : ¬ (4611686018427387903 : Int) < (f.id : Int) := by omega
  have n1' : ¬ (4611686018427387903 : Int) < (f.a : Int) := by omega
  have hx' : (4611686018427387903 : Int) < (f.b : Int) := by omega
  go_enter Tryd.func7, Tryd.ntmps7
  go_wp2_with (first | ((with_reducible show wpList _ _ _ (⟨some 1, .box _ _, _, _, _, _⟩ :: _) _ _); refine wpList_box_Row rfl rfl (cellsF f sd sr) rfl ?_; intro w1 hr1 hc1 hs1; have HR1 := Lib.hid hr1; have HC1 := Lib.hid hc1; have q0 := (hr1.cell 0).trans (cF_0 f sd sr); clear hr1 hc1 hs1) | (go_at_call 17; refine (HWH.out _).mono ?_; rintro e w1 ⟨rfl, rfl⟩))
  obtain ⟨gR, hgR⟩ : ∃ g, g = w.heap.size := ⟨_, rfl⟩
  have HRX := Lib.hid (show ∀ x, Chg none_ w1 x → Row x gR 27 (cellsF f sd sr) from fun x hx => by rw [hgR]; exact HR1.out.chg hx (fun h => h))
  have HSM := Lib.hid (fun x (hx : Chg none_ w1 x) => HSM.out x (HC1.out.trans hx))
  rw [← hgR]
  clear hgR HR1
  refine wp_region_held_drew (S := fun x => Chg none_ w1 x) (by kernel_rfl) ((Chg.refl none_ w1).drew) (fun hch0 => ?_)
  have hz : Chg none_ w1 w1.drew := (Chg.refl none_ w1).drew
  generalize w1.drew = wz at hz ⊢
  clear hch0
  refine wpAnyH_take (i := 0) (v := .string S) rfl (by kernel_rfl) (by kernel_rfl) (by kernel_rfl) (by first | exact fun _ _ _ h => h | exact fun _ _ _ h => nomatch h.1) (Or.inl ⟨by rfl, fun w_ hw_ => by go_simp⟩) hz ?_
  try simp only [Act.put, List.setIfInBounds_toArray, List.set_cons_zero, List.set_cons_succ, List.getElem_toArray, List.getElem_cons_zero]
  refine wpAnyH_take (i := 1) (v := .bool false) rfl (by kernel_rfl) (by kernel_rfl) (by kernel_rfl) (by first | exact fun _ _ _ h => h | exact fun _ _ _ h => nomatch h.1) (Or.inl ⟨by rfl, fun w_ hw_ => by go_simp⟩) hz ?_
  try simp only [Act.put, List.setIfInBounds_toArray, List.set_cons_zero, List.set_cons_succ, List.getElem_toArray, List.getElem_cons_succ, List.getElem_cons_zero]
  refine wpAnyH_take (i := 2) (v := .bool false) rfl (by kernel_rfl) (by kernel_rfl) (by kernel_rfl) (by first | exact fun _ _ _ h => h | exact fun _ _ _ h => nomatch h.1) (Or.inl ⟨by rfl, fun w_ hw_ => by go_simp⟩) hz ?_
  try simp only [Act.put, List.setIfInBounds_toArray, List.set_cons_zero, List.set_cons_succ, List.getElem_toArray, List.getElem_cons_succ, List.getElem_cons_zero]
  refine wpAnyH_take (i := 3) (v := .agg (cellsF f sd sr).toArray) rfl (by kernel_rfl) (by kernel_rfl) (by kernel_rfl) (by first | exact fun _ _ _ h => h | exact fun _ _ _ h => nomatch h.1) (yieldsIf_load_mid (by rfl) 27 _ rfl gR 0 rfl (cellsF f sd sr) _ (fun x hx => (HRX.out x hx).rangeMid 0 _ (fun j v hv => by rw [Nat.zero_add]; exact hv)) Tryd.underlying27 rfl HSZ.out) hz ?_
  try simp only [Act.put, List.setIfInBounds_toArray, List.set_cons_zero, List.set_cons_succ, List.getElem_toArray, List.getElem_cons_succ, List.getElem_cons_zero]
  refine wpAnyH_take (i := 4) (v := .agg (cellsF f sd sr).toArray) rfl (by kernel_rfl) (by kernel_rfl) (by kernel_rfl) (by first | exact fun _ _ _ h => h | exact fun _ _ _ h => nomatch h.1) (yieldsIf_load_mid (by rfl) 27 _ rfl gR 0 rfl (cellsF f sd sr) _ (fun x hx => (HRX.out x hx).rangeMid 0 _ (fun j v hv => by rw [Nat.zero_add]; exact hv)) Tryd.underlying27 rfl HSZ.out) hz ?_
  try simp only [Act.put, List.setIfInBounds_toArray, List.set_cons_zero, List.set_cons_succ, List.getElem_toArray, List.getElem_cons_succ, List.getElem_cons_zero]
  refine wpAnyH_take (i := 5) (v := .string S) rfl (by kernel_rfl) (by kernel_rfl) (by kernel_rfl) (by first | exact fun _ _ _ h => h | exact fun _ _ _ h => nomatch h.1) (Or.inl ⟨by rfl, fun w_ hw_ => by go_simp⟩) hz ?_
  try simp only [Act.put, List.setIfInBounds_toArray, List.set_cons_zero, List.set_cons_succ, List.getElem_toArray, List.getElem_cons_succ, List.getElem_cons_zero]
  refine wpAnyH_ready (rs := [6]) (by kernel_rfl) (by simp) ?_
  refine AllReadyH.cons rfl (fun K hK => ?_) AllReadyH.nil
  rw [if_pos (by rfl)]
  try simp only [List.getElem_toArray, List.getElem_cons_succ, List.getElem_cons_zero]
  go_simp
  refine (HON.out _).mono ?_
  rintro e y1 ⟨rfl, hcx⟩
  have hz := hz.trans hcx
  clear hcx
  refine hK.out _ _ hz (fun _ => ?_)
  clear hK K
  try simp only [Act.put, List.setIfInBounds_toArray, List.set_cons_zero, List.set_cons_succ, List.getElem_toArray, List.getElem_cons_succ, List.getElem_cons_zero]
  refine wpAnyH_ready (rs := [7]) (by kernel_rfl) (by simp) ?_
  refine AllReadyH.cons rfl (fun K hK => ?_) AllReadyH.nil
  rw [if_pos (by rfl)]
  try simp only [List.getElem_toArray, List.getElem_cons_succ, List.getElem_cons_zero]
  go_simp
  refine (HSM.out _ hz).mono ?_
  rintro e y2 ⟨rfl, hcx⟩
  have hz := hz.trans hcx
  clear hcx
  refine hK.out _ _ hz (fun _ => ?_)
  clear hK K
  try simp only [Act.put, List.setIfInBounds_toArray, List.set_cons_zero, List.set_cons_succ, List.getElem_toArray, List.getElem_cons_succ, List.getElem_cons_zero]
  refine wpAnyH_take (i := 8) (v := .bool false) rfl (by kernel_rfl) (by kernel_rfl) (by kernel_rfl) (by first | exact fun _ _ _ h => h | exact fun _ _ _ h => nomatch h.1) (Or.inl ⟨by rfl, fun w_ hw_ => by go_simp⟩) hz ?_
  try simp only [Act.put, List.setIfInBounds_toArray, List.set_cons_zero, List.set_cons_succ, List.getElem_toArray, List.getElem_cons_succ, List.getElem_cons_zero]
  refine wpAnyH_take (i := 9) (v := .bool false) rfl (by kernel_rfl) (by kernel_rfl) (by kernel_rfl) (by first | exact fun _ _ _ h => h | exact fun _ _ _ h => nomatch h.1) (Or.inl ⟨by rfl, fun w_ hw_ => by go_simp⟩) hz ?_
  try simp only [Act.put, List.setIfInBounds_toArray, List.set_cons_zero, List.set_cons_succ, List.getElem_toArray, List.getElem_cons_succ, List.getElem_cons_zero]
  refine wpAnyH_take (i := 10) (v := .bool false) rfl (by kernel_rfl) (by kernel_rfl) (by kernel_rfl) (by first | exact fun _ _ _ h => h | exact fun _ _ _ h => nomatch h.1) (Or.inl ⟨by rfl, fun w_ hw_ => by go_simp⟩) hz ?_
  try simp only [Act.put, List.setIfInBounds_toArray, List.set_cons_zero, List.set_cons_succ, List.getElem_toArray, List.getElem_cons_succ, List.getElem_cons_zero]
  refine wpAnyH_take (i := 11) (v := .pointer (some ⟨gR, 1, none⟩)) rfl (by kernel_rfl) (by kernel_rfl) (by kernel_rfl) (by first | exact fun _ _ _ h => h | exact fun _ _ _ h => nomatch h.1) (Or.inl ⟨by rfl, fun w_ hw_ => by go_simp⟩) hz ?_
  try simp only [Act.put, List.setIfInBounds_toArray, List.set_cons_zero, List.set_cons_succ, List.getElem_toArray, List.getElem_cons_succ, List.getElem_cons_zero]
  refine wpAnyH_take (i := 12) (v := .int .u64 (f.id : Nat)) rfl (by kernel_rfl) (by kernel_rfl) (by kernel_rfl) (by first | exact fun _ _ _ h => h | exact fun _ _ _ h => nomatch h.1) (Or.inl ⟨by rfl, fun w_ hw_ => by have q_ : w_.cell? ⟨gR, 1, none⟩ = some (.int .u64 (f.id : Nat)) := (HRX.out _ hw_).cell 1; go_simp⟩) hz ?_
  try simp only [Act.put, List.setIfInBounds_toArray, List.set_cons_zero, List.set_cons_succ, List.getElem_toArray, List.getElem_cons_succ, List.getElem_cons_zero]
  refine wpAnyH_take (i := 13) (v := .bool false) rfl (by kernel_rfl) (by kernel_rfl) (by kernel_rfl) (by first | exact fun _ _ _ h => h | exact fun _ _ _ h => nomatch h.1) (Or.inl ⟨by rfl, fun w_ hw_ => by go_simp⟩) hz ?_
  try simp only [Act.put, List.setIfInBounds_toArray, List.set_cons_zero, List.set_cons_succ, List.getElem_toArray, List.getElem_cons_succ, List.getElem_cons_zero]
  refine wpAnyH_take (i := 14) (v := .bool false) rfl (by kernel_rfl) (by kernel_rfl) (by kernel_rfl) (by first | exact fun _ _ _ h => h | exact fun _ _ _ h => nomatch h.1) (Or.inl ⟨by rfl, fun w_ hw_ => by go_simp⟩) hz ?_
  try simp only [Act.put, List.setIfInBounds_toArray, List.set_cons_zero, List.set_cons_succ, List.getElem_toArray, List.getElem_cons_succ, List.getElem_cons_zero]
  refine wpAnyH_take (i := 15) (v := .bool false) rfl (by kernel_rfl) (by kernel_rfl) (by kernel_rfl) (by first | exact fun _ _ _ h => h | exact fun _ _ _ h => nomatch h.1) (Or.inl ⟨by rfl, fun w_ hw_ => by go_simp⟩) hz ?_
  try simp only [Act.put, List.setIfInBounds_toArray, List.set_cons_zero, List.set_cons_succ, List.getElem_toArray, List.getElem_cons_succ, List.getElem_cons_zero]
  refine wpAnyH_take (i := 16) (v := .pointer (some ⟨gR, 2, none⟩)) rfl (by kernel_rfl) (by kernel_rfl) (by kernel_rfl) (by first | exact fun _ _ _ h => h | exact fun _ _ _ h => nomatch h.1) (Or.inl ⟨by rfl, fun w_ hw_ => by go_simp⟩) hz ?_
  try simp only [Act.put, List.setIfInBounds_toArray, List.set_cons_zero, List.set_cons_succ, List.getElem_toArray, List.getElem_cons_succ, List.getElem_cons_zero]
  refine wpAnyH_take (i := 17) (v := .int .u64 (f.a : Nat)) rfl (by kernel_rfl) (by kernel_rfl) (by kernel_rfl) (by first | exact fun _ _ _ h => h | exact fun _ _ _ h => nomatch h.1) (Or.inl ⟨by rfl, fun w_ hw_ => by have q_ : w_.cell? ⟨gR, 2, none⟩ = some (.int .u64 (f.a : Nat)) := (HRX.out _ hw_).cell 2; go_simp⟩) hz ?_
  try simp only [Act.put, List.setIfInBounds_toArray, List.set_cons_zero, List.set_cons_succ, List.getElem_toArray, List.getElem_cons_succ, List.getElem_cons_zero]
  refine wpAnyH_take (i := 18) (v := .bool false) rfl (by kernel_rfl) (by kernel_rfl) (by kernel_rfl) (by first | exact fun _ _ _ h => h | exact fun _ _ _ h => nomatch h.1) (Or.inl ⟨by rfl, fun w_ hw_ => by go_simp⟩) hz ?_
  try simp only [Act.put, List.setIfInBounds_toArray, List.set_cons_zero, List.set_cons_succ, List.getElem_toArray, List.getElem_cons_succ, List.getElem_cons_zero]
  refine wpAnyH_take (i := 19) (v := .bool false) rfl (by kernel_rfl) (by kernel_rfl) (by kernel_rfl) (by first | exact fun _ _ _ h => h | exact fun _ _ _ h => nomatch h.1) (Or.inl ⟨by rfl, fun w_ hw_ => by go_simp⟩) hz ?_
  try simp only [Act.put, List.setIfInBounds_toArray, List.set_cons_zero, List.set_cons_succ, List.getElem_toArray, List.getElem_cons_succ, List.getElem_cons_zero]
  refine wpAnyH_take (i := 20) (v := .bool false) rfl (by kernel_rfl) (by kernel_rfl) (by kernel_rfl) (by first | exact fun _ _ _ h => h | exact fun _ _ _ h => nomatch h.1) (Or.inl ⟨by rfl, fun w_ hw_ => by go_simp⟩) hz ?_
  try simp only [Act.put, List.setIfInBounds_toArray, List.set_cons_zero, List.set_cons_succ, List.getElem_toArray, List.getElem_cons_succ, List.getElem_cons_zero]
  refine wpAnyH_take (i := 21) (v := .pointer (some ⟨gR, 3, none⟩)) rfl (by kernel_rfl) (by kernel_rfl) (by kernel_rfl) (by first | exact fun _ _ _ h => h | exact fun _ _ _ h => nomatch h.1) (Or.inl ⟨by rfl, fun w_ hw_ => by go_simp⟩) hz ?_
  try simp only [Act.put, List.setIfInBounds_toArray, List.set_cons_zero, List.set_cons_succ, List.getElem_toArray, List.getElem_cons_succ, List.getElem_cons_zero]
  refine wpAnyH_take (i := 22) (v := .int .u64 (f.b : Nat)) rfl (by kernel_rfl) (by kernel_rfl) (by kernel_rfl) (by first | exact fun _ _ _ h => h | exact fun _ _ _ h => nomatch h.1) (Or.inl ⟨by rfl, fun w_ hw_ => by have q_ : w_.cell? ⟨gR, 3, none⟩ = some (.int .u64 (f.b : Nat)) := (HRX.out _ hw_).cell 3; go_simp⟩) hz ?_
  try simp only [Act.put, List.setIfInBounds_toArray, List.set_cons_zero, List.set_cons_succ, List.getElem_toArray, List.getElem_cons_succ, List.getElem_cons_zero]
  refine wpAnyH_take (i := 23) (v := .bool true) rfl (by kernel_rfl) (by kernel_rfl) (by kernel_rfl) (by first | exact fun _ _ _ h => h | exact fun _ _ _ h => nomatch h.1) (Or.inl ⟨by rfl, fun w_ hw_ => by go_simp⟩) hz ?_
  try simp only [Act.put, List.setIfInBounds_toArray, List.set_cons_zero, List.set_cons_succ, List.getElem_toArray, List.getElem_cons_succ, List.getElem_cons_zero]
  refine wpAnyH_take (i := 24) (v := .bool true) rfl (by kernel_rfl) (by kernel_rfl) (by kernel_rfl) (by first | exact fun _ _ _ h => h | exact fun _ _ _ h => nomatch h.1) (Or.inl ⟨by rfl, fun w_ hw_ => by go_simp⟩) hz ?_
  try simp only [Act.put, List.setIfInBounds_toArray, List.set_cons_zero, List.set_cons_succ, List.getElem_toArray, List.getElem_cons_succ, List.getElem_cons_zero]
  refine wpAnyH_take (i := 25) (v := .bool true) rfl (by kernel_rfl) (by kernel_rfl) (by kernel_rfl) (by first | exact fun _ _ _ h => h | exact fun _ _ _ h => nomatch h.1) (Or.inl ⟨by rfl, fun w_ hw_ => by go_simp⟩) hz ?_
  try simp only [Act.put, List.setIfInBounds_toArray, List.set_cons_zero, List.set_cons_succ, List.getElem_toArray, List.getElem_cons_succ, List.getElem_cons_zero]
  refine wpAnyH_take (i := 26) (v := undef) rfl (by kernel_rfl) (by kernel_rfl) (by kernel_rfl) (by first | exact fun _ _ _ h => h | exact fun _ _ _ h => nomatch h.1) (Or.inr ⟨by rfl, rfl⟩) hz ?_
  try simp only [Act.put, List.setIfInBounds_toArray, List.set_cons_zero, List.set_cons_succ, List.getElem_toArray, List.getElem_cons_succ, List.getElem_cons_zero]
  refine wpAnyH_take (i := 27) (v := undef) rfl (by kernel_rfl) (by kernel_rfl) (by kernel_rfl) (by first | exact fun _ _ _ h => h | exact fun _ _ _ h => nomatch h.1) (Or.inr ⟨by rfl, rfl⟩) hz ?_
  try simp only [Act.put, List.setIfInBounds_toArray, List.set_cons_zero, List.set_cons_succ, List.getElem_toArray, List.getElem_cons_succ, List.getElem_cons_zero]
  refine wpAnyH_take (i := 28) (v := undef) rfl (by kernel_rfl) (by kernel_rfl) (by kernel_rfl) (by first | exact fun _ _ _ h => h | exact fun _ _ _ h => nomatch h.1) (Or.inr ⟨by rfl, rfl⟩) hz ?_
  try simp only [Act.put, List.setIfInBounds_toArray, List.set_cons_zero, List.set_cons_succ, List.getElem_toArray, List.getElem_cons_succ, List.getElem_cons_zero]
  refine wpAnyH_take (i := 29) (v := .bool true) rfl (by kernel_rfl) (by kernel_rfl) (by kernel_rfl) (by first | exact fun _ _ _ h => h | exact fun _ _ _ h => nomatch h.1) (Or.inl ⟨by rfl, fun w_ hw_ => by go_simp⟩) hz ?_
  try simp only [Act.put, List.setIfInBounds_toArray, List.set_cons_zero, List.set_cons_succ, List.getElem_toArray, List.getElem_cons_succ, List.getElem_cons_zero]
  refine wpAnyH_done (by kernel_rfl) ?_ _
  go_wp2
  go_ret
  exact ⟨rfl, HC1.out.trans hz⟩

set_option maxRecDepth 100000 in
set_option maxHeartbeats 4000000 in
theorem rright_code (f : Fr) (sd sr : Value) (T : Nat → Prop) (w : World) (l : List UInt8) (h : whatM f.kind = some l) (hf : FrD w T f sd sr) (hd : decide (f = onlyM f l) = true) (n0 : f.id ≤ 4611686018427387903) (n1 : f.a ≤ 4611686018427387903) (n2 : f.b ≤ 4611686018427387903) (hx : 4611686018427387903 < f.code) :
    Calls Tryd.prog 7 #[.agg (cellsF f sd sr).toArray] w fun e w' => e = .returned (.bool false) ∧ Chg none_ w w' := by
  have HSZ : Hid ((Tryd.prog.info? 27).map (·.size) = some (cellsF f sd sr).length) := Lib.hid (by rw [cF_len _ _ _ hf.tok]; exact size27)
  obtain ⟨sd', sr', HON, HSM, HWH, HQ⟩ : ∃ sd' sr', Hid (∀ w, Calls Tryd.prog 18 #[.agg (cellsF f sd sr).toArray, .string (whatS f.kind)] w fun e w' => e = .returned (.agg (cellsF (onlyM f l) sd' sr').toArray) ∧ Chg none_ w w') ∧
      Hid (∀ w', Chg none_ w w' → Calls Tryd.prog 12 #[.agg (cellsF f sd sr).toArray, .agg (cellsF (onlyM f l) sd' sr').toArray] w' fun e w'' => e = .returned (.bool (decide (f = onlyM f l))) ∧ Chg none_ w' w'') ∧
      Hid (∀ w, Calls Tryd.prog 17 #[.int .i64 f.kind] w fun e w' => e = .returned (.string (whatS f.kind)) ∧ w' = w) ∧ ¬ (whatS f.kind).toList = [63] := by
    obtain ⟨A, c, rfl, _, _⟩ := hf.data
    obtain ⟨B, d, rfl, _, _⟩ := hf.ranges
    obtain ⟨sd', sr', h1, h2⟩ := only_any h hf.tok A B c d
    refine ⟨sd', sr', Lib.hid h1, Lib.hid (fun w' hc => ?_), Lib.hid (fun w => what_any f.kind w), ?_⟩
    · have hf' := hf.chg hc (fun _ _ h => h)
      exact rsameF_any f (onlyM f l) _ _ sd' sr' w' T T hf' (h2 w' T hf')
    · rcases what_some h with ⟨hk, rfl⟩ | ⟨hk, rfl⟩ | ⟨hk, rfl⟩ | ⟨hk, rfl⟩ | ⟨hk, rfl⟩ | ⟨hk, rfl⟩ | ⟨hk, rfl⟩ | ⟨hk, rfl⟩ | ⟨hk, rfl⟩ | ⟨hk, rfl⟩ | ⟨hk, rfl⟩ | ⟨hk, rfl⟩ | ⟨hk, rfl⟩ | ⟨hk, rfl⟩ | ⟨hk, rfl⟩ | ⟨hk, rfl⟩ | ⟨hk, rfl⟩ | ⟨hk, rfl⟩ | ⟨hk, rfl⟩ | ⟨hk, rfl⟩
      all_goals (rw [hk]; decide +kernel)
  generalize hgo : onlyM f l = g at *
  generalize whatS f.kind = S at *
  rw [hd] at HSM
  clear h hf
  have n0' : ¬ (4611686018427387903 : Int) < (f.id : Int) := by omega
  have n1' : ¬ (4611686018427387903 : Int) < (f.a : Int) := by omega
  have n2' : ¬ (4611686018427387903 : Int) < (f.b : Int) := by omega
  have hx' : (4611686018427387903 : Int) < (f.code : Int) := by omega
  go_enter Tryd.func7, Tryd.ntmps7
  go_wp2_with (first | ((with_reducible show wpList _ _ _ (⟨some 1, .box _ _, _, _, _, _⟩ :: _) _ _); refine wpList_box_Row rfl rfl (cellsF f sd sr) rfl ?_; intro w1 hr1 hc1 hs1; have HR1 := Lib.hid hr1; have HC1 := Lib.hid hc1; have q0 := (hr1.cell 0).trans (cF_0 f sd sr); clear hr1 hc1 hs1) | (go_at_call 17; refine (HWH.out _).mono ?_; rintro e w1 ⟨rfl, rfl⟩))
  obtain ⟨gR, hgR⟩ : ∃ g, g = w.heap.size := ⟨_, rfl⟩
  have HRX := Lib.hid (show ∀ x, Chg none_ w1 x → Row x gR 27 (cellsF f sd sr) from fun x hx => by rw [hgR]; exact HR1.out.chg hx (fun h => h))
  have HSM := Lib.hid (fun x (hx : Chg none_ w1 x) => HSM.out x (HC1.out.trans hx))
  rw [← hgR]
  clear hgR HR1
  refine wp_region_held_drew (S := fun x => Chg none_ w1 x) (by kernel_rfl) ((Chg.refl none_ w1).drew) (fun hch0 => ?_)
  have hz : Chg none_ w1 w1.drew := (Chg.refl none_ w1).drew
  generalize w1.drew = wz at hz ⊢
  clear hch0
  refine wpAnyH_take (i := 0) (v := .string S) rfl (by kernel_rfl) (by kernel_rfl) (by kernel_rfl) (by first | exact fun _ _ _ h => h | exact fun _ _ _ h => nomatch h.1) (Or.inl ⟨by rfl, fun w_ hw_ => by go_simp⟩) hz ?_
  try simp only [Act.put, List.setIfInBounds_toArray, List.set_cons_zero, List.set_cons_succ, List.getElem_toArray, List.getElem_cons_zero]
  refine wpAnyH_take (i := 1) (v := .bool false) rfl (by kernel_rfl) (by kernel_rfl) (by kernel_rfl) (by first | exact fun _ _ _ h => h | exact fun _ _ _ h => nomatch h.1) (Or.inl ⟨by rfl, fun w_ hw_ => by go_simp⟩) hz ?_
  try simp only [Act.put, List.setIfInBounds_toArray, List.set_cons_zero, List.set_cons_succ, List.getElem_toArray, List.getElem_cons_succ, List.getElem_cons_zero]
  refine wpAnyH_take (i := 2) (v := .bool false) rfl (by kernel_rfl) (by kernel_rfl) (by kernel_rfl) (by first | exact fun _ _ _ h => h | exact fun _ _ _ h => nomatch h.1) (Or.inl ⟨by rfl, fun w_ hw_ => by go_simp⟩) hz ?_
  try simp only [Act.put, List.setIfInBounds_toArray, List.set_cons_zero, List.set_cons_succ, List.getElem_toArray, List.getElem_cons_succ, List.getElem_cons_zero]
  refine wpAnyH_take (i := 3) (v := .agg (cellsF f sd sr).toArray) rfl (by kernel_rfl) (by kernel_rfl) (by kernel_rfl) (by first | exact fun _ _ _ h => h | exact fun _ _ _ h => nomatch h.1) (yieldsIf_load_mid (by rfl) 27 _ rfl gR 0 rfl (cellsF f sd sr) _ (fun x hx => (HRX.out x hx).rangeMid 0 _ (fun j v hv => by rw [Nat.zero_add]; exact hv)) Tryd.underlying27 rfl HSZ.out) hz ?_
  try simp only [Act.put, List.setIfInBounds_toArray, List.set_cons_zero, List.set_cons_succ, List.getElem_toArray, List.getElem_cons_succ, List.getElem_cons_zero]
  refine wpAnyH_take (i := 4) (v := .agg (cellsF f sd sr).toArray) rfl (by kernel_rfl) (by kernel_rfl) (by kernel_rfl) (by first | exact fun _ _ _ h => h | exact fun _ _ _ h => nomatch h.1) (yieldsIf_load_mid (by rfl) 27 _ rfl gR 0 rfl (cellsF f sd sr) _ (fun x hx => (HRX.out x hx).rangeMid 0 _ (fun j v hv => by rw [Nat.zero_add]; exact hv)) Tryd.underlying27 rfl HSZ.out) hz ?_
  try simp only [Act.put, List.setIfInBounds_toArray, List.set_cons_zero, List.set_cons_succ, List.getElem_toArray, List.getElem_cons_succ, List.getElem_cons_zero]
  refine wpAnyH_take (i := 5) (v := .string S) rfl (by kernel_rfl) (by kernel_rfl) (by kernel_rfl) (by first | exact fun _ _ _ h => h | exact fun _ _ _ h => nomatch h.1) (Or.inl ⟨by rfl, fun w_ hw_ => by go_simp⟩) hz ?_
  try simp only [Act.put, List.setIfInBounds_toArray, List.set_cons_zero, List.set_cons_succ, List.getElem_toArray, List.getElem_cons_succ, List.getElem_cons_zero]
  refine wpAnyH_ready (rs := [6]) (by kernel_rfl) (by simp) ?_
  refine AllReadyH.cons rfl (fun K hK => ?_) AllReadyH.nil
  rw [if_pos (by rfl)]
  try simp only [List.getElem_toArray, List.getElem_cons_succ, List.getElem_cons_zero]
  go_simp
  refine (HON.out _).mono ?_
  rintro e y1 ⟨rfl, hcx⟩
  have hz := hz.trans hcx
  clear hcx
  refine hK.out _ _ hz (fun _ => ?_)
  clear hK K
  try simp only [Act.put, List.setIfInBounds_toArray, List.set_cons_zero, List.set_cons_succ, List.getElem_toArray, List.getElem_cons_succ, List.getElem_cons_zero]
  refine wpAnyH_ready (rs := [7]) (by kernel_rfl) (by simp) ?_
  refine AllReadyH.cons rfl (fun K hK => ?_) AllReadyH.nil
  rw [if_pos (by rfl)]
  try simp only [List.getElem_toArray, List.getElem_cons_succ, List.getElem_cons_zero]
  go_simp
  refine (HSM.out _ hz).mono ?_
  rintro e y2 ⟨rfl, hcx⟩
  have hz := hz.trans hcx
  clear hcx
  refine hK.out _ _ hz (fun _ => ?_)
  clear hK K
  try simp only [Act.put, List.setIfInBounds_toArray, List.set_cons_zero, List.set_cons_succ, List.getElem_toArray, List.getElem_cons_succ, List.getElem_cons_zero]
  refine wpAnyH_take (i := 8) (v := .bool false) rfl (by kernel_rfl) (by kernel_rfl) (by kernel_rfl) (by first | exact fun _ _ _ h => h | exact fun _ _ _ h => nomatch h.1) (Or.inl ⟨by rfl, fun w_ hw_ => by go_simp⟩) hz ?_
  try simp only [Act.put, List.setIfInBounds_toArray, List.set_cons_zero, List.set_cons_succ, List.getElem_toArray, List.getElem_cons_succ, List.getElem_cons_zero]
  refine wpAnyH_take (i := 9) (v := .bool false) rfl (by kernel_rfl) (by kernel_rfl) (by kernel_rfl) (by first | exact fun _ _ _ h => h | exact fun _ _ _ h => nomatch h.1) (Or.inl ⟨by rfl, fun w_ hw_ => by go_simp⟩) hz ?_
  try simp only [Act.put, List.setIfInBounds_toArray, List.set_cons_zero, List.set_cons_succ, List.getElem_toArray, List.getElem_cons_succ, List.getElem_cons_zero]
  refine wpAnyH_take (i := 10) (v := .bool false) rfl (by kernel_rfl) (by kernel_rfl) (by kernel_rfl) (by first | exact fun _ _ _ h => h | exact fun _ _ _ h => nomatch h.1) (Or.inl ⟨by rfl, fun w_ hw_ => by go_simp⟩) hz ?_
  try simp only [Act.put, List.setIfInBounds_toArray, List.set_cons_zero, List.set_cons_succ, List.getElem_toArray, List.getElem_cons_succ, List.getElem_cons_zero]
  refine wpAnyH_take (i := 11) (v := .pointer (some ⟨gR, 1, none⟩)) rfl (by kernel_rfl) (by kernel_rfl) (by kernel_rfl) (by first | exact fun _ _ _ h => h | exact fun _ _ _ h => nomatch h.1) (Or.inl ⟨by rfl, fun w_ hw_ => by go_simp⟩) hz ?_
  try simp only [Act.put, List.setIfInBounds_toArray, List.set_cons_zero, List.set_cons_succ, List.getElem_toArray, List.getElem_cons_succ, List.getElem_cons_zero]
  refine wpAnyH_take (i := 12) (v := .int .u64 (f.id : Nat)) rfl (by kernel_rfl) (by kernel_rfl) (by kernel_rfl) (by first | exact fun _ _ _ h => h | exact fun _ _ _ h => nomatch h.1) (Or.inl ⟨by rfl, fun w_ hw_ => by have q_ : w_.cell? ⟨gR, 1, none⟩ = some (.int .u64 (f.id : Nat)) := (HRX.out _ hw_).cell 1; go_simp⟩) hz ?_
  try simp only [Act.put, List.setIfInBounds_toArray, List.set_cons_zero, List.set_cons_succ, List.getElem_toArray, List.getElem_cons_succ, List.getElem_cons_zero]
  refine wpAnyH_take (i := 13) (v := .bool false) rfl (by kernel_rfl) (by kernel_rfl) (by kernel_rfl) (by first | exact fun _ _ _ h => h | exact fun _ _ _ h => nomatch h.1) (Or.inl ⟨by rfl, fun w_ hw_ => by go_simp⟩) hz ?_
  try simp only [Act.put, List.setIfInBounds_toArray, List.set_cons_zero, List.set_cons_succ, List.getElem_toArray, List.getElem_cons_succ, List.getElem_cons_zero]
  refine wpAnyH_take (i := 14) (v := .bool false) rfl (by kernel_rfl) (by kernel_rfl) (by kernel_rfl) (by first | exact fun _ _ _ h => h | exact fun _ _ _ h => nomatch h.1) (Or.inl ⟨by rfl, fun w_ hw_ => by go_simp⟩) hz ?_
  try simp only [Act.put, List.setIfInBounds_toArray, List.set_cons_zero, List.set_cons_succ, List.getElem_toArray, List.getElem_cons_succ, List.getElem_cons_zero]
  refine wpAnyH_take (i := 15) (v := .bool false) rfl (by kernel_rfl) (by kernel_rfl) (by kernel_rfl) (by first | exact fun _ _ _ h => h | exact fun _ _ _ h => nomatch h.1) (Or.inl ⟨by rfl, fun w_ hw_ => by go_simp⟩) hz ?_
  try simp only [Act.put, List.setIfInBounds_toArray, List.set_cons_zero, List.set_cons_succ, List.getElem_toArray, List.getElem_cons_succ, List.getElem_cons_zero]
  refine wpAnyH_take (i := 16) (v := .pointer (some ⟨gR, 2, none⟩)) rfl (by kernel_rfl) (by kernel_rfl) (by kernel_rfl) (by first | exact fun _ _ _ h => h | exact fun _ _ _ h => nomatch h.1) (Or.inl ⟨by rfl, fun w_ hw_ => by go_simp⟩) hz ?_
  try simp only [Act.put, List.setIfInBounds_toArray, List.set_cons_zero, List.set_cons_succ, List.getElem_toArray, List.getElem_cons_succ, List.getElem_cons_zero]
  refine wpAnyH_take (i := 17) (v := .int .u64 (f.a : Nat)) rfl (by kernel_rfl) (by kernel_rfl) (by kernel_rfl) (by first | exact fun _ _ _ h => h | exact fun _ _ _ h => nomatch h.1) (Or.inl ⟨by rfl, fun w_ hw_ => by have q_ : w_.cell? ⟨gR, 2, none⟩ = some (.int .u64 (f.a : Nat)) := (HRX.out _ hw_).cell 2; go_simp⟩) hz ?_
  try simp only [Act.put, List.setIfInBounds_toArray, List.set_cons_zero, List.set_cons_succ, List.getElem_toArray, List.getElem_cons_succ, List.getElem_cons_zero]
  refine wpAnyH_take (i := 18) (v := .bool false) rfl (by kernel_rfl) (by kernel_rfl) (by kernel_rfl) (by first | exact fun _ _ _ h => h | exact fun _ _ _ h => nomatch h.1) (Or.inl ⟨by rfl, fun w_ hw_ => by go_simp⟩) hz ?_
  try simp only [Act.put, List.setIfInBounds_toArray, List.set_cons_zero, List.set_cons_succ, List.getElem_toArray, List.getElem_cons_succ, List.getElem_cons_zero]
  refine wpAnyH_take (i := 19) (v := .bool false) rfl (by kernel_rfl) (by kernel_rfl) (by kernel_rfl) (by first | exact fun _ _ _ h => h | exact fun _ _ _ h => nomatch h.1) (Or.inl ⟨by rfl, fun w_ hw_ => by go_simp⟩) hz ?_
  try simp only [Act.put, List.setIfInBounds_toArray, List.set_cons_zero, List.set_cons_succ, List.getElem_toArray, List.getElem_cons_succ, List.getElem_cons_zero]
  refine wpAnyH_take (i := 20) (v := .bool false) rfl (by kernel_rfl) (by kernel_rfl) (by kernel_rfl) (by first | exact fun _ _ _ h => h | exact fun _ _ _ h => nomatch h.1) (Or.inl ⟨by rfl, fun w_ hw_ => by go_simp⟩) hz ?_
  try simp only [Act.put, List.setIfInBounds_toArray, List.set_cons_zero, List.set_cons_succ, List.getElem_toArray, List.getElem_cons_succ, List.getElem_cons_zero]
  refine wpAnyH_take (i := 21) (v := .pointer (some ⟨gR, 3, none⟩)) rfl (by kernel_rfl) (by kernel_rfl) (by kernel_rfl) (by first | exact fun _ _ _ h => h | exact fun _ _ _ h => nomatch h.1) (Or.inl ⟨by rfl, fun w_ hw_ => by go_simp⟩) hz ?_
  try simp only [Act.put, List.setIfInBounds_toArray, List.set_cons_zero, List.set_cons_succ, List.getElem_toArray, List.getElem_cons_succ, List.getElem_cons_zero]
  refine wpAnyH_take (i := 22) (v := .int .u64 (f.b : Nat)) rfl (by kernel_rfl) (by kernel_rfl) (by kernel_rfl) (by first | exact fun _ _ _ h => h | exact fun _ _ _ h => nomatch h.1) (Or.inl ⟨by rfl, fun w_ hw_ => by have q_ : w_.cell? ⟨gR, 3, none⟩ = some (.int .u64 (f.b : Nat)) := (HRX.out _ hw_).cell 3; go_simp⟩) hz ?_
  try simp only [Act.put, List.setIfInBounds_toArray, List.set_cons_zero, List.set_cons_succ, List.getElem_toArray, List.getElem_cons_succ, List.getElem_cons_zero]
  refine wpAnyH_take (i := 23) (v := .bool false) rfl (by kernel_rfl) (by kernel_rfl) (by kernel_rfl) (by first | exact fun _ _ _ h => h | exact fun _ _ _ h => nomatch h.1) (Or.inl ⟨by rfl, fun w_ hw_ => by go_simp⟩) hz ?_
  try simp only [Act.put, List.setIfInBounds_toArray, List.set_cons_zero, List.set_cons_succ, List.getElem_toArray, List.getElem_cons_succ, List.getElem_cons_zero]
  refine wpAnyH_take (i := 24) (v := .bool false) rfl (by kernel_rfl) (by kernel_rfl) (by kernel_rfl) (by first | exact fun _ _ _ h => h | exact fun _ _ _ h => nomatch h.1) (Or.inl ⟨by rfl, fun w_ hw_ => by go_simp⟩) hz ?_
  try simp only [Act.put, List.setIfInBounds_toArray, List.set_cons_zero, List.set_cons_succ, List.getElem_toArray, List.getElem_cons_succ, List.getElem_cons_zero]
  refine wpAnyH_take (i := 25) (v := .bool false) rfl (by kernel_rfl) (by kernel_rfl) (by kernel_rfl) (by first | exact fun _ _ _ h => h | exact fun _ _ _ h => nomatch h.1) (Or.inl ⟨by rfl, fun w_ hw_ => by go_simp⟩) hz ?_
  try simp only [Act.put, List.setIfInBounds_toArray, List.set_cons_zero, List.set_cons_succ, List.getElem_toArray, List.getElem_cons_succ, List.getElem_cons_zero]
  refine wpAnyH_take (i := 26) (v := .pointer (some ⟨gR, 4, none⟩)) rfl (by kernel_rfl) (by kernel_rfl) (by kernel_rfl) (by first | exact fun _ _ _ h => h | exact fun _ _ _ h => nomatch h.1) (Or.inl ⟨by rfl, fun w_ hw_ => by go_simp⟩) hz ?_
  try simp only [Act.put, List.setIfInBounds_toArray, List.set_cons_zero, List.set_cons_succ, List.getElem_toArray, List.getElem_cons_succ, List.getElem_cons_zero]
  refine wpAnyH_take (i := 27) (v := .int .u64 (f.code : Nat)) rfl (by kernel_rfl) (by kernel_rfl) (by kernel_rfl) (by first | exact fun _ _ _ h => h | exact fun _ _ _ h => nomatch h.1) (Or.inl ⟨by rfl, fun w_ hw_ => by have q_ : w_.cell? ⟨gR, 4, none⟩ = some (.int .u64 (f.code : Nat)) := (HRX.out _ hw_).cell 4; go_simp⟩) hz ?_
  try simp only [Act.put, List.setIfInBounds_toArray, List.set_cons_zero, List.set_cons_succ, List.getElem_toArray, List.getElem_cons_succ, List.getElem_cons_zero]
  refine wpAnyH_take (i := 28) (v := .bool true) rfl (by kernel_rfl) (by kernel_rfl) (by kernel_rfl) (by first | exact fun _ _ _ h => h | exact fun _ _ _ h => nomatch h.1) (Or.inl ⟨by rfl, fun w_ hw_ => by go_simp⟩) hz ?_
  try simp only [Act.put, List.setIfInBounds_toArray, List.set_cons_zero, List.set_cons_succ, List.getElem_toArray, List.getElem_cons_succ, List.getElem_cons_zero]
  refine wpAnyH_take (i := 29) (v := .bool true) rfl (by kernel_rfl) (by kernel_rfl) (by kernel_rfl) (by first | exact fun _ _ _ h => h | exact fun _ _ _ h => nomatch h.1) (Or.inl ⟨by rfl, fun w_ hw_ => by go_simp⟩) hz ?_
  try simp only [Act.put, List.setIfInBounds_toArray, List.set_cons_zero, List.set_cons_succ, List.getElem_toArray, List.getElem_cons_succ, List.getElem_cons_zero]
  refine wpAnyH_done (by kernel_rfl) ?_ _
  go_wp2
  go_ret
  exact ⟨rfl, HC1.out.trans hz⟩

end Go.Proofs.YtlcffjmbfpdlbaaDoor

namespace Go.Proofs.YtlcffjmbfpdlbaaDoor
open Go.RowKit

set_option maxRecDepth 100000 in
set_option maxHeartbeats 40000000 in
theorem rright_fit (f : Fr) (sd sr : Value) (T : Nat → Prop) (w : World) (l : List UInt8) (h : whatM f.kind = some l) (hf : FrD w T f sd sr) (_of : f.Ok) (hd : decide (f = onlyM f l) = true) (n0 : f.id ≤ 4611686018427387903) (n1 : f.a ≤ 4611686018427387903) (n2 : f.b ≤ 4611686018427387903) (n3 : f.code ≤ 4611686018427387903) (hne : f.kind ≠ 2) :
    Calls Tryd.prog 7 #[.agg (cellsF f sd sr).toArray] w fun e w' => e = .returned (.bool (fitsR f)) ∧ Chg none_ w w' := by
  have hws := what_some h
  have HSD : Hid (∃ A c, sd = .slice A f.data.length c) := Lib.hid (by obtain ⟨A, c, h1, _, _⟩ := hf.data; exact ⟨A, c, h1⟩)
  have HDL : Hid (f.data.length ≤ 1000000) := Lib.hid (by obtain ⟨A, c, _, h1, _⟩ := hf.data; exact h1)
  have HWS := Lib.hid hws
  have HNE := Lib.hid hne
  clear hws hne
  have HSZ : Hid ((Tryd.prog.info? 27).map (·.size) = some (cellsF f sd sr).length) := Lib.hid (by rw [cF_len _ _ _ hf.tok]; exact size27)
  obtain ⟨sd', sr', HON, HSM, HWH, HQ⟩ : ∃ sd' sr', Hid (∀ w, Calls Tryd.prog 18 #[.agg (cellsF f sd sr).toArray, .string (whatS f.kind)] w fun e w' => e = .returned (.agg (cellsF (onlyM f l) sd' sr').toArray) ∧ Chg none_ w w') ∧
      Hid (∀ w', Chg none_ w w' → Calls Tryd.prog 12 #[.agg (cellsF f sd sr).toArray, .agg (cellsF (onlyM f l) sd' sr').toArray] w' fun e w'' => e = .returned (.bool (decide (f = onlyM f l))) ∧ Chg none_ w' w'') ∧
      Hid (∀ w, Calls Tryd.prog 17 #[.int .i64 f.kind] w fun e w' => e = .returned (.string (whatS f.kind)) ∧ w' = w) ∧ ¬ (whatS f.kind).toList = [63] := by
    obtain ⟨A, c, rfl, _, _⟩ := hf.data
    obtain ⟨B, d, rfl, _, _⟩ := hf.ranges
    obtain ⟨sd', sr', h1, h2⟩ := only_any h hf.tok A B c d
    refine ⟨sd', sr', Lib.hid h1, Lib.hid (fun w' hc => ?_), Lib.hid (fun w => what_any f.kind w), ?_⟩
    · have hf' := hf.chg hc (fun _ _ h => h)
      exact rsameF_any f (onlyM f l) _ _ sd' sr' w' T T hf' (h2 w' T hf')
    · rcases what_some h with ⟨hk, rfl⟩ | ⟨hk, rfl⟩ | ⟨hk, rfl⟩ | ⟨hk, rfl⟩ | ⟨hk, rfl⟩ | ⟨hk, rfl⟩ | ⟨hk, rfl⟩ | ⟨hk, rfl⟩ | ⟨hk, rfl⟩ | ⟨hk, rfl⟩ | ⟨hk, rfl⟩ | ⟨hk, rfl⟩ | ⟨hk, rfl⟩ | ⟨hk, rfl⟩ | ⟨hk, rfl⟩ | ⟨hk, rfl⟩ | ⟨hk, rfl⟩ | ⟨hk, rfl⟩ | ⟨hk, rfl⟩ | ⟨hk, rfl⟩
      all_goals (rw [hk]; decide +kernel)
  generalize hgo : onlyM f l = g at *
  generalize whatS f.kind = S at *
  rw [hd] at HSM
  clear h hf
  have HGO := Lib.hid hgo
  have HD := Lib.hid hd
  clear hgo hd
  have n0' : ¬ (4611686018427387903 : Int) < (f.id : Int) := by omega
  have n1' : ¬ (4611686018427387903 : Int) < (f.a : Int) := by omega
  have n2' : ¬ (4611686018427387903 : Int) < (f.b : Int) := by omega
  have n3' : ¬ (4611686018427387903 : Int) < (f.code : Int) := by omega
  go_enter Tryd.func7, Tryd.ntmps7
  go_wp2_with (first | ((with_reducible show wpList _ _ _ (⟨some 1, .box _ _, _, _, _, _⟩ :: _) _ _); refine wpList_box_Row rfl rfl (cellsF f sd sr) rfl ?_; intro w1 hr1 hc1 hs1; have HR1 := Lib.hid hr1; have HC1 := Lib.hid hc1; have q0 := (hr1.cell 0).trans (cF_0 f sd sr); clear hr1 hc1 hs1) | (go_at_call 17; refine (HWH.out _).mono ?_; rintro e w1 ⟨rfl, rfl⟩))
  obtain ⟨gR, hgR⟩ : ∃ g, g = w.heap.size := ⟨_, rfl⟩
  have HRX := Lib.hid (show ∀ x, Chg none_ w1 x → Row x gR 27 (cellsF f sd sr) from fun x hx => by rw [hgR]; exact HR1.out.chg hx (fun h => h))
  have HSM := Lib.hid (fun x (hx : Chg none_ w1 x) => HSM.out x (HC1.out.trans hx))
  rw [← hgR]
  clear hgR HR1
  refine wp_region_held_drew (S := fun x => Chg none_ w1 x) (by kernel_rfl) ((Chg.refl none_ w1).drew) (fun hch0 => ?_)
  have hz : Chg none_ w1 w1.drew := (Chg.refl none_ w1).drew
  generalize w1.drew = wz at hz ⊢
  clear hch0
  refine wpAnyH_take (i := 0) (v := .string S) rfl (by kernel_rfl) (by kernel_rfl) (by kernel_rfl) (by first | exact fun _ _ _ h => h | exact fun _ _ _ h => nomatch h.1) (Or.inl ⟨by rfl, fun w_ hw_ => by go_simp⟩) hz ?_
  try simp only [Act.put, List.setIfInBounds_toArray, List.set_cons_zero, List.set_cons_succ, List.getElem_toArray, List.getElem_cons_zero]
  refine wpAnyH_take (i := 1) (v := .bool false) rfl (by kernel_rfl) (by kernel_rfl) (by kernel_rfl) (by first | exact fun _ _ _ h => h | exact fun _ _ _ h => nomatch h.1) (Or.inl ⟨by rfl, fun w_ hw_ => by go_simp⟩) hz ?_
  try simp only [Act.put, List.setIfInBounds_toArray, List.set_cons_zero, List.set_cons_succ, List.getElem_toArray, List.getElem_cons_succ, List.getElem_cons_zero]
  refine wpAnyH_take (i := 2) (v := .bool false) rfl (by kernel_rfl) (by kernel_rfl) (by kernel_rfl) (by first | exact fun _ _ _ h => h | exact fun _ _ _ h => nomatch h.1) (Or.inl ⟨by rfl, fun w_ hw_ => by go_simp⟩) hz ?_
  try simp only [Act.put, List.setIfInBounds_toArray, List.set_cons_zero, List.set_cons_succ, List.getElem_toArray, List.getElem_cons_succ, List.getElem_cons_zero]
  refine wpAnyH_take (i := 3) (v := .agg (cellsF f sd sr).toArray) rfl (by kernel_rfl) (by kernel_rfl) (by kernel_rfl) (by first | exact fun _ _ _ h => h | exact fun _ _ _ h => nomatch h.1) (yieldsIf_load_mid (by rfl) 27 _ rfl gR 0 rfl (cellsF f sd sr) _ (fun x hx => (HRX.out x hx).rangeMid 0 _ (fun j v hv => by rw [Nat.zero_add]; exact hv)) Tryd.underlying27 rfl HSZ.out) hz ?_
  try simp only [Act.put, List.setIfInBounds_toArray, List.set_cons_zero, List.set_cons_succ, List.getElem_toArray, List.getElem_cons_succ, List.getElem_cons_zero]
  refine wpAnyH_take (i := 4) (v := .agg (cellsF f sd sr).toArray) rfl (by kernel_rfl) (by kernel_rfl) (by kernel_rfl) (by first | exact fun _ _ _ h => h | exact fun _ _ _ h => nomatch h.1) (yieldsIf_load_mid (by rfl) 27 _ rfl gR 0 rfl (cellsF f sd sr) _ (fun x hx => (HRX.out x hx).rangeMid 0 _ (fun j v hv => by rw [Nat.zero_add]; exact hv)) Tryd.underlying27 rfl HSZ.out) hz ?_
  try simp only [Act.put, List.setIfInBounds_toArray, List.set_cons_zero, List.set_cons_succ, List.getElem_toArray, List.getElem_cons_succ, List.getElem_cons_zero]
  refine wpAnyH_take (i := 5) (v := .string S) rfl (by kernel_rfl) (by kernel_rfl) (by kernel_rfl) (by first | exact fun _ _ _ h => h | exact fun _ _ _ h => nomatch h.1) (Or.inl ⟨by rfl, fun w_ hw_ => by go_simp⟩) hz ?_
  try simp only [Act.put, List.setIfInBounds_toArray, List.set_cons_zero, List.set_cons_succ, List.getElem_toArray, List.getElem_cons_succ, List.getElem_cons_zero]
  refine wpAnyH_ready (rs := [6]) (by kernel_rfl) (by simp) ?_
  refine AllReadyH.cons rfl (fun K hK => ?_) AllReadyH.nil
  rw [if_pos (by rfl)]
  try simp only [List.getElem_toArray, List.getElem_cons_succ, List.getElem_cons_zero]
  go_simp
  refine (HON.out _).mono ?_
  rintro e y1 ⟨rfl, hcx⟩
  have hz := hz.trans hcx
  clear hcx
  refine hK.out _ _ hz (fun _ => ?_)
  clear hK K
  try simp only [Act.put, List.setIfInBounds_toArray, List.set_cons_zero, List.set_cons_succ, List.getElem_toArray, List.getElem_cons_succ, List.getElem_cons_zero]
  refine wpAnyH_ready (rs := [7]) (by kernel_rfl) (by simp) ?_
  refine AllReadyH.cons rfl (fun K hK => ?_) AllReadyH.nil
  rw [if_pos (by rfl)]
  try simp only [List.getElem_toArray, List.getElem_cons_succ, List.getElem_cons_zero]
  go_simp
  refine (HSM.out _ hz).mono ?_
  rintro e y2 ⟨rfl, hcx⟩
  have hz := hz.trans hcx
  clear hcx
  refine hK.out _ _ hz (fun _ => ?_)
  clear hK K
  try simp only [Act.put, List.setIfInBounds_toArray, List.set_cons_zero, List.set_cons_succ, List.getElem_toArray, List.getElem_cons_succ, List.getElem_cons_zero]
  refine wpAnyH_take (i := 8) (v := .bool false) rfl (by kernel_rfl) (by kernel_rfl) (by kernel_rfl) (by first | exact fun _ _ _ h => h | exact fun _ _ _ h => nomatch h.1) (Or.inl ⟨by rfl, fun w_ hw_ => by go_simp⟩) hz ?_
  try simp only [Act.put, List.setIfInBounds_toArray, List.set_cons_zero, List.set_cons_succ, List.getElem_toArray, List.getElem_cons_succ, List.getElem_cons_zero]
  refine wpAnyH_take (i := 9) (v := .bool false) rfl (by kernel_rfl) (by kernel_rfl) (by kernel_rfl) (by first | exact fun _ _ _ h => h | exact fun _ _ _ h => nomatch h.1) (Or.inl ⟨by rfl, fun w_ hw_ => by go_simp⟩) hz ?_
  try simp only [Act.put, List.setIfInBounds_toArray, List.set_cons_zero, List.set_cons_succ, List.getElem_toArray, List.getElem_cons_succ, List.getElem_cons_zero]
  refine wpAnyH_take (i := 10) (v := .bool false) rfl (by kernel_rfl) (by kernel_rfl) (by kernel_rfl) (by first | exact fun _ _ _ h => h | exact fun _ _ _ h => nomatch h.1) (Or.inl ⟨by rfl, fun w_ hw_ => by go_simp⟩) hz ?_
  try simp only [Act.put, List.setIfInBounds_toArray, List.set_cons_zero, List.set_cons_succ, List.getElem_toArray, List.getElem_cons_succ, List.getElem_cons_zero]
  refine wpAnyH_take (i := 11) (v := .pointer (some ⟨gR, 1, none⟩)) rfl (by kernel_rfl) (by kernel_rfl) (by kernel_rfl) (by first | exact fun _ _ _ h => h | exact fun _ _ _ h => nomatch h.1) (Or.inl ⟨by rfl, fun w_ hw_ => by go_simp⟩) hz ?_
  try simp only [Act.put, List.setIfInBounds_toArray, List.set_cons_zero, List.set_cons_succ, List.getElem_toArray, List.getElem_cons_succ, List.getElem_cons_zero]
  refine wpAnyH_take (i := 12) (v := .int .u64 (f.id : Nat)) rfl (by kernel_rfl) (by kernel_rfl) (by kernel_rfl) (by first | exact fun _ _ _ h => h | exact fun _ _ _ h => nomatch h.1) (Or.inl ⟨by rfl, fun w_ hw_ => by have q_ : w_.cell? ⟨gR, 1, none⟩ = some (.int .u64 (f.id : Nat)) := (HRX.out _ hw_).cell 1; go_simp⟩) hz ?_
  try simp only [Act.put, List.setIfInBounds_toArray, List.set_cons_zero, List.set_cons_succ, List.getElem_toArray, List.getElem_cons_succ, List.getElem_cons_zero]
  refine wpAnyH_take (i := 13) (v := .bool false) rfl (by kernel_rfl) (by kernel_rfl) (by kernel_rfl) (by first | exact fun _ _ _ h => h | exact fun _ _ _ h => nomatch h.1) (Or.inl ⟨by rfl, fun w_ hw_ => by go_simp⟩) hz ?_
  try simp only [Act.put, List.setIfInBounds_toArray, List.set_cons_zero, List.set_cons_succ, List.getElem_toArray, List.getElem_cons_succ, List.getElem_cons_zero]
  refine wpAnyH_take (i := 14) (v := .bool false) rfl (by kernel_rfl) (by kernel_rfl) (by kernel_rfl) (by first | exact fun _ _ _ h => h | exact fun _ _ _ h => nomatch h.1) (Or.inl ⟨by rfl, fun w_ hw_ => by go_simp⟩) hz ?_
  try simp only [Act.put, List.setIfInBounds_toArray, List.set_cons_zero, List.set_cons_succ, List.getElem_toArray, List.getElem_cons_succ, List.getElem_cons_zero]
  refine wpAnyH_take (i := 15) (v := .bool false) rfl (by kernel_rfl) (by kernel_rfl) (by kernel_rfl) (by first | exact fun _ _ _ h => h | exact fun _ _ _ h => nomatch h.1) (Or.inl ⟨by rfl, fun w_ hw_ => by go_simp⟩) hz ?_
  try simp only [Act.put, List.setIfInBounds_toArray, List.set_cons_zero, List.set_cons_succ, List.getElem_toArray, List.getElem_cons_succ, List.getElem_cons_zero]
  refine wpAnyH_take (i := 16) (v := .pointer (some ⟨gR, 2, none⟩)) rfl (by kernel_rfl) (by kernel_rfl) (by kernel_rfl) (by first | exact fun _ _ _ h => h | exact fun _ _ _ h => nomatch h.1) (Or.inl ⟨by rfl, fun w_ hw_ => by go_simp⟩) hz ?_
  try simp only [Act.put, List.setIfInBounds_toArray, List.set_cons_zero, List.set_cons_succ, List.getElem_toArray, List.getElem_cons_succ, List.getElem_cons_zero]
  refine wpAnyH_take (i := 17) (v := .int .u64 (f.a : Nat)) rfl (by kernel_rfl) (by kernel_rfl) (by kernel_rfl) (by first | exact fun _ _ _ h => h | exact fun _ _ _ h => nomatch h.1) (Or.inl ⟨by rfl, fun w_ hw_ => by have q_ : w_.cell? ⟨gR, 2, none⟩ = some (.int .u64 (f.a : Nat)) := (HRX.out _ hw_).cell 2; go_simp⟩) hz ?_
  try simp only [Act.put, List.setIfInBounds_toArray, List.set_cons_zero, List.set_cons_succ, List.getElem_toArray, List.getElem_cons_succ, List.getElem_cons_zero]
  refine wpAnyH_take (i := 18) (v := .bool false) rfl (by kernel_rfl) (by kernel_rfl) (by kernel_rfl) (by first | exact fun _ _ _ h => h | exact fun _ _ _ h => nomatch h.1) (Or.inl ⟨by rfl, fun w_ hw_ => by go_simp⟩) hz ?_
  try simp only [Act.put, List.setIfInBounds_toArray, List.set_cons_zero, List.set_cons_succ, List.getElem_toArray, List.getElem_cons_succ, List.getElem_cons_zero]
  refine wpAnyH_take (i := 19) (v := .bool false) rfl (by kernel_rfl) (by kernel_rfl) (by kernel_rfl) (by first | exact fun _ _ _ h => h | exact fun _ _ _ h => nomatch h.1) (Or.inl ⟨by rfl, fun w_ hw_ => by go_simp⟩) hz ?_
  try simp only [Act.put, List.setIfInBounds_toArray, List.set_cons_zero, List.set_cons_succ, List.getElem_toArray, List.getElem_cons_succ, List.getElem_cons_zero]
  refine wpAnyH_take (i := 20) (v := .bool false) rfl (by kernel_rfl) (by kernel_rfl) (by kernel_rfl) (by first | exact fun _ _ _ h => h | exact fun _ _ _ h => nomatch h.1) (Or.inl ⟨by rfl, fun w_ hw_ => by go_simp⟩) hz ?_
  try simp only [Act.put, List.setIfInBounds_toArray, List.set_cons_zero, List.set_cons_succ, List.getElem_toArray, List.getElem_cons_succ, List.getElem_cons_zero]
  refine wpAnyH_take (i := 21) (v := .pointer (some ⟨gR, 3, none⟩)) rfl (by kernel_rfl) (by kernel_rfl) (by kernel_rfl) (by first | exact fun _ _ _ h => h | exact fun _ _ _ h => nomatch h.1) (Or.inl ⟨by rfl, fun w_ hw_ => by go_simp⟩) hz ?_
  try simp only [Act.put, List.setIfInBounds_toArray, List.set_cons_zero, List.set_cons_succ, List.getElem_toArray, List.getElem_cons_succ, List.getElem_cons_zero]
  refine wpAnyH_take (i := 22) (v := .int .u64 (f.b : Nat)) rfl (by kernel_rfl) (by kernel_rfl) (by kernel_rfl) (by first | exact fun _ _ _ h => h | exact fun _ _ _ h => nomatch h.1) (Or.inl ⟨by rfl, fun w_ hw_ => by have q_ : w_.cell? ⟨gR, 3, none⟩ = some (.int .u64 (f.b : Nat)) := (HRX.out _ hw_).cell 3; go_simp⟩) hz ?_
  try simp only [Act.put, List.setIfInBounds_toArray, List.set_cons_zero, List.set_cons_succ, List.getElem_toArray, List.getElem_cons_succ, List.getElem_cons_zero]
  refine wpAnyH_take (i := 23) (v := .bool false) rfl (by kernel_rfl) (by kernel_rfl) (by kernel_rfl) (by first | exact fun _ _ _ h => h | exact fun _ _ _ h => nomatch h.1) (Or.inl ⟨by rfl, fun w_ hw_ => by go_simp⟩) hz ?_
  try simp only [Act.put, List.setIfInBounds_toArray, List.set_cons_zero, List.set_cons_succ, List.getElem_toArray, List.getElem_cons_succ, List.getElem_cons_zero]
  refine wpAnyH_take (i := 24) (v := .bool false) rfl (by kernel_rfl) (by kernel_rfl) (by kernel_rfl) (by first | exact fun _ _ _ h => h | exact fun _ _ _ h => nomatch h.1) (Or.inl ⟨by rfl, fun w_ hw_ => by go_simp⟩) hz ?_
  try simp only [Act.put, List.setIfInBounds_toArray, List.set_cons_zero, List.set_cons_succ, List.getElem_toArray, List.getElem_cons_succ, List.getElem_cons_zero]
  refine wpAnyH_take (i := 25) (v := .bool false) rfl (by kernel_rfl) (by kernel_rfl) (by kernel_rfl) (by first | exact fun _ _ _ h => h | exact fun _ _ _ h => nomatch h.1) (Or.inl ⟨by rfl, fun w_ hw_ => by go_simp⟩) hz ?_
  try simp only [Act.put, List.setIfInBounds_toArray, List.set_cons_zero, List.set_cons_succ, List.getElem_toArray, List.getElem_cons_succ, List.getElem_cons_zero]
  refine wpAnyH_take (i := 26) (v := .pointer (some ⟨gR, 4, none⟩)) rfl (by kernel_rfl) (by kernel_rfl) (by kernel_rfl) (by first | exact fun _ _ _ h => h | exact fun _ _ _ h => nomatch h.1) (Or.inl ⟨by rfl, fun w_ hw_ => by go_simp⟩) hz ?_
  try simp only [Act.put, List.setIfInBounds_toArray, List.set_cons_zero, List.set_cons_succ, List.getElem_toArray, List.getElem_cons_succ, List.getElem_cons_zero]
  refine wpAnyH_take (i := 27) (v := .int .u64 (f.code : Nat)) rfl (by kernel_rfl) (by kernel_rfl) (by kernel_rfl) (by first | exact fun _ _ _ h => h | exact fun _ _ _ h => nomatch h.1) (Or.inl ⟨by rfl, fun w_ hw_ => by have q_ : w_.cell? ⟨gR, 4, none⟩ = some (.int .u64 (f.code : Nat)) := (HRX.out _ hw_).cell 4; go_simp⟩) hz ?_
  try simp only [Act.put, List.setIfInBounds_toArray, List.set_cons_zero, List.set_cons_succ, List.getElem_toArray, List.getElem_cons_succ, List.getElem_cons_zero]
  refine wpAnyH_take (i := 28) (v := .bool false) rfl (by kernel_rfl) (by kernel_rfl) (by kernel_rfl) (by first | exact fun _ _ _ h => h | exact fun _ _ _ h => nomatch h.1) (Or.inl ⟨by rfl, fun w_ hw_ => by go_simp⟩) hz ?_
  try simp only [Act.put, List.setIfInBounds_toArray, List.set_cons_zero, List.set_cons_succ, List.getElem_toArray, List.getElem_cons_succ, List.getElem_cons_zero]
  refine wpAnyH_take (i := 29) (v := .bool false) rfl (by kernel_rfl) (by kernel_rfl) (by kernel_rfl) (by first | exact fun _ _ _ h => h | exact fun _ _ _ h => nomatch h.1) (Or.inl ⟨by rfl, fun w_ hw_ => by go_simp⟩) hz ?_
  try simp only [Act.put, List.setIfInBounds_toArray, List.set_cons_zero, List.set_cons_succ, List.getElem_toArray, List.getElem_cons_succ, List.getElem_cons_zero]
  refine wpAnyH_done (by kernel_rfl) ?_ _
  have b0 := (HRX.out _ hz).cell 0
  have b1 := (HRX.out _ hz).cell 1
  have b2 := (HRX.out _ hz).cell 2
  have b5 := (HRX.out _ hz).cell 5
  have b6 := (HRX.out _ hz).cell 6
  rw [cF_0] at b0
  rw [cF_1] at b1
  rw [cF_2] at b2
  rw [cF_5] at b5
  rw [cF_6] at b6
  obtain ⟨A, cA, hsd⟩ := HSD.out
  rw [hsd] at b6
  have HCZ := Lib.hid (HC1.out.trans hz)
  clear HRX HON HSM HWH HQ hz HC1 q0 HSZ n0' n1' n2' n3' n2 n3
  have hN := HDL.out
  have hne := HNE.out
  rcases HWS.out with ⟨hk, _⟩ | ⟨hk, _⟩ | ⟨hk, _⟩ | ⟨hk, _⟩ | ⟨hk, _⟩ | ⟨hk, _⟩ | ⟨hk, _⟩ | ⟨hk, _⟩ | ⟨hk, _⟩ | ⟨hk, _⟩ | ⟨hk, _⟩ | ⟨hk, _⟩ | ⟨hk, _⟩ | ⟨hk, _⟩ | ⟨hk, _⟩ | ⟨hk, _⟩ | ⟨hk, _⟩ | ⟨hk, _⟩ | ⟨hk, _⟩ | ⟨hk, _⟩
  all_goals (try exact absurd hk hne)
  all_goals rw [hk] at b0
  all_goals clear hne
  all_goals have HK := Lib.hid hk
  all_goals clear hk hsd
  all_goals go_wp2
  all_goals
    go_ret
    refine ⟨ret_bool ?_, HCZ.out⟩
    have hk := HK.out
    clear HK HCZ b0 b1 b2 b5 b6
    rw [Bool.eq_iff_iff]
    simp [fitsR, hk]
    try omega
    try (simp_all; done)
    try (simp_all; omega)
end Go.Proofs.YtlcffjmbfpdlbaaDoor

namespace Go.Proofs.YtlcffjmbfpdlbaaDoor
open Go.RowKit

set_option maxRecDepth 100000 in
set_option maxHeartbeats 40000000 in
theorem rright_ack (f : Fr) (sd sr : Value) (T : Nat → Prop) (w : World) (l : List UInt8) (h : whatM f.kind = some l) (hf : FrD w T f sd sr) (of : f.Ok) (hd : decide (f = onlyM f l) = true) (n0 : f.id ≤ 4611686018427387903) (n1 : f.a ≤ 4611686018427387903) (n2 : f.b ≤ 4611686018427387903) (n3 : f.code ≤ 4611686018427387903) (hk2 : f.kind = 2) :
    Calls Tryd.prog 7 #[.agg (cellsF f sd sr).toArray] w fun e w' => e = .returned (.bool (decide (apart f.ranges))) ∧ Chg none_ w w' := by
  have hws := what_some h
  have HSD : Hid (∃ A c, sd = .slice A f.data.length c) := Lib.hid (by obtain ⟨A, c, h1, _, _⟩ := hf.data; exact ⟨A, c, h1⟩)
  have HSR : Hid (∃ B d, sr = .slice B f.ranges.length d ∧ (f.ranges.length ≤ 1000000 ∧ f.ranges.length ≤ d) ∧ View w T B (2 * f.ranges.length) (rcells f.ranges)) := Lib.hid hf.ranges
  have HK2 := Lib.hid hk2
  have HLT := Lib.hid of.ranges
  clear hws hk2 of
  have HSZ : Hid ((Tryd.prog.info? 27).map (·.size) = some (cellsF f sd sr).length) := Lib.hid (by rw [cF_len _ _ _ hf.tok]; exact size27)
  obtain ⟨sd', sr', HON, HSM, HWH, HQ⟩ : ∃ sd' sr', Hid (∀ w, Calls Tryd.prog 18 #[.agg (cellsF f sd sr).toArray, .string (whatS f.kind)] w fun e w' => e = .returned (.agg (cellsF (onlyM f l) sd' sr').toArray) ∧ Chg none_ w w') ∧
      Hid (∀ w', Chg none_ w w' → Calls Tryd.prog 12 #[.agg (cellsF f sd sr).toArray, .agg (cellsF (onlyM f l) sd' sr').toArray] w' fun e w'' => e = .returned (.bool (decide (f = onlyM f l))) ∧ Chg none_ w' w'') ∧
      Hid (∀ w, Calls Tryd.prog 17 #[.int .i64 f.kind] w fun e w' => e = .returned (.string (whatS f.kind)) ∧ w' = w) ∧ ¬ (whatS f.kind).toList = [63] := by
    obtain ⟨A, c, rfl, _, _⟩ := hf.data
    obtain ⟨B, d, rfl, _, _⟩ := hf.ranges
    obtain ⟨sd', sr', h1, h2⟩ := only_any h hf.tok A B c d
    refine ⟨sd', sr', Lib.hid h1, Lib.hid (fun w' hc => ?_), Lib.hid (fun w => what_any f.kind w), ?_⟩
    · have hf' := hf.chg hc (fun _ _ h => h)
      exact rsameF_any f (onlyM f l) _ _ sd' sr' w' T T hf' (h2 w' T hf')
    · rcases what_some h with ⟨hk, rfl⟩ | ⟨hk, rfl⟩ | ⟨hk, rfl⟩ | ⟨hk, rfl⟩ | ⟨hk, rfl⟩ | ⟨hk, rfl⟩ | ⟨hk, rfl⟩ | ⟨hk, rfl⟩ | ⟨hk, rfl⟩ | ⟨hk, rfl⟩ | ⟨hk, rfl⟩ | ⟨hk, rfl⟩ | ⟨hk, rfl⟩ | ⟨hk, rfl⟩ | ⟨hk, rfl⟩ | ⟨hk, rfl⟩ | ⟨hk, rfl⟩ | ⟨hk, rfl⟩ | ⟨hk, rfl⟩ | ⟨hk, rfl⟩
      all_goals (rw [hk]; decide +kernel)
  generalize hgo : onlyM f l = g at *
  generalize whatS f.kind = S at *
  rw [hd] at HSM
  clear h hf
  have HGO := Lib.hid hgo
  have HD := Lib.hid hd
  clear hgo hd
  have n0' : ¬ (4611686018427387903 : Int) < (f.id : Int) := by omega
  have n1' : ¬ (4611686018427387903 : Int) < (f.a : Int) := by omega
  have n2' : ¬ (4611686018427387903 : Int) < (f.b : Int) := by omega
  have n3' : ¬ (4611686018427387903 : Int) < (f.code : Int) := by omega
  go_enter Tryd.func7, Tryd.ntmps7
  go_wp2_with (first | ((with_reducible show wpList _ _ _ (⟨some 1, .box _ _, _, _, _, _⟩ :: _) _ _); refine wpList_box_Row rfl rfl (cellsF f sd sr) rfl ?_; intro w1 hr1 hc1 hs1; have HR1 := Lib.hid hr1; have HC1 := Lib.hid hc1; have q0 := (hr1.cell 0).trans (cF_0 f sd sr); clear hr1 hc1 hs1) | (go_at_call 17; refine (HWH.out _).mono ?_; rintro e w1 ⟨rfl, rfl⟩))
  obtain ⟨gR, hgR⟩ : ∃ g, g = w.heap.size := ⟨_, rfl⟩
  have HRX := Lib.hid (show ∀ x, Chg none_ w1 x → Row x gR 27 (cellsF f sd sr) from fun x hx => by rw [hgR]; exact HR1.out.chg hx (fun h => h))
  have HSM := Lib.hid (fun x (hx : Chg none_ w1 x) => HSM.out x (HC1.out.trans hx))
  rw [← hgR]
  clear hgR HR1
  refine wp_region_held_drew (S := fun x => Chg none_ w1 x) (by kernel_rfl) ((Chg.refl none_ w1).drew) (fun hch0 => ?_)
  have hz : Chg none_ w1 w1.drew := (Chg.refl none_ w1).drew
  generalize w1.drew = wz at hz ⊢
  clear hch0
  refine wpAnyH_take (i := 0) (v := .string S) rfl (by kernel_rfl) (by kernel_rfl) (by kernel_rfl) (by first | exact fun _ _ _ h => h | exact fun _ _ _ h => nomatch h.1) (Or.inl ⟨by rfl, fun w_ hw_ => by go_simp⟩) hz ?_
  try simp only [Act.put, List.setIfInBounds_toArray, List.set_cons_zero, List.set_cons_succ, List.getElem_toArray, List.getElem_cons_zero]
  refine wpAnyH_take (i := 1) (v := .bool false) rfl (by kernel_rfl) (by kernel_rfl) (by kernel_rfl) (by first | exact fun _ _ _ h => h | exact fun _ _ _ h => nomatch h.1) (Or.inl ⟨by rfl, fun w_ hw_ => by go_simp⟩) hz ?_
  try simp only [Act.put, List.setIfInBounds_toArray, List.set_cons_zero, List.set_cons_succ, List.getElem_toArray, List.getElem_cons_succ, List.getElem_cons_zero]
  refine wpAnyH_take (i := 2) (v := .bool false) rfl (by kernel_rfl) (by kernel_rfl) (by kernel_rfl) (by first | exact fun _ _ _ h => h | exact fun _ _ _ h => nomatch h.1) (Or.inl ⟨by rfl, fun w_ hw_ => by go_simp⟩) hz ?_
  try simp only [Act.put, List.setIfInBounds_toArray, List.set_cons_zero, List.set_cons_succ, List.getElem_toArray, List.getElem_cons_succ, List.getElem_cons_zero]
  refine wpAnyH_take (i := 3) (v := .agg (cellsF f sd sr).toArray) rfl (by kernel_rfl) (by kernel_rfl) (by kernel_rfl) (by first | exact fun _ _ _ h => h | exact fun _ _ _ h => nomatch h.1) (yieldsIf_load_mid (by rfl) 27 _ rfl gR 0 rfl (cellsF f sd sr) _ (fun x hx => (HRX.out x hx).rangeMid 0 _ (fun j v hv => by rw [Nat.zero_add]; exact hv)) Tryd.underlying27 rfl HSZ.out) hz ?_
  try simp only [Act.put, List.setIfInBounds_toArray, List.set_cons_zero, List.set_cons_succ, List.getElem_toArray, List.getElem_cons_succ, List.getElem_cons_zero]
  refine wpAnyH_take (i := 4) (v := .agg (cellsF f sd sr).toArray) rfl (by kernel_rfl) (by kernel_rfl) (by kernel_rfl) (by first | exact fun _ _ _ h => h | exact fun _ _ _ h => nomatch h.1) (yieldsIf_load_mid (by rfl) 27 _ rfl gR 0 rfl (cellsF f sd sr) _ (fun x hx => (HRX.out x hx).rangeMid 0 _ (fun j v hv => by rw [Nat.zero_add]; exact hv)) Tryd.underlying27 rfl HSZ.out) hz ?_
  try simp only [Act.put, List.setIfInBounds_toArray, List.set_cons_zero, List.set_cons_succ, List.getElem_toArray, List.getElem_cons_succ, List.getElem_cons_zero]
  refine wpAnyH_take (i := 5) (v := .string S) rfl (by kernel_rfl) (by kernel_rfl) (by kernel_rfl) (by first | exact fun _ _ _ h => h | exact fun _ _ _ h => nomatch h.1) (Or.inl ⟨by rfl, fun w_ hw_ => by go_simp⟩) hz ?_
  try simp only [Act.put, List.setIfInBounds_toArray, List.set_cons_zero, List.set_cons_succ, List.getElem_toArray, List.getElem_cons_succ, List.getElem_cons_zero]
  refine wpAnyH_ready (rs := [6]) (by kernel_rfl) (by simp) ?_
  refine AllReadyH.cons rfl (fun K hK => ?_) AllReadyH.nil
  rw [if_pos (by rfl)]
  try simp only [List.getElem_toArray, List.getElem_cons_succ, List.getElem_cons_zero]
  go_simp
  refine (HON.out _).mono ?_
  rintro e y1 ⟨rfl, hcx⟩
  have hz := hz.trans hcx
  clear hcx
  refine hK.out _ _ hz (fun _ => ?_)
  clear hK K
  try simp only [Act.put, List.setIfInBounds_toArray, List.set_cons_zero, List.set_cons_succ, List.getElem_toArray, List.getElem_cons_succ, List.getElem_cons_zero]
  refine wpAnyH_ready (rs := [7]) (by kernel_rfl) (by simp) ?_
  refine AllReadyH.cons rfl (fun K hK => ?_) AllReadyH.nil
  rw [if_pos (by rfl)]
  try simp only [List.getElem_toArray, List.getElem_cons_succ, List.getElem_cons_zero]
  go_simp
  refine (HSM.out _ hz).mono ?_
  rintro e y2 ⟨rfl, hcx⟩
  have hz := hz.trans hcx
  clear hcx
  refine hK.out _ _ hz (fun _ => ?_)
  clear hK K
  try simp only [Act.put, List.setIfInBounds_toArray, List.set_cons_zero, List.set_cons_succ, List.getElem_toArray, List.getElem_cons_succ, List.getElem_cons_zero]
  refine wpAnyH_take (i := 8) (v := .bool false) rfl (by kernel_rfl) (by kernel_rfl) (by kernel_rfl) (by first | exact fun _ _ _ h => h | exact fun _ _ _ h => nomatch h.1) (Or.inl ⟨by rfl, fun w_ hw_ => by go_simp⟩) hz ?_
  try simp only [Act.put, List.setIfInBounds_toArray, List.set_cons_zero, List.set_cons_succ, List.getElem_toArray, List.getElem_cons_succ, List.getElem_cons_zero]
  refine wpAnyH_take (i := 9) (v := .bool false) rfl (by kernel_rfl) (by kernel_rfl) (by kernel_rfl) (by first | exact fun _ _ _ h => h | exact fun _ _ _ h => nomatch h.1) (Or.inl ⟨by rfl, fun w_ hw_ => by go_simp⟩) hz ?_
  try simp only [Act.put, List.setIfInBounds_toArray, List.set_cons_zero, List.set_cons_succ, List.getElem_toArray, List.getElem_cons_succ, List.getElem_cons_zero]
  refine wpAnyH_take (i := 10) (v := .bool false) rfl (by kernel_rfl) (by kernel_rfl) (by kernel_rfl) (by first | exact fun _ _ _ h => h | exact fun _ _ _ h => nomatch h.1) (Or.inl ⟨by rfl, fun w_ hw_ => by go_simp⟩) hz ?_
  try simp only [Act.put, List.setIfInBounds_toArray, List.set_cons_zero, List.set_cons_succ, List.getElem_toArray, List.getElem_cons_succ, List.getElem_cons_zero]
  refine wpAnyH_take (i := 11) (v := .pointer (some ⟨gR, 1, none⟩)) rfl (by kernel_rfl) (by kernel_rfl) (by kernel_rfl) (by first | exact fun _ _ _ h => h | exact fun _ _ _ h => nomatch h.1) (Or.inl ⟨by rfl, fun w_ hw_ => by go_simp⟩) hz ?_
  try simp only [Act.put, List.setIfInBounds_toArray, List.set_cons_zero, List.set_cons_succ, List.getElem_toArray, List.getElem_cons_succ, List.getElem_cons_zero]
  refine wpAnyH_take (i := 12) (v := .int .u64 (f.id : Nat)) rfl (by kernel_rfl) (by kernel_rfl) (by kernel_rfl) (by first | exact fun _ _ _ h => h | exact fun _ _ _ h => nomatch h.1) (Or.inl ⟨by rfl, fun w_ hw_ => by have q_ : w_.cell? ⟨gR, 1, none⟩ = some (.int .u64 (f.id : Nat)) := (HRX.out _ hw_).cell 1; go_simp⟩) hz ?_
  try simp only [Act.put, List.setIfInBounds_toArray, List.set_cons_zero, List.set_cons_succ, List.getElem_toArray, List.getElem_cons_succ, List.getElem_cons_zero]
  refine wpAnyH_take (i := 13) (v := .bool false) rfl (by kernel_rfl) (by kernel_rfl) (by kernel_rfl) (by first | exact fun _ _ _ h => h | exact fun _ _ _ h => nomatch h.1) (Or.inl ⟨by rfl, fun w_ hw_ => by go_simp⟩) hz ?_
  try simp only [Act.put, List.setIfInBounds_toArray, List.set_cons_zero, List.set_cons_succ, List.getElem_toArray, List.getElem_cons_succ, List.getElem_cons_zero]
  refine wpAnyH_take (i := 14) (v := .bool false) rfl (by kernel_rfl) (by kernel_rfl) (by kernel_rfl) (by first | exact fun _ _ _ h => h | exact fun _ _ _ h => nomatch h.1) (Or.inl ⟨by rfl, fun w_ hw_ => by go_simp⟩) hz ?_
  try simp only [Act.put, List.setIfInBounds_toArray, List.set_cons_zero, List.set_cons_succ, List.getElem_toArray, List.getElem_cons_succ, List.getElem_cons_zero]
  refine wpAnyH_take (i := 15) (v := .bool false) rfl (by kernel_rfl) (by kernel_rfl) (by kernel_rfl) (by first | exact fun _ _ _ h => h | exact fun _ _ _ h => nomatch h.1) (Or.inl ⟨by rfl, fun w_ hw_ => by go_simp⟩) hz ?_
  try simp only [Act.put, List.setIfInBounds_toArray, List.set_cons_zero, List.set_cons_succ, List.getElem_toArray, List.getElem_cons_succ, List.getElem_cons_zero]
  refine wpAnyH_take (i := 16) (v := .pointer (some ⟨gR, 2, none⟩)) rfl (by kernel_rfl) (by kernel_rfl) (by kernel_rfl) (by first | exact fun _ _ _ h => h | exact fun _ _ _ h => nomatch h.1) (Or.inl ⟨by rfl, fun w_ hw_ => by go_simp⟩) hz ?_
  try simp only [Act.put, List.setIfInBounds_toArray, List.set_cons_zero, List.set_cons_succ, List.getElem_toArray, List.getElem_cons_succ, List.getElem_cons_zero]
  refine wpAnyH_take (i := 17) (v := .int .u64 (f.a : Nat)) rfl (by kernel_rfl) (by kernel_rfl) (by kernel_rfl) (by first | exact fun _ _ _ h => h | exact fun _ _ _ h => nomatch h.1) (Or.inl ⟨by rfl, fun w_ hw_ => by have q_ : w_.cell? ⟨gR, 2, none⟩ = some (.int .u64 (f.a : Nat)) := (HRX.out _ hw_).cell 2; go_simp⟩) hz ?_
  try simp only [Act.put, List.setIfInBounds_toArray, List.set_cons_zero, List.set_cons_succ, List.getElem_toArray, List.getElem_cons_succ, List.getElem_cons_zero]
  refine wpAnyH_take (i := 18) (v := .bool false) rfl (by kernel_rfl) (by kernel_rfl) (by kernel_rfl) (by first | exact fun _ _ _ h => h | exact fun _ _ _ h => nomatch h.1) (Or.inl ⟨by rfl, fun w_ hw_ => by go_simp⟩) hz ?_
  try simp only [Act.put, List.setIfInBounds_toArray, List.set_cons_zero, List.set_cons_succ, List.getElem_toArray, List.getElem_cons_succ, List.getElem_cons_zero]
  refine wpAnyH_take (i := 19) (v := .bool false) rfl (by kernel_rfl) (by kernel_rfl) (by kernel_rfl) (by first | exact fun _ _ _ h => h | exact fun _ _ _ h => nomatch h.1) (Or.inl ⟨by rfl, fun w_ hw_ => by go_simp⟩) hz ?_
  try simp only [Act.put, List.setIfInBounds_toArray, List.set_cons_zero, List.set_cons_succ, List.getElem_toArray, List.getElem_cons_succ, List.getElem_cons_zero]
  refine wpAnyH_take (i := 20) (v := .bool false) rfl (by kernel_rfl) (by kernel_rfl) (by kernel_rfl) (by first | exact fun _ _ _ h => h | exact fun _ _ _ h => nomatch h.1) (Or.inl ⟨by rfl, fun w_ hw_ => by go_simp⟩) hz ?_
  try simp only [Act.put, List.setIfInBounds_toArray, List.set_cons_zero, List.set_cons_succ, List.getElem_toArray, List.getElem_cons_succ, List.getElem_cons_zero]
  refine wpAnyH_take (i := 21) (v := .pointer (some ⟨gR, 3, none⟩)) rfl (by kernel_rfl) (by kernel_rfl) (by kernel_rfl) (by first | exact fun _ _ _ h => h | exact fun _ _ _ h => nomatch h.1) (Or.inl ⟨by rfl, fun w_ hw_ => by go_simp⟩) hz ?_
  try simp only [Act.put, List.setIfInBounds_toArray, List.set_cons_zero, List.set_cons_succ, List.getElem_toArray, List.getElem_cons_succ, List.getElem_cons_zero]
  refine wpAnyH_take (i := 22) (v := .int .u64 (f.b : Nat)) rfl (by kernel_rfl) (by kernel_rfl) (by kernel_rfl) (by first | exact fun _ _ _ h => h | exact fun _ _ _ h => nomatch h.1) (Or.inl ⟨by rfl, fun w_ hw_ => by have q_ : w_.cell? ⟨gR, 3, none⟩ = some (.int .u64 (f.b : Nat)) := (HRX.out _ hw_).cell 3; go_simp⟩) hz ?_
  try simp only [Act.put, List.setIfInBounds_toArray, List.set_cons_zero, List.set_cons_succ, List.getElem_toArray, List.getElem_cons_succ, List.getElem_cons_zero]
  refine wpAnyH_take (i := 23) (v := .bool false) rfl (by kernel_rfl) (by kernel_rfl) (by kernel_rfl) (by first | exact fun _ _ _ h => h | exact fun _ _ _ h => nomatch h.1) (Or.inl ⟨by rfl, fun w_ hw_ => by go_simp⟩) hz ?_
  try simp only [Act.put, List.setIfInBounds_toArray, List.set_cons_zero, List.set_cons_succ, List.getElem_toArray, List.getElem_cons_succ, List.getElem_cons_zero]
  refine wpAnyH_take (i := 24) (v := .bool false) rfl (by kernel_rfl) (by kernel_rfl) (by kernel_rfl) (by first | exact fun _ _ _ h => h | exact fun _ _ _ h => nomatch h.1) (Or.inl ⟨by rfl, fun w_ hw_ => by go_simp⟩) hz ?_
  try simp only [Act.put, List.setIfInBounds_toArray, List.set_cons_zero, List.set_cons_succ, List.getElem_toArray, List.getElem_cons_succ, List.getElem_cons_zero]
  refine wpAnyH_take (i := 25) (v := .bool false) rfl (by kernel_rfl) (by kernel_rfl) (by kernel_rfl) (by first | exact fun _ _ _ h => h | exact fun _ _ _ h => nomatch h.1) (Or.inl ⟨by rfl, fun w_ hw_ => by go_simp⟩) hz ?_
  try simp only [Act.put, List.setIfInBounds_toArray, List.set_cons_zero, List.set_cons_succ, List.getElem_toArray, List.getElem_cons_succ, List.getElem_cons_zero]
  refine wpAnyH_take (i := 26) (v := .pointer (some ⟨gR, 4, none⟩)) rfl (by kernel_rfl) (by kernel_rfl) (by kernel_rfl) (by first | exact fun _ _ _ h => h | exact fun _ _ _ h => nomatch h.1) (Or.inl ⟨by rfl, fun w_ hw_ => by go_simp⟩) hz ?_
  try simp only [Act.put, List.setIfInBounds_toArray, List.set_cons_zero, List.set_cons_succ, List.getElem_toArray, List.getElem_cons_succ, List.getElem_cons_zero]
  refine wpAnyH_take (i := 27) (v := .int .u64 (f.code : Nat)) rfl (by kernel_rfl) (by kernel_rfl) (by kernel_rfl) (by first | exact fun _ _ _ h => h | exact fun _ _ _ h => nomatch h.1) (Or.inl ⟨by rfl, fun w_ hw_ => by have q_ : w_.cell? ⟨gR, 4, none⟩ = some (.int .u64 (f.code : Nat)) := (HRX.out _ hw_).cell 4; go_simp⟩) hz ?_
  try simp only [Act.put, List.setIfInBounds_toArray, List.set_cons_zero, List.set_cons_succ, List.getElem_toArray, List.getElem_cons_succ, List.getElem_cons_zero]
  refine wpAnyH_take (i := 28) (v := .bool false) rfl (by kernel_rfl) (by kernel_rfl) (by kernel_rfl) (by first | exact fun _ _ _ h => h | exact fun _ _ _ h => nomatch h.1) (Or.inl ⟨by rfl, fun w_ hw_ => by go_simp⟩) hz ?_
  try simp only [Act.put, List.setIfInBounds_toArray, List.set_cons_zero, List.set_cons_succ, List.getElem_toArray, List.getElem_cons_succ, List.getElem_cons_zero]
  refine wpAnyH_take (i := 29) (v := .bool false) rfl (by kernel_rfl) (by kernel_rfl) (by kernel_rfl) (by first | exact fun _ _ _ h => h | exact fun _ _ _ h => nomatch h.1) (Or.inl ⟨by rfl, fun w_ hw_ => by go_simp⟩) hz ?_
  try simp only [Act.put, List.setIfInBounds_toArray, List.set_cons_zero, List.set_cons_succ, List.getElem_toArray, List.getElem_cons_succ, List.getElem_cons_zero]
  refine wpAnyH_done (by kernel_rfl) ?_ _
  have b0 := (HRX.out _ hz).cell 0
  have b6 := (HRX.out _ hz).cell 6
  have b7 := (HRX.out _ hz).cell 7
  rw [cF_0, HK2.out] at b0
  obtain ⟨A, cA, hsd⟩ := HSD.out
  obtain ⟨B, dB, hsr, hrm, hvr⟩ := HSR.out
  rw [cF_6, hsd] at b6
  rw [cF_7, hsr] at b7
  have HCZ := Lib.hid (HC1.out.trans hz)
  have HVR := Lib.hid (hvr.chg HCZ.out (fun _ _ h => h))
  have hlm := hrm.1
  clear HRX HON HSM HWH HQ hz HC1 q0 HSZ n0 n1 n2 n3 n0' n1' n2' n3' hsd hsr hvr hrm
  generalize f.data.length = nd at *
  generalize hrl : f.ranges = rl at *
  have HRL := Lib.hid hrl
  have HAP : Hid (decide (apart rl) = decide (1 ≤ rl.length ∧ rl.length ≤ 16 ∧ (rl.getD 0 (0, 0)).2 ≤ 4611686018427387903 ∧ ∀ i, i < rl.length → (rl.getD i (0, 0)).1 ≤ (rl.getD i (0, 0)).2 ∧ (0 < i → 2 ≤ (rl.getD (i - 1) (0, 0)).1 ∧ (rl.getD i (0, 0)).2 + 2 ≤ (rl.getD (i - 1) (0, 0)).1))) := Lib.hid rfl
  by_cases h0 : rl.length = 0
  · have h0' : (rl.length : Int) < 1 := by omega
    have HF : Hid (decide (apart rl) = false) := Lib.hid (by rw [HAP.out, decide_eq_false_iff_not]; rintro ⟨h, _⟩; omega)
    clear h0 hrl HVR HAP
    generalize rl.length = nr at *
    go_wp2
    go_ret
    exact ⟨ret_bool (by rw [HRL.out]; exact HF.out.symm), HCZ.out⟩
  obtain ⟨b, o, rfl, hb, _, hrc⟩ := HVR.out.ranges (by omega)
  have HRC := Lib.hid hrc
  obtain ⟨_, c01⟩ := hrc 0 (by omega)
  rw [Nat.zero_mul, Nat.add_zero] at c01
  clear hrc
  have h1 : ¬ (rl.length : Int) < 1 := by omega
  by_cases h16 : 16 < rl.length
  · have h16' : (16 : Int) < (rl.length : Int) := by omega
    have HF : Hid (decide (apart rl) = false) := Lib.hid (by rw [HAP.out, decide_eq_false_iff_not]; rintro ⟨_, h, _⟩; omega)
    clear h0 hrl HVR HAP HRC c01 h16
    generalize rl.length = nr at *
    go_wp2
    go_ret
    exact ⟨ret_bool (by rw [HRL.out]; exact HF.out.symm), HCZ.out⟩
  have h16' : ¬ (16 : Int) < (rl.length : Int) := by omega
  by_cases htop : 4611686018427387903 < (rl.getD 0 (0, 0)).2
  · have HF : Hid (decide (apart rl) = false) := Lib.hid (by rw [HAP.out, decide_eq_false_iff_not]; rintro ⟨_, _, h, _⟩; omega)
    generalize (rl.getD 0 (0, 0)).2 = t0 at *
    have htop' : (4611686018427387903 : Int) < (t0 : Int) := by omega
    have hpos : (0 : Int) < (rl.length : Int) := by omega
    clear h0 hrl HVR HAP HRC h16 htop
    generalize rl.length = nr at *
    go_wp2
    go_ret
    exact ⟨ret_bool (by rw [HRL.out]; exact HF.out.symm), HCZ.out⟩
  have HTOP := Lib.hid htop
  have hpos : (0 : Int) < (rl.length : Int) := by omega
  obtain ⟨t0, ht0⟩ : ∃ t0, t0 = (rl.getD 0 (0, 0)).2 := ⟨_, rfl⟩
  rw [← ht0] at c01 htop
  have htop' : ¬ (4611686018427387903 : Int) < (t0 : Int) := by omega
  clear htop ht0 hrl HVR
  have H16 := Lib.hid h16
  have H0 := Lib.hid h0
  clear h0 h16
  go_wp2
  clear c01 htop'
  go_loopw [5] (fun i wr => ∃ k m : Nat, k ≤ rl.length ∧ i = .int .i64 (k : Int) ∧ wr = y2.drewN m ∧ Hid (∀ i, i < k → (rl.getD i (0, 0)).1 ≤ (rl.getD i (0, 0)).2 ∧ (0 < i → 2 ≤ (rl.getD (i - 1) (0, 0)).1 ∧ (rl.getD i (0, 0)).2 + 2 ≤ (rl.getD (i - 1) (0, 0)).1))) (fun i _ => rl.length - (intOf i).toNat)
  case atStart => exact ⟨0, 0, Nat.zero_le _, rfl, rfl, Lib.hid (fun i hi => absurd hi (by omega))⟩
  case round =>
    obtain ⟨k, m, hk, rfl, rfl, hpre⟩ := hrel
    by_cases hlt : k < rl.length
    · have hk1 : (k : Int) < (rl.length : Int) := by omega
      have hk0 : (0 : Int) ≤ (k : Int) := by omega
      obtain ⟨c1, c2⟩ := HRC.out k hlt
      obtain ⟨x1, hx1⟩ : ∃ x, x = (rl.getD k (0, 0)).1 := ⟨_, rfl⟩
      obtain ⟨x2, hx2⟩ : ∃ x, x = (rl.getD k (0, 0)).2 := ⟨_, rfl⟩
      rw [← hx1] at c1
      rw [← hx2] at c2
      have HX1 := Lib.hid hx1
      have HX2 := Lib.hid hx2
      have hb2 : x2 < 18446744073709551616 := by rw [hx2]; exact (rget_lt HLT.out k).2
      clear hx1 hx2
      by_cases hle : x2 < x1
      · have hle' : (x2 : Int) < (x1 : Int) := by omega
        have HF : Hid (decide (apart rl) = false) := Lib.hid (by rw [HAP.out, decide_eq_false_iff_not]; rintro ⟨_, _, _, h⟩; have := (h k hlt).1; rw [← HX1.out, ← HX2.out] at this; omega)
        clear hle HX1 HX2
        go_wp2
        go_quiet (fail)
        go_wp2
        go_ret
        exact ⟨ret_bool (by rw [HRL.out]; exact HF.out.symm), (HCZ.out.drewN _).drewN _⟩
      have hle' : ¬ (x2 : Int) < (x1 : Int) := by omega
      by_cases hz0 : k = 0
      · have hk00 : ¬ (0 : Int) < (k : Int) := by omega
        have hk0d : decide ((0 : Int) < (k : Int)) = false := by simpa using hk00
        have HK0 := Lib.hid hz0
        have hk0n : decide (0 < k) = false := by simpa using hz0
        clear hz0
        go_wp2
        go_quiet (fail)
        go_wp2
        go_quiet (fail)
        go_wp2
        go_roundw
        case rel =>
          refine ⟨k + 1, _, by omega, by go_num, by first | rfl | (rw [World.drewN_drewN]; rfl) | (rw [World.drewN_drewN, World.drewN_drewN]), Lib.hid (fun i hi => ?_)⟩
          have hi0 : i = k := by have := HK0.out; omega
          subst hi0
          exact ⟨by rw [← HX1.out, ← HX2.out]; omega, fun h => absurd h (by have := HK0.out; omega)⟩
        case measure => simp [intOf]; omega
      · obtain ⟨j, hkj0⟩ : ∃ j, k = j + 1 := ⟨k - 1, by omega⟩
        have hkj : (k : Int) - 1 = (j : Int) := by omega
        have hkp : (0 : Int) < (k : Int) := by omega
        have hkpd : decide ((0 : Int) < (k : Int)) = true := by simpa using hkp
        have hkpn : decide (0 < k) = true := by simp; omega
        have hj0 : (0 : Int) ≤ (j : Int) := by omega
        have hj1 : (j : Int) < (rl.length : Int) := by omega
        have HKJ := Lib.hid hkj0
        obtain ⟨d1, _⟩ := HRC.out j (by omega)
        obtain ⟨p1, hp1⟩ : ∃ x, x = (rl.getD j (0, 0)).1 := ⟨_, rfl⟩
        rw [← hp1] at d1
        have HP1 := Lib.hid hp1
        have hbp : p1 < 18446744073709551616 := by rw [hp1]; exact (rget_lt HLT.out j).1
        clear hp1 hz0 hkj0
        by_cases hp2 : p1 < 2
        · have hp2' : (p1 : Int) < 2 := by omega
          have HF : Hid (decide (apart rl) = false) := Lib.hid (by rw [HAP.out, decide_eq_false_iff_not]; rintro ⟨_, _, _, h⟩; have := ((h k hlt).2 (by have := HKJ.out; omega)).1; rw [show k - 1 = j by have := HKJ.out; omega, ← HP1.out] at this; omega)
          go_wp2
          go_quiet (fail)
          go_wp2
          go_quiet (fail)
          go_wp2
          go_ret
          exact ⟨ret_bool (by rw [HRL.out]; exact HF.out.symm), by first | exact ((HCZ.out.drewN _).drewN _).drewN _ | exact (HCZ.out.drewN _).drewN _⟩
        have hp2' : ¬ (p1 : Int) < 2 := by omega
        have hp2d : decide ((p1 : Int) < 2) = false := by simpa using hp2'
        have hp2n : decide (p1 < 2) = false := by simpa using hp2
        by_cases hgap : p1 < x2 + 2
        · have hgap' : (p1 : Int) - 2 < (x2 : Int) := by omega
          have HF : Hid (decide (apart rl) = false) := Lib.hid (by rw [HAP.out, decide_eq_false_iff_not]; rintro ⟨_, _, _, h⟩; have := ((h k hlt).2 (by have := HKJ.out; omega)).2; rw [show k - 1 = j by have := HKJ.out; omega, ← HP1.out, ← HX2.out] at this; omega)
          go_wp2
          go_quiet (fail)
          go_wp2
          go_quiet (fail)
          go_wp2
          go_ret
          exact ⟨ret_bool (by rw [HRL.out]; exact HF.out.symm), by first | exact ((HCZ.out.drewN _).drewN _).drewN _ | exact (HCZ.out.drewN _).drewN _⟩
        have hgap' : ¬ (p1 : Int) - 2 < (x2 : Int) := by omega
        go_wp2
        go_quiet (fail)
        go_wp2
        go_quiet (fail)
        go_wp2
        go_roundw
        case rel =>
          refine ⟨k + 1, _, by omega, by go_num, by first | rfl | (rw [World.drewN_drewN]; rfl) | (rw [World.drewN_drewN, World.drewN_drewN]), Lib.hid (fun i hi => ?_)⟩
          rcases Nat.lt_or_ge i k with q | q
          · exact hpre.out i q
          · have hie : i = k := by omega
            subst hie
            exact ⟨by rw [← HX1.out, ← HX2.out]; omega, fun _ => by rw [show i - 1 = j by have := HKJ.out; omega, ← HP1.out, ← HX2.out]; omega⟩
        case measure => simp [intOf]; omega
    · have hkl : k = rl.length := by omega
      have hn : ¬ (k : Int) < (rl.length : Int) := by omega
      have HT : Hid (decide (apart rl) = true) := Lib.hid (by rw [HAP.out, decide_eq_true_eq]; exact ⟨by have := H0.out; omega, by have := H16.out; omega, by have := HTOP.out; omega, fun i hi => hpre.out i (by omega)⟩)
      clear hkl
      go_wp2
      go_ret
      exact ⟨ret_bool (by rw [HRL.out]; exact HT.out.symm), HCZ.out.drewN _⟩
end Go.Proofs.YtlcffjmbfpdlbaaDoor

namespace Go.Proofs.YtlcffjmbfpdlbaaDoor
open Go.RowKit

theorem rright_any (f : Fr) (sd sr : Value) (T : Nat → Prop) (w : World) (hf : FrD w T f sd sr) (of : f.Ok) :
    Calls Tryd.prog 7 #[.agg (cellsF f sd sr).toArray] w fun e w' => e = .returned (.bool (rightB f)) ∧ Chg none_ w w' := by
  cases h : whatM f.kind with
  | none => rw [right_none of h]; exact rright_none f sd sr w h
  | some l =>
    have hr := right_doc h
    cases hd : decide (f = onlyM f l) with
    | false =>
      rw [hd] at hr
      rw [hr, show (boundB f && (false && fitsR f)) = false by simp]
      exact rright_one f sd sr T w l h hf hd
    | true =>
      rw [hd] at hr
      by_cases h0 : f.id ≤ 4611686018427387903
      · by_cases h1 : f.a ≤ 4611686018427387903
        · by_cases h2 : f.b ≤ 4611686018427387903
          · by_cases h3 : f.code ≤ 4611686018427387903
            · rw [hr, show (boundB f && (true && fitsR f)) = fitsR f by simp [boundB, h0, h1, h2, h3]]
              by_cases hk : f.kind = 2
              · rw [show fitsR f = decide (apart f.ranges) by simp [fitsR, hk]]
                exact rright_ack f sd sr T w l h hf of hd h0 h1 h2 h3 hk
              · exact rright_fit f sd sr T w l h hf of hd h0 h1 h2 h3 hk
            · rw [hr, show (boundB f && (true && fitsR f)) = false by simp [boundB, h3]]
              exact rright_code f sd sr T w l h hf hd h0 h1 h2 (by omega)
          · rw [hr, show (boundB f && (true && fitsR f)) = false by simp [boundB, h2]]
            exact rright_b f sd sr T w l h hf hd h0 h1 (by omega)
        · rw [hr, show (boundB f && (true && fitsR f)) = false by simp [boundB, h1]]
          exact rright_a f sd sr T w l h hf hd h0 (by omega)
      · rw [hr, show (boundB f && (true && fitsR f)) = false by simp [boundB, h0]]
        exact rright_id f sd sr T w l h hf hd (by omega)
end Go.Proofs.YtlcffjmbfpdlbaaDoor

namespace Go.Proofs.YtlcffjmbfpdlbaaDoor
open Go.RowKit

theorem putM_few {f : Fr} (of : f.Ok) (ht : f.tok.length = 16) (hr : rightB f = true) : (putM f).length ≤ 200000 := by
  have h1 := flat_len f (partsOf f) (parts_small of ht hr)
  have h2 := encI_len (typM f)
  have h3 : (partsOf f).length ≤ 100 := by
    unfold partsOf
    cases hd : kdM (keyM f.kind) with
    | none => exact Nat.zero_le _
    | some d => exact Nat.le_trans (parts_len d (kdM_good hd) (typM f)) (by decide)
  unfold putM
  rw [if_pos hr, List.length_append]
  omega
theorem next_zero (r : List Nat) : (nextM (0 :: r, 0)).1.kind = 0 := by
  have h1 : rdInt (0 :: r, 0) = (0, (r, 0)) := by
    unfold rdInt
    simp [needs, foldB]
  unfold nextM
  rw [h1]
  dsimp only
  split
  · rfl
  · split
    · rw [(readAll_kind _ _).1]
      rfl
    · rfl
theorem head_ne {g : Fr} (og : g.Ok) (tg : g.tok.length = 16) (lg : g.data.length ≤ 1000000) (rg : rightB g = true) (hk : g.kind ≠ 0) : (putM g).head? ≠ some 0 := by
  intro h
  have h2 := next_right og tg lg rg [] (fun _ => Or.inr (by simp))
  rw [List.append_nil] at h2
  rcases hp : putM g with _ | ⟨x, r⟩
  · rw [hp] at h; cases h
  · rw [hp] at h h2
    simp only [List.head?_cons, Option.some.injEq] at h
    subst h
    have h3 := next_zero r
    rw [h2] at h3
    exact hk h3
theorem two_back {f g : Fr} (of : f.Ok) (og : g.Ok) (tf : f.tok.length = 16) (tg : g.tok.length = 16) (lf : f.data.length ≤ 1000000) (lg : g.data.length ≤ 1000000) (rf : rightB f = true) (rg : rightB g = true) (hk : ¬ (f.kind = 0 ∧ g.kind = 0)) : parseM (putM f ++ putM g) = ([f, g], 0) := by
  have h : loopP [] (putM f ++ putM g, 0) = ([f, g], ([], 0)) := by
    rw [loop_more of tf lf rf [] (putM g) (fun h0 => Or.inr (head_ne og tg lg rg (fun h1 => hk ⟨h0, h1⟩))), loop_one og tg lg rg]
    rfl
  rw [parseM_eq _ _ _ h]
  rfl
end Go.Proofs.YtlcffjmbfpdlbaaDoor

namespace Go.Proofs.YtlcffjmbfpdlbaaDoor
open Go.RowKit

theorem encI_one (n : Nat) (h : n < 64) : encI n = [n] := by
  unfold encI
  rw [szN_1 h]
  have hw : ((n : Nat) ≤ gr 1) := by rw [gr_1]; omega
  unfold wideB
  rw [if_pos ⟨Or.inl rfl, by simpa using hw⟩]
  show be n 1 = [n]
  have hl : lg 1 = 0 := rfl
  simp [be, arr, hl]
  omega
theorem put_16 {f : Fr} (hr : rightB f = true) (hk : f.kind = 16) (hf : f.flag = false) : putM f = [16] ++ encI f.a := by
  obtain ⟨k, id, a, b, c, fl, dt, rg, tk⟩ := f
  simp only at hk hf
  subst hk hf
  have ht : typM ⟨16, id, a, b, c, false, dt, rg, tk⟩ = 16 := by simp [typM]
  unfold putM
  rw [if_pos hr, ht, encI_one _ (by decide)]
  have hp : partsOf ⟨16, id, a, b, c, false, dt, rg, tk⟩ = [.amount] := by unfold partsOf; rw [ht]; rfl
  rw [hp]
  simp [putAll, putP, getP, aheadM]
theorem put_20 {f : Fr} (hr : rightB f = true) (hk : f.kind = 20) (hf : f.flag = false) : putM f = [20] ++ encI f.a := by
  obtain ⟨k, id, a, b, c, fl, dt, rg, tk⟩ := f
  simp only at hk hf
  subst hk hf
  have ht : typM ⟨20, id, a, b, c, false, dt, rg, tk⟩ = 20 := by simp [typM]
  unfold putM
  rw [if_pos hr, ht, encI_one _ (by decide)]
  have hp : partsOf ⟨20, id, a, b, c, false, dt, rg, tk⟩ = [.amount] := by unfold partsOf; rw [ht]; rfl
  rw [hp]
  simp [putAll, putP, getP, aheadM]
theorem put_1 {f : Fr} (hr : rightB f = true) (hk : f.kind = 1) (hf : f.flag = false) : putM f = [1] := by
  obtain ⟨k, id, a, b, c, fl, dt, rg, tk⟩ := f
  simp only at hk hf
  subst hk hf
  have ht : typM ⟨1, id, a, b, c, false, dt, rg, tk⟩ = 1 := by simp [typM]
  unfold putM
  rw [if_pos hr, ht, encI_one _ (by decide)]
  have hp : partsOf ⟨1, id, a, b, c, false, dt, rg, tk⟩ = [] := by unfold partsOf; rw [ht]; rfl
  rw [hp]
  simp [putAll, putP, getP, aheadM]
theorem put_30 {f : Fr} (hr : rightB f = true) (hk : f.kind = 30) (hf : f.flag = false) : putM f = [30] := by
  obtain ⟨k, id, a, b, c, fl, dt, rg, tk⟩ := f
  simp only at hk hf
  subst hk hf
  have ht : typM ⟨30, id, a, b, c, false, dt, rg, tk⟩ = 30 := by simp [typM]
  unfold putM
  rw [if_pos hr, ht, encI_one _ (by decide)]
  have hp : partsOf ⟨30, id, a, b, c, false, dt, rg, tk⟩ = [] := by unfold partsOf; rw [ht]; rfl
  rw [hp]
  simp [putAll, putP, getP, aheadM]
theorem put_4 {f : Fr} (hr : rightB f = true) (hk : f.kind = 4) (hf : f.flag = false) : putM f = [4] ++ encI f.id ++ encI f.code ++ encI f.a := by
  obtain ⟨k, id, a, b, c, fl, dt, rg, tk⟩ := f
  simp only at hk hf
  subst hk hf
  have ht : typM ⟨4, id, a, b, c, false, dt, rg, tk⟩ = 4 := by simp [typM]
  unfold putM
  rw [if_pos hr, ht, encI_one _ (by decide)]
  have hp : partsOf ⟨4, id, a, b, c, false, dt, rg, tk⟩ = [.id, .code, .amount] := by unfold partsOf; rw [ht]; rfl
  rw [hp]
  simp [putAll, putP, getP, aheadM]
theorem put_5 {f : Fr} (hr : rightB f = true) (hk : f.kind = 5) (hf : f.flag = false) : putM f = [5] ++ encI f.id ++ encI f.code := by
  obtain ⟨k, id, a, b, c, fl, dt, rg, tk⟩ := f
  simp only at hk hf
  subst hk hf
  have ht : typM ⟨5, id, a, b, c, false, dt, rg, tk⟩ = 5 := by simp [typM]
  unfold putM
  rw [if_pos hr, ht, encI_one _ (by decide)]
  have hp : partsOf ⟨5, id, a, b, c, false, dt, rg, tk⟩ = [.id, .code] := by unfold partsOf; rw [ht]; rfl
  rw [hp]
  simp [putAll, putP, getP, aheadM]
theorem put_6 {f : Fr} (hr : rightB f = true) (hk : f.kind = 6) (hf : f.flag = false) : putM f = [6] ++ encI f.a ++ encI f.data.length ++ f.data := by
  obtain ⟨k, id, a, b, c, fl, dt, rg, tk⟩ := f
  simp only at hk hf
  subst hk hf
  have ht : typM ⟨6, id, a, b, c, false, dt, rg, tk⟩ = 6 := by simp [typM]
  unfold putM
  rw [if_pos hr, ht, encI_one _ (by decide)]
  have hp : partsOf ⟨6, id, a, b, c, false, dt, rg, tk⟩ = [.amount, .counted] := by unfold partsOf; rw [ht]; rfl
  rw [hp]
  simp [putAll, putP, getP, aheadM]
theorem put_7 {f : Fr} (hr : rightB f = true) (hk : f.kind = 7) (hf : f.flag = false) : putM f = [7] ++ encI f.data.length ++ f.data := by
  obtain ⟨k, id, a, b, c, fl, dt, rg, tk⟩ := f
  simp only at hk hf
  subst hk hf
  have ht : typM ⟨7, id, a, b, c, false, dt, rg, tk⟩ = 7 := by simp [typM]
  unfold putM
  rw [if_pos hr, ht, encI_one _ (by decide)]
  have hp : partsOf ⟨7, id, a, b, c, false, dt, rg, tk⟩ = [.counted] := by unfold partsOf; rw [ht]; rfl
  rw [hp]
  simp [putAll, putP, getP, aheadM]
theorem put_26 {f : Fr} (hr : rightB f = true) (hk : f.kind = 26) (hf : f.flag = false) : putM f = [26] ++ f.data := by
  obtain ⟨k, id, a, b, c, fl, dt, rg, tk⟩ := f
  simp only at hk hf
  subst hk hf
  have ht : typM ⟨26, id, a, b, c, false, dt, rg, tk⟩ = 26 := by simp [typM]
  unfold putM
  rw [if_pos hr, ht, encI_one _ (by decide)]
  have hp : partsOf ⟨26, id, a, b, c, false, dt, rg, tk⟩ = [.challenge] := by unfold partsOf; rw [ht]; rfl
  rw [hp]
  simp [putAll, putP, getP, aheadM]
theorem put_27 {f : Fr} (hr : rightB f = true) (hk : f.kind = 27) (hf : f.flag = false) : putM f = [27] ++ f.data := by
  obtain ⟨k, id, a, b, c, fl, dt, rg, tk⟩ := f
  simp only at hk hf
  subst hk hf
  have ht : typM ⟨27, id, a, b, c, false, dt, rg, tk⟩ = 27 := by simp [typM]
  unfold putM
  rw [if_pos hr, ht, encI_one _ (by decide)]
  have hp : partsOf ⟨27, id, a, b, c, false, dt, rg, tk⟩ = [.challenge] := by unfold partsOf; rw [ht]; rfl
  rw [hp]
  simp [putAll, putP, getP, aheadM]
theorem put_8_f0_z0 {f : Fr} (hr : rightB f = true) (hk : f.kind = 8) (hf : f.flag = false) (ha : f.a ≠ 0) : putM f = [14] ++ encI f.id ++ encI f.a ++ encI f.data.length ++ f.data := by
  obtain ⟨k, id, a, b, c, fl, dt, rg, tk⟩ := f
  simp only at hk hf ha
  subst hk hf
  have ht : typM ⟨8, id, a, b, c, false, dt, rg, tk⟩ = 14 := by simp [typM, ha]
  unfold putM
  rw [if_pos hr, ht, encI_one _ (by decide)]
  have hp : partsOf ⟨8, id, a, b, c, false, dt, rg, tk⟩ = [.id, .amount, .counted] := by unfold partsOf; rw [ht]; rfl
  rw [hp]
  simp [putAll, putP, getP, aheadM]
theorem put_8_f0_z1 {f : Fr} (hr : rightB f = true) (hk : f.kind = 8) (hf : f.flag = false) (ha : f.a = 0) : putM f = [10] ++ encI f.id ++ encI f.data.length ++ f.data := by
  obtain ⟨k, id, a, b, c, fl, dt, rg, tk⟩ := f
  simp only at hk hf ha
  subst hk hf
  have ht : typM ⟨8, id, a, b, c, false, dt, rg, tk⟩ = 10 := by simp [typM, ha]
  unfold putM
  rw [if_pos hr, ht, encI_one _ (by decide)]
  have hp : partsOf ⟨8, id, a, b, c, false, dt, rg, tk⟩ = [.id, .counted] := by unfold partsOf; rw [ht]; rfl
  rw [hp]
  simp [putAll, putP, getP, aheadM]
theorem put_8_f1_z0 {f : Fr} (hr : rightB f = true) (hk : f.kind = 8) (hf : f.flag = true) (ha : f.a ≠ 0) : putM f = [15] ++ encI f.id ++ encI f.a ++ encI f.data.length ++ f.data := by
  obtain ⟨k, id, a, b, c, fl, dt, rg, tk⟩ := f
  simp only at hk hf ha
  subst hk hf
  have ht : typM ⟨8, id, a, b, c, true, dt, rg, tk⟩ = 15 := by simp [typM, ha]
  unfold putM
  rw [if_pos hr, ht, encI_one _ (by decide)]
  have hp : partsOf ⟨8, id, a, b, c, true, dt, rg, tk⟩ = [.id, .amount, .counted] := by unfold partsOf; rw [ht]; rfl
  rw [hp]
  simp [putAll, putP, getP, aheadM]
theorem put_8_f1_z1 {f : Fr} (hr : rightB f = true) (hk : f.kind = 8) (hf : f.flag = true) (ha : f.a = 0) : putM f = [11] ++ encI f.id ++ encI f.data.length ++ f.data := by
  obtain ⟨k, id, a, b, c, fl, dt, rg, tk⟩ := f
  simp only at hk hf ha
  subst hk hf
  have ht : typM ⟨8, id, a, b, c, true, dt, rg, tk⟩ = 11 := by simp [typM, ha]
  unfold putM
  rw [if_pos hr, ht, encI_one _ (by decide)]
  have hp : partsOf ⟨8, id, a, b, c, true, dt, rg, tk⟩ = [.id, .counted] := by unfold partsOf; rw [ht]; rfl
  rw [hp]
  simp [putAll, putP, getP, aheadM]
theorem put_17 {f : Fr} (hr : rightB f = true) (hk : f.kind = 17) (hf : f.flag = false) : putM f = [17] ++ encI f.id ++ encI f.a := by
  obtain ⟨k, id, a, b, c, fl, dt, rg, tk⟩ := f
  simp only at hk hf
  subst hk hf
  have ht : typM ⟨17, id, a, b, c, false, dt, rg, tk⟩ = 17 := by simp [typM]
  unfold putM
  rw [if_pos hr, ht, encI_one _ (by decide)]
  have hp : partsOf ⟨17, id, a, b, c, false, dt, rg, tk⟩ = [.id, .amount] := by unfold partsOf; rw [ht]; rfl
  rw [hp]
  simp [putAll, putP, getP, aheadM]
theorem put_21 {f : Fr} (hr : rightB f = true) (hk : f.kind = 21) (hf : f.flag = false) : putM f = [21] ++ encI f.id ++ encI f.a := by
  obtain ⟨k, id, a, b, c, fl, dt, rg, tk⟩ := f
  simp only at hk hf
  subst hk hf
  have ht : typM ⟨21, id, a, b, c, false, dt, rg, tk⟩ = 21 := by simp [typM]
  unfold putM
  rw [if_pos hr, ht, encI_one _ (by decide)]
  have hp : partsOf ⟨21, id, a, b, c, false, dt, rg, tk⟩ = [.id, .amount] := by unfold partsOf; rw [ht]; rfl
  rw [hp]
  simp [putAll, putP, getP, aheadM]
theorem put_18_f0 {f : Fr} (hr : rightB f = true) (hk : f.kind = 18) (hf : f.flag = false) : putM f = [18] ++ encI f.a := by
  obtain ⟨k, id, a, b, c, fl, dt, rg, tk⟩ := f
  simp only at hk hf
  subst hk hf
  have ht : typM ⟨18, id, a, b, c, false, dt, rg, tk⟩ = 18 := by simp [typM]
  unfold putM
  rw [if_pos hr, ht, encI_one _ (by decide)]
  have hp : partsOf ⟨18, id, a, b, c, false, dt, rg, tk⟩ = [.amount] := by unfold partsOf; rw [ht]; rfl
  rw [hp]
  simp [putAll, putP, getP, aheadM]
theorem put_18_f1 {f : Fr} (hr : rightB f = true) (hk : f.kind = 18) (hf : f.flag = true) : putM f = [19] ++ encI f.a := by
  obtain ⟨k, id, a, b, c, fl, dt, rg, tk⟩ := f
  simp only at hk hf
  subst hk hf
  have ht : typM ⟨18, id, a, b, c, true, dt, rg, tk⟩ = 19 := by simp [typM]
  unfold putM
  rw [if_pos hr, ht, encI_one _ (by decide)]
  have hp : partsOf ⟨18, id, a, b, c, true, dt, rg, tk⟩ = [.amount] := by unfold partsOf; rw [ht]; rfl
  rw [hp]
  simp [putAll, putP, getP, aheadM]
theorem put_22_f0 {f : Fr} (hr : rightB f = true) (hk : f.kind = 22) (hf : f.flag = false) : putM f = [22] ++ encI f.a := by
  obtain ⟨k, id, a, b, c, fl, dt, rg, tk⟩ := f
  simp only at hk hf
  subst hk hf
  have ht : typM ⟨22, id, a, b, c, false, dt, rg, tk⟩ = 22 := by simp [typM]
  unfold putM
  rw [if_pos hr, ht, encI_one _ (by decide)]
  have hp : partsOf ⟨22, id, a, b, c, false, dt, rg, tk⟩ = [.amount] := by unfold partsOf; rw [ht]; rfl
  rw [hp]
  simp [putAll, putP, getP, aheadM]
theorem put_22_f1 {f : Fr} (hr : rightB f = true) (hk : f.kind = 22) (hf : f.flag = true) : putM f = [23] ++ encI f.a := by
  obtain ⟨k, id, a, b, c, fl, dt, rg, tk⟩ := f
  simp only at hk hf
  subst hk hf
  have ht : typM ⟨22, id, a, b, c, true, dt, rg, tk⟩ = 23 := by simp [typM]
  unfold putM
  rw [if_pos hr, ht, encI_one _ (by decide)]
  have hp : partsOf ⟨22, id, a, b, c, true, dt, rg, tk⟩ = [.amount] := by unfold partsOf; rw [ht]; rfl
  rw [hp]
  simp [putAll, putP, getP, aheadM]
theorem put_24 {f : Fr} (hr : rightB f = true) (hk : f.kind = 24) (hf : f.flag = false) (hn : f.data.length < 256) : putM f = [24] ++ encI f.id ++ encI f.a ++ [f.data.length] ++ f.data ++ f.tok := by
  obtain ⟨k, id, a, b, c, fl, dt, rg, tk⟩ := f
  simp only at hk hf
  subst hk hf
  have ht : typM ⟨24, id, a, b, c, false, dt, rg, tk⟩ = 24 := by simp [typM]
  unfold putM
  rw [if_pos hr, ht, encI_one _ (by decide)]
  have hp : partsOf ⟨24, id, a, b, c, false, dt, rg, tk⟩ = [.id, .amount, .shortly, .token] := by unfold partsOf; rw [ht]; rfl
  rw [hp]
  simp [putAll, putP, getP, aheadM]
  exact hn
theorem put_25 {f : Fr} (hr : rightB f = true) (hk : f.kind = 25) (hf : f.flag = false) : putM f = [25] ++ encI f.id := by
  obtain ⟨k, id, a, b, c, fl, dt, rg, tk⟩ := f
  simp only at hk hf
  subst hk hf
  have ht : typM ⟨25, id, a, b, c, false, dt, rg, tk⟩ = 25 := by simp [typM]
  unfold putM
  rw [if_pos hr, ht, encI_one _ (by decide)]
  have hp : partsOf ⟨25, id, a, b, c, false, dt, rg, tk⟩ = [.id] := by unfold partsOf; rw [ht]; rfl
  rw [hp]
  simp [putAll, putP, getP, aheadM]
theorem put_28_f0 {f : Fr} (hr : rightB f = true) (hk : f.kind = 28) (hf : f.flag = false) : putM f = [28] ++ encI f.code ++ encI f.a ++ encI f.data.length ++ f.data := by
  obtain ⟨k, id, a, b, c, fl, dt, rg, tk⟩ := f
  simp only at hk hf
  subst hk hf
  have ht : typM ⟨28, id, a, b, c, false, dt, rg, tk⟩ = 28 := by simp [typM]
  unfold putM
  rw [if_pos hr, ht, encI_one _ (by decide)]
  have hp : partsOf ⟨28, id, a, b, c, false, dt, rg, tk⟩ = [.code, .amount, .counted] := by unfold partsOf; rw [ht]; rfl
  rw [hp]
  simp [putAll, putP, getP, aheadM]
theorem put_28_f1 {f : Fr} (hr : rightB f = true) (hk : f.kind = 28) (hf : f.flag = true) : putM f = [29] ++ encI f.code ++ encI f.data.length ++ f.data := by
  obtain ⟨k, id, a, b, c, fl, dt, rg, tk⟩ := f
  simp only at hk hf
  subst hk hf
  have ht : typM ⟨28, id, a, b, c, true, dt, rg, tk⟩ = 29 := by simp [typM]
  unfold putM
  rw [if_pos hr, ht, encI_one _ (by decide)]
  have hp : partsOf ⟨28, id, a, b, c, true, dt, rg, tk⟩ = [.code, .counted] := by unfold partsOf; rw [ht]; rfl
  rw [hp]
  simp [putAll, putP, getP, aheadM]
theorem put_0 {f : Fr} (hr : rightB f = true) (hk : f.kind = 0) (hf : f.flag = false) (ha : 1 ≤ f.a) : putM f = List.replicate f.a 0 := by
  obtain ⟨k, id, a, b, c, fl, dt, rg, tk⟩ := f
  simp only at hk hf ha
  subst hk hf
  have ht : typM ⟨0, id, a, b, c, false, dt, rg, tk⟩ = 0 := by simp [typM]
  unfold putM
  rw [if_pos hr, ht, encI_one _ (by decide)]
  have hp : partsOf ⟨0, id, a, b, c, false, dt, rg, tk⟩ = [.zeros] := by unfold partsOf; rw [ht]; rfl
  rw [hp]
  obtain ⟨n, rfl⟩ : ∃ n, a = n + 1 := ⟨a - 1, by omega⟩
  simp [putAll, putP, List.replicate_succ]
end Go.Proofs.YtlcffjmbfpdlbaaDoor

namespace Go.Proofs.YtlcffjmbfpdlbaaDoor
open Go.RowKit

/-- The document's Fits. -/
def rfitsB (n : Nat) (s : Int) : Bool := if s = 1 then decide (n < 64) else if s = 2 then decide (n < 16384) else if s = 4 then decide (n < 1073741824) else if s = 8 then decide (n < 4611686018427387904) else false

theorem rfits_any (n : Nat) (s : Int) (w : World) : Calls Tryd.prog 82 #[.int .u64 n, .int .i64 s] w fun e w' => e = .returned (.bool (rfitsB n s)) ∧ w = w' := by
  by_cases h1 : s = 1
  · subst h1
    go_enter Tryd.func82, Tryd.ntmps82
    go_wp2
    go_ret
    exact ⟨ret_bool (by rw [Bool.eq_iff_iff]; simp only [rfitsB, decide_eq_true_eq, if_true, Int.reduceEq, if_false]; omega), rfl⟩
  by_cases h2 : s = 2
  · subst h2
    go_enter Tryd.func82, Tryd.ntmps82
    go_wp2
    go_ret
    exact ⟨ret_bool (by rw [Bool.eq_iff_iff]; simp only [rfitsB, decide_eq_true_eq, if_true, Int.reduceEq, if_false]; omega), rfl⟩
  by_cases h4 : s = 4
  · subst h4
    go_enter Tryd.func82, Tryd.ntmps82
    go_wp2
    go_ret
    exact ⟨ret_bool (by rw [Bool.eq_iff_iff]; simp only [rfitsB, decide_eq_true_eq, if_true, Int.reduceEq, if_false]; omega), rfl⟩
  by_cases h8 : s = 8
  · subst h8
    go_enter Tryd.func82, Tryd.ntmps82
    go_wp2
    go_ret
    exact ⟨ret_bool (by rw [Bool.eq_iff_iff]; simp only [rfitsB, decide_eq_true_eq, if_true, Int.reduceEq, if_false]; omega), rfl⟩
  have b1 : (s == 1) = false := by simpa using h1
  have b2 : (s == 2) = false := by simpa using h2
  have b4 : (s == 4) = false := by simpa using h4
  have b8 : (s == 8) = false := by simpa using h8
  go_enter Tryd.func82, Tryd.ntmps82
  go_wp2
  go_ret
  exact ⟨ret_bool (by simp [rfitsB, h1, h2, h4, h8]), rfl⟩

theorem fitsB_0 (n : Nat) (s : Int) (h1 : s ≠ 1) (h2 : s ≠ 2) (h4 : s ≠ 4) (h8 : s ≠ 8) : rfitsB n s = false := by simp [rfitsB, h1, h2, h4, h8]
theorem fitsB_1 (n : Nat) : rfitsB n 1 = decide (n < 64) := rfl
theorem fitsB_2 (n : Nat) : rfitsB n 2 = decide (n < 16384) := rfl
theorem fitsB_4 (n : Nat) : rfitsB n 4 = decide (n < 1073741824) := rfl
theorem fitsB_8 (n : Nat) : rfitsB n 8 = decide (n < 4611686018427387904) := rfl

theorem rsize_any (n : Nat) (w : World) : Calls Tryd.prog 54 #[.int .u64 n] w fun e w' => e = .returned (.int .i64 (szN n)) ∧ w = w' := by
  have b3 := fitsB_0 n 3 (by omega) (by omega) (by omega) (by omega)
  have b5 := fitsB_0 n 5 (by omega) (by omega) (by omega) (by omega)
  have b6 := fitsB_0 n 6 (by omega) (by omega) (by omega) (by omega)
  have b7 := fitsB_0 n 7 (by omega) (by omega) (by omega) (by omega)
  by_cases h1 : n < 64
  · have b1 : rfitsB n 1 = true := by rw [fitsB_1]; exact decide_eq_true h1
    have hz := szN_1 h1
    clear h1
    go_enter Tryd.func54, Tryd.ntmps54
    go_wp2
    refine wp_loop_rounds 9 ?_
    iterate 1
      rw [rounds_succ]
      go_wp2_with (go_at_call 82; refine (rfits_any n _ _).mono ?_; rintro e w' ⟨rfl, rfl⟩)
    go_ret
    exact ⟨ret_i64 (by rw [hz]; rfl), rfl⟩
  have b1 : rfitsB n 1 = false := by rw [fitsB_1]; exact decide_eq_false h1
  by_cases h2 : n < 16384
  · have b2 : rfitsB n 2 = true := by rw [fitsB_2]; exact decide_eq_true h2
    have hz := szN_2 (by omega) h2
    clear h2 h1
    go_enter Tryd.func54, Tryd.ntmps54
    go_wp2
    refine wp_loop_rounds 9 ?_
    iterate 2
      rw [rounds_succ]
      go_wp2_with (go_at_call 82; refine (rfits_any n _ _).mono ?_; rintro e w' ⟨rfl, rfl⟩)
    go_ret
    exact ⟨ret_i64 (by rw [hz]; rfl), rfl⟩
  have b2 : rfitsB n 2 = false := by rw [fitsB_2]; exact decide_eq_false h2
  by_cases h4 : n < 1073741824
  · have b4 : rfitsB n 4 = true := by rw [fitsB_4]; exact decide_eq_true h4
    have hz := szN_4 (by omega) h4
    clear h2 h1 h4
    go_enter Tryd.func54, Tryd.ntmps54
    go_wp2
    refine wp_loop_rounds 9 ?_
    iterate 4
      rw [rounds_succ]
      go_wp2_with (go_at_call 82; refine (rfits_any n _ _).mono ?_; rintro e w' ⟨rfl, rfl⟩)
    go_ret
    exact ⟨ret_i64 (by rw [hz]; rfl), rfl⟩
  have b4 : rfitsB n 4 = false := by rw [fitsB_4]; exact decide_eq_false h4
  by_cases h8 : n < 4611686018427387904
  · have b8 : rfitsB n 8 = true := by rw [fitsB_8]; exact decide_eq_true h8
    have hz := szN_8 (by omega) h8
    clear h2 h1 h4 h8
    go_enter Tryd.func54, Tryd.ntmps54
    go_wp2
    refine wp_loop_rounds 9 ?_
    iterate 8
      rw [rounds_succ]
      go_wp2_with (go_at_call 82; refine (rfits_any n _ _).mono ?_; rintro e w' ⟨rfl, rfl⟩)
    go_ret
    exact ⟨ret_i64 (by rw [hz]; rfl), rfl⟩
  have b8 : rfitsB n 8 = false := by rw [fitsB_8]; exact decide_eq_false h8
  have hz := szN_0 (n := n) (by omega)
  clear h2 h1 h4 h8
  go_enter Tryd.func54, Tryd.ntmps54
  go_wp2
  refine wp_loop_rounds 9 ?_
  iterate 9
    rw [rounds_succ]
    go_wp2_with (go_at_call 82; refine (rfits_any n _ _).mono ?_; rintro e w' ⟨rfl, rfl⟩)
  go_ret
  exact ⟨ret_i64 (by rw [hz]; rfl), rfl⟩
end Go.Proofs.YtlcffjmbfpdlbaaDoor

namespace Go.Proofs.YtlcffjmbfpdlbaaDoor
open Go.RowKit

theorem rfitsB_iff (n s : Nat) (hs : isW s) : rfitsB n s = decide (n ≤ gr s) := by
  rcases hs with rfl | rfl | rfl | rfl
  · rw [show rfitsB n (1 : Nat) = decide (n < 64) from rfl, gr_1, Bool.eq_iff_iff]; simp; omega
  · rw [show rfitsB n (2 : Nat) = decide (n < 16384) from rfl, gr_2, Bool.eq_iff_iff]; simp; omega
  · rw [show rfitsB n (4 : Nat) = decide (n < 1073741824) from rfl, gr_4, Bool.eq_iff_iff]; simp; omega
  · rw [show rfitsB n (8 : Nat) = decide (n < 4611686018427387904) from rfl, gr_8, Bool.eq_iff_iff]; simp; omega

theorem rwide_none (n : Nat) (s : Int) (w : World) (hf : rfitsB n s = false) : Calls Tryd.prog 53 #[.int .u64 n, .int .i64 s] w fun e w' => e = .returned (.slice none 0 0) ∧ w = w' := by
  go_enter Tryd.func53, Tryd.ntmps53
  go_wp2_with (go_at_call 82; refine (rfits_any n s _).mono ?_; rintro e w' ⟨rfl, rfl⟩)
  go_ret
  exact ⟨rfl, rfl⟩

theorem be_0 (n k : Nat) (h : lg k = 0) : be n k = arr n k k := by
  unfold be
  rw [h]
  apply List.ext_getElem
  · simp
  · intro i h1 h2
    rw [List.getElem_set]
    by_cases hi : 0 = i
    · subst hi
      rw [if_pos rfl, List.getD_eq_getElem?_getD, List.getElem?_eq_getElem h2]
      simp
    · rw [if_neg hi]

set_option maxHeartbeats 2000000 in
set_option maxRecDepth 100000 in
theorem rwide_any (n s : Nat) (w : World) (hs : isW s) (hn : n ≤ gr s) : Calls Tryd.prog 53 #[.int .u64 n, .int .i64 s] w fun e w' =>
    e = .returned (.slice (some ⟨w.heap.size, 0, none⟩) s s) ∧ Row w' w.heap.size 5 (u8s (be n s)) ∧ Chg none_ w w' := by
  have hs8 : s ≤ 8 := by unfold isW at hs; omega
  have hs1 : 1 ≤ s := by unfold isW at hs; omega
  have hfit : rfitsB n s = true := by rw [rfitsB_iff n s hs]; exact decide_eq_true hn
  have hhead := head_lt n s hs hn
  have hbe : ∀ m, lg s = m → be n s = (arr n s s).set 0 ((arr n s s).getD 0 0 + m * 64) := fun m h => by rw [← h]; rfl
  have hsw : (s = 1 ∧ ((s : Int) == 2) = false ∧ ((s : Int) == 4) = false ∧ ((s : Int) == 8) = false) ∨ (s = 2 ∧ ((s : Int) == 2) = true) ∨ (s = 4 ∧ ((s : Int) == 2) = false ∧ ((s : Int) == 4) = true) ∨ (s = 8 ∧ ((s : Int) == 2) = false ∧ ((s : Int) == 4) = false ∧ ((s : Int) == 8) = true) := by
    rcases hs with rfl | rfl | rfl | rfl <;> simp
  have HB := Lib.hid hbe
  have HH := Lib.hid hhead
  have HSW := Lib.hid hsw
  clear hbe hhead hsw
  obtain ⟨i0, hi, hz0, hz1, hz2⟩ := info_parts info5
  go_enter Tryd.func53, Tryd.ntmps53
  go_wp2_with (first | (go_at_call 82; refine (rfits_any n _ _).mono ?_; rintro e w' ⟨rfl, rfl⟩) | (at_make; refine wpList_make_full _ rfl _ _ _ rfl w.heap.size 5 i0 _ 1 Tryd.underlying23 hi hz0 hz1 _ _ _ _ s rfl rfl rfl rfl (by rw [hz2]; omega) (by unfold maxLen; omega) (Nat.le_refl _) ?_; intro w1 hown hgrow))
  have hR : Row w1 w.heap.size 5 (u8s (arr n s 0)) := by
    have := Row.of_made hown
    rw [show (Value.int .u8 0).cells = #[.int .u8 0] from rfl, toList_madeCells_one] at this
    simpa [arr_0, u8s] using this
  have hC : Chg none_ w w1 := (Chg.refl none_ w).grown hgrow (by intro k hk; cases hk)
  clear hown hgrow
  go_loopw [0, 6] (fun t i wr => ∃ k : Nat, k ≤ s ∧ i = .int .i64 ((s : Int) - 1 - k) ∧ t = .int .u64 ((n / 2 ^ (8 * k) : Nat) : Int) ∧ Row wr w.heap.size 5 (u8s (arr n s k)) ∧ Chg none_ w wr) (fun _ i _ => (intOf i + 1).toNat)
  case atStart => exact ⟨0, Nat.zero_le _, by simp, by simp, hR, hC⟩
  case round =>
    obtain ⟨k, hk, rfl, rfl, hrow, hch⟩ := hrel
    clear hR hC
    by_cases hlt : k < s
    · have hf := hrow.frozen (s - 1 - k)
      have hc : wr.cell? ⟨w.heap.size, s - 1 - k, none⟩ = some (.int .u8 (((arr n s k).getD (s - 1 - k) 0 : Nat) : Int)) := by
        rw [hrow.cell, u8s_get]
        have : s - 1 - k < (arr n s k).length := by rw [arr_len]; omega
        simp [this, List.getD]
      have htn : ((s : Int) - 1 - (k : Int)).toNat = s - 1 - k := by omega
      have hwr : IntKind.u64.wrap (((n / 2 ^ (8 * k) : Nat) : Int) / 256) = ((n / 2 ^ (8 * (k + 1)) : Nat) : Int) := by
        have h1 : n / 2 ^ (8 * k) ≤ n := Nat.div_le_self _ _
        have h2 : n ≤ 4611686018427387903 := by
          rcases hs with rfl | rfl | rfl | rfl
          · rw [gr_1] at hn; omega
          · rw [gr_2] at hn; omega
          · rw [gr_4] at hn; omega
          · rw [gr_8] at hn; omega
        rw [show 8 * (k + 1) = 8 * k + 8 from by omega, Nat.pow_add, ← Nat.div_div_eq_div_mul]
        generalize n / 2 ^ (8 * k) = q at h1 ⊢
        rw [IntWalk.u64_in _ (by omega)]
        rfl
      have HW := Lib.hid hwr
      clear hwr
      generalize hnk : n / 2 ^ (8 * k) = nk at HW ⊢
      have HN := Lib.hid hnk
      clear hnk
      go_wp2
      go_roundw
      case rel =>
        refine ⟨k + 1, by omega, by go_num, by rw [HW.out], ?_, hch.setCell (fun h => absurd h (by simp)) _⟩
        have := hrow.set (s - 1 - k) (.int .u8 ((n / 2 ^ (8 * k) % 256 : Nat) : Int))
        rw [u8s_set, arr_set n s k hlt, HN.out] at this
        simpa using this
      case measure => simp [intOf]; omega
    · have hks : k = s := by omega
      subst hks
      have hf := hrow.frozen 0
      have hk0 : 0 < k := hs1
      have hc : wr.cell? ⟨w.heap.size, 0, none⟩ = some (.int .u8 (((arr n k k).getD 0 0 : Nat) : Int)) := by
        rw [hrow.cell, u8s_get]
        have : 0 < (arr n k k).length := by rw [arr_len]; omega
        simp [this, List.getD]
      have hset : ∀ m, lg k = m → Row (wr.setCell ⟨w.heap.size, 0, none⟩ (.int .u8 (((arr n k k).getD 0 0 + m * 64 : Nat) : Int))) w.heap.size 5 (u8s (be n k)) := fun m hm => by
        have := hrow.set 0 (.int .u8 (((arr n k k).getD 0 0 + m * 64 : Nat) : Int))
        rw [u8s_set] at this
        rw [HB.out m hm]
        exact this
      have HS := Lib.hid hset
      clear hset
      have hh := HH.out
      generalize ha : (arr n k k).getD 0 0 = a at hc hh HS
      clear ha
      rcases HSW.out with ⟨hk1, s2, s4, s8⟩ | ⟨hk1, s2⟩ | ⟨hk1, s2, s4⟩ | ⟨hk1, s2, s4, s8⟩
      · have HK := Lib.hid hk1
        clear hk1
        go_wp2
        go_ret
        refine ⟨rfl, ?_, hch⟩
        have e : be n k = arr n k k := be_0 n k (by rw [HK.out]; rfl)
        rw [e]; exact hrow
      · have HK := Lib.hid hk1
        clear hk1
        go_wp2
        go_ret
        refine ⟨rfl, ?_, hch.setCell (fun h => absurd h (by simp)) _⟩
        exact HS.out 1 (by rw [HK.out]; rfl)
      · have HK := Lib.hid hk1
        clear hk1
        go_wp2
        go_ret
        refine ⟨rfl, ?_, hch.setCell (fun h => absurd h (by simp)) _⟩
        exact HS.out 2 (by rw [HK.out]; rfl)
      · have HK := Lib.hid hk1
        clear hk1
        go_wp2
        go_ret
        refine ⟨rfl, ?_, hch.setCell (fun h => absurd h (by simp)) _⟩
        exact HS.out 3 (by rw [HK.out]; rfl)

theorem rfitsB_no (n : Nat) (s : Int) (hs : ¬ (s = 1 ∨ s = 2 ∨ s = 4 ∨ s = 8)) : rfitsB n s = false := fitsB_0 n s (by omega) (by omega) (by omega) (by omega)

theorem rwide_all (n : Nat) (s : Int) (w : World) : Calls Tryd.prog 53 #[.int .u64 n, .int .i64 s] w fun e w' =>
    ∃ v, e = .returned v ∧ NewBytes w w' v (wideB n s) := by
  by_cases hs : s = 1 ∨ s = 2 ∨ s = 4 ∨ s = 8
  · obtain ⟨t, rfl⟩ : ∃ t : Nat, s = (t : Int) := ⟨s.toNat, by omega⟩
    have ht : isW t := by unfold isW; omega
    by_cases hn : n ≤ gr t
    · have e : wideB n t = be n t := by unfold wideB; rw [if_pos ⟨hs, by simpa using hn⟩]; simp
      have h0 : be n t ≠ [] := by intro h; have := be_len n t; rw [h] at this; simp at this; unfold isW at ht; omega
      refine (rwide_any n t w ht hn).mono fun _ _ ⟨h1, h2, h3⟩ => ⟨_, h1, h3, .inr ⟨by rw [e]; exact h0, by rw [e, be_len], by rw [e]; exact h2⟩⟩
    · have e : wideB n t = [] := by unfold wideB; rw [if_neg (by intro h; exact hn (by simpa using h.2))]
      refine (rwide_none n t w (by rw [rfitsB_iff n t ht]; exact decide_eq_false hn)).mono fun _ _ ⟨h1, h2⟩ => ⟨_, h1, h2 ▸ Chg.refl _ _, .inl ⟨e, rfl⟩⟩
  · have e : wideB n s = [] := by unfold wideB; rw [if_neg (fun h => hs h.1)]
    exact (rwide_none n s w (rfitsB_no n s hs)).mono fun _ _ ⟨h1, h2⟩ => ⟨_, h1, h2 ▸ Chg.refl _ _, .inl ⟨e, rfl⟩⟩

theorem rput_any (n : Nat) (w : World) : Calls Tryd.prog 21 #[.int .u64 n] w fun e w' =>
    ∃ v, e = .returned v ∧ NewBytes w w' v (wideB n (szN n)) := by
  go_enter Tryd.func21, Tryd.ntmps21
  go_wp2_with (first | (go_at_call 54; refine (rsize_any n _).mono ?_; rintro e w' ⟨rfl, rfl⟩) | (go_at_call 53; refine (rwide_all n _ _).mono ?_; rintro e w' ⟨v, rfl, hv⟩))
  go_ret
  exact ⟨v, rfl, hv⟩

end Go.Proofs.YtlcffjmbfpdlbaaDoor

namespace Go.Proofs.YtlcffjmbfpdlbaaDoor
open Go.RowKit

theorem own_ne1 {w : World} {g : Nat} {o : Obj} (h : (w.alloc o).heap.size ≤ g) : ∀ b, (Value.slice (some ⟨w.heap.size, 0, none⟩) 1 1).ownBlock = some b → b ≠ g := by
  intro b e
  have : b = w.heap.size := by have := e; simp [Value.ownBlock] at this; exact this.symm
  simp at h
  omega
theorem own_ne2 {v v' : Value} {n g : Nat} (h : ∀ b, v.ownBlock = some b → b ≠ g) (ho : v'.ownBlock = v.ownBlock ∨ v'.ownBlock = some n) (hg : g < n) : ∀ b, v'.ownBlock = some b → b ≠ g := by
  intro b e
  rcases ho with ho | ho
  · rw [ho] at e; exact h b e
  · rw [ho] at e; injection e with e; omega
theorem rowView {w : World} {g : Nat} {l : List Nat} (h : Row w g 5 (u8s l)) : View w (fun _ => True) (some ⟨g, 0, none⟩) l.length (u8s l) := by
  have := View.row (T := fun _ => True) h (n := l.length) (by simp) trivial
  rwa [List.take_of_length_le (by simp)] at this
theorem tokView {w : World} {g : Nat} {f : Fr} {sd sr : Value} (h : Row w g 27 (cellsF f sd sr)) (ht : f.tok.length = 16) : View w (fun _ => True) (some ⟨g, 8, none⟩) 16 (u8s f.tok) := by
  refine ⟨by simp [ht], fun _ => ⟨g, 8, rfl, h.lt, trivial, fun j hj => ?_⟩⟩
  rw [h.cell (8 + j), Nat.add_comm]
  rfl
theorem encI_ne (n : Nat) (h : n < 4611686018427387904) : encI n ≠ [] := by
  intro e
  have := rdInt_enc n h []
  rw [e] at this
  cases this
theorem rput_new (n : Nat) (h : n < 4611686018427387904) (w : World) : Calls Tryd.prog 21 #[.int .u64 (n : Int)] w fun e w' => ∃ g, e = .returned (.slice (some ⟨g, 0, none⟩) (encI n).length (encI n).length) ∧ Row w' g 5 (u8s (encI n)) ∧ w.heap.size ≤ g ∧ Chg none_ w w' :=
  (rput_any n w).mono fun e w' ⟨v, he, hc, hv⟩ => by
    rcases hv with ⟨h0, _⟩ | ⟨_, rfl, hr⟩
    · exact absurd h0 (encI_ne n h)
    · exact ⟨_, he, hr, Nat.le_refl _, hc⟩
theorem right_small {f : Fr} (of : f.Ok) (hr : rightB f = true) : f.id < 4611686018427387904 ∧ f.a < 4611686018427387904 ∧ f.code < 4611686018427387904 := by
  cases h : whatM f.kind with
  | none => rw [right_none of h] at hr; cases hr
  | some l =>
    rw [right_doc h] at hr
    simp only [Bool.and_eq_true, boundB, decide_eq_true_eq] at hr
    omega
end Go.Proofs.YtlcffjmbfpdlbaaDoor

namespace Go.Proofs.YtlcffjmbfpdlbaaDoor
open Go.RowKit

section
variable {P : Program} {o : Oper} {a : Act} {w : World} {K : Act → World → Prop} {Q : Exit → Act → World → Prop}
/-- make of bytes, at a bare operation. -/
theorem wp_make_bytes (l c : Operand) (t : TypeId) (hop : o.op = Op.makeSlice t l c)
    (e : TypeId) (ht : P.underlying t = some (.slice e)) (hinfo : (P.info? e).map (fun i => (i.zero, i.size, i.bytes)) = some (some (.int .u8 0), 1, 1))
    (n : Nat) (hl : a.eval l = .int .i64 (n : Int)) (hc : a.eval c = .int .i64 (n : Int)) (hn : n ≤ 1000000)
    (k : ∀ w', Row w' w.heap.size e (u8s (List.replicate n 0)) → Chg none_ w w' → K (a.put o.dst (.slice (some ⟨w.heap.size, 0, none⟩) n n)) w') :
    Oper.wp P o a w K Q := by
  have hrun := run_make_row' (P := P) t e (.int .u8 0) 1 ht hinfo rfl .i64 .i64 n (by omega) (by omega) w
  unfold Oper.wp
  simp [execOp, hop, hl, hc, hrun, Result.andThen]
  refine k _ ?_ ((Chg.refl _ _).alloc _)
  have := Row.new w e (u8s (List.replicate n 0))
  have e2 : (u8s (List.replicate n 0)).toArray = madeCells #[.int .u8 0] n := by
    apply Array.toList_inj.1
    rw [toList_madeCells_one]
    simp [u8s]
  rw [e2] at this
  exact this
end
end Go.Proofs.YtlcffjmbfpdlbaaDoor

namespace Go.Proofs.YtlcffjmbfpdlbaaDoor
open Go.RowKit

/-- What is put of the first k ranges. -/
def ackK : List (Nat × Nat) → Nat → List Nat
  | [], _ => []
  | _ :: _, 0 => []
  | x :: xs, k + 1 => encI (x.2 - x.1) ++ ackRest x.1 (xs.take k)
theorem ackK_zero : ∀ l, ackK l 0 = []
  | [] => rfl
  | _ :: _ => rfl
theorem ackK_one {l : List (Nat × Nat)} (h : 0 < l.length) : ackK l 1 = ackK l 0 ++ encI ((l.getD 0 (0, 0)).2 - (l.getD 0 (0, 0)).1) := by
  obtain _ | ⟨x, xs⟩ := l
  · simp at h
  · simp [ackK, ackRest]
theorem ackK_more {l : List (Nat × Nat)} {k : Nat} (h0 : 0 < k) (h : k < l.length) : ackK l (k + 1) = ackK l k ++ encI ((l.getD (k - 1) (0, 0)).1 - (l.getD k (0, 0)).2 - 2) ++ encI ((l.getD k (0, 0)).2 - (l.getD k (0, 0)).1) := by
  obtain _ | ⟨x, xs⟩ := l
  · simp at h
  · obtain ⟨j, rfl⟩ : ∃ j, k = j + 1 := ⟨k - 1, by omega⟩
    have hj : j < xs.length := by simpa using h
    have ht : xs.take (j + 1) = xs.take j ++ [xs.getD j (0, 0)] := by
      rw [List.take_succ_eq_append_getElem hj]
      simp [List.getD_eq_getElem?_getD, hj]
    show encI _ ++ ackRest x.1 (xs.take (j + 1)) = _
    rw [ht, ackRest_snoc, lastLo_take x xs j (by omega), List.getD_cons_succ, Nat.add_sub_cancel]
    simp [ackK]
theorem ackK_len (l : List (Nat × Nat)) : ∀ k, k ≤ l.length → (ackK l k).length ≤ 16 * l.length := by
  intro k hk
  obtain _ | ⟨x, xs⟩ := l
  · simp [ackK]
  · cases k with
    | zero => simp [ackK]
    | succ k =>
      have h1 := encI_len (x.2 - x.1)
      have h2 := ackRest_len (xs.take k) x.1
      have h3 : (xs.take k).length ≤ xs.length := by simp [List.length_take]; omega
      simp only [ackK, List.length_append, List.length_cons]
      omega
theorem ackK_all {l : List (Nat × Nat)} (h : 0 < l.length) (b : Nat) : encI (l.getD 0 (0, 0)).2 ++ encI b ++ encI (l.length - 1) ++ ackK l l.length = ackBytes l b := by
  obtain _ | ⟨x, xs⟩ := l
  · simp at h
  · simp [ackK, ackBytes]
theorem put_2 {f : Fr} (hr : rightB f = true) (hk : f.kind = 2) (hf : f.flag = false) (hl : 0 < f.ranges.length) : putM f = [2] ++ encI (f.ranges.getD 0 (0, 0)).2 ++ encI f.b ++ encI (f.ranges.length - 1) ++ ackK f.ranges f.ranges.length := by
  have he := ackK_all hl f.b
  obtain ⟨k, id, a, b, c, fl, dt, rg, tk⟩ := f
  simp only at hk hf he
  subst hk hf
  have ht : typM ⟨2, id, a, b, c, false, dt, rg, tk⟩ = 2 := by simp [typM]
  unfold putM
  rw [if_pos hr, ht, encI_one _ (by decide)]
  have hp : partsOf ⟨2, id, a, b, c, false, dt, rg, tk⟩ = [.acked] := by unfold partsOf; rw [ht]; rfl
  rw [hp]
  simp [putAll, putP, ← he]
end Go.Proofs.YtlcffjmbfpdlbaaDoor
