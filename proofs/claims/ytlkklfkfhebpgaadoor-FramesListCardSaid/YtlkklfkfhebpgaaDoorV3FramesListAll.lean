/- The law FramesList: for every input the call returns true, and each argument reads behind the call as it did.
   The row of FramesList, out of its walk, and its tied card (the listed variables start as the program's text lays them). -/
import Derived.OpenShut
import Derived.ChangeOld
import Derived.Below
import Derived.SevenTiedAt
import Derived.Test.YtlkklfkfhebpgaaDoorV3TwoM
import Derived.Test.YtlkklfkfhebpgaaDoorV3PutM
import Derived.Test.YtlkklfkfhebpgaaDoorV3Same
import Derived.Test.YtlkklfkfhebpgaaDoorSame
import Derived.Test.YtlkklfkfhebpgaaDoorV3Frs
import Derived.Test.YtlkklfkfhebpgaaDoorV3Open
import Derived.Test.YtlkklfkfhebpgaaDoorV3Alive
import Derived.Test.YtlkklfkfhebpgaaDoorV3Laid
import Derived.Test.YtlkklfkfhebpgaaDoorCards
import Derived.Test.YtlkklfkfhebpgaaDoorTie

namespace Go.Proofs.YtlkklfkfhebpgaaDoor
open Go.RowKit

theorem putM_few {f : Fr} (of : f.Ok) (ht : f.tok.length = 16) (hr : rightB f = true) : (putM f).length ≤ 200000 := by
  have h1 := flat_len f (partsOf f) (parts_small of ht hr)
  have h2 := encI_len (typM f)
  have h3 : (partsOf f).length ≤ 100 := by
    unfold partsOf
    cases hd : kdM (keyM f.kind) with
    | none => exact Nat.zero_le _
    | some d => exact Nat.le_trans (parts_len d (kdM_good hd) (typM f)) (by decide)
  unfold putM
  rw [if_pos hr, List.length_append]
  omega
theorem next_zero (r : List Nat) : (nextM (0 :: r, 0)).1.kind = 0 := by
  have h1 : rdInt (0 :: r, 0) = (0, (r, 0)) := by
    unfold rdInt
    simp [needs, foldB]
  unfold nextM
  rw [h1]
  dsimp only
  split
  · rfl
  · split
    · rw [(readAll_kind _ _).1]
      rfl
    · rfl
theorem head_ne {g : Fr} (og : g.Ok) (tg : g.tok.length = 16) (lg : g.data.length ≤ 1000000) (rg : rightB g = true) (hk : g.kind ≠ 0) : (putM g).head? ≠ some 0 := by
  intro h
  have h2 := next_right og tg lg rg [] (fun _ => Or.inr (by simp))
  rw [List.append_nil] at h2
  rcases hp : putM g with _ | ⟨x, r⟩
  · rw [hp] at h; cases h
  · rw [hp] at h h2
    simp only [List.head?_cons, Option.some.injEq] at h
    subst h
    have h3 := next_zero r
    rw [h2] at h3
    exact hk h3
theorem two_back {f g : Fr} (of : f.Ok) (og : g.Ok) (tf : f.tok.length = 16) (tg : g.tok.length = 16) (lf : f.data.length ≤ 1000000) (lg : g.data.length ≤ 1000000) (rf : rightB f = true) (rg : rightB g = true) (hk : ¬ (f.kind = 0 ∧ g.kind = 0)) : parseM (putM f ++ putM g) = ([f, g], 0) := by
  have h : loopP [] (putM f ++ putM g, 0) = ([f, g], ([], 0)) := by
    rw [loop_more of tf lf rf [] (putM g) (fun h0 => Or.inr (head_ne og tg lg rg (fun h1 => hk ⟨h0, h1⟩))), loop_one og tg lg rg]
    rfl
  rw [parseM_eq _ _ _ h]
  rfl
end Go.Proofs.YtlkklfkfhebpgaaDoor

namespace Go.Proofs.YtlkklfkfhebpgaaDoor
open Go.RowKit

set_option maxRecDepth 100000 in
set_option maxHeartbeats 4000000 in
theorem rsameF_any (f g : Fr) (sd sr sd' sr' : Value) (w : World) (T T' : Nat → Prop) (hf : FrD w T f sd sr) (hg : FrD w T' g sd' sr') :
    Calls Tryd.prog 14 #[aggF f sd sr, aggF g sd' sr'] w fun e w' => e = .returned (.bool (decide (f = g))) ∧ Chg none_ w w' := by
  unfold aggF
  obtain ⟨ht, ⟨A, c, rfl, hdl, hvd⟩, ⟨B, d, rfl, hrl, hvr⟩⟩ := hf
  obtain ⟨ht', ⟨A', c', rfl, hdl', hvd'⟩, ⟨B', d', rfl, hrl', hvr'⟩⟩ := hg
  have a0 := cF_0 f (.slice A f.data.length c) (.slice B f.ranges.length d)
  have a1 := cF_1 f (.slice A f.data.length c) (.slice B f.ranges.length d)
  have a2 := cF_2 f (.slice A f.data.length c) (.slice B f.ranges.length d)
  have a3 := cF_3 f (.slice A f.data.length c) (.slice B f.ranges.length d)
  have a4 := cF_4 f (.slice A f.data.length c) (.slice B f.ranges.length d)
  have a5 := cF_5 f (.slice A f.data.length c) (.slice B f.ranges.length d)
  have a6 := cF_6 f (.slice A f.data.length c) (.slice B f.ranges.length d)
  have a7 := cF_7 f (.slice A f.data.length c) (.slice B f.ranges.length d)
  have b0 := cF_0 g (.slice A' g.data.length c') (.slice B' g.ranges.length d')
  have b1 := cF_1 g (.slice A' g.data.length c') (.slice B' g.ranges.length d')
  have b2 := cF_2 g (.slice A' g.data.length c') (.slice B' g.ranges.length d')
  have b3 := cF_3 g (.slice A' g.data.length c') (.slice B' g.ranges.length d')
  have b4 := cF_4 g (.slice A' g.data.length c') (.slice B' g.ranges.length d')
  have b5 := cF_5 g (.slice A' g.data.length c') (.slice B' g.ranges.length d')
  have b6 := cF_6 g (.slice A' g.data.length c') (.slice B' g.ranges.length d')
  have b7 := cF_7 g (.slice A' g.data.length c') (.slice B' g.ranges.length d')
  have hR1 : ∀ (w' : World) (_ : w'.heap = ((w.alloc (.cells (cellsF f (.slice A f.data.length c) (.slice B f.ranges.length d)).toArray 27)).alloc (.cells (cellsF g (.slice A' g.data.length c') (.slice B' g.ranges.length d')).toArray 27)).heap), w'.rangeAt w.heap.size 8 (u8s f.tok) := fun w' hw => by
    have := tok_range ((Row.new w 27 (cellsF f (.slice A f.data.length c) (.slice B f.ranges.length d))).alloc (.cells (cellsF g (.slice A' g.data.length c') (.slice B' g.ranges.length d')).toArray 27))
    intro j v hv
    have := this j v hv
    simpa [World.cell?, hw] using this
  have hR2 : ∀ (w' : World) (_ : w'.heap = ((w.alloc (.cells (cellsF f (.slice A f.data.length c) (.slice B f.ranges.length d)).toArray 27)).alloc (.cells (cellsF g (.slice A' g.data.length c') (.slice B' g.ranges.length d')).toArray 27)).heap), w'.rangeAt (w.heap.size + 1) 8 (u8s g.tok) := fun w' hw => by
    have := tok_range (Row.new (w.alloc (.cells (cellsF f (.slice A f.data.length c) (.slice B f.ranges.length d)).toArray 27)) 27 (cellsF g (.slice A' g.data.length c') (.slice B' g.ranges.length d')))
    intro j v hv
    have := this j v hv
    simpa [World.cell?, hw] using this
  generalize cellsF f (.slice A f.data.length c) (.slice B f.ranges.length d) = cs at *
  generalize cellsF g (.slice A' g.data.length c') (.slice B' g.ranges.length d') = cs' at *
  have hC : Chg none_ w ((w.alloc (.cells cs.toArray 27)).alloc (.cells cs'.toArray 27)) := ((Chg.refl none_ w).alloc _).alloc _
  have HC := Lib.hid hC
  have HB := Lib.hid (same_any _ T T' A A' c c' f.data g.data (hvd.chg hC (fun _ _ h => h)) (hvd'.chg hC (fun _ _ h => h)) hdl)
  have HVR := Lib.hid (hvr.chg hC (fun _ _ h => h))
  have HVR' := Lib.hid (hvr'.chg hC (fun _ _ h => h))
  have hrm := hrl.1
  have HR1 := Lib.hid hR1
  have HR2 := Lib.hid hR2
  have HT := Lib.hid ht
  have HT' := Lib.hid ht'
  have hte := tok_eql f.tok g.tok ht ht'
  have HEQ := Lib.hid (f.eq_iff g)
  clear hC hvd hvd' hvr hvr' hR1 hR2 ht ht' hdl hdl' hrl hrl'
  go_enter Tryd.func14, Tryd.ntmps14
  go_wp2_with (first | ((with_reducible show wpList _ _ _ (⟨_, .load 25 _, _, _, _, _⟩ :: _) _ _); first | refine wl25 rfl rfl rfl (HR1.out _ rfl) HT.out ?_ | refine wl25 rfl rfl rfl (HR2.out _ rfl) HT'.out ?_) | (go_at_call 10; refine HB.out.mono ?_; rintro e w' ⟨rfl, nk, rfl⟩))
  all_goals try
    go_ret
    refine ⟨ret_bool ?_, by first | exact HC.out | exact HC.out.drewN _⟩
    have heq := HEQ.out
    clear HC HB HVR HVR' HR1 HR2 HT HT' HEQ a0 a1 a2 a3 a4 a5 a6 a7 b0 b1 b2 b3 b4 b5 b6 b7
    clear hte
    symm
    rw [decide_eq_false_iff_not]
    intro hfg
    obtain ⟨x1, x2, x3, x4, x5, x6, x7, x8, x9⟩ := heq.1 hfg
    have x8' := congrArg List.length x8
    first | (exfalso; omega) | (clear x8'; simp_all; done)
  rename_i e0 e1 e2 e3 e4 e5 e8 e7 e6 K0 KA0
  have HRE : Hid (decide (f = g) = decide (f.ranges = g.ranges)) := Lib.hid (decide_eq_decide.2 (by
    rw [HEQ.out]
    simp only [Bool.not_eq_false', decide_eq_true_eq] at e6
    refine ⟨fun h => h.2.2.2.2.2.2.2.1, fun h => ⟨e0, by omega, by omega, by omega, by omega, e5, e6, h, e8⟩⟩))
  obtain ⟨W, hW⟩ : ∃ W : World, W = (w.alloc (.cells cs.toArray 27)).alloc (.cells cs'.toArray 27) := ⟨_, rfl⟩
  have r7 : W.cell? ⟨w.heap.size, 7, none⟩ = some (.slice B f.ranges.length d) := by rw [hW]; exact ((Row.new1 w _ 27 cs).cell 7).trans a7
  have s7 : W.cell? ⟨w.heap.size + 1, 7, none⟩ = some (.slice B' g.ranges.length d') := by rw [hW]; exact ((Row.new2 w _ 27 cs').cell 7).trans b7
  rw [← hW] at HVR HVR' HC ⊢
  have hlen : f.ranges.length = g.ranges.length := by omega
  have HLE := Lib.hid hlen
  clear hW HB HR1 HR2 HT HT' HEQ hlen
  clear a0 a1 a2 a3 a4 a5 a6 a7 b0 b1 b2 b3 b4 b5 b6 b7 hte e0 e1 e2 e3 e4 e5 e6 e7 e8
  generalize w.heap.size + 1 = gs1 at *
  generalize w.heap.size = gs0 at *
  generalize hfr : f.ranges = l at *
  generalize hgr : g.ranges = l' at *
  clear hfr hgr
  go_loopw [5] (fun i wr => ∃ k m : Nat, k ≤ l.length ∧ i = .int .i64 (k : Int) ∧ wr = W.drewN m ∧ Hid (∀ j, j < k → l.getD j (0, 0) = l'.getD j (0, 0))) (fun i _ => l.length - (intOf i).toNat)
  case atStart => exact ⟨0, nk, Nat.zero_le _, rfl, rfl, Lib.hid (fun j hj => absurd hj (by omega))⟩
  case round =>
    obtain ⟨k, m, hk, rfl, rfl, hpre⟩ := hrel
    by_cases hlt : k < l.length
    · have hlt' : k < l'.length := by have := HLE.out; omega
      obtain ⟨b, o, rfl, hb, _, hc⟩ := HVR.out.ranges (by omega)
      obtain ⟨b', o', rfl, hb', _, hc'⟩ := HVR'.out.ranges (by omega)
      obtain ⟨c1, c2⟩ := hc k hlt
      obtain ⟨c3, c4⟩ := hc' k hlt'
      clear hc hc' hb hb'
      have hk0 : (0 : Int) ≤ (k : Int) := by omega
      have hk1 : (k : Int) < (l.length : Int) := by omega
      have hk2 : (k : Int) < (l'.length : Int) := by omega
      generalize hx : l.getD k (0, 0) = x at c1 c2
      generalize hy : l'.getD k (0, 0) = y at c3 c4
      have HX := Lib.hid hx
      have HY := Lib.hid hy
      clear hx hy
      obtain ⟨x1, x2⟩ := x
      obtain ⟨y1, y2⟩ := y
      simp only at c1 c2 c3 c4
      by_cases hxy : x1 = y1 ∧ x2 = y2
      · obtain ⟨rfl, rfl⟩ := hxy
        go_wp2
        go_quiet (fail)
        go_wp2
        go_roundw
        case rel =>
          refine ⟨k + 1, m + nq, by omega, by go_num, by first | rfl | rw [World.drewN_drewN], Lib.hid ?_⟩
          intro j hj
          rcases Nat.lt_or_ge j k with hjk | hjk
          · exact hpre.out j hjk
          · have : j = k := by omega
            subst this
            rw [HX.out, HY.out]
        case measure => simp [intOf]; omega
      · have HXY := Lib.hid hxy
        have hne : l ≠ l' := fun e => HXY.out (by
          have h1 := HX.out
          rw [e, HY.out] at h1
          simpa [eq_comm] using h1)
        have HNE := Lib.hid hne
        clear hne
        by_cases h1 : x1 = y1
        · subst h1
          have h2 : ((x2 : Int) == (y2 : Int)) = false := by simp; omega
          clear hxy
          go_wp2
          go_quiet (fail)
          go_wp2
          go_ret
          refine ⟨ret_bool ?_, (HC.out.drewN _).drewN _⟩
          rw [HRE.out, decide_eq_false HNE.out]
        · have h2 : ((x1 : Int) == (y1 : Int)) = false := by simp; omega
          clear hxy h1
          go_wp2
          go_quiet (fail)
          go_wp2
          go_ret
          refine ⟨ret_bool ?_, (HC.out.drewN _).drewN _⟩
          rw [HRE.out, decide_eq_false HNE.out]
    · have hkl : k = l.length := by omega
      have HK := Lib.hid hkl
      clear hkl
      have hn : ¬ (k : Int) < (l.length : Int) := by omega
      go_wp2
      go_ret
      refine ⟨ret_bool ?_, HC.out.drewN _⟩
      rw [HRE.out]
      symm
      rw [decide_eq_true_eq]
      apply List.ext_getElem HLE.out
      intro j h1 h2
      have := hpre.out j (by rw [HK.out]; exact h1)
      simpa [List.getD_eq_getElem?_getD, h1, h2] using this
end Go.Proofs.YtlkklfkfhebpgaaDoor

namespace Go.Proofs.YtlkklfkfhebpgaaDoor
open Go.RowKit

def fv0 : FrV := ({}, .slice none 0 0, .slice none 0 0)
theorem fcellsL_len : ∀ (L : List FrV), (∀ x ∈ L, x.1.tok.length = 16) → (fcellsL L).length = L.length * 24
  | [], _ => rfl
  | x :: L, h => by
    have := fcellsL_len L (fun y hy => h y (by simp [hy]))
    rw [fcellsL, List.length_append, cF_len _ _ _ (h x (by simp)), this, List.length_cons]
    omega
theorem fcellsL_get : ∀ (L : List FrV) (i j : Nat), (∀ x ∈ L, x.1.tok.length = 16) → i < L.length → j < 24 → (fcellsL L)[i * 24 + j]? = (cellsF (L.getD i fv0).1 (L.getD i fv0).2.1 (L.getD i fv0).2.2)[j]?
  | [], i, j, _, h, _ => absurd h (by simp)
  | x :: L, 0, j, ht, _, hj => by
    rw [fcellsL, Nat.zero_mul, Nat.zero_add, List.getElem?_append_left (by rw [cF_len _ _ _ (ht x (by simp))]; exact hj)]
    rfl
  | x :: L, i + 1, j, ht, h, hj => by
    have := fcellsL_get L i j (fun y hy => ht y (by simp [hy])) (by simpa using h) hj
    rw [fcellsL, List.getElem?_append_right (by rw [cF_len _ _ _ (ht x (by simp))]; omega), cF_len _ _ _ (ht x (by simp)), show (i + 1) * 24 + j - 24 = i * 24 + j by omega, this]
    rfl
theorem View.fAt {w : World} {T : Nat → Prop} {A : Option Addr} {L : List FrV} {k : Nat} (h : View w T A (L.length * 24) (fcellsL L)) (ht : ∀ x ∈ L, x.1.tok.length = 16) (hk : k < L.length) :
    ∃ b o, A = some ⟨b, o, none⟩ ∧ b < w.heap.size ∧ T b ∧ w.rangeAt b (o + k * 24) (cellsF (L.getD k fv0).1 (L.getD k fv0).2.1 (L.getD k fv0).2.2) := by
  obtain ⟨b, o, h1, h2, h3, h4⟩ := h.2 (by omega)
  have hm : L.getD k fv0 ∈ L := by rw [List.getD_eq_getElem?_getD, List.getElem?_eq_getElem hk]; exact List.getElem_mem hk
  refine ⟨b, o, h1, h2, h3, fun j v hv => ?_⟩
  have hj : j < 24 := by
    have := (List.getElem?_eq_some_iff.1 hv).1
    rwa [cF_len _ _ _ (ht _ hm)] at this
  rw [Nat.add_assoc, h4 _ (by omega), fcellsL_get L k j ht hk hj]
  exact hv
theorem rangeAt_chg {w w' : World} {S : Nat → Prop} {b o : Nat} {cs : List Value} (h : w.rangeAt b o cs) (hc : Chg S w w') (hb : b < w.heap.size) (hs : ¬ S b) : w'.rangeAt b o cs := fun j v hv => (hc.cell _ hb hs).trans (h j v hv)

/-- Frames that lie in view, and what they have. -/
structure FrsV (w : World) (A : Option Addr) (L : List FrV) : Prop where
  view : View w (fun _ => True) A (L.length * 24) (fcellsL L)
  each : ∀ x ∈ L, FrD w (fun _ => True) x.1 x.2.1 x.2.2
theorem FrsV.chg {w w' : World} {A : Option Addr} {L : List FrV} (h : FrsV w A L) (hc : Chg none_ w w') : FrsV w' A L := ⟨h.view.chg hc (fun _ _ h => h), fun x hx => (h.each x hx).chg hc (fun _ _ h => h)⟩
theorem FrsV.tok {w : World} {A : Option Addr} {L : List FrV} (h : FrsV w A L) : ∀ x ∈ L, x.1.tok.length = 16 := fun x hx => (h.each x hx).tok

set_option maxRecDepth 100000 in
set_option maxHeartbeats 4000000 in
theorem rlist3_any (w : World) (A A' : Option Addr) (c c' : Nat) (L L' : List FrV) (h : FrsV w A L) (h' : FrsV w A' L') (hl : L.length ≤ 1000000) :
    Calls Tryd.prog 17 #[.slice A L.length c, .slice A' L'.length c'] w fun e w' => e = .returned (.bool (decide (L.map (·.1) = L'.map (·.1)))) ∧ Chg none_ w w' := by
  have HF := Lib.hid h
  have HF' := Lib.hid h'
  clear h h'
  by_cases hlen : L.length = L'.length
  · have hne : (((L.length : Nat) : Int) != (L'.length : Int)) = false := by rw [bne_eq_false_iff_eq]; omega
    have HLE := Lib.hid hlen
    clear hlen
    go_enter Tryd.func17, Tryd.ntmps17
    go_wp2
    go_loopw [5] (fun i wr => ∃ k : Nat, k ≤ L.length ∧ i = .int .i64 (k : Int) ∧ Hid (Chg none_ w wr) ∧ Hid (∀ j, j < k → (L.getD j fv0).1 = (L'.getD j fv0).1)) (fun i _ => L.length - (intOf i).toNat)
    case atStart => exact ⟨0, Nat.zero_le _, rfl, Lib.hid (Chg.refl _ _), Lib.hid (fun j hj => absurd hj (by omega))⟩
    case round =>
      obtain ⟨k, hk, rfl, HC, hpre⟩ := hrel
      by_cases hlt : k < L.length
      · have hlt' : k < L'.length := by have := HLE.out; omega
        have hk1 : (k : Int) < (L.length : Int) := by omega
        have hk2 : (k : Int) < (L'.length : Int) := by omega
        have hk0 : (0 : Int) ≤ (k : Int) := by omega
        have hF := HF.out.chg HC.out
        have hF' := HF'.out.chg HC.out
        obtain ⟨b, o, rfl, hb, _, hra⟩ := hF.view.fAt hF.tok hlt
        obtain ⟨b', o', rfl, hb', _, hra'⟩ := hF'.view.fAt hF'.tok hlt'
        have hmx : L.getD k fv0 ∈ L := by rw [List.getD_eq_getElem?_getD, List.getElem?_eq_getElem hlt]; exact List.getElem_mem hlt
        have hmy : L'.getD k fv0 ∈ L' := by rw [List.getD_eq_getElem?_getD, List.getElem?_eq_getElem hlt']; exact List.getElem_mem hlt'
        have dx := hF.each _ hmx
        have dy := hF'.each _ hmy
        generalize hx : L.getD k fv0 = x at *
        generalize hy : L'.getD k fv0 = y at *
        have HXA := Lib.hid (fun x_ (hx_ : Chg none_ wr x_) => rangeAt_chg hra hx_ hb (fun h => h))
        have HYA := Lib.hid (fun x_ (hx_ : Chg none_ wr x_) => rangeAt_chg hra' hx_ hb' (fun h => h))
        have HXAL := Lib.hid dx.tok
        have HYAL := Lib.hid dy.tok
        have HSM : Hid (∀ x_, Chg none_ wr x_ → Calls Tryd.prog 14 #[.agg (cellsF x.1 x.2.1 x.2.2).toArray, .agg (cellsF y.1 y.2.1 y.2.2).toArray] x_ fun e w'' => e = .returned (.bool (decide (x.1 = y.1))) ∧ Chg none_ x_ w'') := Lib.hid (fun x_ hx_ => rsameF_any x.1 y.1 x.2.1 x.2.2 y.2.1 y.2.2 x_ _ _ (dx.chg hx_ (fun _ _ h => h)) (dy.chg hx_ (fun _ _ h => h)))
        have HX := Lib.hid hx
        have HY := Lib.hid hy
        clear hra hra' hb hb' hmx hmy dx dy hx hy hF hF'
        by_cases hs : x.1 = y.1
        · have hd : decide (x.1 = y.1) = true := by simpa using hs
          rw [hd] at HSM
          have HS := Lib.hid hs
          clear hs hd
          go_wp2
          refine wp_region_held_drew (S := fun x => Chg none_ wr x) (by kernel_rfl) ((Chg.refl none_ wr).drew) (fun hch0 => ?_)
          have hz : Chg none_ wr wr.drew := (Chg.refl none_ wr).drew
          generalize wr.drew = wz at hz ⊢
          clear hch0
          refine wpAnyH_take (i := 0) (v := .slice (some ⟨b, o, none⟩) L.length c) rfl (by kernel_rfl) (by kernel_rfl) (by kernel_rfl) (by first | exact fun _ _ _ h => h | exact fun _ _ _ h => nomatch h.1) (Or.inl ⟨by rfl, fun w_ hw_ => by go_simp⟩) hz ?_
          try simp only [Act.put, List.setIfInBounds_toArray, List.set_cons_zero, List.set_cons_succ, List.getElem_toArray, List.getElem_cons_zero]
          refine wpAnyH_take (i := 1) (v := .int .i64 (k : Int)) rfl (by kernel_rfl) (by kernel_rfl) (by kernel_rfl) (by first | exact fun _ _ _ h => h | exact fun _ _ _ h => nomatch h.1) (Or.inl ⟨by rfl, fun w_ hw_ => by go_simp⟩) hz ?_
          try simp only [Act.put, List.setIfInBounds_toArray, List.set_cons_zero, List.set_cons_succ, List.getElem_toArray, List.getElem_cons_succ, List.getElem_cons_zero]
          refine wpAnyH_take (i := 2) (v := .pointer (some ⟨b, o + k * 24, none⟩)) rfl (by kernel_rfl) (by kernel_rfl) (by kernel_rfl) (by first | exact fun _ _ _ h => h | exact fun _ _ _ h => nomatch h.1) (Or.inl ⟨by rfl, fun w_ hw_ => by go_simp⟩) hz ?_
          try simp only [Act.put, List.setIfInBounds_toArray, List.set_cons_zero, List.set_cons_succ, List.getElem_toArray, List.getElem_cons_succ, List.getElem_cons_zero]
          refine wpAnyH_take (i := 3) (v := .agg (cellsF x.1 x.2.1 x.2.2).toArray) rfl (by kernel_rfl) (by kernel_rfl) (by kernel_rfl) (by first | exact fun _ _ _ h => h | exact fun _ _ _ h => nomatch h.1) (yieldsIf_load_mid (by rfl) 27 _ rfl b (o + k * 24) rfl (cellsF x.1 x.2.1 x.2.2) _ (fun x_ hx_ => HXA.out x_ hx_) Tryd.underlying27 rfl (by rw [cF_len _ _ _ HXAL.out]; exact size27)) hz ?_
          try simp only [Act.put, List.setIfInBounds_toArray, List.set_cons_zero, List.set_cons_succ, List.getElem_toArray, List.getElem_cons_succ, List.getElem_cons_zero]
          refine wpAnyH_take (i := 4) (v := .slice (some ⟨b', o', none⟩) L'.length c') rfl (by kernel_rfl) (by kernel_rfl) (by kernel_rfl) (by first | exact fun _ _ _ h => h | exact fun _ _ _ h => nomatch h.1) (Or.inl ⟨by rfl, fun w_ hw_ => by go_simp⟩) hz ?_
          try simp only [Act.put, List.setIfInBounds_toArray, List.set_cons_zero, List.set_cons_succ, List.getElem_toArray, List.getElem_cons_succ, List.getElem_cons_zero]
          refine wpAnyH_take (i := 5) (v := .int .i64 (k : Int)) rfl (by kernel_rfl) (by kernel_rfl) (by kernel_rfl) (by first | exact fun _ _ _ h => h | exact fun _ _ _ h => nomatch h.1) (Or.inl ⟨by rfl, fun w_ hw_ => by go_simp⟩) hz ?_
          try simp only [Act.put, List.setIfInBounds_toArray, List.set_cons_zero, List.set_cons_succ, List.getElem_toArray, List.getElem_cons_succ, List.getElem_cons_zero]
          refine wpAnyH_take (i := 6) (v := .pointer (some ⟨b', o' + k * 24, none⟩)) rfl (by kernel_rfl) (by kernel_rfl) (by kernel_rfl) (by first | exact fun _ _ _ h => h | exact fun _ _ _ h => nomatch h.1) (Or.inl ⟨by rfl, fun w_ hw_ => by go_simp⟩) hz ?_
          try simp only [Act.put, List.setIfInBounds_toArray, List.set_cons_zero, List.set_cons_succ, List.getElem_toArray, List.getElem_cons_succ, List.getElem_cons_zero]
          refine wpAnyH_take (i := 7) (v := .agg (cellsF y.1 y.2.1 y.2.2).toArray) rfl (by kernel_rfl) (by kernel_rfl) (by kernel_rfl) (by first | exact fun _ _ _ h => h | exact fun _ _ _ h => nomatch h.1) (yieldsIf_load_mid (by rfl) 27 _ rfl b' (o' + k * 24) rfl (cellsF y.1 y.2.1 y.2.2) _ (fun x_ hx_ => HYA.out x_ hx_) Tryd.underlying27 rfl (by rw [cF_len _ _ _ HYAL.out]; exact size27)) hz ?_
          try simp only [Act.put, List.setIfInBounds_toArray, List.set_cons_zero, List.set_cons_succ, List.getElem_toArray, List.getElem_cons_succ, List.getElem_cons_zero]
          refine wpAnyH_ready (rs := [8]) (by kernel_rfl) (by simp) ?_
          refine AllReadyH.cons rfl (fun K hK => ?_) AllReadyH.nil
          rw [if_pos (by rfl)]
          try simp only [List.getElem_toArray, List.getElem_cons_succ, List.getElem_cons_zero]
          go_simp
          refine (HSM.out _ hz).mono ?_
          rintro e y1 ⟨rfl, hcx⟩
          have hz := hz.trans hcx
          clear hcx
          refine hK.out _ _ hz (fun _ => ?_)
          clear hK K
          try simp only [Act.put, List.setIfInBounds_toArray, List.set_cons_zero, List.set_cons_succ, List.getElem_toArray, List.getElem_cons_succ, List.getElem_cons_zero]
          refine wpAnyH_take (i := 9) (v := .bool false) rfl (by kernel_rfl) (by kernel_rfl) (by kernel_rfl) (by first | exact fun _ _ _ h => h | exact fun _ _ _ h => nomatch h.1) (Or.inl ⟨by rfl, fun w_ hw_ => by go_simp⟩) hz ?_
          try simp only [Act.put, List.setIfInBounds_toArray, List.set_cons_zero, List.set_cons_succ, List.getElem_toArray, List.getElem_cons_succ, List.getElem_cons_zero]
          refine wpAnyH_done (by kernel_rfl) ?_ _
          go_wp2
          go_roundw
          case rel =>
            refine ⟨k + 1, by omega, by go_num, Lib.hid (HC.out.trans hz), Lib.hid (fun j hj => ?_)⟩
            rcases Nat.lt_or_ge j k with hjk | hjk
            · exact hpre.out j hjk
            · have : j = k := by omega
              subst this
              rw [HX.out, HY.out]; exact HS.out
          case measure => simp [intOf]; omega
        · have hd : decide (x.1 = y.1) = false := by simpa using hs
          rw [hd] at HSM
          have HNE : Hid (L.map (·.1) ≠ L'.map (·.1)) := Lib.hid (fun e => hs (by
            have h1 := congrArg (fun (m : List Fr) => m.getD k ({} : Fr)) e
            simp only [List.getD_eq_getElem?_getD, List.getElem?_map, List.getElem?_eq_getElem hlt, List.getElem?_eq_getElem hlt', Option.map_some, Option.getD_some] at h1
            have h2 := HX.out
            have h3 := HY.out
            rw [List.getD_eq_getElem?_getD, List.getElem?_eq_getElem hlt, Option.getD_some] at h2
            rw [List.getD_eq_getElem?_getD, List.getElem?_eq_getElem hlt', Option.getD_some] at h3
            rw [← h2, ← h3]; exact h1))
          clear hs hd
          go_wp2
          refine wp_region_held_drew (S := fun x => Chg none_ wr x) (by kernel_rfl) ((Chg.refl none_ wr).drew) (fun hch0 => ?_)
          have hz : Chg none_ wr wr.drew := (Chg.refl none_ wr).drew
          generalize wr.drew = wz at hz ⊢
          clear hch0
          refine wpAnyH_take (i := 0) (v := .slice (some ⟨b, o, none⟩) L.length c) rfl (by kernel_rfl) (by kernel_rfl) (by kernel_rfl) (by first | exact fun _ _ _ h => h | exact fun _ _ _ h => nomatch h.1) (Or.inl ⟨by rfl, fun w_ hw_ => by go_simp⟩) hz ?_
          try simp only [Act.put, List.setIfInBounds_toArray, List.set_cons_zero, List.set_cons_succ, List.getElem_toArray, List.getElem_cons_zero]
          refine wpAnyH_take (i := 1) (v := .int .i64 (k : Int)) rfl (by kernel_rfl) (by kernel_rfl) (by kernel_rfl) (by first | exact fun _ _ _ h => h | exact fun _ _ _ h => nomatch h.1) (Or.inl ⟨by rfl, fun w_ hw_ => by go_simp⟩) hz ?_
          try simp only [Act.put, List.setIfInBounds_toArray, List.set_cons_zero, List.set_cons_succ, List.getElem_toArray, List.getElem_cons_succ, List.getElem_cons_zero]
          refine wpAnyH_take (i := 2) (v := .pointer (some ⟨b, o + k * 24, none⟩)) rfl (by kernel_rfl) (by kernel_rfl) (by kernel_rfl) (by first | exact fun _ _ _ h => h | exact fun _ _ _ h => nomatch h.1) (Or.inl ⟨by rfl, fun w_ hw_ => by go_simp⟩) hz ?_
          try simp only [Act.put, List.setIfInBounds_toArray, List.set_cons_zero, List.set_cons_succ, List.getElem_toArray, List.getElem_cons_succ, List.getElem_cons_zero]
          refine wpAnyH_take (i := 3) (v := .agg (cellsF x.1 x.2.1 x.2.2).toArray) rfl (by kernel_rfl) (by kernel_rfl) (by kernel_rfl) (by first | exact fun _ _ _ h => h | exact fun _ _ _ h => nomatch h.1) (yieldsIf_load_mid (by rfl) 27 _ rfl b (o + k * 24) rfl (cellsF x.1 x.2.1 x.2.2) _ (fun x_ hx_ => HXA.out x_ hx_) Tryd.underlying27 rfl (by rw [cF_len _ _ _ HXAL.out]; exact size27)) hz ?_
          try simp only [Act.put, List.setIfInBounds_toArray, List.set_cons_zero, List.set_cons_succ, List.getElem_toArray, List.getElem_cons_succ, List.getElem_cons_zero]
          refine wpAnyH_take (i := 4) (v := .slice (some ⟨b', o', none⟩) L'.length c') rfl (by kernel_rfl) (by kernel_rfl) (by kernel_rfl) (by first | exact fun _ _ _ h => h | exact fun _ _ _ h => nomatch h.1) (Or.inl ⟨by rfl, fun w_ hw_ => by go_simp⟩) hz ?_
          try simp only [Act.put, List.setIfInBounds_toArray, List.set_cons_zero, List.set_cons_succ, List.getElem_toArray, List.getElem_cons_succ, List.getElem_cons_zero]
          refine wpAnyH_take (i := 5) (v := .int .i64 (k : Int)) rfl (by kernel_rfl) (by kernel_rfl) (by kernel_rfl) (by first | exact fun _ _ _ h => h | exact fun _ _ _ h => nomatch h.1) (Or.inl ⟨by rfl, fun w_ hw_ => by go_simp⟩) hz ?_
          try simp only [Act.put, List.setIfInBounds_toArray, List.set_cons_zero, List.set_cons_succ, List.getElem_toArray, List.getElem_cons_succ, List.getElem_cons_zero]
          refine wpAnyH_take (i := 6) (v := .pointer (some ⟨b', o' + k * 24, none⟩)) rfl (by kernel_rfl) (by kernel_rfl) (by kernel_rfl) (by first | exact fun _ _ _ h => h | exact fun _ _ _ h => nomatch h.1) (Or.inl ⟨by rfl, fun w_ hw_ => by go_simp⟩) hz ?_
          try simp only [Act.put, List.setIfInBounds_toArray, List.set_cons_zero, List.set_cons_succ, List.getElem_toArray, List.getElem_cons_succ, List.getElem_cons_zero]
          refine wpAnyH_take (i := 7) (v := .agg (cellsF y.1 y.2.1 y.2.2).toArray) rfl (by kernel_rfl) (by kernel_rfl) (by kernel_rfl) (by first | exact fun _ _ _ h => h | exact fun _ _ _ h => nomatch h.1) (yieldsIf_load_mid (by rfl) 27 _ rfl b' (o' + k * 24) rfl (cellsF y.1 y.2.1 y.2.2) _ (fun x_ hx_ => HYA.out x_ hx_) Tryd.underlying27 rfl (by rw [cF_len _ _ _ HYAL.out]; exact size27)) hz ?_
          try simp only [Act.put, List.setIfInBounds_toArray, List.set_cons_zero, List.set_cons_succ, List.getElem_toArray, List.getElem_cons_succ, List.getElem_cons_zero]
          refine wpAnyH_ready (rs := [8]) (by kernel_rfl) (by simp) ?_
          refine AllReadyH.cons rfl (fun K hK => ?_) AllReadyH.nil
          rw [if_pos (by rfl)]
          try simp only [List.getElem_toArray, List.getElem_cons_succ, List.getElem_cons_zero]
          go_simp
          refine (HSM.out _ hz).mono ?_
          rintro e y1 ⟨rfl, hcx⟩
          have hz := hz.trans hcx
          clear hcx
          refine hK.out _ _ hz (fun _ => ?_)
          clear hK K
          try simp only [Act.put, List.setIfInBounds_toArray, List.set_cons_zero, List.set_cons_succ, List.getElem_toArray, List.getElem_cons_succ, List.getElem_cons_zero]
          refine wpAnyH_take (i := 9) (v := .bool true) rfl (by kernel_rfl) (by kernel_rfl) (by kernel_rfl) (by first | exact fun _ _ _ h => h | exact fun _ _ _ h => nomatch h.1) (Or.inl ⟨by rfl, fun w_ hw_ => by go_simp⟩) hz ?_
          try simp only [Act.put, List.setIfInBounds_toArray, List.set_cons_zero, List.set_cons_succ, List.getElem_toArray, List.getElem_cons_succ, List.getElem_cons_zero]
          refine wpAnyH_done (by kernel_rfl) ?_ _
          go_wp2
          go_ret
          exact ⟨ret_bool (decide_eq_false HNE.out).symm, HC.out.trans hz⟩
      · have hkl : k = L.length := by omega
        have HK := Lib.hid hkl
        clear hkl
        have hn : ¬ (k : Int) < (L.length : Int) := by omega
        go_wp2
        go_ret
        refine ⟨ret_bool ?_, HC.out⟩
        symm
        rw [decide_eq_true_eq]
        apply List.ext_getElem (by simpa using HLE.out)
        intro j h1 h2
        have h1' : j < L.length := by simpa using h1
        have h2' : j < L'.length := by simpa using h2
        have := hpre.out j (by rw [HK.out]; exact h1')
        simpa [List.getD_eq_getElem?_getD, h1', h2'] using this
  · have hne : (((L.length : Nat) : Int) != (L'.length : Int)) = true := by simp; omega
    have hd : decide (L.map (·.1) = L'.map (·.1)) = false := by
      rw [decide_eq_false_iff_not]; intro e; exact hlen (by have := congrArg List.length e; simpa using this)
    rw [hd]
    go_enter Tryd.func17, Tryd.ntmps17
    go_wp2
    go_ret
    exact ⟨rfl, Chg.refl _ _⟩
end Go.Proofs.YtlkklfkfhebpgaaDoor

namespace Go.Proofs.YtlkklfkfhebpgaaDoor
open Go.RowKit Go.ChangeShapes Go.WideShapes Go.Deep

section
variable {H : Type} {enc : TypeId × Value → H} {W : World} {held : Bool}
theorem open_frs {n : Nat} {u : Value} {y : DataW H × List MemPlace} (h : DataW.trod enc Tryd.prog W 0 (fun _ => true) held n 34 [u] = some y) :
    ∃ (l : List FrV) (A : Option Addr) (c : Nat), u = .slice A l.length c ∧ (l.length ≤ c ∧ c ≤ maxLen) ∧ View W (fun _ => True) A (l.length * 24) (fcellsL l) ∧ ∀ x ∈ l, FrIn W x.1 x.2.1 x.2.2 ∧ x.1.Ok := by
  rcases open_slice Tryd.underlying34 h with ⟨hcs, _⟩ | ⟨a, len, cap, m, k, D, Pl, hcs, _, hl, hm, hmm, _, hi⟩
  · simp at hcs
    exact ⟨[], none, 0, hcs, ⟨Nat.le_refl _, Nat.zero_le _⟩, View.none_ _ _ _, by simp⟩
  · simp at hcs hmm
    subst hmm
    have ce : Tryd.prog.cellsOf 27 = 24 := by kernel_rfl
    rw [ce] at hi
    have each : ∀ i, i < m → ∃ q : FrV, (FrIn W q.1 q.2.1 q.2.2 ∧ q.1.Ok) ∧ ∀ j, j < 24 → W.cell? (a.add (i * 24 + j)) = (cellsF q.1 q.2.1 q.2.2)[j]? := by
      intro i him
      obtain ⟨cs', h1, h2⟩ := hi i him
      obtain ⟨_, hlen, hcell⟩ := World.cells?_some h1
      obtain ⟨c0, c1, c2, c3, c4, c5, c6, c7, t, rfl, ht⟩ := list24 hlen
      obtain ⟨f, sd, sr, e, k1, k2⟩ := open_fr_cells ht h2
      refine ⟨(f, sd, sr), ⟨k1, k2⟩, fun j hj => ?_⟩
      rw [← e, ← hcell j hj, Go.Deep.add_add]
    haveI : Inhabited FrV := ⟨fv0⟩
    obtain ⟨q, hq⟩ := choose_lt each
    have hlen : ((List.range len).map q).length = len := by simp
    have htok : ∀ x ∈ (List.range len).map q, x.1.tok.length = 16 := fun x hx => by
      obtain ⟨i, hi', rfl⟩ := List.mem_map.1 hx
      exact (hq i (by have := List.mem_range.1 hi'; omega)).1.1.tok
    refine ⟨(List.range len).map q, some a, m, by rw [hlen]; exact hcs, ⟨by rw [hlen]; exact hl, hm⟩, view_of3 (by rw [fcellsL_len _ htok]) (fun j hj => ?_), fun x hx => ?_⟩
    · rw [hlen] at hj
      have e := fcellsL_get ((List.range len).map q) (j / 24) (j % 24) htok (by rw [hlen]; omega) (by omega)
      rw [show j / 24 * 24 + j % 24 = j by omega, range_getD3 q _ _ _ (by omega)] at e
      rw [e, ← (hq (j / 24) (by omega)).2 (j % 24) (by omega), show j / 24 * 24 + j % 24 = j by omega]
    · obtain ⟨i, hi', rfl⟩ := List.mem_map.1 hx
      exact (hq i (by have := List.mem_range.1 hi'; omega)).1
end

/-! ### plainly -/
theorem kd_parts : ∀ x ∈ kdL, ∀ t, (x.2.pf.parts t).length ≤ 8 := by
  intro x hx t
  simp only [kdL, List.mem_cons, List.not_mem_nil, or_false] at hx
  rcases hx with rfl | rfl | rfl | rfl | rfl | rfl | rfl | rfl | rfl | rfl | rfl | rfl | rfl | rfl | rfl | rfl | rfl | rfl | rfl | rfl
  all_goals simp only [PF.parts, ackParts, streamParts, closeParts]
  all_goals repeat' split
  all_goals simp
theorem putM_few2 {f : Fr} (of : f.Ok) (ht : f.tok.length = 16) (hr : rightB f = true) : (putM f).length ≤ 14000 := by
  have h1 := flat_len f (partsOf f) (parts_small of ht hr)
  have h2 := encI_len (typM f)
  have h3 : (partsOf f).length ≤ 8 := by
    unfold partsOf
    cases hd : kdM (keyM f.kind) with
    | none => exact Nat.zero_le _
    | some d =>
      unfold kdM at hd
      simp only [Option.map_eq_some_iff] at hd
      obtain ⟨x, hx, rfl⟩ := hd
      exact kd_parts x (List.mem_of_find?_eq_some hx) _
  unfold putM
  rw [if_pos hr, List.length_append]
  omega

/-- Right frames, none but the first of which is padding. -/
structure Rights (fs : List Fr) : Prop where
  each : ∀ f ∈ fs, f.Ok ∧ f.tok.length = 16 ∧ f.data.length ≤ 1000000 ∧ rightB f = true
  pads : ∀ f ∈ fs.tail, f.kind ≠ 0
def allB (fs : List Fr) : List Nat := fs.flatMap putM
theorem Rights.tail {f : Fr} {fs : List Fr} (h : Rights (f :: fs)) : Rights fs :=
  ⟨fun g hg => h.each g (by simp [hg]), fun g hg => h.pads g (List.mem_of_mem_tail hg)⟩
theorem rights_loop : ∀ (fs acc : List Fr), Rights fs → loopP acc (allB fs, 0) = (fs.foldl stepP acc, ([], 0))
  | [], acc, _ => loopP_stop _ _ rfl
  | f :: fs, acc, h => by
    obtain ⟨of, ht, hl, hr⟩ := h.each f (by simp)
    have hm : f.kind = 0 → f.a = 1200 ∨ (allB fs).head? ≠ some 0 := fun _ => Or.inr (by
      cases fs with
      | nil => simp [allB]
      | cons g gs =>
        obtain ⟨og, tg, lg, rg⟩ := h.each g (by simp)
        have h1 := head_ne og tg lg rg (h.pads g (by simp))
        have h2 := putM_ne og tg lg rg
        show (putM g ++ allB gs).head? ≠ some 0
        rcases hp : putM g with _ | ⟨x, r⟩
        · exact absurd hp h2
        · rw [hp] at h1; exact h1)
    show loopP acc (putM f ++ allB fs, 0) = _
    rw [loop_more of ht hl hr acc (allB fs) hm, rights_loop fs _ h.tail]
    rfl
theorem steps_all : ∀ (fs acc : List Fr), acc.length ≤ 65 → fs.foldl stepP acc = (acc ++ fs).take 65
  | [], acc, h => by simp [List.take_of_length_le h]
  | f :: fs, acc, h => by
    rw [List.foldl_cons]
    unfold stepP
    split
    · rename_i h1
      have := steps_all fs (acc ++ [f]) (by simp; omega)
      unfold stepP at this
      rw [this, List.append_assoc]; rfl
    · have h65 : acc.length = 65 := by omega
      have := steps_all fs acc h
      unfold stepP at this
      rw [this, List.take_append_of_le_length (by omega), List.take_append_of_le_length (by omega)]
theorem rights_parse (fs : List Fr) (h : Rights fs) : parseM (allB fs) = if fs.length = 0 ∨ 64 < fs.length then ([], 3) else (fs, 0) := by
  rw [parseM_eq _ _ _ (rights_loop fs [] h), steps_all fs [] (by simp), List.nil_append, if_neg (by simp)]
  by_cases h0 : fs.length = 0 ∨ 64 < fs.length
  · rw [if_pos h0, if_pos (by rw [List.length_take]; omega)]
  · rw [if_neg h0, if_neg (by rw [List.length_take]; omega), List.take_of_length_le (by omega)]
theorem allB_snoc (fs : List Fr) (f : Fr) : allB (fs ++ [f]) = allB fs ++ putM f := by simp [allB]
theorem allB_len : ∀ (fs : List Fr), (∀ f ∈ fs, f.Ok ∧ f.tok.length = 16 ∧ f.data.length ≤ 1000000 ∧ rightB f = true) → (allB fs).length ≤ 14000 * fs.length
  | [], _ => Nat.le_refl _
  | f :: fs, h => by
    obtain ⟨of, ht, _, hr⟩ := h f (by simp)
    have h1 := putM_few2 of ht hr
    have h2 := allB_len fs (fun g hg => h g (by simp [hg]))
    show (putM f ++ allB fs).length ≤ _
    rw [List.length_append, List.length_cons]
    omega
theorem allB_lt : ∀ (fs : List Fr), (∀ f ∈ fs, f.Ok) → ∀ x ∈ allB fs, x < 256 := fun fs h x hx => by
  obtain ⟨f, hf, hx⟩ := List.mem_flatMap.1 hx
  exact putM_lt f (h f hf) x hx
end Go.Proofs.YtlkklfkfhebpgaaDoor

namespace Go.Proofs.YtlkklfkfhebpgaaDoor
open Go.RowKit

set_option maxRecDepth 100000 in
set_option maxHeartbeats 2000000 in
theorem flist_nil (A : Option Addr) (c : Nat) (w : World) (hT : Tab w) :
    Calls Tryd.prog 5 #[.slice A 0 c] w fun e w' => e = .returned (.bool true) ∧ Chg none_ w w' := by
  have HAL := Lib.hid (alive_any w hT)
  have HPR : Hid (∀ w', Calls Tryd.prog 16 #[.slice none 0 0] w' fun e w'' => ∃ A c, e = .returned (.tuple #[.slice A 0 c, .int .i64 3]) ∧ Chg none_ w' w'') := Lib.hid (fun w' => by
    have := parse_any w' (fun _ => True) none 0 [] (View.none_ _ _ _) (by simp) (by simp)
    have hp : parseM [] = ([], 3) := rights_parse [] ⟨by simp, by simp⟩
    rw [hp] at this
    refine this.mono ?_
    rintro e w'' ⟨v, L, base, T, rfl, hfs, _, hL, hc⟩
    have hL0 : L = [] := by simpa using hL
    subst hL0
    obtain ⟨A', c', rfl, _⟩ := view_ownN hfs.own
    exact ⟨A', c', rfl, hc⟩)
  clear hT
  go_enter Tryd.func5, Tryd.ntmps5
  go_wp2_with (go_at_call 6; refine (HAL.out).mono ?_; rintro e w1 ⟨rfl, c1⟩)
  refine wp_loop_rounds 1 ?_
  rw [rounds_succ]
  go_wp2_with (go_at_call 16; refine (HPR.out _).mono ?_; rintro e w2 ⟨A2, c2, rfl, hc2⟩)
  go_ret
  exact ⟨rfl, c1.trans hc2⟩

set_option maxRecDepth 100000 in
set_option maxHeartbeats 2000000 in
theorem flist_great (A : Option Addr) (n c : Nat) (w : World) (hT : Tab w) (hn : 70 < n) :
    Calls Tryd.prog 5 #[.slice A n c] w fun e w' => e = .returned (.bool true) ∧ Chg none_ w w' := by
  have HAL := Lib.hid (alive_any w hT)
  have h1 : (70 : Int) < (n : Int) := by omega
  have h2 : (0 : Int) < (n : Int) := by omega
  clear hT hn
  go_enter Tryd.func5, Tryd.ntmps5
  go_wp2_with (go_at_call 6; refine (HAL.out).mono ?_; rintro e w1 ⟨rfl, c1⟩)
  refine wp_loop_rounds 1 ?_
  rw [rounds_succ]
  go_wp2
  go_ret
  exact ⟨rfl, c1⟩

/-- What is known of the frames that were put. -/
def GoodF (x : FrV) (j : Nat) : Prop := greatB x.1 = false ∧ rightB x.1 = true ∧ (0 < j → x.1.kind ≠ 0)
theorem getD_memF {l : List FrV} {k : Nat} (h : k < l.length) : l.getD k fv0 ∈ l := by
  rw [List.getD_eq_getElem?_getD, List.getElem?_eq_getElem h]; exact List.getElem_mem h
theorem takeF_succ {l : List FrV} {k : Nat} (h : k < l.length) : (l.take (k + 1)).map (·.1) = (l.take k).map (·.1) ++ [(l.getD k fv0).1] := by
  rw [List.take_add_one, List.getElem?_eq_getElem h, List.map_append, List.getD_eq_getElem?_getD, List.getElem?_eq_getElem h]
  rfl
theorem goods {w : World} {l : List FrV} (ho : ∀ x ∈ l, FrIn w x.1 x.2.1 x.2.2 ∧ x.1.Ok) (n : Nat) (hn : n ≤ l.length) (h : ∀ j, j < n → GoodF (l.getD j fv0) j) : Rights ((l.take n).map (·.1)) := by
  refine ⟨fun f hf => ?_, fun f hf => ?_⟩
  · obtain ⟨x, hx, rfl⟩ := List.mem_map.1 hf
    obtain ⟨j, hj, e⟩ := List.mem_iff_getElem.1 hx
    have hj' : j < n := by have := hj; rw [List.length_take] at this; omega
    have hx2 : x ∈ l := List.mem_of_mem_take hx
    obtain ⟨hin, hok⟩ := ho x hx2
    have hg := h j hj'
    rw [List.getElem_take] at e
    have e2 : l.getD j fv0 = x := by rw [List.getD_eq_getElem?_getD, List.getElem?_eq_getElem (by omega)]; exact e
    rw [e2] at hg
    obtain ⟨hd, hl⟩ := hin.small hg.1
    exact ⟨hok, hin.tok, by omega, hg.2.1⟩
  · rw [← List.drop_one] at hf
    obtain ⟨i, hi, e⟩ := List.mem_iff_getElem.1 hf
    rw [List.getElem_drop, List.getElem_map, List.getElem_take] at e
    rw [List.length_drop, List.length_map, List.length_take] at hi
    have hg := h (1 + i) (by omega)
    have e2 : l.getD (1 + i) fv0 = l[1 + i]'(by omega) := by rw [List.getD_eq_getElem?_getD, List.getElem?_eq_getElem (by omega)]; rfl
    rw [e2] at hg
    rw [← e]
    exact hg.2.2 (by omega)

set_option maxRecDepth 100000 in
set_option maxHeartbeats 8000000 in
theorem flist_some (l : List FrV) (A : Option Addr) (c : Nat) (w : World) (hT : Tab w) (hv : View w (fun _ => True) A (l.length * 24) (fcellsL l)) (ho : ∀ x ∈ l, FrIn w x.1 x.2.1 x.2.2 ∧ x.1.Ok) (hpos : 0 < l.length) (hn : l.length ≤ 70) :
    Calls Tryd.prog 5 #[.slice A l.length c] w fun e w' => e = .returned (.bool true) ∧ Chg none_ w w' := by
  have HAL := Lib.hid (alive_any w hT)
  have h1 : ¬ (70 : Int) < (l.length : Int) := by omega
  have h1d : decide ((70 : Int) < (l.length : Int)) = false := by simpa using h1
  have htk : ∀ x ∈ l, x.1.tok.length = 16 := fun x hx => (ho x hx).1.tok
  obtain ⟨b, o, rfl, hb, _, _⟩ := hv.fAt htk hpos
  have HAT : Hid (∀ k, k < l.length → ∀ w', Chg none_ w w' → w'.rangeAt b (o + k * 24) (cellsF (l.getD k fv0).1 (l.getD k fv0).2.1 (l.getD k fv0).2.2)) := Lib.hid (fun k hk w' hc => by
    obtain ⟨b2, o2, e, hb2, _, hr⟩ := hv.fAt htk hk
    injection e with e; injection e with e1 e2
    subst e1; subst e2
    exact rangeAt_chg hr hc hb2 (fun h => h))
  have HO := Lib.hid ho
  have HVL := Lib.hid hv
  have HTW := Lib.hid (fun w' (hc : Chg none_ w w') => hT.chg hc (fun h => h))
  obtain ⟨i0, hi, hz0, hz1, hz2⟩ := info_parts info5
  clear hT hv ho htk
  go_enter Tryd.func5, Tryd.ntmps5
  go_wp2_with (go_at_call 6; refine (HAL.out).mono ?_; rintro e w1 ⟨rfl, c1⟩)
  go_loopw [3, 4] (fun bv i wr => ∃ k : Nat, k ≤ l.length ∧ i = .int .i64 (k : Int) ∧ wr.ownsRow w1.heap.size 5 1 bv (allB ((l.take k).map (·.1))).length (u8s (allB ((l.take k).map (·.1)))) ∧ Hid (∀ j, j < k → GoodF (l.getD j fv0) j) ∧ Chg none_ w1 wr) (fun _ i _ => l.length - (intOf i).toNat)
  case atStart => exact ⟨0, Nat.zero_le _, rfl, World.ownsRow_nil _ _ _ _, Lib.hid (fun j hj => absurd hj (by omega)), Chg.refl _ _⟩
  case round =>
    obtain ⟨k, hk, rfl, hown, hng, hch⟩ := hrel
    have hcw := c1.trans hch
    have HOWN := Lib.hid hown
    clear hown
    by_cases hlt : k < l.length
    · have hk0 : (0 : Int) ≤ (k : Int) := by omega
      have hk1 : (k : Int) < (l.length : Int) := by omega
      obtain ⟨hin, hok⟩ := HO.out _ (getD_memF hlt)
      have HRA := Lib.hid (HAT.out k hlt)
      have HTS := Lib.hid (takeF_succ hlt)
      generalize hx : l.getD k fv0 = x at hin hok HRA HTS
      have HX := Lib.hid hx
      clear hx
      obtain ⟨f, sd, sr⟩ := x
      simp only at hin hok HRA HTS
      have HTF := Lib.hid hin.tok
      have HK0 : Hid (∀ w', Chg none_ w w' → w'.cell? ⟨b, o + k * 24, none⟩ = some (.int .i64 f.kind)) := Lib.hid (fun w' hc => HRA.out w' hc 0 _ (cF_0 f sd sr))
      have HGR : Hid (∀ w', Chg none_ w w' → Calls Tryd.prog 7 #[.agg (cellsF f sd sr).toArray] w' fun e w'' => e = .returned (.bool (greatB f)) ∧ Chg none_ w' w'') := Lib.hid (fun w' hc => Great_any f sd sr w' (hin.chg hc))
      cases g1 : greatB f with
      | true =>
        rw [g1] at HGR
        clear hin hok hng
        go_wp2_with (first | ((with_reducible show wpList _ _ _ (⟨some 22, .load _ _, _, _, _, _⟩ :: _) _ _); refine wpList_load_Mid (cs := cellsF f sd sr) rfl rfl rfl (HRA.out _ (hcw)) Tryd.underlying27 rfl (by rw [cF_len _ _ _ HTF.out]; exact size27) ?_) | (go_at_call 7; refine (HGR.out _ hcw).mono ?_; rintro e w2 ⟨rfl, d2⟩))
        go_ret
        exact ⟨rfl, hcw.trans d2⟩
      | false =>
        rw [g1] at HGR
        obtain ⟨df, lf⟩ := hin.small g1
        have HRG : Hid (∀ w', Chg none_ w w' → Calls Tryd.prog 8 #[.agg (cellsF f sd sr).toArray] w' fun e w'' => e = .returned (.bool (rightB f)) ∧ Chg none_ w' w'') := Lib.hid (fun w' hc => Right_any f sd sr w' _ (df.chg hc (fun _ _ h => h)) hok)
        cases r1 : rightB f with
        | false =>
          rw [r1] at HRG
          clear hin hok hng df lf
          go_wp2_with (first | ((with_reducible show wpList _ _ _ (⟨some 22, .load _ _, _, _, _, _⟩ :: _) _ _); refine wpList_load_Mid (cs := cellsF f sd sr) rfl rfl rfl (HRA.out _ (hcw)) Tryd.underlying27 rfl (by rw [cF_len _ _ _ HTF.out]; exact size27) ?_) | (go_at_call 7; refine (HGR.out _ hcw).mono ?_; rintro e w2 ⟨rfl, d2⟩) | ((with_reducible show wpList _ _ _ (⟨some 29, .load _ _, _, _, _, _⟩ :: _) _ _); refine wpList_load_Mid (cs := cellsF f sd sr) rfl rfl rfl (HRA.out _ (hcw.trans d2)) Tryd.underlying27 rfl (by rw [cF_len _ _ _ HTF.out]; exact size27) ?_) | (go_at_call 8; refine (HRG.out _ (hcw.trans d2)).mono ?_; rintro e w3 ⟨rfl, d3⟩; have hk3 := HK0.out _ (hcw.trans (d2.trans d3))))
          go_ret
          exact ⟨rfl, hcw.trans (d2.trans d3)⟩
        | true =>
          rw [r1] at HRG
          by_cases hpad : 0 < k ∧ f.kind = 0
          · have e0 : (0 : Int) < (k : Int) := by omega
            have e1 : (f.kind == 0) = true := by rw [beq_iff_eq]; exact hpad.2
            clear hin hok hng df lf hpad
            go_wp2_with (first | ((with_reducible show wpList _ _ _ (⟨some 22, .load _ _, _, _, _, _⟩ :: _) _ _); refine wpList_load_Mid (cs := cellsF f sd sr) rfl rfl rfl (HRA.out _ (hcw)) Tryd.underlying27 rfl (by rw [cF_len _ _ _ HTF.out]; exact size27) ?_) | (go_at_call 7; refine (HGR.out _ hcw).mono ?_; rintro e w2 ⟨rfl, d2⟩) | ((with_reducible show wpList _ _ _ (⟨some 29, .load _ _, _, _, _, _⟩ :: _) _ _); refine wpList_load_Mid (cs := cellsF f sd sr) rfl rfl rfl (HRA.out _ (hcw.trans d2)) Tryd.underlying27 rfl (by rw [cF_len _ _ _ HTF.out]; exact size27) ?_) | (go_at_call 8; refine (HRG.out _ (hcw.trans d2)).mono ?_; rintro e w3 ⟨rfl, d3⟩; have hk3 := HK0.out _ (hcw.trans (d2.trans d3))))
            go_ret
            exact ⟨rfl, hcw.trans (d2.trans d3)⟩
          · have HGD : Hid (GoodF (f, sd, sr) k) := Lib.hid ⟨g1, r1, fun h h2 => hpad ⟨h, h2⟩⟩
            have HPU : Hid (∀ w', Chg none_ w w' → Calls Tryd.prog 11 #[.agg (cellsF f sd sr).toArray] w' (BytesNew w' (putM f))) := Lib.hid (fun w' hc => Put_any f sd sr w' _ (HTW.out w' hc) (df.chg hc (fun _ _ h => h)) hok)
            have HLB : Hid ((allB ((l.take k).map (·.1))).length + (putM f).length ≤ 1000000) := Lib.hid (by
              have h2 := allB_len _ (goods HO.out k hk hng.out).each
              have h3 := putM_few2 hok hin.tok r1
              rw [List.length_map, List.length_take] at h2
              omega)
            have HPD : Hid (k = 0 ∨ (0 < k ∧ f.kind ≠ 0)) := Lib.hid (by omega)
            clear hin hok df lf hpad
            rcases HPD.out with hkz | ⟨hkp, hkk⟩
            · subst hkz
              go_wp2_with (first | ((with_reducible show wpList _ _ _ (⟨some 22, .load _ _, _, _, _, _⟩ :: _) _ _); refine wpList_load_Mid (cs := cellsF f sd sr) rfl rfl rfl (HRA.out _ (hcw)) Tryd.underlying27 rfl (by rw [cF_len _ _ _ HTF.out]; exact size27) ?_) | (go_at_call 7; refine (HGR.out _ hcw).mono ?_; rintro e w2 ⟨rfl, d2⟩) | ((with_reducible show wpList _ _ _ (⟨some 29, .load _ _, _, _, _, _⟩ :: _) _ _); refine wpList_load_Mid (cs := cellsF f sd sr) rfl rfl rfl (HRA.out _ (hcw.trans d2)) Tryd.underlying27 rfl (by rw [cF_len _ _ _ HTF.out]; exact size27) ?_) | (go_at_call 8; refine (HRG.out _ (hcw.trans d2)).mono ?_; rintro e w3 ⟨rfl, d3⟩; have hk3 := HK0.out _ (hcw.trans (d2.trans d3))) | ((with_reducible show wpList _ _ _ (⟨some 49, .load _ _, _, _, _, _⟩ :: _) _ _); refine wpList_load_Mid (cs := cellsF f sd sr) rfl rfl rfl (HRA.out _ (hcw.trans (d2.trans d3))) Tryd.underlying27 rfl (by rw [cF_len _ _ _ HTF.out]; exact size27) ?_) | (go_at_call 11; refine (HPU.out _ (hcw.trans (d2.trans d3))).mono ?_; rintro e w5 ⟨A5, k5, rfl, hv5, d5⟩) | (at_builtin; refine wpList_append_view rfl _ _ 23 rfl 5 i0 _ 1 Tryd.underlying23 hi hz0 hz1 hz2 rfl w1.heap.size u3 (allB ((l.take 0).map (·.1))).length (u8s (allB ((l.take 0).map (·.1)))) rfl (ownsRow_chg HOWN.out (d2.trans (d3.trans d5))) _ A5 (putM f).length k5 (u8s (putM f)) rfl hv5 (u8s_one _) (by have := HLB.out; unfold maxLen; omega) (by have := HLB.out; omega) (hch.trans (d2.trans (d3.trans d5))).size ?_; intro v6 w6 hown6 hgrow6 _))
              have hown2 := ownsRow_chg HOWN.out (d2.trans (d3.trans d5))
              have hcn := (hch.trans (d2.trans (d3.trans d5))).append (Nat.le_refl _) hown2 hgrow6
              rw [u8s_append] at hown6
              go_roundw
              case rel =>
                refine ⟨1, by omega, by go_num, ?_, Lib.hid (fun j hj => ?_), hcn⟩
                · rw [HTS.out, allB_snoc, List.length_append]
                  exact hown6
                · rcases Nat.lt_or_ge j 0 with q | q
                  · exact hng.out j q
                  · have e : j = 0 := by omega
                    subst e
                    rw [HX.out]
                    exact HGD.out
              case measure => simp [intOf]; omega
            · have e0 : (0 : Int) < (k : Int) := by omega
              have e1 : (f.kind == 0) = false := by rw [beq_eq_false_iff_ne]; exact hkk
              clear hkk
              go_wp2_with (first | ((with_reducible show wpList _ _ _ (⟨some 22, .load _ _, _, _, _, _⟩ :: _) _ _); refine wpList_load_Mid (cs := cellsF f sd sr) rfl rfl rfl (HRA.out _ (hcw)) Tryd.underlying27 rfl (by rw [cF_len _ _ _ HTF.out]; exact size27) ?_) | (go_at_call 7; refine (HGR.out _ hcw).mono ?_; rintro e w2 ⟨rfl, d2⟩) | ((with_reducible show wpList _ _ _ (⟨some 29, .load _ _, _, _, _, _⟩ :: _) _ _); refine wpList_load_Mid (cs := cellsF f sd sr) rfl rfl rfl (HRA.out _ (hcw.trans d2)) Tryd.underlying27 rfl (by rw [cF_len _ _ _ HTF.out]; exact size27) ?_) | (go_at_call 8; refine (HRG.out _ (hcw.trans d2)).mono ?_; rintro e w3 ⟨rfl, d3⟩; have hk3 := HK0.out _ (hcw.trans (d2.trans d3))) | ((with_reducible show wpList _ _ _ (⟨some 49, .load _ _, _, _, _, _⟩ :: _) _ _); refine wpList_load_Mid (cs := cellsF f sd sr) rfl rfl rfl (HRA.out _ (hcw.trans (d2.trans d3))) Tryd.underlying27 rfl (by rw [cF_len _ _ _ HTF.out]; exact size27) ?_) | (go_at_call 11; refine (HPU.out _ (hcw.trans (d2.trans d3))).mono ?_; rintro e w5 ⟨A5, k5, rfl, hv5, d5⟩) | (at_builtin; refine wpList_append_view rfl _ _ 23 rfl 5 i0 _ 1 Tryd.underlying23 hi hz0 hz1 hz2 rfl w1.heap.size u3 (allB ((l.take k).map (·.1))).length (u8s (allB ((l.take k).map (·.1)))) rfl (ownsRow_chg HOWN.out (d2.trans (d3.trans d5))) _ A5 (putM f).length k5 (u8s (putM f)) rfl hv5 (u8s_one _) (by have := HLB.out; unfold maxLen; omega) (by have := HLB.out; omega) (hch.trans (d2.trans (d3.trans d5))).size ?_; intro v6 w6 hown6 hgrow6 _))
              have hown2 := ownsRow_chg HOWN.out (d2.trans (d3.trans d5))
              have hcn := (hch.trans (d2.trans (d3.trans d5))).append (Nat.le_refl _) hown2 hgrow6
              rw [u8s_append] at hown6
              go_roundw
              case rel =>
                refine ⟨k + 1, by omega, by go_num, ?_, Lib.hid (fun j hj => ?_), hcn⟩
                · rw [HTS.out, allB_snoc, List.length_append]
                  exact hown6
                · rcases Nat.lt_or_ge j k with q | q
                  · exact hng.out j q
                  · have e : j = k := by omega
                    subst e
                    rw [HX.out]
                    exact HGD.out
              case measure => simp [intOf]; omega
    · have hkl : k = l.length := by omega
      have hk1 : ¬ (k : Int) < (l.length : Int) := by omega
      have HNG : Hid (∀ j, j < l.length → GoodF (l.getD j fv0) j) := Lib.hid (fun j hj => hng.out j (by omega))
      have hown := HOWN.out
      rw [hkl, List.take_length] at hown
      have hR := goods HO.out l.length (Nat.le_refl _) HNG.out
      rw [List.take_length] at hR
      have hall := allB_len _ hR.each
      rw [List.length_map] at hall
      have hpm := rights_parse _ hR
      rw [List.length_map] at hpm
      obtain ⟨A3, c3, rfl, hle, _, hv3⟩ := View.own (T := fun _ => True) hown (fun _ _ => trivial)
      have HV := Lib.hid hv3
      have HPRA := Lib.hid (fun w' A c hv => parse_any w' (fun _ => True) A c (allB (l.map (·.1))) hv (by omega) (allB_lt _ (fun f hf => (hR.each f hf).1)))
      have HLI : Hid (∀ w7 A7 c7 (L7 : List FrV) base T, FsAt w7 base T (.slice A7 L7.length c7) L7 → View w7 (fun b => base ≤ b) A7 (L7.length * 24) (fcellsL L7) → L7.map (·.1) = l.map (·.1) → Chg none_ w w7 → Calls Tryd.prog 17 #[.slice A7 L7.length c7, .slice (some ⟨b, o, none⟩) l.length c] w7 fun e w' => e = .returned (.bool true) ∧ Chg none_ w7 w') := Lib.hid (fun w7 A7 c7 L7 base T hfs hv7 hL hc => by
        have h7 : FrsV w7 A7 L7 := ⟨hv7.mono (fun _ _ _ => trivial), fun x hx => (hfs.at_ x hx).mono (fun _ _ _ => trivial)⟩
        have hl' : FrsV w7 (some ⟨b, o, none⟩) l := ⟨HVL.out.chg hc (fun _ _ h => h), fun x hx => by
          obtain ⟨j, hj, e⟩ := List.mem_iff_getElem.1 hx
          have hg := HNG.out j hj
          have e2 : l.getD j fv0 = x := by rw [List.getD_eq_getElem?_getD, List.getElem?_eq_getElem hj]; exact e
          rw [e2] at hg
          exact ((HO.out x hx).1.small hg.1).1.chg hc (fun _ _ h => h)⟩
        have hlen : L7.length = l.length := by have := congrArg List.length hL; simpa using this
        have := rlist3_any w7 A7 (some ⟨b, o, none⟩) c7 c L7 l h7 hl' (by omega)
        rw [decide_eq_true hL] at this
        exact this)
      clear hv3 hown HOWN hng hkl hall hR
      by_cases h64 : l.length ≤ 64
      · rw [if_neg (by omega)] at hpm
        have HPR := Lib.hid (fun w' A c hv => by have := HPRA.out w' A c hv; rw [hpm] at this; exact this)
        have g1 : ((l.length : Int) == 0) = false := by rw [beq_eq_false_iff_ne]; omega
        have g2 : ¬ (64 : Int) < (l.length : Int) := by omega
        clear hpm HPRA h64
        go_wp2_with (first | (go_at_call 16; refine (HPR.out _ _ _ (HV.out.chg (Chg.refl none_ _) (fun _ _ h => h))).mono ?_; rintro e w7 ⟨v7, L7, base7, T7, rfl, hfs, hbase, hL, hc7⟩; obtain ⟨A7, c7, rfl, _, _, hv7⟩ := view_ownN hfs.own; have HFS := Lib.hid hfs; have HL7 := Lib.hid hL; have HV7 := Lib.hid hv7; clear hfs hbase hL hv7) | (go_at_call 17; refine (HLI.out _ _ _ _ _ _ HFS.out HV7.out HL7.out (hcw.trans hc7)).mono ?_; rintro e w8 ⟨rfl, hc8⟩))
        go_ret
        exact ⟨rfl, (hcw.trans hc7).trans hc8⟩
      · rw [if_pos (by omega)] at hpm
        have HPR := Lib.hid (fun w' A c hv => by have := HPRA.out w' A c hv; rw [hpm] at this; exact this)
        have g1 : ((l.length : Int) == 0) = false := by rw [beq_eq_false_iff_ne]; omega
        have g2 : (64 : Int) < (l.length : Int) := by omega
        clear hpm HPRA h64 HLI
        go_wp2_with (first | (go_at_call 16; refine (HPR.out _ _ _ (HV.out.chg (Chg.refl none_ _) (fun _ _ h => h))).mono ?_; rintro e w7 ⟨v7, L7, base7, T7, rfl, hfs, hbase, hL, hc7⟩; obtain ⟨A7, c7, rfl, _, _, hv7⟩ := view_ownN hfs.own; have HFS := Lib.hid hfs; have HL7 := Lib.hid hL; have HV7 := Lib.hid hv7; clear hfs hbase hL hv7))
        go_ret
        exact ⟨rfl, hcw.trans hc7⟩

theorem walk_FramesList (l : List FrV) (A : Option Addr) (cap : Nat) (w : World) (_hb : l.length ≤ cap ∧ cap ≤ maxLen) (hv : View w (fun _ => True) A (l.length * 24) (fcellsL l)) (ho : ∀ x ∈ l, FrIn w x.1 x.2.1 x.2.2 ∧ x.1.Ok) (hT : Tab w) :
    Calls Tryd.prog 5 #[.slice A l.length cap] w fun e w' => e = .returned (.bool true) ∧ Chg none_ w w' := by
  rcases Nat.eq_zero_or_pos l.length with h0 | h0
  · rw [h0]; exact flist_nil A cap w hT
  · by_cases h : l.length ≤ 70
    · exact flist_some l A cap w hT hv ho h0 h
    · exact flist_great A l.length cap w hT (by omega)
end Go.Proofs.YtlkklfkfhebpgaaDoor

namespace Go.Proofs.YtlkklfkfhebpgaaDoor.framesList
open Go.ChangeShapes Go.WideShapes Go.ChangeAt Go.RowKit

set_option maxRecDepth 100000 in
theorem lifted (os : Os) (started : os.Started) (H : Type) (enc : TypeId × Value → H) :
    ReturnsInHanded {} Tryd.checked os 5 .any (fun w args => (Rows.framesListSpec.pre enc Tryd.prog Tryd.f5 [] false w args ∧ laidMetH Tryd.prog laidAll w) ∧ sizedMet enc Tryd.prog Tryd.f5 (OpenSpec.ofChange Rows.framesListSpec) false w args)
      (Rows.framesListSpec.post enc Tryd.prog Tryd.f5 false true false false) := by
  refine returnsInHanded_of_change_and (C := Tryd.checked) (X := fun w _ => laidMetH Tryd.prog laidAll w) (fun _ _ _ hh h => h.of_heap hh) own started (by kernel_rfl) Tryd.func5
    (ChangeSpec.witness_shaped (enc := enc) (C := Tryd.checked) (os := os) (X := fun w _ => laidMetH Tryd.prog laidAll w) false (World.doorLaid Tryd.prog 400 os) #[.slice none 0 0] 8 rfl (World.shaped_of_RefB (by kernel_rfl) (by kernel_rfl)) (by kernel_rfl) (by kernel_rfl) (by kernel_rfl) (door_met os _)) ?_
  intro W base args ds gs before hval0 hW _ _ hL _
  have hval : ∀ (j : Nat) t v, Tryd.f5.params[j]? = some t → args[j]? = some v → Value.okWide Tryd.prog W .any base t v := hval0
  have hW' := hW
  obtain ⟨p, q, hA0, hV, rfl, hfz, hnd⟩ := hW
  have hA : DataW.TrodAll enc Tryd.prog W 0 (fun _ => true) true Tryd.f5.params.toList args.toList ds p := hA0
  rw [Tryd.params5] at hA hval
  obtain ⟨v0, vs0, d0, ds0, p0, q0, hargs, rfl, rfl, h0, r0⟩ := trodAll_cons hA
  obtain ⟨rfl, rfl, rfl⟩ := trodAll_nil r0
  obtain rfl : args = #[v0] := by cases args; simp_all
  obtain ⟨rfl, rfl⟩ := trodVars_none hV
  obtain ⟨a0, len0, cap0, rfl⟩ := okWide_slice Tryd.underlying34 (hval 0 34 v0 rfl rfl)
  have k0 := h0
  have lt0 : ∀ x ∈ p0, x.block < W.heap.size := by obtain ⟨m, hm⟩ := k0; exact DataW.trod_lt m _ _ _ hm
  obtain ⟨fuel0, hf0⟩ := h0
  obtain ⟨l0, A0, c0, e0, b0, w0, o0⟩ := open_frs (u := .slice a0 len0 cap0) hf0
  simp only [Value.slice.injEq] at e0
  obtain ⟨rfl, rfl, rfl⟩ := e0
  clear hA0 hval0
  refine (walk_FramesList l0 a0 cap0 W b0 w0 o0 (tab_of_laid hL)).mono fun e W' ⟨he, hc⟩ => ?_
  have bel : Below W.heap.size W W' := hc.below (Nat.le_refl _) (fun _ h => h.elim)
  subst he
  exact ⟨_, rfl, _, _, _, [], _, [], hW', trodAll_mk1 (shut_bool Tryd.underlying4 _), (trodAll_cons_mk (Below.trod laidOut (by kernel_rfl) (of_decide_eq_true (by kernel_rfl)) k0 bel lt0) trodAll_mk0), rfl, bel.frame _, fun h => by cases h⟩

theorem said : Rows.FramesListSaid :=
  OpenClaim.holds_of_wide 5 Tryd.f5 rfl rfl rfl rfl rfl rfl rfl ⟨rfl, rfl, rfl, rfl, rfl⟩ rfl rfl rfl rfl rfl (by kernel_rfl) Tryd.func5 (by kernel_rfl)
    (of_decide_eq_true (by kernel_rfl)) (by unfold Func.isWrapper; first | (rw [if_pos (by decide +kernel)]; kernel_rfl) | (rw [if_neg (by decide +kernel)]; exact ⟨rfl, rfl⟩))
    (fun os started H enc _ => lifted os started H enc)

theorem plain (f : FuncId) (fn : Func) (hf : Tryd.pinned.checked.prog.funcNamed Rows.framesListRow.func = some f) (hfn : Tryd.pinned.checked.prog.funcs[f]? = some fn) :
    false = Tryd.pinned.checked.prog.looks [] ∧ ∀ (j : Nat) t, fn.params[j]? = some t → Tryd.pinned.checked.prog.wantsStandIn t = false := by
  obtain rfl : f = 5 := Option.some.inj ((show Tryd.prog.funcNamed Rows.framesListRow.func = some 5 by kernel_rfl).symm.trans hf) |>.symm
  obtain rfl : fn = Tryd.f5 := (Option.some.inj (Tryd.func5.symm.trans hfn)).symm
  refine ⟨by kernel_rfl, fun j t ht => ?_⟩
  rw [Tryd.params5] at ht
  have hm : t ∈ [34] := by simpa using Array.mem_of_getElem? ht
  have hall : ([34].all fun u => !Tryd.prog.wantsStandIn u) = true := by kernel_rfl
  exact (show Tryd.prog.wantsStandIn t = false by simpa using List.all_eq_true.1 hall t hm)

theorem card : Rows.FramesListCardSaid :=
  Claim7.holds_tied_plain_at .later [] _ _ _ _ said (fun _ h => by cases h) (by kernel_rfl) (fun _ h => by cases h) framesList_row_tie rfl ⟨rfl, rfl⟩ (by kernel_rfl) rfl plain (by kernel_rfl)
#print axioms card
end Go.Proofs.YtlkklfkfhebpgaaDoor.framesList
