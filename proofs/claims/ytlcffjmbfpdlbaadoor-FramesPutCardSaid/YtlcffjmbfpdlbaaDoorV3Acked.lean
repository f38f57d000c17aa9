/- Layer 3 (frames): acked ranges are read. -/
import Derived.Test.YtlcffjmbfpdlbaaDoorV3Read
import Derived.Test.YtlcffjmbfpdlbaaDoorV3Apart
namespace Go.Proofs.YtlcffjmbfpdlbaaDoor
open Go.RowKit

/-- The other ranges: so many, below lo. -/
def ackLoop : Nat → Nat → List (Nat × Nat) → St → List (Nat × Nat) × St
  | 0, _, l, s => (l, s)
  | n + 1, lo, l, s =>
    let s1 := (rdInt s).2
    let s2 := (rdInt s1).2
    let gap := (rdInt s).1
    let len := (rdInt s1).1
    if lo < gap + 2 + len then (l, failSt 3 s2) else ackLoop n (lo - gap - 2 - len) (l ++ [(lo - gap - 2 - len, lo - gap - 2)]) s2

/-- Acked ranges, as they are read. -/
def ackedM (f : Fr) (s : St) : Fr × St :=
  let s1 := (rdInt s).2
  let s2 := (rdInt s1).2
  let s3 := (rdInt s2).2
  let s4 := (rdInt s3).2
  let hi := (rdInt s).1
  let delay := (rdInt s1).1
  let others := (rdInt s2).1
  let len := (rdInt s3).1
  if 16 ≤ others ∨ hi < len then (f, failSt 3 s4)
  else ({ f with b := delay, ranges := (ackLoop others (hi - len) [(hi - len, hi)] s4).1 }, (ackLoop others (hi - len) [(hi - len, hi)] s4).2)

theorem info44 : (Tryd.prog.info? 34).map (fun i => (i.zero, i.size, i.bytes)) = some (some (.agg #[.int .u64 0, .int .u64 0]), 2, 16) := by kernel_rfl

/-- A frame in its block, whose ranges lie in a row of their own, and which has no bytes. -/
def FrOwn (w : World) (g B : Nat) (f : Fr) : Prop :=
  ∃ A c sr, Row w g 27 (cellsF f (.slice A 0 c) sr) ∧ f.tok.length = 16 ∧ f.data = [] ∧ f.ranges.length ≤ 1000 ∧ w.ownsRow B 34 2 sr f.ranges.length (rcells f.ranges)

theorem FrOwn.at_ {w : World} {g B : Nat} {f : Fr} (h : FrOwn w g B f) : FrAt w g (fun b => B ≤ b) f := by
  obtain ⟨A, c, sr, h1, h2, h3, h4, h5⟩ := h
  obtain ⟨A', cap, rfl, hnc, _, hv⟩ := view_ownN h5
  exact ⟨_, _, h1, h2, ⟨A, c, by rw [h3]; rfl, by rw [h3]; exact Nat.zero_le _, by rw [h3]; exact ⟨rfl, fun h => absurd h (by simp)⟩⟩, ⟨A', cap, rfl, ⟨by omega, hnc⟩, by rw [Nat.mul_comm]; exact hv⟩⟩
theorem FrOwn.chg {w w' : World} {g r B : Nat} {f : Fr} (h : FrOwn w g B f) (hc : Chg (· = r) w w') (hg : g ≠ r) (hr : r < B) : FrOwn w' g B f := by
  obtain ⟨A, c, sr, h1, h2, h3, h4, h5⟩ := h
  refine ⟨A, c, sr, h1.chg hc hg, h2, h3, h4, h5.1, ?_⟩
  rcases h5.2 with h6 | ⟨k, cap, cur, e1, e2, e3, e4⟩
  · exact .inl h6
  · exact .inr ⟨k, cap, cur, e1, e2, (hc.block k (Array.getElem?_eq_some_iff.1 e3).1 (fun e => by have : k = r := e; omega)).trans e3, e4⟩

section
variable (f : Fr) (s : St) (r g B : Nat) (w : World) (Tr : Nat → Prop)

set_option maxRecDepth 100000 in
set_option maxHeartbeats 2000000 in
theorem readAcked_any (L : Lie w r g B Tr) (hs : RdS w r Tr s) (hf : FrAt w g (fun b => B ≤ b) f) (hdata : f.data = []) :
    Calls Tryd.prog 85 #[.pointer (some ⟨r, 0, none⟩), .pointer (some ⟨g, 0, none⟩)] w (ReadPost w r g B Tr (ackedM f s)) := by
  have HL := Lib.hid L
  have HF := Lib.hid hf
  have HI := Lib.hid (int_any w r Tr s hs L.ntr)
  have HMEM := Lib.hid hs.2
  generalize hpost : ackedM f s = post
  have HPOST := Lib.hid hpost
  have HDATA := Lib.hid hdata
  clear hs hf L hpost hdata
  go_enter Tryd.func85, Tryd.ntmps85
  go_wp2_with fail
  refine wp_scope_fwd 0 rfl ?_
  go_wp2_with fail
  refine HI.out.mono ?_
  rintro e w1 ⟨rfl, h1, c1⟩
  have L1 := Lib.hid (rdInt_lt s HMEM.out)
  have HI1 := Lib.hid (int_any w1 r Tr _ h1 HL.out.ntr)
  have M1 := Lib.hid h1.2
  have C1 := Lib.hid c1
  clear h1 c1
  go_wp2_with fail
  refine HI1.out.mono ?_
  rintro e w2 ⟨rfl, h1, c1⟩
  have L2 := Lib.hid (rdInt_lt _ M1.out)
  have HI2 := Lib.hid (int_any w2 r Tr _ h1 HL.out.ntr)
  have M2 := Lib.hid h1.2
  have C2 := Lib.hid (C1.out.trans c1)
  clear h1 c1
  go_wp2_with fail
  refine HI2.out.mono ?_
  rintro e w3 ⟨rfl, h1, c1⟩
  have L3 := Lib.hid (rdInt_lt _ M2.out)
  have HI3 := Lib.hid (int_any w3 r Tr _ h1 HL.out.ntr)
  have M3 := Lib.hid h1.2
  have C3 := Lib.hid (C2.out.trans c1)
  clear h1 c1
  go_wp2_with fail
  refine HI3.out.mono ?_
  rintro e w4 ⟨rfl, h1, c1⟩
  have L4 := Lib.hid (rdInt_lt _ M3.out)
  have C4 := Lib.hid (C3.out.trans c1)
  have R4 := Lib.hid h1
  have F4 := Lib.hid (HL.out.fr HF.out C4.out)
  clear h1 c1
  have HP : Hid (post = (if 16 ≤ (rdInt (rdInt (rdInt s).2).2).1 ∨ (rdInt s).1 < (rdInt (rdInt (rdInt (rdInt s).2).2).2).1 then (f, failSt 3 (rdInt (rdInt (rdInt (rdInt s).2).2).2).2) else ({ f with b := (rdInt (rdInt s).2).1, ranges := (ackLoop (rdInt (rdInt (rdInt s).2).2).1 ((rdInt s).1 - (rdInt (rdInt (rdInt (rdInt s).2).2).2).1) [((rdInt s).1 - (rdInt (rdInt (rdInt (rdInt s).2).2).2).1, (rdInt s).1)] (rdInt (rdInt (rdInt (rdInt s).2).2).2).2).1 }, (ackLoop (rdInt (rdInt (rdInt s).2).2).1 ((rdInt s).1 - (rdInt (rdInt (rdInt (rdInt s).2).2).2).1) [((rdInt s).1 - (rdInt (rdInt (rdInt (rdInt s).2).2).2).1, (rdInt s).1)] (rdInt (rdInt (rdInt (rdInt s).2).2).2).2).2))) := HPOST.out.symm
  have l1 := L1.out
  have l2 := L2.out
  have l3 := L3.out
  have l4 := L4.out
  generalize (rdInt (rdInt (rdInt (rdInt s).2).2).2).2 = s4 at *
  generalize (rdInt (rdInt (rdInt (rdInt s).2).2).2).1 = len at *
  generalize (rdInt (rdInt (rdInt s).2).2).1 = others at *
  generalize (rdInt (rdInt s).2).1 = delay at *
  generalize (rdInt s).1 = hi at *
  clear HI HI1 HI2 HI3 L1 L2 L3 L4 M1 M2 M3 C1 C2 C3 HPOST
  by_cases hbad : 16 ≤ others ∨ hi < len
  · have hp := HP.out
    rw [if_pos hbad] at hp
    have HPP := Lib.hid hp
    have HFL := Lib.hid (failS_any w4 r Tr s4 3 R4.out)
    clear hp
    by_cases h16 : 16 ≤ others
    · have h16' : (16 : Int) ≤ (others : Int) := by omega
      go_wp2_with fail
      go_step3
      simp only [Exit.then]
      refine jump_fwd ?_
      go_wp2_with fail
      refine HFL.out.mono ?_
      rintro e w5 ⟨rfl, h5, c5⟩
      go_wp2
      rw [HPP.out]
      exact bodyPost_ret (results_none rfl _ _ _) rfl ⟨rfl, h5, HL.out.fr F4.out c5, (C4.out.trans c5).mono (fun _ _ h => Or.inl h)⟩
    · have h16' : ¬ (16 : Int) ≤ (others : Int) := by omega
      have hlt : (hi : Int) < (len : Int) := by omega
      go_wp2_with fail
      go_step3
      simp only [Exit.then]
      refine jump_fwd ?_
      go_wp2_with fail
      refine HFL.out.mono ?_
      rintro e w5 ⟨rfl, h5, c5⟩
      go_wp2
      rw [HPP.out]
      exact bodyPost_ret (results_none rfl _ _ _) rfl ⟨rfl, h5, HL.out.fr F4.out c5, (C4.out.trans c5).mono (fun _ _ h => Or.inl h)⟩
  · have hp := HP.out
    rw [if_neg hbad] at hp
    have HPP := Lib.hid hp
    have h16' : ¬ (16 : Int) ≤ (others : Int) := by omega
    have hlt : ¬ (hi : Int) < (len : Int) := by omega
    have hd16 : decide ((16 : Int) ≤ (others : Int)) = false := by simp; omega
    have hdl : decide (hi < len) = false := by simp; omega
    have hw1 : IntKind.u64.wrap ((hi : Int) - (len : Int)) = ((hi - len : Nat) : Int) := by rw [show (hi : Int) - (len : Int) = ((hi - len : Nat) : Int) from by omega]; exact IntWalk.u64_in _ (by omega)
    have HW1 := Lib.hid hw1
    have hF4 := F4.out
    obtain ⟨sd, sr, hrow, hd⟩ := hF4
    have hc3 := (hrow.cell 3).trans (cF_3 f sd sr)
    have hc7 := (hrow.cell 7).trans (cF_7 f sd sr)
    have hz3 := hrow.frozen 3
    have hz7 := hrow.frozen 7
    have hgl : g < w4.heap.size := hrow.lt
    have HROW := Lib.hid hrow
    have HD := Lib.hid hd
    have HBAD : Hid (len ≤ hi ∧ others < 16) := ⟨by omega, by omega⟩
    clear hp hbad hw1 hrow hd
    go_wp2
    have elo : ((hi : Int) - (len : Int)) = ((hi - len : Nat) : Int) := by have := HBAD.out; omega
    rw [elo]
    have hg2 : Chg (· = g) w4 ((w4.setCell ⟨g, 3, none⟩ (.int .u64 delay)).setCell ⟨g, 7, none⟩ (.slice (some ⟨w4.heap.size, 0, none⟩) 1 1)) :=
      ((Chg.refl (· = g) _).setCell (p := ⟨g, 3, none⟩) (fun _ => rfl) _).setCell (p := ⟨g, 7, none⟩) (fun _ => rfl) _
    have hsz : ((w4.setCell ⟨g, 3, none⟩ (.int .u64 delay)).setCell ⟨g, 7, none⟩ (.slice (some ⟨w4.heap.size, 0, none⟩) 1 1)).heap.size = w4.heap.size := by simp
    have hrow5 := ((HROW.out.set 3 (.int .u64 delay)).set 7 (.slice (some ⟨w4.heap.size, 0, none⟩) 1 1))
    have hrd5 := HL.out.rd R4.out hg2
    generalize ((w4.setCell ⟨g, 3, none⟩ (.int .u64 delay)).setCell ⟨g, 7, none⟩ (.slice (some ⟨w4.heap.size, 0, none⟩) 1 1)) = W at *
    have ha := (Chg.refl none_ W).alloc (.cells #[.int .u64 ((hi - len : Nat) : Int), .int .u64 hi] 34)
    have hB4 : w.heap.size ≤ w4.heap.size := C4.out.size
    have hnew : Row (W.alloc (.cells #[.int .u64 ((hi - len : Nat) : Int), .int .u64 hi] 34)) w4.heap.size 34 [.int .u64 ((hi - len : Nat) : Int), .int .u64 hi] := by
      have := Row.new W 34 [.int .u64 ((hi - len : Nat) : Int), .int .u64 hi]
      rwa [hsz] at this
    have FO : FrOwn (W.alloc (.cells #[.int .u64 ((hi - len : Nat) : Int), .int .u64 hi] 34)) g w.heap.size { f with b := delay, ranges := [(hi - len, hi)] } := by
      obtain ⟨A, c, hsd, _, _⟩ := HD.out.data
      have hA := HDATA.out
      rw [hA] at hsd
      refine ⟨A, c, _, ?_, HD.out.tok, hA, by simp, own_rowN hnew hB4 rfl (by unfold maxLen; simp)⟩
      have := hrow5.chg ha (fun h => h)
      rw [hsd] at this
      exact this
    have RD : RdS (W.alloc (.cells #[.int .u64 ((hi - len : Nat) : Int), .int .u64 hi] 34)) r Tr s4 := hrd5.chg ha (fun h => h) (fun _ _ h => h)
    have CH : Chg (inRG r g) w (W.alloc (.cells #[.int .u64 ((hi - len : Nat) : Int), .int .u64 hi] 34)) :=
      (C4.out.mono (fun _ _ h => Or.inl h)).trans ((hg2.mono (fun _ _ h => Or.inr h)).trans (ha.mono (fun _ _ h => h.elim)))
    have hlo : hi - len < 4611686018427387904 := by omega
    clear ha hg2 hnew hB4 hc3 hc7 hz3 hz7 HROW HD F4 R4 elo HF hlt h16' hgl hsz hrow5 hrd5 hd16 hdl
    generalize (W.alloc (.cells #[.int .u64 ((hi - len : Nat) : Int), .int .u64 hi] 34)) = w5 at *
    generalize hlo0 : hi - len = lo0 at *
    have HO : Hid (others < 16) := HBAD.out.2
    clear hlo0 HBAD C4
    go_loopw [4, 41] (fun t i wr => ∃ (k lo : Nat) (l : List (Nat × Nat)) (s' : St), k ≤ others ∧ i = .int .u64 k ∧ t = .int .u64 lo ∧ lo < 4611686018427387904 ∧ l.length = k + 1 ∧ FrOwn wr g w.heap.size { f with b := delay, ranges := l } ∧ RdS wr r Tr s' ∧ Chg (inRG r g) w wr ∧ Hid (ackLoop others lo0 [(lo0, hi)] s4 = ackLoop (others - k) lo l s')) (fun _ i _ => others - (intOf i).toNat)
    case atStart => exact ⟨0, lo0, [(lo0, hi)], s4, by omega, rfl, rfl, hlo, rfl, FO, RD, CH, rfl⟩
    case round =>
      obtain ⟨k, lo, l, s', hk, rfl, rfl, hlo', hl, hfo, hrd, hch, heq⟩ := hrel
      clear FO RD CH
      by_cases hlt : k < others
      · have HI := Lib.hid (int_any wr r Tr s' hrd HL.out.ntr)
        have hk1 : (k : Int) < (others : Int) := by omega
        have L1 := Lib.hid (rdInt_lt s' hrd.2)
        have HFO := Lib.hid hfo
        have HCH := Lib.hid hch
        clear hfo hch hrd
        go_wp2_with fail
        refine HI.out.mono ?_
        rintro e w6 ⟨rfl, h6, c6⟩
        have HI2 := Lib.hid (int_any w6 r Tr _ h6 HL.out.ntr)
        have L2 := Lib.hid (rdInt_lt _ h6.2)
        have C6 := Lib.hid c6
        clear h6 c6
        go_wp2_with fail
        refine HI2.out.mono ?_
        rintro e w7 ⟨rfl, h7, c7⟩
        have hfo7 := HFO.out.chg (C6.out.trans c7) (fun e => HL.out.ne e.symm) (Nat.lt_of_lt_of_le HL.out.hr HL.out.hB)
        have HC7 := Lib.hid (HCH.out.trans ((C6.out.trans c7).mono (fun _ _ h => Or.inl h)))
        have HFO7 := Lib.hid hfo7
        have HR7 := Lib.hid h7
        have l1 := L1.out
        have l2 := L2.out
        have HQ : Hid (ackLoop others lo0 [(lo0, hi)] s4 = if lo < (rdInt s').1 + 2 + (rdInt (rdInt s').2).1 then (l, failSt 3 (rdInt (rdInt s').2).2) else ackLoop (others - (k + 1)) (lo - (rdInt s').1 - 2 - (rdInt (rdInt s').2).1) (l ++ [(lo - (rdInt s').1 - 2 - (rdInt (rdInt s').2).1, lo - (rdInt s').1 - 2)]) (rdInt (rdInt s').2).2) := by
          have := heq.out
          rw [show others - k = (others - (k + 1)) + 1 from by omega] at this
          exact this
        clear h7 c7 hfo7 heq
        generalize (rdInt (rdInt s').2).2 = s7 at *
        generalize (rdInt (rdInt s').2).1 = ln at *
        generalize (rdInt s').1 = gap at *
        clear HI HI2 L1 L2 C6 HFO HCH
        by_cases hbad : lo < gap + 2 + ln
        · have hq := HQ.out
          rw [if_pos hbad] at hq
          have HQ2 := Lib.hid hq
          have hbad' : (lo : Int) < (gap : Int) + 2 + (ln : Int) := by omega
          have HFL := Lib.hid (failS_any w7 r Tr s7 3 HR7.out)
          clear hq hbad
          go_wp2_with fail
          go_step3
          refine ⟨rfl, ?_⟩
          show Code.wp _ _ _ _ _
          go_wp2_with fail
          refine HFL.out.mono ?_
          rintro e w8 ⟨rfl, h8, c8⟩
          go_wp2
          rw [HPP.out, HQ2.out]
          exact bodyPost_ret (results_none rfl _ _ _) rfl ⟨rfl, h8, HL.out.fr (HFO7.out.at_.mono (fun b _ h => Nat.le_trans HL.out.hB h)) c8, HC7.out.trans (c8.mono (fun _ _ h => Or.inl h))⟩
        · have hq := HQ.out
          rw [if_neg hbad] at hq
          have HQ2 := Lib.hid hq
          have hbad' : ¬ (lo : Int) < (gap : Int) + 2 + (ln : Int) := by omega
          have hw1 : IntKind.u64.wrap ((lo : Int) - (gap : Int)) = (lo : Int) - (gap : Int) := IntWalk.u64_in _ (by omega)
          obtain ⟨A, c, sr, hrow, htok, hdat, hlen, hown⟩ := HFO7.out
          have hc7 := (hrow.cell 7).trans (cF_7 _ _ sr)
          have hz7 := hrow.frozen 7
          have hgl : g < w7.heap.size := hrow.lt
          have HROW := Lib.hid hrow
          have HTOK := Lib.hid htok
          have HDAT := Lib.hid hdat
          have HOWN := Lib.hid hown
          obtain ⟨i0, hinf, hi0, hi1, hi2⟩ := info_parts info44
          have hk15 : k < 15 := by have := HO.out; omega
          have HB7 : Hid (w.heap.size ≤ w7.heap.size) := HC7.out.size
          have hsub : lo - gap - 2 - ln = ((lo - gap - 2) - ln : Nat) := rfl
          have E1 : Hid ((lo : Int) - gap - 2 = ((lo - gap - 2 : Nat) : Int) ∧ (lo : Int) - gap - 2 - ln = ((lo - gap - 2 - ln : Nat) : Int)) := ⟨by omega, by omega⟩
          clear hq hbad hrow htok hdat hlen hown hsub hw1
          go_wp2_with (at_builtin; refine wpList_append_own_at _ rfl _ _ 24 rfl w.heap.size 34 i0 _ 2 16 Tryd.underlying24 hinf hi0 hi1 hi2 rfl (by omega) sr l.length (rcells l) rfl (ownsRow_chg HOWN.out ((Chg.refl none_ w7).alloc (.cells [.int .u64 ((lo : Int) - gap - 2 - ln), .int .u64 ((lo : Int) - gap - 2)].toArray 34))) ⟨w7.heap.size, 0, none⟩ 1 1 [.int .u64 ((lo : Int) - gap - 2 - ln), .int .u64 ((lo : Int) - gap - 2)] rfl rfl (cells_new w7 _ _) (by intro u hu; simp at hu; rcases hu with rfl | rfl <;> rfl) (by unfold maxLen; omega) (by omega) (by have := HB7.out; simp; omega) ?_; intro v' w8 hown8 hgrow8 _ _; have hchg : Chg (fun k => w.heap.size ≤ k) w7 w8 := ((Chg.refl (fun k => w.heap.size ≤ k) w7).alloc _).grown hgrow8 (fun k hk _ => (HOWN.out.lt k hk).1); have hrow8 := HROW.out.chg hchg (fun h => by have := HL.out.hg; have := HL.out.hB; omega); have hc8 := (hrow8.cell 7).trans (cF_7 _ _ sr); have hz8 := hrow8.frozen 7; obtain ⟨A8, cap8, rfl, g1, g2, hv8⟩ := view_ownN hown8)
          have hch9 : Chg (· = g) w8 (w8.setCell ⟨g, 7, none⟩ (.slice A8 (l.length + 1) cap8)) := (Chg.refl (· = g) _).setCell (p := ⟨g, 7, none⟩) (fun _ => rfl) _
          have hrow9 := hrow8.set 7 (.slice A8 (l.length + 1) cap8)
          have hown9 : (w8.setCell ⟨g, 7, none⟩ (.slice A8 (l.length + 1) cap8)).ownsRow w.heap.size 34 2 (.slice A8 (l.length + 1) cap8) (l.length + 1) (rcells l ++ [.int .u64 ((lo : Int) - gap - 2 - ln), .int .u64 ((lo : Int) - gap - 2)]) := by
            refine ⟨hown8.1, ?_⟩
            rcases hown8.2 with h6 | ⟨k', cap', cur, e1, e2, e3, e4⟩
            · exact .inl h6
            · exact .inr ⟨k', cap', cur, e1, e2, (hch9.block k' (Array.getElem?_eq_some_iff.1 e3).1 (fun e => by have : k' = g := e; have := HL.out.hg; have := HL.out.hB; omega)).trans e3, e4⟩
          have hrd8 := HR7.out.chg hchg (fun h => by have := HL.out.hr; have := HL.out.hB; omega) (fun b hb h => by have := (HL.out.tr b hb).1; have := HL.out.hB; omega)
          have hrd9 := HL.out.rd hrd8 hch9
          have hch8 : Chg (inRG r g) w w8 := HC7.out.andThen hchg (fun b hb h => by omega)
          rw [hl] at hch9 hrow9 hown9 hrd9
          go_roundw
          case rel =>
            refine ⟨k + 1, lo - gap - 2 - ln, l ++ [(lo - gap - 2 - ln, lo - gap - 2)], s7, by omega, by go_num, by rw [E1.out.2], by omega, by simp [hl], ?_, hrd9, hch8.trans (hch9.mono (fun _ _ h => Or.inr h)), HQ2.out⟩
            refine ⟨A, c, _, hrow9, HTOK.out, HDAT.out, by simp; omega, ?_⟩
            have e2 : rcells (l ++ [(lo - gap - 2 - ln, lo - gap - 2)]) = rcells l ++ [.int .u64 ((lo : Int) - gap - 2 - ln), .int .u64 ((lo : Int) - gap - 2)] := by
              rw [E1.out.2, E1.out.1]
              simp [rcells]
            show World.ownsRow _ _ _ _ _ (l ++ [(lo - gap - 2 - ln, lo - gap - 2)]).length (rcells (l ++ [(lo - gap - 2 - ln, lo - gap - 2)]))
            rw [e2, List.length_append, hl]
            exact hown9
          case measure => simp [intOf]; omega
      · have hkn : k = others := by omega
        subst hkn
        have hq := heq.out
        rw [Nat.sub_self] at hq
        have HQ := Lib.hid hq
        have HFO := Lib.hid hfo
        have HRD := Lib.hid hrd
        have HCH := Lib.hid hch
        clear hq heq hfo hrd hch
        go_wp2
        rw [HPP.out, HQ.out]
        exact bodyPost_ret (results_none rfl _ _ _) rfl ⟨rfl, HRD.out, HFO.out.at_.mono (fun b _ h => Nat.le_trans HL.out.hB h), HCH.out⟩
end
end Go.Proofs.YtlcffjmbfpdlbaaDoor
