/- Layer 3 (frames): how many paddings stand one behind the other. -/
import Derived.Test.YtlcffjmbfpdlbaaDoorV3RdB
import Derived.Test.YtlcffjmbfpdlbaaDoorV3Read
namespace Go.Proofs.YtlcffjmbfpdlbaaDoor
open Go.RowKit

/-- How many of the first n bytes are 0, one behind the other. -/
def zc : Nat → List Nat → Nat
  | 0, _ => 0
  | _, [] => 0
  | n + 1, x :: xs => if x = 0 then zc n xs + 1 else 0

theorem zc_le : ∀ (n : Nat) (xs : List Nat), zc n xs ≤ n ∧ zc n xs ≤ xs.length
  | 0, _ => ⟨Nat.le_refl _, Nat.zero_le _⟩
  | _ + 1, [] => ⟨Nat.zero_le _, Nat.zero_le _⟩
  | n + 1, x :: xs => by
    have := zc_le n xs
    simp only [zc]
    split <;> simp <;> omega

/-- What paddings are read to: the number that the loop has counted. -/
def zerosS (n : Nat) (s : St) : Nat × St := if s.2 ≠ 0 then (0, s) else (zc n s.1, (s.1.drop (zc n s.1), 0))

theorem zerosS_0 (s : St) : zerosS 0 s = (0, s) := by
  obtain ⟨xs, bad⟩ := s
  unfold zerosS
  split
  · rfl
  · rename_i h
    have : bad = 0 := by simpa using h
    subst this
    simp [zc]
theorem zerosS_stop (n : Nat) (s : St) (h : (rdByte s).1 ≠ 0 ∨ (rdByte s).2.2 ≠ 0) : zerosS n s = (0, s) := by
  obtain ⟨xs, bad⟩ := s
  by_cases hb : bad = 0
  · subst hb
    cases xs with
    | nil => cases n <;> simp [zerosS, zc]
    | cons x xs =>
      have hx : x ≠ 0 := by simpa [rdByte] using h
      cases n <;> simp [zerosS, zc, hx]
  · simp [zerosS, hb]
theorem zerosS_step (n : Nat) (s : St) (h1 : (rdByte s).1 = 0) (h2 : (rdByte s).2.2 = 0) : zerosS (n + 1) s = ((zerosS n (rdByte s).2).1 + 1, (zerosS n (rdByte s).2).2) := by
  obtain ⟨xs, bad⟩ := s
  by_cases hb : bad = 0
  · subst hb
    cases xs with
    | nil => simp [rdByte] at h2
    | cons x xs =>
      have hx : x = 0 := by simpa [rdByte] using h1
      subst hx
      simp [zerosS, zc, rdByte]
  · exfalso
    simp [rdByte, hb] at h2

theorem FrAt.past {w w1 w2 : World} {B g : Nat} {f : Fr} (hf : FrAt w g (fun b => B ≤ b) f) (h1 : Chg none_ w w1) (h2 : Chg (· = w.heap.size) w1 w2) (hg : g < w.heap.size) : FrAt w2 g (fun b => B ≤ b) f := by
  have h0 : FrAt w g (fun b => B ≤ b ∧ b < w.heap.size) f := hf.mono (fun b hb h => ⟨h, hb⟩)
  exact ((h0.chg h1 (fun h => h) (fun _ _ h => h)).chg h2 (fun e => by have : g = w.heap.size := e; omega) (fun b hb e => by have : b = w.heap.size := e; omega)).mono (fun _ _ h => h.1)

theorem size76 : (Tryd.prog.info? 70).map (·.size) = some 2 := by kernel_rfl

section
variable (f : Fr) (s : St) (r g B : Nat) (w : World) (Tr : Nat → Prop)

set_option maxRecDepth 100000 in
set_option maxHeartbeats 1000000 in
theorem readZeros_any (L : Lie w r g B Tr) (hs : RdS w r Tr s) (hf : FrAt w g (fun b => B ≤ b) f) :
    Calls Tryd.prog 60 #[.pointer (some ⟨r, 0, none⟩), .pointer (some ⟨g, 0, none⟩)] w (ReadPost w r g B Tr ({ f with a := (zerosS 1199 s).1 + 1 }, (zerosS 1199 s).2)) := by
  have HL := Lib.hid L
  have HF := Lib.hid hf
  have HS := Lib.hid hs
  have hX : ∀ (a : Nat) (w1 : World), FrAt w1 g (fun b => B ≤ b) { f with a := a } → w1.cell? ⟨g, 2, none⟩ = some (.int .u64 (a : Nat)) ∧ w1.frozen? ⟨g, 2, none⟩ = false := fun a w1 ⟨sd, sr, h1, _⟩ => ⟨(h1.cell _).trans rfl, h1.frozen _⟩
  have HX := Lib.hid hX
  have HP : Hid (∀ (a n : Nat) (w1 : World), FrAt w1 g (fun b => B ≤ b) { f with a := a } → FrAt (w1.setCell ⟨g, 2, none⟩ (.int .u64 ((n : Nat) : Int))) g (fun b => B ≤ b) { f with a := n }) := fun a n w1 h => h.put (by have := L.hg; omega) .amount n
  obtain ⟨hc0, hz0⟩ := hX f.a w hf
  clear hX hs hf L
  go_enter Tryd.func60, Tryd.ntmps60
  go_wp2
  have hf1 := HP.out f.a 1 w HF.out
  have hch1 : Chg (· = g) w (w.setCell ⟨g, 2, none⟩ (.int .u64 ((1 : Nat) : Int))) := (Chg.refl (· = g) w).setCell (p := ⟨g, 2, none⟩) (fun _ => rfl) _
  have hrs1 := HL.out.rd HS.out hch1
  rw [show ((1 : Nat) : Int) = 1 from rfl] at hf1 hch1 hrs1
  generalize w.setCell ⟨g, 2, none⟩ (.int .u64 1) = w1 at hf1 hch1 hrs1 ⊢
  go_loopw [8] (fun _ wr => ∃ (k : Nat) (t : St), k ≤ 1199 ∧ FrAt wr g (fun b => B ≤ b) { f with a := k + 1 } ∧ RdS wr r Tr t ∧ Chg (inRG r g) w wr ∧ Hid (zerosS 1199 s = ((zerosS (1199 - k) t).1 + k, (zerosS (1199 - k) t).2))) (fun _ wr => 1200 - (intOf ((wr.cell? ⟨g, 2, none⟩).getD undef)).toNat)
  case atStart => exact ⟨0, s, by omega, hf1, hrs1, hch1.mono (fun _ _ h => Or.inr h), rfl⟩
  case round =>
    obtain ⟨k, t, hk, hfk, hrk, hchk, hzk⟩ := hrel
    obtain ⟨ha2, haz2⟩ := HX.out (k + 1) wr hfk
    have HFK := Lib.hid hfk
    have HRK := Lib.hid hrk
    have HCK := Lib.hid hchk
    by_cases hend : k = 1199
    · subst hend
      clear hfk hrk hchk
      go_wp2
      go_end0
      have hz := hzk.out
      rw [Nat.sub_self, zerosS_0] at hz
      rw [hz]
      exact ⟨rfl, HRK.out, by simpa using HFK.out, HCK.out⟩
    · have hk2 : ((k + 1 : Nat) : Int) < 1200 := by omega
      obtain ⟨⟨A, cap, hrow, hcap, hlen, hview, hbad⟩, hmem⟩ := hrk
      have hr0 := hrow.cell 0
      have hr1 := hrow.cell 1
      have hrz0 := hrow.frozen 0
      have hrz1 := hrow.frozen 1
      simp at hr0 hr1
      have HROW := Lib.hid hrow
      have hA := (Chg.refl none_ wr).alloc (.cells #[.slice A t.1.length cap, .int .i64 t.2] 70)
      have hn : RdS (wr.alloc (.cells #[.slice A t.1.length cap, .int .i64 t.2] 70)) wr.heap.size Tr t := ⟨⟨A, cap, Row.new wr _ [_, _], hcap, hlen, hview.chg hA (fun _ _ h => h), hbad⟩, hmem⟩
      have hTn : ¬ Tr wr.heap.size := fun h => by have := (HL.out.tr _ h).1; have := HL.out.hB; have := HCK.out.size; omega
      have HTN := Lib.hid hTn
      have HBY := Lib.hid (byte_any _ wr.heap.size Tr t hn hTn)
      have HA := Lib.hid hA
      have hrlt := hrow.lt
      have hglt : g < wr.heap.size := by have := HL.out.hg; have := HL.out.hB; have := HCK.out.size; omega
      have hb256 := (rdByte_mem t hmem).1
      clear hfk hchk hrow hview hmem hbad hn hTn hA
      go_wp2_with fail
      refine HBY.out.mono ?_
      rintro e w2 ⟨rfl, hrs2, hch2⟩
      -- what is there behind the byte
      have hfr2 : FrAt w2 g (fun b => B ≤ b) { f with a := k + 1 } := HFK.out.past HA.out hch2 hglt
      have hrd2 : RdS w2 r Tr t := (HRK.out.chg HA.out (fun h => h) (fun _ _ h => h)).chg hch2 (fun e => by have : r = wr.heap.size := e; omega) (fun b hb e => HTN.out (e ▸ hb))
      have hc2 : Chg (inRG r g) w w2 := HCK.out.andThen (HA.out.andThen hch2 (fun b hb e => by have : b = wr.heap.size := e; omega)) (fun _ _ h => h.elim)
      by_cases hz : (rdByte t).1 = 0
      · have hne : ((((rdByte t).1 : Nat) : Int) != 0) = false := by simpa using hz
        have HBD := Lib.hid (badS_any w2 wr.heap.size Tr (rdByte t).2 hrs2)
        by_cases hbz : (rdByte t).2.2 = 0
        · have hzk2 := hzk.out
          rw [show 1199 - k = (1198 - k) + 1 from by omega, zerosS_step _ t hz hbz] at hzk2
          obtain ⟨⟨A2, cap2, hrow2, hcap2, hlen2, hview2, hbad2⟩, hmem2⟩ := hrs2
          have hbn : (((rdByte t).2.2) != 0) = false := by simpa using hbz
          have HR2 : Hid (∀ w3, Chg (fun b => b = r) w2 w3 → Row w3 r 70 [.slice A2 (rdByte t).2.1.length cap2, .int .i64 (rdByte t).2.2] → RdS w3 r Tr (rdByte t).2) := fun w3 hc hr => ⟨⟨A2, cap2, hr, hcap2, hlen2, hview2.chg hc (fun b hb e => (HL.out.tr b hb).2.1 e), hbad2⟩, hmem2⟩
          have hn0 := hrow2.cell 0
          have hn1 := hrow2.cell 1
          simp at hn0 hn1
          have hrne : r ≠ wr.heap.size := by omega
          have hROW2 : Row w2 r 70 [.slice A t.1.length cap, .int .i64 t.2] := (HROW.out.chg HA.out (fun h => h)).chg hch2 (fun e => hrne e)
          have hw0 := hROW2.cell 0
          have hw1 := hROW2.cell 1
          have hwz0 := hROW2.frozen 0
          have hwz1 := hROW2.frozen 1
          simp at hw0 hw1
          have HROW2 := Lib.hid hROW2
          have hlen3 : r < w2.heap.size := hROW2.lt
          obtain ⟨hg2, hgz2⟩ := HX.out (k + 1) w2 hfr2
          have HFR := Lib.hid hfr2
          have HC2 := Lib.hid hc2
          have HZ := Lib.hid hzk2
          have hrg := HL.out.ne
          clear hfr2 hrd2 hc2 hz hch2 hzk hzk2 hrow2 hview2 hmem2 hROW2 hbad2
          go_wp2_with fail
          refine HBD.out.mono ?_
          rintro e w' ⟨rfl, rfl⟩
          go_wp2_with fail
          have hch3 : Chg (fun b => b = r) w2 ((w2.setCell ⟨r, 0, none⟩ (.slice A2 (rdByte t).2.1.length cap2)).setCell ⟨r, 1, none⟩ (.int .i64 0)) := ((Chg.refl (fun b => b = r) w2).setCell (p := ⟨r, 0, none⟩) (fun _ => rfl) _).setCell (p := ⟨r, 1, none⟩) (fun _ => rfl) _
          have hrow3 := (HROW2.out.set 0 (.slice A2 (rdByte t).2.1.length cap2)).set 1 (.int .i64 0)
          have hrd3 := HR2.out _ hch3 (by rw [hbz]; exact hrow3)
          have hfr3 := HL.out.fr HFR.out hch3
          have hch4 : Chg (· = g) ((w2.setCell ⟨r, 0, none⟩ (.slice A2 (rdByte t).2.1.length cap2)).setCell ⟨r, 1, none⟩ (.int .i64 0)) (((w2.setCell ⟨r, 0, none⟩ (.slice A2 (rdByte t).2.1.length cap2)).setCell ⟨r, 1, none⟩ (.int .i64 0)).setCell ⟨g, 2, none⟩ (.int .u64 ((k + 1 + 1 : Nat) : Int))) := (Chg.refl (· = g) _).setCell (p := ⟨g, 2, none⟩) (fun _ => rfl) _
          have hfr4 := HP.out (k + 1) (k + 1 + 1) _ hfr3
          have hcell4 := (HX.out (k + 1 + 1) _ hfr4).1
          go_roundw
          case rel =>
            refine ⟨k + 1, (rdByte t).2, by omega, ?_, ?_, ?_, ?_⟩
            · simpa using hfr4
            · have := HL.out.rd hrd3 hch4
              simpa using this
            · have := (HC2.out.trans (hch3.mono (fun _ _ h => Or.inl h))).trans (hch4.mono (fun _ _ h => Or.inr h))
              simpa using this
            · have hz := HZ.out
              rw [hz, show 1199 - (k + 1) = 1198 - k from by omega]
              show _ = _
              congr 1
              omega
          case measure =>
            rw [ha2]
            have : ((((w2.setCell ⟨r, 0, none⟩ (.slice A2 (rdByte t).2.1.length cap2)).setCell ⟨r, 1, none⟩ (.int .i64 0)).setCell ⟨g, 2, none⟩ (.int .u64 ((k : Int) + 1 + 1))).cell? ⟨g, 2, none⟩) = some (.int .u64 ((k + 1 + 1 : Nat) : Int)) := by simpa using hcell4
            rw [this]
            simp [intOf]
            omega
        · have hbn : (((rdByte t).2.2) != 0) = true := by simpa using hbz
          have HFR := Lib.hid hfr2
          have HRD := Lib.hid hrd2
          have HC2 := Lib.hid hc2
          have hzk2 := hzk.out
          rw [zerosS_stop _ t (.inr hbz)] at hzk2
          have HZ := Lib.hid hzk2
          clear hfr2 hrd2 hc2 hz hrs2 hch2 hzk hzk2 hbz
          go_wp2_with fail
          refine HBD.out.mono ?_
          rintro e w' ⟨rfl, rfl⟩
          go_wp2
          go_end0
          rw [HZ.out]
          exact ⟨rfl, HRD.out, by simpa using HFR.out, HC2.out⟩
      · have hne : ((((rdByte t).1 : Nat) : Int) != 0) = true := by simpa using hz
        have HFR := Lib.hid hfr2
        have HRD := Lib.hid hrd2
        have HC2 := Lib.hid hc2
        have hzk2 := hzk.out
        rw [zerosS_stop _ t (.inl hz)] at hzk2
        have HZ := Lib.hid hzk2
        clear hfr2 hrd2 hc2 hz hrs2 hch2 hzk hzk2
        go_wp2
        go_end0
        rw [HZ.out]
        exact ⟨rfl, HRD.out, by simpa using HFR.out, HC2.out⟩
end
end Go.Proofs.YtlcffjmbfpdlbaaDoor
