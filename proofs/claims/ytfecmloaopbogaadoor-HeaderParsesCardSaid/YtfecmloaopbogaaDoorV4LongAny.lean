/- Layer 4 (header): what stands behind the first byte, long or short, as a plain function. -/
import Derived.Test.YtfecmloaopbogaaDoorV4Long
namespace Go.Proofs.YtfecmloaopbogaaDoor
open Go.RowKit

/-- What stands behind a long header's first byte. -/
def tokM (h : Hd) (s : St) : List Nat × St := if h.kind = 0 then rdBytes (rdInt s).1 (rdInt s).2 else (h.token, s)
def longM (h : Hd) (size : Nat) (s : St) : Hd × St :=
  let p := whoM h s
  let n := rdByte p.2
  let sr := rdBytes n.1 n.2
  let tk := tokM h sr.2
  let al := rdInt tk.2
  let h3 : Hd := { p.1 with src := sr.1, token := tk.1 }
  if al.1 < size then (h3, failSt 3 al.2)
  else if al.2.1.length < al.1 then (h3, failSt 2 al.2)
  else ({ h3 with cut := (rdBytes size al.2).1, rest := ((al.1 - size : Nat) : Int) }, (rdBytes size al.2).2)

theorem readLong_any (w : World) (g gh : Nat) (T : Nat → Prop) (s : St) (h : Hd) (v : Four) (x : Two_ w g gh T s h v) (size : Nat) (hsize : size ≤ 4) (hkind : h.kind = 0 ∨ h.kind = 2) :
    Calls Tryd.prog 36 #[.pointer (some ⟨g, 0, none⟩), .pointer (some ⟨gh, 0, none⟩), .int .u64 size] w fun e w' =>
      e = .returned (.tuple #[]) ∧ (∃ v', Two_ w' g gh T (longM h size s).2 (longM h size s).1 v') ∧ Chg (fun b => b = g ∨ b = gh) w w' := by
  unfold longM
  simp only
  have hp : (whoM h s).1.token = h.token := rfl
  rcases hkind with hk | hk
  · have et : tokM h (rdBytes (rdByte (whoM h s).2).1 (rdByte (whoM h s).2).2).2 = rdBytes (rdInt (rdBytes (rdByte (whoM h s).2).1 (rdByte (whoM h s).2).2).2).1 (rdInt (rdBytes (rdByte (whoM h s).2).1 (rdByte (whoM h s).2).2).2).2 := by unfold tokM; rw [if_pos hk]
    rw [et]
    split
    · rename_i hq
      exact readLong0_bad w g gh T s h v x size hsize hk _ _ rfl _ _ rfl _ rfl _ _ _ rfl rfl _ _ rfl hq
    · rename_i hq
      split
      · rename_i hq2
        exact readLong0_short w g gh T s h v x size hsize hk _ _ rfl _ _ rfl _ rfl _ _ _ rfl rfl _ _ rfl hq hq2
      · rename_i hq2
        exact readLong0_ok w g gh T s h v x size hsize hk _ _ rfl _ _ rfl _ rfl _ _ _ rfl rfl _ _ rfl _ rfl hq hq2
  · have et : tokM h (rdBytes (rdByte (whoM h s).2).1 (rdByte (whoM h s).2).2).2 = (h.token, (rdBytes (rdByte (whoM h s).2).1 (rdByte (whoM h s).2).2).2) := by unfold tokM; rw [if_neg (by rw [hk]; decide)]
    rw [et, ← hp]
    split
    · rename_i hq
      exact readLong2_bad w g gh T s h v x size hsize hk _ _ rfl _ _ rfl _ rfl _ _ rfl hq
    · rename_i hq
      split
      · rename_i hq2
        exact readLong2_short w g gh T s h v x size hsize hk _ _ rfl _ _ rfl _ rfl _ _ rfl hq hq2
      · rename_i hq2
        exact readLong2_ok w g gh T s h v x size hsize hk _ _ rfl _ _ rfl _ rfl _ _ rfl _ rfl hq hq2

/-- What stands behind a short header's first byte. -/
def shortM (h : Hd) (size : Nat) (s : St) : Hd × St :=
  let d := rdBytes 8 s
  let c := rdBytes size d.2
  ({ h with dst := d.1, cut := c.1, rest := ((c.2.1.length : Nat) : Int) }, c.2)

set_option maxRecDepth 100000 in
theorem readShort_at (w : World) (g gh : Nat) (T : Nat → Prop) (s : St) (h : Hd) (v : Four) (x : Two_ w g gh T s h v) (size : Nat) (d c : List Nat × St) (ed : rdBytes 8 s = d) (ec : rdBytes size d.2 = c) :
    Calls Tryd.prog 37 #[.pointer (some ⟨g, 0, none⟩), .pointer (some ⟨gh, 0, none⟩), .int .u64 size] w fun e w' =>
      e = .returned (.tuple #[]) ∧ (∃ v', Two_ w' g gh T c.2 { h with dst := d.1, cut := c.1, rest := ((c.2.1.length : Nat) : Int) } v') ∧ Chg (fun b => b = g ∨ b = gh) w w' := by
  have HW := Lib.hid (bytes_two x 8)
  rw [ed] at HW
  have EC := Lib.hid ec
  clear x ed ec
  go_enter Tryd.func37, Tryd.ntmps37
  go_wp2_with fail
  refine HW.out.mono ?_
  rintro e w1 ⟨A1, c1, rfl, b1, x1, hc1⟩
  have HT1 := Lib.hid x1
  have HB1 := Lib.hid b1
  have HC1 := Lib.hid hc1
  have hk4 := HT1.out.row.cell 4
  have hf4 := HT1.out.row.frozen 4
  rw [cH_4] at hk4
  clear x1 b1 hc1 HW
  go_wp2_with fail
  have HT2 := Lib.hid (HT1.out.set4 HB1.out)
  have HC2 := Lib.hid (HC1.out.setCell (p := ⟨gh, 4, none⟩) (fun _ => .inr rfl) (.slice A1 d.1.length c1))
  clear HT1 HB1 HC1 hk4 hf4
  generalize w1.setCell ⟨gh, 4, none⟩ (.slice A1 d.1.length c1) = w2 at *
  refine (bytes_two HT2.out size).mono ?_
  rw [EC.out]
  rintro e w3 ⟨A3, c3, rfl, b3, x3, hc3⟩
  have HT3 := Lib.hid x3
  have HB3 := Lib.hid b3
  have HC3 := Lib.hid (HC2.out.trans hc3)
  have hk7 := HT3.out.row.cell 7
  have hf7 := HT3.out.row.frozen 7
  rw [cH_7] at hk7
  clear x3 b3 hc3 HT2 HC2
  go_wp2_with fail
  have HT4 := Lib.hid (HT3.out.set7 HB3.out)
  have HC4 := Lib.hid (HC3.out.setCell (p := ⟨gh, 7, none⟩) (fun _ => .inr rfl) (.slice A3 c.1.length c3))
  clear HT3 HB3 HC3 hk7 hf7
  generalize w3.setCell ⟨gh, 7, none⟩ (.slice A3 c.1.length c3) = w4 at *
  refine (leftS_any w4 g T c.2 HT4.out.rd).mono ?_
  rintro e w5 ⟨rfl, rfl⟩
  have hk8 := HT4.out.row.cell 8
  have hf8 := HT4.out.row.frozen 8
  rw [cH_8] at hk8
  go_wp2_with fail
  go_end0
  exact ⟨rfl, ⟨_, HT4.out.set8 _⟩, HC4.out.setCell (p := ⟨gh, 8, none⟩) (fun _ => .inr rfl) _⟩
theorem readShort_any (w : World) (g gh : Nat) (T : Nat → Prop) (s : St) (h : Hd) (v : Four) (x : Two_ w g gh T s h v) (size : Nat) :
    Calls Tryd.prog 37 #[.pointer (some ⟨g, 0, none⟩), .pointer (some ⟨gh, 0, none⟩), .int .u64 size] w fun e w' =>
      e = .returned (.tuple #[]) ∧ (∃ v', Two_ w' g gh T (shortM h size s).2 (shortM h size s).1 v') ∧ Chg (fun b => b = g ∨ b = gh) w w' :=
  readShort_at w g gh T s h v x size _ _ rfl rfl
end Go.Proofs.YtfecmloaopbogaaDoor
