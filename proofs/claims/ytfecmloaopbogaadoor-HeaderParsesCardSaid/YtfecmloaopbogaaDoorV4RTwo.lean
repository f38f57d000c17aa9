/- Layer 4 (header): the document's reader and a header that is read field by field. -/
import Derived.Test.YtfecmloaopbogaaDoorV4RStB
import Derived.Test.YtfecmloaopbogaaDoorV4RSt
import Derived.Test.YtfecmloaopbogaaDoorV4Step
namespace Go.Proofs.YtfecmloaopbogaaDoor
open Go.RowKit

/-- The document's reader and the header that is read into it. -/
structure RTwo (w : World) (g gh : Nat) (T : Nat → Prop) (bs : List Nat) (s : St) (h : Hd) (v : Four) : Prop where
  rd : RS w g T bs s
  row : Row w gh 25 (cellsH h v)
  ne : g ≠ gh
  Tg : ¬ T g
  Th : ¬ T gh
  sl : HdD w (fun b => b ≠ g ∧ gh < b) h v

section
variable {w w' : World} {g gh : Nat} {T : Nat → Prop} {bs : List Nat} {s s' : St} {h : Hd} {v : Four}
theorem RTwo.chg (x : RTwo w g gh T bs s h v) (hc : Chg none_ w w') : RTwo w' g gh T bs s h v :=
  ⟨x.rd.chg hc (fun h => h) (fun _ _ h => h), x.row.chg hc (fun h => h), x.ne, x.Tg, x.Th, x.sl.chg hc (fun _ _ h => h)⟩
theorem RTwo.read (x : RTwo w g gh T bs s h v) (hr : RS w' g T bs s') (hc : Chg (· = g) w w') : RTwo w' g gh T bs s' h v :=
  ⟨hr, x.row.chg hc (fun e => x.ne e.symm), x.ne, x.Tg, x.Th, x.sl.chg hc (fun _ hb e => hb.1 e)⟩
/-- One cell of the header is stored. -/
theorem RTwo.set (x : RTwo w g gh T bs s h v) (i : Nat) (u : Value) (h' : Hd) (v' : Four) (hrow : (cellsH h v).set i u = cellsH h' v') (hsl : ∀ w', Chg (· = gh) w w' → HdD w' (fun b => b ≠ g ∧ gh < b) h v → HdD w' (fun b => b ≠ g ∧ gh < b) h' v') :
    RTwo (w.setCell ⟨gh, i, none⟩ u) g gh T bs s h' v' := by
  have hcS := (Chg.refl (· = gh) w).setCell (p := ⟨gh, i, none⟩) (fun _ => rfl) u
  refine ⟨x.rd.chg hcS (fun e => x.ne e) (fun b hb e => x.Th (e ▸ hb)), hrow ▸ x.row.set i u, x.ne, x.Tg, x.Th, hsl _ hcS (x.sl.chg hcS (fun b hb e => by omega))⟩
theorem RTwo.set0 (x : RTwo w g gh T bs s h v) (l : Bool) : RTwo (w.setCell ⟨gh, 0, none⟩ (.bool l)) g gh T bs s { h with long := l } v := x.set 0 _ _ _ rfl (fun _ _ y => ⟨y.d, y.s, y.t, y.c⟩)
theorem RTwo.set1 (x : RTwo w g gh T bs s h v) (l : Bool) : RTwo (w.setCell ⟨gh, 1, none⟩ (.bool l)) g gh T bs s { h with phase := l } v := x.set 1 _ _ _ rfl (fun _ _ y => ⟨y.d, y.s, y.t, y.c⟩)
theorem RTwo.set2 (x : RTwo w g gh T bs s h v) (k : Int) : RTwo (w.setCell ⟨gh, 2, none⟩ (.int .i64 k)) g gh T bs s { h with kind := k } v := x.set 2 _ _ _ rfl (fun _ _ y => ⟨y.d, y.s, y.t, y.c⟩)
theorem RTwo.set3 (x : RTwo w g gh T bs s h v) (k : Nat) : RTwo (w.setCell ⟨gh, 3, none⟩ (.int .u32 (k : Nat))) g gh T bs s { h with version := k } v := x.set 3 _ _ _ rfl (fun _ _ y => ⟨y.d, y.s, y.t, y.c⟩)
theorem RTwo.set4 (x : RTwo w g gh T bs s h v) {A : Option Addr} {l : List Nat} {c : Nat} (hs : Beside w g gh A l c) : RTwo (w.setCell ⟨gh, 4, none⟩ (.slice A l.length c)) g gh T bs s { h with dst := l } { v with d := .slice A l.length c } :=
  x.set 4 _ _ _ rfl (fun _ hc y => ⟨hs.chg hc (fun b hb e => by omega), y.s, y.t, y.c⟩)
theorem RTwo.set5 (x : RTwo w g gh T bs s h v) {A : Option Addr} {l : List Nat} {c : Nat} (hs : Beside w g gh A l c) : RTwo (w.setCell ⟨gh, 5, none⟩ (.slice A l.length c)) g gh T bs s { h with src := l } { v with s := .slice A l.length c } :=
  x.set 5 _ _ _ rfl (fun _ hc y => ⟨y.d, hs.chg hc (fun b hb e => by omega), y.t, y.c⟩)
theorem RTwo.set6 (x : RTwo w g gh T bs s h v) {A : Option Addr} {l : List Nat} {c : Nat} (hs : Beside w g gh A l c) : RTwo (w.setCell ⟨gh, 6, none⟩ (.slice A l.length c)) g gh T bs s { h with token := l } { v with t := .slice A l.length c } :=
  x.set 6 _ _ _ rfl (fun _ hc y => ⟨y.d, y.s, hs.chg hc (fun b hb e => by omega), y.c⟩)
theorem RTwo.set7 (x : RTwo w g gh T bs s h v) {A : Option Addr} {l : List Nat} {c : Nat} (hs : Beside w g gh A l c) : RTwo (w.setCell ⟨gh, 7, none⟩ (.slice A l.length c)) g gh T bs s { h with cut := l } { v with c := .slice A l.length c } :=
  x.set 7 _ _ _ rfl (fun _ hc y => ⟨y.d, y.s, y.t, hs.chg hc (fun b hb e => by omega)⟩)
theorem RTwo.set8 (x : RTwo w g gh T bs s h v) (r : Int) : RTwo (w.setCell ⟨gh, 8, none⟩ (.int .i64 r)) g gh T bs s { h with rest := r } v := x.set 8 _ _ _ rfl (fun _ _ y => ⟨y.d, y.s, y.t, y.c⟩)

theorem byte_rtwo (x : RTwo w g gh T bs s h v) : Calls Tryd.prog 41 #[.pointer (some ⟨g, 0, none⟩)] w fun e w' =>
    e = .returned (.int .u8 ((rdByte s).1 : Nat)) ∧ RTwo w' g gh T bs (rdByte s).2 h v ∧ Chg (fun b => b = g ∨ b = gh) w w' :=
  (rbyte_st x.rd x.Tg).mono fun _ _ ⟨h1, h2, h3⟩ => ⟨h1, x.read h2 h3, h3.mono (fun _ _ h => .inl h)⟩
theorem int_rtwo (x : RTwo w g gh T bs s h v) : Calls Tryd.prog 44 #[.pointer (some ⟨g, 0, none⟩)] w fun e w' =>
    e = .returned (.int .u64 ((rdInt s).1 : Nat)) ∧ RTwo w' g gh T bs (rdInt s).2 h v ∧ Chg (fun b => b = g ∨ b = gh) w w' :=
  (rint_st x.rd x.Tg).mono fun _ _ ⟨h1, h2, h3⟩ => ⟨h1, x.read h2 h3, h3.mono (fun _ _ h => .inl h)⟩
theorem bytes_rtwo (x : RTwo w g gh T bs s h v) (n : Nat) : Calls Tryd.prog 42 #[.pointer (some ⟨g, 0, none⟩), .int .u64 n] w fun e w' =>
    ∃ A c, e = .returned (.slice A (rdBytes n s).1.length c) ∧ Beside w' g gh A (rdBytes n s).1 c ∧ RTwo w' g gh T bs (rdBytes n s).2 h v ∧ Chg (fun b => b = g ∨ b = gh) w w' :=
  (rbytes_st n x.rd x.Tg).mono fun _ _ ⟨A, c, h1, h2, h3, h4⟩ =>
    ⟨A, c, h1, ⟨A, c, rfl, rdBytes_len2 n s x.rd.len, h2.mono (fun b _ hb => by have := x.rd.lt; have := x.row.lt; omega)⟩, x.read h3 h4, h4.mono (fun _ _ h => .inl h)⟩
end
end Go.Proofs.YtfecmloaopbogaaDoor
