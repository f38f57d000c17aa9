/- Layer 4 (header): steps of a header that is read: the reader's calls, and what is stored. -/
import Derived.Test.YtfecmloaopbogaaDoorV3RdB
import Derived.Test.YtfecmloaopbogaaDoorV4Whose
namespace Go.Proofs.YtfecmloaopbogaaDoor
open Go.RowKit

section
variable {w w' : World} {g gh : Nat} {T : Nat → Prop} {s s' : St} {h : Hd} {v : Four}
theorem Two_.read (x : Two_ w g gh T s h v) (hr : RdS w' g T s') (hc : Chg (· = g) w w') : Two_ w' g gh T s' h v :=
  ⟨hr, x.row.chg hc (fun e => x.ne e.symm), x.ne, x.Tg, x.Th, x.sl.chg hc (fun _ hb e => hb.1 e)⟩
theorem Two_.chgS (_x : Two_ w g gh T s h v) (hc : Chg (· = g) w w') : Chg (fun b => b = g ∨ b = gh) w w' := hc.mono (fun _ _ h => .inl h)
/-- A slice that lies beside the reader and the header. -/
abbrev Beside (w : World) (g gh : Nat) (A : Option Addr) (l : List Nat) (c : Nat) : Prop := Sl w (fun b => b ≠ g ∧ gh < b) (.slice A l.length c) l
theorem Two_.gh_setCell (x : Two_ w g gh T s h v) (i : Nat) (u : Value) : RdS (w.setCell ⟨gh, i, none⟩ u) g T s ∧ HdD (w.setCell ⟨gh, i, none⟩ u) (fun b => b ≠ g ∧ gh < b) h v ∧ ∀ {A : Option Addr} {l : List Nat} {c : Nat}, Beside w g gh A l c → Beside (w.setCell ⟨gh, i, none⟩ u) g gh A l c :=
  have hcS := (Chg.refl (· = gh) w).setCell (p := ⟨gh, i, none⟩) (fun _ => rfl) u
  ⟨x.rd.setCell ⟨gh, i, none⟩ x.ne x.Th _, x.sl.chg hcS (fun b hb e => by omega), fun hs => hs.chg hcS (fun b hb e => by omega)⟩
theorem Two_.set4 (x : Two_ w g gh T s h v) {A : Option Addr} {l : List Nat} {c : Nat} (hs : Beside w g gh A l c) :
    Two_ (w.setCell ⟨gh, 4, none⟩ (.slice A l.length c)) g gh T s { h with dst := l } { v with d := .slice A l.length c } :=
  have y := x.gh_setCell 4 (.slice A l.length c)
  ⟨y.1, x.row.set 4 _, x.ne, x.Tg, x.Th, ⟨y.2.2 hs, y.2.1.s, y.2.1.t, y.2.1.c⟩⟩
theorem Two_.set5 (x : Two_ w g gh T s h v) {A : Option Addr} {l : List Nat} {c : Nat} (hs : Beside w g gh A l c) :
    Two_ (w.setCell ⟨gh, 5, none⟩ (.slice A l.length c)) g gh T s { h with src := l } { v with s := .slice A l.length c } :=
  have y := x.gh_setCell 5 (.slice A l.length c)
  ⟨y.1, x.row.set 5 _, x.ne, x.Tg, x.Th, ⟨y.2.1.d, y.2.2 hs, y.2.1.t, y.2.1.c⟩⟩
theorem Two_.set6 (x : Two_ w g gh T s h v) {A : Option Addr} {l : List Nat} {c : Nat} (hs : Beside w g gh A l c) :
    Two_ (w.setCell ⟨gh, 6, none⟩ (.slice A l.length c)) g gh T s { h with token := l } { v with t := .slice A l.length c } :=
  have y := x.gh_setCell 6 (.slice A l.length c)
  ⟨y.1, x.row.set 6 _, x.ne, x.Tg, x.Th, ⟨y.2.1.d, y.2.1.s, y.2.2 hs, y.2.1.c⟩⟩
theorem Two_.set7 (x : Two_ w g gh T s h v) {A : Option Addr} {l : List Nat} {c : Nat} (hs : Beside w g gh A l c) :
    Two_ (w.setCell ⟨gh, 7, none⟩ (.slice A l.length c)) g gh T s { h with cut := l } { v with c := .slice A l.length c } :=
  have y := x.gh_setCell 7 (.slice A l.length c)
  ⟨y.1, x.row.set 7 _, x.ne, x.Tg, x.Th, ⟨y.2.1.d, y.2.1.s, y.2.1.t, y.2.2 hs⟩⟩
theorem Two_.set8 (x : Two_ w g gh T s h v) (r : Int) :
    Two_ (w.setCell ⟨gh, 8, none⟩ (.int .i64 r)) g gh T s { h with rest := r } v :=
  have y := x.gh_setCell 8 (.int .i64 r)
  ⟨y.1, x.row.set 8 _, x.ne, x.Tg, x.Th, ⟨y.2.1.d, y.2.1.s, y.2.1.t, y.2.1.c⟩⟩

theorem byte_two (x : Two_ w g gh T s h v) : Calls Tryd.prog 33 #[.pointer (some ⟨g, 0, none⟩)] w fun e w' =>
    e = .returned (.int .u8 ((rdByte s).1 : Nat)) ∧ Two_ w' g gh T (rdByte s).2 h v ∧ Chg (fun b => b = g ∨ b = gh) w w' :=
  (byte_any w g T s x.rd x.Tg).mono fun _ _ ⟨h1, h2, h3⟩ => ⟨h1, x.read h2 h3, x.chgS h3⟩
theorem int_two (x : Two_ w g gh T s h v) : Calls Tryd.prog 53 #[.pointer (some ⟨g, 0, none⟩)] w fun e w' =>
    e = .returned (.int .u64 ((rdInt s).1 : Nat)) ∧ Two_ w' g gh T (rdInt s).2 h v ∧ Chg (fun b => b = g ∨ b = gh) w w' :=
  (int_any w g T s x.rd x.Tg).mono fun _ _ ⟨h1, h2, h3⟩ => ⟨h1, x.read h2 h3, x.chgS h3⟩
theorem rdBytes_len2 (n : Nat) (s : St) (hs : s.1.length ≤ 1000000) : (rdBytes n s).1.length ≤ 1000000 := by
  unfold rdBytes
  split
  · simp
  · split
    · simp; omega
    · simp
theorem bytes_two (x : Two_ w g gh T s h v) (n : Nat) : Calls Tryd.prog 46 #[.pointer (some ⟨g, 0, none⟩), .int .u64 n] w fun e w' =>
    ∃ A c, e = .returned (.slice A (rdBytes n s).1.length c) ∧ Beside w' g gh A (rdBytes n s).1 c ∧ Two_ w' g gh T (rdBytes n s).2 h v ∧ Chg (fun b => b = g ∨ b = gh) w w' :=
  (bytes_any w g T s n x.rd x.Tg).mono fun _ _ ⟨A, c, h1, h2, h3, h4⟩ =>
    ⟨A, c, h1, ⟨A, c, rfl, rdBytes_len2 n s x.rd.len, h2.mono (fun b _ hb => by have := x.rd.lt; have := x.row.lt; omega)⟩, x.read h3 h4, x.chgS h4⟩
theorem fail_two (x : Two_ w g gh T s h v) (n : Int) : Calls Tryd.prog 40 #[.pointer (some ⟨g, 0, none⟩), .int .i64 n] w fun e w' =>
    e = .returned (.tuple #[]) ∧ Two_ w' g gh T (failSt n s) h v ∧ Chg (fun b => b = g ∨ b = gh) w w' :=
  (failS_any w g T s n x.rd).mono fun _ _ ⟨h1, h2, h3⟩ => ⟨h1, x.read h2 h3, x.chgS h3⟩
end
end Go.Proofs.YtfecmloaopbogaaDoor
