/- Layer 10 (keys): two rings, their own keys and the earlier ones, in memory: what the law KeysAcross keeps. -/
import Derived.Test.YtfpflhcabjcamaaDoorV10Across
import Derived.Test.YtfpflhcabjcamaaDoorV10Alive
import Derived.Test.YtfpflhcabjcamaaDoorAppN
namespace Go.Proofs.YtfpflhcabjcamaaDoor
open Go.RowKit

theorem LvAt.mono2 {w : World} {T T' : Nat → Prop} {o : Option Lv} {a b c : Option Nat} (h : LvAt w T o a b c) (hT : ∀ b, b < w.heap.size → T b → T' b) : LvAt w T' o a b c := by
  cases o with
  | none => exact h
  | some l =>
    obtain ⟨h1, h2, x, y, h3, h4, h5, h6, h7, h8, h9⟩ := h
    refine ⟨h1, h2, x, y, h3, h4, hT x h7.lt h5, hT y h8.lt h6, h7, h8, ?_⟩
    cases ho : l.old with
    | none => rw [ho] at h9; exact h9
    | some q =>
      rw [ho] at h9
      obtain ⟨k1, z, k2, k3, k4⟩ := h9
      exact ⟨k1, z, k2, hT z k4.lt k3, k4⟩
theorem RingAt.mono2 {w : World} {g : Nat} {T T' : Nat → Prop} {r : Rg} (h : RingAt w g T r) (hT : ∀ b, b < w.heap.size → T b → T' b) : RingAt w g T' r := by
  obtain ⟨a0, b0, c0, a1, b1, c1, h1, h2, h3⟩ := h
  exact ⟨a0, b0, c0, a1, b1, c1, h1, h2.mono2 hT, h3.mono2 hT⟩

theorem own_chgN {w w' : World} {S : Nat → Prop} {base n size : Nat} {e : TypeId} {v : Value} {xs : List Value} (h : w.ownsRow base e size v n xs) (hc : Chg S w w') (hs : ∀ b, v.ownBlock = some b → ¬ S b) : w'.ownsRow base e size v n xs := by
  refine ⟨h.1, ?_⟩
  rcases h.2 with h2 | ⟨g, cap, cur, h1, hb, h2, h3⟩
  · exact .inl h2
  · exact .inr ⟨g, cap, cur, h1, hb, (hc.block g (Array.getElem?_eq_some_iff.1 h2).1 (hs g (by rw [h1]; rfl))).trans h2, h3⟩

/-- The cells of a side's earlier keys. -/
def pastC (C S : List Nat) (n : Nat) : Nat → List Value
  | 0 => []
  | t + 1 => pastC C S n t ++ cellsS (ownN C S n t)
/-- Where all lies: the rings, the slice of rings, the slice of own keys, the array of earlier ones. -/
structure Pl where
  (gA gB gx go gp base : Nat)
/-- The law's memory: ring 0 behind t0 updates, ring 1 behind t1, own and earlier keys of the two behind p0 and p1. -/
structure InvB (C S : List Nat) (q : Pl) (t0 t1 p0 p1 : Nat) (v0 v1 : Value) (P : Nat → Prop) (w : World) : Prop where
  r0 : RingAt w q.gA P (rgN C S 0 t0)
  r1 : RingAt w q.gB P (rgN C S 1 t1)
  rx : Row w q.gx 29 [ptr (some q.gA), ptr (some q.gB)]
  ro : Row w q.go 36 (cellsS (ownN C S 0 p0) ++ cellsS (ownN C S 1 p1))
  rp : Row w q.gp 39 [v0, v1]
  w0 : w.ownsRow q.base 36 61 v0 p0 (pastC C S 0 p0)
  w1 : w.ownsRow q.base 36 61 v1 p1 (pastC C S 1 p1)
  lt : ∀ b, P b → b < w.heap.size
  ne : ∀ b, P b → b ≠ q.gA ∧ b ≠ q.gB ∧ b ≠ q.gx ∧ b ≠ q.go ∧ b ≠ q.gp
  nv : ∀ b, P b → v0.ownBlock ≠ some b ∧ v1.ownBlock ≠ some b
  vv : ∀ b, v0.ownBlock = some b → v1.ownBlock ≠ some b
  pl : q.gA < q.gB ∧ q.gB < q.gx ∧ q.gx < q.go ∧ q.go < q.gp ∧ q.gp < q.base ∧ q.base ≤ w.heap.size
def Inv (C S : List Nat) (q : Pl) (t0 t1 p0 p1 : Nat) (w : World) : Prop := ∃ v0 v1 P, InvB C S q t0 t1 p0 p1 v0 v1 P w

section
variable {C S : List Nat} {q : Pl} {t0 t1 p0 p1 : Nat} {v0 v1 : Value} {P : Nat → Prop} {w w' : World}
theorem InvB.quiet (h : InvB C S q t0 t1 p0 p1 v0 v1 P w) (hc : Chg none_ w w') : InvB C S q t0 t1 p0 p1 v0 v1 P w' where
  r0 := h.r0.quiet hc
  r1 := h.r1.quiet hc
  rx := h.rx.chg hc (fun h => h)
  ro := h.ro.chg hc (fun h => h)
  rp := h.rp.chg hc (fun h => h)
  w0 := own_chgN h.w0 hc (fun _ _ h => h)
  w1 := own_chgN h.w1 hc (fun _ _ h => h)
  lt := fun b hb => Nat.lt_of_lt_of_le (h.lt b hb) hc.size
  ne := h.ne
  nv := h.nv
  vv := h.vv
  pl := ⟨h.pl.1, h.pl.2.1, h.pl.2.2.1, h.pl.2.2.2.1, h.pl.2.2.2.2.1, Nat.le_trans h.pl.2.2.2.2.2 hc.size⟩
theorem Inv.quiet (h : Inv C S q t0 t1 p0 p1 w) (hc : Chg none_ w w') : Inv C S q t0 t1 p0 p1 w' := by
  obtain ⟨v0, v1, P, h⟩ := h
  exact ⟨v0, v1, P, h.quiet hc⟩
/-- Ring 0 has turned into another one. -/
theorem InvB.ring0 {t0' : Nat} (h : InvB C S q t0 t1 p0 p1 v0 v1 P w) (hc : Chg (· = q.gA) w w') (hr : RingAt w' q.gA (fun b => P b ∨ w.heap.size ≤ b) (rgN C S 0 t0')) : Inv C S q t0' t1 p0 p1 w' := by
  have hp := h.pl
  have b0 : ∀ b, v0.ownBlock = some b → q.base ≤ b ∧ b < w.heap.size := fun b hb => h.w0.lt b hb
  have b1 : ∀ b, v1.ownBlock = some b → q.base ≤ b ∧ b < w.heap.size := fun b hb => h.w1.lt b hb
  refine ⟨v0, v1, fun b => (P b ∨ w.heap.size ≤ b) ∧ b < w'.heap.size, ?_⟩
  exact {
    r0 := hr.mono2 (fun b hb hT => ⟨hT, hb⟩)
    r1 := (h.r1.chg hc (fun e => by omega) (fun b hb e => (h.ne b hb).1 e)).mono2 (fun b hb hT => ⟨.inl hT, hb⟩)
    rx := h.rx.chg hc (fun e => by omega)
    ro := h.ro.chg hc (fun e => by omega)
    rp := h.rp.chg hc (fun e => by omega)
    w0 := own_chgN h.w0 hc (fun b hb e => by have := b0 b hb; omega)
    w1 := own_chgN h.w1 hc (fun b hb e => by have := b1 b hb; omega)
    lt := fun b hb => hb.2
    ne := fun b hb => by
      rcases hb.1 with hb1 | hb1
      · exact h.ne b hb1
      · exact ⟨by omega, by omega, by omega, by omega, by omega⟩
    nv := fun b hb => by
      rcases hb.1 with hb1 | hb1
      · exact h.nv b hb1
      · exact ⟨fun e => by have := b0 b e; omega, fun e => by have := b1 b e; omega⟩
    vv := h.vv
    pl := ⟨hp.1, hp.2.1, hp.2.2.1, hp.2.2.2.1, hp.2.2.2.2.1, Nat.le_trans hp.2.2.2.2.2 hc.size⟩ }
/-- Ring 1 has turned into another one. -/
theorem InvB.ring1 {t1' : Nat} (h : InvB C S q t0 t1 p0 p1 v0 v1 P w) (hc : Chg (· = q.gB) w w') (hr : RingAt w' q.gB (fun b => P b ∨ w.heap.size ≤ b) (rgN C S 1 t1')) : Inv C S q t0 t1' p0 p1 w' := by
  have hp := h.pl
  have b0 : ∀ b, v0.ownBlock = some b → q.base ≤ b ∧ b < w.heap.size := fun b hb => h.w0.lt b hb
  have b1 : ∀ b, v1.ownBlock = some b → q.base ≤ b ∧ b < w.heap.size := fun b hb => h.w1.lt b hb
  refine ⟨v0, v1, fun b => (P b ∨ w.heap.size ≤ b) ∧ b < w'.heap.size, ?_⟩
  exact {
    r1 := hr.mono2 (fun b hb hT => ⟨hT, hb⟩)
    r0 := (h.r0.chg hc (fun e => by omega) (fun b hb e => (h.ne b hb).2.1 e)).mono2 (fun b hb hT => ⟨.inl hT, hb⟩)
    rx := h.rx.chg hc (fun e => by omega)
    ro := h.ro.chg hc (fun e => by omega)
    rp := h.rp.chg hc (fun e => by omega)
    w0 := own_chgN h.w0 hc (fun b hb e => by have := b0 b hb; omega)
    w1 := own_chgN h.w1 hc (fun b hb e => by have := b1 b hb; omega)
    lt := fun b hb => hb.2
    ne := fun b hb => by
      rcases hb.1 with hb1 | hb1
      · exact h.ne b hb1
      · exact ⟨by omega, by omega, by omega, by omega, by omega⟩
    nv := fun b hb => by
      rcases hb.1 with hb1 | hb1
      · exact h.nv b hb1
      · exact ⟨fun e => by have := b0 b e; omega, fun e => by have := b1 b e; omega⟩
    vv := h.vv
    pl := ⟨hp.1, hp.2.1, hp.2.2.1, hp.2.2.2.1, hp.2.2.2.2.1, Nat.le_trans hp.2.2.2.2.2 hc.size⟩ }
theorem InvB.tNew0 (h : InvB C S q t0 t1 p0 p1 v0 v1 P w) : ¬ (P q.gA ∨ w.heap.size ≤ q.gA) := by
  have hp := h.pl
  rintro (h1 | h1)
  · exact (h.ne _ h1).1 rfl
  · omega
theorem InvB.tNew1 (h : InvB C S q t0 t1 p0 p1 v0 v1 P w) : ¬ (P q.gB ∨ w.heap.size ≤ q.gB) := by
  have hp := h.pl
  rintro (h1 | h1)
  · exact (h.ne _ h1).2.1 rfl
  · omega

/-- Where side n's ring lies. -/
def Pl.ring (q : Pl) (n : Nat) : Nat := if n = 0 then q.gA else q.gB
def upT (n : Nat) (t0 t1 : Nat) : Nat × Nat := if n = 0 then (t0 + 1, t1) else (t0, t1 + 1)
theorem turn_inv (n : Nat) (hn : n ≤ 1) (h : Inv C S q t0 t1 p0 p1 w) (hK : KTab w) : Calls Tryd.prog 9 #[.pointer (some ⟨q.ring n, 0, none⟩)] w fun e w' => e = .returned (.bool true) ∧ Inv C S q (upT n t0 t1).1 (upT n t0 t1).2 p0 p1 w' ∧ Chg (· = q.ring n) w w' := by
  obtain ⟨v0, v1, P, h⟩ := h
  have hn2 : n = 0 ∨ n = 1 := by omega
  rcases hn2 with rfl | rfl
  · refine (TurnY_any q.gA (fun b => P b ∨ w.heap.size ≤ b) _ _ w (h.r0.mono2 (fun b _ hb => .inl hb)) rfl h.tNew0 (fun b hb => .inr hb) hK).mono ?_
    rintro e w' ⟨rfl, hr, hc⟩
    exact ⟨rfl, h.ring0 (t0' := t0 + 1) hc hr, hc⟩
  · refine (TurnY_any q.gB (fun b => P b ∨ w.heap.size ≤ b) _ _ w (h.r1.mono2 (fun b _ hb => .inl hb)) rfl h.tNew1 (fun b hb => .inr hb) hK).mono ?_
    rintro e w' ⟨rfl, hr, hc⟩
    exact ⟨rfl, h.ring1 (t1' := t1 + 1) hc hr, hc⟩
/-- Ring n's updates. -/
def tOf (n t0 t1 : Nat) : Nat := if n = 0 then t0 else t1
theorem phase_inv (n : Nat) (hn : n ≤ 1) (h : Inv C S q t0 t1 p0 p1 w) : Calls Tryd.prog 14 #[.pointer (some ⟨q.ring n, 0, none⟩)] w fun e w' => e = .returned (.bool (decide (tOf n t0 t1 % 2 = 1))) ∧ Chg none_ w w' := by
  obtain ⟨v0, v1, P, h⟩ := h
  have hn2 : n = 0 ∨ n = 1 := by omega
  rcases hn2 with rfl | rfl
  · have := Phase_any q.gA P _ w h.r0
    rwa [rgN_phase] at this
  · have := Phase_any q.gB P _ w h.r1
    rwa [rgN_phase] at this
theorem seal_inv (n : Nat) (hn : n ≤ 1) (i : Int) (text : List Nat) (T2 : Nat → Prop) (A' : Option Addr) (cap' : Nat) (h : Inv C S q t0 t1 p0 p1 w) (ht : View w T2 A' text.length (u8s text)) (htl : text.length ≤ 60) (htb : ∀ x ∈ text, x < 256) : Calls Tryd.prog 11 #[.pointer (some ⟨q.ring n, 0, none⟩), .int .i64 1, .int .i64 i, .slice none 0 0, .slice A' text.length cap'] w fun e w' => ∃ A c, e = .returned (.slice A (text.length + 16) c) ∧ text.length + 16 ≤ c ∧ View w' (fun b => w.heap.size ≤ b) A (text.length + 16) (u8s (ctN C S n (tOf n t0 t1) i text)) ∧ Chg none_ w w' := by
  obtain ⟨v0, v1, P, h⟩ := h
  have fin : ∀ {t : Nat} {e : Ending} {w' : World}, (∃ v, e = .returned v ∧ Owned w' w.heap.size v (ctN C S n t i text) ∧ Chg none_ w w') → ∃ A c, e = .returned (.slice A (text.length + 16) c) ∧ text.length + 16 ≤ c ∧ View w' (fun b => w.heap.size ≤ b) A (text.length + 16) (u8s (ctN C S n t i text)) ∧ Chg none_ w w' := by
    rintro t e w' ⟨v, rfl, ho, hc⟩
    obtain ⟨A, c, rfl, h1, _, h2⟩ := ho.view
    rw [ctN_len] at h1 h2 ⊢
    exact ⟨A, c, rfl, h1, h2, hc⟩
  have hn2 : n = 0 ∨ n = 1 := by omega
  rcases hn2 with rfl | rfl
  · exact (RSealS_1 q.gA P _ _ i [] text (fun _ => True) T2 none A' 0 cap' w h.r0 rfl (View.none_ _ _ _) (Nat.le_refl _) (by decide) (by simp) ht (by omega) htb).mono fun e w' h => fin h
  · exact (RSealS_1 q.gB P _ _ i [] text (fun _ => True) T2 none A' 0 cap' w h.r1 rfl (View.none_ _ _ _) (Nat.le_refl _) (by decide) (by simp) ht (by omega) htb).mono fun e w' h => fin h
/-- What side n seals the other one opens: both as far. -/
theorem open_same (n t : Nat) (hn : n ≤ 1) (i : Int) (text : List Nat) (c : Nat) (T2 : Nat → Prop) (A' : Option Addr) (h : Inv C S q t t p0 p1 w) (ht : View w T2 A' (text.length + 16) (u8s (ctN C S n t i text))) (hc : text.length + 16 ≤ c) (htl : text.length ≤ 60) (htb : ∀ x ∈ text, x < 256) :
    Calls Tryd.prog 13 #[.pointer (some ⟨q.ring (1 - n), 0, none⟩), .int .i64 1, .bool (decide (t % 2 = 1)), .int .i64 i, .slice none 0 0, .slice A' (text.length + 16) c] w fun e w' => ∃ A c, e = .returned (.tuple #[.slice A text.length c, .int .i64 0]) ∧ View w' (fun b => w.heap.size ≤ b) A text.length (u8s text) ∧ Inv C S q t t p0 p1 w' ∧ Chg (· = q.ring (1 - n)) w w' := by
  obtain ⟨v0, v1, P, h⟩ := h
  have hn2 : n = 0 ∨ n = 1 := by omega
  rcases hn2 with rfl | rfl
  · refine (across_same C S 0 t i text q.gB c (fun b => P b ∨ w.heap.size ≤ b) T2 A' w (by decide) (h.r1.mono2 (fun b _ hb => .inl hb)) h.tNew1 ht hc htl htb).mono ?_
    rintro e w' ⟨v, rfl, ho, hr, hc2⟩
    obtain ⟨A, c2, rfl, _, _, h2⟩ := ho.view
    exact ⟨A, c2, rfl, h2, h.ring1 hc2 hr, hc2⟩
  · refine (across_same C S 1 t i text q.gA c (fun b => P b ∨ w.heap.size ≤ b) T2 A' w (by decide) (h.r0.mono2 (fun b _ hb => .inl hb)) h.tNew0 ht hc htl htb).mono ?_
    rintro e w' ⟨v, rfl, ho, hr, hc2⟩
    obtain ⟨A, c2, rfl, _, _, h2⟩ := ho.view
    exact ⟨A, c2, rfl, h2, h.ring0 hc2 hr, hc2⟩
/-- Side n is one update ahead: the other one follows. -/
theorem open_behind (n t : Nat) (hn : n ≤ 1) (i : Int) (text : List Nat) (c : Nat) (T2 : Nat → Prop) (A' : Option Addr) (h : Inv C S q (upT n t t).1 (upT n t t).2 p0 p1 w) (hK : KTab w) (hpast : ∀ m, m < t + 1 → (openK (ownN C S n m) i [] (ctN C S n (t + 1) i text)).2 ≠ 0) (ht : View w T2 A' (text.length + 16) (u8s (ctN C S n (t + 1) i text))) (hc : text.length + 16 ≤ c) (htl : text.length ≤ 60) (htb : ∀ x ∈ text, x < 256) :
    Calls Tryd.prog 13 #[.pointer (some ⟨q.ring (1 - n), 0, none⟩), .int .i64 1, .bool (decide ((t + 1) % 2 = 1)), .int .i64 i, .slice none 0 0, .slice A' (text.length + 16) c] w fun e w' => ∃ A c, e = .returned (.tuple #[.slice A text.length c, .int .i64 0]) ∧ View w' (fun b => w.heap.size ≤ b) A text.length (u8s text) ∧ Inv C S q (t + 1) (t + 1) p0 p1 w' ∧ Chg (· = q.ring (1 - n)) w w' := by
  obtain ⟨v0, v1, P, h⟩ := h
  have hn2 : n = 0 ∨ n = 1 := by omega
  rcases hn2 with rfl | rfl
  · refine (across_behind C S 0 t i text q.gB c (fun b => P b ∨ w.heap.size ≤ b) T2 A' w (by decide) (h.r1.mono2 (fun b _ hb => .inl hb)) h.tNew1 (fun b hb => .inr hb) hK hpast ht hc htl htb).mono ?_
    rintro e w' ⟨v, rfl, ho, hr, hc2⟩
    obtain ⟨A, c2, rfl, _, _, h2⟩ := ho.view
    exact ⟨A, c2, rfl, h2, h.ring1 hc2 hr, hc2⟩
  · refine (across_behind C S 1 t i text q.gA c (fun b => P b ∨ w.heap.size ≤ b) T2 A' w (by decide) (h.r0.mono2 (fun b _ hb => .inl hb)) h.tNew0 (fun b hb => .inr hb) hK hpast ht hc htl htb).mono ?_
    rintro e w' ⟨v, rfl, ho, hr, hc2⟩
    obtain ⟨A, c2, rfl, _, _, h2⟩ := ho.view
    exact ⟨A, c2, rfl, h2, h.ring0 hc2 hr, hc2⟩
theorem rx0 {w : World} {g a b : Nat} (h : Row w g 29 [ptr (some a), ptr (some b)]) : w.cell? ⟨g, 0, none⟩ = some (.pointer (some ⟨a, 0, none⟩)) := h.cell 0
theorem rx1 {w : World} {g a b : Nat} (h : Row w g 29 [ptr (some a), ptr (some b)]) : w.cell? ⟨g, 1, none⟩ = some (.pointer (some ⟨b, 0, none⟩)) := h.cell 1
/-- A ring whose keys were dropped. -/
def rDrop : Rg := ⟨none, none, false, true⟩
theorem drop_inv (h : Inv C S q t0 t1 p0 p1 w) : Calls Tryd.prog 16 #[.pointer (some ⟨q.gA, 0, none⟩), .int .i64 1] w fun e w' => ∃ P, e = .returned (.bool true) ∧ RingAt w' q.gA P rDrop ∧ Row w' q.gx 29 [ptr (some q.gA), ptr (some q.gB)] ∧ Chg (· = q.gA) w w' := by
  obtain ⟨v0, v1, P, h⟩ := h
  have hp := h.pl
  refine (Drop_1 q.gA P _ w h.r0 (fun hb => (h.ne _ hb).1 rfl)).mono ?_
  rintro e w' ⟨rfl, hr, hc⟩
  exact ⟨P, rfl, hr, h.rx.chg hc (fun e => by omega), hc⟩
theorem seal_dropped (P : Nat → Prop) (g : Nat) (k : Int) (text : List Nat) (A' : Option Addr) (cap' : Nat) (h : RingAt w g P rDrop) : Calls Tryd.prog 11 #[.pointer (some ⟨g, 0, none⟩), .int .i64 1, .int .i64 k, .slice none 0 0, .slice A' text.length cap'] w fun e w' => e = .returned (.slice none 0 0) ∧ Chg none_ w w' :=
  RSealN_1 g P rDrop k [] text (fun _ => True) (fun _ => True) none A' 0 cap' w h rfl
theorem live_dropped (P : Nat → Prop) (g : Nat) (h : RingAt w g P rDrop) : Calls Tryd.prog 17 #[.pointer (some ⟨g, 0, none⟩)] w fun e w' => e = .returned (.int .i64 0) ∧ Chg none_ w w' := Live_any g P rDrop w h
theorem Inv.ringsX (h : Inv C S q t0 t1 p0 p1 w) : w.cell? ⟨q.gx, 0, none⟩ = some (.pointer (some ⟨q.gA, 0, none⟩)) ∧ w.cell? ⟨q.gx, 1, none⟩ = some (.pointer (some ⟨q.gB, 0, none⟩)) := by
  obtain ⟨v0, v1, P, h⟩ := h
  exact ⟨h.rx.cell 0, h.rx.cell 1⟩
theorem pastC_len (C S : List Nat) (n : Nat) : ∀ t, (pastC C S n t).length = t * 61
  | 0 => rfl
  | t + 1 => by
    show (pastC C S n t ++ cellsS (ownN C S n t)).length = _
    rw [List.length_append, pastC_len C S n t, cellsS_len (ownN_ok C S n t)]
    omega
theorem pastC_get (C S : List Nat) (n m j : Nat) (hj : j < 61) : ∀ t, m < t → (pastC C S n t)[m * 61 + j]? = (cellsS (ownN C S n m))[j]?
  | 0, h => absurd h (by omega)
  | t + 1, h => by
    show (pastC C S n t ++ cellsS (ownN C S n t))[m * 61 + j]? = _
    have hl := pastC_len C S n t
    rcases Nat.lt_or_ge m t with hm | hm
    · rw [List.getElem?_append_left (by omega)]
      exact pastC_get C S n m j hj t hm
    · have : m = t := by omega
      subst this
      rw [List.getElem?_append_right (by omega), hl, Nat.add_sub_cancel_left]
theorem own_past (n p base : Nat) (v : Value) (h : w.ownsRow base 36 61 v p (pastC C S n p)) : ∃ A c, v = .slice A p c ∧ ∀ m, m < p → ∃ g, A = some ⟨g, 0, none⟩ ∧ g < w.heap.size ∧ w.rangeAt g (m * 61) (cellsS (ownN C S n m)) := by
  rcases h.2 with ⟨rfl, h2⟩ | ⟨g, cap, cur, rfl, hb, hh, hc, _, hsz, htk⟩
  · exact ⟨none, 0, by rw [h2], fun m hm => absurd hm (by omega)⟩
  · refine ⟨_, cap, rfl, fun m hm => ⟨g, rfl, (Array.getElem?_eq_some_iff.1 hh).1, fun j v hv => ?_⟩⟩
    have hj : j < 61 := by
      rcases Nat.lt_or_ge j 61 with h | h
      · exact h
      · rw [List.getElem?_eq_none (by rw [cellsS_len (ownN_ok C S n m)]; exact h)] at hv; cases hv
    have h1 := pastC_get C S n m j hj p hm
    rw [hv, ← htk, List.getElem?_take] at h1
    have hlt : m * 61 + j < p * 61 := by
      have : (m + 1) * 61 ≤ p * 61 := Nat.mul_le_mul_right 61 hm
      omega
    rw [if_pos hlt] at h1
    have hcell : w.cell? ⟨g, m * 61 + j, none⟩ = cur.toList[m * 61 + j]? := by
      simp [World.cell?, hh]
    rw [hcell]
    exact h1
theorem Inv.past (n : Nat) (hn : n ≤ 1) {p : Nat} (h : Inv C S q t0 t1 p p w) : ∃ A c, w.cell? ⟨q.gp, n, none⟩ = some (.slice A p c) ∧ q.gp < w.heap.size ∧ ∀ m, m < p → ∃ g, A = some ⟨g, 0, none⟩ ∧ g < w.heap.size ∧ w.rangeAt g (m * 61) (cellsS (ownN C S n m)) := by
  obtain ⟨v0, v1, P, h⟩ := h
  have hn2 : n = 0 ∨ n = 1 := by omega
  rcases hn2 with rfl | rfl
  · obtain ⟨A, c, hv, h2⟩ := own_past 0 p _ v0 h.w0
    exact ⟨A, c, by rw [← hv]; exact h.rp.cell 0, h.rp.lt, h2⟩
  · obtain ⟨A, c, hv, h2⟩ := own_past 1 p _ v1 h.w1
    exact ⟨A, c, by rw [← hv]; exact h.rp.cell 1, h.rp.lt, h2⟩
theorem past_open (n ts m : Nat) (i : Int) (text : List Nat) (A : Option Addr) (c : Nat) (T : Nat → Prop) (hv : View w T A (text.length + 16) (u8s (ctN C S n ts i text))) (hc : text.length + 16 ≤ c) (htl : text.length ≤ 60) (htb : ∀ x ∈ text, x < 256) : Calls Tryd.prog 12 #[.agg (cellsS (ownN C S n m)).toArray, .int .i64 i, .slice none 0 0, .slice A (text.length + 16) c] w fun e w' => ∃ v, e = .returned (.tuple #[v, .int .i64 (openK (ownN C S n m) i [] (ctN C S n ts i text)).2]) ∧ Owned w' w.heap.size v (openK (ownN C S n m) i [] (ctN C S n ts i text)).1 ∧ Chg none_ w w' := by
  have hl := ctN_len C S n ts i text
  have := kOpen_any (ownN C S n m) i [] (ctN C S n ts i text) (fun _ => True) T none A 0 c w (ownN_ok C S n m) (View.none_ _ _ _) (Nat.le_refl _) (by rw [hl]; exact hc) (by decide) (by simp) (by rw [hl]; exact hv) (by omega) (ctN_lt C S n ts i htb)
  rwa [hl] at this
end
end Go.Proofs.YtfpflhcabjcamaaDoor
