/- Layer 12 (timers): both queues side by side: what is done to either leaves the other. -/
import Derived.Test.YtblpgpolhibfgaaV12RSet
import Derived.Test.YtblpgpolhibfgaaV12Quiet
import Derived.Test.YtblpgpolhibfgaaV12Drop
namespace Go.Proofs.Ytblpgpolhibfgaa
open Go.RowKit

/-- Both queues of these timers; all of it is newer than w0. -/
def J0 (w0 : World) (base q r : Nat) (S S' : List Tm) (w : World) : Prop := ∃ mp, QIs w q mp S ∧ RQ w (fun b => ¬ QB q mp b ∧ b ≠ r) r S' ∧ ¬ QB q mp r ∧ (∀ b, QB q mp b → base ≤ b) ∧ Chg none_ w0 w
/-- And a timer that lies apart from both. -/
def J (w0 : World) (base q r g : Nat) (t : Tm) (S S' : List Tm) (w : World) : Prop := ∃ mp, QIs w q mp S ∧ RQ w (fun b => ¬ QB q mp b ∧ b ≠ r) r S' ∧ ¬ QB q mp r ∧ (∀ b, QB q mp b → base ≤ b) ∧ Chg none_ w0 w ∧ Row w g 27 (tcell t) ∧ ¬ QB q mp g ∧ g ≠ r

/-- What is asked of a list of timers. -/
def SOk (S : List Tm) : Prop := S.length ≤ 200 ∧ (S.map Tm.key).Nodup ∧ Srt S ∧ ∀ x ∈ S, x.at_ ≠ NV

section
variable {w0 w w' : World} {base q r g : Nat} {t : Tm} {S S' S1 : List Tm}
theorem J0.ok (h : J0 w0 base q r S S' w) : SOk S ∧ ∀ x ∈ S, TOk x := by
  obtain ⟨mp, h, _⟩ := h
  exact ⟨⟨h.ok.2.2.1, h.keys, h.ok.2.1, h.ok.2.2.2⟩, h.ok.1⟩
theorem J.weak (h : J w0 base q r g t S S' w) : J0 w0 base q r S S' w := by
  obtain ⟨mp, h1, h2, h3, h4, h5, _⟩ := h
  exact ⟨mp, h1, h2, h3, h4, h5⟩
theorem J.row (h : J w0 base q r g t S S' w) : Row w g 27 (tcell t) := by
  obtain ⟨mp, _, _, _, _, _, h, _⟩ := h
  exact h
theorem J0.quiet (h : J0 w0 base q r S S' w) (hc : Chg none_ w w') : J0 w0 base q r S S' w' := by
  obtain ⟨mp, h1, h2, h3, h4, h5⟩ := h
  exact ⟨mp, h1.quiet hc, h2.quiet hc, h3, h4, h5.trans hc⟩
theorem J.quiet (h : J w0 base q r g t S S' w) (hc : Chg none_ w w') : J w0 base q r g t S S' w' := by
  obtain ⟨mp, h1, h2, h3, h4, h5, h6, h7, h8⟩ := h
  exact ⟨mp, h1.quiet hc, h2.quiet hc, h3, h4, h5.trans hc, h6.chg hc (fun h => h), h7, h8⟩
theorem J0.lt (h : J0 w0 base q r S S' w) : r < w.heap.size := by
  obtain ⟨mp, _, h, _⟩ := h
  exact h.lt
/-- A new timer lies apart. -/
theorem J0.with (h : J0 w0 base q r S S' w) (hc : Chg none_ w w') (hg : w.heap.size ≤ g) (hr : Row w' g 27 (tcell t)) : J w0 base q r g t S S' w' := by
  obtain ⟨mp, h1, h2, h3, h4, h5⟩ := h
  exact ⟨mp, h1.quiet hc, h2.quiet hc, h3, h4, h5.trans hc, hr, fun hb => by have := h1.lt g hb; omega, fun e => by have := h2.lt; omega⟩
theorem J.ofQ {mp mp' : Option Nat} (h0 : w0.heap.size ≤ base) (h1 : QIs w q mp S) (h2 : RQ w (fun b => ¬ QB q mp b ∧ b ≠ r) r S') (h3 : ¬ QB q mp r) (h4 : ∀ b, QB q mp b → base ≤ b) (h5 : Chg none_ w0 w) (h6 : Row w g 27 (tcell t)) (h7 : ¬ QB q mp g) (h8 : g ≠ r)
    (hm : MNew w mp mp') (hq : QIs w' q mp' S1) (hc : Chg (QB q mp) w w') : J w0 base q r g t S1 S' w' := by
  have hrl := h2.lt
  have hgl := h6.lt
  have hbq : base ≤ w.heap.size := Nat.le_of_lt (Nat.lt_of_le_of_lt (h4 q (Or.inl rfl)) (h1.lt q (Or.inl rfl)))
  have hsub : ∀ b, QB q mp' b → QB q mp b ∨ w.heap.size ≤ b := fun b hb => by
    rcases hm with rfl | ⟨rfl, g', rfl, hg'⟩
    · exact Or.inl hb
    · rcases hb with hb | hb
      · exact Or.inl (Or.inl hb)
      · injection hb with hb; exact Or.inr (by omega)
  have hsup : ∀ b, QB q mp b → QB q mp' b := fun b hb => by
    rcases hm with rfl | ⟨rfl, g', rfl, hg'⟩
    · exact hb
    · rcases hb with hb | hb
      · exact Or.inl hb
      · cases hb
  refine ⟨mp', hq, ?_, fun hb => (hsub r hb).elim h3 (fun h => by omega), fun b hb => (hsub b hb).elim (h4 b) (fun h => by omega), chg_past h4 h0 h5 hc, h6.chg hc h7, fun hb => (hsub g hb).elim h7 (fun h => by omega), h8⟩
  exact (h2.mono (T' := fun b => ¬ QB q mp' b ∧ b ≠ r) (fun b hb h => ⟨fun k => (hsub b k).elim h.1 (fun h => by omega), h.2⟩)).chg hc h3 (fun b hb k => hb.1 (hsup b k))
theorem J.ofR (h0 : w0.heap.size ≤ base) (hbr : base ≤ r) {mp : Option Nat} (h1 : QIs w q mp S) (h2 : RQ w (fun b => ¬ QB q mp b ∧ b ≠ r) r S') (h3 : ¬ QB q mp r) (h4 : ∀ b, QB q mp b → base ≤ b) (h5 : Chg none_ w0 w) (h6 : Row w g 27 (tcell t)) (h7 : ¬ QB q mp g) (h8 : g ≠ r)
    (hq : RQ w' (fun b => (¬ QB q mp b ∧ b ≠ r) ∨ w.heap.size ≤ b) r S1) (hc : Chg (· = r) w w') : J w0 base q r g t S S1 w' := by
  have hrl := h2.lt
  refine ⟨mp, h1.chg hc (fun b hb (e : b = r) => h3 (e ▸ hb)), hq.mono (fun b _ h => h.elim id (fun h => ⟨fun hb => by have := h1.lt b hb; omega, fun e => by omega⟩)), h3, h4, h5.andThen hc (fun b hb (e : b = r) => by omega), h6.chg hc h8, h7, h8⟩

variable (h0 : w0.heap.size ≤ base) (hbr : base ≤ r) (ht : TOk t)
include h0 ht
theorem qset (w : World) (h : J w0 base q r g t S S' w) : Calls Try.prog 11 #[.pointer (some ⟨q, 0, none⟩), .agg (tcell t).toArray] w fun e w' => e = .returned (.bool (setB t S)) ∧ J w0 base q r g t (setS t S) S' w' := by
  obtain ⟨mp, h1, h2, h3, h4, h5, h6, h7, h8⟩ := h
  refine (Set_any q mp S t ht w h1).mono ?_
  rintro e w' ⟨a, ⟨mp', hm, hq⟩, hc⟩
  exact ⟨a, J.ofQ h0 h1 h2 h3 h4 h5 h6 h7 h8 hm hq hc⟩
theorem qcan (w : World) (h : J w0 base q r g t S S' w) : Calls Try.prog 12 #[.pointer (some ⟨q, 0, none⟩), .int .i64 t.conn, .int .i64 t.kind] w fun e w' => e = .returned (.bool (hasS t.key S)) ∧ J w0 base q r g t (remS t.key S) S' w' := by
  obtain ⟨mp, h1, h2, h3, h4, h5, h6, h7, h8⟩ := h
  refine (Cancel_any q mp S t.key ht.k w h1).mono ?_
  rintro e w' ⟨a, hq, hc⟩
  exact ⟨a, J.ofQ h0 h1 h2 h3 h4 h5 h6 h7 h8 (Or.inl rfl) hq hc⟩
theorem qdrop (w : World) (h : J w0 base q r g t S S' w) : Calls Try.prog 13 #[.pointer (some ⟨q, 0, none⟩), .int .i64 t.conn] w fun e w' => e = .returned (.int .i64 ((S.length : Int) - ((dropS t.conn S).length : Int))) ∧ J w0 base q r g t (dropS t.conn S) S' w' := by
  obtain ⟨mp, h1, h2, h3, h4, h5, h6, h7, h8⟩ := h
  have hl : (dropS t.conn S).length ≤ S.length := List.length_filter_le _ _
  refine (Drop_any q mp S t.conn ht.k.1 w h1).mono ?_
  rintro e w' ⟨a, hq, hc⟩
  rw [Int.ofNat_sub hl] at a
  exact ⟨a, J.ofQ h0 h1 h2 h3 h4 h5 h6 h7 h8 (Or.inl rfl) hq hc⟩
omit ht in
theorem qdue (w : World) (h : J w0 base q r g t S S' w) : Calls Try.prog 10 #[.pointer (some ⟨q, 0, none⟩), .int .u64 (t.at_ : Int)] w fun e w' => e = .returned (.tuple #[.agg (tcell ((dueS t.at_ S).elim zT (·.1))).toArray, .bool (dueS t.at_ S).isSome]) ∧ J w0 base q r g t ((dueS t.at_ S).elim S (·.2)) S' w' := by
  obtain ⟨mp, h1, h2, h3, h4, h5, h6, h7, h8⟩ := h
  refine (Due_any q mp S t.at_ w h1).mono ?_
  rintro e w' ⟨a, hq, hc⟩
  exact ⟨a, J.ofQ h0 h1 h2 h3 h4 h5 h6 h7 h8 (Or.inl rfl) hq hc⟩
omit ht
include hbr
theorem rset (hs : SOk S') (w : World) (h : J w0 base q r g t S S' w) : Calls Try.prog 19 #[.pointer (some ⟨r, 0, none⟩), .agg (tcell t).toArray] w fun e w' => e = .returned (.bool (setB t S')) ∧ J w0 base q r g t S (setS t S') w' := by
  obtain ⟨mp, h1, h2, h3, h4, h5, h6, h7, h8⟩ := h
  refine (RSet_any r _ S' t w h2 hs.1 hs.2.1 hs.2.2.1 hs.2.2.2).mono ?_
  rintro e w' ⟨a, hq, hc⟩
  exact ⟨a, J.ofR h0 hbr h1 h2 h3 h4 h5 h6 h7 h8 hq hc⟩
theorem rcan (hs : SOk S') (w : World) (h : J w0 base q r g t S S' w) : Calls Try.prog 20 #[.pointer (some ⟨r, 0, none⟩), .int .i64 t.conn, .int .i64 t.kind] w fun e w' => e = .returned (.bool (hasS t.key S')) ∧ J w0 base q r g t S (remS t.key S') w' := by
  obtain ⟨mp, h1, h2, h3, h4, h5, h6, h7, h8⟩ := h
  refine (RCancel_any r _ S' t.key w h2 hs.1 hs.2.1).mono ?_
  rintro e w' ⟨a, hq, hc⟩
  exact ⟨a, J.ofR h0 hbr h1 h2 h3 h4 h5 h6 h7 h8 hq hc⟩
theorem rdrop (hs : SOk S') (w : World) (h : J w0 base q r g t S S' w) : Calls Try.prog 21 #[.pointer (some ⟨r, 0, none⟩), .int .i64 t.conn] w fun e w' => e = .returned (.int .i64 ((S'.length : Int) - ((dropS t.conn S').length : Int))) ∧ J w0 base q r g t S (dropS t.conn S') w' := by
  obtain ⟨mp, h1, h2, h3, h4, h5, h6, h7, h8⟩ := h
  refine (RDrop_any r _ S' t.conn w h2 hs.1).mono ?_
  rintro e w' ⟨a, hq, hc⟩
  exact ⟨a, J.ofR h0 hbr h1 h2 h3 h4 h5 h6 h7 h8 hq hc⟩
theorem rdue (w : World) (h : J w0 base q r g t S S' w) : Calls Try.prog 22 #[.pointer (some ⟨r, 0, none⟩), .int .u64 (t.at_ : Int)] w fun e w' => e = .returned (.tuple #[.agg (tcell ((dueS t.at_ S').elim zT (·.1))).toArray, .bool (dueS t.at_ S').isSome]) ∧ J w0 base q r g t S ((dueS t.at_ S').elim S' (·.2)) w' := by
  obtain ⟨mp, h1, h2, h3, h4, h5, h6, h7, h8⟩ := h
  refine (RDue_any r _ S' t.at_ w h2 (fun h => h.2 rfl)).mono ?_
  rintro e w' ⟨a, hq, hc⟩
  exact ⟨a, J.ofR h0 hbr h1 h2 h3 h4 h5 h6 h7 h8 (hq.mono (fun _ _ h => Or.inl h)) hc⟩
end
end Go.Proofs.Ytblpgpolhibfgaa
