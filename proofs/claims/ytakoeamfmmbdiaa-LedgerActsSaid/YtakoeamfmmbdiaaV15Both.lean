/- Layer 15 (ledger): both ledgers, side by side. -/
import Derived.Test.YtakoeamfmmbdiaaV15P
import Derived.Test.YtakoeamfmmbdiaaV15Last
import Derived.Test.YtakoeamfmmbdiaaV15RSend
import Derived.Test.YtakoeamfmmbdiaaV15RRead
import Derived.Test.YtakoeamfmmbdiaaV15RDue
import Derived.Test.YtakoeamfmmbdiaaV15RAck
import Derived.Test.YtakoeamfmmbdiaaV15RLost
import Derived.Test.YtakoeamfmmbdiaaV15RSame
namespace Go.Proofs.Ytakoeamfmmbdiaa
open Go.RowKit

theorem RLed.mono {w : World} {r c next acked : Nat} {T T' : Nat → Prop} {A : Option Addr} {m : List It} (h : RLed w r T A c m next acked) (hs : ∀ b, b < w.heap.size → T b → T' b) (hn : ∀ b, T' b → b ≠ r) : RLed w r T' A c m next acked :=
  ⟨h.row, h.le, h.view.mono hs, fun x hx => (h.its x hx).mono hs, hn⟩
theorem LOk.send {P : List Sn} {next above : Nat} (ok : LOk P next above) {s : Sn} (hs : s.num = (next : Int)) (h0 : 0 ≤ s.size) (h1 : s.size ≤ 1200) (hl : P.length < 64) (hn : next < 1000000) : LOk (P ++ [s]) (next + 1) above := by
  refine ⟨fun y hy => ?_, by rw [List.length_append, List.length_singleton]; omega, by have := ok.above; omega, by omega⟩
  rcases List.mem_append.1 hy with hy | hy
  · have := ok.each y hy
    omega
  · obtain rfl : y = s := by simpa using hy
    exact ⟨⟨by omega, by omega⟩, h0, h1⟩
theorem LOk.ack {P : List Sn} {next above : Nat} (ok : LOk P next above) (q : Sn → Bool) : LOk (P.filter (fun s => !q s)) next (maxS above (P.filter q)) :=
  ⟨fun s hs => ok.each s (List.mem_filter.1 hs).1, Nat.le_trans (List.length_filter_le _ _) ok.len, maxS_le _ _ ok.above (fun s hs => (ok.each s (List.mem_filter.1 hs).1).1), ok.next⟩
theorem LOk.none {P : List Sn} {next above : Nat} (ok : LOk P next above) : LOk [] next above := ⟨fun s hs => (nomatch hs), by simp, ok.above, ok.next⟩

/-- Both ledgers: the program's in block g, the document's in block r; all that they turn lies from n0 on, none of it in K. -/
def Jt (w : World) (n0 g r : Nat) (K : Nat → Prop) (P : List Sn) (n a : Nat) (Q : List Sn) (n' a' : Nat) : Prop :=
  ∃ T v l TR A c m, LedAt w n0 g T v l n a ∧ RLed w r TR A c m n' a' ∧ l.map It.pl = P ∧ m.map It.pl = Q ∧ LOk P n a ∧ LOk Q n' a' ∧ (n0 ≤ g ∧ n0 ≤ r ∧ g ≠ r ∧ n0 ≤ w.heap.size) ∧
    (∀ b, T b → b ≠ r) ∧ v.ownBlock ≠ some r ∧ (∀ b, TR b → b ≠ g ∧ v.ownBlock ≠ some b ∧ b < w.heap.size) ∧ ∀ b, K b → b ≠ g ∧ b ≠ r ∧ v.ownBlock ≠ some b ∧ b < w.heap.size
abbrev Sj (n0 : Nat) (K : Nat → Prop) : Nat → Prop := fun b => n0 ≤ b ∧ ¬ K b
/-- An answer: packets somewhere, not in the document's cells. -/
def Ans (w : World) (r : Nat) (A : Option Addr) (G : List It) : Prop := ∃ T, View w T A (G.length * 5) (G.flatMap itc) ∧ (∀ x ∈ G, ItD w T x) ∧ (∀ b, T b → b ≠ r) ∧ G.length ≤ 64
theorem Ans.chg {w w' : World} {r : Nat} {A : Option Addr} {G : List It} (h : Ans w r A G) (hc : Chg (· = r) w w') : Ans w' r A G := by
  obtain ⟨T, h1, h2, h3, h4⟩ := h
  exact ⟨T, h1.chg hc h3, fun x hx => (h2 x hx).chg hc h3, h3, h4⟩
theorem chg_none {w w' : World} {S : Nat → Prop} (h : Chg none_ w w') : Chg S w w' := h.mono (fun _ _ h => h.elim)
theorem Ans.same {w : World} {r r' : Nat} {A B : Option Addr} {G H : List It} (h : Ans w r A G) (k : Ans w r' B H) (he : G.map It.pl = H.map It.pl) (cg ch : Nat) :
    Calls Try.prog 21 #[.slice A G.length cg, .slice B H.length ch] w fun e w' => e = .returned (.bool true) ∧ Chg none_ w w' := by
  obtain ⟨T, h1, h2, _, h4⟩ := h
  obtain ⟨T', k1, k2, _, _⟩ := k
  exact rsame15 G H A B cg ch T T' w h1 k1 h2 k2 he (by omega)
section
variable {w w' : World} {n0 g r n a n' a' : Nat} {K : Nat → Prop} {P Q : List Sn}
theorem Jt.quiet (h : Jt w n0 g r K P n a Q n' a') (hc : Chg none_ w w') : Jt w' n0 g r K P n a Q n' a' := by
  obtain ⟨T, v, l, TR, A, c, m, h1, h2, h3, h4, h5, h6, ⟨b1, b2, b3, b4⟩, h8, h9, hA, hB⟩ := h
  exact ⟨T, v, l, TR, A, c, m, h1.quiet hc, h2.quiet hc, h3, h4, h5, h6, ⟨b1, b2, b3, Nat.le_trans b4 hc.size⟩, h8, h9, fun b hb => ⟨(hA b hb).1, (hA b hb).2.1, Nat.lt_of_lt_of_le (hA b hb).2.2 hc.size⟩, fun b hb => ⟨(hB b hb).1, (hB b hb).2.1, (hB b hb).2.2.1, Nat.lt_of_lt_of_le (hB b hb).2.2.2 hc.size⟩⟩
/-- A block that is new is none of theirs. -/
theorem Jt.fresh (h : Jt w n0 g r K P n a Q n' a') (hc : Chg none_ w w') (hs : w.heap.size < w'.heap.size) : Jt w' n0 g r (fun b => b = w.heap.size) P n a Q n' a' := by
  obtain ⟨T, v, l, TR, A, c, m, h1, h2, h3, h4, h5, h6, ⟨b1, b2, b3, b4⟩, h8, h9, hA, hB⟩ := h
  have hg := h1.row.lt
  have hr := h2.row.lt
  exact ⟨T, v, l, TR, A, c, m, h1.quiet hc, h2.quiet hc, h3, h4, h5, h6, ⟨b1, b2, b3, Nat.le_trans b4 hc.size⟩, h8, h9, fun b hb => ⟨(hA b hb).1, (hA b hb).2.1, Nat.lt_of_lt_of_le (hA b hb).2.2 hc.size⟩, fun b hb => by
    subst hb
    exact ⟨by omega, by omega, fun e => by have := (h1.own.lt e).2; omega, hs⟩⟩
theorem Jt.forget (h : Jt w n0 g r K P n a Q n' a') : Jt w n0 g r none_ P n a Q n' a' := by
  obtain ⟨T, v, l, TR, A, c, m, h1, h2, h3, h4, h5, h6, h7, h8, h9, hA, hB⟩ := h
  exact ⟨T, v, l, TR, A, c, m, h1, h2, h3, h4, h5, h6, h7, h8, h9, hA, fun _ h => h.elim⟩
theorem Jt.ok (h : Jt w n0 g r K P n a Q n' a') : LOk P n a ∧ LOk Q n' a' := by
  obtain ⟨T, v, l, TR, A, c, m, h1, h2, h3, h4, h5, h6, h7, h8, h9, hA, hB⟩ := h
  exact ⟨h5, h6⟩
theorem Jt.rS (h : Jt w n0 g r K P n a Q n' a') {w1 w2 : World} (hc : Chg (· = r) w1 w2) : Chg (Sj n0 K) w1 w2 := by
  obtain ⟨T, v, l, TR, A, c, m, h1, h2, h3, h4, h5, h6, ⟨b1, b2, b3, b4⟩, h8, h9, hA, hB⟩ := h
  exact hc.mono (fun b _ e => by subst e; exact ⟨b2, fun k => (hB _ k).2.1 rfl⟩)
/-- The program's part turns. -/
theorem Jt.left {T' : Nat → Prop} {v v' : Value} {l l' : List It} {P' : List Sn} {n2 a2 : Nat} {T TR : Nat → Prop} {A : Option Addr} {c : Nat} {m : List It} (hn : n0 ≤ g ∧ n0 ≤ r ∧ g ≠ r ∧ n0 ≤ w.heap.size) (h1 : LedAt w n0 g T v l n a) (h2 : RLed w r TR A c m n' a') (h4 : m.map It.pl = Q) (h6 : LOk Q n' a')
    (h8 : ∀ b, T b → b ≠ r) (h9 : v.ownBlock ≠ some r) (hA : ∀ b, TR b → b ≠ g ∧ v.ownBlock ≠ some b ∧ b < w.heap.size) (hB : ∀ b, K b → b ≠ g ∧ b ≠ r ∧ v.ownBlock ≠ some b ∧ b < w.heap.size)
    (hL : LedAt w' n0 g T' v' l' n2 a2) (hP : l'.map It.pl = P') (ok : LOk P' n2 a2) (hc : Chg (fun b => b = g ∨ v.ownBlock = some b) w w') (hT : ∀ b, T' b → T b ∨ w.heap.size ≤ b) (hv : ∀ b, v'.ownBlock = some b → v.ownBlock = some b ∨ w.heap.size ≤ b) :
    Jt w' n0 g r K P' n2 a2 Q n' a' ∧ Chg (Sj n0 K) w w' := by
  have hrl := h2.row.lt
  refine ⟨⟨T', v', l', TR, A, c, m, hL, h2.chg hc (fun e => e.elim (fun e => hn.2.2.1 e.symm) h9) (fun b hb e => e.elim (hA b hb).1 (hA b hb).2.1), hP, h4, ok, h6, ⟨hn.1, hn.2.1, hn.2.2.1, Nat.le_trans hn.2.2.2 hc.size⟩,
    fun b hb => (hT b hb).elim (h8 b) (fun h => by omega), fun e => (hv r e).elim h9 (fun h => by omega), fun b hb => ⟨(hA b hb).1, fun e => (hv b e).elim (hA b hb).2.1 (fun h => by have := (hA b hb).2.2; omega), Nat.lt_of_lt_of_le (hA b hb).2.2 hc.size⟩,
    fun b hb => ⟨(hB b hb).1, (hB b hb).2.1, fun e => (hv b e).elim (hB b hb).2.2.1 (fun h => by have := (hB b hb).2.2.2; omega), Nat.lt_of_lt_of_le (hB b hb).2.2.2 hc.size⟩⟩, ?_⟩
  refine hc.mono (fun b _ e => ?_)
  rcases e with rfl | e
  · exact ⟨hn.1, fun k => (hB _ k).1 rfl⟩
  · exact ⟨(h1.own.lt e).1, fun k => (hB _ k).2.2.1 e⟩
/-- The document's part turns. -/
theorem Jt.right {v : Value} {l : List It} {Q' : List Sn} {n2 a2 : Nat} {T TR TR' : Nat → Prop} {A' : Option Addr} {c' : Nat} {m' : List It} (hn : n0 ≤ g ∧ n0 ≤ r ∧ g ≠ r ∧ n0 ≤ w.heap.size) (h1 : LedAt w n0 g T v l n a) (h3 : l.map It.pl = P) (h5 : LOk P n a)
    (h8 : ∀ b, T b → b ≠ r) (h9 : v.ownBlock ≠ some r) (hA : ∀ b, TR b → b ≠ g ∧ v.ownBlock ≠ some b ∧ b < w.heap.size) (hB : ∀ b, K b → b ≠ g ∧ b ≠ r ∧ v.ownBlock ≠ some b ∧ b < w.heap.size)
    (hR : RLed w' r TR' A' c' m' n2 a2) (hQ : m'.map It.pl = Q') (ok : LOk Q' n2 a2) (hc : Chg (· = r) w w') (hT : ∀ b, TR' b → TR b ∨ b < n0 ∨ w.heap.size ≤ b) :
    Jt w' n0 g r K P n a Q' n2 a2 := by
  have hgl := h1.row.lt
  refine ⟨T, v, l, fun b => TR' b ∧ b < w'.heap.size, A', c', m', h1.chg hc hn.2.2.1 (fun b e k => h9 (by rw [← k]; exact e)) (fun b hb e => h8 b hb e), hR.mono (fun b hb h => ⟨h, hb⟩) (fun b hb => hR.nr b hb.1), h3, hQ, h5, ok, ⟨hn.1, hn.2.1, hn.2.2.1, Nat.le_trans hn.2.2.2 hc.size⟩, h8, h9,
    fun b hb => ?_, fun b hb => ⟨(hB b hb).1, (hB b hb).2.1, (hB b hb).2.2.1, Nat.lt_of_lt_of_le (hB b hb).2.2.2 hc.size⟩⟩
  rcases hT b hb.1 with h | h | h
  · exact ⟨(hA b h).1, (hA b h).2.1, hb.2⟩
  · exact ⟨by omega, fun e => by have := (h1.own.lt e).1; omega, hb.2⟩
  · exact ⟨by omega, fun e => by have := (h1.own.lt e).2; omega, hb.2⟩

theorem jSend {x : It} (h : Jt w n0 g r K P n a Q n' a') (hx : ItD w (fun b => b < n0) x) (h0 : 0 ≤ x.size) (h1 : x.size ≤ 1200) (hl : P.length < 64) (hn : n < 1000000) :
    Calls Try.prog 9 #[.pointer (some ⟨g, 0, none⟩), .agg (itc x).toArray] w fun e w' => e = .returned (.tuple #[.int .i64 (n : Int), .int .i64 0]) ∧ Jt w' n0 g r K (P ++ [{ x.pl with num := (n : Int) }]) (n + 1) a Q n' a' ∧ Chg (Sj n0 K) w w' := by
  obtain ⟨T, v, l, TR, A, c, m, k1, k2, rfl, k4, k5, k6, k7, k8, k9, kA, kB⟩ := h
  refine (Send_any n0 g n a T _ v l x w k1 hx h0 h1 (by simpa using hl) k7.2.2.2 (by omega)).mono ?_
  rintro e w' ⟨rfl, y, v', hp, hL, hc, hv⟩
  exact ⟨rfl, Jt.left k7 k1 k2 k4 k6 k8 k9 kA kB hL (by rw [List.map_append, List.map_singleton, hp]) (k5.send rfl h0 h1 hl hn) hc (fun b hb => hb.imp id (fun h => h.1)) hv⟩
theorem jSend_full {x : It} (h : Jt w n0 g r K P n a Q n' a') (h0 : 0 ≤ x.size) (h1 : x.size ≤ 1200) (hl : 64 ≤ P.length) :
    Calls Try.prog 9 #[.pointer (some ⟨g, 0, none⟩), .agg (itc x).toArray] w fun e w' => e = .returned (.tuple #[.int .i64 0, .int .i64 5]) ∧ Chg none_ w w' := by
  obtain ⟨T, v, l, TR, A, c, m, k1, k2, rfl, k4, k5, k6, k7, k8, k9, kA, kB⟩ := h
  exact Send_full n0 g n a T v l x w k1 h0 h1 (by simpa using hl)
theorem jRSend {x : It} (h : Jt w n0 g r K P n a Q n' a') (hx : ItD w (fun b => b < n0) x) (h0 : 0 ≤ x.size) (h1 : x.size ≤ 1200) (hl : Q.length < 64) (hn : n' < 1000000) :
    Calls Try.prog 19 #[.pointer (some ⟨r, 0, none⟩), .agg (itc x).toArray] w fun e w' => e = .returned (.tuple #[.int .i64 (n' : Int), .int .i64 0]) ∧ Jt w' n0 g r K P n a (Q ++ [{ x.pl with num := (n' : Int) }]) (n' + 1) a' ∧ Chg (· = r) w w' := by
  obtain ⟨T, v, l, TR, A, c, m, k1, k2, k3, rfl, k5, k6, k7, k8, k9, kA, kB⟩ := h
  refine (RSend_any r c n' a' TR _ A m x w k2 hx (fun b hb => by omega) h0 h1 (by simpa using hl) (by omega)).mono ?_
  rintro e w' ⟨rfl, ⟨A', c', hR⟩, hc⟩
  exact ⟨rfl, Jt.right k7 k1 k3 k5 k8 k9 kA kB hR (by rw [List.map_append]; rfl) (k6.send rfl h0 h1 hl hn) hc (fun b hb => hb), hc⟩
theorem jRSend_full {x : It} (h : Jt w n0 g r K P n a Q n' a') (h0 : 0 ≤ x.size) (h1 : x.size ≤ 1200) (hl : 64 ≤ Q.length) :
    Calls Try.prog 19 #[.pointer (some ⟨r, 0, none⟩), .agg (itc x).toArray] w fun e w' => e = .returned (.tuple #[.int .i64 0, .int .i64 5]) ∧ Chg none_ w w' := by
  obtain ⟨T, v, l, TR, A, c, m, k1, k2, k3, rfl, k5, k6, k7, k8, k9, kA, kB⟩ := h
  exact RSend_full r c n' a' TR A m x w k2 h0 h1 (by simpa using hl)

theorem jAck_bad {T0 : Nat → Prop} {rs : List (Nat × Nat)} {B : Option Addr} {cr : Nat} (h : Jt w n0 g r K P n a Q n' a') (hv : View w T0 B (rs.length * 2) (rs.flatMap rgc)) (hr : rs.length ≤ 1000000) (hb : badS rs n = true) :
    Calls Try.prog 10 #[.pointer (some ⟨g, 0, none⟩), .slice B rs.length cr] w fun e w' => e = .returned (.tuple #[.slice none 0 0, .int .i64 3]) ∧ Chg none_ w w' := by
  obtain ⟨T, v, l, TR, A, c, m, k1, k2, rfl, k4, k5, k6, k7, k8, k9, kA, kB⟩ := h
  exact Ack_bad n0 g n a T T0 v l rs B cr w k1 (by have := k5.next; omega) hv hr hb
theorem jRAck_bad {T0 : Nat → Prop} {rs : List (Nat × Nat)} {B : Option Addr} {cr : Nat} (h : Jt w n0 g r K P n a Q n' a') (hv : View w T0 B (rs.length * 2) (rs.flatMap rgc)) (hr : rs.length ≤ 1000000) (hb : badS rs n' = true) :
    Calls Try.prog 20 #[.pointer (some ⟨r, 0, none⟩), .slice B rs.length cr] w fun e w' => e = .returned (.tuple #[.slice none 0 0, .int .i64 3]) ∧ Chg none_ w w' := by
  obtain ⟨T, v, l, TR, A, c, m, k1, k2, k3, rfl, k5, k6, k7, k8, k9, kA, kB⟩ := h
  exact RAck_bad r c n' a' TR T0 A B cr m rs w k2 (by have := k6.next; omega) hv hr hb
theorem jAck {T0 : Nat → Prop} {rs : List (Nat × Nat)} {B : Option Addr} {cr : Nat} (h : Jt w n0 g r K P n a Q n' a') (hv : View w T0 B (rs.length * 2) (rs.flatMap rgc)) (hr : rs.length ≤ 1000000) (hb : badS rs n = false) :
    Calls Try.prog 10 #[.pointer (some ⟨g, 0, none⟩), .slice B rs.length cr] w fun e w' => ∃ AG cg G, e = .returned (.tuple #[.slice AG G.length cg, .int .i64 0]) ∧ Ans w' r AG G ∧ G.map It.pl = P.filter (inS rs) ∧ Jt w' n0 g r K (P.filter (fun s => !inS rs s)) n (maxS a (P.filter (inS rs))) Q n' a' ∧ Chg (Sj n0 K) w w' := by
  obtain ⟨T, v, l, TR, A, c, m, k1, k2, rfl, k4, k5, k6, k7, k8, k9, kA, kB⟩ := h
  have hcn := k5.count
  refine (Ack_any n0 g n a T T0 v l rs B cr w k1 (by have := k5.next; omega) k5.above (by omega) (fun x hx => (k5.items x hx).1) hv hr hb).mono ?_
  rintro e w' ⟨gv, lv, rfl, q1, q2, q3, q4⟩
  obtain ⟨AG, cg, rfl, _, _, vg⟩ := q1.view
  have e1 := map_filter_pl (inR rs) (inS rs) (fun _ => rfl) l
  have e2 := map_filter_pl (fun x => !inR rs x) (fun s => !inS rs s) (fun _ => rfl) l
  rw [maxA_pl, e1] at q2
  have hrl := k2.row.lt
  have hJ := Jt.left (v' := lv) k7 k1 k2 k4 k6 k8 k9 kA kB (q2.past k7.2.2.2) e2 (k5.ack (inS rs)) (q4.mono (fun b _ e => Or.inl e)) (fun b hb => Or.inl hb) (fun b hb => Or.inr (q2.own.lt hb).1)
  refine ⟨AG, cg, _, rfl, ⟨fun b => T b ∨ (Value.slice AG (l.filter (inR rs)).length cg).ownBlock = some b, vg.mono (fun _ _ h => Or.inr h), fun x hx => ((k1.its x (List.mem_filter.1 hx).1).chg q4 (fun b hb e => k1.ng b hb e)).mono (fun _ _ h => Or.inl h), fun b hb => hb.elim (k8 b) (fun e => by have := (q1.lt e).1; omega), by have := List.length_filter_le (inR rs) l; omega⟩, e1, hJ.1, hJ.2⟩
theorem jRAck {T0 : Nat → Prop} {rs : List (Nat × Nat)} {B : Option Addr} {cr : Nat} (h : Jt w n0 g r K P n a Q n' a') (hv : View w T0 B (rs.length * 2) (rs.flatMap rgc)) (hvr : ∀ b, T0 b → b ≠ r) (hr : rs.length ≤ 1000000) (hb : badS rs n' = false) :
    Calls Try.prog 20 #[.pointer (some ⟨r, 0, none⟩), .slice B rs.length cr] w fun e w' => ∃ AG cg G, e = .returned (.tuple #[.slice AG G.length cg, .int .i64 0]) ∧ Ans w' r AG G ∧ G.map It.pl = Q.filter (inS rs) ∧ Jt w' n0 g r K P n a (Q.filter (fun s => !inS rs s)) n' (maxS a' (Q.filter (inS rs))) ∧ Chg (· = r) w w' := by
  obtain ⟨T, v, l, TR, A, c, m, k1, k2, k3, rfl, k5, k6, k7, k8, k9, kA, kB⟩ := h
  have hcn := k6.count
  refine (RAck_any r c n' a' TR T0 A B cr m rs w k2 (by have := k6.next; omega) k6.above (by omega) (fun x hx => (k6.items x hx).1) hv hvr hr hb).mono ?_
  rintro e w' ⟨AG, cg, A', c', rfl, q1, q2, q4⟩
  obtain ⟨AV, cv, ev, _, _, vg⟩ := q1.view
  injection ev with e1 _ e3
  subst e1
  subst e3
  have e1 := map_filter_pl (inR rs) (inS rs) (fun _ => rfl) m
  have e2 := map_filter_pl (fun x => !inR rs x) (fun s => !inS rs s) (fun _ => rfl) m
  rw [maxA_pl, e1] at q2
  have hrl := k2.row.lt
  have hJ := Jt.right k7 k1 k3 k5 k8 k9 kA kB q2 e2 (k6.ack (inS rs)) q4 (fun b hb => hb.imp id Or.inr)
  exact ⟨AG, cg, _, rfl, ⟨fun b => TR b ∨ (Value.slice AG (m.filter (inR rs)).length cg).ownBlock = some b, vg.mono (fun _ _ h => Or.inr h), fun x hx => ((k2.its x (List.mem_filter.1 hx).1).chg q4 (fun b hb e => k2.nr b hb e)).mono (fun _ _ h => Or.inl h), fun b hb => hb.elim (k2.nr b) (fun e => by have := (q1.lt e).1; omega), by have := List.length_filter_le (inR rs) m; omega⟩, e1, hJ, q4⟩
theorem jLost (now delay : Nat) (h : Jt w n0 g r K P n a Q n' a') :
    Calls Try.prog 12 #[.pointer (some ⟨g, 0, none⟩), .int .u64 (now : Int), .int .u64 (delay : Int)] w fun e w' => ∃ AG cg G, e = .returned (.slice AG G.length cg) ∧ Ans w' r AG G ∧ G.map It.pl = P.filter (lostS a delay now) ∧ Jt w' n0 g r K (P.filter (fun s => !lostS a delay now s)) n a Q n' a' ∧ Chg (Sj n0 K) w w' := by
  obtain ⟨T, v, l, TR, A, c, m, k1, k2, rfl, k4, k5, k6, k7, k8, k9, kA, kB⟩ := h
  have hcn := k5.count
  have hnx := k5.next
  refine (Lost_any n0 g n a now delay T v l w k1 (by omega) (by have := k5.above; omega) (fun x hx => by have := (k5.items x hx).1; omega)).mono ?_
  rintro e w' ⟨gv, lv, rfl, q1, q2, q3, q4⟩
  obtain ⟨AG, cg, rfl, _, _, vg⟩ := q1.view
  have e1 := map_filter_pl (fun x => lostB x.num x.at_ ((a : Int) - 1) delay now) (lostS a delay now) (fun _ => rfl) l
  have e2 := map_filter_pl (fun x => !lostB x.num x.at_ ((a : Int) - 1) delay now) (fun s => !lostS a delay now s) (fun _ => rfl) l
  have hrl := k2.row.lt
  have hJ := Jt.left (v' := lv) k7 k1 k2 k4 k6 k8 k9 kA kB (q2.past k7.2.2.2) e2 (k5.filter _) (q4.mono (fun b _ e => Or.inl e)) (fun b hb => Or.inl hb) (fun b hb => Or.inr (q2.own.lt hb).1)
  refine ⟨AG, cg, _, rfl, ⟨fun b => T b ∨ (Value.slice AG (l.filter (fun x => lostB x.num x.at_ ((a : Int) - 1) delay now)).length cg).ownBlock = some b, vg.mono (fun _ _ h => Or.inr h), fun x hx => ((k1.its x (List.mem_filter.1 hx).1).chg q4 (fun b hb e => k1.ng b hb e)).mono (fun _ _ h => Or.inl h), fun b hb => hb.elim (k8 b) (fun e => by have := (q1.lt e).1; omega), by have := List.length_filter_le (fun x => lostB x.num x.at_ ((a : Int) - 1) delay now) l; omega⟩, e1, hJ.1, hJ.2⟩
theorem jRLost (now delay : Nat) (h : Jt w n0 g r K P n a Q n' a') (hd : delay < 18446744073709551616) :
    Calls Try.prog 22 #[.pointer (some ⟨r, 0, none⟩), .int .u64 (now : Int), .int .u64 (delay : Int)] w fun e w' => ∃ AG cg G, e = .returned (.slice AG G.length cg) ∧ Ans w' r AG G ∧ G.map It.pl = Q.filter (lostS a' delay now) ∧ Jt w' n0 g r K P n a (Q.filter (fun s => !lostS a' delay now s)) n' a' ∧ Chg (· = r) w w' := by
  obtain ⟨T, v, l, TR, A, c, m, k1, k2, k3, rfl, k5, k6, k7, k8, k9, kA, kB⟩ := h
  have hcn := k6.count
  have hnx := k6.next
  refine (RLost_any r c n' a' now delay TR A m w k2 (by have := k6.above; omega) (by omega) (fun x hx => by have := (k6.items x hx).1; omega) hd).mono ?_
  rintro e w' ⟨AG, cg, A', c', rfl, q1, q2, q4⟩
  obtain ⟨AV, cv, ev, _, _, vg⟩ := q1.view
  injection ev with e1 _ e3
  subst e1
  subst e3
  have e1 := map_filter_pl (fun x => lostB x.num x.at_ ((a' : Int) - 1) delay now) (lostS a' delay now) (fun _ => rfl) m
  have e2 := map_filter_pl (fun x => !lostB x.num x.at_ ((a' : Int) - 1) delay now) (fun s => !lostS a' delay now s) (fun _ => rfl) m
  have hrl := k2.row.lt
  have hJ := Jt.right k7 k1 k3 k5 k8 k9 kA kB q2 e2 (k6.filter _) q4 (fun b hb => hb.imp id Or.inr)
  exact ⟨AG, cg, _, rfl, ⟨fun b => TR b ∨ (Value.slice AG (m.filter (fun x => lostB x.num x.at_ ((a' : Int) - 1) delay now)).length cg).ownBlock = some b, vg.mono (fun _ _ h => Or.inr h), fun x hx => ((k2.its x (List.mem_filter.1 hx).1).chg q4 (fun b hb e => k2.nr b hb e)).mono (fun _ _ h => Or.inl h), fun b hb => hb.elim (k2.nr b) (fun e => by have := (q1.lt e).1; omega), by have := List.length_filter_le (fun x => lostB x.num x.at_ ((a' : Int) - 1) delay now) m; omega⟩, e1, hJ, q4⟩
theorem jDrop (h : Jt w n0 g r K P n a Q n' a') :
    Calls Try.prog 14 #[.pointer (some ⟨g, 0, none⟩)] w fun e w' => e = .returned (.int .i64 (P.length : Int)) ∧ Jt w' n0 g r K [] n a Q n' a' ∧ Chg (Sj n0 K) w w' := by
  obtain ⟨T, v, l, TR, A, c, m, k1, k2, rfl, k4, k5, k6, k7, k8, k9, kA, kB⟩ := h
  have hcn := k5.count
  refine (Drop_any n0 g n a T v l w k1 (by omega)).mono ?_
  rintro e w' ⟨rfl, lv, q2, q4⟩
  exact ⟨by rw [List.length_map], Jt.left (v' := lv) k7 k1 k2 k4 k6 k8 k9 kA kB (q2.past k7.2.2.2) rfl k5.none (q4.mono (fun b _ e => Or.inl e)) (fun b hb => Or.inl hb) (fun b hb => Or.inr (q2.own.lt hb).1)⟩
/-- What the document's ledger holds. -/
theorem jL (h : Jt w n0 g r K P n a Q n' a') : ∃ A c m, Row w r 48 [.slice A m.length c, .int .i64 (n' : Int), .int .i64 (a' : Int)] ∧ Ans w r A m ∧ m.map It.pl = Q := by
  obtain ⟨T, v, l, TR, A, c, m, k1, k2, k3, rfl, k5, k6, k7, k8, k9, kA, kB⟩ := h
  exact ⟨A, c, m, k2.row, ⟨TR, k2.view, k2.its, k2.nr, k6.count⟩, rfl⟩
theorem jNil (h : Jt w n0 g r K P n a Q n' a') : Jt (w.setCell ⟨r, 0, none⟩ (.slice none 0 0)) n0 g r K P n a [] n' a' ∧ Chg (· = r) w (w.setCell ⟨r, 0, none⟩ (.slice none 0 0)) := by
  obtain ⟨T, v, l, TR, A, c, m, k1, k2, k3, rfl, k5, k6, k7, k8, k9, kA, kB⟩ := h
  have hc : Chg (· = r) w (w.setCell ⟨r, 0, none⟩ (.slice none 0 0)) := Chg.setCell (S := fun b => b = r) (Chg.refl _ w) (fun _ => rfl) _
  exact ⟨Jt.right (TR' := fun _ => False) (A' := none) (c' := 0) (m' := []) k7 k1 k3 k5 k8 k9 kA kB ⟨k2.row.set 0 (.slice none 0 0), Nat.le_refl _, View.none_ _ _ _, fun x hx => (nomatch hx), fun _ h => h.elim⟩ rfl k6.none hc (fun _ h => h.elim), hc⟩
theorem jFlight (h : Jt w n0 g r K P n a Q n' a') : Calls Try.prog 16 #[.pointer (some ⟨g, 0, none⟩)] w fun e w' => e = .returned (.complex .f64 (dbl (flNs P)) (dbl (flBs P))) ∧ Chg none_ w w' := by
  obtain ⟨T, v, l, TR, A, c, m, k1, k2, rfl, k4, k5, k6, k7, k8, k9, kA, kB⟩ := h
  rw [← flN_pl, ← flB_pl]
  exact Flight_any n0 g n a T v l w k1 (by have := k5.count; omega) (fun x hx => (k5.items x hx).2)
theorem jNext (h : Jt w n0 g r K P n a Q n' a') : Calls Try.prog 17 #[.pointer (some ⟨g, 0, none⟩)] w fun e w' => e = .returned (.int .i64 (n : Int)) ∧ Chg none_ w w' := by
  obtain ⟨T, v, l, TR, A, c, m, k1, k2, rfl, k4, k5, k6, k7, k8, k9, kA, kB⟩ := h
  exact (Next_any k1).mono (fun _ _ q => ⟨q.1, by rw [q.2]; exact Chg.refl _ _⟩)
theorem jAcked (h : Jt w n0 g r K P n a Q n' a') : Calls Try.prog 18 #[.pointer (some ⟨g, 0, none⟩)] w fun e w' => e = .returned (.int .i64 ((a : Int) - 1)) ∧ Chg none_ w w' := by
  obtain ⟨T, v, l, TR, A, c, m, k1, k2, rfl, k4, k5, k6, k7, k8, k9, kA, kB⟩ := h
  exact (Acked_any k1 (by have h1 := k5.above; have h2 := k5.next; omega)).mono (fun _ _ q => ⟨q.1, by rw [q.2]; exact Chg.refl _ _⟩)
theorem jLast (h : Jt w n0 g r K P n a Q n' a') : Calls Try.prog 11 #[.pointer (some ⟨g, 0, none⟩)] w fun e w' => e = .returned (.tuple #[.int .u64 (((lastP P).1 : Nat) : Int), .bool (lastP P).2]) ∧ Chg none_ w w' := by
  obtain ⟨T, v, l, TR, A, c, m, k1, k2, rfl, k4, k5, k6, k7, k8, k9, kA, kB⟩ := h
  rw [← lastI_pl]
  exact Last_any n0 g n a T v l w k1 (by have := k5.count; omega)
theorem jDue (delay : Nat) (h : Jt w n0 g r K P n a Q n' a') : Calls Try.prog 15 #[.pointer (some ⟨g, 0, none⟩), .int .u64 (delay : Int)] w fun e w' => e = .returned (.int .u64 (dueP a delay P : Nat)) ∧ Chg none_ w w' := by
  obtain ⟨T, v, l, TR, A, c, m, k1, k2, rfl, k4, k5, k6, k7, k8, k9, kA, kB⟩ := h
  rw [← dueN_pl]
  exact Due_any n0 g n a delay T v l w k1 (by have := k5.count; omega) (by have h1 := k5.above; have h2 := k5.next; omega)
theorem jList (h : Jt w n0 g r K P n a Q n' a') : Calls Try.prog 13 #[.pointer (some ⟨g, 0, none⟩)] w fun e w' => ∃ AG cg G, e = .returned (.slice AG G.length cg) ∧ Ans w' r AG G ∧ G.map It.pl = P ∧ Chg none_ w w' := by
  obtain ⟨T, v, l, TR, A, c, m, k1, k2, rfl, k4, k5, k6, k7, k8, k9, kA, kB⟩ := h
  have hrl := k2.row.lt
  refine (List_any n0 g n a T v l w k1 (by have := k5.count; omega)).mono ?_
  rintro e w' ⟨gv, L, rfl, q1, q2, q3, q4⟩
  obtain ⟨AG, cg, rfl, _, _, vg⟩ := q1.view
  exact ⟨AG, cg, L, rfl, ⟨fun b => w.heap.size ≤ b, vg.mono (fun b _ e => (q1.lt e).1), q3, fun b hb => by omega, by have h1 := congrArg List.length q2; have h2 := k5.count; simp only [List.length_map] at h1; omega⟩, q2, q4⟩
theorem jRFlight (h : Jt w n0 g r K P n a Q n' a') : Calls Try.prog 23 #[.pointer (some ⟨r, 0, none⟩)] w fun e w' => e = .returned (.tuple #[.int .i64 ((flNs Q : Nat) : Int), .int .i64 ((flBs Q : Nat) : Int)]) ∧ w = w' := by
  obtain ⟨T, v, l, TR, A, c, m, k1, k2, k3, rfl, k5, k6, k7, k8, k9, kA, kB⟩ := h
  rw [← flN_pl, ← flB_pl]
  exact RFlight_any r c n' a' TR A m w k2 k6.count (fun x hx => (k6.items x hx).2)
theorem jRLast (h : Jt w n0 g r K P n a Q n' a') : Calls Try.prog 24 #[.pointer (some ⟨r, 0, none⟩)] w fun e w' => e = .returned (.tuple #[.int .u64 (((lastP Q).1 : Nat) : Int), .bool (lastP Q).2]) ∧ w = w' := by
  obtain ⟨T, v, l, TR, A, c, m, k1, k2, k3, rfl, k5, k6, k7, k8, k9, kA, kB⟩ := h
  rw [← lastI_pl]
  exact RLast_any r c n' a' TR A m w k2 k6.count
theorem jRDue (delay : Nat) (h : Jt w n0 g r K P n a Q n' a') (hd : delay < 18446744073709551616) : Calls Try.prog 25 #[.pointer (some ⟨r, 0, none⟩), .int .u64 (delay : Int)] w fun e w' => e = .returned (.int .u64 ((dueP a' delay Q : Nat) : Int)) ∧ Chg none_ w w' := by
  obtain ⟨T, v, l, TR, A, c, m, k1, k2, k3, rfl, k5, k6, k7, k8, k9, kA, kB⟩ := h
  rw [← dueN_pl]
  have hnx := k6.next
  exact RDue_any r c n' a' delay TR A m w k2 k6.count (by have := k6.above; omega) hd (fun x hx => by have := (k6.items x hx).1; omega)
end
end Go.Proofs.Ytakoeamfmmbdiaa
