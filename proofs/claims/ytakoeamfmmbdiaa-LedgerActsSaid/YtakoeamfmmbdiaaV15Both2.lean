/- Layer 15 (ledger): both ledgers' Send and Ack, whatever the input. -/
import Derived.Test.YtakoeamfmmbdiaaV15Both
import Derived.Test.YtakoeamfmmbdiaaV15Open
namespace Go.Proofs.Ytakoeamfmmbdiaa
open Go.RowKit

/-- What Send answers, and what is there behind it. -/
def sndV (P : List Sn) (n : Nat) (x : It) : Int × Int := if x.size < 0 ∨ 1200 < x.size then (0, 1) else if 64 ≤ P.length then (0, 5) else ((n : Int), 0)
def sndP (P : List Sn) (n : Nat) (x : It) : List Sn × Nat := if x.size < 0 ∨ 1200 < x.size then (P, n) else if 64 ≤ P.length then (P, n) else (P ++ [{ x.pl with num := (n : Int) }], n + 1)
theorem sndP_le (P : List Sn) (n : Nat) (x : It) : (sndP P n x).2 ≤ n + 1 := by
  unfold sndP
  split
  · exact Nat.le_succ n
  · split
    · exact Nat.le_succ n
    · exact Nat.le_refl _
/-- What Ack answers, and what is there behind it. -/
def ackE (rs : List (Nat × Nat)) (n : Nat) : Int := if badS rs n then 3 else 0
def ackG (P : List Sn) (rs : List (Nat × Nat)) (n : Nat) : List Sn := if badS rs n then [] else P.filter (inS rs)
def ackP (P : List Sn) (rs : List (Nat × Nat)) (n : Nat) : List Sn := if badS rs n then P else P.filter (fun s => !inS rs s)
def ackA (P : List Sn) (rs : List (Nat × Nat)) (n a : Nat) : Nat := if badS rs n then a else maxS a (P.filter (inS rs))
theorem Ans.none (w : World) (r : Nat) : Ans w r none [] := ⟨fun _ => False, View.none_ _ _ _, fun x hx => (nomatch hx), fun _ h => h.elim, by decide⟩
theorem lac_one (x : La) : (lac x).all (·.oneCell') = true := rfl
theorem lac_mid (x : La) : ∀ j v, (itc x.p)[j]? = some v → (lac x)[1 + j]? = some v := fun j v hv => by
  have hj : j < 5 := by
    have := (List.getElem?_eq_some_iff.1 hv).1
    rwa [itc_len] at this
  rw [← hv]
  have : j = 0 ∨ j = 1 ∨ j = 2 ∨ j = 3 ∨ j = 4 := by omega
  rcases this with rfl | rfl | rfl | rfl | rfl <;> rfl
section
variable {w w' : World} {n0 g r n a n' a' : Nat} {K : Nat → Prop} {P Q : List Sn}
theorem Jt.gS (h : Jt w n0 g r K P n a Q n' a') {w1 w2 : World} (hc : Chg (· = g) w1 w2) : Chg (Sj n0 K) w1 w2 := by
  obtain ⟨T, v, l, TR, A, c, m, h1, h2, h3, h4, h5, h6, ⟨b1, b2, b3, b4⟩, h8, h9, hA, hB⟩ := h
  exact hc.mono (fun b _ e => by subst e; exact ⟨b1, fun k => (hB _ k).1 rfl⟩)
theorem Jt.ne (h : Jt w n0 g r K P n a Q n' a') : g ≠ r := by
  obtain ⟨T, v, l, TR, A, c, m, h1, h2, h3, h4, h5, h6, ⟨b1, b2, b3, b4⟩, h8, h9, hA, hB⟩ := h
  exact b3
theorem Jt.gr (h : Jt w n0 g r K P n a Q n' a') : n0 ≤ r := by
  obtain ⟨T, v, l, TR, A, c, m, h1, h2, h3, h4, h5, h6, ⟨b1, b2, b3, b4⟩, h8, h9, hA, hB⟩ := h
  exact b2
theorem jDrop' (h : Jt w n0 g r K P n a Q n' a') :
    Calls Try.prog 14 #[.pointer (some ⟨g, 0, none⟩)] w fun e w' => e = .returned (.int .i64 (P.length : Int)) ∧ Jt w' n0 g r K [] n a Q n' a' ∧ Chg (· = g) w w' := by
  obtain ⟨T, v, l, TR, A, c, m, k1, k2, rfl, k4, k5, k6, k7, k8, k9, kA, kB⟩ := h
  have hcn := k5.count
  refine (Drop_any n0 g n a T v l w k1 (by omega)).mono ?_
  rintro e w' ⟨rfl, lv, q2, q4⟩
  exact ⟨by rw [List.length_map], (Jt.left (v' := lv) k7 k1 k2 k4 k6 k8 k9 kA kB (q2.past k7.2.2.2) rfl k5.none (q4.mono (fun b _ e => Or.inl e)) (fun b hb => Or.inl hb) (fun b hb => Or.inr (q2.own.lt hb).1)).1, q4⟩
theorem sSend {x : It} (h : Jt w n0 g r K P n a Q n' a') (hx : ItD w (fun b => b < n0) x) (hn : n < 1000000) :
    Calls Try.prog 9 #[.pointer (some ⟨g, 0, none⟩), .agg (itc x).toArray] w fun e w' => e = .returned (.tuple #[.int .i64 (sndV P n x).1, .int .i64 (sndV P n x).2]) ∧ Jt w' n0 g r K (sndP P n x).1 (sndP P n x).2 a Q n' a' ∧ Chg (Sj n0 K) w w' := by
  unfold sndV sndP
  by_cases h1 : x.size < 0 ∨ 1200 < x.size
  · simp only [if_pos h1]
    exact (pSend_bad h1).mono (fun e w' ⟨q1, q2⟩ => ⟨q1, h.quiet q2, chg_none q2⟩)
  · simp only [if_neg h1]
    by_cases h2 : 64 ≤ P.length
    · simp only [if_pos h2]
      exact (jSend_full h (by omega) (by omega) h2).mono (fun e w' ⟨q1, q2⟩ => ⟨q1, h.quiet q2, chg_none q2⟩)
    · simp only [if_neg h2]
      exact jSend h hx (by omega) (by omega) (by omega) hn
theorem sRSend {x : It} (h : Jt w n0 g r K P n a Q n' a') (hx : ItD w (fun b => b < n0) x) (hn : n' < 1000000) :
    Calls Try.prog 19 #[.pointer (some ⟨r, 0, none⟩), .agg (itc x).toArray] w fun e w' => e = .returned (.tuple #[.int .i64 (sndV Q n' x).1, .int .i64 (sndV Q n' x).2]) ∧ Jt w' n0 g r K P n a (sndP Q n' x).1 (sndP Q n' x).2 a' ∧ Chg (· = r) w w' := by
  unfold sndV sndP
  by_cases h1 : x.size < 0 ∨ 1200 < x.size
  · simp only [if_pos h1]
    exact (RSend_bad r x w h1).mono (fun e w' ⟨q1, q2⟩ => ⟨q1, h.quiet q2, chg_none q2⟩)
  · simp only [if_neg h1]
    by_cases h2 : 64 ≤ Q.length
    · simp only [if_pos h2]
      exact (jRSend_full h (by omega) (by omega) h2).mono (fun e w' ⟨q1, q2⟩ => ⟨q1, h.quiet q2, chg_none q2⟩)
    · simp only [if_neg h2]
      exact jRSend h hx (by omega) (by omega) (by omega) hn
theorem sAck {T0 : Nat → Prop} {rs : List (Nat × Nat)} {B : Option Addr} {cr : Nat} (h : Jt w n0 g r K P n a Q n' a') (hv : View w T0 B (rs.length * 2) (rs.flatMap rgc)) (hr : rs.length ≤ 1000000) :
    Calls Try.prog 10 #[.pointer (some ⟨g, 0, none⟩), .slice B rs.length cr] w fun e w' => ∃ AG cg G, e = .returned (.tuple #[.slice AG G.length cg, .int .i64 (ackE rs n)]) ∧ Ans w' r AG G ∧ G.map It.pl = ackG P rs n ∧ Jt w' n0 g r K (ackP P rs n) n (ackA P rs n a) Q n' a' ∧ Chg (Sj n0 K) w w' := by
  unfold ackE ackG ackP ackA
  cases hb : badS rs n with
  | true => exact (jAck_bad h hv hr hb).mono (fun e w' ⟨q1, q2⟩ => ⟨none, 0, [], q1, Ans.none _ _, rfl, h.quiet q2, chg_none q2⟩)
  | false => exact jAck h hv hr hb
theorem sRAck {T0 : Nat → Prop} {rs : List (Nat × Nat)} {B : Option Addr} {cr : Nat} (h : Jt w n0 g r K P n a Q n' a') (hv : View w T0 B (rs.length * 2) (rs.flatMap rgc)) (hvr : ∀ b, T0 b → b ≠ r) (hr : rs.length ≤ 1000000) :
    Calls Try.prog 20 #[.pointer (some ⟨r, 0, none⟩), .slice B rs.length cr] w fun e w' => ∃ AG cg G, e = .returned (.tuple #[.slice AG G.length cg, .int .i64 (ackE rs n')]) ∧ Ans w' r AG G ∧ G.map It.pl = ackG Q rs n' ∧ Jt w' n0 g r K P n a (ackP Q rs n') n' (ackA Q rs n' a') ∧ Chg (· = r) w w' := by
  unfold ackE ackG ackP ackA
  cases hb : badS rs n' with
  | true => exact (jRAck_bad h hv hr hb).mono (fun e w' ⟨q1, q2⟩ => ⟨none, 0, [], q1, Ans.none _ _, rfl, h.quiet q2, chg_none q2⟩)
  | false => exact jRAck h hv hvr hr hb
end
end Go.Proofs.Ytakoeamfmmbdiaa
