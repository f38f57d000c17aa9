/- Layer 16 (reasm): a buffer told plainly: which byte came at which place, whether it is still kept or not. -/
import Derived.Test.YtbmhoijdbhokaaaMapB
namespace Go.Proofs.Ytbmhoijdbhokaaa

/-- A buffer: its window, how many were read, the first place without a byte, the greatest end, whether that is the final size; the kept bytes; and all that came. -/
structure Rb where
  win : Nat
  rd : Nat
  gap : Nat
  top : Nat
  kn : Bool
  es : List (Nat × Nat)
  B : Nat → Option Nat

structure Core (s : Rb) : Prop where
  win : s.win ≤ 100000
  far : s.rd + s.win ≤ 4611686018427487903
  nod : (s.es.map (·.1)).Nodup
  look : ∀ p, lookN s.es p = if p < s.rd then none else s.B p
  rg : s.rd ≤ s.gap
  below : ∀ p, p < s.gap → ∃ x, s.B p = some x
  byte : ∀ p x, s.B p = some x → x < 256 ∧ p < s.rd + s.win
structure Rb.Ok (s : Rb) : Prop where
  core : Core s
  gapN : s.B s.gap = none
  tops : ∀ p x, s.B p = some x → p < s.top
  lim : s.top ≤ s.rd + s.win
  max : s.top ≤ 4611686018427387903
  rt : s.rd ≤ s.top

def newB (win : Nat) : Rb := ⟨win, 0, 0, 0, false, [], fun _ => none⟩
theorem newB_ok {win : Nat} (h : win ≤ 100000) : (newB win).Ok :=
  ⟨⟨h, by simp [newB]; omega, by simp [newB], fun p => by simp [newB, lookN], Nat.le_refl _, fun p hp => absurd hp (Nat.not_lt_zero _), fun p x hx => (by cases hx)⟩, rfl, fun p x hx => (by cases hx), Nat.zero_le _, Nat.zero_le _, Nat.le_refl _⟩

theorem Core.gap_le {s : Rb} (h : Core s) : s.gap ≤ s.rd + s.win := by
  rcases Nat.eq_zero_or_pos s.gap with h0 | h0
  · omega
  · obtain ⟨x, hx⟩ := h.below (s.gap - 1) (by omega)
    have := (h.byte _ _ hx).2
    omega
theorem Rb.Ok.gap_top {s : Rb} (h : s.Ok) : s.gap ≤ s.top := by
  rcases Nat.eq_zero_or_pos s.gap with h0 | h0
  · omega
  · obtain ⟨x, hx⟩ := h.core.below (s.gap - 1) (by omega)
    have := h.tops _ _ hx
    omega

/-- Has a place its byte? -/
def cameB (s : Rb) (p : Nat) : Bool := (s.B p).isSome
theorem Core.came {s : Rb} (h : Core s) (p : Nat) : cameB s p = ((lookN s.es p).isSome || decide (p < s.gap)) := by
  unfold cameB
  rw [h.look]
  by_cases h1 : p < s.gap
  · obtain ⟨x, hx⟩ := h.below p h1
    simp [hx, h1]
  · rw [if_neg (by have := h.rg; omega)]
    simp [h1]

/-- A place gets its byte, if it has none. -/
def oneS (s : Rb) (p v : Nat) : Rb := if cameB s p then s else { s with es := s.es ++ [(p, v)], B := fun q => if q = p then some v else s.B q }
theorem oneS_core {s : Rb} (h : Core s) {p v : Nat} (hp : p < s.rd + s.win) (hv : v < 256) : Core (oneS s p v) := by
  unfold oneS
  split
  · exact h
  · rename_i hc
    have hB : s.B p = none := by
      unfold cameB at hc
      cases hb : s.B p with
      | none => rfl
      | some x => rw [hb] at hc; exact absurd rfl hc
    have hg : ¬ p < s.gap := fun hlt => by obtain ⟨x, hx⟩ := h.below p hlt; rw [hB] at hx; cases hx
    have hr : ¬ p < s.rd := by have := h.rg; omega
    have hl : lookN s.es p = none := by rw [h.look, if_neg hr, hB]
    refine ⟨h.win, h.far, ?_, fun q => ?_, h.rg, fun q hq => ?_, fun q x hx => ?_⟩
    · rw [List.map_append, List.nodup_append]
      refine ⟨h.nod, by simp, fun a ha b hb e => ?_⟩
      simp only [List.map_cons, List.map_nil, List.mem_singleton] at hb
      subst hb; subst e
      exact lookN_none hl ha
    · simp only
      rw [lookN_snoc _ _ _ _ hl]
      by_cases hq : q = p
      · rw [if_pos hq, if_pos hq, hq, if_neg hr]
      · rw [if_neg hq, if_neg hq, h.look]
    · simp only at hq ⊢
      split
      · exact ⟨v, rfl⟩
      · exact h.below q hq
    · simp only at hx ⊢
      split at hx
      · rename_i e; cases hx; subst e; exact ⟨hv, hp⟩
      · exact h.byte q x hx

/-- What has come when bytes came from an offset on. -/
def putB (B : Nat → Option Nat) (off : Nat) (data : List Nat) (q : Nat) : Option Nat :=
  match B q with
  | some x => some x
  | none => if off ≤ q then data[q - off]? else none
theorem putB_nil (B : Nat → Option Nat) (off : Nat) : putB B off [] = B := by
  funext q
  unfold putB
  cases B q <;> simp
theorem putB_snoc (B : Nat → Option Nat) (off : Nat) (l : List Nat) (v q : Nat) : putB B off (l ++ [v]) q = if q = off + l.length ∧ B q = none then some v else putB B off l q := by
  unfold putB
  cases hB : B q with
  | some x => simp
  | none =>
    by_cases hq : q = off + l.length
    · subst hq
      simp
    · simp only [hq, false_and, if_false]
      by_cases ho : off ≤ q
      · rw [if_pos ho, if_pos ho, List.getElem?_append]
        split
        · rfl
        · rename_i h2
          rw [List.getElem?_eq_none (by simp; omega), List.getElem?_eq_none (by omega)]
      · rw [if_neg ho, if_neg ho]
theorem oneS_B (s : Rb) (p v q : Nat) : (oneS s p v).B q = if q = p ∧ s.B q = none then some v else s.B q := by
  unfold oneS cameB
  by_cases hq : q = p
  · subst hq
    cases hB : s.B q <;> simp [hB]
  · cases hB : s.B p <;> simp [hq]

/-- What a buffer is when these bytes were kept: all but the gap. -/
structure KeptB (s t : Rb) (off : Nat) (data : List Nat) : Prop where
  core : Core t
  win : t.win = s.win
  rd : t.rd = s.rd
  gap : t.gap = s.gap
  top : t.top = s.top
  kn : t.kn = s.kn
  B : t.B = putB s.B off data
theorem KeptB.refl {s : Rb} (h : Core s) (off : Nat) : KeptB s s off [] := ⟨h, rfl, rfl, rfl, rfl, rfl, (putB_nil _ _).symm⟩
theorem KeptB.snoc {s t : Rb} {off : Nat} {l : List Nat} (h : KeptB s t off l) {v : Nat} (hv : v < 256) (hp : off + l.length < s.rd + s.win) : KeptB s (oneS t (off + l.length) v) off (l ++ [v]) := by
  refine ⟨oneS_core h.core (by rw [h.rd, h.win]; exact hp) hv, ?_, ?_, ?_, ?_, ?_, ?_⟩
  · rw [← h.win]; unfold oneS; split <;> rfl
  · rw [← h.rd]; unfold oneS; split <;> rfl
  · rw [← h.gap]; unfold oneS; split <;> rfl
  · rw [← h.top]; unfold oneS; split <;> rfl
  · rw [← h.kn]; unfold oneS; split <;> rfl
  · funext q
    rw [oneS_B, putB_snoc, h.B]
    by_cases hq : q = off + l.length
    · subst hq
      cases hB : s.B (off + l.length) with
      | some x =>
        have : putB s.B off l (off + l.length) = some x := by unfold putB; rw [hB]
        simp [this]
      | none =>
        have : putB s.B off l (off + l.length) = none := by unfold putB; rw [hB]; simp
        simp [this]
    · simp [hq]

/-- Bytes one behind the other, from a place on. -/
def SeqOf (M : Nat → Option Nat) (p : Nat) (xs : List (Nat × Nat)) : Prop := ∀ i x, xs[i]? = some x → x.1 = p + i ∧ M (p + i) = some x.2
theorem SeqOf.nil (M : Nat → Option Nat) (p : Nat) : SeqOf M p [] := fun i x h => by simp at h
theorem SeqOf.snoc {M : Nat → Option Nat} {p : Nat} {xs : List (Nat × Nat)} (h : SeqOf M p xs) {x : Nat × Nat} (h1 : x.1 = p + xs.length) (h2 : M x.1 = some x.2) : SeqOf M p (xs ++ [x]) := fun i y hy => by
  rw [List.getElem?_append] at hy
  split at hy
  · exact h i y hy
  · rename_i hi
    rcases Nat.eq_zero_or_pos (i - xs.length) with h0 | h0
    · rw [h0] at hy
      simp at hy
      subst hy
      have : i = xs.length := by omega
      subst this
      exact ⟨h1, by rw [← h1]; exact h2⟩
    · rw [List.getElem?_eq_none (by simp; omega)] at hy
      cases hy
/-- The bytes of so many places. -/
def bytesB (B : Nat → Option Nat) (p n : Nat) : List Nat := (List.range n).map fun i => (B (p + i)).getD 0
theorem bytesB_length (B : Nat → Option Nat) (p n : Nat) : (bytesB B p n).length = n := by simp [bytesB]
theorem bytesB_succ (B : Nat → Option Nat) (p n : Nat) : bytesB B p (n + 1) = bytesB B p n ++ [(B (p + n)).getD 0] := by simp [bytesB, List.range_succ]
theorem SeqOf.bytes {M : Nat → Option Nat} {p : Nat} {xs : List (Nat × Nat)} (h : SeqOf M p xs) : xs.map (·.2) = bytesB M p xs.length := by
  refine List.ext_getElem? fun i => ?_
  rw [List.getElem?_map, bytesB, List.getElem?_map]
  cases hx : xs[i]? with
  | none =>
    rw [List.getElem?_eq_none_iff] at hx
    rw [List.getElem?_eq_none (by simpa using hx)]
    rfl
  | some x =>
    have hi := (List.getElem?_eq_some_iff.1 hx).1
    have := (h i x hx).2
    rw [List.getElem?_range hi]
    simp [this]

/-- The gap goes on. -/
theorem Core.gapUp {s : Rb} (h : Core s) {q : Nat} (hq : s.gap ≤ q) (hb : ∀ p, s.gap ≤ p → p < q → ∃ x, s.B p = some x) : Core { s with gap := q } :=
  ⟨h.win, h.far, h.nod, h.look, Nat.le_trans h.rg hq, fun p hp => by
    rcases Nat.lt_or_ge p s.gap with h1 | h1
    · exact h.below p h1
    · exact hb p h1 hp, h.byte⟩
theorem SeqOf.has {M : Nat → Option Nat} {p : Nat} {xs : List (Nat × Nat)} (h : SeqOf M p xs) {q : Nat} (h1 : p ≤ q) (h2 : q < p + xs.length) : ∃ x, M q = some x := by
  have hi : q - p < xs.length := by omega
  have := (h (q - p) _ (List.getElem?_eq_getElem hi)).2
  rw [show p + (q - p) = q by omega] at this
  exact ⟨_, this⟩

/-- Read: the kept ones go. -/
def strike (es : List (Nat × Nat)) (p : Nat) : Nat → List (Nat × Nat)
  | 0 => es
  | n + 1 => without (strike es p n) (p + n)
theorem strike_nodup {es : List (Nat × Nat)} (h : (es.map (·.1)).Nodup) (p n : Nat) : ((strike es p n).map (·.1)).Nodup := by
  induction n with
  | zero => exact h
  | succ n ih => exact without_nodup ih _
theorem lookN_strike {es : List (Nat × Nat)} (h : (es.map (·.1)).Nodup) (p n q : Nat) : lookN (strike es p n) q = if p ≤ q ∧ q < p + n then none else lookN es q := by
  induction n with
  | zero => rw [if_neg (by omega)]; rfl
  | succ n ih =>
    rw [strike, lookN_without (strike_nodup h p n), ih]
    by_cases h1 : q = p + n
    · rw [if_pos h1, if_pos (by omega)]
    · rw [if_neg h1]
      by_cases h2 : p ≤ q ∧ q < p + n
      · rw [if_pos h2, if_pos (by omega)]
      · rw [if_neg h2, if_neg (by omega)]
def readS (s : Rb) (k : Nat) : Rb := { s with rd := s.rd + k, es := strike s.es s.rd k }
theorem readS_ok {s : Rb} (h : s.Ok) {k : Nat} (hk : s.rd + k ≤ s.gap) : (readS s k).Ok := by
  have hgt := h.gap_top
  refine ⟨⟨h.core.win, by have := h.max; have := h.core.win; simp only [readS]; omega, strike_nodup h.core.nod _ _, fun p => ?_, hk, h.core.below, fun p x hx => ?_⟩, h.gapN, h.tops, by have := h.lim; simp only [readS]; omega, h.max, by simp only [readS]; omega⟩
  · show lookN (strike s.es s.rd k) p = if p < s.rd + k then none else s.B p
    rw [lookN_strike h.core.nod, h.core.look]
    by_cases h1 : p < s.rd + k
    · rw [if_pos h1]
      by_cases h2 : p < s.rd
      · rw [if_neg (by omega), if_pos h2]
      · rw [if_pos (by omega)]
    · rw [if_neg h1, if_neg (by omega), if_neg (by omega)]
  · obtain ⟨h1, h2⟩ := h.core.byte p x hx
    exact ⟨h1, by simp only [readS]; omega⟩

/-- A list of numbers without twins, all of them in another one, isn't longer. -/
theorem nodup_le : ∀ {l m : List Nat}, l.Nodup → (∀ x ∈ l, x ∈ m) → l.length ≤ m.length
  | [], _, _, _ => Nat.zero_le _
  | a :: l, m, h, hm => by
    rw [List.nodup_cons] at h
    have h1 : a ∈ m := hm a (by simp)
    have h2 := nodup_le (m := m.erase a) h.2 (fun x hx => (List.mem_erase_of_ne (fun e => by subst e; exact h.1 hx)).2 (hm x (by simp [hx])))
    rw [List.length_erase_of_mem h1] at h2
    have h3 := List.length_pos_of_mem h1
    simp only [List.length_cons]
    omega
theorem Core.held_le {s : Rb} (h : Core s) : s.es.length ≤ s.win := by
  have := nodup_le (m := List.range' s.rd s.win) h.nod (fun x hx => by
    obtain ⟨v, hv⟩ := lookN_mem hx
    rw [h.look] at hv
    split at hv
    · cases hv
    · have := (h.byte x v hv).2
      rw [List.mem_range'_1]
      omega)
  simpa using this
theorem Core.ready_le {s : Rb} (h : Core s) : s.gap - s.rd ≤ s.es.length := by
  have := nodup_le (l := List.range' s.rd (s.gap - s.rd)) (m := s.es.map (·.1)) List.nodup_range' (fun x hx => by
    rw [List.mem_range'_1] at hx
    obtain ⟨v, hv⟩ := h.below x (by omega)
    refine lookN_some (v := v) ?_
    rw [h.look, if_neg (by omega), hv])
  simpa using this

/-- The error of bytes that come. -/
def putE (s : Rb) (off n : Nat) (last : Bool) : Nat :=
  if 4611686018427387903 < off + n then 1 else if s.rd + s.win < off + n then 9 else if s.kn = true ∧ s.top < off + n ∨ last = true ∧ off + n < s.top then 10 else 0
/-- A buffer behind bytes that came. -/
structure PutS (s t : Rb) (off : Nat) (data : List Nat) (last : Bool) : Prop where
  ok : t.Ok
  win : t.win = s.win
  rd : t.rd = s.rd
  top : t.top = max s.top (off + data.length)
  kn : t.kn = (s.kn || last)
  B : t.B = putB s.B off data
theorem putS_of {s t : Rb} {off : Nat} {data : List Nat} {last : Bool} (h : s.Ok) (he : putE s off data.length last = 0) (hk : KeptB s t off data) {q : Nat} (hq : t.gap ≤ q) (hb : ∀ p, t.gap ≤ p → p < q → ∃ x, t.B p = some x) (hn : t.B q = none) :
    PutS s { t with gap := q, top := max t.top (off + data.length), kn := t.kn || last } off data last := by
  unfold putE at he
  split at he
  · cases he
  · split at he
    · cases he
    · rename_i h1 h2
      have hc := hk.core.gapUp hq hb
      refine ⟨⟨⟨hc.win, hc.far, hc.nod, hc.look, hc.rg, hc.below, hc.byte⟩, hn, fun p x hx => ?_, ?_, ?_, ?_⟩, hk.win, hk.rd, by rw [hk.top], by rw [hk.kn], hk.B⟩
      · simp only at hx ⊢
        rw [hk.B] at hx
        unfold putB at hx
        cases hB : s.B p with
        | some y => have := h.tops p y hB; rw [hk.top]; omega
        | none =>
          rw [hB] at hx
          simp only at hx
          split at hx
          · have := (List.getElem?_eq_some_iff.1 hx).1
            omega
          · cases hx
      · have := h.lim
        simp only [hk.top, hk.rd, hk.win]
        omega
      · have := h.max
        simp only [hk.top]
        omega
      · have := h.rt
        simp only [hk.rd, hk.top]
        omega
end Go.Proofs.Ytbmhoijdbhokaaa
