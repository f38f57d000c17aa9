/- Layer 13 (ranges), plainly: a set's steps (a number comes, numbers go), and the document's ranges of numbers in order. -/
import Derived.Test.YtlakhfbhbebojaaV13Math
namespace Go.Proofs.Ytlakhfbhbebojaa

def MX : Nat := 4611686018427387903
/-- Ranges of numbers that are not old, at most so many. -/
structure Good (l : List (Nat × Nat)) (y k : Nat) : Prop where
  sep : Sep l
  all : ∀ r ∈ l, y ≤ r.1 ∧ r.2 ≤ MX
  len : l.length ≤ k
  yle : y ≤ MX + 1
theorem Good.in_ {l : List (Nat × Nat)} {y k x : Nat} (h : Good l y k) (hx : In l x) : y ≤ x ∧ x ≤ MX := by
  obtain ⟨r, hr, h1, h2⟩ := hx
  have := h.all r hr
  omega
theorem Good.zero (k : Nat) : Good [] 0 k := ⟨Sep.nil, (fun _ h => by cases h), Nat.zero_le _, Nat.zero_le _⟩
theorem Good.more {l : List (Nat × Nat)} {y k k' : Nat} (h : Good l y k) (hk : k ≤ k') : Good l y k' := ⟨h.sep, h.all, Nat.le_trans h.len hk, h.yle⟩

def cutL (l : List (Nat × Nat)) (n : Nat) : List (Nat × Nat) := l.take (fst_ (loLe n) l) ++ ((l.take (fst_ (hiLe n) l)).drop (fst_ (loLe n) l)).map (fun r => (n + 1, r.2))
def forgetS (l : List (Nat × Nat)) (y n : Nat) : List (Nat × Nat) × Nat := if min n MX < y then (l, y) else (cutL l (min n MX), min n MX + 1)
def forgetN (l : List (Nat × Nat)) (y n : Nat) : Nat := if min n MX < y then 0 else l.length - fst_ (hiLe (min n MX)) l
def addS (l : List (Nat × Nat)) (y n : Nat) : List (Nat × Nat) × Nat := match (addL l n)[16]? with
  | some r => forgetS (addL l n) y r.2
  | none => (addL l n, y)
/-- May a number be added? -/
def newB (l : List (Nat × Nat)) (y n : Nat) : Bool := !decide (MX < n) && !decide (n < y) && !hasL l n
/-- A set behind a number that was to be added. -/
def addT (l : List (Nat × Nat)) (y n : Nat) : List (Nat × Nat) × Nat := if newB l y n then addS l y n else (l, y)

theorem fst_lo_hi {l : List (Nat × Nat)} (h : Sep l) (n : Nat) : fst_ (loLe n) l ≤ fst_ (hiLe n) l :=
  fst_mono fun r hr h1 => by have := h.2 r hr; simp [loLe, hiLe] at h1 ⊢; omega
theorem cutL_len {l : List (Nat × Nat)} (h : Sep l) (n : Nat) : (cutL l n).length = fst_ (hiLe n) l := by
  have := fst_lo_hi h n
  have := fst_le (hiLe n) l
  simp only [cutL, List.length_append, List.length_take, List.length_map, List.length_drop]
  omega
theorem cutL_spec {l : List (Nat × Nat)} (h : Sep l) (n : Nat) : Sep (cutL l n) ∧ (∀ x, In (cutL l n) x ↔ In l x ∧ n < x) ∧ (∀ b, (∀ r ∈ l, r.2 ≤ b) → ∀ r ∈ cutL l n, n + 1 ≤ r.1 ∧ r.2 ≤ b) := by
  have hle := fst_lo_hi h n
  obtain ⟨h1, h2⟩ := fst_take (h.loLe n)
  obtain ⟨h3, h4⟩ := fst_take (h.hiLe n)
  unfold cutL
  generalize fst_ (loLe n) l = i at *
  generalize fst_ (hiLe n) l = j at *
  have hs : l = l.take i ++ ((l.take j).drop i ++ l.drop j) := by
    conv => lhs; rw [← List.take_append_drop j l]
    conv => lhs; lhs; rw [← List.take_append_drop i (l.take j)]
    rw [List.take_take, Nat.min_eq_left hle, List.append_assoc]
  have hM1 : ∀ a ∈ (l.take j).drop i, loLe n a = true := fun a ha => h2 a (by
    rw [List.drop_take] at ha
    exact List.mem_of_mem_take ha)
  have hM2 : ∀ a ∈ (l.take j).drop i, hiLe n a = false := fun a ha => h3 a (List.mem_of_mem_drop ha)
  generalize l.take i = A at *
  generalize (l.take j).drop i = M at *
  generalize l.drop j = B at *
  subst hs
  obtain ⟨sA, sMB, hAMB⟩ := Sep.append.1 h
  obtain ⟨sM, sB, hMB⟩ := Sep.append.1 sMB
  have hA : ∀ r ∈ A, n + 1 ≤ r.1 := fun r hr => by have := h1 r hr; simp [loLe] at this; omega
  have hB : ∀ r ∈ B, r.2 ≤ n := fun r hr => by have := h4 r hr; simp [hiLe] at this; omega
  have hM : ∀ r ∈ M, r.1 ≤ n ∧ n < r.2 := fun r hr => by
    have a1 := hM1 r hr
    have a2 := hM2 r hr
    simp [loLe, hiLe] at a1 a2
    omega
  have sMap : Sep (M.map (fun r => (n + 1, r.2))) := by
    match M, hM, sM with
    | [], _, _ => exact Sep.nil
    | [r], hM, _ => exact Sep.one (by have := hM r List.mem_cons_self; show n + 1 ≤ r.2; omega)
    | r :: s :: M', hM, sM =>
      have a1 := hM r List.mem_cons_self
      have a2 := hM s (by simp)
      have a3 := (Sep.cons.1 sM).1 s (by simp)
      omega
  refine ⟨Sep.append.2 ⟨sA, sMap, fun a ha b hb => ?_⟩, fun x => ?_, fun b hb r hr => ?_⟩
  · obtain ⟨r, hr, rfl⟩ := List.mem_map.1 hb
    exact hAMB a ha r (List.mem_append_left _ hr)
  · rw [In.append, In.append, In.append]
    have e1 : In (M.map (fun r => (n + 1, r.2))) x ↔ In M x ∧ n < x := by
      constructor
      · rintro ⟨q, hq, h5, h6⟩
        obtain ⟨r, hr, rfl⟩ := List.mem_map.1 hq
        have := hM r hr
        exact ⟨⟨r, hr, by simp at h5; omega, h6⟩, by simp at h5; omega⟩
      · rintro ⟨⟨r, hr, h5, h6⟩, h7⟩
        exact ⟨(n + 1, r.2), List.mem_map.2 ⟨r, hr, rfl⟩, h7, h6⟩
    have e2 : In A x → n < x := fun ⟨r, hr, h5, h6⟩ => by have := hA r hr; omega
    have e3 : In B x → x ≤ n := fun ⟨r, hr, h5, h6⟩ => by have := hB r hr; omega
    rw [e1]
    constructor
    · rintro (h | h)
      · exact ⟨Or.inl h, e2 h⟩
      · exact ⟨Or.inr (Or.inl h.1), h.2⟩
    · rintro ⟨h | h | h, h'⟩
      · exact Or.inl h
      · exact Or.inr ⟨h, h'⟩
      · have := e3 h; omega
  · rcases List.mem_append.1 hr with hr | hr
    · exact ⟨hA r hr, hb r (by simp [hr])⟩
    · obtain ⟨q, hq, rfl⟩ := List.mem_map.1 hr
      exact ⟨Nat.le_refl _, hb q (by simp [hq])⟩

theorem forgetS_spec {l : List (Nat × Nat)} {y k : Nat} (h : Good l y k) (n : Nat) : Good (forgetS l y n).1 (forgetS l y n).2 k ∧ (∀ x, In (forgetS l y n).1 x ↔ In l x ∧ min n MX < x) ∧ (forgetS l y n).2 = max y (min n MX + 1) := by
  unfold forgetS
  have hm : min n MX ≤ MX := Nat.min_le_right _ _
  generalize min n MX = m at *
  by_cases hc : m < y
  · rw [if_pos hc]
    refine ⟨h, fun x => ⟨fun hx => ⟨hx, ?_⟩, fun hx => hx.1⟩, ?_⟩
    · have := h.in_ hx; omega
    · show y = _; omega
  · rw [if_neg hc]
    obtain ⟨h1, h2, h3⟩ := cutL_spec h.sep m
    refine ⟨⟨h1, h3 MX (fun r hr => (h.all r hr).2), ?_, by show m + 1 ≤ _; omega⟩, h2, by show m + 1 = _; omega⟩
    show (cutL l m).length ≤ k
    rw [cutL_len h.sep]
    exact Nat.le_trans (fst_le _ _) h.len

theorem hasL_not {l : List (Nat × Nat)} {y k n : Nat} (h : Good l y k) : hasL l n = true ↔ In l n := hasL_iff h.sep n
theorem newB_iff {l : List (Nat × Nat)} {y k n : Nat} (h : Good l y k) : newB l y n = true ↔ n ≤ MX ∧ y ≤ n ∧ ¬ In l n := by
  unfold newB
  have := hasL_iff h.sep n
  cases hh : hasL l n
  · rw [hh] at this
    simp at this
    simp [this]
  · rw [hh] at this
    simp at this
    simp [this]
theorem addL_good {l : List (Nat × Nat)} {y n : Nat} (h : Good l y 16) (h1 : n ≤ MX) (h2 : y ≤ n) (h3 : ¬ In l n) : Good (addL l n) y 17 := by
  obtain ⟨a1, _, a3, a4⟩ := addL_spec h.sep h3
  exact ⟨a1, a4 y MX h.all h2 h1, by have := h.len; omega, h.yle⟩
theorem addS_spec {l : List (Nat × Nat)} {y n : Nat} (h : Good l y 16) (h1 : n ≤ MX) (h2 : y ≤ n) (h3 : ¬ In l n) :
    Good (addS l y n).1 (addS l y n).2 16 ∧ (∀ x, In (addS l y n).1 x ↔ (In l x ∨ x = n) ∧ (addS l y n).2 ≤ x) ∧ y ≤ (addS l y n).2 ∧ (l.length ≤ 15 → (addS l y n).2 = y) ∧ (addS l y n).1.length ≤ l.length + 1 := by
  have hg := addL_good h h1 h2 h3
  obtain ⟨a1, a2, a3, a4⟩ := addL_spec h.sep h3
  unfold addS
  cases hq : (addL l n)[16]? with
  | none =>
    have hlen : (addL l n).length ≤ 16 := by rw [List.getElem?_eq_none_iff] at hq; exact hq
    refine ⟨⟨hg.sep, hg.all, hlen, hg.yle⟩, fun x => ?_, Nat.le_refl _, fun _ => rfl, a3⟩
    show In (addL l n) x ↔ _ ∧ y ≤ x
    rw [← a2]
    exact ⟨fun hx => ⟨hx, (hg.in_ hx).1⟩, fun hx => hx.1⟩
  | some r =>
    obtain ⟨hlt, er⟩ := List.getElem?_eq_some_iff.1 hq
    have hr : r ∈ addL l n := er ▸ List.getElem_mem hlt
    have hr2 := hg.all r hr
    have hr3 := hg.sep.2 r hr
    obtain ⟨b1, b2, b3⟩ := forgetS_spec hg r.2
    have em : min r.2 MX = r.2 := by omega
    rw [em] at b2 b3
    have hlen : (forgetS (addL l n) y r.2).1.length ≤ 16 := by
      unfold forgetS
      rw [em, if_neg (by omega)]
      show (cutL _ _).length ≤ 16
      rw [cutL_len hg.sep]
      apply Nat.le_of_not_lt
      intro hgt
      have h4 := (fst_take (hg.sep.hiLe r.2)).1 r (by
        rw [List.mem_take_iff_getElem]
        exact ⟨16, by omega, er⟩)
      simp [hiLe] at h4
    refine ⟨⟨b1.sep, b1.all, hlen, b1.yle⟩, fun x => ?_, ?_, fun h5 => ?_, ?_⟩
    · show In (forgetS _ _ _).1 x ↔ _ ∧ (forgetS _ _ _).2 ≤ x
      rw [b2, b3, a2]
      constructor
      · rintro ⟨h5, h6⟩
        exact ⟨h5, by omega⟩
      · rintro ⟨h5, h6⟩
        exact ⟨h5, by omega⟩
    · show y ≤ (forgetS _ _ _).2
      rw [b3]; omega
    · omega
    · show (forgetS _ _ _).1.length ≤ _
      omega

/-- Whatever is to be added. -/
theorem addT_spec {l : List (Nat × Nat)} {y : Nat} (h : Good l y 16) (n : Nat) :
    Good (addT l y n).1 (addT l y n).2 16 ∧ (∀ x, In (addT l y n).1 x ↔ (In l x ∨ (x = n ∧ n ≤ MX)) ∧ (addT l y n).2 ≤ x) ∧ y ≤ (addT l y n).2 ∧ (l.length ≤ 15 → (addT l y n).2 = y) ∧ (addT l y n).1.length ≤ l.length + 1 := by
  unfold addT
  cases hn : newB l y n with
  | true =>
    obtain ⟨h1, h2, h3⟩ := (newB_iff h).1 hn
    obtain ⟨a1, a2, a3, a4, a5⟩ := addS_spec h h1 h2 h3
    rw [if_pos rfl]
    refine ⟨a1, fun x => ?_, a3, a4, a5⟩
    rw [a2]
    simp [h1]
  | false =>
    rw [if_neg (by simp)]
    refine ⟨h, fun x => ?_, Nat.le_refl _, fun _ => rfl, Nat.le_succ _⟩
    show In l x ↔ _ ∧ y ≤ x
    constructor
    · intro hx
      exact ⟨Or.inl hx, (h.in_ hx).1⟩
    · rintro ⟨hx | ⟨rfl, hx⟩, hy⟩
      · exact hx
      · have h4 : ¬ (newB l y x = true) := by simp [hn]
        rw [newB_iff h] at h4
        exact Classical.byContradiction fun h5 => h4 ⟨hx, hy, h5⟩
def largestL (l : List (Nat × Nat)) : Int := match l with
  | [] => -1
  | r :: _ => (r.2 : Int)

/-- The document's: one number more, the greatest ones first. -/
def rstep (out : List (Nat × Nat)) (n : Nat) : List (Nat × Nat) := match out.getLast? with
  | some q => if q.1 = n + 1 then out.dropLast ++ [(n, q.2)] else out ++ [(n, n)]
  | none => [(n, n)]
def rangesR (L : List Nat) : List (Nat × Nat) := L.reverse.foldl rstep []
def Asc (L : List Nat) : Prop := L.Pairwise (· < ·)

theorem rstep_spec {out : List (Nat × Nat)} {n : Nat} (h : Sep out) (hn : ∀ r ∈ out, n < r.1) : Sep (rstep out n) ∧ (∀ x, In (rstep out n) x ↔ In out x ∨ x = n) ∧ (∀ r ∈ rstep out n, n ≤ r.1) := by
  unfold rstep
  rcases List.eq_nil_or_concat out with rfl | ⟨A, q, rfl⟩
  · refine ⟨Sep.one (Nat.le_refl _), fun x => ?_, fun r hr => ?_⟩
    · simp only [List.getLast?_nil, In.cons, In.nil, or_false, false_or]
      omega
    · simp at hr
      rw [hr]; exact Nat.le_refl _
  · rw [List.concat_eq_append] at h hn ⊢
    rw [List.getLast?_append, List.getLast?_singleton, Option.some_or]
    obtain ⟨s1, s2, s3⟩ := Sep.append.1 h
    have hq := hn q (by simp)
    have hq2 := s2.2 q (by simp)
    have hAq : ∀ a ∈ A, q.2 + 2 ≤ a.1 := fun a ha => s3 a ha q (by simp)
    dsimp only
    by_cases hc : q.1 = n + 1
    · rw [if_pos hc, List.dropLast_concat]
      refine ⟨Sep.append.2 ⟨s1, Sep.one (by show n ≤ q.2; omega), fun a ha b hb => ?_⟩, fun x => ?_, fun r hr => ?_⟩
      · rcases List.mem_singleton.1 hb with rfl
        exact hAq a ha
      · rw [In.append, In.append, In.cons, In.cons]
        simp only [In.nil, or_false]
        constructor
        · rintro (h1 | h1)
          · exact Or.inl (Or.inl h1)
          · omega
        · rintro ((h1 | h1) | h1)
          · exact Or.inl h1
          · exact Or.inr (by omega)
          · exact Or.inr (by omega)
      · rcases List.mem_append.1 hr with hr | hr
        · have := hn r (by simp [hr]); omega
        · rcases List.mem_singleton.1 hr with rfl
          exact Nat.le_refl _
    · rw [if_neg hc]
      refine ⟨Sep.append.2 ⟨h, Sep.one (Nat.le_refl _), fun a ha b hb => ?_⟩, fun x => ?_, fun r hr => ?_⟩
      · rcases List.mem_singleton.1 hb with rfl
        show n + 2 ≤ a.1
        rcases List.mem_append.1 ha with ha | ha
        · have := hAq a ha; omega
        · rcases List.mem_singleton.1 ha with rfl
          omega
      · rw [In.append, In.cons (r := (n, n))]
        simp only [In.nil, or_false]
        constructor
        · rintro (h1 | h1)
          · exact Or.inl h1
          · exact Or.inr (by omega)
        · rintro (h1 | h1)
          · exact Or.inl h1
          · exact Or.inr (by omega)
      · rcases List.mem_append.1 hr with hr | hr
        · have := hn r hr; omega
        · rcases List.mem_singleton.1 hr with rfl
          exact Nat.le_refl _
theorem rstep_len (out : List (Nat × Nat)) (n : Nat) : (rstep out n).length ≤ out.length + 1 := by
  unfold rstep
  cases out.getLast? with
  | none => simp
  | some q =>
    dsimp only
    split
    · simp
    · simp
theorem ranges_spec : ∀ (M : List Nat) (out : List (Nat × Nat)), Sep out → M.Pairwise (· > ·) → (∀ r ∈ out, ∀ n ∈ M, n < r.1) → Sep (M.foldl rstep out) ∧ ∀ x, In (M.foldl rstep out) x ↔ In out x ∨ x ∈ M
  | [], out, h, _, _ => ⟨h, fun x => by simp⟩
  | n :: M, out, h, hp, hn => by
    obtain ⟨h1, h2, h3⟩ := rstep_spec h (fun r hr => hn r hr n List.mem_cons_self)
    obtain ⟨p1, p2⟩ := List.pairwise_cons.1 hp
    obtain ⟨h4, h5⟩ := ranges_spec M (rstep out n) h1 p2 (fun r hr m hm => by have := p1 m hm; have := h3 r hr; omega)
    refine ⟨h4, fun x => ?_⟩
    rw [List.foldl_cons, h5, h2, List.mem_cons, or_assoc]
theorem rangesR_spec {L : List Nat} (h : Asc L) : Sep (rangesR L) ∧ ∀ x, In (rangesR L) x ↔ x ∈ L := by
  obtain ⟨h1, h2⟩ := ranges_spec L.reverse [] Sep.nil (by rw [List.pairwise_reverse]; exact h) (fun _ h => by cases h)
  refine ⟨h1, fun x => ?_⟩
  show In (L.reverse.foldl rstep []) x ↔ _
  rw [h2]
  simp [In.nil]
/-- The document's ranges are these. -/
theorem rangesR_eq {L : List Nat} {l : List (Nat × Nat)} (h : Asc L) (hl : Sep l) (hm : ∀ x, In l x ↔ x ∈ L) : rangesR L = l :=
  Sep.eq (rangesR_spec h).1 hl fun x => by rw [(rangesR_spec h).2, hm]
theorem countP_hi (l : List (Nat × Nat)) (n : Nat) : l.countP (hiLe n) = l.length - fst_ (hiLe n) l := by
  have := List.length_eq_countP_add_countP (hiLe n) (l := l)
  unfold fst_
  have e : l.countP (fun a => decide ¬hiLe n a = true) = l.countP (fun r => !hiLe n r) := by
    congr 1
    funext r
    cases hiLe n r <;> rfl
  omega
theorem forgetN_eq {l : List (Nat × Nat)} {y k : Nat} (h : Good l y k) (n : Nat) : l.countP (hiLe (min n MX)) = forgetN l y n := by
  unfold forgetN
  split
  · rw [List.countP_eq_zero]
    intro r hr
    have := h.all r hr
    have := h.sep.2 r hr
    simp [hiLe]
    omega
  · exact countP_hi l _
end Go.Proofs.Ytlakhfbhbebojaa
