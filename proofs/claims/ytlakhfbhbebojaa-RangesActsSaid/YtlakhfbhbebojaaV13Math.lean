/- Layer 13 (ranges), plainly: ranges in order, how a number comes in and how numbers go; no program is named here. -/
namespace Go.Proofs.Ytlakhfbhbebojaa

/-- The ranges, the greatest first: none meets or touches another one. -/
def Sep (l : List (Nat × Nat)) : Prop := l.Pairwise (fun a b => b.2 + 2 ≤ a.1) ∧ ∀ r ∈ l, r.1 ≤ r.2
/-- A number is in one of them. -/
def In (l : List (Nat × Nat)) (x : Nat) : Prop := ∃ r ∈ l, r.1 ≤ x ∧ x ≤ r.2

theorem In.nil {x : Nat} : ¬ In [] x := fun ⟨_, h, _⟩ => by cases h
theorem In.cons {r : Nat × Nat} {l : List (Nat × Nat)} {x : Nat} : In (r :: l) x ↔ (r.1 ≤ x ∧ x ≤ r.2) ∨ In l x := by
  constructor
  · rintro ⟨q, hq, h⟩
    rcases List.mem_cons.1 hq with rfl | hq
    · exact Or.inl h
    · exact Or.inr ⟨q, hq, h⟩
  · rintro (h | ⟨q, hq, h⟩)
    · exact ⟨r, List.mem_cons_self, h⟩
    · exact ⟨q, List.mem_cons_of_mem _ hq, h⟩
theorem In.append {l m : List (Nat × Nat)} {x : Nat} : In (l ++ m) x ↔ In l x ∨ In m x := by
  induction l with
  | nil => simp [In.nil]
  | cons r l ih => rw [List.cons_append, In.cons, ih, In.cons, or_assoc]
theorem Sep.cons {r : Nat × Nat} {l : List (Nat × Nat)} : Sep (r :: l) ↔ (∀ q ∈ l, q.2 + 2 ≤ r.1) ∧ r.1 ≤ r.2 ∧ Sep l := by
  unfold Sep
  rw [List.pairwise_cons]
  constructor
  · rintro ⟨⟨h1, h2⟩, h3⟩
    exact ⟨h1, h3 _ List.mem_cons_self, h2, fun q hq => h3 q (List.mem_cons_of_mem _ hq)⟩
  · rintro ⟨h1, h2, h3, h4⟩
    refine ⟨⟨h1, h3⟩, fun q hq => ?_⟩
    rcases List.mem_cons.1 hq with rfl | hq
    · exact h2
    · exact h4 q hq
theorem Sep.append {l m : List (Nat × Nat)} : Sep (l ++ m) ↔ Sep l ∧ Sep m ∧ ∀ a ∈ l, ∀ b ∈ m, b.2 + 2 ≤ a.1 := by
  unfold Sep
  rw [List.pairwise_append]
  constructor
  · rintro ⟨⟨h1, h2, h3⟩, h4⟩
    exact ⟨⟨h1, fun r hr => h4 r (List.mem_append_left _ hr)⟩, ⟨h2, fun r hr => h4 r (List.mem_append_right _ hr)⟩, h3⟩
  · rintro ⟨⟨h1, h2⟩, ⟨h3, h4⟩, h5⟩
    refine ⟨⟨h1, h3, h5⟩, fun r hr => ?_⟩
    rcases List.mem_append.1 hr with hr | hr
    · exact h2 r hr
    · exact h4 r hr
theorem Sep.nil : Sep [] := ⟨List.Pairwise.nil, fun _ h => by cases h⟩
theorem Sep.one {r : Nat × Nat} (h : r.1 ≤ r.2) : Sep [r] := ⟨List.pairwise_singleton _ _, fun q hq => by rcases List.mem_singleton.1 hq with rfl; exact h⟩

/-- What numbers are there tells the ranges. -/
theorem Sep.eq : ∀ {l m : List (Nat × Nat)}, Sep l → Sep m → (∀ x, In l x ↔ In m x) → l = m
  | [], [], _, _, _ => rfl
  | [], s :: m, _, hm, h => by
    have := (h s.1).2 (In.cons.2 (Or.inl ⟨Nat.le_refl _, (Sep.cons.1 hm).2.1⟩))
    exact absurd this In.nil
  | r :: l, [], hl, _, h => by
    have := (h r.1).1 (In.cons.2 (Or.inl ⟨Nat.le_refl _, (Sep.cons.1 hl).2.1⟩))
    exact absurd this In.nil
  | r :: l, s :: m, hl, hm, h => by
    obtain ⟨l1, l2, l3⟩ := Sep.cons.1 hl
    obtain ⟨m1, m2, m3⟩ := Sep.cons.1 hm
    have belowL : ∀ x, In l x → x + 2 ≤ r.1 := fun x ⟨q, hq, h1, h2⟩ => by have := l1 q hq; omega
    have belowM : ∀ x, In m x → x + 2 ≤ s.1 := fun x ⟨q, hq, h1, h2⟩ => by have := m1 q hq; omega
    have a1 : r.2 ≤ s.2 := by
      rcases In.cons.1 ((h r.2).1 (In.cons.2 (Or.inl ⟨l2, Nat.le_refl _⟩))) with h1 | h1
      · exact h1.2
      · have := belowM _ h1; omega
    have a2 : s.2 ≤ r.2 := by
      rcases In.cons.1 ((h s.2).2 (In.cons.2 (Or.inl ⟨m2, Nat.le_refl _⟩))) with h1 | h1
      · exact h1.2
      · have := belowL _ h1; omega
    have a3 : s.1 ≤ r.1 := by
      apply Nat.le_of_not_lt
      intro hlt
      rcases In.cons.1 ((h (s.1 - 1)).1 (In.cons.2 (Or.inl ⟨by omega, by omega⟩))) with h1 | h1
      · omega
      · have := belowM _ h1; omega
    have a4 : r.1 ≤ s.1 := by
      apply Nat.le_of_not_lt
      intro hlt
      rcases In.cons.1 ((h (r.1 - 1)).2 (In.cons.2 (Or.inl ⟨by omega, by omega⟩))) with h1 | h1
      · omega
      · have := belowL _ h1; omega
    have e : r = s := Prod.ext (by omega) (by omega)
    subst e
    refine congrArg _ (Sep.eq l3 m3 fun x => ?_)
    constructor
    · intro hx
      rcases In.cons.1 ((h x).1 (In.cons.2 (Or.inr hx))) with h1 | h1
      · have := belowL _ hx; omega
      · exact h1
    · intro hx
      rcases In.cons.1 ((h x).2 (In.cons.2 (Or.inr hx))) with h1 | h1
      · have := belowM _ hx; omega
      · exact h1

/-- How many stand ahead of the first one of which it is so. -/
def fst_ (q : Nat × Nat → Bool) (l : List (Nat × Nat)) : Nat := l.countP (fun r => !q r)
theorem fst_le (q : Nat × Nat → Bool) (l : List (Nat × Nat)) : fst_ q l ≤ l.length := List.countP_le_length
/-- What is so of one, is so of all behind. -/
def Mono (q : Nat × Nat → Bool) (l : List (Nat × Nat)) : Prop := l.Pairwise (fun a b => q a = true → q b = true)
theorem fst_cons_yes {q : Nat × Nat → Bool} {r : Nat × Nat} {l : List (Nat × Nat)} (h : Mono q (r :: l)) (hr : q r = true) : fst_ q (r :: l) = 0 := by
  unfold fst_
  rw [List.countP_eq_zero]
  intro a ha
  rcases List.mem_cons.1 ha with rfl | ha
  · simp [hr]
  · simp [(List.pairwise_cons.1 h).1 a ha hr]
theorem fst_cons_no {q : Nat × Nat → Bool} {r : Nat × Nat} {l : List (Nat × Nat)} (hr : q r = false) : fst_ q (r :: l) = fst_ q l + 1 := by
  unfold fst_
  rw [List.countP_cons]
  simp [hr]
theorem fst_take : ∀ {q : Nat × Nat → Bool} {l : List (Nat × Nat)}, Mono q l → (∀ a ∈ l.take (fst_ q l), q a = false) ∧ (∀ a ∈ l.drop (fst_ q l), q a = true)
  | q, [], _ => by simp [fst_]
  | q, r :: l, h => by
    cases hr : q r with
    | true =>
      rw [fst_cons_yes h hr]
      refine ⟨by simp, fun a ha => ?_⟩
      rw [List.drop_zero] at ha
      rcases List.mem_cons.1 ha with rfl | ha
      · exact hr
      · exact (List.pairwise_cons.1 h).1 a ha hr
    | false =>
      obtain ⟨h1, h2⟩ := fst_take (List.pairwise_cons.1 h).2
      rw [fst_cons_no hr, List.take_succ_cons, List.drop_succ_cons]
      refine ⟨fun a ha => ?_, h2⟩
      rcases List.mem_cons.1 ha with rfl | ha
      · exact hr
      · exact h1 a ha
theorem fst_mono {q q' : Nat × Nat → Bool} {l : List (Nat × Nat)} (h : ∀ r ∈ l, q' r = true → q r = true) : fst_ q l ≤ fst_ q' l := by
  unfold fst_
  induction l with
  | nil => simp
  | cons r l ih =>
    have := ih (fun a ha => h a (List.mem_cons_of_mem _ ha))
    have h1 := h r List.mem_cons_self
    rw [List.countP_cons, List.countP_cons]
    cases hq : q' r
    · cases hq' : q r <;> simp <;> omega
    · simp [h1 hq]; omega

def loLe (n : Nat) : Nat × Nat → Bool := fun r => decide (r.1 ≤ n)
def hiLe (n : Nat) : Nat × Nat → Bool := fun r => decide (r.2 ≤ n)
def hiLt (n : Nat) : Nat × Nat → Bool := fun r => decide (r.2 + 1 < n)
theorem Sep.loLe {l : List (Nat × Nat)} (h : Sep l) (n : Nat) : Mono (loLe n) l :=
  h.1.imp_of_mem fun {a b} _ hb hab ha => by have := h.2 b hb; simp [Proofs.Ytlakhfbhbebojaa.loLe] at ha ⊢; omega
theorem Sep.hiLe {l : List (Nat × Nat)} (h : Sep l) (n : Nat) : Mono (hiLe n) l :=
  h.1.imp_of_mem fun {a b} ha _ hab hh => by have := h.2 a ha; simp [Proofs.Ytlakhfbhbebojaa.hiLe] at hh ⊢; omega
theorem Sep.hiLt {l : List (Nat × Nat)} (h : Sep l) (n : Nat) : Mono (hiLt n) l :=
  h.1.imp_of_mem fun {a b} ha _ hab hh => by have := h.2 a ha; simp [Proofs.Ytlakhfbhbebojaa.hiLt] at hh ⊢; omega

/-- Is a number there? -/
def hasL (l : List (Nat × Nat)) (n : Nat) : Bool := match l[fst_ (loLe n) l]? with
  | some r => decide (n ≤ r.2)
  | none => false
theorem hasL_iff {l : List (Nat × Nat)} (h : Sep l) (n : Nat) : hasL l n = true ↔ In l n := by
  obtain ⟨h1, h2⟩ := fst_take (h.loLe n)
  have hsplit := List.take_append_drop (fst_ (loLe n) l) l
  unfold hasL
  rw [← Nat.add_zero (fst_ (loLe n) l), ← List.getElem?_drop]
  generalize l.take (fst_ (loLe n) l) = A at *
  generalize l.drop (fst_ (loLe n) l) = B at *
  subst hsplit
  have nA : ¬ In A n := fun ⟨r, hr, h3, h4⟩ => by have := h1 r hr; simp [Proofs.Ytlakhfbhbebojaa.loLe] at this; omega
  rw [In.append]
  cases B with
  | nil => simp [nA, In.nil]
  | cons r B =>
    have hr := h2 r List.mem_cons_self
    simp [Proofs.Ytlakhfbhbebojaa.loLe] at hr
    have hS := (Sep.append.1 h).2.1
    have nB : ¬ In B n → True := fun _ => trivial
    simp only [List.getElem?_cons_zero, decide_eq_true_eq, In.cons]
    constructor
    · intro h3
      exact Or.inr (Or.inl ⟨hr, h3⟩)
    · rintro (h3 | h3 | ⟨q, hq, h3, h4⟩)
      · exact absurd h3 nA
      · exact h3.2
      · have := (Sep.cons.1 hS).1 q hq
        have := (Sep.cons.1 hS).2.1
        omega

/-- Both, and what they touch. -/
def join2 (w r : Nat × Nat) : Nat × Nat := (min w.1 r.1, max w.2 r.2)
def wholeL (l : List (Nat × Nat)) (n : Nat) : Nat × Nat := ((l.take (fst_ (hiLt n) l)).drop (fst_ (loLe (n + 1)) l)).foldl join2 (n, n)
/-- The ranges with a number more. -/
def addL (l : List (Nat × Nat)) (n : Nat) : List (Nat × Nat) := l.take (fst_ (loLe (n + 1)) l) ++ [wholeL l n] ++ l.drop (fst_ (hiLt n) l)

theorem addL_spec {l : List (Nat × Nat)} (h : Sep l) {n : Nat} (hn : ¬ In l n) : Sep (addL l n) ∧ (∀ x, In (addL l n) x ↔ In l x ∨ x = n) ∧ (addL l n).length ≤ l.length + 1 ∧
    (∀ a b, (∀ r ∈ l, a ≤ r.1 ∧ r.2 ≤ b) → a ≤ n → n ≤ b → ∀ r ∈ addL l n, a ≤ r.1 ∧ r.2 ≤ b) := by
  have hle : fst_ (loLe (n + 1)) l ≤ fst_ (hiLt n) l := fst_mono fun r hr h1 => by have := h.2 r hr; simp [Proofs.Ytlakhfbhbebojaa.loLe, Proofs.Ytlakhfbhbebojaa.hiLt] at h1 ⊢; omega
  obtain ⟨h1, h2⟩ := fst_take (h.loLe (n + 1))
  obtain ⟨h3, h4⟩ := fst_take (h.hiLt n)
  have hl1 := fst_le (loLe (n + 1)) l
  have hl2 := fst_le (hiLt n) l
  unfold addL wholeL
  generalize fst_ (loLe (n + 1)) l = i at *
  generalize fst_ (hiLt n) l = j at *
  have hs : l = l.take i ++ ((l.take j).drop i ++ l.drop j) := by
    conv => lhs; rw [← List.take_append_drop j l]
    conv => lhs; lhs; rw [← List.take_append_drop i (l.take j)]
    rw [List.take_take, Nat.min_eq_left hle, List.append_assoc]
  have hM1 : ∀ a ∈ (l.take j).drop i, loLe (n + 1) a = true := fun a ha => h2 a (by
    rw [List.drop_take] at ha
    exact List.mem_of_mem_take ha)
  have hM2 : ∀ a ∈ (l.take j).drop i, hiLt n a = false := fun a ha => h3 a (List.mem_of_mem_drop ha)
  generalize l.take i = A at *
  generalize (l.take j).drop i = M at *
  generalize l.drop j = B at *
  subst hs
  obtain ⟨sA, sMB, hAMB⟩ := Sep.append.1 h
  obtain ⟨sM, sB, hMB⟩ := Sep.append.1 sMB
  have hA : ∀ r ∈ A, n + 2 ≤ r.1 := fun r hr => by have := h1 r hr; simp [Proofs.Ytlakhfbhbebojaa.loLe] at this; omega
  have hB : ∀ r ∈ B, r.2 + 2 ≤ n := fun r hr => by have := h4 r hr; simp [Proofs.Ytlakhfbhbebojaa.hiLt] at this; omega
  have hM : ∀ r ∈ M, r.1 = n + 1 ∨ r.2 + 1 = n := fun r hr => by
    have a1 := hM1 r hr
    have a2 := hM2 r hr
    simp [Proofs.Ytlakhfbhbebojaa.loLe, Proofs.Ytlakhfbhbebojaa.hiLt] at a1 a2
    have a3 : ¬ (r.1 ≤ n ∧ n ≤ r.2) := fun h => hn (In.append.2 (Or.inr (In.append.2 (Or.inl ⟨r, hr, h⟩))))
    omega
  have key : ∃ W, M.foldl join2 (n, n) = W ∧ W.1 ≤ n ∧ n ≤ W.2 ∧ (∀ x, (W.1 ≤ x ∧ x ≤ W.2) ↔ (In M x ∨ x = n)) ∧ (∀ r ∈ A, W.2 + 2 ≤ r.1) ∧ (∀ r ∈ B, r.2 + 2 ≤ W.1) ∧ (∀ a b, (∀ r ∈ M, a ≤ r.1 ∧ r.2 ≤ b) → a ≤ n → n ≤ b → a ≤ W.1 ∧ W.2 ≤ b) := by
    match M, hM, sM with
    | [], _, _ => exact ⟨_, rfl, Nat.le_refl _, Nat.le_refl _, fun x => by simp [In.nil]; omega, hA, hB, fun a b _ h1 h2 => ⟨h1, h2⟩⟩
    | [r], hM, sM =>
      have h5 := hM r List.mem_cons_self
      have h6 := sM.2 r List.mem_cons_self
      refine ⟨_, rfl, ?_, ?_, fun x => ?_, fun q hq => ?_, fun q hq => ?_, fun a b h7 h8 h9 => ?_⟩
      · show min n r.1 ≤ n; omega
      · show n ≤ max n r.2; omega
      · show (min n r.1 ≤ x ∧ x ≤ max n r.2) ↔ _
        rw [In.cons]
        simp only [In.nil, or_false]
        omega
      · show max n r.2 + 2 ≤ q.1
        have := hA q hq
        have := hAMB q hq r (by simp)
        omega
      · show q.2 + 2 ≤ min n r.1
        have := hB q hq
        have := hMB r List.mem_cons_self q hq
        omega
      · show a ≤ min n r.1 ∧ max n r.2 ≤ b
        have := h7 r List.mem_cons_self
        omega
    | [r, s], hM, sM =>
      have h5 := hM r List.mem_cons_self
      have h6 := sM.2 r List.mem_cons_self
      have h5' := hM s (by simp)
      have h6' := sM.2 s (by simp)
      have h7' := (Sep.cons.1 sM).1 s (by simp)
      refine ⟨_, rfl, ?_, ?_, fun x => ?_, fun q hq => ?_, fun q hq => ?_, fun a b h7 h8 h9 => ?_⟩
      · show min (min n r.1) s.1 ≤ n; omega
      · show n ≤ max (max n r.2) s.2; omega
      · show (min (min n r.1) s.1 ≤ x ∧ x ≤ max (max n r.2) s.2) ↔ _
        rw [In.cons, In.cons]
        simp only [In.nil, or_false]
        omega
      · show max (max n r.2) s.2 + 2 ≤ q.1
        have := hA q hq
        have := hAMB q hq r (by simp)
        omega
      · show q.2 + 2 ≤ min (min n r.1) s.1
        have := hB q hq
        have := hMB s (by simp) q hq
        omega
      · show a ≤ min (min n r.1) s.1 ∧ max (max n r.2) s.2 ≤ b
        have := h7 r List.mem_cons_self
        have := h7 s (by simp)
        omega
    | r :: s :: t :: M', hM, sM =>
      exfalso
      have h5 := hM r List.mem_cons_self
      have h6 := sM.2 r List.mem_cons_self
      have h5' := hM s (by simp)
      have h6' := sM.2 s (by simp)
      have h5'' := hM t (by simp)
      have h6'' := sM.2 t (by simp)
      have h7' := (Sep.cons.1 sM).1 s (by simp)
      have h7'' := (Sep.cons.1 (Sep.cons.1 sM).2.2).1 t (by simp)
      omega
  obtain ⟨W, eW, w1, w2, w3, w4, w5, w6⟩ := key
  rw [eW]
  clear eW
  refine ⟨?_, fun x => ?_, ?_, fun a b h5 h6 h7 r hr => ?_⟩
  · rw [List.append_assoc, Sep.append]
    refine ⟨sA, ?_, fun a ha b hb => ?_⟩
    · rw [List.singleton_append, Sep.cons]
      exact ⟨w5, by omega, sB⟩
    · rw [List.singleton_append] at hb
      rcases List.mem_cons.1 hb with rfl | hb
      · exact w4 a ha
      · have := hA a ha
        have := hB b hb
        omega
  · rw [List.append_assoc, In.append, In.append, In.append, In.append, In.cons, w3]
    simp only [In.nil, or_false]
    constructor
    · rintro (h | (h | h) | h)
      · exact Or.inl (Or.inl h)
      · exact Or.inl (Or.inr (Or.inl h))
      · exact Or.inr h
      · exact Or.inl (Or.inr (Or.inr h))
    · rintro ((h | h | h) | h)
      · exact Or.inl h
      · exact Or.inr (Or.inl (Or.inl h))
      · exact Or.inr (Or.inr h)
      · exact Or.inr (Or.inl (Or.inr h))
  · simp only [List.length_append, List.length_cons, List.length_nil] at *
    omega
  · have hMb : ∀ r ∈ M, a ≤ r.1 ∧ r.2 ≤ b := fun r hr => h5 r (by simp [hr])
    rcases List.mem_append.1 hr with hr | hr
    · rcases List.mem_append.1 hr with hr | hr
      · exact h5 r (by simp [hr])
      · rcases List.mem_singleton.1 hr with rfl
        exact w6 a b hMb h6 h7
    · exact h5 r (by simp [hr])
end Go.Proofs.Ytlakhfbhbebojaa
