/- Layer 12 (timers), plainly: timers, which comes ahead of which; a heap with a hole; places by whose they are; timers in order. No program is named here. -/
namespace Go.Proofs.Ytblpgpolhibfgaa

/-- A timer. -/
structure Tm where
  at_ : Nat
  conn : Int
  kind : Int
  deriving DecidableEq, Inhabited

def NV : Nat := 18446744073709551615
def Tm.key (t : Tm) : Int × Int := (t.conn, t.kind)
def zT : Tm := ⟨0, 0, 0⟩
/-- One comes ahead of another one. -/
def Ah (a b : Tm) : Prop := a.at_ < b.at_ ∨ a.at_ = b.at_ ∧ (a.conn < b.conn ∨ a.conn = b.conn ∧ a.kind < b.kind)
instance (a b : Tm) : Decidable (Ah a b) := inferInstanceAs (Decidable (_ ∨ _))

theorem Ah.irrefl (a : Tm) : ¬ Ah a a := by unfold Ah; omega
theorem Ah.trans {a b c : Tm} (h : Ah a b) (k : Ah b c) : Ah a c := by unfold Ah at *; omega
theorem Ah.ntrans {a b c : Tm} (h : ¬ Ah b a) (k : ¬ Ah c b) : ¬ Ah c a := by unfold Ah at *; omega
theorem Ah.tri {a b : Tm} (h : ¬ Ah a b) (k : ¬ Ah b a) : a = b := by
  unfold Ah at h k
  cases a; cases b
  simp only [Tm.mk.injEq] at *
  omega
theorem Ah.asym {a b : Tm} (h : Ah a b) : ¬ Ah b a := by unfold Ah at *; omega

/-! A heap with a hole. -/
def par (i : Nat) : Nat := (i - 1) / 2
def tm (F : List Tm) (i : Nat) : Tm := F.getD i zT
theorem tm_set (F : List Tm) (p i : Nat) (t : Tm) (hp : p < F.length) : tm (F.set p t) i = if i = p then t else tm F i := by
  unfold tm
  rw [List.getD_eq_getElem?_getD, List.getD_eq_getElem?_getD, List.getElem?_set]
  by_cases h : p = i
  · subst h; simp [hp]
  · rw [if_neg h, if_neg (fun e => h e.symm)]
theorem tm_self (F : List Tm) (p : Nat) (t : Tm) (hp : p < F.length) : tm (F.set p t) p = t := by rw [tm_set F p p t hp, if_pos rfl]
theorem tm_far (F : List Tm) (p i : Nat) (t : Tm) (hp : p < F.length) (h : i ≠ p) : tm (F.set p t) i = tm F i := by rw [tm_set F p i t hp, if_neg h]

def Hp (F : List Tm) (n : Nat) : Prop := ∀ i, 0 < i → i < n → ¬ Ah (tm F i) (tm F (par i))
structure Hole (F : List Tm) (n p : Nat) : Prop where
  one : ∀ i, 0 < i → i < n → i ≠ p → par i ≠ p → ¬ Ah (tm F i) (tm F (par i))
  two : ∀ c, 0 < c → c < n → par c = p → 0 < p → ¬ Ah (tm F c) (tm F (par p))

theorem Hp.hole {F : List Tm} {n : Nat} (h : Hp F n) (p : Nat) (hp : p < n) : Hole F n p :=
  ⟨fun i h0 hi _ _ => h i h0 hi, fun c h0 hc he hp0 => by
    have a := h c h0 hc
    rw [he] at a
    exact Ah.ntrans (h p hp0 hp) a⟩
theorem Hp.push {F : List Tm} {n : Nat} (h : Hp F n) : Hole F (n + 1) n :=
  ⟨fun i h0 hi hn _ => h i h0 (by omega), fun c h0 hc he _ => by unfold par at he; omega⟩
theorem Hole.less {F : List Tm} {n m p : Nat} (h : Hole F n p) (hm : m ≤ n) : Hole F m p :=
  ⟨fun i h0 hi => h.one i h0 (by omega), fun c h0 hc => h.two c h0 (by omega)⟩
theorem Hp.less {F : List Tm} {n m : Nat} (h : Hp F n) (hm : m ≤ n) : Hp F m := fun i h0 hi => h i h0 (by omega)
theorem Hp.set_past {F : List Tm} {n q : Nat} {t : Tm} (h : Hp F n) (hq : n ≤ q) (hl : q < F.length) : Hp (F.set q t) n := fun i h0 hi => by
  rw [tm_far F q i t hl (by omega), tm_far F q (par i) t hl (by unfold par; omega)]
  exact h i h0 hi

/-- The one above goes down. -/
theorem Hole.up {F : List Tm} {n p : Nat} (h : Hole F n p) (h0 : 0 < p) (hp : p < n) (hl : n ≤ F.length) : Hole (F.set p (tm F (par p))) n (par p) := by
  have ha : par p < p := by unfold par; omega
  have hlt : p < F.length := by omega
  constructor
  · intro i hi0 hi hia hpa
    have hip : i ≠ p := fun e => hpa (by rw [e])
    by_cases he : par i = p
    · rw [tm_far F p i _ hlt hip, he, tm_self F p _ hlt]
      exact h.two i hi0 hi he h0
    · rw [tm_far F p i _ hlt hip, tm_far F p (par i) _ hlt he]
      exact h.one i hi0 hi hip he
  · intro c hc0 hc he ha0
    have hpp : par (par p) ≠ p := by unfold par at *; omega
    have hpa : par (par p) < par p := by generalize par p = a at *; unfold par; omega
    rw [tm_far F p _ _ hlt hpp]
    have k := h.one (par p) ha0 (by omega) (by omega) hpp
    by_cases hcp : c = p
    · subst hcp
      rw [tm_self F c _ hlt]
      exact k
    · rw [tm_far F p c _ hlt hcp]
      have k2 := h.one c hc0 hc hcp (by rw [he]; omega)
      rw [he] at k2
      exact Ah.ntrans k k2

/-- One below goes up. -/
theorem Hole.down {F : List Tm} {n p b : Nat} (h : Hole F n p) (hb0 : 0 < b) (hb : b < n) (hbp : par b = p) (hl : n ≤ F.length) (hs : ∀ s, 0 < s → s < n → par s = p → ¬ Ah (tm F s) (tm F b)) : Hole (F.set p (tm F b)) n b := by
  have hpb : p < b := by unfold par at hbp; omega
  have hlt : p < F.length := by omega
  constructor
  · intro i hi0 hi hib hpi
    by_cases hip : i = p
    · subst hip
      rw [tm_self F i _ hlt, tm_far F i (par i) _ hlt (by unfold par; omega)]
      exact h.two b hb0 hb hbp hi0
    · rw [tm_far F p i _ hlt hip]
      by_cases he : par i = p
      · rw [he, tm_self F p _ hlt]
        exact hs i hi0 hi he
      · rw [tm_far F p _ _ hlt he]
        exact h.one i hi0 hi hip he
  · intro c hc0 hc he _
    have hcp : c ≠ p := by unfold par at he; omega
    rw [hbp, tm_self F p _ hlt, tm_far F p c _ hlt hcp]
    have := h.one c hc0 hc hcp (by rw [he]; omega)
    rwa [he] at this

theorem Hole.done {F : List Tm} {n p : Nat} {t : Tm} (h : Hole F n p) (hp : p < n) (hl : n ≤ F.length) (hu : p = 0 ∨ ¬ Ah t (tm F (par p))) (hd : ∀ c, 0 < c → c < n → par c = p → ¬ Ah (tm F c) t) : Hp (F.set p t) n := by
  have hlt : p < F.length := by omega
  intro i hi0 hi
  by_cases hip : i = p
  · subst hip
    rw [tm_self F i _ hlt, tm_far F i _ _ hlt (by unfold par; omega)]
    rcases hu with hu | hu
    · omega
    · exact hu
  · rw [tm_far F p i _ hlt hip]
    by_cases he : par i = p
    · rw [he, tm_self F p _ hlt]
      exact hd i hi0 hi he
    · rw [tm_far F p _ _ hlt he]
      exact h.one i hi0 hi hip he

theorem Hp.root {F : List Tm} {n : Nat} (h : Hp F n) : ∀ i, i < n → ¬ Ah (tm F i) (tm F 0) := by
  intro i
  induction i using Nat.strongRecOn with
  | ind i ih =>
    intro hi
    by_cases h0 : i = 0
    · subst h0; exact Ah.irrefl _
    · exact Ah.ntrans (ih (par i) (by unfold par; omega) (by unfold par; omega)) (h i (by omega) hi)

/-! The same timers, but for their places. -/
theorem perm_swap {F : List Tm} {n p a : Nat} (t : Tm) (hp : p < n) (ha : a < n) (hne : a ≠ p) (hl : n ≤ F.length) : (((F.set p (tm F a)).set a t).take n).Perm ((F.set p t).take n) := by
  simp only [List.take_set]
  have hpl : p < (F.take n).length := by rw [List.length_take]; omega
  have hal : a < (F.take n).length := by rw [List.length_take]; omega
  have e : tm F a = (F.take n)[a]'hal := by
    unfold tm
    rw [List.getD_eq_getElem?_getD, List.getElem?_eq_getElem (by omega)]
    simp
  rw [e]
  generalize F.take n = L at *
  have k := List.set_set_perm (as := L.set p t) (i := p) (j := a) (by simpa using hpl) (by simpa using hal)
  simp only [List.getElem_set_self, List.set_set] at k
  rw [List.getElem_set_ne (fun e => hne e.symm)] at k
  exact k

/-! Where each stands. -/
def upd (M : Int × Int → Option Nat) (k : Int × Int) (v : Option Nat) : Int × Int → Option Nat := fun x => if x = k then v else M x
theorem upd_self (M : Int × Int → Option Nat) (k : Int × Int) (v : Option Nat) : upd M k v k = v := if_pos rfl
theorem upd_far (M : Int × Int → Option Nat) (k x : Int × Int) (v : Option Nat) (h : x ≠ k) : upd M k v x = M x := if_neg h
structure PlH (F : List Tm) (n p : Nat) (k0 : Int × Int) (M : Int × Int → Option Nat) : Prop where
  at_ : ∀ i, i < n → i ≠ p → M (tm F i).key = some i
  of_ : ∀ k i, k ≠ k0 → M k = some i → i < n ∧ i ≠ p ∧ (tm F i).key = k
  ne : ∀ i, i < n → i ≠ p → (tm F i).key ≠ k0
structure Pl (F : List Tm) (n : Nat) (M : Int × Int → Option Nat) : Prop where
  at_ : ∀ i, i < n → M (tm F i).key = some i
  of_ : ∀ k i, M k = some i → i < n ∧ (tm F i).key = k

theorem PlH.move {F : List Tm} {n p a : Nat} {k0 : Int × Int} {M : Int × Int → Option Nat} (h : PlH F n p k0 M) (hp : p < n) (ha : a < n) (hne : a ≠ p) (hl : n ≤ F.length) : PlH (F.set p (tm F a)) n a k0 (upd M (tm F a).key (some p)) := by
  have hlt : p < F.length := by omega
  have hka := h.at_ a ha hne
  constructor
  · intro i hi hia
    by_cases hip : i = p
    · subst hip; rw [tm_self F i _ hlt, upd_self]
    · rw [tm_far F p i _ hlt hip, upd_far _ _ _ _ (fun e => by
        have := h.at_ i hi hip
        rw [e, hka] at this
        exact hia (Option.some.inj this).symm)]
      exact h.at_ i hi hip
  · intro k i hk hM
    by_cases hka2 : k = (tm F a).key
    · subst hka2
      rw [upd_self] at hM
      cases hM
      exact ⟨hp, fun e => hne e.symm, by rw [tm_self F p _ hlt]⟩
    · rw [upd_far _ _ _ _ hka2] at hM
      obtain ⟨h1, h2, h3⟩ := h.of_ k i hk hM
      exact ⟨h1, fun e => hka2 (by rw [← h3, e]), by rw [tm_far F p i _ hlt h2, h3]⟩
  · intro i hi hia
    by_cases hip : i = p
    · subst hip; rw [tm_self F i _ hlt]; exact h.ne a ha hne
    · rw [tm_far F p i _ hlt hip]; exact h.ne i hi hip

theorem PlH.done {F : List Tm} {n p : Nat} {t : Tm} {M : Int × Int → Option Nat} (h : PlH F n p t.key M) (hp : p < n) (hl : n ≤ F.length) : Pl (F.set p t) n (upd M t.key (some p)) := by
  have hlt : p < F.length := by omega
  constructor
  · intro i hi
    by_cases hip : i = p
    · subst hip; rw [tm_self F i _ hlt, upd_self]
    · rw [tm_far F p i _ hlt hip, upd_far _ _ _ _ (h.ne i hi hip)]
      exact h.at_ i hi hip
  · intro k i hM
    by_cases hk : k = t.key
    · subst hk
      rw [upd_self] at hM
      cases hM
      exact ⟨hp, by rw [tm_self F p _ hlt]⟩
    · rw [upd_far _ _ _ _ hk] at hM
      obtain ⟨h1, h2, h3⟩ := h.of_ k i hk hM
      exact ⟨h1, by rw [tm_far F p i _ hlt h2, h3]⟩

theorem Pl.inj {F : List Tm} {n i j : Nat} {M : Int × Int → Option Nat} (h : Pl F n M) (hi : i < n) (hj : j < n) (e : (tm F i).key = (tm F j).key) : i = j := by
  have a := h.at_ i hi
  rw [e, h.at_ j hj] at a
  exact (Option.some.inj a).symm
theorem Pl.there {F : List Tm} {n p : Nat} {k : Int × Int} {M : Int × Int → Option Nat} (h : Pl F n M) (hk : M k = some p) : PlH F n p k M := by
  obtain ⟨hp, he⟩ := h.of_ k p hk
  refine ⟨fun i hi _ => h.at_ i hi, fun k' i hk' hM => ?_, fun i hi hip e => hip (h.inj hi hp (by rw [e, he]))⟩
  obtain ⟨h1, h2⟩ := h.of_ k' i hM
  exact ⟨h1, fun e => hk' (by rw [← h2, e, he]), h2⟩
theorem Pl.push {F : List Tm} {n : Nat} {k : Int × Int} {M : Int × Int → Option Nat} (h : Pl F n M) (hk : M k = none) : PlH F (n + 1) n k M := by
  refine ⟨fun i hi hn => h.at_ i (by omega), fun k' i _ hM => ?_, fun i hi hn e => ?_⟩
  · obtain ⟨h1, h2⟩ := h.of_ k' i hM
    exact ⟨by omega, by omega, h2⟩
  · have := h.at_ i (by omega)
    rw [e, hk] at this
    cases this
theorem Pl.take {F : List Tm} {n p : Nat} {M : Int × Int → Option Nat} (z : Tm) (h : Pl F (n + 1) M) (hp : p < n) (hl : n + 1 ≤ F.length) : PlH (F.set n z) n p (tm F n).key (upd M (tm F p).key none) := by
  have hlt : n < F.length := by omega
  refine ⟨fun i hi hip => ?_, fun k i hk hM => ?_, fun i hi hip => ?_⟩
  · rw [tm_far F n i _ hlt (by omega), upd_far _ _ _ _ (fun e => hip (h.inj (by omega) (by omega) e))]
    exact h.at_ i (by omega)
  · by_cases hkp : k = (tm F p).key
    · subst hkp; rw [upd_self] at hM; cases hM
    · rw [upd_far _ _ _ _ hkp] at hM
      obtain ⟨h1, h2⟩ := h.of_ k i hM
      have hin : i ≠ n := fun e => hk (by rw [← h2, e])
      exact ⟨by omega, fun e => hkp (by rw [← h2, e]), by rw [tm_far F n i _ hlt hin, h2]⟩
  · rw [tm_far F n i _ hlt (by omega)]
    exact fun e => absurd (h.inj (by omega) (by omega) e) (by omega)
theorem Pl.takeLast {F : List Tm} {n : Nat} {M : Int × Int → Option Nat} (z : Tm) (h : Pl F (n + 1) M) (hl : n + 1 ≤ F.length) : Pl (F.set n z) n (upd M (tm F n).key none) := by
  have hlt : n < F.length := by omega
  refine ⟨fun i hi => ?_, fun k i hM => ?_⟩
  · rw [tm_far F n i _ hlt (by omega), upd_far _ _ _ _ (fun e => absurd (h.inj (by omega) (by omega) e) (by omega))]
    exact h.at_ i (by omega)
  · by_cases hkp : k = (tm F n).key
    · subst hkp; rw [upd_self] at hM; cases hM
    · rw [upd_far _ _ _ _ hkp] at hM
      obtain ⟨h1, h2⟩ := h.of_ k i hM
      have hin : i ≠ n := fun e => hkp (by rw [← h2, e])
      exact ⟨by omega, by rw [tm_far F n i _ hlt hin, h2]⟩
theorem Pl.none_ {F : List Tm} {n : Nat} {k : Int × Int} {M : Int × Int → Option Nat} (h : Pl F n M) (hk : M k = none) : ∀ i, i < n → (tm F i).key ≠ k := fun i hi e => by
  have := h.at_ i hi
  rw [e, hk] at this
  cases this

/-! Timers in order. -/
def Srt (S : List Tm) : Prop := S.Pairwise Ah
def remS (k : Int × Int) (S : List Tm) : List Tm := S.filter fun t => decide (t.key ≠ k)
def insS (t : Tm) : List Tm → List Tm
  | [] => [t]
  | a :: S => if Ah t a then t :: a :: S else a :: insS t S
def findS (k : Int × Int) (S : List Tm) : Option Tm := S.find? fun t => decide (t.key = k)
def atS (k : Int × Int) (S : List Tm) : Nat := match findS k S with | some t => t.at_ | none => NV
def nextS (S : List Tm) : Nat := match S with | t :: _ => t.at_ | [] => NV
def dropS (c : Int) (S : List Tm) : List Tm := S.filter fun t => decide (t.conn ≠ c)
def setS (t : Tm) (S : List Tm) : List Tm := if t.at_ = NV then remS t.key S else if (findS t.key S).isSome ∨ S.length < 200 then insS t (remS t.key S) else S
def setB (t : Tm) (S : List Tm) : Bool := decide (t.at_ = NV) || ((findS t.key S).isSome || decide (S.length < 200))

theorem insS_perm (t : Tm) (S : List Tm) : (insS t S).Perm (t :: S) := by
  induction S with
  | nil => exact List.Perm.refl _
  | cons a S ih =>
    unfold insS
    split
    · exact List.Perm.refl _
    · exact (List.Perm.cons a ih).trans (List.Perm.swap t a S)
theorem mem_insS {t x : Tm} {S : List Tm} : x ∈ insS t S ↔ x = t ∨ x ∈ S := by rw [(insS_perm t S).mem_iff, List.mem_cons]
theorem insS_srt {t : Tm} {S : List Tm} (h : Srt S) (hk : ∀ x ∈ S, x ≠ t) : Srt (insS t S) := by
  induction S with
  | nil => exact List.pairwise_singleton _ _
  | cons a S ih =>
    obtain ⟨h1, h2⟩ := List.pairwise_cons.1 h
    unfold insS
    split
    · next hc => exact List.pairwise_cons.2 ⟨fun x hx => by
        rcases List.mem_cons.1 hx with rfl | hx
        · exact hc
        · exact hc.trans (h1 x hx), h⟩
    · next hc => exact List.pairwise_cons.2 ⟨fun x hx => by
        rcases mem_insS.1 hx with rfl | hx
        · exact Decidable.byContradiction fun hn => hk a (by simp) (Ah.tri hn hc)
        · exact h1 x hx, ih h2 (fun x hx => hk x (by simp [hx]))⟩
theorem remS_srt {k : Int × Int} {S : List Tm} (h : Srt S) : Srt (remS k S) := List.Pairwise.filter _ h
theorem dropS_srt {c : Int} {S : List Tm} (h : Srt S) : Srt (dropS c S) := List.Pairwise.filter _ h
theorem mem_remS {k : Int × Int} {S : List Tm} {x : Tm} : x ∈ remS k S ↔ x ∈ S ∧ x.key ≠ k := by unfold remS; rw [List.mem_filter, decide_eq_true_iff]
theorem setS_srt {t : Tm} {S : List Tm} (h : Srt S) : Srt (setS t S) := by
  unfold setS
  split
  · exact remS_srt h
  · split
    · exact insS_srt (remS_srt h) (fun x hx e => (mem_remS.1 hx).2 (by rw [e]))
    · exact h

theorem srt_perm {A B : List Tm} (hA : Srt A) (hB : Srt B) (h : A.Perm B) : A = B :=
  List.Perm.eq_of_pairwise (fun _ _ _ _ h1 h2 => absurd h2 h1.asym) hA hB h

theorem root_head {F : List Tm} {n : Nat} {S : List Tm} (h : Hp F n) (hl : n ≤ F.length) (hp : (F.take n).Perm S) (hs : Srt S) (hn : 0 < n) : ∃ S', S = tm F 0 :: S' := by
  have hmem : ∀ x ∈ S, ∃ i, i < n ∧ x = tm F i := by
    intro x hx
    have hx2 := hp.mem_iff.2 hx
    obtain ⟨i, hi, e⟩ := List.mem_iff_getElem.1 hx2
    rw [List.length_take] at hi
    refine ⟨i, by omega, ?_⟩
    rw [← e]
    unfold tm
    rw [List.getD_eq_getElem?_getD, List.getElem?_eq_getElem (by omega)]
    simp
  have h0 : tm F 0 ∈ S := by
    apply hp.mem_iff.1
    rw [List.mem_iff_getElem]
    refine ⟨0, by rw [List.length_take]; omega, ?_⟩
    unfold tm
    rw [List.getD_eq_getElem?_getD, List.getElem?_eq_getElem (by omega)]
    simp
  cases S with
  | nil => cases h0
  | cons s S =>
    obtain ⟨i, hi, e⟩ := hmem s (by simp)
    have hr := h.root i hi
    rw [← e] at hr
    rcases List.mem_cons.1 h0 with h1 | h1
    · exact ⟨S, by rw [h1]⟩
    · exact absurd ((List.pairwise_cons.1 hs).1 _ h1) hr

theorem filter_mid {L : List Tm} {p : Nat} {k : Int × Int} (hp : p < L.length) (hk : (L.getD p zT).key = k) (hn : ∀ i, i < L.length → i ≠ p → (L.getD i zT).key ≠ k) : ∃ A B x, L = A ++ x :: B ∧ A.length = p ∧ remS k L = A ++ B := by
  refine ⟨L.take p, L.drop (p + 1), L.getD p zT, ?_, by rw [List.length_take]; omega, ?_⟩
  · rw [List.getD_eq_getElem?_getD, List.getElem?_eq_getElem hp]
    simp
  · have e : L = L.take p ++ L.getD p zT :: L.drop (p + 1) := by
      rw [List.getD_eq_getElem?_getD, List.getElem?_eq_getElem hp]
      simp
    conv => lhs; rw [e]
    unfold remS
    rw [List.filter_append, List.filter_cons, if_neg (by simpa using hk), List.filter_eq_self.2, List.filter_eq_self.2]
    · intro x hx
      obtain ⟨i, hi, e2⟩ := List.mem_iff_getElem.1 hx
      rw [List.length_drop] at hi
      have := hn (p + 1 + i) (by omega) (by omega)
      rw [List.getD_eq_getElem?_getD, List.getElem?_eq_getElem (by omega)] at this
      rw [List.getElem_drop] at e2
      rw [← e2]
      simpa using this
    · intro x hx
      obtain ⟨i, hi, e2⟩ := List.mem_iff_getElem.1 hx
      rw [List.length_take] at hi
      have := hn i (by omega) (by omega)
      rw [List.getD_eq_getElem?_getD, List.getElem?_eq_getElem (by omega)] at this
      rw [List.getElem_take] at e2
      rw [← e2]
      simpa using this

theorem take_getD {F : List Tm} {n i : Nat} (hi : i < n) : (F.take n).getD i zT = tm F i := by
  unfold tm
  rw [List.getD_eq_getElem?_getD, List.getD_eq_getElem?_getD, List.getElem?_take, if_pos hi]

/-- One that is there is set anew. -/
theorem perm_set {F : List Tm} {n p : Nat} {S : List Tm} {t : Tm} {M : Int × Int → Option Nat} (h : Pl F n M) (hk : M t.key = some p) (hl : n ≤ F.length) (hp : (F.take n).Perm S) : ((F.set p t).take n).Perm (insS t (remS t.key S)) := by
  obtain ⟨hpn, he⟩ := h.of_ _ _ hk
  have hlen : (F.take n).length = n := by rw [List.length_take]; omega
  obtain ⟨A, B, x, e1, e2, e3⟩ := filter_mid (L := F.take n) (p := p) (k := t.key) (by omega) (by rw [take_getD hpn, he]) (fun i hi hip => by
    rw [take_getD (by omega)]
    exact fun e => hip (h.inj (by omega) hpn (by rw [e, he])))
  rw [List.take_set, e1, show (A ++ x :: B).set p t = A ++ t :: B by rw [← e2]; simp]
  refine List.Perm.trans List.perm_middle (List.Perm.trans (List.Perm.cons t ?_) (insS_perm t _).symm)
  rw [← e3]
  exact List.Perm.filter _ hp

/-- One is set that is not there. -/
theorem perm_push {F : List Tm} {n : Nat} {S : List Tm} {t : Tm} {M : Int × Int → Option Nat} (h : Pl F n M) (hk : M t.key = none) (hl : n < F.length) (hp : (F.take n).Perm S) : ((F.set n t).take (n + 1)).Perm (insS t (remS t.key S)) := by
  have hlen : (F.take n).length = n := by rw [List.length_take]; omega
  have e : (F.set n t).take (n + 1) = F.take n ++ [t] := by
    rw [List.take_add_one, List.getElem?_set_self hl, List.take_set_of_le (Nat.le_refl n)]
    rfl
  have e2 : remS t.key S = S := by
    unfold remS
    rw [List.filter_eq_self]
    intro x hx
    obtain ⟨i, hi, e2⟩ := List.mem_iff_getElem.1 (hp.mem_iff.2 hx)
    have := h.none_ hk i (by omega)
    rw [← take_getD (by omega : i < n), List.getD_eq_getElem?_getD, List.getElem?_eq_getElem hi, e2] at this
    simpa using this
  rw [e, e2]
  exact (List.perm_append_comm.trans (List.Perm.cons t hp)).trans (insS_perm t S).symm

/-- One goes, the last one takes its place. -/
theorem perm_take {F : List Tm} {n p : Nat} {S : List Tm} {M : Int × Int → Option Nat} (z : Tm) (h : Pl F (n + 1) M) (hp : p < n) (hl : n + 1 ≤ F.length) (hS : (F.take (n + 1)).Perm S) : (((F.set n z).set p (tm F n)).take n).Perm (remS (tm F p).key S) := by
  have hlen : (F.take (n + 1)).length = n + 1 := by rw [List.length_take]; omega
  obtain ⟨A, B, x, e1, e2, e3⟩ := filter_mid (L := F.take (n + 1)) (p := p) (k := (tm F p).key) (by omega) (by rw [take_getD (by omega)]) (fun i hi hip => by
    rw [take_getD (by omega)]
    exact fun e => hip (h.inj (by omega) (by omega) e))
  refine List.Perm.trans ?_ (List.Perm.filter _ hS)
  show List.Perm _ (remS (tm F p).key (F.take (n + 1)))
  rw [e3, List.take_set, List.take_set_of_le (Nat.le_refl n)]
  have hz : F.take (n + 1) = F.take n ++ [tm F n] := by
    rw [List.take_add_one]
    unfold tm
    rw [List.getD_eq_getElem?_getD, List.getElem?_eq_getElem (by omega)]
    rfl
  have hB : ∃ B', B = B' ++ [tm F n] ∧ F.take n = A ++ x :: B' := by
    rcases List.eq_nil_or_concat B with hB | ⟨B', b, hB⟩
    · subst hB
      rw [e1] at hlen
      simp at hlen
      omega
    · rw [hz, hB] at e1
      have e4 : F.take n ++ [tm F n] = (A ++ x :: B') ++ [b] := by rw [e1]; simp
      have e5 := List.append_inj' e4 rfl
      exact ⟨B', by rw [hB, List.concat_eq_append]; simp at e5; rw [e5.2], e5.1⟩
  obtain ⟨B', hB1, hB2⟩ := hB
  rw [hB2, hB1, show (A ++ x :: B').set p (tm F n) = A ++ tm F n :: B' by rw [← e2]; simp]
  exact List.Perm.append_left A ((List.perm_append_comm (l₁ := [tm F n]) (l₂ := B')))
theorem perm_takeLast {F : List Tm} {n : Nat} {S : List Tm} {M : Int × Int → Option Nat} (z : Tm) (h : Pl F (n + 1) M) (hl : n + 1 ≤ F.length) (hS : (F.take (n + 1)).Perm S) : ((F.set n z).take n).Perm (remS (tm F n).key S) := by
  have hlen : (F.take (n + 1)).length = n + 1 := by rw [List.length_take]; omega
  obtain ⟨A, B, x, e1, e2, e3⟩ := filter_mid (L := F.take (n + 1)) (p := n) (k := (tm F n).key) (by omega) (by rw [take_getD (by omega)]) (fun i hi hip => by
    rw [take_getD (by omega)]
    exact fun e => hip (h.inj (by omega) (by omega) e))
  refine List.Perm.trans ?_ (List.Perm.filter _ hS)
  show List.Perm _ (remS (tm F n).key (F.take (n + 1)))
  have hB : B = [] := by
    rw [e1] at hlen
    simp at hlen
    exact List.eq_nil_of_length_eq_zero (by omega)
  subst hB
  rw [e3, List.take_set_of_le (Nat.le_refl n)]
  have hz : F.take (n + 1) = F.take n ++ [tm F n] := by
    rw [List.take_add_one]
    unfold tm
    rw [List.getD_eq_getElem?_getD, List.getElem?_eq_getElem (by omega)]
    rfl
  have : F.take n = A := (List.append_inj' (hz.symm.trans e1) rfl).1
  rw [this]
  simp
end Go.Proofs.Ytblpgpolhibfgaa
