/- The law FramesCut: for every input the call returns true, and each argument reads behind the call as it did.
   The row of FramesCut, out of its walk, and its tied card (the listed variables start as the program's text lays them). -/
import Derived.Test.YtlkklfkfhebpgaaDoorV3TwoM
import Derived.Test.YtlkklfkfhebpgaaDoorV3PutM
import Derived.Test.YtlkklfkfhebpgaaDoorV3Open
import Derived.Test.YtlkklfkfhebpgaaDoorV3Alive
import Derived.Test.YtlkklfkfhebpgaaDoorV3Laid
import Derived.Test.YtlkklfkfhebpgaaDoorCards
import Derived.Test.YtlkklfkfhebpgaaDoorTie
import Derived.OpenShut
import Derived.ChangeOld
import Derived.Below
import Derived.SevenTiedAt

namespace Go.Proofs.YtlkklfkfhebpgaaDoor

def withS (c : List Nat) (s : St) : St := (s.1 ++ c, s.2)
theorem rdInt_ok {s : St} (h : (rdInt s).2.2 = 0) : s.2 = 0 := by
  unfold rdInt at h
  split at h
  · assumption
  · rename_i h2
    exact Decidable.not_not.1 h2
theorem rdInt_ext (c : List Nat) {s : St} (h : (rdInt s).2.2 = 0) : rdInt (withS c s) = ((rdInt s).1, withS c (rdInt s).2) := by
  have h0 := rdInt_ok h
  obtain ⟨l, e⟩ := s
  dsimp only at h0
  subst h0
  unfold rdInt withS at *
  rcases l with _ | ⟨f, r⟩
  · simp at h
  · by_cases hn : needs f ≤ r.length
    · have hn2 : needs f ≤ (r ++ c).length := by rw [List.length_append]; omega
      simp only [ne_eq, not_true_eq_false, if_false, List.cons_append, if_pos hn, if_pos hn2]
      rw [List.take_append_of_le_length hn, List.drop_append_of_le_length hn]
    · simp [hn] at h
theorem rdByte_ok {s : St} (h : (rdByte s).2.2 = 0) : s.2 = 0 := by
  unfold rdByte at h
  split at h
  · assumption
  · rename_i h2
    exact Decidable.not_not.1 h2
theorem rdByte_ext (c : List Nat) {s : St} (h : (rdByte s).2.2 = 0) : rdByte (withS c s) = ((rdByte s).1, withS c (rdByte s).2) := by
  have h0 := rdByte_ok h
  obtain ⟨l, e⟩ := s
  dsimp only at h0
  subst h0
  unfold rdByte withS at *
  rcases l with _ | ⟨f, r⟩
  · simp at h
  · simp
theorem rdBytes_ok {n : Nat} {s : St} (h : (rdBytes n s).2.2 = 0) : s.2 = 0 := by
  unfold rdBytes at h
  split at h
  · assumption
  · rename_i h2
    exact Decidable.not_not.1 h2
theorem rdBytes_ext (c : List Nat) {n : Nat} {s : St} (h : (rdBytes n s).2.2 = 0) : rdBytes n (withS c s) = ((rdBytes n s).1, withS c (rdBytes n s).2) := by
  have h0 := rdBytes_ok h
  obtain ⟨l, e⟩ := s
  dsimp only at h0
  subst h0
  unfold rdBytes withS at *
  by_cases hn : n ≤ l.length
  · have hn2 : n ≤ (l ++ c).length := by rw [List.length_append]; omega
    simp only [ne_eq, not_true_eq_false, if_false, if_pos hn, if_pos hn2]
    rw [List.take_append_of_le_length hn, List.drop_append_of_le_length hn]
  · simp [hn] at h
theorem failSt3_bad (s : St) : (failSt 3 s).2 ≠ 0 := by
  unfold failSt
  split
  · rename_i h
    rcases h with h | h
    · exact h
    · exact absurd h (by decide)
  · simp
theorem ackLoop_st : ∀ (n lo : Nat) (l : List (Nat × Nat)) (s : St), (ackLoop n lo l s).2.2 = 0 → s.2 = 0
  | 0, _, _, _, h => h
  | n + 1, lo, l, s, h => by
    unfold ackLoop at h
    dsimp only at h
    split at h
    · exact absurd h (failSt3_bad _)
    · exact rdInt_ok (rdInt_ok (ackLoop_st n _ _ _ h))
theorem ackLoop_ext (c : List Nat) : ∀ (n lo : Nat) (l : List (Nat × Nat)) (s : St), (ackLoop n lo l s).2.2 = 0 → ackLoop n lo l (withS c s) = ((ackLoop n lo l s).1, withS c (ackLoop n lo l s).2)
  | 0, _, _, _, _ => rfl
  | n + 1, lo, l, s, h => by
    unfold ackLoop at h ⊢
    dsimp only at h ⊢
    split at h
    · exact absurd h (failSt3_bad _)
    · rename_i hc
      have h2 := ackLoop_st n _ _ _ h
      have h1 := rdInt_ok h2
      rw [rdInt_ext c h1]
      dsimp only
      rw [rdInt_ext c h2]
      dsimp only
      rw [if_neg hc, if_neg hc]
      exact ackLoop_ext c n _ _ _ h
theorem acked_ext (c : List Nat) (f : Fr) (s : St) (h : (ackedM f s).2.2 = 0) : ackedM f (withS c s) = ((ackedM f s).1, withS c (ackedM f s).2) ∧ s.2 = 0 := by
  unfold ackedM at h ⊢
  dsimp only at h ⊢
  split at h
  · exact absurd h (failSt3_bad _)
  · rename_i hc
    have h4 := ackLoop_st _ _ _ _ h
    have h3 := rdInt_ok h4
    have h2 := rdInt_ok h3
    have h1 := rdInt_ok h2
    refine ⟨?_, rdInt_ok h1⟩
    rw [rdInt_ext c h1]
    dsimp only
    rw [rdInt_ext c h2]
    dsimp only
    rw [rdInt_ext c h3]
    dsimp only
    rw [rdInt_ext c h4]
    dsimp only
    rw [if_neg hc, if_neg hc, ackLoop_ext c _ _ _ _ h]
theorem readP_ext (c : List Nat) (p : Part) (f : Fr) (s : St) (h1 : p ≠ .allLeft) (h2 : p ≠ .zeros) (h : (readP p f s).2.2 = 0) : readP p f (withS c s) = ((readP p f s).1, withS c (readP p f s).2) ∧ s.2 = 0 := by
  cases p with
  | allLeft => exact absurd rfl h1
  | zeros => exact absurd rfl h2
  | acked => exact acked_ext c f s h
  | token =>
    have h' : (rdBytes 16 s).2.2 = 0 := h
    refine ⟨?_, rdBytes_ok h'⟩
    unfold readP
    dsimp only
    rw [rdBytes_ext c h']
  | challenge =>
    have h' : (rdBytes 8 s).2.2 = 0 := h
    refine ⟨?_, rdBytes_ok h'⟩
    unfold readP toldM
    dsimp only
    rw [rdBytes_ext c h']
  | counted =>
    have h' : (rdBytes (rdInt s).1 (rdInt s).2).2.2 = 0 := h
    have h'' := rdBytes_ok h'
    refine ⟨?_, rdInt_ok h''⟩
    unfold readP toldM
    dsimp only
    rw [rdInt_ext c h'']
    dsimp only
    rw [rdBytes_ext c h']
  | shortly =>
    have h' : (rdBytes (rdByte s).1 (rdByte s).2).2.2 = 0 := h
    have h'' := rdBytes_ok h'
    refine ⟨?_, rdByte_ok h''⟩
    unfold readP toldM
    dsimp only
    rw [rdByte_ext c h'']
    dsimp only
    rw [rdBytes_ext c h']
  | dropped =>
    have h' : (rdInt (rdInt (rdInt s).2).2).2.2 = 0 := h
    have h3 := rdInt_ok h'
    have h4 := rdInt_ok h3
    refine ⟨?_, rdInt_ok h4⟩
    unfold readP
    dsimp only
    rw [rdInt_ext c h4]
    dsimp only
    rw [rdInt_ext c h3]
    dsimp only
    rw [rdInt_ext c h']
  | id | amount | code =>
    have h' : (rdInt s).2.2 = 0 := h
    refine ⟨?_, rdInt_ok h'⟩
    unfold readP
    dsimp only
    rw [rdInt_ext c h']
theorem readAll_st (ps : List Part) : ∀ (x : Fr × St), (∀ p ∈ ps, p ≠ .allLeft ∧ p ≠ .zeros) → (readAll ps x).2.2 = 0 → x.2.2 = 0 := by
  induction ps with
  | nil => intro x _ h; exact h
  | cons p ps ih =>
    intro x hp h
    have h1 := ih (readP p x.1 x.2) (fun q hq => hp q (List.mem_cons_of_mem _ hq)) h
    exact (readP_ext [] p x.1 x.2 (hp p List.mem_cons_self).1 (hp p List.mem_cons_self).2 h1).2
theorem readAll_ext (c : List Nat) (ps : List Part) : ∀ (x : Fr × St), (∀ p ∈ ps, p ≠ .allLeft ∧ p ≠ .zeros) → (readAll ps x).2.2 = 0 → readAll ps (x.1, withS c x.2) = ((readAll ps x).1, withS c (readAll ps x).2) := by
  induction ps with
  | nil => intro x _ _; rfl
  | cons p ps ih =>
    intro x hp h
    have hq : ∀ q ∈ ps, q ≠ .allLeft ∧ q ≠ .zeros := fun q hq => hp q (List.mem_cons_of_mem _ hq)
    have h1 := readAll_st ps (readP p x.1 x.2) hq h
    have h2 := (readP_ext c p x.1 x.2 (hp p List.mem_cons_self).1 (hp p List.mem_cons_self).2 h1).1
    show readAll ps (readP p x.1 (withS c x.2)) = _
    rw [h2]
    exact ih (readP p x.1 x.2) hq h
end Go.Proofs.YtlkklfkfhebpgaaDoor

namespace Go.Proofs.YtlkklfkfhebpgaaDoor
open Go.RowKit

theorem putM_few {f : Fr} (of : f.Ok) (ht : f.tok.length = 16) (hr : rightB f = true) : (putM f).length ≤ 200000 := by
  have h1 := flat_len f (partsOf f) (parts_small of ht hr)
  have h2 := encI_len (typM f)
  have h3 : (partsOf f).length ≤ 100 := by
    unfold partsOf
    cases hd : kdM (keyM f.kind) with
    | none => exact Nat.zero_le _
    | some d => exact Nat.le_trans (parts_len d (kdM_good hd) (typM f)) (by decide)
  unfold putM
  rw [if_pos hr, List.length_append]
  omega
theorem next_zero (r : List Nat) : (nextM (0 :: r, 0)).1.kind = 0 := by
  have h1 : rdInt (0 :: r, 0) = (0, (r, 0)) := by
    unfold rdInt
    simp [needs, foldB]
  unfold nextM
  rw [h1]
  dsimp only
  split
  · rfl
  · split
    · rw [(readAll_kind _ _).1]
      rfl
    · rfl
theorem head_ne {g : Fr} (og : g.Ok) (tg : g.tok.length = 16) (lg : g.data.length ≤ 1000000) (rg : rightB g = true) (hk : g.kind ≠ 0) : (putM g).head? ≠ some 0 := by
  intro h
  have h2 := next_right og tg lg rg [] (fun _ => Or.inr (by simp))
  rw [List.append_nil] at h2
  rcases hp : putM g with _ | ⟨x, r⟩
  · rw [hp] at h; cases h
  · rw [hp] at h h2
    simp only [List.head?_cons, Option.some.injEq] at h
    subst h
    have h3 := next_zero r
    rw [h2] at h3
    exact hk h3
theorem two_back {f g : Fr} (of : f.Ok) (og : g.Ok) (tf : f.tok.length = 16) (tg : g.tok.length = 16) (lf : f.data.length ≤ 1000000) (lg : g.data.length ≤ 1000000) (rf : rightB f = true) (rg : rightB g = true) (hk : ¬ (f.kind = 0 ∧ g.kind = 0)) : parseM (putM f ++ putM g) = ([f, g], 0) := by
  have h : loopP [] (putM f ++ putM g, 0) = ([f, g], ([], 0)) := by
    rw [loop_more of tf lf rf [] (putM g) (fun h0 => Or.inr (head_ne og tg lg rg (fun h1 => hk ⟨h0, h1⟩))), loop_one og tg lg rg]
    rfl
  rw [parseM_eq _ _ _ h]
  rfl
end Go.Proofs.YtlkklfkfhebpgaaDoor

namespace Go.Proofs.YtlkklfkfhebpgaaDoor

/-- A reader's state: good, or an error with nothing left. -/
def ErrS (s : St) : Prop := s.2 = 0 ∨ ((s.2 = 2 ∨ s.2 = 3) ∧ s.1 = [])
theorem ErrS.int {s : St} (h : ErrS s) : ErrS (rdInt s).2 := by
  unfold rdInt
  split
  · rename_i h0
    rcases h with h | h
    · exact absurd h h0
    · exact Or.inr ⟨h.1, rfl⟩
  · split
    · exact Or.inr ⟨Or.inl rfl, rfl⟩
    · split
      · exact Or.inl rfl
      · exact Or.inr ⟨Or.inl rfl, rfl⟩
theorem ErrS.byte {s : St} (h : ErrS s) : ErrS (rdByte s).2 := by
  unfold rdByte
  split
  · rename_i h0
    rcases h with h | h
    · exact absurd h h0
    · exact Or.inr ⟨h.1, rfl⟩
  · split
    · exact Or.inr ⟨Or.inl rfl, rfl⟩
    · exact Or.inl rfl
theorem ErrS.bytes {s : St} (h : ErrS s) (n : Nat) : ErrS (rdBytes n s).2 := by
  unfold rdBytes
  split
  · rename_i h0
    rcases h with h | h
    · exact absurd h h0
    · exact Or.inr ⟨h.1, rfl⟩
  · split
    · exact Or.inl rfl
    · exact Or.inr ⟨Or.inl rfl, rfl⟩
theorem ErrS.fail {s : St} (h : ErrS s) : ErrS (failSt 3 s) := by
  unfold failSt
  split
  · exact h
  · exact Or.inr ⟨Or.inr rfl, rfl⟩
theorem ErrS.zeros {s : St} (h : ErrS s) (n : Nat) : ErrS (zerosS n s).2 := by
  unfold zerosS
  split
  · exact h
  · exact Or.inl rfl
theorem ErrS.ackLoop : ∀ (n lo : Nat) (l : List (Nat × Nat)) {s : St}, ErrS s → ErrS (ackLoop n lo l s).2
  | 0, _, _, _, h => h
  | n + 1, lo, l, s, h => by
    unfold Proofs.YtlkklfkfhebpgaaDoor.ackLoop
    dsimp only
    split
    · exact h.int.int.fail
    · exact ErrS.ackLoop n _ _ h.int.int
theorem ErrS.readP {s : St} (h : ErrS s) (p : Part) (f : Fr) : ErrS (readP p f s).2 := by
  cases p with
  | id | amount | code => exact h.int
  | counted => exact h.int.bytes _
  | shortly => exact h.byte.bytes _
  | challenge => exact h.bytes _
  | allLeft => exact h.bytes _
  | token => exact h.bytes _
  | zeros => exact h.zeros _
  | dropped => exact h.int.int.int
  | acked =>
    show ErrS (ackedM f s).2
    unfold ackedM
    dsimp only
    split
    · exact h.int.int.int.int.fail
    · exact ErrS.ackLoop _ _ _ h.int.int.int.int
theorem ErrS.readAll (ps : List Part) : ∀ (x : Fr × St), ErrS x.2 → ErrS (readAll ps x).2 := by
  induction ps with
  | nil => intro x h; exact h
  | cons p ps ih => intro x h; exact ih _ (h.readP p x.1)
theorem ErrS.next {s : St} (h : ErrS s) : ErrS (nextM s).2 := by
  unfold nextM
  split
  · exact h.int.fail
  · dsimp only
    split
    · exact ErrS.readAll _ _ h.int
    · exact ErrS.fail (ErrS.readAll _ _ h.int)

/-- A right frame's bytes begin with its type, and its parts are what is read by it. -/
theorem put_kind {f : Fr} (of : f.Ok) (hr : rightB f = true) : ∃ d, kdM (kindM (typM f)) = some d ∧ partsOf f = d.pf.parts (typM f) ∧ putM f = encI (typM f) ++ putAll (partsOf f) f ∧ typM f < 4611686018427387904 := by
  have hp : putM f = encI (typM f) ++ putAll (partsOf f) f := by unfold putM; rw [if_pos hr]
  unfold rightB at hr
  cases hd : kdM (keyM f.kind) with
  | none => rw [hd] at hr; simp at hr
  | some d =>
    rw [hd] at hr
    have hsm := keyM_small f.kind of.k0 of.k1 (kdM_lt hd)
    have hw := has_whole hr
    have htM := typM_lt f (by omega)
    have hx := hd
    unfold kdM at hx
    simp only [Option.map_eq_some_iff] at hx
    obtain ⟨x, hx, rfl⟩ := hx
    have hk1 := List.find?_some hx
    have hk2 : x.1 = keyM f.kind := by simpa using hk1
    have htb := typ_back x (List.mem_of_find?_eq_some hx) f (by omega) hw.1
    exact ⟨x.2, by rw [htb.1, hk2, hd], by unfold partsOf; rw [hd], hp, by omega⟩

theorem cut_bad {f : Fr} (of : f.Ok) (ht : f.tok.length = 16) (hl : f.data.length ≤ 1000000) (hr : rightB f = true) (hk : f.kind ≠ 0) (b c : List Nat) (hb : putM f = b ++ c) (hc : c ≠ []) : (nextM (b, 0)).2.2 ≠ 0 := by
  intro h0
  have hall := next_right of ht hl hr [] (fun e => absurd e hk)
  rw [List.append_nil, hb] at hall
  obtain ⟨d, hd, hps, hput, htm⟩ := put_kind of hr
  have hpo := parts_ok of ht hl hr
  have hpp : ∀ p ∈ d.pf.parts (typM f), p ≠ .allLeft ∧ p ≠ .zeros := fun p hp => by
    obtain ⟨_, h1, h2⟩ := hpo p (by rw [hps]; exact hp)
    exact ⟨h1, fun e => hk (h2 e).1⟩
  -- the type
  have hr1 : (rdInt (b, 0)).2.2 = 0 := by
    unfold nextM at h0
    split at h0
    · rename_i hn
      by_cases h : (rdInt (b, 0)).2.2 = 0
      · exact h
      · unfold failSt at h0
        rw [if_pos (Or.inl h)] at h0
        exact absurd h0 h
    · rename_i hn
      by_cases h : (rdInt (b, 0)).2.2 = 0
      · exact h
      · rw [if_neg h] at hn; cases hn
  have he := rdInt_ext c hr1
  have hP : rdInt (b ++ c, 0) = (typM f, (putAll (partsOf f) f, 0)) := by
    rw [← hb, hput, rdInt_enc _ htm]
  have hty : (rdInt (b, 0)).1 = typM f := by
    have := congrArg Prod.fst he
    rw [show withS c (b, 0) = (b ++ c, 0) from rfl, hP] at this
    exact this.symm
  have hst : (rdInt (b ++ c, 0)).2 = withS c (rdInt (b, 0)).2 := by
    have := congrArg Prod.snd he
    exact this
  have hty2 : (rdInt (b ++ c, 0)).1 = typM f := by rw [hP]
  have hr2 : (rdInt (b ++ c, 0)).2.2 = 0 := by rw [hP]
  -- the beginning's frame
  have hn : nextM (b, 0) = (let x := readAll (d.pf.parts (typM f)) ({ kind := (kindM (typM f) : Nat), flag := d.flagged && decide (typM f % 2 = 1) }, (rdInt (b, 0)).2)
      if x.2.2 = 0 ∧ hasB d x.1 = true then x else ({}, failSt 3 x.2)) := by
    unfold nextM
    rw [if_pos hr1, hty, hd]
  have hn2 : nextM (b ++ c, 0) = (let x := readAll (d.pf.parts (typM f)) ({ kind := (kindM (typM f) : Nat), flag := d.flagged && decide (typM f % 2 = 1) }, (rdInt (b ++ c, 0)).2)
      if x.2.2 = 0 ∧ hasB d x.1 = true then x else ({}, failSt 3 x.2)) := by
    unfold nextM
    rw [if_pos hr2, hty2, hd]
  rw [hst] at hn2
  dsimp only at hn hn2
  rw [hn] at h0
  generalize hx0 : ({ kind := (kindM (typM f) : Nat), flag := d.flagged && decide (typM f % 2 = 1) } : Fr) = x0 at *
  by_cases hcnd : (readAll (d.pf.parts (typM f)) (x0, (rdInt (b, 0)).2)).2.2 = 0 ∧ hasB d (readAll (d.pf.parts (typM f)) (x0, (rdInt (b, 0)).2)).1 = true
  · have hex := readAll_ext c (d.pf.parts (typM f)) (x0, (rdInt (b, 0)).2) hpp hcnd.1
    dsimp only at hex
    rw [hex, if_pos ⟨hcnd.1, hcnd.2⟩, hall] at hn2
    have h3 := congrArg (fun y : Fr × St => y.2.1) hn2
    dsimp only [withS] at h3
    have h4 := (List.append_eq_nil_iff.1 h3.symm).2
    exact hc h4
  · rw [if_neg hcnd] at h0
    exact failSt3_bad _ h0

theorem cut_parse {f : Fr} (of : f.Ok) (ht : f.tok.length = 16) (hl : f.data.length ≤ 1000000) (hr : rightB f = true) (hk : f.kind ≠ 0) (b c : List Nat) (hb : putM f = b ++ c) (hc : c ≠ []) : parseM b = ([], 2) ∨ parseM b = ([], 3) := by
  by_cases h : b = []
  · right
    subst h
    rw [parseM_eq [] [] ([], 0) (loopP_stop [] ([], 0) rfl)]
    rfl
  · have h1 := cut_bad of ht hl hr hk b c hb hc
    have h2 : ErrS (nextM (b, 0)).2 := ErrS.next (Or.inl rfl)
    rcases h2 with h2 | ⟨h2, h3⟩
    · exact absurd h2 h1
    · have h4 := loopP_on [] (b, 0) h
      rw [loopP_stop _ _ h3] at h4
      rw [parseM_eq b _ _ h4, if_pos h1]
      rcases h2 with h2 | h2
      · left; rw [h2]
      · right; rw [h2]
end Go.Proofs.YtlkklfkfhebpgaaDoor

namespace Go.Proofs.YtlkklfkfhebpgaaDoor
open Go.RowKit

theorem u16_of_wf {n : Nat} (h : (Lit.int .u16 (n : Int)).wf = true) : n < 65536 := by
  rw [show (Lit.int .u16 (n : Int)).wf = (decide ((0 : Int) ≤ n) && decide ((n : Int) ≤ 65535)) from rfl] at h
  simp at h; omega

set_option maxRecDepth 100000 in
set_option maxHeartbeats 4000000 in
theorem walk_FramesCut (f : Fr) (sd sr : Value) (n0 : Int) (w : World) (hf : FrIn w f sd sr) (of : f.Ok) (hn : (Lit.int .u16 n0).wf = true) (hT : Tab w) :
    Calls Tryd.prog 4 #[aggF f sd sr, .int .u16 n0] w fun e w' => e = .returned (.bool true) ∧ Chg none_ w w' := by
  obtain ⟨n, rfl⟩ := nat_of_wf hn rfl
  have hN := u16_of_wf hn
  clear hn
  have HT := Lib.hid hT
  have HTF := Lib.hid hf.tok
  have HGF : Hid (∀ w', Chg none_ w w' → Calls Tryd.prog 7 #[.agg (cellsF f sd sr).toArray] w' fun e w'' => e = .returned (.bool (greatB f)) ∧ Chg none_ w' w'') := Lib.hid (fun w' hc => Great_any f sd sr w' (hf.chg hc))
  have HC0 := Lib.hid (cF_0 f sd sr)
  unfold aggF
  cases g1 : greatB f with
  | true =>
    rw [g1] at HGF
    clear hf of hT
    go_enter Tryd.func4, Tryd.ntmps4
    go_wp2_with (first | ((with_reducible show wpList _ _ _ (⟨some 2, .box _ _, _, _, _, _⟩ :: _) _ _); refine wpList_box_Row rfl rfl (cellsF f sd sr) rfl ?_; intro w1 hr1 hc1 hs1; have HRW := Lib.hid (show ∀ w', Chg none_ w1 w' → Row w' w.heap.size 27 (cellsF f sd sr) from fun w' hc => hr1.chg hc (fun h => h)); have HC := Lib.hid (Chg.refl none_ w1); have HW2 := Lib.hid hc1; clear hr1 hc1 hs1) | (go_at_call 6; refine (alive_any _ (HT.out.chg (HW2.out.trans HC.out) (fun h => h))).mono ?_; rintro e w3 ⟨rfl, hc⟩; have HC := Lib.hid (HC.out.trans hc); clear hc) | ((with_reducible show wpList _ _ _ (⟨some 10, .load _ _, _, _, _, _⟩ :: _) _ _); refine wpList_load_Row (cs := cellsF f sd sr) rfl rfl rfl (HRW.out _ HC.out) Tryd.underlying27 rfl (by rw [cF_len _ _ _ HTF.out]; exact size27) ?_) | (go_at_call 7; refine (HGF.out _ (HW2.out.trans HC.out)).mono ?_; rintro e w4 ⟨rfl, hc⟩; have HC := Lib.hid (HC.out.trans hc); clear hc))
    go_ret
    exact ⟨rfl, HW2.out.trans HC.out⟩
  | false =>
    rw [g1] at HGF
    obtain ⟨df, lf⟩ := hf.small g1
    have HRF : Hid (∀ w', Chg none_ w w' → Calls Tryd.prog 8 #[.agg (cellsF f sd sr).toArray] w' fun e w'' => e = .returned (.bool (rightB f)) ∧ Chg none_ w' w'') := Lib.hid (fun w' hc => Right_any f sd sr w' _ (df.chg hc (fun _ _ h => h)) of)
    cases r1 : rightB f with
    | false =>
      rw [r1] at HRF
      clear hf of hT df lf
      go_enter Tryd.func4, Tryd.ntmps4
      go_wp2_with (first | ((with_reducible show wpList _ _ _ (⟨some 2, .box _ _, _, _, _, _⟩ :: _) _ _); refine wpList_box_Row rfl rfl (cellsF f sd sr) rfl ?_; intro w1 hr1 hc1 hs1; have HRW := Lib.hid (show ∀ w', Chg none_ w1 w' → Row w' w.heap.size 27 (cellsF f sd sr) from fun w' hc => hr1.chg hc (fun h => h)); have HC := Lib.hid (Chg.refl none_ w1); have HW2 := Lib.hid hc1; clear hr1 hc1 hs1) | (go_at_call 6; refine (alive_any _ (HT.out.chg (HW2.out.trans HC.out) (fun h => h))).mono ?_; rintro e w3 ⟨rfl, hc⟩; have HC := Lib.hid (HC.out.trans hc); clear hc) | ((with_reducible show wpList _ _ _ (⟨some 10, .load _ _, _, _, _, _⟩ :: _) _ _); refine wpList_load_Row (cs := cellsF f sd sr) rfl rfl rfl (HRW.out _ HC.out) Tryd.underlying27 rfl (by rw [cF_len _ _ _ HTF.out]; exact size27) ?_) | (go_at_call 7; refine (HGF.out _ (HW2.out.trans HC.out)).mono ?_; rintro e w4 ⟨rfl, hc⟩; have HC := Lib.hid (HC.out.trans hc); clear hc) | ((with_reducible show wpList _ _ _ (⟨some 13, .load _ _, _, _, _, _⟩ :: _) _ _); refine wpList_load_Row (cs := cellsF f sd sr) rfl rfl rfl (HRW.out _ HC.out) Tryd.underlying27 rfl (by rw [cF_len _ _ _ HTF.out]; exact size27) ?_) | (go_at_call 8; refine (HRF.out _ (HW2.out.trans HC.out)).mono ?_; rintro e w6 ⟨rfl, hc⟩; have HC := Lib.hid (HC.out.trans hc); clear hc; have hk1 := ((HRW.out _ HC.out).cell 0).trans HC0.out))
      go_ret
      exact ⟨rfl, HW2.out.trans HC.out⟩
    | true =>
      rw [r1] at HRF
      by_cases hk0 : f.kind = 0
      · have e1 : (f.kind == 0) = true := by rw [beq_iff_eq]; exact hk0
        clear hf of hT df lf hk0
        go_enter Tryd.func4, Tryd.ntmps4
        go_wp2_with (first | ((with_reducible show wpList _ _ _ (⟨some 2, .box _ _, _, _, _, _⟩ :: _) _ _); refine wpList_box_Row rfl rfl (cellsF f sd sr) rfl ?_; intro w1 hr1 hc1 hs1; have HRW := Lib.hid (show ∀ w', Chg none_ w1 w' → Row w' w.heap.size 27 (cellsF f sd sr) from fun w' hc => hr1.chg hc (fun h => h)); have HC := Lib.hid (Chg.refl none_ w1); have HW2 := Lib.hid hc1; clear hr1 hc1 hs1) | (go_at_call 6; refine (alive_any _ (HT.out.chg (HW2.out.trans HC.out) (fun h => h))).mono ?_; rintro e w3 ⟨rfl, hc⟩; have HC := Lib.hid (HC.out.trans hc); clear hc) | ((with_reducible show wpList _ _ _ (⟨some 10, .load _ _, _, _, _, _⟩ :: _) _ _); refine wpList_load_Row (cs := cellsF f sd sr) rfl rfl rfl (HRW.out _ HC.out) Tryd.underlying27 rfl (by rw [cF_len _ _ _ HTF.out]; exact size27) ?_) | (go_at_call 7; refine (HGF.out _ (HW2.out.trans HC.out)).mono ?_; rintro e w4 ⟨rfl, hc⟩; have HC := Lib.hid (HC.out.trans hc); clear hc) | ((with_reducible show wpList _ _ _ (⟨some 13, .load _ _, _, _, _, _⟩ :: _) _ _); refine wpList_load_Row (cs := cellsF f sd sr) rfl rfl rfl (HRW.out _ HC.out) Tryd.underlying27 rfl (by rw [cF_len _ _ _ HTF.out]; exact size27) ?_) | (go_at_call 8; refine (HRF.out _ (HW2.out.trans HC.out)).mono ?_; rintro e w6 ⟨rfl, hc⟩; have HC := Lib.hid (HC.out.trans hc); clear hc; have hk1 := ((HRW.out _ HC.out).cell 0).trans HC0.out))
        go_ret
        exact ⟨rfl, HW2.out.trans HC.out⟩
      · have e1 : (f.kind == 0) = false := by rw [beq_eq_false_iff_ne]; exact hk0
        have HPF : Hid (∀ w', Chg none_ w w' → Calls Tryd.prog 11 #[.agg (cellsF f sd sr).toArray] w' fun e w'' => ∃ A c, e = .returned (.slice A (putM f).length c) ∧ (putM f).length ≤ c ∧ View w'' (fun _ => True) A (putM f).length (u8s (putM f)) ∧ Chg none_ w' w'') := Lib.hid (fun w' hc => (Put_own f sd sr w' _ (HT.out.chg hc (fun h => h)) (df.chg hc (fun _ _ h => h)) of).mono (by
          rintro e w'' ⟨v, rfl, ho, hc⟩
          obtain ⟨A, c, rfl, h1, _, hv⟩ := View.own (T := fun _ => True) ho (fun _ _ => trivial)
          exact ⟨A, c, rfl, h1, hv, hc⟩))
        have hpos : 0 < (putM f).length := List.length_pos_iff.2 (putM_ne of hf.tok (by omega) r1)
        have hfew := putM_few of hf.tok r1
        obtain ⟨q, hq⟩ : ∃ q, q = n % (putM f).length := ⟨_, rfl⟩
        have hq1 : q < (putM f).length := by rw [hq]; exact Nat.mod_lt _ hpos
        have hq2 : (n : Int) % ((putM f).length : Int) = (q : Int) := by rw [hq]; simp
        have hcut := cut_parse of hf.tok (by omega) r1 hk0 ((putM f).take q) ((putM f).drop q) (List.take_append_drop q _).symm (by intro e; have := congrArg List.length e; simp at this; omega)
        have HPA : Hid (∀ w' A c er, parseM ((putM f).take q) = ([], er) → View w' (fun _ => True) A (putM f).length (u8s (putM f)) → Calls Tryd.prog 16 #[.slice A q c] w' fun e w'' => ∃ A' c', e = .returned (.tuple #[.slice A' 0 c', .int .i64 er]) ∧ Chg none_ w' w'') := Lib.hid (fun w' A c er he hv => by
          have hl : ((putM f).take q).length = q := by rw [List.length_take]; omega
          have hv1 := hv.take (k := q) (by omega)
          rw [show (u8s (putM f)).take q = u8s ((putM f).take q) by simp [u8s, List.map_take]] at hv1
          have := parse_any w' (fun _ => True) A c ((putM f).take q) (by rw [hl]; exact hv1) (by omega) (fun x hx => putM_lt f of x (List.mem_of_mem_take hx))
          rw [hl, he] at this
          refine this.mono ?_
          rintro e w'' ⟨v, L, base, T, rfl, hfs, _, hL, hc⟩
          have hL0 : L = [] := by simpa using hL
          subst hL0
          obtain ⟨A', c', rfl, _⟩ := view_ownN hfs.own
          exact ⟨A', c', rfl, hc⟩)
        have hlz : (((putM f).length : Int) == 0) = false := by rw [beq_eq_false_iff_ne]; omega
        have hlp : 0 < ((putM f).length : Int) := by omega
        clear hq
        generalize hlen : (putM f).length = len at *
        have hq3 : (q : Int) < (len : Int) := by omega
        have HQL := Lib.hid hq1
        clear hf of hT df lf hk0 hpos hlen hq1
        rcases hcut with hcut | hcut
        · have HPR := Lib.hid (fun w' A c => HPA.out w' A c 2 hcut)
          clear hcut HPA
          go_enter Tryd.func4, Tryd.ntmps4
          go_wp2_with (first | ((with_reducible show wpList _ _ _ (⟨some 2, .box _ _, _, _, _, _⟩ :: _) _ _); refine wpList_box_Row rfl rfl (cellsF f sd sr) rfl ?_; intro w1 hr1 hc1 hs1; have HRW := Lib.hid (show ∀ w', Chg none_ w1 w' → Row w' w.heap.size 27 (cellsF f sd sr) from fun w' hc => hr1.chg hc (fun h => h)); have HC := Lib.hid (Chg.refl none_ w1); have HW2 := Lib.hid hc1; clear hr1 hc1 hs1) | (go_at_call 6; refine (alive_any _ (HT.out.chg (HW2.out.trans HC.out) (fun h => h))).mono ?_; rintro e w3 ⟨rfl, hc⟩; have HC := Lib.hid (HC.out.trans hc); clear hc) | ((with_reducible show wpList _ _ _ (⟨some 10, .load _ _, _, _, _, _⟩ :: _) _ _); refine wpList_load_Row (cs := cellsF f sd sr) rfl rfl rfl (HRW.out _ HC.out) Tryd.underlying27 rfl (by rw [cF_len _ _ _ HTF.out]; exact size27) ?_) | (go_at_call 7; refine (HGF.out _ (HW2.out.trans HC.out)).mono ?_; rintro e w4 ⟨rfl, hc⟩; have HC := Lib.hid (HC.out.trans hc); clear hc) | ((with_reducible show wpList _ _ _ (⟨some 13, .load _ _, _, _, _, _⟩ :: _) _ _); refine wpList_load_Row (cs := cellsF f sd sr) rfl rfl rfl (HRW.out _ HC.out) Tryd.underlying27 rfl (by rw [cF_len _ _ _ HTF.out]; exact size27) ?_) | (go_at_call 8; refine (HRF.out _ (HW2.out.trans HC.out)).mono ?_; rintro e w6 ⟨rfl, hc⟩; have HC := Lib.hid (HC.out.trans hc); clear hc; have hk1 := ((HRW.out _ HC.out).cell 0).trans HC0.out) | ((with_reducible show wpList _ _ _ (⟨some 22, .load _ _, _, _, _, _⟩ :: _) _ _); refine wpList_load_Row (cs := cellsF f sd sr) rfl rfl rfl (HRW.out _ HC.out) Tryd.underlying27 rfl (by rw [cF_len _ _ _ HTF.out]; exact size27) ?_) | (go_at_call 11; refine (HPF.out _ (HW2.out.trans HC.out)).mono ?_; rintro e w7 ⟨A, c, rfl, hlc, hv, hc⟩; have hqc : q ≤ c := Nat.le_trans (Nat.le_of_lt HQL.out) hlc; have HC := Lib.hid (HC.out.trans hc); have HVW := Lib.hid hv; clear hv hc) | (go_at_call 16; refine (HPR.out _ _ _ HVW.out).mono ?_; rintro e w8 ⟨A', c', rfl, hc⟩; have HC := Lib.hid (HC.out.trans hc); clear hc))
          go_ret
          exact ⟨rfl, HW2.out.trans HC.out⟩
        · have HPR := Lib.hid (fun w' A c => HPA.out w' A c 3 hcut)
          clear hcut HPA
          go_enter Tryd.func4, Tryd.ntmps4
          go_wp2_with (first | ((with_reducible show wpList _ _ _ (⟨some 2, .box _ _, _, _, _, _⟩ :: _) _ _); refine wpList_box_Row rfl rfl (cellsF f sd sr) rfl ?_; intro w1 hr1 hc1 hs1; have HRW := Lib.hid (show ∀ w', Chg none_ w1 w' → Row w' w.heap.size 27 (cellsF f sd sr) from fun w' hc => hr1.chg hc (fun h => h)); have HC := Lib.hid (Chg.refl none_ w1); have HW2 := Lib.hid hc1; clear hr1 hc1 hs1) | (go_at_call 6; refine (alive_any _ (HT.out.chg (HW2.out.trans HC.out) (fun h => h))).mono ?_; rintro e w3 ⟨rfl, hc⟩; have HC := Lib.hid (HC.out.trans hc); clear hc) | ((with_reducible show wpList _ _ _ (⟨some 10, .load _ _, _, _, _, _⟩ :: _) _ _); refine wpList_load_Row (cs := cellsF f sd sr) rfl rfl rfl (HRW.out _ HC.out) Tryd.underlying27 rfl (by rw [cF_len _ _ _ HTF.out]; exact size27) ?_) | (go_at_call 7; refine (HGF.out _ (HW2.out.trans HC.out)).mono ?_; rintro e w4 ⟨rfl, hc⟩; have HC := Lib.hid (HC.out.trans hc); clear hc) | ((with_reducible show wpList _ _ _ (⟨some 13, .load _ _, _, _, _, _⟩ :: _) _ _); refine wpList_load_Row (cs := cellsF f sd sr) rfl rfl rfl (HRW.out _ HC.out) Tryd.underlying27 rfl (by rw [cF_len _ _ _ HTF.out]; exact size27) ?_) | (go_at_call 8; refine (HRF.out _ (HW2.out.trans HC.out)).mono ?_; rintro e w6 ⟨rfl, hc⟩; have HC := Lib.hid (HC.out.trans hc); clear hc; have hk1 := ((HRW.out _ HC.out).cell 0).trans HC0.out) | ((with_reducible show wpList _ _ _ (⟨some 22, .load _ _, _, _, _, _⟩ :: _) _ _); refine wpList_load_Row (cs := cellsF f sd sr) rfl rfl rfl (HRW.out _ HC.out) Tryd.underlying27 rfl (by rw [cF_len _ _ _ HTF.out]; exact size27) ?_) | (go_at_call 11; refine (HPF.out _ (HW2.out.trans HC.out)).mono ?_; rintro e w7 ⟨A, c, rfl, hlc, hv, hc⟩; have hqc : q ≤ c := Nat.le_trans (Nat.le_of_lt HQL.out) hlc; have HC := Lib.hid (HC.out.trans hc); have HVW := Lib.hid hv; clear hv hc) | (go_at_call 16; refine (HPR.out _ _ _ HVW.out).mono ?_; rintro e w8 ⟨A', c', rfl, hc⟩; have HC := Lib.hid (HC.out.trans hc); clear hc))
          go_ret
          exact ⟨rfl, HW2.out.trans HC.out⟩
end Go.Proofs.YtlkklfkfhebpgaaDoor
namespace Go.Proofs.YtlkklfkfhebpgaaDoor.framesCut
open Go.ChangeShapes Go.WideShapes Go.ChangeAt Go.RowKit

set_option maxRecDepth 100000 in
theorem lifted (os : Os) (started : os.Started) (H : Type) (enc : TypeId × Value → H) :
    ReturnsInHanded {} Tryd.checked os 4 .any (fun w args => (Rows.framesCutSpec.pre enc Tryd.prog Tryd.f4 [] false w args ∧ laidMetH Tryd.prog laidAll w) ∧ sizedMet enc Tryd.prog Tryd.f4 (OpenSpec.ofChange Rows.framesCutSpec) false w args)
      (Rows.framesCutSpec.post enc Tryd.prog Tryd.f4 false true false false) := by
  refine returnsInHanded_of_change_and (C := Tryd.checked) (X := fun w _ => laidMetH Tryd.prog laidAll w) (fun _ _ _ hh h => h.of_heap hh) own started (by kernel_rfl) Tryd.func4
    (ChangeSpec.witness_shaped (enc := enc) (C := Tryd.checked) (os := os) (X := fun w _ => laidMetH Tryd.prog laidAll w) false (World.doorLaid Tryd.prog 400 os) #[.agg #[.int .i64 0, .int .u64 0, .int .u64 0, .int .u64 0, .int .u64 0, .bool false, .slice none 0 0, .slice none 0 0, .int .u8 0, .int .u8 0, .int .u8 0, .int .u8 0, .int .u8 0, .int .u8 0, .int .u8 0, .int .u8 0, .int .u8 0, .int .u8 0, .int .u8 0, .int .u8 0, .int .u8 0, .int .u8 0, .int .u8 0, .int .u8 0], .int .u16 0] 8 rfl (World.shaped_of_RefB (by kernel_rfl) (by kernel_rfl)) (by kernel_rfl) (by kernel_rfl) (by kernel_rfl) (door_met os _)) ?_
  intro W base args ds gs before hval0 hW _ _ hL _
  have hval : ∀ (j : Nat) t v, Tryd.f4.params[j]? = some t → args[j]? = some v → Value.okWide Tryd.prog W .any base t v := hval0
  have hW' := hW
  obtain ⟨p, q, hA0, hV, rfl, hfz, hnd⟩ := hW
  have hA : DataW.TrodAll enc Tryd.prog W 0 (fun _ => true) true Tryd.f4.params.toList args.toList ds p := hA0
  rw [Tryd.params4] at hA hval
  obtain ⟨v0, vs0, d0, ds0, p0, q0, hargs, rfl, rfl, h0, r0⟩ := trodAll_cons hA
  obtain ⟨v1, vs1, d1, ds1, p1, q1, rfl, rfl, rfl, h1, r1⟩ := trodAll_cons r0
  obtain ⟨rfl, rfl, rfl⟩ := trodAll_nil r1
  obtain rfl : args = #[v0, v1] := by cases args; simp_all
  obtain ⟨rfl, rfl⟩ := trodVars_none hV
  have k0 := h0
  have lt0 : ∀ x ∈ p0, x.block < W.heap.size := by obtain ⟨m, hm⟩ := k0; exact DataW.trod_lt m _ _ _ hm
  obtain ⟨f0, sd0, sr0, rfl, w0, o0⟩ := open_fr (hval 0 27 v0 rfl rfl) h0
  obtain ⟨a1, rfl, rfl, rfl, w1⟩ := open_int Tryd.underlying33 (hval 1 33 v1 rfl rfl) h1
  clear hA0 hval0
  refine (walk_FramesCut f0 sd0 sr0 a1 W w0 o0 w1 (tab_of_laid hL)).mono fun e W' ⟨he, hc⟩ => ?_
  have bel : Below W.heap.size W W' := hc.below (Nat.le_refl _) (fun _ h => h.elim)
  subst he
  exact ⟨_, rfl, _, _, _, [], _, [], hW', trodAll_mk1 (shut_bool Tryd.underlying4 _), (trodAll_cons_mk (Below.trod laidOut (by kernel_rfl) (of_decide_eq_true (by kernel_rfl)) k0 bel lt0) (trodAll_cons_mk (shut_int Tryd.underlying33 w1) trodAll_mk0)), rfl, bel.frame _, fun h => by cases h⟩

theorem said : Rows.FramesCutSaid :=
  OpenClaim.holds_of_wide 4 Tryd.f4 rfl rfl rfl rfl rfl rfl rfl ⟨rfl, rfl, rfl, rfl, rfl⟩ rfl rfl rfl rfl rfl (by kernel_rfl) Tryd.func4 (by kernel_rfl)
    (of_decide_eq_true (by kernel_rfl)) (by unfold Func.isWrapper; first | (rw [if_pos (by decide +kernel)]; kernel_rfl) | (rw [if_neg (by decide +kernel)]; exact ⟨rfl, rfl⟩))
    (fun os started H enc _ => lifted os started H enc)

theorem plain (f : FuncId) (fn : Func) (hf : Tryd.pinned.checked.prog.funcNamed Rows.framesCutRow.func = some f) (hfn : Tryd.pinned.checked.prog.funcs[f]? = some fn) :
    false = Tryd.pinned.checked.prog.looks [] ∧ ∀ (j : Nat) t, fn.params[j]? = some t → Tryd.pinned.checked.prog.wantsStandIn t = false := by
  obtain rfl : f = 4 := Option.some.inj ((show Tryd.prog.funcNamed Rows.framesCutRow.func = some 4 by kernel_rfl).symm.trans hf) |>.symm
  obtain rfl : fn = Tryd.f4 := (Option.some.inj (Tryd.func4.symm.trans hfn)).symm
  refine ⟨by kernel_rfl, fun j t ht => ?_⟩
  rw [Tryd.params4] at ht
  have hm : t ∈ [27, 33] := by simpa using Array.mem_of_getElem? ht
  have hall : ([27, 33].all fun u => !Tryd.prog.wantsStandIn u) = true := by kernel_rfl
  exact (show Tryd.prog.wantsStandIn t = false by simpa using List.all_eq_true.1 hall t hm)

theorem card : Rows.FramesCutCardSaid :=
  Claim7.holds_tied_plain_at .later [] _ _ _ _ said (fun _ h => by cases h) (by kernel_rfl) (fun _ h => by cases h) framesCut_row_tie rfl ⟨rfl, rfl⟩ (by kernel_rfl) rfl plain (by kernel_rfl)
#print axioms card
end Go.Proofs.YtlkklfkfhebpgaaDoor.framesCut
