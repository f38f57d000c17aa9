/- Layer 1 (varint): the walk of VarintReads. -/
import Derived.Test.YtpandcmfpohgkaaDoorV1Puts
import Derived.Deep.RegionHeld3
namespace Go.Proofs.YtpandcmfpohgkaaDoor
open Go.RowKit

/-- The two readers side by side: the program's in g, the document's in g2, over the bytes bs. -/
structure Two (w : World) (bs : List Nat) (g g2 : Nat) (T : Nat → Prop) (wi : World) (at_ : Nat) (bad : Int) : Prop where
  chg : Chg none_ w wi
  rd : Rd wi g T (if bad = 0 then bs.drop at_ else []) bad
  rr : RR wi g2 (fun b => b < w.heap.size) bs at_ bad
  new : w.heap.size ≤ g
  new2 : w.heap.size ≤ g2
  ne : g ≠ g2
  apart : ¬ T g
  apart2 : ¬ T g2
  mine : ∀ b, T b → w.heap.size ≤ b

theorem Two.step {w wi wj : World} {bs : List Nat} {g g2 : Nat} {T : Nat → Prop} {at_ : Nat} {bad : Int} (h : Two w bs g g2 T wi at_ bad) (hc : Chg none_ wi wj) : Two w bs g g2 T wj at_ bad :=
  ⟨h.chg.andThen hc (fun _ _ h => h.elim), h.rd.chg hc (fun h => h) (fun _ _ h => h), h.rr.chg hc (fun h => h) (fun _ _ h => h), h.new, h.new2, h.ne, h.apart, h.apart2, h.mine⟩
/-- Both have read: first the program's, then the document's. -/
theorem Two.both {w wi w1 w2 : World} {bs : List Nat} {g g2 : Nat} {T : Nat → Prop} {at_ at' : Nat} {bad bad' : Int} (h : Two w bs g g2 T wi at_ bad)
    (h1 : Chg (· = g) wi w1) (r1 : Rd w1 g T (if bad' = 0 then bs.drop at' else []) bad') (h2 : Chg (· = g2) w1 w2) (r2 : RR w2 g2 (fun b => b < w.heap.size) bs at' bad') : Two w bs g g2 T w2 at' bad' := by
  have n1 := h.new
  have n2 := h.new2
  refine ⟨(h.chg.andThen h1 (fun b hb e => absurd hb (by omega))).andThen h2 (fun b hb e => absurd hb (by omega)), r1.chg h2 h.ne (fun b hb e => h.apart2 (e ▸ hb)), r2, h.new, h.new2, h.ne, h.apart, h.apart2, h.mine⟩
theorem Two.apart2' {w wi : World} {bs : List Nat} {g g2 : Nat} {T : Nat → Prop} {at_ : Nat} {bad : Int} (h : Two w bs g g2 T wi at_ bad) : ¬ g2 < w.heap.size := by have := h.new2; omega
/-- The document's reader, behind the program's step. -/
theorem Two.rr1 {w wi w1 : World} {bs : List Nat} {g g2 : Nat} {T : Nat → Prop} {at_ : Nat} {bad : Int} (h : Two w bs g g2 T wi at_ bad) (h1 : Chg (· = g) wi w1) : RR w1 g2 (fun b => b < w.heap.size) bs at_ bad := by
  have n1 := h.new
  exact h.rr.chg h1 (fun e => h.ne e.symm) (fun b hb e => absurd hb (by omega))

theorem same_true (w : World) (T T' : Nat → Prop) (A A' : Option Addr) (c c' : Nat) (l : List Nat) (h : View w T A l.length (u8s l)) (h' : View w T' A' l.length (u8s l)) (hl : l.length ≤ 1000000) :
    Calls Tryd.prog 11 #[.slice A l.length c, .slice A' l.length c'] w fun e w' => e = .returned (.bool true) ∧ ∃ k, w' = w.drewN k :=
  (same_any w T T' A A' c c' l l h h' hl).mono fun e w' ⟨h1, h2⟩ => ⟨by rw [h1]; simp, h2⟩

theorem fail_two {w wi : World} {bs : List Nat} {g g2 : Nat} {T : Nat → Prop} {at_ : Nat} {bad : Int} (h : Two w bs g g2 T wi at_ bad) :
    (Calls Tryd.prog 16 #[.pointer (some ⟨g, 0, none⟩), .int .i64 9] wi fun e w' => e = .returned (.tuple #[]) ∧ Rd w' g T (if (if bad = 0 then (9 : Int) else bad) = 0 then bs.drop at_ else []) (if bad = 0 then (9 : Int) else bad) ∧ Chg (· = g) wi w') ∧
      ∀ W, RR W g2 (fun b => b < w.heap.size) bs at_ bad → Calls Tryd.prog 26 #[.pointer (some ⟨g2, 0, none⟩), .int .i64 9] W fun e w' => e = .returned (.tuple #[]) ∧ RR w' g2 (fun b => b < w.heap.size) bs at_ (if bad = 0 then (9 : Int) else bad) ∧ Chg (· = g2) W w' := by
  refine ⟨?_, fun W hr => rfail_any W g2 _ bs at_ bad 9 hr (by have := h.new2; omega)⟩
  by_cases hb : bad = 0
  · subst hb
    have hrd := h.rd
    rw [if_pos rfl] at hrd
    rw [if_pos rfl, if_neg (by omega)]
    exact fail_yes wi g T _ 9 hrd (by omega)
  · have hrd := h.rd
    rw [if_neg hb] at hrd
    rw [if_neg hb, if_neg hb]
    exact (fail_no wi g T _ bad 9 hrd (.inl hb)).mono fun e w' ⟨h1, h2⟩ => ⟨h1, h2 ▸ hrd, h2 ▸ Chg.refl _ _⟩

theorem two_left (bs : List Nat) (at_ : Nat) (bad : Int) : (if bad = 0 then bs.drop at_ else ([] : List Nat)).length = rleft bs at_ bad := by
  unfold rleft
  split <;> simp

theorem bad_keep {bad : Int} (bs : List Nat) (at_ : Nat) : (if badOf bad = 0 then bs.drop at_ else ([] : List Nat)) = [] := by
  by_cases h : bad = 0 <;> simp [badOf, h]

theorem int_two {w wi : World} {bs : List Nat} {g g2 : Nat} {T : Nat → Prop} {at_ : Nat} {bad : Int} (h : Two w bs g g2 T wi at_ bad) (hbs : ∀ x ∈ bs, x < 256) :
    ∃ (v : Nat) (at' : Nat) (bad' : Int),
      (Calls Tryd.prog 19 #[.pointer (some ⟨g, 0, none⟩)] wi fun e w' => e = .returned (.int .u64 v) ∧ Rd w' g T (if bad' = 0 then bs.drop at' else []) bad' ∧ Chg (· = g) wi w') ∧
      ∀ W, RR W g2 (fun b => b < w.heap.size) bs at_ bad → Calls Tryd.prog 23 #[.pointer (some ⟨g2, 0, none⟩)] W fun e w' => e = .returned (.int .u64 v) ∧ RR w' g2 (fun b => b < w.heap.size) bs at' bad' ∧ Chg (· = g2) W w' := by
  by_cases hno : bad ≠ 0 ∨ bs.length - at_ < 1
  · refine ⟨0, at_, badOf bad, ?_, fun W hr => rint_no1 W g2 _ bs at_ bad hr h.apart2' hno⟩
    rw [bad_keep]
    refine int_no1 wi g T _ bad h.rd ?_
    rcases hno with h | h
    · exact .inl h
    · by_cases hb : bad = 0
      · rw [if_pos hb, List.length_drop]; exact .inr h
      · exact .inl hb
  · have hb : bad = 0 := by
      by_cases hb : bad = 0
      · exact hb
      · exact absurd (.inl hb) hno
    subst hb
    have hl : at_ < bs.length := by omega
    have hrd := h.rd
    rw [if_pos rfl, List.drop_eq_getElem_cons hl] at hrd
    have hf : bs.getD at_ 0 = bs[at_] := by simp [List.getD_eq_getElem?_getD, hl]
    have hf2 : bs[at_] < 256 := hbs _ (List.getElem_mem hl)
    generalize bs[at_] = f at hrd hf hf2
    by_cases hn : needs f + 1 ≤ bs.length - at_
    · refine ⟨foldB (f % 64) ((bs.drop (at_ + 1)).take (needs f)), at_ + (needs f + 1), 0, ?_, fun W hr => ?_⟩
      · rw [if_pos rfl]
        have := int_ok wi g T f _ hrd h.apart hf2 (fun x hx => hbs x (List.mem_of_mem_drop hx)) (by rw [List.length_drop]; omega)
        rw [List.drop_drop] at this
        rw [show at_ + (needs f + 1) = at_ + 1 + needs f from by omega]
        exact this
      · exact (rint_any W g2 _ bs at_ f hr h.apart2' (by omega) hf hf2 hbs).mono fun e w' ⟨h1, _, h3⟩ => ⟨(h1 hn).1, (h1 hn).2, h3⟩
    · refine ⟨0, at_, 2, ?_, fun W hr => ?_⟩
      · rw [if_neg (by omega)]
        exact int_no2 wi g T f _ hrd h.apart hf2 (by rw [List.length_drop]; omega)
      · exact (rint_any W g2 _ bs at_ f hr h.apart2' (by omega) hf hf2 hbs).mono fun e w' ⟨_, h2, h3⟩ => ⟨(h2 hn).1, (h2 hn).2, h3⟩

theorem byte_two {w wi : World} {bs : List Nat} {g g2 : Nat} {T : Nat → Prop} {at_ : Nat} {bad : Int} (h : Two w bs g g2 T wi at_ bad) :
    ∃ (v : Nat) (at' : Nat) (bad' : Int),
      (Calls Tryd.prog 20 #[.pointer (some ⟨g, 0, none⟩)] wi fun e w' => e = .returned (.int .u8 v) ∧ Rd w' g T (if bad' = 0 then bs.drop at' else []) bad' ∧ Chg (· = g) wi w') ∧
      ∀ W, RR W g2 (fun b => b < w.heap.size) bs at_ bad → Calls Tryd.prog 24 #[.pointer (some ⟨g2, 0, none⟩)] W fun e w' => e = .returned (.int .u8 v) ∧ RR w' g2 (fun b => b < w.heap.size) bs at' bad' ∧ Chg (· = g2) W w' := by
  by_cases hno : bad ≠ 0 ∨ bs.length - at_ < 1
  · refine ⟨0, at_, badOf bad, ?_, fun W hr => rbyte_no W g2 _ bs at_ bad hr h.apart2' hno⟩
    rw [bad_keep]
    refine byte_no wi g T _ bad h.rd ?_
    rcases hno with h | h
    · exact .inl h
    · by_cases hb : bad = 0
      · rw [if_pos hb, List.length_drop]; exact .inr h
      · exact .inl hb
  · have hb : bad = 0 := by
      by_cases hb : bad = 0
      · exact hb
      · exact absurd (.inl hb) hno
    subst hb
    have hl : at_ < bs.length := by omega
    have hrd := h.rd
    rw [if_pos rfl, List.drop_eq_getElem_cons hl] at hrd
    refine ⟨bs.getD at_ 0, at_ + 1, 0, ?_, fun W hr => rbyte_ok W g2 _ bs at_ hr h.apart2' (by omega)⟩
    rw [if_pos rfl, show bs.getD at_ 0 = bs[at_] from by simp [List.getD_eq_getElem?_getD, hl]]
    exact byte_ok wi g T _ _ hrd h.apart

theorem bytes_two {w wi : World} {bs : List Nat} {g g2 : Nat} {T : Nat → Prop} {at_ : Nat} {bad : Int} (h : Two w bs g g2 T wi at_ bad) (n : Nat) :
    ∃ (l : List Nat) (at' : Nat) (bad' : Int), l.length ≤ 1000000 ∧
      (Calls Tryd.prog 21 #[.pointer (some ⟨g, 0, none⟩), .int .u64 n] wi fun e w' => ∃ A cap, e = .returned (.slice A l.length cap) ∧ View w' (fun b => wi.heap.size ≤ b) A l.length (u8s l) ∧ Rd w' g T (if bad' = 0 then bs.drop at' else []) bad' ∧ Chg (· = g) wi w') ∧
      ∀ W, RR W g2 (fun b => b < w.heap.size) bs at_ bad → Calls Tryd.prog 25 #[.pointer (some ⟨g2, 0, none⟩), .int .u64 n] W fun e w' => ∃ A cap, e = .returned (.slice A l.length cap) ∧ View w' (fun _ => True) A l.length (u8s l) ∧ RR w' g2 (fun b => b < w.heap.size) bs at' bad' ∧ Chg (· = g2) W w' := by
  by_cases hno : bad ≠ 0 ∨ bs.length - at_ < n
  · refine ⟨[], at_, badOf bad, by simp, ?_, fun W hr => (rbytes_no W g2 _ bs at_ bad n hr h.apart2' hno).mono fun e w' ⟨h1, h2, h3⟩ => ⟨none, 0, h1, View.none_ _ _ _, h2, h3⟩⟩
    rw [bad_keep]
    refine (bytes_no wi g T _ bad n h.rd ?_).mono fun e w' ⟨A, cap, h1, h2, h3⟩ => ⟨A, cap, h1, View.none_ _ _ _, h2, h3⟩
    rcases hno with h | h
    · exact .inl h
    · by_cases hb : bad = 0
      · rw [if_pos hb, List.length_drop]; exact .inr h
      · exact .inl hb
  · have hb : bad = 0 := by
      by_cases hb : bad = 0
      · exact hb
      · exact absurd (.inl hb) hno
    subst hb
    have hrd := h.rd
    rw [if_pos rfl] at hrd
    have hn : n ≤ bs.length - at_ := by omega
    have hlen : ((bs.drop at_).take n).length = n := by rw [List.length_take, List.length_drop]; omega
    have hm : bs.length ≤ 1000000 := by obtain ⟨_, _, _, _, _, h4, _⟩ := h.rr; exact h4
    refine ⟨(bs.drop at_).take n, at_ + n, 0, by rw [hlen]; omega, ?_, fun W hr => ?_⟩
    · rw [if_pos rfl, hlen]
      have := bytes_ok wi g T _ n hrd h.apart (by rw [List.length_drop]; exact hn)
      rw [List.drop_drop] at this
      exact this.mono fun e w' ⟨A, cap, h1, _, h2, h3, h4⟩ => ⟨A, cap, h1, h2, h3, h4⟩
    · rw [hlen]
      exact (rbytes_ok W g2 _ bs at_ n hr h.apart2' hn).mono fun e w' ⟨A, cap, h1, _, h2, h3, h4⟩ => ⟨A, cap, h1, h2.mono (fun _ _ _ => trivial), h3, h4⟩

theorem walk_reads_long (A B : Option Addr) (c d : Nat) (bs ks : List Nat) (n : Nat) (w : World) (hT : Tab w) (hl : 300 < bs.length ∨ 60 < ks.length) (hm : bs.length ≤ maxLen) (hm2 : ks.length ≤ maxLen) :
    Calls Tryd.prog 4 #[.slice A bs.length c, .slice B ks.length d, .int .u64 n] w fun e w' => e = .returned (.bool true) ∧ Chg none_ w w' := by
  have hl2 : 300 < bs.length ∨ (¬ 300 < bs.length ∧ 60 < ks.length) := by omega
  unfold maxLen at hm hm2
  clear hl
  rcases hl2 with h | ⟨h, h2⟩
  all_goals
    go_enter Tryd.func4, Tryd.ntmps4
    go_wp2_with (go_at_call 8; refine (alive_any _ hT).mono ?_; rintro e w1 ⟨rfl, hc⟩)
    go_ret
    exact ⟨rfl, hc⟩

set_option maxRecDepth 100000 in
set_option maxHeartbeats 2000000 in
theorem walk_reads (A B : Option Addr) (c d : Nat) (bs ks : List Nat) (n : Nat) (w : World) (hT : Tab w) (hl : bs.length ≤ 300) (hl2 : ks.length ≤ 60)
    (hv : View w (fun _ => True) A bs.length (u8s bs)) (hv2 : View w (fun _ => True) B ks.length (u8s ks)) (hbs : ∀ x ∈ bs, x < 256) (has : ∀ x ∈ ks, x < 256) (hcap : bs.length ≤ c) :
    Calls Tryd.prog 4 #[.slice A bs.length c, .slice B ks.length d, .int .u64 n] w fun e w' => e = .returned (.bool true) ∧ Chg none_ w w' := by
  have HT := Lib.hid hT
  have HV := Lib.hid hv
  have HV2 := Lib.hid hv2
  have HBS := Lib.hid hbs
  have HAS := Lib.hid has
  clear hT hv hv2 hbs has
  go_enter Tryd.func4, Tryd.ntmps4
  go_wp2_with fail
  refine (alive_any _ HT.out).mono ?_
  rintro e w1 ⟨rfl, hc⟩
  have C1 := Lib.hid hc
  clear hc
  go_wp2_with fail
  refine (fail_nil _ _).mono ?_
  rintro e w2 ⟨rfl, rfl⟩
  go_wp2_with fail
  refine (bad_nil _).mono ?_
  rintro e w2 ⟨rfl, rfl⟩
  go_wp2_with fail
  refine (left_nil _).mono ?_
  rintro e w2 ⟨rfl, rfl⟩
  go_wp2_with fail
  refine (int_nil _).mono ?_
  rintro e w2 ⟨rfl, rfl⟩
  go_wp2_with fail
  refine (byte_nil _).mono ?_
  rintro e w2 ⟨rfl, rfl⟩
  go_wp2_with fail
  refine (bytes_nil _ 1).mono ?_
  rintro e w2 ⟨A2, cap2, rfl, hc⟩
  have C2 := Lib.hid (C1.out.trans hc)
  clear hc
  go_wp2_with fail
  have hrd := read_any w2 _ A c bs (HV.out.chg C2.out (fun _ _ h => h)) (by omega)
  refine hrd.mono ?_
  rintro e w3 ⟨g, rfl, hg, hr, hc⟩
  have C3 := Lib.hid (C2.out.trans hc)
  have HR := Lib.hid hr
  have HG := Lib.hid hg
  have HGL := Lib.hid (show g < w3.heap.size from by obtain ⟨_, _, h1, _⟩ := hr; exact h1.lt)
  clear hr hc hg hrd
  go_wp2
  have hst : Two w bs g w3.heap.size (fun b => w2.heap.size ≤ b ∧ b ≠ g ∧ b < w3.heap.size) (w3.alloc (.cells #[.slice A bs.length c, .int .i64 0, .int .i64 0] 40)) 0 0 := by
    have h2 := C2.out.size
    have h3 := C3.out.size
    have h4 := HG.out
    have h5 := HGL.out
    have hr : Rd w3 g (fun b => w2.heap.size ≤ b ∧ b ≠ g ∧ b < w3.heap.size) bs 0 := by
      obtain ⟨A', cap', r1, r2, r3, r4, r5⟩ := HR.out
      exact ⟨A', cap', r1, r2, r3, r4.mono (fun b hb h => ⟨h.1, h.2, hb⟩), r5⟩
    refine ⟨C3.out.alloc _, ?_, ⟨A, c, Row.new w3 _ [_, _, _], hcap, Nat.zero_le _, by omega, ?_⟩, by omega, by omega, by omega, fun h => h.2.1 rfl, fun h => by have := h.2.2; omega, fun b h => by have := h.1; omega⟩
    · rw [if_pos rfl, List.drop_zero]
      exact hr.chg ((Chg.refl none_ w3).alloc _) (fun h => h) (fun _ _ h => h)
    · exact (HV.out.mono (T' := fun b => b < w.heap.size) (fun b hb _ => hb)).chg (C3.out.alloc _) (fun _ _ h => h)
  generalize w3.alloc (.cells #[.slice A bs.length c, .int .i64 0, .int .i64 0] 40) = w4 at hst ⊢
  generalize w3.heap.size = g2 at hst HGL ⊢
  generalize (fun b => w2.heap.size ≤ b ∧ b ≠ g ∧ b < g2) = T at hst
  have S4 := Lib.hid hst
  clear hst
  go_loopw [10] (fun i wr => ∃ (k at_ : Nat) (bad : Int), k ≤ ks.length ∧ i = .int .i64 k ∧ Hid (Two w bs g g2 T wr at_ bad)) (fun i _ => ks.length - (intOf i).toNat)
  case atStart => exact ⟨0, 0, 0, Nat.zero_le _, rfl, S4⟩
  case round =>
    obtain ⟨k, at_, bad, hk, rfl, HS⟩ := hrel
    by_cases hlt : k < ks.length
    · obtain ⟨b, o, rfl, hb, _, hcell⟩ := HV2.out.at_ hlt
      have hcr : wr.cell? ⟨b, o + k, none⟩ = some (.int .u8 ((ks.getD k 0 : Nat) : Int)) := (HS.out.chg.cell _ hb (fun h => h)).trans hcell
      have ha : ks.getD k 0 < 256 := by
        rw [show ks.getD k 0 = ks[k] from by simp [List.getD_eq_getElem?_getD, hlt]]
        exact HAS.out _ (List.getElem_mem hlt)
      generalize ks.getD k 0 = a at hcr ha
      have b1 : (0 : Int) ≤ (k : Int) := by omega
      have b2 : (k : Int) < (ks.length : Int) := by omega
      clear hcell
      have hcases : ((a : Int) % 5 == 0) = true ∨ (((a : Int) % 5 == 0) = false ∧ ((a : Int) % 5 == 1) = true) ∨ (((a : Int) % 5 == 0) = false ∧ ((a : Int) % 5 == 1) = false ∧ ((a : Int) % 5 == 2) = true) ∨ (((a : Int) % 5 == 0) = false ∧ ((a : Int) % 5 == 1) = false ∧ ((a : Int) % 5 == 2) = false ∧ ((a : Int) % 5 == 3) = true) ∨
          (((a : Int) % 5 == 0) = false ∧ ((a : Int) % 5 == 1) = false ∧ ((a : Int) % 5 == 2) = false ∧ ((a : Int) % 5 == 3) = false ∧ ((a : Int) % 5 == 4) = true) := by
        simp only [beq_iff_eq, beq_eq_false_iff_ne]
        omega
      rcases hcases with h0 | ⟨h0, h1⟩ | ⟨h0, h1, h2⟩ | ⟨h0, h1, h2, h3⟩ | ⟨h0, h1, h2, h3, h4⟩
      · obtain ⟨v, at', bad', h1, h2⟩ := int_two HS.out HBS.out
        have H1 := Lib.hid h1
        have H2 := Lib.hid h2
        clear h1 h2
        go_wp2_with fail
        refine H1.out.mono ?_
        rintro e wa ⟨rfl, r1, c1⟩
        have H3 := Lib.hid (H2.out wa (HS.out.rr1 c1))
        have R1 := Lib.hid r1
        have K1 := Lib.hid c1
        clear r1 c1
        go_wp2_with fail
        refine H3.out.mono ?_
        rintro e W ⟨rfl, r2, c2⟩
        have S := Lib.hid (HS.out.both K1.out R1.out c2 r2)
        clear r2 c2
        have hL := fun m => left_ok (W.drewN m) g T _ bad' ((S.out.step ((Chg.refl none_ W).drewN m)).rd)
        have hLR := fun m => rleft_any (W.drewN m) g2 _ bs at' bad' ((S.out.step ((Chg.refl none_ W).drewN m)).rr)
        have hB := fun m => bad_ok (W.drewN m) g T _ bad' ((S.out.step ((Chg.refl none_ W).drewN m)).rd)
        rw [two_left bs at' bad'] at hL
        have hcb : W.cell? ⟨g2, 2, none⟩ = some (.int .i64 bad') := by
          obtain ⟨_, _, h1, _⟩ := S.out.rr
          have := h1.cell 2
          simpa using this
        have HL := Lib.hid hL
        have HLR := Lib.hid hLR
        have HB := Lib.hid hB
        clear hL hLR hB
        go_wp2
        go_quiet ((first | (go_at_call 18; exact Calls.quiet_of_same ((HL.out _).mono fun _ _ h => ⟨h.1, h.2.symm⟩)) | (go_at_call 27; exact Calls.quiet_of (HLR.out _)) | (go_at_call 17; exact Calls.quiet_of_same ((HB.out _).mono fun _ _ h => ⟨h.1, h.2.symm⟩))))
        go_wp2
        go_roundw
        case rel => exact ⟨k + 1, at', bad', by omega, by go_num, S.out.step ((Chg.refl none_ W).drewN _)⟩
        case measure => simp [intOf]; omega
      · obtain ⟨v, at', bad', h1, h2⟩ := int_two HS.out HBS.out
        have H1 := Lib.hid h1
        have H2 := Lib.hid h2
        clear h1 h2
        go_wp2_with fail
        refine H1.out.mono ?_
        rintro e wa ⟨rfl, r1, c1⟩
        have H3 := Lib.hid (H2.out wa (HS.out.rr1 c1))
        have R1 := Lib.hid r1
        have K1 := Lib.hid c1
        clear r1 c1
        go_wp2_with fail
        refine H3.out.mono ?_
        rintro e W ⟨rfl, r2, c2⟩
        have S := Lib.hid (HS.out.both K1.out R1.out c2 r2)
        clear r2 c2
        have hL := fun m => left_ok (W.drewN m) g T _ bad' ((S.out.step ((Chg.refl none_ W).drewN m)).rd)
        have hLR := fun m => rleft_any (W.drewN m) g2 _ bs at' bad' ((S.out.step ((Chg.refl none_ W).drewN m)).rr)
        have hB := fun m => bad_ok (W.drewN m) g T _ bad' ((S.out.step ((Chg.refl none_ W).drewN m)).rd)
        rw [two_left bs at' bad'] at hL
        have hcb : W.cell? ⟨g2, 2, none⟩ = some (.int .i64 bad') := by
          obtain ⟨_, _, h1, _⟩ := S.out.rr
          have := h1.cell 2
          simpa using this
        have HL := Lib.hid hL
        have HLR := Lib.hid hLR
        have HB := Lib.hid hB
        clear hL hLR hB
        go_wp2
        go_quiet ((first | (go_at_call 18; exact Calls.quiet_of_same ((HL.out _).mono fun _ _ h => ⟨h.1, h.2.symm⟩)) | (go_at_call 27; exact Calls.quiet_of (HLR.out _)) | (go_at_call 17; exact Calls.quiet_of_same ((HB.out _).mono fun _ _ h => ⟨h.1, h.2.symm⟩))))
        go_wp2
        go_roundw
        case rel => exact ⟨k + 1, at', bad', by omega, by go_num, S.out.step ((Chg.refl none_ W).drewN _)⟩
        case measure => simp [intOf]; omega
      · obtain ⟨v, at', bad', h1, h2⟩ := byte_two HS.out
        have H1 := Lib.hid h1
        have H2 := Lib.hid h2
        clear h1 h2
        go_wp2_with fail
        refine H1.out.mono ?_
        rintro e wa ⟨rfl, r1, c1⟩
        have H3 := Lib.hid (H2.out wa (HS.out.rr1 c1))
        have R1 := Lib.hid r1
        have K1 := Lib.hid c1
        clear r1 c1
        go_wp2_with fail
        refine H3.out.mono ?_
        rintro e W ⟨rfl, r2, c2⟩
        have S := Lib.hid (HS.out.both K1.out R1.out c2 r2)
        clear r2 c2
        have hL := fun m => left_ok (W.drewN m) g T _ bad' ((S.out.step ((Chg.refl none_ W).drewN m)).rd)
        have hLR := fun m => rleft_any (W.drewN m) g2 _ bs at' bad' ((S.out.step ((Chg.refl none_ W).drewN m)).rr)
        have hB := fun m => bad_ok (W.drewN m) g T _ bad' ((S.out.step ((Chg.refl none_ W).drewN m)).rd)
        rw [two_left bs at' bad'] at hL
        have hcb : W.cell? ⟨g2, 2, none⟩ = some (.int .i64 bad') := by
          obtain ⟨_, _, h1, _⟩ := S.out.rr
          have := h1.cell 2
          simpa using this
        have HL := Lib.hid hL
        have HLR := Lib.hid hLR
        have HB := Lib.hid hB
        clear hL hLR hB
        go_wp2
        go_quiet ((first | (go_at_call 18; exact Calls.quiet_of_same ((HL.out _).mono fun _ _ h => ⟨h.1, h.2.symm⟩)) | (go_at_call 27; exact Calls.quiet_of (HLR.out _)) | (go_at_call 17; exact Calls.quiet_of_same ((HB.out _).mono fun _ _ h => ⟨h.1, h.2.symm⟩))))
        go_wp2
        go_roundw
        case rel => exact ⟨k + 1, at', bad', by omega, by go_num, S.out.step ((Chg.refl none_ W).drewN _)⟩
        case measure => simp [intOf]; omega
      · obtain ⟨l, at', bad', hlen, h5, h6⟩ := bytes_two HS.out n
        have HLEN := Lib.hid hlen
        have H1 := Lib.hid h5
        have H2 := Lib.hid h6
        clear h5 h6 hlen
        go_wp2_with fail
        refine H1.out.mono ?_
        rintro e wa ⟨A5, cap5, rfl, v5, r1, c1⟩
        have H3 := Lib.hid (H2.out wa (HS.out.rr1 c1))
        have R1 := Lib.hid r1
        have K1 := Lib.hid c1
        have V5 := Lib.hid v5
        clear r1 c1 v5
        go_wp2_with fail
        refine H3.out.mono ?_
        rintro e W0 ⟨A6, cap6, rfl, v6, r2, c2⟩
        have S0 := Lib.hid (HS.out.both K1.out R1.out c2 r2)
        have hgl : g2 < wr.heap.size := by obtain ⟨_, _, q, _⟩ := HS.out.rr; exact q.lt
        have HSM := Lib.hid (same_true W0 (fun b => wr.heap.size ≤ b) (fun _ => True) A5 A6 cap5 cap6 l (V5.out.chg c2 (fun b hb e => by omega)) v6 HLEN.out)
        clear r2 c2 v6 hgl
        go_wp2_with fail
        refine HSM.out.mono ?_
        rintro e w9 ⟨rfl, q, rfl⟩
        have S := Lib.hid (S0.out.step ((Chg.refl none_ W0).drewN q))
        generalize W0.drewN q = W at S ⊢
        have hL := fun m => left_ok (W.drewN m) g T _ bad' ((S.out.step ((Chg.refl none_ W).drewN m)).rd)
        have hLR := fun m => rleft_any (W.drewN m) g2 _ bs at' bad' ((S.out.step ((Chg.refl none_ W).drewN m)).rr)
        have hB := fun m => bad_ok (W.drewN m) g T _ bad' ((S.out.step ((Chg.refl none_ W).drewN m)).rd)
        rw [two_left bs at' bad'] at hL
        have hcb : W.cell? ⟨g2, 2, none⟩ = some (.int .i64 bad') := by
          obtain ⟨_, _, h1, _⟩ := S.out.rr
          have := h1.cell 2
          simpa using this
        have HL := Lib.hid hL
        have HLR := Lib.hid hLR
        have HB := Lib.hid hB
        clear hL hLR hB
        go_wp2
        go_quiet ((first | (go_at_call 18; exact Calls.quiet_of_same ((HL.out _).mono fun _ _ h => ⟨h.1, h.2.symm⟩)) | (go_at_call 27; exact Calls.quiet_of (HLR.out _)) | (go_at_call 17; exact Calls.quiet_of_same ((HB.out _).mono fun _ _ h => ⟨h.1, h.2.symm⟩))))
        go_wp2
        go_roundw
        case rel => exact ⟨k + 1, at', bad', by omega, by go_num, S.out.step ((Chg.refl none_ W).drewN _)⟩
        case measure => simp [intOf]; omega
      · by_cases h200 : 200 < a
        · have H1 := Lib.hid (fail_two HS.out)
          go_wp2_with fail
          refine H1.out.1.mono ?_
          rintro e wa ⟨rfl, r1, c1⟩
          have H3 := Lib.hid (H1.out.2 wa (HS.out.rr1 c1))
          have R1 := Lib.hid r1
          have K1 := Lib.hid c1
          clear r1 c1
          go_wp2_with fail
          refine H3.out.mono ?_
          rintro e W ⟨rfl, r2, c2⟩
          have S := Lib.hid (HS.out.both K1.out R1.out c2 r2)
          clear r2 c2 h200
          obtain ⟨bad', hbad⟩ : ∃ x, (if bad = 0 then (9 : Int) else bad) = x := ⟨_, rfl⟩
          obtain ⟨at', hat⟩ : ∃ x, at_ = x := ⟨_, rfl⟩
          rw [hbad, hat] at S
          clear hbad hat H1 H3 R1 K1
          have HF := Lib.hid (fail_no W g T _ bad' 0 S.out.rd (.inr rfl))
          go_wp2_with fail
          refine HF.out.mono ?_
          rintro e w8 ⟨rfl, rfl⟩
          have hL := fun m => left_ok (W.drewN m) g T _ bad' ((S.out.step ((Chg.refl none_ W).drewN m)).rd)
          have hLR := fun m => rleft_any (W.drewN m) g2 _ bs at' bad' ((S.out.step ((Chg.refl none_ W).drewN m)).rr)
          have hB := fun m => bad_ok (W.drewN m) g T _ bad' ((S.out.step ((Chg.refl none_ W).drewN m)).rd)
          rw [two_left bs at' bad'] at hL
          have hcb : W.cell? ⟨g2, 2, none⟩ = some (.int .i64 bad') := by
            obtain ⟨_, _, h1, _⟩ := S.out.rr
            have := h1.cell 2
            simpa using this
          have HL := Lib.hid hL
          have HLR := Lib.hid hLR
          have HB := Lib.hid hB
          clear hL hLR hB
          go_wp2
          go_quiet ((first | (go_at_call 18; exact Calls.quiet_of_same ((HL.out _).mono fun _ _ h => ⟨h.1, h.2.symm⟩)) | (go_at_call 27; exact Calls.quiet_of (HLR.out _)) | (go_at_call 17; exact Calls.quiet_of_same ((HB.out _).mono fun _ _ h => ⟨h.1, h.2.symm⟩))))
          go_wp2
          go_roundw
          case rel => exact ⟨k + 1, at', bad', by omega, by go_num, S.out.step ((Chg.refl none_ W).drewN _)⟩
          case measure => simp [intOf]; omega
        · have HF := Lib.hid (fail_no wr g T _ bad 0 HS.out.rd (.inr rfl))
          have S := HS
          obtain ⟨W, hW⟩ : ∃ x, wr = x := ⟨_, rfl⟩
          obtain ⟨bad', hbad⟩ : ∃ x, bad = x := ⟨_, rfl⟩
          obtain ⟨at', hat⟩ : ∃ x, at_ = x := ⟨_, rfl⟩
          rw [hW] at HF hcr S ⊢
          rw [hbad] at S
          rw [hat] at S
          clear hW hbad hat HS
          go_wp2_with fail
          refine HF.out.mono ?_
          rintro e w8 ⟨rfl, rfl⟩
          have hL := fun m => left_ok (W.drewN m) g T _ bad' ((S.out.step ((Chg.refl none_ W).drewN m)).rd)
          have hLR := fun m => rleft_any (W.drewN m) g2 _ bs at' bad' ((S.out.step ((Chg.refl none_ W).drewN m)).rr)
          have hB := fun m => bad_ok (W.drewN m) g T _ bad' ((S.out.step ((Chg.refl none_ W).drewN m)).rd)
          rw [two_left bs at' bad'] at hL
          have hcb : W.cell? ⟨g2, 2, none⟩ = some (.int .i64 bad') := by
            obtain ⟨_, _, h1, _⟩ := S.out.rr
            have := h1.cell 2
            simpa using this
          have HL := Lib.hid hL
          have HLR := Lib.hid hLR
          have HB := Lib.hid hB
          clear hL hLR hB
          go_wp2
          go_quiet ((first | (go_at_call 18; exact Calls.quiet_of_same ((HL.out _).mono fun _ _ h => ⟨h.1, h.2.symm⟩)) | (go_at_call 27; exact Calls.quiet_of (HLR.out _)) | (go_at_call 17; exact Calls.quiet_of_same ((HB.out _).mono fun _ _ h => ⟨h.1, h.2.symm⟩))))
          go_wp2
          go_roundw
          case rel => exact ⟨k + 1, at', bad', by omega, by go_num, S.out.step ((Chg.refl none_ W).drewN _)⟩
          case measure => simp [intOf]; omega

    · have hkl : ¬ (k : Int) < (ks.length : Int) := by omega
      go_wp2
      go_ret
      exact ⟨rfl, HS.out.chg⟩

theorem walk_VarintReads (a0 : Option Addr) (len0 cap0 : Nat) (z0 : List Int) (a1 : Option Addr) (len1 cap1 : Nat) (z1 : List Int) (a2 : Int) (w : World) (w0 : IsRow .u8 w a0 len0 cap0 z0) (w1 : IsRow .u8 w a1 len1 cap1 z1) (w2 : (Lit.int .u64 a2).wf = true) (hT : Tab w) :
    Calls Tryd.prog 4 #[.slice a0 len0 cap0, .slice a1 len1 cap1, .int .u64 a2] w fun e w' => e = .returned (.bool true) ∧ Chg none_ w w' := by
  obtain ⟨n, rfl⟩ := nat_of_wf w2 rfl
  obtain ⟨bs, rfl, h1, h2, h256, hv⟩ := w0.u8
  obtain ⟨ks, rfl, k1, k2, k256, hv2⟩ := w1.u8
  by_cases hl : 300 < bs.length ∨ 60 < ks.length
  · exact walk_reads_long a0 a1 cap0 cap1 bs ks n w hT hl (Nat.le_trans h1 h2) (Nat.le_trans k1 k2)
  · exact walk_reads a0 a1 cap0 cap1 bs ks n w hT (by omega) (by omega) hv hv2 h256 k256 h1
end Go.Proofs.YtpandcmfpohgkaaDoor
