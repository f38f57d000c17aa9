/- Layer 6 (hframe): a frame's own bytes are taken to their place. -/
import Derived.Test.YtcdnjeojgjakdaaDoorV6Has
import Derived.Test.YtcdnjeojgjakdaaDoorV6Rd
import Derived.Maps.AppendAt
namespace Go.Proofs.YtcdnjeojgjakdaaDoor
open Go.RowKit

theorem cells_new (w : World) (cs : List Value) (t : TypeId) : ∀ j u, cs[j]? = some u → (w.alloc (.cells cs.toArray t)).cell? ((⟨w.heap.size, 0, none⟩ : Addr).add j) = some u := by
  intro j u hj
  rw [addr_add, (Row.new w t cs).cell]
  simpa using hj
theorem ownsRow_chg {w w' : World} {S : Nat → Prop} {base size n : Nat} {e : TypeId} {v : Value} {xs : List Value} (h : w.ownsRow base e size v n xs) (hc : Chg S w w') (hs : ∀ b, base ≤ b → ¬ S b) : w'.ownsRow base e size v n xs := by
  refine ⟨h.1, ?_⟩
  rcases h.2 with h2 | ⟨g, cap, cur, h1, h2, h3, h4⟩
  · exact .inl h2
  · exact .inr ⟨g, cap, cur, h1, h2, (hc.block g (Array.getElem?_eq_some_iff.1 h3).1 (hs g h2)).trans h3, h4⟩
/-- A slice of the call's own, whatever an element's cells. -/
theorem view_ownN {w : World} {base size n : Nat} {e : TypeId} {v : Value} {xs : List Value} (h : w.ownsRow base e size v n xs) : ∃ A cap, v = .slice A n cap ∧ n ≤ cap ∧ cap ≤ maxLen ∧ View w (fun b => base ≤ b) A (n * size) xs := by
  rcases h.2 with ⟨rfl, rfl⟩ | ⟨g, cap, cur, rfl, hb, hh, hnc, hm, hs, ht⟩
  · have hx : xs = [] := List.eq_nil_of_length_eq_zero (by simpa using h.1)
    subst hx
    exact ⟨none, 0, rfl, Nat.le_refl _, Nat.zero_le _, by rw [Nat.zero_mul]; exact View.none_ w _ none⟩
  · refine ⟨_, _, rfl, hnc, hm, h.1, fun hn => ⟨g, 0, rfl, (Array.getElem?_eq_some_iff.1 hh).1, hb, fun j hj => ?_⟩⟩
    rw [cell_of_row w g (0 + j) _ _ _ hh, ← ht, List.getElem?_take, if_pos (by omega)]
    simp
theorem infoS : (Tryd.prog.info? 49).map (fun i => (i.zero, i.size, i.bytes)) = some (some (.agg #[.int .u64 0, .int .u64 0]), 2, 16) := by kernel_rfl

/-- The frame in block g, with what is taken. -/
def TakePost (k : KK) (own : List Nat) (f : Hf) (w : World) (g : Nat) (e : Ending) (w' : World) : Prop :=
  ∃ ss sd, e = .returned (.bool (takeK k own f).2) ∧ Row w' g 26 (cellsH (takeK k own f).1 ss sd) ∧ HfD w' (fun b => w.heap.size ≤ b) (takeK k own f).1 ss sd ∧ Chg (· = g) w w'

section
variable (kd : Int) (own : List Nat) (A : Option Addr) (c : Nat) (w : World) (T : Nat → Prop) (g : Nat)
theorem takeData_any (hr : Row w g 26 (cellsH { kind := kd } (.slice none 0 0) (.slice none 0 0))) (hv : View w T A own.length (u8s own)) (hl : own.length ≤ 1000000) :
    Calls Tryd.prog 46 #[.pointer (some ⟨g, 0, none⟩), .slice A own.length c] w (TakePost .data own { kind := kd } w g) := by
  have HR := Lib.hid hr
  have HC := Lib.hid (clone_any w T A c own hv hl)
  clear hr hv
  go_enter Tryd.func46, Tryd.ntmps46
  go_wp2_with fail
  refine HC.out.mono ?_
  rintro e w1 ⟨A1, c1, rfl, h1, _, hv1, hc1⟩
  have hr1 := HR.out.chg hc1 (fun h => h)
  have k3 : w1.cell? ⟨g, 3, none⟩ = some (.slice none 0 0) := hr1.cell 3
  have hf3 := hr1.frozen 3
  have HR1 := Lib.hid hr1
  have HV1 := Lib.hid hv1
  have HC1 := Lib.hid hc1
  clear hr1 hv1 hc1
  go_wp2
  go_ret
  refine ⟨.slice none 0 0, .slice A1 own.length c1, rfl, HR1.out.set 3 _, ⟨⟨none, 0, rfl, ⟨Nat.zero_le _, Nat.zero_le _⟩, View.none_ _ _ _⟩, ⟨A1, c1, rfl, ⟨hl, h1⟩, ?_⟩⟩, (HC1.out.mono (fun _ _ h => h.elim)).trans ((Chg.refl (· = g) w1).setCell (p := ⟨g, 3, none⟩) (fun _ => rfl) _)⟩
  exact HV1.out.setCell _ (fun h => by have := HR.out.lt; have h2 : w.heap.size ≤ g := h; omega) _

theorem takeId_any (hr : Row w g 26 (cellsH { kind := kd } (.slice none 0 0) (.slice none 0 0))) (hv : View w T A own.length (u8s own)) (hl : own.length ≤ 1000000) (hx : ∀ x ∈ own, x < 256) :
    Calls Tryd.prog 49 #[.pointer (some ⟨g, 0, none⟩), .slice A own.length c] w (TakePost .id own { kind := kd } w g) := by
  have HR := Lib.hid hr
  have HRD := Lib.hid (read_mine w T A c own hv hl hx)
  clear hr hv
  go_enter Tryd.func49, Tryd.ntmps49
  go_wp2_with fail
  refine HRD.out.mono ?_
  rintro e w1 ⟨r, rfl, m1⟩
  have M1 := Lib.hid m1
  clear m1 HRD
  go_wp2_with fail
  refine (int_mine M1.out).mono ?_
  rintro e w2 ⟨rfl, m2, _⟩
  have HE : Hid (takeK .id own { kind := kd } = ({ kind := kd, id := (rdInt (own, 0)).1 }, decide ((rdInt (own, 0)).2.2 = 0 ∧ (rdInt (own, 0)).2.1 = []))) := rfl
  generalize rdInt (own, 0) = q at *
  have hr2 := HR.out.chg m2.chg (fun h => h)
  have k1 : w2.cell? ⟨g, 1, none⟩ = some (.int .u64 0) := hr2.cell 1
  have hf1 := hr2.frozen 1
  have hne : r ≠ g := by have := m2.new; have := HR.out.lt; omega
  have M2 : Hid (Mine w r w2 q.2) := m2
  have HR2 := Lib.hid hr2
  have HNE := Lib.hid hne
  clear hr2 m2 M1 hne
  have HD : Hid (Chg (· = g) w2 (w2.setCell ⟨g, 1, none⟩ (.int .u64 q.1))) := (Chg.refl (· = g) w2).setCell (p := ⟨g, 1, none⟩) (fun _ => rfl) _
  have HRS : Hid (RdS (w2.setCell ⟨g, 1, none⟩ (.int .u64 q.1)) r (fun b => w.heap.size ≤ b ∧ b ≠ r) q.2) := M2.out.rd.chg HD.out HNE.out (fun b hb e => by have : b = g := e; have := HR.out.lt; have := hb.1; omega)
  by_cases hb : q.2.2 = 0
  · have hbz : (q.2.2 == 0) = true := by simpa using hb
    have HBZ := Lib.hid hb
    clear hb
    go_wp2_with (first | (go_at_call 43; refine (badS_any _ r _ q.2 HRS.out).mono ?_; rintro e w' ⟨rfl, rfl⟩) | (go_at_call 40; refine (leftS_any _ r _ q.2 HRS.out).mono ?_; rintro e w' ⟨rfl, rfl⟩))
    go_ret
    unfold TakePost
    rw [HE.out]
    refine ⟨.slice none 0 0, .slice none 0 0, ret_bool ?_, HR2.out.set 1 _, ⟨⟨none, 0, rfl, ⟨Nat.zero_le _, Nat.zero_le _⟩, View.none_ _ _ _⟩, ⟨none, 0, rfl, ⟨Nat.zero_le _, Nat.zero_le _⟩, View.none_ _ _ _⟩⟩, (M2.out.chg.mono (fun _ _ h => h.elim)).trans HD.out⟩
    rw [Bool.eq_iff_iff]
    simp [HBZ.out]
  · have hbz : (q.2.2 == 0) = false := by simpa using hb
    have HBZ := Lib.hid hb
    clear hb
    go_wp2_with (first | (go_at_call 43; refine (badS_any _ r _ q.2 HRS.out).mono ?_; rintro e w' ⟨rfl, rfl⟩) | (go_at_call 40; refine (leftS_any _ r _ q.2 HRS.out).mono ?_; rintro e w' ⟨rfl, rfl⟩))
    go_ret
    unfold TakePost
    rw [HE.out]
    refine ⟨.slice none 0 0, .slice none 0 0, ret_bool ?_, HR2.out.set 1 _, ⟨⟨none, 0, rfl, ⟨Nat.zero_le _, Nat.zero_le _⟩, View.none_ _ _ _⟩, ⟨none, 0, rfl, ⟨Nat.zero_le _, Nat.zero_le _⟩, View.none_ _ _ _⟩⟩, (M2.out.chg.mono (fun _ _ h => h.elim)).trans HD.out⟩
    rw [eq_comm, decide_eq_false_iff_not]
    exact fun h => HBZ.out h.1

/-- The settings so far, in a frame, in a row of their own. -/
def SetsAt (w : World) (g B : Nat) (kd : Int) (l : List (Nat × Nat)) : Prop :=
  ∃ ss, Row w g 26 (cellsH { kind := kd, sets := l } ss (.slice none 0 0)) ∧ w.ownsRow B 49 2 ss l.length (rcells l)
/-- How many settings a frame has, in memory. -/
def setsLen (w : World) (g : Nat) : Nat := match w.cell? ⟨g, 2, none⟩ with | some (.slice _ n _) => n | _ => 0
theorem SetsAt.len {w : World} {g B : Nat} {kd : Int} {l : List (Nat × Nat)} (h : SetsAt w g B kd l) : setsLen w g = l.length := by
  obtain ⟨ss, h1, h2⟩ := h
  obtain ⟨A, cap, rfl, _⟩ := view_ownN h2
  have : w.cell? ⟨g, 2, none⟩ = some (.slice A l.length cap) := h1.cell 2
  unfold setsLen; rw [this]
theorem SetsAt.chg {w w' : World} {S : Nat → Prop} {g B : Nat} {kd : Int} {l : List (Nat × Nat)} (h : SetsAt w g B kd l) (hc : Chg S w w') (hg : ¬ S g) (hs : ∀ b, B ≤ b → ¬ S b) : SetsAt w' g B kd l := by
  obtain ⟨ss, h1, h2⟩ := h
  exact ⟨ss, h1.chg hc hg, ownsRow_chg h2 hc hs⟩
theorem RdS.mono {w : World} {g : Nat} {T T' : Nat → Prop} {s : St} (h : RdS w g T s) (hs : ∀ b, b < w.heap.size → T b → T' b) : RdS w g T' s := by
  obtain ⟨⟨A, cap, h1, h2, h3, h4, h5⟩, h6⟩ := h
  exact ⟨⟨A, cap, h1, h2, h3, h4.mono hs, h5⟩, h6⟩
theorem takeS_stop (n : Nat) (l : List (Nat × Nat)) (s : St) (h : s.1 = []) : takeS n l s = (l, s) := by
  cases n with
  | zero => rfl
  | succ n => unfold takeS; rw [if_pos h]
theorem takeS_on (n : Nat) (l : List (Nat × Nat)) (s : St) (h : s.1 ≠ []) : takeS (n + 1) l s = takeS n (l ++ [((rdInt s).1, (rdInt (rdInt s).2).1)]) (rdInt (rdInt s).2).2 := by
  conv => lhs; unfold takeS
  rw [if_neg h]

set_option maxRecDepth 100000 in
set_option maxHeartbeats 2000000 in
theorem takeSettings_any (hr : Row w g 26 (cellsH { kind := kd } (.slice none 0 0) (.slice none 0 0))) (hv : View w T A own.length (u8s own)) (hl : own.length ≤ 1000000) (hx : ∀ x ∈ own, x < 256) :
    Calls Tryd.prog 52 #[.pointer (some ⟨g, 0, none⟩), .slice A own.length c] w (TakePost .sets own { kind := kd } w g) := by
  obtain ⟨i0, hinf, hi0, hi1, hi2⟩ := info_parts infoS
  have HR := Lib.hid hr
  have HRD := Lib.hid (read_mine w T A c own hv hl hx)
  clear hr hv
  go_enter Tryd.func52, Tryd.ntmps52
  go_wp2_with fail
  refine HRD.out.mono ?_
  rintro e w1 ⟨r, rfl, m1⟩
  have HG : Hid (g < w.heap.size ∧ w.heap.size ≤ r ∧ r < w1.heap.size ∧ w.heap.size ≤ w1.heap.size) := ⟨HR.out.lt, m1.new, m1.rd.lt, m1.chg.size⟩
  have S0 : SetsAt w1 g w1.heap.size kd [] := ⟨.slice none 0 0, HR.out.chg m1.chg (fun h => h), World.ownsRow_nil _ _ _ _⟩
  have R0 : RdS w1 r (fun b => w.heap.size ≤ b ∧ b ≠ r ∧ b < w1.heap.size) (own, 0) := m1.rd.mono (fun b hb h => ⟨h.1, h.2, hb⟩)
  have HC1 := Lib.hid m1.chg
  clear m1 HRD
  go_wp2_with fail
  go_loopw [10] (fun _ wr => ∃ (l : List (Nat × Nat)) (s : St), l.length ≤ 17 ∧ SetsAt wr g w1.heap.size kd l ∧ RdS wr r (fun b => w.heap.size ≤ b ∧ b ≠ r ∧ b < w1.heap.size) s ∧ Chg (fun b => b = g ∨ b = r) w1 wr ∧ Hid (takeS 17 [] (own, 0) = takeS (17 - l.length) l s)) (fun _ wr => 17 - setsLen wr g)
  case atStart => exact ⟨[], (own, 0), by simp, S0, R0, Chg.refl _ _, rfl⟩
  case round =>
    obtain ⟨l, s, hll, hsa, hrd, hch, heq⟩ := hrel
    clear S0 R0
    have hlen := hsa.len
    have hsa' := hsa
    obtain ⟨ss, hrow, hown⟩ := hsa'
    obtain ⟨A1, cap1, rfl, hnc, hmc, hvw⟩ := view_ownN hown
    have k2 : wr.cell? ⟨g, 2, none⟩ = some (.slice A1 l.length cap1) := hrow.cell 2
    have HROW := Lib.hid hrow
    have HOWN := Lib.hid hown
    have HVW := Lib.hid hvw
    have HLEN := Lib.hid hlen
    have HCH := Lib.hid hch
    have HRDS := Lib.hid hrd
    have HSA := Lib.hid hsa
    clear hrow hown hvw hlen hch hrd hsa
    by_cases hs : s.1 = []
    · have hz : s.1.length = 0 := by rw [hs]; rfl
      have hz1 : ¬ (0 : Int) < (s.1.length : Int) := by omega
      have HE := Lib.hid ((heq.out).trans (takeS_stop _ l s hs))
      clear hs hz heq
      go_wp2_with (first | (go_at_call 40; refine (leftS_any _ r _ s HRDS.out).mono ?_; rintro e w' ⟨rfl, rfl⟩) | (go_at_call 43; refine (badS_any _ r _ s HRDS.out).mono ?_; rintro e w' ⟨rfl, rfl⟩))
      go_ret
      unfold TakePost
      have hk : takeK .sets own { kind := kd } = ({ kind := kd, sets := l }, decide (s.2 = 0)) := by
        show (({ kind := kd, sets := (takeS 17 [] (own, 0)).1 } : Hf), decide ((takeS 17 [] (own, 0)).2.2 = 0)) = _
        rw [HE.out]
      rw [hk]
      refine ⟨.slice A1 l.length cap1, .slice none 0 0, ret_bool ?_, HROW.out, ⟨⟨A1, cap1, rfl, ⟨by show l.length ≤ _; omega, hnc⟩, ?_⟩, ⟨none, 0, rfl, ⟨Nat.zero_le _, Nat.zero_le _⟩, View.none_ _ _ _⟩⟩, ?_⟩
      · rw [Bool.eq_iff_iff]; simp
      · rw [Nat.mul_comm]
        exact HVW.out.mono (fun b _ h => Nat.le_trans HG.out.2.2.2 h)
      · exact (HC1.out.mono (fun _ _ h => h.elim)).andThen HCH.out (fun b hb h => by rcases h with h | h; exact h; have := HG.out; omega)
    · have hz1 : (0 : Int) < (s.1.length : Int) := by have := List.length_pos_iff.2 hs; omega
      by_cases h17 : l.length = 17
      · have h17' : ¬ (l.length : Int) ≤ 16 := by omega
        have HE : Hid (takeS 17 [] (own, 0) = (l, s)) := by
          have h1 := heq.out
          rw [h17] at h1
          exact h1
        clear heq h17 hs
        go_wp2_with (first | (go_at_call 40; refine (leftS_any _ r _ s HRDS.out).mono ?_; rintro e w' ⟨rfl, rfl⟩) | (go_at_call 43; refine (badS_any _ r _ s HRDS.out).mono ?_; rintro e w' ⟨rfl, rfl⟩))
        go_ret
        unfold TakePost
        have hk : takeK .sets own { kind := kd } = ({ kind := kd, sets := l }, decide (s.2 = 0)) := by
          show (({ kind := kd, sets := (takeS 17 [] (own, 0)).1 } : Hf), decide ((takeS 17 [] (own, 0)).2.2 = 0)) = _
          rw [HE.out]
        rw [hk]
        refine ⟨.slice A1 l.length cap1, .slice none 0 0, ret_bool ?_, HROW.out, ⟨⟨A1, cap1, rfl, ⟨by show l.length ≤ _; omega, hnc⟩, ?_⟩, ⟨none, 0, rfl, ⟨Nat.zero_le _, Nat.zero_le _⟩, View.none_ _ _ _⟩⟩, ?_⟩
        · rw [Bool.eq_iff_iff]; simp
        · rw [Nat.mul_comm]
          exact HVW.out.mono (fun b _ h => Nat.le_trans HG.out.2.2.2 h)
        · exact (HC1.out.mono (fun _ _ h => h.elim)).andThen HCH.out (fun b hb h => by rcases h with h | h; exact h; have := HG.out; omega)
      · have h16 : (l.length : Int) ≤ 16 := by omega
        have HE : Hid (takeS 17 [] (own, 0) = takeS (17 - (l.length + 1)) (l ++ [((rdInt s).1, (rdInt (rdInt s).2).1)]) (rdInt (rdInt s).2).2) := by
          have h1 := heq.out
          rw [show 17 - l.length = (17 - (l.length + 1)) + 1 from by omega, takeS_on _ l s hs] at h1
          exact h1
        clear heq hs h17
        have HI := Lib.hid (int_any wr r _ s HRDS.out (fun h => h.2.1 rfl))
        go_wp2_with (first | (go_at_call 40; refine (leftS_any _ r _ s HRDS.out).mono ?_; rintro e w' ⟨rfl, rfl⟩))
        refine HI.out.mono ?_
        rintro e w2 ⟨rfl, h2, c2⟩
        have HI2 := Lib.hid (int_any w2 r _ _ h2 (fun h => h.2.1 rfl))
        have HQ1 := Lib.hid (rdInt_lt s HRDS.out.2)
        have HQ2 := Lib.hid (rdInt_lt _ h2.2)
        have HC2 := Lib.hid c2
        clear h2 c2 HI
        go_wp2_with fail
        refine HI2.out.mono ?_
        rintro e w3 ⟨rfl, h3, c3⟩
        have hc3 := HC2.out.trans c3
        have hgr : g ≠ r := by have := HG.out; omega
        have hrow3 := HROW.out.chg hc3 hgr
        have k3 : w3.cell? ⟨g, 2, none⟩ = some (.slice A1 l.length cap1) := hrow3.cell 2
        have HOWN3 := Lib.hid (ownsRow_chg HOWN.out hc3 (fun b hb e => by have : b = r := e; have := HG.out; omega))
        have HROW3 := Lib.hid hrow3
        have HR3 := Lib.hid h3
        have HC3 := Lib.hid (HCH.out.trans (hc3.mono (fun _ _ h => Or.inr h)))
        have HB3 : Hid (w1.heap.size ≤ w3.heap.size) := HC3.out.size
        clear HI2 HC2 h3 c3 hc3 hgr hrow3 k2
        generalize (rdInt (rdInt s).2).2 = s3 at *
        generalize (rdInt (rdInt s).2).1 = x2 at *
        generalize (rdInt s).1 = x1 at *
        have hl17 : l.length ≤ 16 := by omega
        go_wp2_with (at_builtin; refine wpList_append_own_at _ rfl _ _ 23 rfl w1.heap.size 49 i0 _ 2 16 Tryd.underlying23 hinf hi0 hi1 hi2 rfl (by omega) (.slice A1 l.length cap1) l.length (rcells l) rfl (ownsRow_chg HOWN3.out ((Chg.refl none_ w3).alloc (.cells [.int .u64 (x1 : Int), .int .u64 (x2 : Int)].toArray 49)) (fun _ _ h => h)) ⟨w3.heap.size, 0, none⟩ 1 1 [.int .u64 (x1 : Int), .int .u64 (x2 : Int)] rfl rfl (cells_new w3 _ _) (by intro u hu; simp at hu; rcases hu with rfl | rfl <;> rfl) (by unfold maxLen; omega) (by omega) (by have := HB3.out; simp; omega) ?_; intro v' w4 hown4 hgrow4 _ _; have hchg : Chg (fun k => w1.heap.size ≤ k) w3 w4 := ((Chg.refl (fun k => w1.heap.size ≤ k) w3).alloc _).grown hgrow4 (fun k hk _ => (HOWN3.out.lt k hk).1); have hrow4 := HROW3.out.chg hchg (fun h => by have h5 : w1.heap.size ≤ g := h; have := HG.out; omega); have k4 : w4.cell? ⟨g, 2, none⟩ = some (.slice A1 l.length cap1) := hrow4.cell 2; have hz4 := hrow4.frozen 2; obtain ⟨A4, cap4, rfl, g1, g2, hv4⟩ := view_ownN hown4)
        have hch5 : Chg (· = g) w4 (w4.setCell ⟨g, 2, none⟩ (.slice A4 (l.length + 1) cap4)) := (Chg.refl (· = g) _).setCell (p := ⟨g, 2, none⟩) (fun _ => rfl) _
        have hrow5 := hrow4.set 2 (.slice A4 (l.length + 1) cap4)
        have hown5 := ownsRow_chg hown4 hch5 (fun b hb e => by have h5 : b = g := e; have := HG.out; omega)
        have hrd5 := (HR3.out.chg hchg (fun h => by have h5 : w1.heap.size ≤ r := h; have := HG.out; omega) (fun b hb h => by have h5 : w1.heap.size ≤ b := h; have := hb.2.2; omega)).chg hch5 (fun e => by have h5 : r = g := e; have := HG.out; omega) (fun b hb e => by have h5 : b = g := e; have := HG.out; have := hb.1; omega)
        have hsa5 : SetsAt (w4.setCell ⟨g, 2, none⟩ (.slice A4 (l.length + 1) cap4)) g w1.heap.size kd (l ++ [(x1, x2)]) := by
          refine ⟨.slice A4 (l.length + 1) cap4, hrow5, ?_⟩
          rw [rcells_append, List.length_append]
          exact hown5
        have hch6 : Chg (fun b => b = g ∨ b = r) w1 (w4.setCell ⟨g, 2, none⟩ (.slice A4 (l.length + 1) cap4)) := (HC3.out.andThen hchg (fun b hb h => by have h5 : w1.heap.size ≤ b := h; omega)).trans (hch5.mono (fun _ _ h => Or.inl h))
        go_roundw
        case rel =>
          refine ⟨l ++ [(x1, x2)], s3, by simp; omega, hsa5, hrd5, hch6, ?_⟩
          rw [List.length_append]
          exact HE.out
        case measure =>
          rw [hsa5.len, HLEN.out]
          simp
          omega
theorem takeK_any (k : KK) (hr : Row w g 26 (cellsH { kind := kd } (.slice none 0 0) (.slice none 0 0))) (hv : View w T A own.length (u8s own)) (hl : own.length ≤ 1000000) (hx : ∀ x ∈ own, x < 256) :
    Calls Tryd.prog (takeFn k) #[.pointer (some ⟨g, 0, none⟩), .slice A own.length c] w (TakePost k own { kind := kd } w g) := by
  cases k
  · exact takeData_any kd own A c w T g hr hv hl
  · exact takeId_any kd own A c w T g hr hv hl hx
  · exact takeSettings_any kd own A c w T g hr hv hl hx
end
end Go.Proofs.YtcdnjeojgjakdaaDoor
