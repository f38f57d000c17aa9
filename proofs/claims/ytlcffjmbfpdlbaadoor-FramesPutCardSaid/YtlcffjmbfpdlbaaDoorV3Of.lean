/- Layer 3 (frames): lists of parts. -/
import Derived.Test.YtlcffjmbfpdlbaaDoorV3Parts
namespace Go.Proofs.YtlcffjmbfpdlbaaDoor
open Go.RowKit

/-- These cells, three each, are those parts. -/
def PartsAre (w : World) (T : Nat → Prop) (ps : List Part) (cs : List Value) : Prop :=
  cs.length = 3 * ps.length ∧ ∀ i (h : i < ps.length), PartIs w T ps[i] ((cs.drop (3 * i)).take 3)

theorem PartIs.three {w : World} {T : Nat → Prop} {p : Part} {cs : List Value} (h : PartIs w T p cs) : ∃ a b c, cs = [a, b, c] ∧ (∀ u ∈ cs, u.oneCell' = true) := by
  cases p
  case id => obtain ⟨g, _, _, rfl⟩ := h; exact ⟨_, _, _, rfl, by simp [clo, Value.oneCell']⟩
  case amount => obtain ⟨g, _, _, rfl⟩ := h; exact ⟨_, _, _, rfl, by simp [clo, Value.oneCell']⟩
  case code => obtain ⟨g, _, _, rfl⟩ := h; exact ⟨_, _, _, rfl, by simp [clo, Value.oneCell']⟩
  case counted => obtain ⟨g, k, _, _, _, _, rfl⟩ := h; exact ⟨_, _, _, rfl, by simp [clo, fnv, Value.oneCell']⟩
  case shortly => obtain ⟨g, k, _, _, _, _, rfl⟩ := h; exact ⟨_, _, _, rfl, by simp [clo, fnv, Value.oneCell']⟩
  case challenge => obtain ⟨g, k, _, _, _, _, rfl⟩ := h; exact ⟨_, _, _, rfl, by simp [clo, fnv, Value.oneCell']⟩
  case allLeft => obtain ⟨g, k, _, _, _, _, rfl⟩ := h; exact ⟨_, _, _, rfl, by simp [clo, fnv, Value.oneCell']⟩
  case token => obtain rfl := h; exact ⟨_, _, _, rfl, by simp [fnv, Value.oneCell']⟩
  case zeros => obtain rfl := h; exact ⟨_, _, _, rfl, by simp [fnv, Value.oneCell']⟩
  case acked => obtain rfl := h; exact ⟨_, _, _, rfl, by simp [fnv, Value.oneCell']⟩
  case dropped => obtain rfl := h; exact ⟨_, _, _, rfl, by simp [fnv, Value.oneCell']⟩

theorem PartsAre.nil (w : World) (T : Nat → Prop) : PartsAre w T [] [] := ⟨rfl, fun i h => absurd h (by simp)⟩
theorem PartsAre.snoc {w : World} {T : Nat → Prop} {ps : List Part} {cs c : List Value} {p : Part} (h : PartsAre w T ps cs) (hp : PartIs w T p c) : PartsAre w T (ps ++ [p]) (cs ++ c) := by
  obtain ⟨x, y, z, hc, _⟩ := hp.three
  refine ⟨by rw [List.length_append, h.1, hc]; simp; omega, fun i hi => ?_⟩
  rcases Nat.lt_or_ge i ps.length with hlt | hge
  · rw [List.getElem_append_left hlt]
    have := h.2 i hlt
    rw [List.drop_append, List.take_append_of_le_length]
    · have : 3 * i ≤ cs.length := by rw [h.1]; omega
      exact h.2 i hlt
    · rw [List.length_drop, h.1]; omega
  · have hi2 : i = ps.length := by simp at hi; omega
    subst hi2
    simp only [List.getElem_concat_length]
    rw [← h.1, List.drop_left, List.take_of_length_le (by rw [hc]; simp)]
    exact hp
theorem PartsAre.chg {w w' : World} {T S : Nat → Prop} {ps : List Part} {cs : List Value} (h : PartsAre w T ps cs) (hc : Chg S w w') (hs : ∀ b, T b → ¬ S b) : PartsAre w' T ps cs :=
  ⟨h.1, fun i hi => (h.2 i hi).chg hc hs⟩
theorem PartsAre.mono {w : World} {T T' : Nat → Prop} {ps : List Part} {cs : List Value} (h : PartsAre w T ps cs) (hs : ∀ b, b < w.heap.size → T b → T' b) : PartsAre w T' ps cs :=
  ⟨h.1, fun i hi => (h.2 i hi).mono hs⟩
theorem PartsAre.one {w : World} {T : Nat → Prop} {p : Part} {c : List Value} (hp : PartIs w T p c) : PartsAre w T [p] c := by
  have := (PartsAre.nil w T).snoc hp
  simpa using this

/-- Blocks that parts lie in are none that holds parts. -/
def notParts (w : World) (T : Nat → Prop) : Nat → Prop := fun b => T b ∧ ∀ cs fr, w.heap[b]? ≠ some (.cells cs 53 fr)
theorem PartIs.notParts {w : World} {T : Nat → Prop} {p : Part} {cs : List Value} (h : PartIs w T p cs) : PartIs w (notParts w T) p cs := by
  have hr : ∀ g e cs, Row w g e cs → e ≠ 53 → ∀ cs' fr, w.heap[g]? ≠ some (.cells cs' 53 fr) := by
    intro g e cs h he cs' fr h2
    unfold Row at h
    rw [h] at h2
    injection h2 with h2
    injection h2 with _ h3 _
    exact he h3
  have h1 : ∀ p, IntPart w T p cs → IntPart w (Proofs.YtlcffjmbfpdlbaaDoor.notParts w T) p cs := fun p ⟨g, a, b, c⟩ => ⟨g, ⟨a, hr _ _ _ b (by decide)⟩, b, c⟩
  have h2 : ∀ p, DataPart w T p cs → DataPart w (Proofs.YtlcffjmbfpdlbaaDoor.notParts w T) p cs := fun p ⟨g, k, a, b, c, d, e⟩ => ⟨g, k, ⟨a, hr _ _ _ c (by decide)⟩, ⟨b, hr _ _ _ d (by decide)⟩, c, d, e⟩
  cases p <;> first | exact h1 _ h | exact h2 _ h | exact h
/-- A slice of parts grows: the parts stand. -/
theorem PartIs.grown {w w' : World} {T : Nat → Prop} {p : Part} {cs : List Value} (h : PartIs w T p cs) {base n : Nat} {v : Value} {xs : List Value} (hown : w.ownsRow base 53 3 v n xs) (hg : w.grownBy w' v.ownBlock) : PartIs w' T p cs := by
  have hc : Chg (fun k => v.ownBlock = some k) w w' := Chg.of_grown hg
  refine (h.notParts.chg hc ?_).mono (fun _ _ h => h.1)
  intro b hb hv
  rcases hown.2 with ⟨rfl, _⟩ | ⟨g, cap, cur, rfl, _, hh, _⟩
  · cases hv
  · simp [Value.ownBlock] at hv
    subst hv
    exact hb.2 _ _ hh
theorem PartsAre.grown {w w' : World} {T : Nat → Prop} {ps : List Part} {cs : List Value} (h : PartsAre w T ps cs) {base n : Nat} {v : Value} {xs : List Value} (hown : w.ownsRow base 53 3 v n xs) (hg : w.grownBy w' v.ownBlock) : PartsAre w' T ps cs :=
  ⟨h.1, fun i hi => (h.2 i hi).grown hown hg⟩

set_option maxRecDepth 100000 in
theorem maker_call (p : Part) : ∀ args w, (callFunc (makerFn p) args).run Tryd.prog w = .ok (.enter (makerFn p) args) w := by
  intro args w
  cases p <;> first | exact Tryd.call35 args w | exact Tryd.call37 args w | exact Tryd.call36 args w | exact Tryd.call38 args w | exact Tryd.call44 args w | exact Tryd.call47 args w | exact Tryd.call70 args w | exact Tryd.call45 args w | exact Tryd.call30 args w | exact Tryd.call62 args w | exact Tryd.call63 args w

theorem info59 : (Tryd.prog.info? 53).map (fun i => (i.zero, i.size, i.bytes)) = some (some (.agg #[.nilFunc, .nilFunc, .nilFunc]), 3, 24) := by kernel_rfl

theorem cells_new (w : World) (cs : List Value) (t : TypeId) : ∀ j u, cs[j]? = some u → (w.alloc (.cells cs.toArray t)).cell? ((⟨w.heap.size, 0, none⟩ : Addr).add j) = some u := by
  intro j u hj
  rw [addr_add, (Row.new w t cs).cell]
  simpa using hj

theorem ownsRow_chg {w w' : World} {base size n : Nat} {e : TypeId} {v : Value} {xs : List Value} (h : w.ownsRow base e size v n xs) (hc : Chg none_ w w') : w'.ownsRow base e size v n xs := by
  refine ⟨h.1, ?_⟩
  rcases h.2 with h2 | ⟨g, cap, cur, h1, h2, h3, h4⟩
  · exact .inl h2
  · exact .inr ⟨g, cap, cur, h1, h2, (hc.block g (Array.getElem?_eq_some_iff.1 h3).1 (fun h => h)).trans h3, h4⟩

theorem Chg.app {w0 w w' : World} {base size n : Nat} {e : TypeId} {v : Value} {xs : List Value} (h : Chg none_ w0 w) (hb : w0.heap.size ≤ base) (hown : w.ownsRow base e size v n xs) (hg : w.grownBy w' v.ownBlock) : Chg none_ w0 w' :=
  h.grown hg (fun k hk hlt => by have := (hown.lt k hk).1; omega)

/-- A slice of the call's own, whatever an element's cells. -/
theorem view_ownN {w : World} {base size n : Nat} {e : TypeId} {v : Value} {xs : List Value} (h : w.ownsRow base e size v n xs) : ∃ A cap, v = .slice A n cap ∧ n ≤ cap ∧ cap ≤ maxLen ∧ View w (fun b => base ≤ b) A (n * size) xs := by
  rcases h.2 with ⟨rfl, rfl⟩ | ⟨g, cap, cur, rfl, hb, hh, hnc, hm, hs, ht⟩
  · have hx : xs = [] := List.eq_nil_of_length_eq_zero (by simpa using h.1)
    subst hx
    exact ⟨none, 0, rfl, Nat.le_refl _, Nat.zero_le _, by rw [Nat.zero_mul]; exact View.none_ w _ none⟩
  · refine ⟨_, _, rfl, hnc, hm, h.1, fun hn => ⟨g, 0, rfl, (Array.getElem?_eq_some_iff.1 hh).1, hb, fun j hj => ?_⟩⟩
    rw [cell_of_row w g (0 + j) _ _ _ hh, ← ht, List.getElem?_take, if_pos (by omega)]
    simp
theorem view_own3 {w : World} {base n : Nat} {e : TypeId} {v : Value} {xs : List Value} (h : w.ownsRow base e 3 v n xs) : ∃ A cap, v = .slice A n cap ∧ n ≤ cap ∧ cap ≤ maxLen ∧ View w (fun b => base ≤ b) A (3 * n) xs := by
  rw [Nat.mul_comm]; exact view_ownN h

/-- A slice of those parts, in new memory. -/
def PartsNew (w : World) (ps : List Part) (e : Ending) (w' : World) : Prop :=
  ∃ A cap cs, e = .returned (.slice A ps.length cap) ∧ PartsAre w' (fun b => w.heap.size ≤ b) ps cs ∧ View w' (fun b => w.heap.size ≤ b) A (3 * ps.length) cs ∧ Chg none_ w w'

set_option maxRecDepth 100000 in
set_option maxHeartbeats 1000000 in
theorem of1_any (ps : List Part) (t : Value) (g : Nat) (A : Option Addr) (c : Nat) (w : World) (T : Nat → Prop) (hr : Row w g 73 [.slice A ps.length c]) (hv : View w T A ps.length (ps.map fun p => fnv (makerFn p))) (hn : ps.length ≤ 100) :
    Calls Tryd.prog 58 #[t, .pointer (some ⟨g, 0, none⟩)] w (PartsNew w ps) := by
  have hc0 := hr.cell 0
  simp at hc0
  obtain ⟨i0, hi, hz0, hz1, hz2⟩ := info_parts info59
  have HV := Lib.hid hv
  have HR := Lib.hid hr
  clear hr hv
  go_enter Tryd.func58, Tryd.ntmps58
  go_wp2
  go_loopw [4, 9] (fun l i wr => ∃ (k : Nat) (cs : List Value), k ≤ ps.length ∧ i = .int .i64 k ∧ wr.ownsRow w.heap.size 53 3 l k cs ∧ PartsAre wr (fun b => w.heap.size ≤ b) (ps.take k) cs ∧ Chg none_ w wr) (fun _ i _ => ps.length - (intOf i).toNat)
  case atStart => exact ⟨0, [], Nat.zero_le _, rfl, World.ownsRow_nil _ _ _ _, PartsAre.nil _ _, Chg.refl _ _⟩
  case round =>
    obtain ⟨k, cs, hk, rfl, hown, hpa, hch⟩ := hrel
    by_cases hlt : k < ps.length
    · have hrel := HV.out.chg hch (fun _ _ h => h)
      obtain ⟨b, o, rfl, hb, _, hcell⟩ := hrel.2 (by omega)
      have hck := hcell k hlt
      have hsz := hch.size
      have hck2 : wr.cell? ⟨b, o + k, none⟩ = some (fnv (makerFn ps[k])) := by rw [hck]; simp [hlt]
      have hk0 : (0 : Int) ≤ (k : Int) := by omega
      have hk1 : (k : Int) < (ps.length : Int) := by omega
      have HM := Lib.hid (maker_any ps[k] wr)
      have HTK : Hid (ps.take (k + 1) = ps.take k ++ [ps[k]]) := List.take_succ_eq_append_getElem hlt
      generalize ps[k] = p at hck2 HM HTK
      have heg := maker_call p
      generalize makerFn p = mf at hck2 HM heg
      unfold fnv at hck2
      have HO := Lib.hid hown
      have HP := Lib.hid hpa
      have HCH := Lib.hid hch
      clear hown hpa hch hcell hck hrel hb
      go_wp2_with fail
      refine HM.out.mono ?_
      rintro e w1 ⟨c3, rfl, hp, hc⟩
      obtain ⟨x, y, z, rfl, hone⟩ := hp.three
      have HO1 := Lib.hid (ownsRow_chg HO.out hc)
      have HP1 := Lib.hid (HP.out.chg hc (fun _ _ h => h))
      have HX := Lib.hid (hp.mono (T' := fun b => w.heap.size ≤ b) (fun b _ h => Nat.le_trans hsz h))
      have HC1 := Lib.hid (HCH.out.trans hc)
      have HONE := Lib.hid hone
      clear hp hc hone HO HP HM
      go_wp2_with (at_builtin; go_loud (refine wpList_append_own_at _ rfl _ _ 49 rfl w.heap.size 53 i0 _ 3 24 Tryd.underlying49 hi hz0 hz1 hz2 rfl (by omega) _ k cs rfl (ownsRow_chg HO1.out ((Chg.refl none_ w1).alloc (.cells [x, y, z].toArray 53))) ⟨w1.heap.size, 0, none⟩ 1 1 [x, y, z] rfl rfl (cells_new w1 [x, y, z] _) HONE.out (by unfold maxLen; omega) (by omega) (by have := HC1.out.size; simp; omega) ?_); intro v' w2 hown2 hgrow _ _)
      have HO2 := Lib.hid hown2
      have HG := Lib.hid hgrow
      clear hown2 hgrow
      go_wp2
      go_roundw
      case rel =>
        have ha := (Chg.refl none_ w1).alloc (.cells [x, y, z].toArray 53)
        refine ⟨k + 1, cs ++ [x, y, z], by omega, by go_num, HO2.out, ?_, ?_⟩
        · rw [HTK.out]
          exact ((HP1.out.snoc HX.out).chg ha (fun _ _ h => h)).grown (ownsRow_chg HO1.out ha) HG.out
        · exact (HC1.out.trans ha).app (Nat.le_refl _) (ownsRow_chg HO1.out ha) HG.out
      case measure => simp [intOf]; omega
    · have hkl : k = ps.length := by omega
      have hn1 : ¬ (k : Int) < (ps.length : Int) := by omega
      have HO := Lib.hid hown
      have HP := Lib.hid hpa
      have HCH := Lib.hid hch
      have HK := Lib.hid hkl
      clear hkl hown hpa hch
      go_wp2
      obtain ⟨A', cap, rfl, h1, h2, h3⟩ := view_own3 HO.out
      go_ret
      rw [HK.out] at h3
      have hp := HP.out
      rw [HK.out, List.take_length] at hp
      have hc := HCH.out
      have hk := HK.out
      subst hk
      exact ⟨A', cap, cs, rfl, hp, h3, hc⟩

theorem PartsNew.mk {w w1 : World} {ps : List Part} {cs : List Value} (hp : PartsAre w1 (fun b => w.heap.size ≤ b) ps cs) (hc : Chg none_ w w1) :
    PartsNew w ps (.returned (.slice (some ⟨w1.heap.size, 0, none⟩) ps.length ps.length)) (w1.alloc (.cells cs.toArray 53)) := by
  refine ⟨_, _, cs, rfl, hp.chg ((Chg.refl none_ w1).alloc _) (fun _ _ h => h), ?_, hc.alloc _⟩
  have := View.row (T := fun b => w.heap.size ≤ b) (Row.new w1 53 cs) (n := 3 * ps.length) (by rw [hp.1]; exact Nat.le_refl _) hc.size
  rw [List.take_of_length_le (by rw [hp.1]; exact Nat.le_refl _)] at this
  exact this

theorem own_rowN {w : World} {g base n size : Nat} {e : TypeId} {cs : List Value} (h : Row w g e cs) (hb : base ≤ g) (hn : cs.length = n * size) (hm : n ≤ maxLen) : w.ownsRow base e size (.slice (some ⟨g, 0, none⟩) n n) n cs :=
  ⟨hn, .inr ⟨g, n, cs.toArray, rfl, hb, h, Nat.le_refl _, hm, by simpa using hn, by exact List.take_of_length_le (by simp; omega)⟩⟩

theorem PartsNew.own {w w1 : World} {ps : List Part} {cs : List Value} {v : Value} (hp : PartsAre w1 (fun b => w.heap.size ≤ b) ps cs) (hc : Chg none_ w w1) (ho : w1.ownsRow w.heap.size 53 3 v ps.length cs) :
    PartsNew w ps (.returned v) w1 := by
  obtain ⟨A', cap, rfl, h1, h2, h3⟩ := view_own3 ho
  exact ⟨A', cap, cs, rfl, hp, h3, hc⟩

theorem and_bit (t m : Nat) (ht : t < 18446744073709551616) (hm : m < 60) : bits .and .u64 (t : Int) ((2 ^ m : Nat) : Int) = ((t / 2 ^ m % 2 * 2 ^ m : Nat) : Int) := by
  have h2 : 2 ^ m < 18446744073709551616 := Nat.lt_of_lt_of_le (Nat.pow_lt_pow_right (by omega) hm) (by decide)
  rw [u64_and_nat t (2 ^ m) ht h2]
  congr 1
  apply Nat.eq_of_testBit_eq
  intro i
  rw [Nat.testBit_and, Nat.testBit_two_pow]
  have hb := Nat.testBit_eq_decide_div_mod_eq (x := t) (i := m)
  have : t / 2 ^ m % 2 = 0 ∨ t / 2 ^ m % 2 = 1 := by omega
  rcases this with h | h
  · rw [h] at hb ⊢
    by_cases hi : m = i
    · subst hi; simp [hb]
    · simp [hi]
  · rw [h] at hb ⊢
    rw [Nat.one_mul, Nat.testBit_two_pow]
    by_cases hi : m = i
    · subst hi; simp [hb]
    · simp [hi]
theorem and_bit1 (t : Nat) (ht : t < 18446744073709551616) : (bits .and .u64 (t : Int) 1 != 0) = decide (t % 2 = 1) := by
  have := and_bit t 0 ht (by omega)
  simp only [Nat.pow_zero, Nat.div_one, Nat.mul_one] at this
  rw [show ((1 : Nat) : Int) = 1 from rfl] at this
  rw [this]
  rw [Bool.eq_iff_iff]
  simp
  omega
theorem and_bit2 (t : Nat) (ht : t < 18446744073709551616) : (bits .and .u64 (t : Int) 2 != 0) = decide (t / 2 % 2 = 1) := by
  have := and_bit t 1 ht (by omega)
  rw [show ((2 ^ 1 : Nat) : Int) = 2 from rfl, show 2 ^ 1 = 2 from rfl] at this
  rw [this, Bool.eq_iff_iff]
  simp
  omega
theorem and_bit4 (t : Nat) (ht : t < 18446744073709551616) : (bits .and .u64 (t : Int) 4 != 0) = decide (t / 4 % 2 = 1) := by
  have := and_bit t 2 ht (by omega)
  rw [show ((2 ^ 2 : Nat) : Int) = 4 from rfl, show 2 ^ 2 = 4 from rfl] at this
  rw [this, Bool.eq_iff_iff]
  simp
  omega

/-- The parts of an Ack, of a Stream, of a Close, of a type. -/
def ackParts (t : Nat) : List Part := if t % 2 = 1 then [.acked, .dropped] else [.acked]
def closeParts (t : Nat) : List Part := if t % 2 = 1 then [.code, .counted] else [.code, .amount, .counted]
def streamParts (t : Nat) : List Part := (if t / 4 % 2 = 1 then [.id, .amount] else [.id]) ++ [if t / 2 % 2 = 1 then .counted else .allLeft]

theorem ge_trans {w w1 w2 : World} {p : Part} {cs : List Value} (h : PartIs w2 (fun b => w1.heap.size ≤ b) p cs) (hc : Chg none_ w w1) : PartIs w2 (fun b => w.heap.size ≤ b) p cs :=
  h.mono fun _ _ hb => Nat.le_trans hc.size hb

set_option maxRecDepth 100000 in
theorem ackParts_any (t : Nat) (w : World) (ht : t < 18446744073709551616) : Calls Tryd.prog 32 #[.int .u64 t] w (PartsNew w (ackParts t)) := by
  have e1 := and_bit1 t ht
  have HA := Lib.hid (maker_acked w)
  by_cases h : t % 2 = 1
  · rw [show ackParts t = [.acked, .dropped] from if_pos h]
    rw [decide_eq_true h] at e1
    go_enter Tryd.func32, Tryd.ntmps32
    go_wp2_with fail
    refine HA.out.mono ?_
    rintro e w1 ⟨c1, rfl, hp, hc⟩
    obtain ⟨x1, y1, z1, rfl, _⟩ := hp.three
    have H1 := Lib.hid hp
    have C1 := Lib.hid hc
    have HD := Lib.hid (maker_dropped w1)
    clear hp hc
    go_wp2_with fail
    refine HD.out.mono ?_
    rintro e w2 ⟨c2, rfl, hp, hc⟩
    obtain ⟨x2, y2, z2, rfl, _⟩ := hp.three
    have H2 := Lib.hid hp
    have C2 := Lib.hid hc
    clear hp hc
    go_wp2
    go_ret
    exact PartsNew.mk (cs := [x1, y1, z1] ++ [x2, y2, z2]) (((PartsAre.one H1.out).chg C2.out (fun _ _ h => h)).snoc (ge_trans H2.out C1.out)) (C1.out.trans C2.out)
  · rw [show ackParts t = [.acked] from if_neg h]
    rw [decide_eq_false h] at e1
    go_enter Tryd.func32, Tryd.ntmps32
    go_wp2_with fail
    refine HA.out.mono ?_
    rintro e w1 ⟨c1, rfl, hp, hc⟩
    obtain ⟨x1, y1, z1, rfl, _⟩ := hp.three
    have H1 := Lib.hid hp
    have C1 := Lib.hid hc
    clear hp hc
    go_wp2
    go_ret
    exact PartsNew.mk (cs := [x1, y1, z1]) (PartsAre.one H1.out) C1.out

set_option maxRecDepth 100000 in
theorem closeParts_any (t : Nat) (w : World) (ht : t < 18446744073709551616) : Calls Tryd.prog 49 #[.int .u64 t] w (PartsNew w (closeParts t)) := by
  have e1 := and_bit1 t ht
  have HA := Lib.hid (maker_code w)
  by_cases h : t % 2 = 1
  · rw [show closeParts t = [.code, .counted] from if_pos h]
    rw [decide_eq_true h] at e1
    go_enter Tryd.func49, Tryd.ntmps49
    go_wp2_with fail
    refine HA.out.mono ?_
    rintro e w1 ⟨c1, rfl, hp, hc⟩
    obtain ⟨x1, y1, z1, rfl, _⟩ := hp.three
    have H1 := Lib.hid hp
    have C1 := Lib.hid hc
    have HD := Lib.hid (maker_counted w1)
    clear hp hc
    go_wp2_with fail
    refine HD.out.mono ?_
    rintro e w2 ⟨c2, rfl, hp, hc⟩
    obtain ⟨x2, y2, z2, rfl, _⟩ := hp.three
    have H2 := Lib.hid hp
    have C2 := Lib.hid hc
    clear hp hc
    go_wp2
    go_ret
    exact PartsNew.mk (cs := [x1, y1, z1] ++ [x2, y2, z2]) (((PartsAre.one H1.out).chg C2.out (fun _ _ h => h)).snoc (ge_trans H2.out C1.out)) (C1.out.trans C2.out)
  · rw [show closeParts t = [.code, .amount, .counted] from if_neg h]
    rw [decide_eq_false h] at e1
    go_enter Tryd.func49, Tryd.ntmps49
    go_wp2_with fail
    refine HA.out.mono ?_
    rintro e w1 ⟨c1, rfl, hp, hc⟩
    obtain ⟨x1, y1, z1, rfl, _⟩ := hp.three
    have H1 := Lib.hid hp
    have C1 := Lib.hid hc
    have HD := Lib.hid (maker_amount w1)
    clear hp hc
    go_wp2_with fail
    refine HD.out.mono ?_
    rintro e w2 ⟨c2, rfl, hp, hc⟩
    obtain ⟨x2, y2, z2, rfl, _⟩ := hp.three
    have H2 := Lib.hid hp
    have C2 := Lib.hid hc
    have HE := Lib.hid (maker_counted w2)
    clear hp hc
    go_wp2_with fail
    refine HE.out.mono ?_
    rintro e w3 ⟨c3, rfl, hp, hc⟩
    obtain ⟨x3, y3, z3, rfl, _⟩ := hp.three
    have H3 := Lib.hid hp
    have C3 := Lib.hid hc
    clear hp hc
    go_wp2
    go_ret
    exact PartsNew.mk (cs := [x1, y1, z1] ++ [x2, y2, z2] ++ [x3, y3, z3]) (((((PartsAre.one H1.out).chg C2.out (fun _ _ h => h)).snoc (ge_trans H2.out C1.out)).chg C3.out (fun _ _ h => h)).snoc (ge_trans H3.out (C1.out.trans C2.out))) ((C1.out.trans C2.out).trans C3.out)

set_option maxRecDepth 100000 in
set_option maxHeartbeats 1000000 in
theorem streamParts_any (t : Nat) (w : World) (ht : t < 18446744073709551616) : Calls Tryd.prog 42 #[.int .u64 t] w (PartsNew w (streamParts t)) := by
  have e4 := and_bit4 t ht
  have e2 := and_bit2 t ht
  have HA := Lib.hid (maker_id w)
  obtain ⟨i0, hi, hz0, hz1, hz2⟩ := info_parts info59
  by_cases h4 : t / 4 % 2 = 1 <;> by_cases h2 : t / 2 % 2 = 1
  · rw [show streamParts t = [.id, .amount, .counted] from by unfold streamParts; simp [h4, h2]]
    rw [decide_eq_true h4] at e4
    rw [decide_eq_true h2] at e2
    clear h4 h2
    go_enter Tryd.func42, Tryd.ntmps42
    go_wp2_with fail
    refine HA.out.mono ?_
    rintro e w1 ⟨c1, rfl, hp, hc⟩
    obtain ⟨x1, y1, z1, rfl, hone⟩ := hp.three
    have ha := (Chg.refl none_ w1).alloc (.cells [x1, y1, z1].toArray 53)
    have C1 := Lib.hid (hc.trans ha)
    have PP1 := Lib.hid ((PartsAre.one hp).chg ha (fun _ _ h => h))
    have OO1 := Lib.hid (own_rowN (base := w.heap.size) (n := 1) (size := 3) (Row.new w1 53 [x1, y1, z1]) hc.size rfl (by unfold maxLen; omega))
    clear ha hp hc hone
    have M2 := Lib.hid (maker_amount (w1.alloc (.cells [x1, y1, z1].toArray 53)))
    go_wp2_with fail
    refine M2.out.mono ?_
    rintro e w2 ⟨c2, rfl, hp, hc⟩
    obtain ⟨x2, y2, z2, rfl, hone⟩ := hp.three
    have ON2 := Lib.hid hone
    have CC2 := Lib.hid (C1.out.trans hc)
    have H2 := Lib.hid (ge_trans hp C1.out)
    have S2 := Lib.hid CC2.out.size
    have O2 := Lib.hid (ownsRow_chg OO1.out hc)
    have P2 := Lib.hid (PP1.out.chg hc (fun _ _ h => h))
    clear hp hc hone
    go_wp2_with (at_builtin; refine wpList_append_own_at _ rfl _ _ 49 rfl w.heap.size 53 i0 _ 3 24 Tryd.underlying49 hi hz0 hz1 hz2 rfl (by omega) _ 1 [x1, y1, z1] rfl (ownsRow_chg O2.out ((Chg.refl none_ w2).alloc (.cells [x2, y2, z2].toArray 53))) ⟨w2.heap.size, 0, none⟩ 1 1 [x2, y2, z2] rfl rfl (cells_new w2 [x2, y2, z2] _) ON2.out (by unfold maxLen; omega) (by omega) (by have := S2.out; simp; omega) ?_; intro v2 u2 hown hgrow _ _)
    have ha := (Chg.refl none_ w2).alloc (.cells [x2, y2, z2].toArray 53)
    have OO2 := Lib.hid hown
    have PP2 := Lib.hid (((P2.out.snoc H2.out).chg ha (fun _ _ h => h)).grown (ownsRow_chg O2.out ha) hgrow)
    have C2 := Lib.hid ((CC2.out.trans ha).app (Nat.le_refl _) (ownsRow_chg O2.out ha) hgrow)
    clear ha hown hgrow
    have M3 := Lib.hid (maker_counted u2)
    go_wp2_with fail
    refine M3.out.mono ?_
    rintro e w3 ⟨c3, rfl, hp, hc⟩
    obtain ⟨x3, y3, z3, rfl, hone⟩ := hp.three
    have ON3 := Lib.hid hone
    have CC3 := Lib.hid (C2.out.trans hc)
    have H3 := Lib.hid (ge_trans hp C2.out)
    have S3 := Lib.hid CC3.out.size
    have O3 := Lib.hid (ownsRow_chg OO2.out hc)
    have P3 := Lib.hid (PP2.out.chg hc (fun _ _ h => h))
    clear hp hc hone
    go_wp2_with (at_builtin; refine wpList_append_own_at _ rfl _ _ 49 rfl w.heap.size 53 i0 _ 3 24 Tryd.underlying49 hi hz0 hz1 hz2 rfl (by omega) _ 2 ([x1, y1, z1] ++ [x2, y2, z2]) rfl (ownsRow_chg O3.out ((Chg.refl none_ w3).alloc (.cells [x3, y3, z3].toArray 53))) ⟨w3.heap.size, 0, none⟩ 1 1 [x3, y3, z3] rfl rfl (cells_new w3 [x3, y3, z3] _) ON3.out (by unfold maxLen; omega) (by omega) (by have := S3.out; simp; omega) ?_; intro v3 u3 hown hgrow _ _)
    have ha := (Chg.refl none_ w3).alloc (.cells [x3, y3, z3].toArray 53)
    have OO3 := Lib.hid hown
    have PP3 := Lib.hid (((P3.out.snoc H3.out).chg ha (fun _ _ h => h)).grown (ownsRow_chg O3.out ha) hgrow)
    have C3 := Lib.hid ((CC3.out.trans ha).app (Nat.le_refl _) (ownsRow_chg O3.out ha) hgrow)
    clear ha hown hgrow
    go_wp2
    go_ret
    exact PartsNew.own PP3.out C3.out OO3.out
  · rw [show streamParts t = [.id, .amount, .allLeft] from by unfold streamParts; simp [h4, h2]]
    rw [decide_eq_true h4] at e4
    rw [decide_eq_false h2] at e2
    clear h4 h2
    go_enter Tryd.func42, Tryd.ntmps42
    go_wp2_with fail
    refine HA.out.mono ?_
    rintro e w1 ⟨c1, rfl, hp, hc⟩
    obtain ⟨x1, y1, z1, rfl, hone⟩ := hp.three
    have ha := (Chg.refl none_ w1).alloc (.cells [x1, y1, z1].toArray 53)
    have C1 := Lib.hid (hc.trans ha)
    have PP1 := Lib.hid ((PartsAre.one hp).chg ha (fun _ _ h => h))
    have OO1 := Lib.hid (own_rowN (base := w.heap.size) (n := 1) (size := 3) (Row.new w1 53 [x1, y1, z1]) hc.size rfl (by unfold maxLen; omega))
    clear ha hp hc hone
    have M2 := Lib.hid (maker_amount (w1.alloc (.cells [x1, y1, z1].toArray 53)))
    go_wp2_with fail
    refine M2.out.mono ?_
    rintro e w2 ⟨c2, rfl, hp, hc⟩
    obtain ⟨x2, y2, z2, rfl, hone⟩ := hp.three
    have ON2 := Lib.hid hone
    have CC2 := Lib.hid (C1.out.trans hc)
    have H2 := Lib.hid (ge_trans hp C1.out)
    have S2 := Lib.hid CC2.out.size
    have O2 := Lib.hid (ownsRow_chg OO1.out hc)
    have P2 := Lib.hid (PP1.out.chg hc (fun _ _ h => h))
    clear hp hc hone
    go_wp2_with (at_builtin; refine wpList_append_own_at _ rfl _ _ 49 rfl w.heap.size 53 i0 _ 3 24 Tryd.underlying49 hi hz0 hz1 hz2 rfl (by omega) _ 1 [x1, y1, z1] rfl (ownsRow_chg O2.out ((Chg.refl none_ w2).alloc (.cells [x2, y2, z2].toArray 53))) ⟨w2.heap.size, 0, none⟩ 1 1 [x2, y2, z2] rfl rfl (cells_new w2 [x2, y2, z2] _) ON2.out (by unfold maxLen; omega) (by omega) (by have := S2.out; simp; omega) ?_; intro v2 u2 hown hgrow _ _)
    have ha := (Chg.refl none_ w2).alloc (.cells [x2, y2, z2].toArray 53)
    have OO2 := Lib.hid hown
    have PP2 := Lib.hid (((P2.out.snoc H2.out).chg ha (fun _ _ h => h)).grown (ownsRow_chg O2.out ha) hgrow)
    have C2 := Lib.hid ((CC2.out.trans ha).app (Nat.le_refl _) (ownsRow_chg O2.out ha) hgrow)
    clear ha hown hgrow
    have M3 := Lib.hid (maker_allLeft u2)
    go_wp2_with fail
    refine M3.out.mono ?_
    rintro e w3 ⟨c3, rfl, hp, hc⟩
    obtain ⟨x3, y3, z3, rfl, hone⟩ := hp.three
    have ON3 := Lib.hid hone
    have CC3 := Lib.hid (C2.out.trans hc)
    have H3 := Lib.hid (ge_trans hp C2.out)
    have S3 := Lib.hid CC3.out.size
    have O3 := Lib.hid (ownsRow_chg OO2.out hc)
    have P3 := Lib.hid (PP2.out.chg hc (fun _ _ h => h))
    clear hp hc hone
    go_wp2_with (at_builtin; refine wpList_append_own_at _ rfl _ _ 49 rfl w.heap.size 53 i0 _ 3 24 Tryd.underlying49 hi hz0 hz1 hz2 rfl (by omega) _ 2 ([x1, y1, z1] ++ [x2, y2, z2]) rfl (ownsRow_chg O3.out ((Chg.refl none_ w3).alloc (.cells [x3, y3, z3].toArray 53))) ⟨w3.heap.size, 0, none⟩ 1 1 [x3, y3, z3] rfl rfl (cells_new w3 [x3, y3, z3] _) ON3.out (by unfold maxLen; omega) (by omega) (by have := S3.out; simp; omega) ?_; intro v3 u3 hown hgrow _ _)
    have ha := (Chg.refl none_ w3).alloc (.cells [x3, y3, z3].toArray 53)
    have OO3 := Lib.hid hown
    have PP3 := Lib.hid (((P3.out.snoc H3.out).chg ha (fun _ _ h => h)).grown (ownsRow_chg O3.out ha) hgrow)
    have C3 := Lib.hid ((CC3.out.trans ha).app (Nat.le_refl _) (ownsRow_chg O3.out ha) hgrow)
    clear ha hown hgrow
    go_wp2
    go_ret
    exact PartsNew.own PP3.out C3.out OO3.out
  · rw [show streamParts t = [.id, .counted] from by unfold streamParts; simp [h4, h2]]
    rw [decide_eq_false h4] at e4
    rw [decide_eq_true h2] at e2
    clear h4 h2
    go_enter Tryd.func42, Tryd.ntmps42
    go_wp2_with fail
    refine HA.out.mono ?_
    rintro e w1 ⟨c1, rfl, hp, hc⟩
    obtain ⟨x1, y1, z1, rfl, hone⟩ := hp.three
    have ha := (Chg.refl none_ w1).alloc (.cells [x1, y1, z1].toArray 53)
    have C1 := Lib.hid (hc.trans ha)
    have PP1 := Lib.hid ((PartsAre.one hp).chg ha (fun _ _ h => h))
    have OO1 := Lib.hid (own_rowN (base := w.heap.size) (n := 1) (size := 3) (Row.new w1 53 [x1, y1, z1]) hc.size rfl (by unfold maxLen; omega))
    clear ha hp hc hone
    have M2 := Lib.hid (maker_counted (w1.alloc (.cells [x1, y1, z1].toArray 53)))
    go_wp2_with fail
    refine M2.out.mono ?_
    rintro e w2 ⟨c2, rfl, hp, hc⟩
    obtain ⟨x2, y2, z2, rfl, hone⟩ := hp.three
    have ON2 := Lib.hid hone
    have CC2 := Lib.hid (C1.out.trans hc)
    have H2 := Lib.hid (ge_trans hp C1.out)
    have S2 := Lib.hid CC2.out.size
    have O2 := Lib.hid (ownsRow_chg OO1.out hc)
    have P2 := Lib.hid (PP1.out.chg hc (fun _ _ h => h))
    clear hp hc hone
    go_wp2_with (at_builtin; refine wpList_append_own_at _ rfl _ _ 49 rfl w.heap.size 53 i0 _ 3 24 Tryd.underlying49 hi hz0 hz1 hz2 rfl (by omega) _ 1 [x1, y1, z1] rfl (ownsRow_chg O2.out ((Chg.refl none_ w2).alloc (.cells [x2, y2, z2].toArray 53))) ⟨w2.heap.size, 0, none⟩ 1 1 [x2, y2, z2] rfl rfl (cells_new w2 [x2, y2, z2] _) ON2.out (by unfold maxLen; omega) (by omega) (by have := S2.out; simp; omega) ?_; intro v2 u2 hown hgrow _ _)
    have ha := (Chg.refl none_ w2).alloc (.cells [x2, y2, z2].toArray 53)
    have OO2 := Lib.hid hown
    have PP2 := Lib.hid (((P2.out.snoc H2.out).chg ha (fun _ _ h => h)).grown (ownsRow_chg O2.out ha) hgrow)
    have C2 := Lib.hid ((CC2.out.trans ha).app (Nat.le_refl _) (ownsRow_chg O2.out ha) hgrow)
    clear ha hown hgrow
    go_wp2
    go_ret
    exact PartsNew.own PP2.out C2.out OO2.out
  · rw [show streamParts t = [.id, .allLeft] from by unfold streamParts; simp [h4, h2]]
    rw [decide_eq_false h4] at e4
    rw [decide_eq_false h2] at e2
    clear h4 h2
    go_enter Tryd.func42, Tryd.ntmps42
    go_wp2_with fail
    refine HA.out.mono ?_
    rintro e w1 ⟨c1, rfl, hp, hc⟩
    obtain ⟨x1, y1, z1, rfl, hone⟩ := hp.three
    have ha := (Chg.refl none_ w1).alloc (.cells [x1, y1, z1].toArray 53)
    have C1 := Lib.hid (hc.trans ha)
    have PP1 := Lib.hid ((PartsAre.one hp).chg ha (fun _ _ h => h))
    have OO1 := Lib.hid (own_rowN (base := w.heap.size) (n := 1) (size := 3) (Row.new w1 53 [x1, y1, z1]) hc.size rfl (by unfold maxLen; omega))
    clear ha hp hc hone
    have M2 := Lib.hid (maker_allLeft (w1.alloc (.cells [x1, y1, z1].toArray 53)))
    go_wp2_with fail
    refine M2.out.mono ?_
    rintro e w2 ⟨c2, rfl, hp, hc⟩
    obtain ⟨x2, y2, z2, rfl, hone⟩ := hp.three
    have ON2 := Lib.hid hone
    have CC2 := Lib.hid (C1.out.trans hc)
    have H2 := Lib.hid (ge_trans hp C1.out)
    have S2 := Lib.hid CC2.out.size
    have O2 := Lib.hid (ownsRow_chg OO1.out hc)
    have P2 := Lib.hid (PP1.out.chg hc (fun _ _ h => h))
    clear hp hc hone
    go_wp2_with (at_builtin; refine wpList_append_own_at _ rfl _ _ 49 rfl w.heap.size 53 i0 _ 3 24 Tryd.underlying49 hi hz0 hz1 hz2 rfl (by omega) _ 1 [x1, y1, z1] rfl (ownsRow_chg O2.out ((Chg.refl none_ w2).alloc (.cells [x2, y2, z2].toArray 53))) ⟨w2.heap.size, 0, none⟩ 1 1 [x2, y2, z2] rfl rfl (cells_new w2 [x2, y2, z2] _) ON2.out (by unfold maxLen; omega) (by omega) (by have := S2.out; simp; omega) ?_; intro v2 u2 hown hgrow _ _)
    have ha := (Chg.refl none_ w2).alloc (.cells [x2, y2, z2].toArray 53)
    have OO2 := Lib.hid hown
    have PP2 := Lib.hid (((P2.out.snoc H2.out).chg ha (fun _ _ h => h)).grown (ownsRow_chg O2.out ha) hgrow)
    have C2 := Lib.hid ((CC2.out.trans ha).app (Nat.le_refl _) (ownsRow_chg O2.out ha) hgrow)
    clear ha hown hgrow
    go_wp2
    go_ret
    exact PartsNew.own PP2.out C2.out OO2.out
end Go.Proofs.YtlcffjmbfpdlbaaDoor
