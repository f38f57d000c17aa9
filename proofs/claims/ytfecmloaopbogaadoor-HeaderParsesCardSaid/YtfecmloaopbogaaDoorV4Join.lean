/- Layer 4 (header): parts one behind the other (together), a version's bytes, counted bytes. -/
import Derived.Test.YtfecmloaopbogaaDoorV4Hd
import Derived.Test.YtfecmloaopbogaaDoorFresh
import Derived.Test.YtfecmloaopbogaaDoorV1Math
import Derived.Test.YtfecmloaopbogaaDoorBits
namespace Go.Proofs.YtfecmloaopbogaaDoor
open Go.RowKit

/-- Slices that are handed in, each in view. -/
def Parts (w : World) (T : Nat → Prop) (vs : List Value) (ls : List (List Nat)) : Prop := vs.length = ls.length ∧ ∀ i, i < ls.length → Sl w T (vs.getD i undef) (ls.getD i [])
theorem Parts.chg {w w' : World} {S T : Nat → Prop} {vs : List Value} {ls : List (List Nat)} (h : Parts w T vs ls) (hc : Chg S w w') (hs : ∀ b, T b → ¬ S b) : Parts w' T vs ls := ⟨h.1, fun i hi => (h.2 i hi).chg hc hs⟩

theorem Parts.mono {w : World} {T T' : Nat → Prop} {vs : List Value} {ls : List (List Nat)} (h : Parts w T vs ls) (hs : ∀ b, b < w.heap.size → T b → T' b) : Parts w T' vs ls := ⟨h.1, fun i hi => (h.2 i hi).mono hs⟩

def cat (ls : List (List Nat)) : List Nat := ls.flatMap id
theorem cat_snoc (ls : List (List Nat)) (l : List Nat) : cat (ls ++ [l]) = cat ls ++ l := by simp [cat]

set_option maxRecDepth 100000 in
set_option maxHeartbeats 1000000 in
theorem together_any (w : World) (T : Nat → Prop) (A : Option Addr) (c : Nat) (vs : List Value) (ls : List (List Nat)) (hv : View w T A ls.length vs) (hp : Parts w T vs ls) (hn : ls.length ≤ 8) :
    Calls Tryd.prog 25 #[.slice A ls.length c] w (GotBytes w (cat ls)) := by
  obtain ⟨i0, hi, hz0, hz1, hz2⟩ := info_parts info5
  have HV := Lib.hid hv
  have HP := Lib.hid hp
  clear hv hp
  go_enter Tryd.func25, Tryd.ntmps25
  go_wp2
  go_loopw [3, 5, 8] (fun v u i wr => ∃ k : Nat, k ≤ ls.length ∧ i = .int .i64 k ∧ wr.ownsRow w.heap.size 5 1 v (cat (ls.take k)).length (u8s (cat (ls.take k))) ∧ Hid ((cat (ls.take k)).length ≤ k * 1000000) ∧ Chg none_ w wr) (fun _ _ i _ => ls.length - (intOf i).toNat)
  case atStart => exact ⟨0, Nat.zero_le _, rfl, by simpa [cat, u8s] using World.ownsRow_nil _ _ _ _, Nat.zero_le _, Chg.refl _ _⟩
  case round =>
    obtain ⟨k, hk, rfl, hown, hlen, hch⟩ := hrel
    by_cases hlt : k < ls.length
    · have HT : Hid (cat (ls.take (k + 1)) = cat (ls.take k) ++ ls.getD k []) := by
        show _ = _
        rw [List.take_succ_eq_append_getElem hlt, cat_snoc]
        simp [List.getD_eq_getElem?_getD, hlt]
      obtain ⟨b, o, rfl, hb, _, hc⟩ := HV.out.2 (by omega)
      have hc1 := hc k hlt
      obtain ⟨A1, c1, e1, hl1, hv1⟩ := HP.out.2 k hlt
      have hvk : vs[k]? = some (vs.getD k undef) := by
        have : k < vs.length := by rw [HP.out.1]; exact hlt
        simp [List.getD_eq_getElem?_getD, this]
      rw [hvk, e1] at hc1
      have hc2 := (hch.cell (o + k) hb (fun h => h)).trans hc1
      have HV1 := Lib.hid (hv1.chg hch (fun _ _ h => h))
      have HOW := Lib.hid hown
      have HCH := Lib.hid hch
      have hk0 : (0 : Int) ≤ (k : Int) := by omega
      have hk1 : (k : Int) < (ls.length : Int) := by omega
      have HLT := Lib.hid (show (cat (ls.take k)).length + (ls.getD k []).length ≤ 9000000 from by have := hlen.out; omega)
      have HL2 : Hid ((cat (ls.take (k + 1))).length ≤ (k + 1) * 1000000) := by show _ ≤ _; rw [HT.out, List.length_append]; have := hlen.out; omega
      generalize ls.getD k [] = l at *
      generalize cat (ls.take k) = pre at *
      clear hc1 hc hvk e1 hv1 hown hlen hl1
      go_wp2_with (at_builtin; refine wpList_append_view rfl _ _ 23 rfl 5 i0 _ 1 Tryd.underlying23 hi hz0 hz1 hz2 rfl w.heap.size _ pre.length (u8s pre) rfl HOW.out T A1 l.length c1 (u8s l) rfl HV1.out (u8s_one _) (by have := HLT.out; unfold maxLen; omega) (by have := HLT.out; omega) hch.size ?_; intro v' w5 hown5 hgrow hob5)
      go_roundw
      case rel =>
        refine ⟨k + 1, by omega, by go_num, ?_, HL2, HCH.out.append (Nat.le_refl _) HOW.out hgrow⟩
        rw [HT.out, List.length_append, ← u8s_append]
        exact hown5
      case measure => simp [intOf]; omega
    · have hkl : k = ls.length := by omega
      subst hkl
      have HOW := Lib.hid hown
      have HCH := Lib.hid hch
      obtain ⟨A1, c1, rfl, h1, h2, h3⟩ := View.own (T := fun b => w.heap.size ≤ b) hown (fun _ h => h)
      clear hown hch
      go_wp2
      go_ret
      rw [List.take_length] at *
      exact ⟨A1, c1, rfl, ⟨h3, HOW.out⟩, HCH.out⟩

set_option maxRecDepth 100000 in
set_option maxHeartbeats 1000000 in
theorem putVersion_any (n : Nat) (w : World) (_hn : n < 4294967296) :
    Calls Tryd.prog 27 #[.int .u32 n] w (GotBytes w (arr n 4 4)) := by
  obtain ⟨i0, hi, hz0, hz1, hz2⟩ := info_parts info5
  go_enter Tryd.func27, Tryd.ntmps27
  go_wp2_with (at_make; refine wpList_make_full _ rfl _ _ _ rfl w.heap.size 5 i0 _ 1 Tryd.underlying23 hi hz0 hz1 _ _ _ _ 4 rfl rfl rfl rfl (by rw [hz2]; omega) (by unfold maxLen; omega) (Nat.le_refl _) ?_; intro w1 hown hgrow)
  have hR : Row w1 w.heap.size 5 (u8s (arr n 4 0)) := by
    have := Row.of_made hown
    rw [show (Value.int .u8 0).cells = #[.int .u8 0] from rfl, toList_madeCells_one] at this
    simpa [arr_0, u8s] using this
  have hC : Chg none_ w w1 := (Chg.refl none_ w).grown hgrow (by intro k hk; cases hk)
  clear hown hgrow
  go_loopw [4, 8] (fun _ i wr => ∃ k : Nat, k ≤ 4 ∧ i = .int .i64 k ∧ Row wr w.heap.size 5 (u8s (arr n 4 k)) ∧ Chg none_ w wr) (fun _ i _ => 4 - (intOf i).toNat)
  case atStart => exact ⟨0, Nat.zero_le _, rfl, hR, hC⟩
  case round =>
    obtain ⟨k, hk, rfl, hrow, hch⟩ := hrel
    clear hR hC
    by_cases hlt : k < 4
    · have hf := hrow.frozen (3 - k)
      have hc : wr.cell? ⟨w.heap.size, 3 - k, none⟩ = some (.int .u8 (((arr n 4 k).getD (3 - k) 0 : Nat) : Int)) := by
        rw [hrow.cell, u8s_get]
        have : 3 - k < (arr n 4 k).length := by rw [arr_len]; omega
        simp [this, List.getD]
      go_wp2
      go_roundw
      case rel =>
        refine ⟨k + 1, by omega, by go_num, ?_, hch.setCell (fun h => absurd h (by simp)) _⟩
        have := hrow.set (3 - k) (.int .u8 ((n / 2 ^ (8 * k) % 256 : Nat) : Int))
        rw [u8s_set, arr_set n 4 k hlt] at this
        simpa using this
      case measure => simp [intOf]; omega
    · have hks : k = 4 := by omega
      subst hks
      go_wp2
      go_ret
      exact got_row hch hrow (Nat.le_refl _) (by simp [arr_len]) (by decide)

/-- Two slices in a row, new. -/
theorem View.new (w : World) (e : TypeId) (xs : List Value) : View (w.alloc (.cells xs.toArray e)) (fun b => w.heap.size ≤ b) (some ⟨w.heap.size, 0, none⟩) xs.length xs := by
  have := View.row (T := fun b => w.heap.size ≤ b) (Row.new w e xs) (n := xs.length) (Nat.le_refl _) (Nat.le_refl _)
  rwa [List.take_length] at this
theorem Sl.new (w : World) (T : Nat → Prop) (l : List Nat) (hl : l.length ≤ 1000000) (hT : T w.heap.size) : Sl (w.alloc (.cells (u8s l).toArray 5)) T (.slice (some ⟨w.heap.size, 0, none⟩) l.length l.length) l := by
  have := View.row (T := T) (Row.new w 5 (u8s l)) (n := l.length) (by simp) hT
  rw [List.take_of_length_le (by simp)] at this
  exact ⟨_, _, rfl, hl, this⟩

set_option maxRecDepth 100000 in
theorem counted_any (w : World) (T : Nat → Prop) (v : Value) (l : List Nat) (hs : Sl w T v l) (hl : l.length < 256) :
    Calls Tryd.prog 28 #[v] w (GotBytes w (l.length :: l)) := by
  have HS := Lib.hid hs
  obtain ⟨A, c, rfl, hl2, _⟩ := hs
  have hw : IntKind.u8.wrap ((l.length : Nat) : Int) = (l.length : Int) := IntWalk.u8_in _ (by omega)
  have hC1 : Chg none_ w ((w.alloc (.cells [Value.int .u8 (l.length : Nat)].toArray 5)).alloc (.cells [Value.slice (some ⟨w.heap.size, 0, none⟩) 1 1, .slice A l.length c].toArray 23)) := ((Chg.refl none_ w).alloc _).alloc _
  have HT := Lib.hid (together_any ((w.alloc (.cells [Value.int .u8 (l.length : Nat)].toArray 5)).alloc (.cells [Value.slice (some ⟨w.heap.size, 0, none⟩) 1 1, .slice A l.length c].toArray 23)) (fun _ => True) (some ⟨w.heap.size + 1, 0, none⟩) 2 [.slice (some ⟨w.heap.size, 0, none⟩) 1 1, .slice A l.length c] [[l.length], l]
    (by
      have := View.row (T := fun _ => True) (Row.new2 w (.cells [Value.int .u8 (l.length : Nat)].toArray 5) 23 [Value.slice (some ⟨w.heap.size, 0, none⟩) 1 1, .slice A l.length c]) (n := 2) (by simp) trivial
      exact this)
    ⟨rfl, fun i hi => by
      have hi2 : i = 0 ∨ i = 1 := by simp at hi; omega
      rcases hi2 with rfl | rfl
      · exact (Sl.new w (fun b => b = w.heap.size) [l.length] (by simp) rfl).mono (fun _ _ _ => trivial) |>.chg ((Chg.refl none_ _).alloc _) (fun _ _ h => h)
      · exact (HS.out.mono (fun _ _ _ => trivial)).chg hC1 (fun _ _ h => h)⟩ (by simp))
  have HC1 := Lib.hid hC1
  clear hC1
  go_enter Tryd.func28, Tryd.ntmps28
  go_wp2_with (go_at_call 25; refine HT.out.mono ?_; rintro e w' ⟨A', c', rfl, hv, hc⟩)
  go_ret
  refine ⟨A', c', by simp [cat], ?_, HC1.out.trans hc⟩
  simp only [cat, List.flatMap_cons, List.flatMap_nil, id, List.append_nil, List.singleton_append] at hv
  exact hv.base HC1.out.size

/-- A right header's first byte. -/
def firstM (h : Hd) : Nat := 64 + (h.cut.length - 1) + (if h.long then 128 + 16 * h.kind.toNat else 0) + (if h.phase then 4 else 0)

theorem got_cell {w w1 : World} {x : Int} {F g : Nat} (hg : g = w1.heap.size) (hc : Chg none_ w w1) (hx : x = (F : Int)) : GotBytes w [F] (.returned (.slice (some ⟨g, 0, none⟩) 1 1)) (w1.alloc (.cells #[.int .u8 x] 5)) := by
  subst hx; subst hg
  exact got_row (hc.alloc _) (Row.new w1 5 (u8s [F])) hc.size rfl (by show 1 ≤ maxLen; decide)

set_option maxRecDepth 100000 in
theorem firstOf_any (h : Hd) (v : Four) (w w0 : World) (Tv : Nat → Prop) (hd : Sl w0 Tv v.c h.cut) (hc1 : 1 ≤ h.cut.length) (hc4 : h.cut.length ≤ 4) (hk : h.kind = 0 ∨ h.kind = 2) :
    Calls Tryd.prog 26 #[aggH h v] w (GotBytes w [firstM h]) := by
  unfold aggH
  obtain ⟨C, c', e7, hcl, _⟩ := hd
  have h0 := cH_0 h v
  have h1 := cH_1 h v
  have h2 := cH_2 h v
  have h7 := cH_7 h v
  rw [e7] at h7
  clear e7
  generalize cellsH h v = cs at *
  have HF : Hid (firstM h = 64 + (h.cut.length - 1) + (if h.long then 128 + 16 * h.kind.toNat else 0) + (if h.phase then 4 else 0)) := rfl
  generalize firstM h = F at *
  generalize h.cut.length = c at *
  generalize h.long = long at *
  generalize h.phase = phase at *
  generalize h.kind = kind at *
  have HC := Lib.hid ((Chg.refl none_ w).alloc (.cells cs.toArray 25))
  have hcs : c = 1 ∨ c = 2 ∨ c = 3 ∨ c = 4 := by omega
  have HCS := Lib.hid hcs
  clear hcs
  rcases hk with rfl | rfl <;> cases long <;> cases phase
  all_goals
    go_enter Tryd.func26, Tryd.ntmps26
    go_wp2
    go_ret
    refine got_cell (w1 := w.alloc (.cells cs.toArray 25)) (by simp) HC.out ?_
    rw [HF.out]
    rcases HCS.out with rfl | rfl | rfl | rfl <;> decide +kernel
end Go.Proofs.YtfecmloaopbogaaDoor
