/- Texts joined: Base, Flat, Aloc, Bytes, V8Row, Arr, Copy, Fresh, Own, Str, StrView, High, EqTake, EqU8, OpenU8, Same, Round. -/
import Derived.WalkKit
import Derived.Maps.AppendAt
import Derived.Deep.AppendLies
import Derived.Deep.Draws
import Derived.ScopeJumps
import Derived.Deep.MidRow
import Derived.BigFrame
import Derived.Test.YtfpflhcabjcamaaDoorProg
import Derived.Deep.RegionHeld3
import Derived.Laws.CopyOwn
import Derived.Laws.IdiomStrings
import Derived.Lib.SmallJoins
import Derived.BigQuiet
import Derived.Deep.QuietTactic
import Derived.Lib.Hide
import Derived.ChangeKeysEq
import Derived.ChangeOld
import Derived.ChangeSlices
import Derived.OpenShut
import Derived.Deep.Fields
import Derived.RangeFuncFrom
import Derived.RangeFuncCalls
import Derived.OrdersIn

namespace Go.Proofs.YtfpflhcabjcamaaDoor
open Go.RowKit

/-- Block g holds just these cells, none frozen. -/
def Row (w : World) (g : Nat) (e : TypeId) (cs : List Value) : Prop := w.heap[g]? = some (.cells cs.toArray e (0, 0))

/-- All that was there is as it was, but for the blocks in S; blocks may have come. -/
structure Chg (S : Nat → Prop) (w w' : World) : Prop where
  os : w'.os = w.os
  tape : w'.tape = w.tape
  output : w'.output = w.output
  size : w.heap.size ≤ w'.heap.size
  block : ∀ k, k < w.heap.size → ¬ S k → w'.heap[k]? = w.heap[k]?

/-- A slice's address A leads to the n cells xs, in a block of T. -/
def View (w : World) (T : Nat → Prop) (A : Option Addr) (n : Nat) (xs : List Value) : Prop :=
  xs.length = n ∧ (0 < n → ∃ b o, A = some ⟨b, o, none⟩ ∧ b < w.heap.size ∧ T b ∧ ∀ j, j < n → w.cell? ⟨b, o + j, none⟩ = xs[j]?)

def none_ : Nat → Prop := fun _ => False

section
variable {w w' w1 w2 : World} {S S' T T' : Nat → Prop} {g : Nat} {e : TypeId} {cs : List Value}

theorem Chg.refl (S : Nat → Prop) (w : World) : Chg S w w := ⟨rfl, rfl, rfl, Nat.le_refl _, fun _ _ _ => rfl⟩
theorem Chg.trans (h : Chg S w w1) (k : Chg S w1 w2) : Chg S w w2 :=
  ⟨k.os.trans h.os, k.tape.trans h.tape, k.output.trans h.output, Nat.le_trans h.size k.size, fun i hi hs => (k.block i (Nat.lt_of_lt_of_le hi h.size) hs).trans (h.block i hi hs)⟩
/-- The second step may turn what the first one laid. -/
theorem Chg.andThen (h : Chg S w w1) (k : Chg S' w1 w2) (hs : ∀ b, b < w.heap.size → S' b → S b) : Chg S w w2 :=
  ⟨k.os.trans h.os, k.tape.trans h.tape, k.output.trans h.output, Nat.le_trans h.size k.size, fun i hi hn => (k.block i (Nat.lt_of_lt_of_le hi h.size) (fun x => hn (hs i hi x))).trans (h.block i hi hn)⟩
theorem Chg.mono (h : Chg S w w') (hs : ∀ b, b < w.heap.size → S b → S' b) : Chg S' w w' :=
  ⟨h.os, h.tape, h.output, h.size, fun i hi hn => h.block i hi (fun x => hn (hs i hi x))⟩
theorem Chg.drew (h : Chg S w w') : Chg S w w'.drew := ⟨h.os, h.tape, h.output, h.size, h.block⟩
theorem Chg.drewN (h : Chg S w w') (n : Nat) : Chg S w (w'.drewN n) := ⟨h.os, h.tape, h.output, h.size, h.block⟩
theorem Chg.undrew (h : Chg S w.drew w') : Chg S w w' := ⟨h.os, h.tape, h.output, h.size, h.block⟩
theorem Chg.undrewN {k : Nat} (h : Chg S (w.drewN k) w') : Chg S w w' := ⟨h.os, h.tape, h.output, h.size, h.block⟩
theorem Chg.alloc (h : Chg S w w') (o : Obj) : Chg S w (w'.alloc o) :=
  ⟨h.os, h.tape, h.output, by have := h.size; simp; omega, fun i hi hn => (Below.heap_alloc w' o i (Nat.lt_of_lt_of_le hi h.size)).trans (h.block i hi hn)⟩
theorem Chg.setCell (h : Chg S w w') {p : Addr} (hp : p.block < w.heap.size → S p.block) (u : Value) : Chg S w (w'.setCell p u) :=
  ⟨h.os, h.tape, h.output, by have := h.size; simpa [World.setCell] using this, fun i hi hn => (Below.heap_setCell w' p u i (fun e => hn (e ▸ hp (e ▸ hi)))).trans (h.block i hi hn)⟩
theorem Chg.grown (h : Chg S w w1) {row : Option Nat} (hg : w1.grownBy w2 row) (hr : ∀ k, row = some k → k < w.heap.size → S k) : Chg S w w2 :=
  ⟨hg.os.trans h.os, hg.tape.trans h.tape, hg.output.trans h.output, Nat.le_trans h.size hg.size, fun i hi hn => (hg.block i (Nat.lt_of_lt_of_le hi h.size) (fun x => hn (hr i x.symm hi))).trans (h.block i hi hn)⟩
theorem Chg.of_grown {row : Option Nat} (hg : w.grownBy w' row) : Chg (fun k => row = some k) w w' := ⟨hg.os, hg.tape, hg.output, hg.size, fun i hi hn => hg.block i hi (fun x => hn x.symm)⟩
theorem Chg.of_below {B : Nat} (hb : Below B w w') : Chg (fun k => B ≤ k) w w' := ⟨hb.os, hb.tape, hb.output, hb.size, fun i _ hn => hb.block i (by omega)⟩
theorem Chg.below (h : Chg S w w') {B : Nat} (hB : B ≤ w.heap.size) (hs : ∀ b, S b → B ≤ b) : Below B w w' :=
  ⟨h.os, h.tape, h.output, h.size, fun i hi => h.block i (by omega) (fun x => by have := hs i x; omega)⟩
theorem Chg.cell (h : Chg S w w') {b : Nat} (o : Nat) (hb : b < w.heap.size) (hs : ¬ S b) : w'.cell? ⟨b, o, none⟩ = w.cell? ⟨b, o, none⟩ := World.cell?_of_block (h.block b hb hs)

theorem Row.lt (h : Row w g e cs) : g < w.heap.size := by
  rcases Nat.lt_or_ge g w.heap.size with hlt | hge
  · exact hlt
  · unfold Row at h; rw [Array.getElem?_eq_none hge] at h; cases h
theorem Row.cell (h : Row w g e cs) (i : Nat) : w.cell? ⟨g, i, none⟩ = cs[i]? := by
  rw [cell_of_row w g i _ _ _ h]; simp
theorem Row.frozen (h : Row w g e cs) (i : Nat) : w.frozen? ⟨g, i, none⟩ = false := by
  unfold Row at h
  simp [World.frozen?, h]
theorem Row.new (w : World) (e : TypeId) (cs : List Value) : Row (w.alloc (.cells cs.toArray e)) w.heap.size e cs := heap_alloc_new w _
theorem Row.drew (h : Row w g e cs) : Row w.drew g e cs := h
theorem Row.drewN (h : Row w g e cs) (n : Nat) : Row (w.drewN n) g e cs := h
theorem Row.alloc (h : Row w g e cs) (o : Obj) : Row (w.alloc o) g e cs := (Below.heap_alloc w o g h.lt).trans h
theorem Row.set (h : Row w g e cs) (i : Nat) (u : Value) : Row (w.setCell ⟨g, i, none⟩ u) g e (cs.set i u) := by
  unfold Row at h ⊢
  simp [World.setCell, Array.getElem?_modify, h]
theorem Row.far (h : Row w g e cs) {p : Addr} (hp : g ≠ p.block) (u : Value) : Row (w.setCell p u) g e cs := (Below.heap_setCell w p u g hp).trans h
theorem Row.chg (h : Row w g e cs) (hc : Chg S w w') (hs : ¬ S g) : Row w' g e cs := (hc.block g h.lt hs).trans h
/-- What the call has made by 'make' is a row known whole. -/
theorem Row.of_made {base n : Nat} {xs : List Value} (h : w.ownsRow base e 1 (.slice (some ⟨g, 0, none⟩) n n) n xs) : Row w g e xs := by
  rcases h.2 with ⟨h1, _⟩ | ⟨g', cap, cur, hv, _, hh, _, _, hs, ht⟩
  · cases h1
  · injection hv with h1 h2 h3
    injection h1 with h1
    injection h1 with h1
    subst h1; subst h3
    unfold Row
    rw [hh]
    have : cur.toList = xs := by
      rw [← ht, List.take_of_length_le (by simp at hs ⊢; omega)]
    rw [← this]
theorem Row.of_own {base n cap : Nat} {xs : List Value} (h : w.ownsRow base e 1 (.slice (some ⟨g, 0, none⟩) n cap) n xs) : ∃ sp, Row w g e (xs ++ sp) ∧ base ≤ g := by
  rcases h.2 with ⟨h1, _⟩ | ⟨g', cap', cur, hv, hb, hh, _, _, hs, ht⟩
  · cases h1
  · injection hv with h1 h2 h3
    injection h1 with h1
    injection h1 with h1
    subst h1
    refine ⟨cur.toList.drop (n * 1), ?_, hb⟩
    unfold Row
    rw [hh, ← ht, List.take_append_drop]

theorem View.none_ (w : World) (T : Nat → Prop) (A : Option Addr) : View w T A 0 [] := ⟨rfl, fun h => absurd h (by omega)⟩
theorem View.chg {A : Option Addr} {n : Nat} {xs : List Value} (h : View w T A n xs) (hc : Chg S w w') (hs : ∀ b, T b → ¬ S b) : View w' T A n xs :=
  ⟨h.1, fun hn => by
    obtain ⟨b, o, ha, hb, ht, hcell⟩ := h.2 hn
    exact ⟨b, o, ha, Nat.lt_of_lt_of_le hb hc.size, ht, fun j hj => (hc.cell _ hb (hs b ht)).trans (hcell j hj)⟩⟩
theorem View.mono {A : Option Addr} {n : Nat} {xs : List Value} (h : View w T A n xs) (hs : ∀ b, b < w.heap.size → T b → T' b) : View w T' A n xs :=
  ⟨h.1, fun hn => by
    obtain ⟨b, o, ha, hb, ht, hcell⟩ := h.2 hn
    exact ⟨b, o, ha, hb, hs b hb ht, hcell⟩⟩
theorem View.drew {A : Option Addr} {n : Nat} {xs : List Value} (h : View w T A n xs) : View w.drew T A n xs := h
theorem View.drewN {A : Option Addr} {n : Nat} {xs : List Value} (h : View w T A n xs) (k : Nat) : View (w.drewN k) T A n xs := h
theorem View.row {n : Nat} (h : Row w g e cs) (hn : n ≤ cs.length) (hT : T g) : View w T (some ⟨g, 0, none⟩) n (cs.take n) :=
  ⟨by simp; omega, fun _ => ⟨g, 0, rfl, h.lt, hT, fun j hj => by rw [h.cell, List.getElem?_take, if_pos hj]; simp⟩⟩
/-- A slice that the call itself grew. -/
theorem View.own {base n : Nat} {v : Value} {xs : List Value} (h : w.ownsRow base e 1 v n xs) (hT : ∀ b, base ≤ b → T b) : ∃ A cap, v = .slice A n cap ∧ n ≤ cap ∧ cap ≤ maxLen ∧ View w T A n xs := by
  rcases h.2 with ⟨rfl, rfl⟩ | ⟨g, cap, cur, rfl, hb, hh, hnc, hm, hs, ht⟩
  · have hx : xs = [] := List.eq_nil_of_length_eq_zero (by simpa using h.1)
    subst hx
    exact ⟨none, 0, rfl, Nat.le_refl _, Nat.zero_le _, View.none_ w T none⟩
  · refine ⟨_, _, rfl, hnc, hm, by simpa using h.1, fun hn => ⟨g, 0, rfl, (Array.getElem?_eq_some_iff.1 hh).1, hT g hb, fun j hj => ?_⟩⟩
    rw [cell_of_row w g (0 + j) _ _ _ hh, ← ht, List.getElem?_take, if_pos (by omega)]
    simp
theorem View.take {A : Option Addr} {n k : Nat} {xs : List Value} (h : View w T A n xs) (hk : k ≤ n) : View w T A k (xs.take k) :=
  ⟨by rw [List.length_take, h.1]; omega, fun hn => by
    obtain ⟨b, o, ha, hb, ht, hcell⟩ := h.2 (by omega)
    exact ⟨b, o, ha, hb, ht, fun j hj => by rw [hcell j (by omega), List.getElem?_take, if_pos hj]⟩⟩
theorem addr_add (b o k : Nat) : (⟨b, o, none⟩ : Addr).add k = ⟨b, o + k, none⟩ := by unfold Addr.add; split <;> simp_all
theorem View.drop {A : Option Addr} {n k : Nat} {xs : List Value} (h : View w T A n xs) : View w T (A.map (·.add k)) (n - k) (xs.drop k) :=
  ⟨by rw [List.length_drop, h.1], fun hn => by
    obtain ⟨b, o, ha, hb, ht, hcell⟩ := h.2 (by omega)
    subst ha
    exact ⟨b, o + k, by simp [addr_add], hb, ht, fun j hj => by rw [Nat.add_assoc, hcell _ (by omega), List.getElem?_drop]⟩⟩
theorem View.setCell {A : Option Addr} {n : Nat} {xs : List Value} (h : View w T A n xs) (p : Addr) (hp : ¬ T p.block) (u : Value) : View (w.setCell p u) T A n xs :=
  h.chg (S := (· = p.block)) ((Chg.refl (· = p.block) w).setCell (p := p) (fun _ => rfl) u) (fun _ hb e => hp (e ▸ hb))
end

/-- Bytes as values. -/
def u8s (l : List Nat) : List Value := l.map fun (x : Nat) => Value.int .u8 (x : Int)
@[simp] theorem u8s_length (l : List Nat) : (u8s l).length = l.length := by simp [u8s]
theorem u8s_get (l : List Nat) (i : Nat) : (u8s l)[i]? = l[i]?.map fun (x : Nat) => Value.int .u8 (x : Int) := by simp [u8s]
theorem u8s_one (l : List Nat) : ∀ u ∈ u8s l, u.oneCell' = true := by
  intro u hu
  simp only [u8s, List.mem_map] at hu
  obtain ⟨x, _, rfl⟩ := hu
  rfl

theorem View.at_ {w : World} {T : Nat → Prop} {A : Option Addr} {n i : Nat} {l : List Nat} (h : View w T A n (u8s l)) (hi : i < n) :
    ∃ b o, A = some ⟨b, o, none⟩ ∧ b < w.heap.size ∧ T b ∧ w.cell? ⟨b, o + i, none⟩ = some (.int .u8 ((l.getD i 0 : Nat) : Int)) := by
  obtain ⟨b, o, ha, hb, ht, hc⟩ := h.2 (by omega)
  have hl : i < l.length := by have := h.1; simp at this; omega
  exact ⟨b, o, ha, hb, ht, by rw [hc i hi, u8s_get]; simp [hl, List.getD]⟩

theorem ret_i64 {a b : Int} (h : a = b) : Ending.returned (.int .i64 a) = .returned (.int .i64 b) := by rw [h]
theorem ret_u64 {a b : Int} (h : a = b) : Ending.returned (.int .u64 a) = .returned (.int .u64 b) := by rw [h]
theorem ret_bool {a b : Bool} (h : a = b) : Ending.returned (.bool a) = .returned (.bool b) := by rw [h]


/-! A slice of integers that came in. -/
def IsRow (k : IntKind) (w : World) (a : Option Addr) (len cap : Nat) (zs : List Int) : Prop :=
  (a = none ∧ len = 0 ∧ cap = 0 ∧ zs = []) ∨
  ∃ x, a = some x ∧ len ≤ cap ∧ cap ≤ maxLen ∧ zs.length = cap ∧ (∀ i, i < zs.length → w.cell? (x.add i) = some (.int k (zs.getD i 0))) ∧ ∀ n ∈ zs, (Lit.int k n).wf = true

/-- Numbers as values. -/
def ints (k : IntKind) (l : List Int) : List Value := l.map fun (x : Int) => Value.int k x

theorem IsRow.view {k : IntKind} {w : World} {a : Option Addr} {len cap : Nat} {zs : List Int} (h : IsRow k w a len cap zs) :
    ∃ xs : List Int, xs.length = len ∧ len ≤ cap ∧ cap ≤ maxLen ∧ (∀ x ∈ xs, (Lit.int k x).wf = true) ∧ View w (fun _ => True) a xs.length (ints k xs) := by
  rcases h with ⟨rfl, rfl, rfl, rfl⟩ | ⟨x, rfl, hl, hm, hz, hc, hw⟩
  · exact ⟨[], rfl, Nat.le_refl _, Nat.zero_le _, by simp, View.none_ _ _ _⟩
  · have hlen : (zs.take len).length = len := by rw [List.length_take]; omega
    refine ⟨zs.take len, hlen, hl, hm, fun n hn => hw n (List.mem_of_mem_take hn), by simp [ints], fun hn => ?_⟩
    have h0 := hc 0 (by omega)
    obtain ⟨b, o, sp⟩ := x
    have hsp : sp = none := by
      have := World.cell?_spot h0
      simpa [Addr.add] using this
    subst hsp
    refine ⟨b, o, rfl, World.block_lt_of_cell? w ⟨b, o, none⟩ (by simpa [addr_add] using h0), trivial, fun j hj => ?_⟩
    have := hc j (by omega)
    rw [addr_add] at this
    rw [this]
    have hj2 : j < zs.length := by omega
    simp [ints, List.getElem?_take, hj2, List.getD_eq_getElem?_getD]
    omega

theorem IsRow.u8 {w : World} {a : Option Addr} {len cap : Nat} {zs : List Int} (h : IsRow .u8 w a len cap zs) :
    ∃ xs : List Nat, xs.length = len ∧ len ≤ cap ∧ cap ≤ maxLen ∧ (∀ x ∈ xs, x < 256) ∧ View w (fun _ => True) a xs.length (u8s xs) := by
  obtain ⟨xs, h1, h2, h3, h4, h5⟩ := h.view
  have hw : ∀ x ∈ xs, 0 ≤ x ∧ x ≤ 255 := fun x hx => by
    have := h4 x hx
    rw [show (Lit.int .u8 x).wf = (decide (0 ≤ x) && decide (x ≤ 255)) from rfl] at this
    simpa using this
  refine ⟨xs.map Int.toNat, by simpa using h1, h2, h3, ?_, ?_⟩
  · intro x hx
    obtain ⟨y, hy, rfl⟩ := List.mem_map.1 hx
    have := hw y hy
    omega
  · have e : u8s (xs.map Int.toNat) = ints .u8 xs := by
      simp only [u8s, ints, List.map_map]
      apply List.map_congr_left
      intro x hx
      have := hw x hx
      simp only [Function.comp_apply]
      rw [Int.toNat_of_nonneg this.1]
    rw [e, List.length_map]
    exact h5

/-! append onto a slice of the call's own, of whatever slice is in view (nil, empty or not). -/
section
variable {P : Program}

theorem View.nil_len {w : World} {T : Nat → Prop} {n : Nat} {xs : List Value} (h : View w T none n xs) : n = 0 ∧ xs = [] := by
  rcases Nat.eq_zero_or_pos n with h0 | h0
  · exact ⟨h0, List.eq_nil_of_length_eq_zero (h.1.trans h0)⟩
  · obtain ⟨b, o, ha, _⟩ := h.2 h0
    cases ha

theorem View.cells {w : World} {T : Nat → Prop} {ad : Addr} {n : Nat} {xs : List Value} (h : View w T (some ad) n xs) : ∀ j u, xs[j]? = some u → w.cell? (ad.add j) = some u := by
  intro j u hu
  have hj : j < n := by
    rcases Nat.lt_or_ge j xs.length with hj | hj
    · exact h.1 ▸ hj
    · rw [List.getElem?_eq_none hj] at hu; cases hu
  obtain ⟨b, o, ha, _, _, hc⟩ := h.2 (by omega)
  injection ha with ha
  subst ha
  rw [addr_add, hc j hj]; exact hu

theorem run_append_view (w : World) (t ty e : TypeId) (i : TypeInfo) (z : Value) (bytes : Nat) (ht : P.underlying t = some (.slice e)) (hi : P.info? e = some i) (hz : i.zero = some z)
    (hsize : i.size = 1) (hby : i.bytes = bytes) (hzs : z.cells.size = 1) (base : Nat) (v : Value) (n : Nat) (xs : List Value) (hown : w.ownsRow base e 1 v n xs)
    (T : Nat → Prop) (A : Option Addr) (m c : Nat) (news : List Value) (hv : View w T A m news) (h1 : ∀ u ∈ news, u.oneCell' = true)
    (h63 : n + m ≤ maxLen) (hbytes : (n + m) * bytes ≤ 140737488355328) (hbase : base ≤ w.heap.size) :
    ∃ v' w', (Builtin.append_ #[t, t] ty #[v, .slice A m c]).run P w = .ok v' w' ∧ w'.ownsRow base e 1 v' (n + m) (xs ++ news) ∧ w.grownBy w' v.ownBlock ∧ (v'.ownBlock = v.ownBlock ∨ v'.ownBlock = some w.heap.size) := by
  rcases A with _ | ad
  · obtain ⟨rfl, rfl⟩ := hv.nil_len
    refine ⟨v, w, ?_, by simpa using hown, ⟨rfl, rfl, rfl, Nat.le_refl _, fun _ _ _ => rfl⟩, .inl rfl⟩
    rcases hown.2 with ⟨rfl, rfl⟩ | ⟨g, cap, cur, rfl, _, _, hnc, _⟩
    · simp [Builtin.append_, run_underlying ht, sizeOf, typeInfo, hi, Builtin.lenOf, Builtin.firstCells]
    · simp [Builtin.append_, run_underlying ht, sizeOf, typeInfo, hi, Builtin.lenOf, Builtin.firstCells, hnc, storeCells]
  · obtain ⟨v', w', hr, h2, h3, _, h5⟩ := run_append_own_at (P := P) w base t ty e i z 1 bytes ht hi hz hsize hby hzs (by omega) v n xs hown ad m c news (by rw [hv.1]; omega) hv.cells h1 h63 hbytes hbase
    exact ⟨v', w', hr, h2, h3, h5⟩

theorem wp_append_view {w : World} {o : Oper} {a : Act} {K : Act → World → Prop} {Q : Exit → Act → World → Prop} (s x : Operand) (t : TypeId)
    (ho : o.op = .call { callee := .builtin .append, args := #[s, x], argTypes := #[t, t] })
    (e : TypeId) (i : TypeInfo) (z : Value) (bytes : Nat) (ht : P.underlying t = some (.slice e)) (hi : P.info? e = some i) (hz : i.zero = some z)
    (hsize : i.size = 1) (hby : i.bytes = bytes) (hzs : z.cells.size = 1) (base : Nat) (v : Value) (n : Nat) (xs : List Value) (hs : a.eval s = v) (hown : w.ownsRow base e 1 v n xs)
    (T : Nat → Prop) (A : Option Addr) (m c : Nat) (news : List Value) (hx : a.eval x = .slice A m c) (hv : View w T A m news) (h1 : ∀ u ∈ news, u.oneCell' = true)
    (h63 : n + m ≤ maxLen) (hbytes : (n + m) * bytes ≤ 140737488355328) (hbase : base ≤ w.heap.size)
    (h : ∀ v' w', w'.ownsRow base e 1 v' (n + m) (xs ++ news) → w.grownBy w' v.ownBlock → (v'.ownBlock = v.ownBlock ∨ v'.ownBlock = some w.heap.size) → K (a.put o.dst v') w') : o.wp P a w K Q := by
  obtain ⟨v', w', hr, h2, h3, h4⟩ := run_append_view (P := P) w t o.type e i z bytes ht hi hz hsize hby hzs base v n xs hown T A m c news hv h1 h63 hbytes hbase
  unfold Oper.wp execOp
  simp only [ho, resolve, invoke, builtin, Sem.run_bind, Sem.run_pure, Result.andThen_ok, List.map_toArray, List.map_cons, List.map_nil, hs, hx, hr]
  exact h v' w' h2 h3 h4

/-- At a plain region's operations: behind 'at_builtin'. -/
theorem wpList_append_view {w : World} {ops : Array Oper} {rest : List Oper} {o : Oper} {a : Act} {Q : Exit → Act → World → Prop} (hgd : o.guard = none) (s x : Operand) (t : TypeId)
    (ho : o.op = .call { callee := .builtin .append, args := #[s, x], argTypes := #[t, t] })
    (e : TypeId) (i : TypeInfo) (z : Value) (bytes : Nat) (ht : P.underlying t = some (.slice e)) (hi : P.info? e = some i) (hz : i.zero = some z)
    (hsize : i.size = 1) (hby : i.bytes = bytes) (hzs : z.cells.size = 1) (base : Nat) (v : Value) (n : Nat) (xs : List Value) (hs : a.eval s = v) (hown : w.ownsRow base e 1 v n xs)
    (T : Nat → Prop) (A : Option Addr) (m c : Nat) (news : List Value) (hx : a.eval x = .slice A m c) (hv : View w T A m news) (h1 : ∀ u ∈ news, u.oneCell' = true)
    (h63 : n + m ≤ maxLen) (hbytes : (n + m) * bytes ≤ 140737488355328) (hbase : base ≤ w.heap.size)
    (h : ∀ v' w', w'.ownsRow base e 1 v' (n + m) (xs ++ news) → w.grownBy w' v.ownBlock → (v'.ownBlock = v.ownBlock ∨ v'.ownBlock = some w.heap.size) → wpList P ops Q rest (a.put o.dst v') w') : wpList P ops Q (o :: rest) a w :=
  wpList_plain hgd fun _ hK => wp_append_view s x t ho e i z bytes ht hi hz hsize hby hzs base v n xs hs hown T A m c news hx hv h1 h63 hbytes hbase fun v' w' h2 h3 h4 => hK _ _ (h v' w' h2 h3 h4)

/-- At a step of a region that draws its order. -/
theorem step_append_view {w : World} {ops : Array Oper} {o : Oper} {a : Act} {K : Act → World → Prop} {Q : Exit → Act → World → Prop} {E : Prop} (hgd : o.guard = none) (s x : Operand) (t : TypeId)
    (ho : o.op = .call { callee := .builtin .append, args := #[s, x], argTypes := #[t, t] })
    (e : TypeId) (i : TypeInfo) (z : Value) (bytes : Nat) (ht : P.underlying t = some (.slice e)) (hi : P.info? e = some i) (hz : i.zero = some z)
    (hsize : i.size = 1) (hby : i.bytes = bytes) (hzs : z.cells.size = 1) (base : Nat) (v : Value) (n : Nat) (xs : List Value) (hs : a.eval s = v) (hown : w.ownsRow base e 1 v n xs)
    (T : Nat → Prop) (A : Option Addr) (m c : Nat) (news : List Value) (hx : a.eval x = .slice A m c) (hv : View w T A m news) (h1 : ∀ u ∈ news, u.oneCell' = true)
    (h63 : n + m ≤ maxLen) (hbytes : (n + m) * bytes ≤ 140737488355328) (hbase : base ≤ w.heap.size)
    (h : ∀ v' w', w'.ownsRow base e 1 v' (n + m) (xs ++ news) → w.grownBy w' v.ownBlock → (v'.ownBlock = v.ownBlock ∨ v'.ownBlock = some w.heap.size) → K (a.put o.dst v') w') :
    if Region.wanted o (yielded ops a.tmps) = true then Oper.wp P o a w K Q else E := by
  have hw : Region.wanted o (yielded ops a.tmps) = true := by simp [Region.wanted, hgd]
  rw [if_pos hw]
  exact wp_append_view s x t ho e i z bytes ht hi hz hsize hby hzs base v n xs hs hown T A m c news hx hv h1 h63 hbytes hbase h
end

/-! A scope that is left forward alone: at the goto the walk goes on behind the label. -/
section
variable {P : Program} {a : Act} {w : World} {Q : Exit → Act → World → Prop}
theorem wp_scope_fwd {c rest : Code} (l : Nat) (hf : findLabel c l = some rest) (h : c.wp P (Exit.jump l (fun a' w' => rest.wp P (Exit.noGoto Q) a' w') Q) a w) : (Code.scope c).wp P Q a w := by
  refine wp_scope_jumps l _ (fun _ _ => 0) hf h fun a' w' hJ => Code.wp_mono (fun e a'' w'' hq => ?_) hJ
  cases e <;> first | exact hq | exact hq.elim
theorem jump_fwd {l : Nat} {rest : Code} (h : rest.wp P (Exit.noGoto Q) a w) : Exit.jump l (fun a' w' => rest.wp P (Exit.noGoto Q) a' w') Q (.goto l) a w := ⟨rfl, h⟩
theorem jump_ret {l : Nat} {J : Act → World → Prop} : Exit.jump l J Q .ret a w = Q .ret a w := rfl
theorem jump_normal {l : Nat} {J : Act → World → Prop} : Exit.jump l J Q .normal a w = Q .normal a w := rfl
end
end Go.Proofs.YtfpflhcabjcamaaDoor

namespace Go.Proofs.YtfpflhcabjcamaaDoor
open Go.RowKit

section
variable {P : Program} {w w' : World} {g : Nat} {e : TypeId} {cs : List Value}

theorem Row.range (h : Row w g e cs) : w.rangeAt g 0 cs := fun j v hv => by rw [Nat.zero_add, h.cell]; exact hv
theorem Row.rangeMid (h : Row w g e cs) (o : Nat) (xs : List Value) (hx : ∀ j v, xs[j]? = some v → cs[o + j]? = some v) : w.rangeAt g o xs := fun j v hv => by rw [h.cell]; exact hx j v hv
theorem Row.there (h : Row w g e cs) (o n : Nat) (hn : o + n ≤ cs.length) : w.there g o n := fun j hj => ⟨by rw [h.cell]; simp; omega, h.frozen _⟩
theorem loadAt_row (h : Row w g e cs) {ty : TypeId} {d : TypeDesc} (hu : P.underlying ty = some d) (hd : d.isRow = true) (hi : (P.info? ty).map (·.size) = some cs.length) :
    (Instr.loadAt ty (.pointer (some ⟨g, 0, none⟩))).run P w = .ok (.agg cs.toArray) w := run_loadAt_mid w g 0 ty cs d h.range hu hd hi

theorem Row.setCells (xs : List Value) : ∀ {w : World} {cs : List Value} (o : Nat), Row w g e cs → Row (w.setCells g o xs) g e (xs.zipIdx.foldl (fun l x => l.set (o + x.2) x.1) cs) := by
  induction xs with
  | nil => intro w cs o h; exact h
  | cons v r ih =>
    intro w cs o h
    have := ih (o + 1) (h.set o v)
    simp only [World.setCells, List.zipIdx_cons, List.foldl_cons, Nat.add_zero]
    rw [List.zipIdx_succ, List.foldl_map]
    simpa [Nat.add_assoc, Nat.add_comm 1] using this

theorem setList_all (xs : List Value) : ∀ (ys : List Value) (pre : List Value), xs.length = ys.length → xs.zipIdx.foldl (fun l x => l.set (pre.length + x.2) x.1) (pre ++ ys) = pre ++ xs := by
  induction xs with
  | nil => intro ys pre h; have : ys = [] := List.eq_nil_of_length_eq_zero h.symm; subst this; simp
  | cons x r ih =>
    intro ys pre h
    cases ys with
    | nil => cases h
    | cons y ys =>
      have hl : r.length = ys.length := by simpa using h
      have := ih ys (pre ++ [x]) hl
      rw [List.zipIdx_cons, List.foldl_cons, List.zipIdx_succ, List.foldl_map]
      simp only [Nat.add_zero]
      have e1 : (pre ++ y :: ys).set pre.length x = pre ++ [x] ++ ys := by simp
      rw [e1]
      simp only [List.length_append, List.length_cons, List.length_nil, Nat.zero_add] at this
      simp only [List.append_assoc, List.cons_append, List.nil_append] at this ⊢
      rw [← this]
      congr 1
      funext l x
      rw [show pre.length + (x.2 + 1) = pre.length + 1 + x.2 from by omega]

/-- A whole struct is stored into the row that it is. -/
theorem Row.store (h : Row w g e cs) (xs : List Value) (hl : xs.length = cs.length) : Row (w.setCells g 0 xs) g e xs := by
  have := h.setCells xs 0
  have e1 := setList_all xs cs [] hl
  simp only [List.length_nil, List.nil_append] at e1
  rwa [e1] at this

/-- A part of a row is stored. -/
theorem Row.storeMid {pre ys post xs : List Value} (h : Row w g e (pre ++ ys ++ post)) (hl : xs.length = ys.length) : Row (w.setCells g pre.length xs) g e (pre ++ xs ++ post) := by
  have := h.setCells xs pre.length
  have e1 := setList_all xs ys pre hl
  have e2 : ∀ (zs : List (Value × Nat)) (l : List Value), (∀ x ∈ zs, pre.length + x.2 < l.length) → zs.foldl (fun l x => l.set (pre.length + x.2) x.1) (l ++ post) = zs.foldl (fun l x => l.set (pre.length + x.2) x.1) l ++ post := by
    intro zs
    induction zs with
    | nil => intro l _; rfl
    | cons z zs ih =>
      intro l hz
      simp only [List.foldl_cons]
      rw [List.set_append_left _ _ (hz z (by simp)), ih]
      intro x hx
      simpa using hz x (by simp [hx])
  rw [e2, e1] at this
  · exact this
  · intro x hx
    have := List.mem_zipIdx hx
    simp only [List.length_append]
    omega

theorem Chg.setCells {S : Nat → Prop} {w0 : World} (xs : List Value) : ∀ {w : World} (o : Nat), Chg S w0 w → (g < w0.heap.size → S g) → Chg S w0 (w.setCells g o xs) := by
  induction xs with
  | nil => intro w o h _; exact h
  | cons v r ih => intro w o h hg; exact ih (o + 1) (h.setCell (p := ⟨g, o, none⟩) hg v) hg

theorem Row.setCells_far {g' : Nat} (xs : List Value) : ∀ {w : World} (o : Nat), Row w g e cs → g ≠ g' → Row (w.setCells g' o xs) g e cs := by
  induction xs with
  | nil => intro w o h _; exact h
  | cons v r ih => intro w o h hg; exact ih (o + 1) (h.far (p := ⟨g', o, none⟩) hg v) hg
end

theorem setCells_size (g : Nat) (xs : List Value) : ∀ (o : Nat) (w : World), (w.setCells g o xs).heap.size = w.heap.size := by
  induction xs with
  | nil => intro o w; rfl
  | cons v r ih => intro o w; rw [World.setCells, ih]; simp [World.setCell]

section
variable {P : Program} {ops : Array Oper} {rest : List Oper} {o : Oper} {a : Act} {w : World} {Q : Exit → Act → World → Prop}
/-- A whole struct is read, guarded or not: at the list of a region's operations. -/
theorem wpList_load_Row {ty : TypeId} {x : Operand} (ho : o.op = .load ty x) (hw : Region.wanted o (yielded ops a.tmps) = true) {g : Nat} {e : TypeId} {cs : List Value} {d : TypeDesc} (hx : a.eval x = .pointer (some ⟨g, 0, none⟩)) (h : Row w g e cs)
    (hu : P.underlying ty = some d) (hd : d.isRow = true) (hi : (P.info? ty).map (·.size) = some cs.length)
    (k : wpList P ops Q rest (a.put o.dst (.agg cs.toArray)) w) : wpList P ops Q (o :: rest) a w :=
  BigFrame.wpList_want hw fun _ hK => wp_load_mid ty x ho g 0 hx cs d h.range hu hd hi (hK _ _ k)
theorem wpList_load_Mid {ty : TypeId} {x : Operand} (ho : o.op = .load ty x) (hw : Region.wanted o (yielded ops a.tmps) = true) {b off : Nat} {cs : List Value} {d : TypeDesc} (hx : a.eval x = .pointer (some ⟨b, off, none⟩)) (h : w.rangeAt b off cs)
    (hu : P.underlying ty = some d) (hd : d.isRow = true) (hi : (P.info? ty).map (·.size) = some cs.length)
    (k : wpList P ops Q rest (a.put o.dst (.agg cs.toArray)) w) : wpList P ops Q (o :: rest) a w :=
  BigFrame.wpList_want hw fun _ hK => wp_load_mid ty x ho b off hx cs d h hu hd hi (hK _ _ k)
/-- A whole struct is stored into a row. -/
theorem wpList_store_Row {ty : TypeId} {x y : Operand} (ho : o.op = .store ty x y) (hw : Region.wanted o (yielded ops a.tmps) = true) {g : Nat} {e : TypeId} {cs xs : List Value} (hx : a.eval x = .pointer (some ⟨g, 0, none⟩)) (h : Row w g e cs)
    (hy : a.eval y = .agg xs.toArray) (hl : xs.length = cs.length) (hi : (P.info? ty).map (·.size) = some xs.length) (h1 : xs.all (·.oneCell') = true)
    (k : ∀ w', Row w' g e xs → (∀ S w0, Chg S w0 w → (g < w0.heap.size → S g) → Chg S w0 w') → w'.heap.size = w.heap.size → wpList P ops Q rest (a.put o.dst undef) w') : wpList P ops Q (o :: rest) a w :=
  BigFrame.wpList_want hw fun _ hK => wp_store_mid ty x y ho g 0 xs.toArray hx hy (h.there 0 _ (by simp; omega)) (by simpa using hi) (by simpa using h1)
    (hK _ _ (k _ (by simpa using h.store xs hl) (fun S w0 hc hg => by simpa using hc.setCells xs 0 hg) (setCells_size _ _ _ _)))
end

theorem Row.new2 (w : World) (o : Obj) (e : TypeId) (cs : List Value) : Row ((w.alloc o).alloc (.cells cs.toArray e)) (w.heap.size + 1) e cs := heap_alloc2_new w _ _
theorem Row.new1 (w : World) (o : Obj) (e : TypeId) (cs : List Value) : Row ((w.alloc (.cells cs.toArray e)).alloc o) w.heap.size e cs := (Row.new w e cs).alloc o

/-- A struct is handed back out of its cell. -/
theorem ret_row {P : Program} {fn : Func} {p : Tmp} {ty : TypeId} (hres : fn.results = #[.cell p ty]) {a : Act} {w : World} {g : Nat} {e : TypeId} {cs : List Value} {d : TypeDesc} {R : Ending → World → Prop}
    (hp : a.tmps.getD p undef = .pointer (some ⟨g, 0, none⟩)) (hr : Row w g e cs) (hu : P.underlying ty = some d) (hd : d.isRow = true) (hi : (P.info? ty).map (·.size) = some cs.length) (hdef : a.defers = [])
    (h : R (.returned (.agg cs.toArray)) w) : bodyPost P fn R Exit.ret a w :=
  bodyPost_ret (results_cell_row hres a.tmps w g e cs.toArray (0, 0) d hp hr hu (by cases d <;> first | rfl | cases hd) (by simpa using hi)) hdef h

theorem setRow_eq (w : World) (g : Nat) (e : TypeId) (cs xs : List Value) (h : Row w g e cs) : Row (w.setRow g xs.toArray) g e xs := by
  unfold Row at h ⊢
  simp [World.setRow, Array.getElem?_modify, h]
end Go.Proofs.YtfpflhcabjcamaaDoor

namespace Go.Proofs.YtfpflhcabjcamaaDoor
open Go.RowKit

section
variable {P : Program} {ops : Array Oper} {rest : List Oper} {o : Oper} {a : Act} {w : World} {Q : Exit → Act → World → Prop}
/-- A variable of an array's or a struct's type is laid. -/
theorem wpList_alloc_Row {ty : TypeId} (ho : o.op = .alloc ty) (hw : Region.wanted o (yielded ops a.tmps) = true) (zs : List Value) (hz : (P.info? ty).map (·.zero) = some (some (.agg zs.toArray)))
    (k : ∀ w', Row w' w.heap.size ty zs → Chg none_ w w' → w'.heap.size = w.heap.size + 1 → wpList P ops Q rest (a.put o.dst (.pointer (some ⟨w.heap.size, 0, none⟩))) w') : wpList P ops Q (o :: rest) a w :=
  BigFrame.wpList_want hw fun _ hK => by
    have k' := hK _ _ (k (w.alloc (.cells zs.toArray ty)) (Row.new w ty zs) ((Chg.refl none_ w).alloc _) (by simp))
    cases hq : P.info? ty with
    | none => rw [hq] at hz; cases hz
    | some i =>
      have hzero : i.zero = some (.agg zs.toArray) := by simpa [hq] using hz
      unfold Oper.wp execOp
      simp [ho, Instr.alloc, zeroValue, typeInfo, newVar, newRow, Sem.run_bind, Sem.run_pure, Result.andThen_ok, hq, hzero, Value.cells]
      exact k'
/-- A value of an array's or a struct's type is boxed. -/
theorem wpList_box_Row {ty : TypeId} {x : Operand} (ho : o.op = .box ty x) (hw : Region.wanted o (yielded ops a.tmps) = true) (zs : List Value) (hx : a.eval x = .agg zs.toArray)
    (k : ∀ w', Row w' w.heap.size ty zs → Chg none_ w w' → w'.heap.size = w.heap.size + 1 → wpList P ops Q rest (a.put o.dst (.pointer (some ⟨w.heap.size, 0, none⟩))) w') : wpList P ops Q (o :: rest) a w :=
  BigFrame.wpList_want hw fun _ hK => by
    have k' := hK _ _ (k (w.alloc (.cells zs.toArray ty)) (Row.new w ty zs) ((Chg.refl none_ w).alloc _) (by simp))
    unfold Oper.wp execOp
    simp [ho, Instr.box, newVar, newRow, Result.andThen_ok, hx, Value.cells]
    exact k'
/-- A variable of an array's or a struct's type is laid: at a bare operation. -/
theorem wp_alloc_row {K : Act → World → Prop} {ty : TypeId} (ho : o.op = .alloc ty) (zs : List Value) (hz : (P.info? ty).map (·.zero) = some (some (.agg zs.toArray)))
    (k : ∀ w', Row w' w.heap.size ty zs → Chg none_ w w' → w'.heap.size = w.heap.size + 1 → K (a.put o.dst (.pointer (some ⟨w.heap.size, 0, none⟩))) w') : Oper.wp P o a w K Q := by
  have k' := k (w.alloc (.cells zs.toArray ty)) (Row.new w ty zs) ((Chg.refl none_ w).alloc _) (by simp)
  cases hq : P.info? ty with
  | none => rw [hq] at hz; cases hz
  | some i =>
    have hzero : i.zero = some (.agg zs.toArray) := by simpa [hq] using hz
    unfold Oper.wp execOp
    simp [ho, Instr.alloc, zeroValue, typeInfo, newVar, newRow, Sem.run_bind, Sem.run_pure, Result.andThen_ok, hq, hzero, Value.cells]
    exact k'
/-- Any operation that lays one block. -/
theorem wp_new_row {K : Act → World → Prop} {v : Nat → Value} {e : TypeId} {cs : List Value} (hrun : ∀ w, (execOp a.eval o).run P w = .ok (.value (v w.heap.size)) (w.alloc (.cells cs.toArray e)))
    (k : ∀ w', Row w' w.heap.size e cs → Chg none_ w w' → w'.heap.size = w.heap.size + 1 → K (a.put o.dst (v w.heap.size)) w') : Oper.wp P o a w K Q := by
  unfold Oper.wp
  rw [hrun w]
  exact k (w.alloc (.cells cs.toArray e)) (Row.new w e cs) ((Chg.refl none_ w).alloc _) (by simp)
/-- A whole struct is read: at a bare operation. -/
theorem wp_load_row {K : Act → World → Prop} {ty : TypeId} {x : Operand} (ho : o.op = .load ty x) {g : Nat} {e : TypeId} {cs : List Value} {d : TypeDesc} (hx : a.eval x = .pointer (some ⟨g, 0, none⟩)) (h : Row w g e cs)
    (hu : P.underlying ty = some d) (hd : d.isRow = true) (hi : (P.info? ty).map (·.size) = some cs.length) (k : K (a.put o.dst (.agg cs.toArray)) w) : Oper.wp P o a w K Q :=
  wp_load_mid ty x ho g 0 hx cs d h.range hu hd hi k
/-- A whole struct is stored into a row: at a bare operation. -/
theorem wp_store_row {K : Act → World → Prop} {ty : TypeId} {x y : Operand} (ho : o.op = .store ty x y) {g : Nat} {e : TypeId} {cs xs : List Value} (hx : a.eval x = .pointer (some ⟨g, 0, none⟩)) (h : Row w g e cs)
    (hy : a.eval y = .agg xs.toArray) (hl : xs.length = cs.length) (hi : (P.info? ty).map (·.size) = some xs.length) (h1 : xs.all (·.oneCell') = true)
    (k : ∀ w', Row w' g e xs → (∀ S w0, Chg S w0 w → (g < w0.heap.size → S g) → Chg S w0 w') → w'.heap.size = w.heap.size → K (a.put o.dst undef) w') : Oper.wp P o a w K Q :=
  wp_store_mid ty x y ho g 0 xs.toArray hx hy (h.there 0 _ (by simp; omega)) (by simpa using hi) (by simpa using h1)
    (k _ (by simpa using h.store xs hl) (fun S w0 hc hg => by simpa using hc.setCells xs 0 hg) (setCells_size _ _ _ _))
end
end Go.Proofs.YtfpflhcabjcamaaDoor

namespace Go.Proofs.YtfpflhcabjcamaaDoor
open Go.RowKit

theorem info5 : (Tryd.prog.info? 5).map (fun i => (i.zero, i.size, i.bytes)) = some (some (.int .u8 0), 1, 1) := by kernel_rfl

/-- The bytes of n, the lowest k of s laid (from the end on), the others 0. -/
def arr (n s k : Nat) : List Nat := (List.range s).map fun j => if s - 1 - j < k then n / 2 ^ (8 * (s - 1 - j)) % 256 else 0
theorem arr_len (n s k : Nat) : (arr n s k).length = s := by simp [arr]
theorem arr_0 (n s : Nat) : arr n s 0 = List.replicate s 0 := by
  apply List.ext_getElem <;> simp [arr]
theorem arr_set (n s k : Nat) (hk : k < s) : (arr n s k).set (s - 1 - k) (n / 2 ^ (8 * k) % 256) = arr n s (k + 1) := by
  apply List.ext_getElem
  · simp [arr]
  · intro i h1 h2
    simp [arr] at h1
    rw [List.getElem_set]
    simp only [arr, List.getElem_map, List.getElem_range]
    by_cases hi : s - 1 - k = i
    · subst hi
      rw [if_pos rfl, show s - 1 - (s - 1 - k) = k from by omega, if_pos (by omega)]
    · rw [if_neg hi]
      by_cases hlt : s - 1 - i < k
      · rw [if_pos hlt, if_pos (by omega)]
      · rw [if_neg hlt, if_neg (by omega)]
theorem u8s_set (l : List Nat) (i v : Nat) : (u8s l).set i (.int .u8 (v : Int)) = u8s (l.set i v) := by simp [u8s, List.map_set]

/-- The answer is new memory, or nil. -/
def NewBytes (w w' : World) (v : Value) (l : List Nat) : Prop :=
  Chg none_ w w' ∧ ((l = [] ∧ v = .slice none 0 0) ∨ (l ≠ [] ∧ v = .slice (some ⟨w.heap.size, 0, none⟩) l.length l.length ∧ Row w' w.heap.size 5 (u8s l)))


theorem own_of_row {w : World} {g base n : Nat} {e : TypeId} {cs : List Value} (h : Row w g e cs) (hb : base ≤ g) (hn : cs.length = n) (hm : n ≤ maxLen) : w.ownsRow base e 1 (.slice (some ⟨g, 0, none⟩) n n) n cs :=
  ⟨by omega, .inr ⟨g, n, cs.toArray, rfl, hb, h, Nat.le_refl _, hm, by simp [hn], by simp [← hn]⟩⟩

theorem NewBytes.view {w w' : World} {v : Value} {l : List Nat} (h : NewBytes w w' v l) : ∃ A cap, v = .slice A l.length cap ∧ View w' (fun b => w.heap.size ≤ b) A l.length (u8s l) := by
  rcases h.2 with ⟨rfl, rfl⟩ | ⟨_, rfl, hr⟩
  · exact ⟨none, 0, rfl, View.none_ _ _ _⟩
  · have := View.row (T := fun b => w.heap.size ≤ b) hr (n := l.length) (by simp) (Nat.le_refl _)
    rw [List.take_of_length_le (by simp)] at this
    exact ⟨_, _, rfl, this⟩

theorem nat_of_wf {k : IntKind} {x : Int} (h : (Lit.int k x).wf = true) (hk : k.min = 0) : ∃ n : Nat, x = (n : Int) := by
  have : decide (k.min ≤ x) = true := by
    have h2 : (decide (k.min ≤ x) && decide (x ≤ k.max)) = true := h
    simp only [Bool.and_eq_true] at h2
    exact h2.1
  rw [hk] at this
  exact ⟨x.toNat, by simp at this; omega⟩


/-- The number that bytes are, behind a first one. -/
def foldB (f : Nat) (l : List Nat) : Nat := l.foldl (fun n b => n * 256 + b) f
theorem foldB_snoc (f : Nat) (l : List Nat) (b : Nat) : foldB f (l ++ [b]) = foldB f l * 256 + b := by simp [foldB]
theorem foldB_lt (l : List Nat) (hl : ∀ x ∈ l, x < 256) : ∀ (f m : Nat), f < m → foldB f l < m * 256 ^ l.length := by
  induction l with
  | nil => intro f m h; simpa [foldB] using h
  | cons b l ih =>
    intro f m h
    have hb : b < 256 := hl b (by simp)
    have := ih (fun x hx => hl x (by simp [hx])) (f * 256 + b) (m * 256) (by omega)
    simpa [foldB, Nat.pow_succ, Nat.mul_assoc, Nat.mul_comm] using this

theorem or_256 (m y : Nat) (hy : y < 256) : m * 256 ||| y = m * 256 + y := by
  have := Nat.two_pow_add_eq_or_of_lt (i := 8) (b := y) (by omega) m
  rw [Nat.mul_comm m 256]
  exact this.symm
end Go.Proofs.YtfpflhcabjcamaaDoor

namespace Go.Proofs.YtfpflhcabjcamaaDoor
open Go.RowKit

theorem u8s_oneA (l : List Nat) : (u8s l).all (·.oneCell') = true := List.all_eq_true.2 (u8s_one l)
theorem Row.u8 {w : World} {g : Nat} {e : TypeId} {l : List Nat} (h : Row w g e (u8s l)) {i : Nat} (hi : i < l.length) : w.cell? ⟨g, i, none⟩ = some (.int .u8 ((l.getD i 0 : Nat) : Int)) := by
  rw [h.cell, u8s_get, List.getElem?_eq_getElem hi]
  simp [List.getD_eq_getElem?_getD, hi]
theorem getD_lt {l : List Nat} {m : Nat} (h : ∀ x ∈ l, x < m) (i : Nat) (hm : 0 < m) : l.getD i 0 < m := by
  rw [List.getD_eq_getElem?_getD]
  cases hi : l[i]? with
  | none => simpa using hm
  | some x => simpa using h x (List.mem_of_getElem? hi)
theorem ret_u8 {a b : Int} (h : a = b) : Ending.returned (.int .u8 a) = .returned (.int .u8 b) := by rw [h]
end Go.Proofs.YtfpflhcabjcamaaDoor

namespace Go.Proofs.YtfpflhcabjcamaaDoor
open Go.RowKit

/-- An array of n numbers, the first k of which are laid. -/
def fillN (f : Nat → Nat) (n k : Nat) : List Nat := (List.range k).map f ++ List.replicate (n - k) 0
theorem fillN_len (f : Nat → Nat) (n k : Nat) (h : k ≤ n) : (fillN f n k).length = n := by simp [fillN]; omega
theorem fillN_0 (f : Nat → Nat) (n : Nat) : fillN f n 0 = List.replicate n 0 := by simp [fillN]
theorem fillN_all (f : Nat → Nat) (n : Nat) : fillN f n n = (List.range n).map f := by simp [fillN]
theorem fillN_get (f : Nat → Nat) (n k i : Nat) (h : i < k) : (fillN f n k).getD i 0 = f i := by
  rw [fillN, List.getD_eq_getElem?_getD, List.getElem?_append_left (by simpa using h)]
  simp [h]
theorem fillN_set (f : Nat → Nat) (n k : Nat) (h : k < n) : (fillN f n k).set k (f k) = fillN f n (k + 1) := by
  unfold fillN
  rw [List.set_append_right _ _ (by simp), List.range_succ, List.map_append, List.append_assoc, show n - k = (n - (k + 1)) + 1 from by omega, List.replicate_succ]
  simp
theorem map_range_get (f : Nat → Nat) (n i : Nat) (h : i < n) : ((List.range n).map f).getD i 0 = f i := by simp [List.getD_eq_getElem?_getD, h]
theorem list_eta (l : List Nat) (n : Nat) (h : l.length = n) : (List.range n).map (fun i => l.getD i 0) = l := by
  apply List.ext_getElem (by simp [h])
  intro i h1 h2
  simp [List.getD_eq_getElem?_getD, h2]

section
variable {P : Program} {ops : Array Oper} {rest : List Oper} {o : Oper} {a : Act} {w : World} {Q : Exit → Act → World → Prop}
/-- An operation that comes to one value in every world. -/
theorem wpList_val (hw : Region.wanted o (yielded ops a.tmps) = true) (v : Value) (hrun : ∀ w, (execOp a.eval o).run P w = .ok (.value v) w) (k : wpList P ops Q rest (a.put o.dst v) w) : wpList P ops Q (o :: rest) a w :=
  BigFrame.wpList_want hw fun _ hK => by
    unfold Oper.wp
    rw [hrun w]
    exact hK _ _ k
theorem run_index_u8s (w : World) (t e : TypeId) (n : Nat) (l : List Nat) (i : Nat) (hu : P.underlying t = some (.array n e)) (he : (P.info? e).map (·.size) = some 1) (hd : (P.underlying e).map (·.isRow) = some false) (hl : l.length = n) (hi : i < n) :
    (Instr.index t (.agg (u8s l).toArray) (.int .i64 (i : Int))).run P w = .ok (.int .u8 ((l.getD i 0 : Nat) : Int)) w := by
  cases hq : P.info? e with
  | none => rw [hq] at he; cases he
  | some j =>
    have hsz : j.size = 1 := by simpa [hq] using he
    cases hue : P.underlying e with
    | none => rw [hue] at hd; cases hd
    | some d =>
      have hr : d.isRow = false := by simpa [hue] using hd
      have hb : (0 : Int) ≤ (i : Int) ∧ (i : Int) < (n : Int) := by omega
      have hg : (u8s l)[i]? = some (.int .u8 ((l.getD i 0 : Nat) : Int)) := by
        rw [u8s_get, List.getElem?_eq_getElem (by omega)]
        simp [List.getD_eq_getElem?_getD, hl, hi]
      have hne : (match (some d) with | some d => d.isRow | none => false) = false := hr
      cases d <;> first | (cases hr; done) | simp [Instr.index, run_underlying hu, asIntOf, hb, sizeOf, typeInfo, hq, hsz, part, isAgg, run_underlying hue, hg, hi]
theorem wpList_index (hw : Region.wanted o (yielded ops a.tmps) = true) (t e : TypeId) (x y : Operand) (ho : o.op = .index t x y) (n : Nat) (l : List Nat) (i : Nat) (hx : a.eval x = .agg (u8s l).toArray) (hy : a.eval y = .int .i64 (i : Int)) (hu : P.underlying t = some (.array n e)) (he : (P.info? e).map (·.size) = some 1) (hd : (P.underlying e).map (·.isRow) = some false) (hl : l.length = n) (hi : i < n)
    (k : wpList P ops Q rest (a.put o.dst (.int .u8 ((l.getD i 0 : Nat) : Int))) w) : wpList P ops Q (o :: rest) a w :=
  wpList_val hw _ (fun w => by
    have := run_index_u8s (P := P) w t e n l i hu he hd hl hi
    unfold execOp
    simp [ho, hx, hy, this]) k
/-- x[k:] and x[:k] of an array at an address. -/
theorem run_slice_arr_low (w : World) (t e : TypeId) (n s k : Nat) (b off : Nat) (hu : P.underlying t = some (.array n e)) (hs : (P.info? e).map (·.size) = some s) (hk : k < n) :
    (Instr.sliceAt t (.pointer (some ⟨b, off, none⟩)) (some (.int .i64 (k : Int))) none none).run P w = .ok (.slice (some ⟨b, off + k * s, none⟩) (n - k) (n - k)) w := by
  cases hq : P.info? e with
  | none => rw [hq] at hs; cases hs
  | some i =>
    have hsz : i.size = s := by simpa [hq] using hs
    have hb : (0 : Int) ≤ (k : Int) ∧ (k : Int) ≤ (n : Int) := by omega
    have hkn : k ≤ n := by omega
    have hne : ¬ n = k := by omega
    simp [Instr.sliceAt, run_underlying hu, Instr.sureAddr, Instr.sliceBounds, Instr.sliceBound, asIntOf, sizeOf, typeInfo, hq, hsz, hkn, hne, addr_add]
theorem run_slice_arr_high (w : World) (t e : TypeId) (n s k : Nat) (b off : Nat) (hu : P.underlying t = some (.array n e)) (hs : (P.info? e).map (·.size) = some s) (hk : k ≤ n) :
    (Instr.sliceAt t (.pointer (some ⟨b, off, none⟩)) none (some (.int .i64 (k : Int))) none).run P w = .ok (.slice (some ⟨b, off, none⟩) k n) w := by
  cases hq : P.info? e with
  | none => rw [hq] at hs; cases hs
  | some i =>
    have hb : (0 : Int) ≤ (k : Int) ∧ (k : Int) ≤ (n : Int) := by omega
    simp [Instr.sliceAt, run_underlying hu, Instr.sureAddr, Instr.sliceBounds, Instr.sliceBound, asIntOf, sizeOf, typeInfo, hq, hk, addr_add]
theorem wpList_slice_arr_low (hw : Region.wanted o (yielded ops a.tmps) = true) (t e : TypeId) (x y : Operand) (ho : o.op = .slice t x (some y) none none) (n s k b off : Nat) (hx : a.eval x = .pointer (some ⟨b, off, none⟩)) (hy : a.eval y = .int .i64 (k : Int)) (hu : P.underlying t = some (.array n e)) (hs : (P.info? e).map (·.size) = some s) (hk : k < n)
    (h : wpList P ops Q rest (a.put o.dst (.slice (some ⟨b, off + k * s, none⟩) (n - k) (n - k))) w) : wpList P ops Q (o :: rest) a w :=
  wpList_val hw _ (fun w => by
    have := run_slice_arr_low (P := P) w t e n s k b off hu hs hk
    unfold execOp
    simp [ho, hx, hy, this]) h
theorem wpList_slice_arr_high (hw : Region.wanted o (yielded ops a.tmps) = true) (t e : TypeId) (x y : Operand) (ho : o.op = .slice t x none (some y) none) (n s k b off : Nat) (hx : a.eval x = .pointer (some ⟨b, off, none⟩)) (hy : a.eval y = .int .i64 (k : Int)) (hu : P.underlying t = some (.array n e)) (hs : (P.info? e).map (·.size) = some s) (hk : k ≤ n)
    (h : wpList P ops Q rest (a.put o.dst (.slice (some ⟨b, off, none⟩) k n)) w) : wpList P ops Q (o :: rest) a w :=
  wpList_val hw _ (fun w => by
    have := run_slice_arr_high (P := P) w t e n s k b off hu hs hk
    unfold execOp
    simp [ho, hx, hy, this]) h
theorem wpList_arrayAt (hw : Region.wanted o (yielded ops a.tmps) = true) (arr e : TypeId) (n : Nat) (x : Operand) (ho : o.op = .sliceToArrayPointer arr x) (A : Option Addr) (m c : Nat) (hx : a.eval x = .slice A m c)
    (hu : P.underlying arr = some (.array n e)) (hm : n ≤ m) (h : wpList P ops Q rest (a.put o.dst (.pointer A)) w) : wpList P ops Q (o :: rest) a w :=
  wpList_val hw _ (fun w => by
    have hn : ¬ m < n := by omega
    unfold execOp
    simp [ho, hx, Instr.arrayAt, run_underlying hu, hn]) h
end
end Go.Proofs.YtfpflhcabjcamaaDoor

namespace Go.Proofs.YtfpflhcabjcamaaDoor
open Go.RowKit

/-- Where s[k:] lies. -/
def dropA (A : Option Addr) (cap k : Nat) : Option Addr := if cap = k then A else A.map (·.add k)
theorem View.dropA {w : World} {T : Nat → Prop} {A : Option Addr} {n k cap : Nat} {xs : List Value} (h : View w T A n xs) (hc : n ≤ cap) : View w T (dropA A cap k) (n - k) (xs.drop k) := by
  unfold Proofs.YtfpflhcabjcamaaDoor.dropA
  split
  · have h0 : n - k = 0 := by omega
    have hx : xs.drop k = [] := List.drop_of_length_le (by rw [h.1]; omega)
    rw [h0, hx]
    exact View.none_ _ _ _
  · exact h.drop

section
variable {P : Program}
theorem run_slice_low (w : World) (t e : TypeId) (A : Option Addr) (n cap k : Nat) (hu : P.underlying t = some (.slice e)) (hs : (P.info? e).map (·.size) = some 1) (hk : k ≤ n) :
    (Instr.slice t (.slice A n cap) (some (.int .i64 (k : Int))) none none).run P w = .ok (.slice (dropA A cap k) (n - k) (cap - k)) w := by
  cases hq : P.info? e with
  | none => rw [hq] at hs; cases hs
  | some i =>
    have hsz : i.size = 1 := by simpa [hq] using hs
    have hb : (0 : Int) ≤ (k : Int) ∧ (k : Int) ≤ (n : Int) := by omega
    simp [Instr.slice, run_underlying hu, Instr.sliceBounds, Instr.sliceBound, asIntOf, sizeOf, typeInfo, hq, hsz, hk, dropA]

theorem yieldsIf_slice_low {ops : Array Oper} {S : World → Prop} {o : Oper} {a : Act} (hw : Region.wanted o (yielded ops a.tmps) = true) (t e : TypeId) (x y : Operand) (ho : o.op = .slice t x (some y) none none) (A : Option Addr) (n cap k : Nat) (hx : a.eval x = .slice A n cap) (hy : a.eval y = .int .i64 (k : Int))
    (hu : P.underlying t = some (.slice e)) (hs : (P.info? e).map (·.size) = some 1) (hk : k ≤ n) {A' : Option Addr} (hA : dropA A cap k = A') : YieldsIf P ops S o (.slice A' (n - k) (cap - k)) a :=
  .inl ⟨hw, fun w _ => by
    subst hA
    have := run_slice_low (P := P) w t e A n cap k hu hs hk
    unfold execOp
    simp [ho, hx, hy, Instr.sliceAt, run_underlying hu, this]⟩

theorem wpList_slice_low {ops : Array Oper} {rest : List Oper} {o : Oper} {a : Act} {w : World} {Q : Exit → Act → World → Prop} (hw : Region.wanted o (yielded ops a.tmps) = true) (t e : TypeId) (x y : Operand) (ho : o.op = .slice t x (some y) none none) (A : Option Addr) (n cap k : Nat) (hx : a.eval x = .slice A n cap) (hy : a.eval y = .int .i64 (k : Int))
    (hu : P.underlying t = some (.slice e)) (hs : (P.info? e).map (·.size) = some 1) (hk : k ≤ n) (h : wpList P ops Q rest (a.put o.dst (.slice (dropA A cap k) (n - k) (cap - k))) w) : wpList P ops Q (o :: rest) a w :=
  BigFrame.wpList_want hw fun _ hK => by
    have := run_slice_low (P := P) w t e A n cap k hu hs hk
    have k' := hK _ _ h
    unfold Oper.wp execOp
    simp [ho, hx, hy, Instr.sliceAt, run_underlying hu, this]
    exact k'

theorem yieldsIf_arrayAt {ops : Array Oper} {S : World → Prop} {o : Oper} {a : Act} (hw : Region.wanted o (yielded ops a.tmps) = true) (arr e : TypeId) (n : Nat) (x : Operand) (ho : o.op = .sliceToArrayPointer arr x) (A : Option Addr) (m c : Nat) (hx : a.eval x = .slice A m c)
    (hu : P.underlying arr = some (.array n e)) (hm : n ≤ m) : YieldsIf P ops S o (.pointer A) a :=
  .inl ⟨hw, fun w _ => by
    have hn : ¬ m < n := by omega
    unfold execOp
    simp [ho, hx, Instr.arrayAt, run_underlying hu, hn]⟩

/-- copy, of whatever is in view into a row known whole: as many go over as both have. -/
theorem run_copy_min {w : World} {dT sT ty elem : TypeId} {g n c m c' : Nat} {A : Option Addr} {T : Nat → Prop} {e : TypeId} {pre ys post xs : List Value} {D : Option Addr} (hD : 0 < min m n → D = some ⟨g, pre.length, none⟩) (hu : P.underlying dT = some (.slice elem)) (hsz : (P.info? elem).map (·.size) = some 1)
    (hrow : Row w g e (pre ++ ys ++ post)) (hn : ys.length = n) (hv : View w T A m xs) (h1 : ∀ v ∈ xs, v.oneCell' = true) :
    ∃ w', (Builtin.copy_ #[dT, sT] ty #[.slice D n c, .slice A m c']).run P w = .ok (goInt ((min m n : Nat) : Int)) w' ∧ Row w' g e (pre ++ (xs.take n ++ ys.drop m) ++ post) ∧ Chg (· = g) w w' := by
  rcases Nat.eq_zero_or_pos (min m n) with h0 | h0
  · refine ⟨w, by rw [h0]; exact run_copy_none w _ _ _ _ _ _ _ _ _ _ hu hsz (by simpa using h0), ?_, Chg.refl _ _⟩
    have : xs.take n ++ ys.drop m = ys := by
      rcases (by omega : m = 0 ∨ n = 0) with h | h
      · subst h
        have : xs = [] := List.eq_nil_of_length_eq_zero hv.1
        subst this; simp
      · have : ys = [] := List.eq_nil_of_length_eq_zero (hn.trans h)
        subst this; subst h; simp
    rw [this]; exact hrow
  · have hDe := hD h0
    subst hDe
    obtain ⟨b, o, rfl, _, _, hc⟩ := hv.2 (by omega)
    have hl := hv.1
    have htl : (xs.take n).length = min m n := by rw [List.length_take, hl]; omega
    refine ⟨w.setCells g pre.length (xs.take n), ?_, ?_, (Chg.refl (· = g) w).setCells _ pre.length (fun _ => rfl)⟩
    · rw [← htl]
      refine run_copy_cells w dT sT ty elem g pre.length n c ⟨b, o, none⟩ m c' (xs.take n) hu hsz htl (fun j v hj => ?_) (fun j hj => ?_) (fun j hj => hrow.frozen _) (fun v hv => h1 v (List.mem_of_mem_take hv))
      · have hjl : j < min m n := by
          rcases Nat.lt_or_ge j (xs.take n).length with h | h
          · omega
          · rw [List.getElem?_eq_none h] at hj; cases hj
        rw [List.getElem?_take, if_pos (by omega)] at hj
        rw [addr_add, hc j (by omega)]; exact hj
      · rw [hrow.cell]; simp; omega
    · have hd : ys.drop (min m n) = ys.drop m := by
        rcases Nat.le_total m n with h | h
        · rw [Nat.min_eq_left h]
        · rw [Nat.min_eq_right h, List.drop_of_length_le (by omega), List.drop_of_length_le (by omega)]
      have hr2 : Row w g e (pre ++ ys.take (min m n) ++ (ys.drop (min m n) ++ post)) := by
        have e : pre ++ ys.take (min m n) ++ (ys.drop (min m n) ++ post) = pre ++ ys ++ post := by
          rw [List.append_assoc, List.append_assoc, ← List.append_assoc (ys.take _), List.take_append_drop]
        rw [e]; exact hrow
      have := hr2.storeMid (xs := xs.take n) (by rw [htl, List.length_take]; omega)
      rw [hd] at this
      simpa [List.append_assoc] using this

theorem wp_copy_min {o : Oper} {a : Act} {w : World} {K : Act → World → Prop} {Q : Exit → Act → World → Prop} (d s : Operand) (dT sT : TypeId)
    (ho : o.op = .call { callee := .builtin .copy, args := #[d, s], argTypes := #[dT, sT] }) {elem : TypeId} {g n c m c' : Nat} {A D : Option Addr} {T : Nat → Prop} {e : TypeId} {pre ys post xs : List Value}
    (hd : a.eval d = .slice D n c) (hs : a.eval s = .slice A m c') (hD : 0 < min m n → D = some ⟨g, pre.length, none⟩) (hu : P.underlying dT = some (.slice elem)) (hsz : (P.info? elem).map (·.size) = some 1)
    (hrow : Row w g e (pre ++ ys ++ post)) (hn : ys.length = n) (hv : View w T A m xs) (h1 : ∀ v ∈ xs, v.oneCell' = true)
    (h : ∀ w', Row w' g e (pre ++ (xs.take n ++ ys.drop m) ++ post) → Chg (· = g) w w' → K (a.put o.dst (goInt ((min m n : Nat) : Int))) w') : Oper.wp P o a w K Q := by
  obtain ⟨w', hr, h2, h3⟩ := run_copy_min (P := P) (sT := sT) (ty := o.type) (c := c) (c' := c') hD hu hsz hrow hn hv h1
  unfold Oper.wp execOp
  simp only [ho, resolve, invoke, builtin, Sem.run_bind, Sem.run_pure, Result.andThen_ok, List.map_toArray, List.map_cons, List.map_nil, hd, hs, hr]
  exact h w' h2 h3

theorem wpList_copy_min {ops : Array Oper} {rest : List Oper} {o : Oper} {a : Act} {w : World} {Q : Exit → Act → World → Prop} (hgd : o.guard = none) (d s : Operand) (dT sT : TypeId)
    (ho : o.op = .call { callee := .builtin .copy, args := #[d, s], argTypes := #[dT, sT] }) {elem : TypeId} {g n c m c' : Nat} {A D : Option Addr} {T : Nat → Prop} {e : TypeId} {pre ys post xs : List Value}
    (hd : a.eval d = .slice D n c) (hs : a.eval s = .slice A m c') (hD : 0 < min m n → D = some ⟨g, pre.length, none⟩) (hu : P.underlying dT = some (.slice elem)) (hsz : (P.info? elem).map (·.size) = some 1)
    (hrow : Row w g e (pre ++ ys ++ post)) (hn : ys.length = n) (hv : View w T A m xs) (h1 : ∀ v ∈ xs, v.oneCell' = true)
    (h : ∀ w', Row w' g e (pre ++ (xs.take n ++ ys.drop m) ++ post) → Chg (· = g) w w' → wpList P ops Q rest (a.put o.dst (goInt ((min m n : Nat) : Int))) w') : wpList P ops Q (o :: rest) a w :=
  wpList_plain hgd fun _ hK => wp_copy_min d s dT sT ho hd hs hD hu hsz hrow hn hv h1 fun w' h2 h3 => hK _ _ (h w' h2 h3)
end
end Go.Proofs.YtfpflhcabjcamaaDoor

namespace Go.Proofs.YtfpflhcabjcamaaDoor
open Go.RowKit

theorem own_base {w : World} {base base' n : Nat} {e : TypeId} {v : Value} {xs : List Value} (h : w.ownsRow base e 1 v n xs) (hb : base' ≤ base) : w.ownsRow base' e 1 v n xs := by
  refine ⟨h.1, ?_⟩
  rcases h.2 with h2 | ⟨g, cap, cur, h1, hg, h2⟩
  · exact .inl h2
  · exact .inr ⟨g, cap, cur, h1, Nat.le_trans hb hg, h2⟩

/-- Bytes in memory of one's own. -/
structure Fresh (w : World) (base : Nat) (A : Option Addr) (cap : Nat) (l : List Nat) : Prop where
  view : View w (fun b => base ≤ b) A l.length (u8s l)
  own : w.ownsRow base 5 1 (.slice A l.length cap) l.length (u8s l)
theorem Fresh.base {w : World} {base base' : Nat} {A : Option Addr} {cap : Nat} {l : List Nat} (h : Fresh w base A cap l) (hb : base' ≤ base) : Fresh w base' A cap l :=
  ⟨h.view.mono (fun _ _ k => Nat.le_trans hb k), own_base h.own hb⟩
theorem Fresh.nil (w : World) (base : Nat) : Fresh w base none 0 [] := ⟨View.none_ _ _ _, World.ownsRow_nil _ _ _ _⟩

/-- The answer's bytes, in view: new memory, or nil. -/
def GotBytes (w : World) (l : List Nat) (e : Ending) (w' : World) : Prop :=
  ∃ A cap, e = .returned (.slice A l.length cap) ∧ Fresh w' w.heap.size A cap l ∧ Chg none_ w w'

theorem own_chg {w w' : World} {S : Nat → Prop} {base n : Nat} {e : TypeId} {v : Value} {xs : List Value} (h : w.ownsRow base e 1 v n xs) (hc : Chg S w w') (hs : ∀ b, base ≤ b → ¬ S b) : w'.ownsRow base e 1 v n xs := by
  refine ⟨h.1, ?_⟩
  rcases h.2 with h2 | ⟨g, cap, cur, h1, hb, h2, h3⟩
  · exact .inl h2
  · exact .inr ⟨g, cap, cur, h1, hb, (hc.block g (Array.getElem?_eq_some_iff.1 h2).1 (hs g hb)).trans h2, h3⟩

theorem got_row {w w' : World} {g n : Nat} {l : List Nat} (hc : Chg none_ w w') (hr : Row w' g 5 (u8s l)) (hg : w.heap.size ≤ g) (hn : n = l.length) (hm : n ≤ maxLen) : GotBytes w l (.returned (.slice (some ⟨g, 0, none⟩) n n)) w' := by
  subst hn
  have := View.row (T := fun b => w.heap.size ≤ b) hr (n := l.length) (by simp) hg
  rw [List.take_of_length_le (by simp)] at this
  exact ⟨_, l.length, rfl, ⟨this, own_of_row hr hg (by simp) hm⟩, hc⟩

end Go.Proofs.YtfpflhcabjcamaaDoor

namespace Go.Proofs.YtfpflhcabjcamaaDoor
open Go.RowKit

theorem View.all {w : World} {T : Nat → Prop} {g n : Nat} {e : TypeId} {cs : List Value} (h : Row w g e cs) (hn : cs.length = n) (hT : T g) : View w T (some ⟨g, 0, none⟩) n cs := by
  have hh := View.row (T := T) h (n := n) (by omega) hT
  rw [List.take_of_length_le (by omega)] at hh
  exact hh
/-- A slice of the call's own that holds just these bytes. -/
def Owned (w : World) (base : Nat) (v : Value) (l : List Nat) : Prop := w.ownsRow base 5 1 v l.length (u8s l)
theorem Owned.chg {w w' : World} {S : Nat → Prop} {base : Nat} {v : Value} {l : List Nat} (h : Owned w base v l) (hc : Chg S w w') (hs : ∀ b, base ≤ b → ¬ S b) : Owned w' base v l := own_chg h hc hs
theorem Owned.row {w : World} {g base n : Nat} {l : List Nat} (h : Row w g 5 (u8s l)) (hb : base ≤ g) (hn : l.length = n) (hm : n ≤ maxLen) : Owned w base (.slice (some ⟨g, 0, none⟩) n n) l := by
  subst hn
  exact own_of_row h hb (by simp) hm
theorem Owned.nil (w : World) (base : Nat) : Owned w base (.slice none 0 0) [] := World.ownsRow_nil _ _ _ _
theorem Owned.view {w : World} {base : Nat} {v : Value} {l : List Nat} (h : Owned w base v l) : ∃ A cap, v = .slice A l.length cap ∧ l.length ≤ cap ∧ cap ≤ maxLen ∧ View w (fun b => base ≤ b) A l.length (u8s l) := View.own h (fun _ h => h)
theorem Owned.slice {w : World} {base n cap : Nat} {A : Option Addr} {l : List Nat} (h : Owned w base (.slice A n cap) l) : n = l.length ∧ n ≤ cap ∧ View w (fun b => base ≤ b) A l.length (u8s l) := by
  obtain ⟨A', cap', e, h1, _, h3⟩ := h.view
  injection e with e1 e2 e3
  subst e1; subst e2; subst e3
  exact ⟨rfl, h1, h3⟩
theorem Owned.fresh {w : World} {base n cap : Nat} {A : Option Addr} {l : List Nat} (h : Owned w base (.slice A n cap) l) : n = l.length ∧ Fresh w base A cap l := by
  obtain ⟨h1, _, h3⟩ := h.slice
  subst h1
  exact ⟨rfl, h3, h⟩

section
variable {ops : Array Oper} {rest : List Oper} {o : Oper} {a : Act} {w w0 : World} {Q : Exit → Act → World → Prop}
theorem chg_grown {base n : Nat} {w' : World} {v : Value} {xs : List Value} {e : TypeId} (hc : Chg none_ w0 w) (hb0 : w0.heap.size ≤ base) (hown : w.ownsRow base e 1 v n xs) (hg : w.grownBy w' v.ownBlock) : Chg none_ w0 w' :=
  hc.andThen (Chg.of_grown hg) (fun b hb hs => by
    rcases hown.2 with ⟨rfl, _⟩ | ⟨g, cap, cur, rfl, hbg, _⟩
    · simp [Value.ownBlock] at hs
    · simp [Value.ownBlock] at hs; omega)
theorem wp_append_bytes {K : Act → World → Prop} (s x : Operand) (t : TypeId)
    (ho : o.op = .call { callee := .builtin .append, args := #[s, x], argTypes := #[t, t] }) (ht : Tryd.prog.underlying t = some (.slice 5)) {base : Nat} {v : Value} {L M : List Nat} {T : Nat → Prop} {A : Option Addr} {m c : Nat}
    (hs : a.eval s = v) (hown : Owned w base v L) (hx : a.eval x = .slice A m c) (hv : View w T A m (u8s M)) (hlen : L.length + m ≤ 1000000) (hbase : base ≤ w.heap.size) (hc0 : Chg none_ w0 w) (hb0 : w0.heap.size ≤ base)
    (k : ∀ v' w', Owned w' base v' (L ++ M) → Chg none_ w0 w' → K (a.put o.dst v') w') : Oper.wp Tryd.prog o a w K Q := by
  obtain ⟨i0, hi, hz0, hz1, hz2⟩ := info_parts info5
  have hm : M.length = m := by have := hv.1; simpa using this
  refine wp_append_view s x t ho 5 i0 _ 1 ht hi hz0 hz1 hz2 rfl base v L.length (u8s L) hs hown T A m c (u8s M) hx hv (u8s_one _) (by unfold maxLen; omega) (by omega) hbase fun v' w' h2 h3 _ => k v' w' ?_ (chg_grown hc0 hb0 hown h3)
  have e : u8s L ++ u8s M = u8s (L ++ M) := by simp [u8s]
  rw [e] at h2
  unfold Owned
  rw [List.length_append, hm]
  exact h2
theorem wpList_append_bytes (hgd : o.guard = none) (s x : Operand) (t : TypeId)
    (ho : o.op = .call { callee := .builtin .append, args := #[s, x], argTypes := #[t, t] }) (ht : Tryd.prog.underlying t = some (.slice 5)) {base : Nat} {v : Value} {L M : List Nat} {T : Nat → Prop} {A : Option Addr} {m c : Nat}
    (hs : a.eval s = v) (hown : Owned w base v L) (hx : a.eval x = .slice A m c) (hv : View w T A m (u8s M)) (hlen : L.length + m ≤ 1000000) (hbase : base ≤ w.heap.size) (hc0 : Chg none_ w0 w) (hb0 : w0.heap.size ≤ base)
    (k : ∀ v' w', Owned w' base v' (L ++ M) → Chg none_ w0 w' → wpList Tryd.prog ops Q rest (a.put o.dst v') w') : wpList Tryd.prog ops Q (o :: rest) a w :=
  wpList_plain hgd fun _ hK => wp_append_bytes s x t ho ht hs hown hx hv hlen hbase hc0 hb0 fun v' w' h1 h2 => hK _ _ (k v' w' h1 h2)
end

/-- What it owns is not turned. -/
theorem Owned.chg' {w w' : World} {S : Nat → Prop} {base : Nat} {v : Value} {l : List Nat} (h : Owned w base v l) (hc : Chg S w w') (hs : ∀ b, v.ownBlock = some b → ¬ S b) : Owned w' base v l := by
  refine ⟨h.1, ?_⟩
  rcases h.2 with h2 | ⟨g, cap, cur, h1, hb, h2, h3⟩
  · exact .inl h2
  · exact .inr ⟨g, cap, cur, h1, hb, (hc.block g (Array.getElem?_eq_some_iff.1 h2).1 (hs g (by subst h1; rfl))).trans h2, h3⟩
theorem Owned.lt {w : World} {base : Nat} {v : Value} {l : List Nat} (h : Owned w base v l) {b : Nat} (hb : v.ownBlock = some b) : b < w.heap.size ∧ base ≤ b := by
  rcases h.2 with ⟨rfl, _⟩ | ⟨g, cap, cur, rfl, hg, hh, _⟩
  · simp [Value.ownBlock] at hb
  · simp [Value.ownBlock] at hb
    subst hb
    exact ⟨(Array.getElem?_eq_some_iff.1 hh).1, hg⟩
/-- Its view, of the block that it owns alone. -/
theorem Owned.viewIn {w : World} {base : Nat} {v : Value} {l : List Nat} (h : Owned w base v l) : ∃ A cap, v = .slice A l.length cap ∧ l.length ≤ cap ∧ View w (fun b => v.ownBlock = some b) A l.length (u8s l) := by
  obtain ⟨A, cap, e, h1, _, h3⟩ := h.view
  refine ⟨A, cap, e, h1, h3.1, fun hn => ?_⟩
  obtain ⟨b, o, ha, hb, _, hc⟩ := h3.2 hn
  refine ⟨b, o, ha, hb, ?_, hc⟩
  subst e
  subst ha
  rfl
section
variable {ops : Array Oper} {rest : List Oper} {o : Oper} {a : Act} {w : World} {Q : Exit → Act → World → Prop}
theorem wpList_append_own2 (hgd : o.guard = none) (s x : Operand) (t : TypeId)
    (ho : o.op = .call { callee := .builtin .append, args := #[s, x], argTypes := #[t, t] }) (ht : Tryd.prog.underlying t = some (.slice 5)) {base : Nat} {v : Value} {L M : List Nat} {T : Nat → Prop} {A : Option Addr} {m c : Nat}
    (hs : a.eval s = v) (hown : Owned w base v L) (hx : a.eval x = .slice A m c) (hv : View w T A m (u8s M)) (hlen : L.length + m ≤ 1000000) (hbase : base ≤ w.heap.size)
    (k : ∀ v' w', Owned w' base v' (L ++ M) → Chg (fun b => v.ownBlock = some b) w w' → (v'.ownBlock = v.ownBlock ∨ v'.ownBlock = some w.heap.size) → wpList Tryd.prog ops Q rest (a.put o.dst v') w') : wpList Tryd.prog ops Q (o :: rest) a w :=
  wpList_plain hgd fun _ hK => by
    obtain ⟨i0, hi, hz0, hz1, hz2⟩ := info_parts info5
    have hm : M.length = m := by have := hv.1; simpa using this
    refine wp_append_view s x t ho 5 i0 _ 1 ht hi hz0 hz1 hz2 rfl base v L.length (u8s L) hs hown T A m c (u8s M) hx hv (u8s_one _) (by unfold maxLen; omega) (by omega) hbase fun v' w' h2 h3 h4 => hK _ _ (k v' w' ?_ (Chg.of_grown h3) h4)
    have e : u8s L ++ u8s M = u8s (L ++ M) := by simp [u8s]
    rw [e] at h2
    unfold Owned
    rw [List.length_append, hm]
    exact h2
end

section
variable {P : Program}
/-- s[i:j] -/
theorem run_slice_both (w : World) (t e : TypeId) (A : Option Addr) (n cap i j : Nat) (hu : P.underlying t = some (.slice e)) (hs : (P.info? e).map (·.size) = some 1) (hi : i ≤ j) (hj : j ≤ cap) :
    (Instr.slice t (.slice A n cap) (some (.int .i64 (i : Int))) (some (.int .i64 (j : Int))) none).run P w = .ok (.slice (dropA A cap i) (j - i) (cap - i)) w := by
  cases hq : P.info? e with
  | none => rw [hq] at hs; cases hs
  | some q =>
    have hsz : q.size = 1 := by simpa [hq] using hs
    simp [Instr.slice, run_underlying hu, Instr.sliceBounds, Instr.sliceBound, asIntOf, sizeOf, typeInfo, hq, hsz, hi, hj, dropA]
theorem yieldsIf_slice_both {ops : Array Oper} {S : World → Prop} {o : Oper} {a : Act} (hw : Region.wanted o (yielded ops a.tmps) = true) (t e : TypeId) (x y z : Operand) (ho : o.op = .slice t x (some y) (some z) none) (A : Option Addr) (n cap i j : Nat) (hx : a.eval x = .slice A n cap) (hy : a.eval y = .int .i64 (i : Int)) (hz : a.eval z = .int .i64 (j : Int))
    (hu : P.underlying t = some (.slice e)) (hs : (P.info? e).map (·.size) = some 1) (hi : i ≤ j) (hj : j ≤ cap) {A' : Option Addr} (hA : dropA A cap i = A') : YieldsIf P ops S o (.slice A' (j - i) (cap - i)) a :=
  .inl ⟨hw, fun w _ => by
    subst hA
    have := run_slice_both (P := P) w t e A n cap i j hu hs hi hj
    unfold execOp
    simp [ho, hx, hy, hz, Instr.sliceAt, run_underlying hu, this]⟩
end
end Go.Proofs.YtfpflhcabjcamaaDoor

namespace Go.Proofs.YtfpflhcabjcamaaDoor
open Go.RowKit

/-- A string's bytes. -/
def bsN (s : ByteArray) : List Nat := s.data.toList.map (·.toNat)
theorem bsN_len (s : ByteArray) : (bsN s).length = s.size := by simp [bsN]
theorem bsN_lt (s : ByteArray) : ∀ x ∈ bsN s, x < 256 := by
  intro x hx
  simp only [bsN, List.mem_map] at hx
  obtain ⟨b, _, rfl⟩ := hx
  exact b.toNat_lt

section
variable {P : Program} {ops : Array Oper} {rest : List Oper} {o : Oper} {a : Act} {w : World} {Q : Exit → Act → World → Prop}
theorem view_marked (w w0 : World) (T : Nat → Prop) (e : TypeId) (fr : Nat × Nat) (xs sp : List Value) (hs : w0.heap = w.heap) (hT : T w.heap.size) : View (w0.alloc (.cells (xs ++ sp).toArray e fr)) T (some ⟨w.heap.size, 0, none⟩) xs.length xs := by
  refine ⟨rfl, fun hn => ⟨w.heap.size, 0, rfl, by simp [hs], hT, fun j hj => ?_⟩⟩
  rw [Go.Joins.cell_alloc_mark_at w0 _ _ _ w.heap.size _ (by rw [hs])]
  simp [List.getElem?_append_left hj]

/-- '[]byte(s)' of a string. -/
theorem wp_bytes_string {K : Act → World → Prop} {src dst e : TypeId} {x : Operand} (ho : o.op = .convert src dst x) {s : ByteArray} (hx : a.eval x = .string s) (hs : P.underlying src = some .string) (hd : P.underlying dst = some (.slice e)) (he : P.underlying e = some (.int .u8))
    (k : ∀ w' c, View w' (fun b => w.heap.size ≤ b) (some ⟨w.heap.size, 0, none⟩) s.size (u8s (bsN s)) → s.size ≤ c → Chg none_ w w' → K (a.put o.dst (.slice (some ⟨w.heap.size, 0, none⟩) s.size c)) w') : Oper.wp P o a w K Q := by
  have hr := run_bytes_of_string (P := P) w src dst e s hs hd he
  have hge := grownCap_ge w s.size 0 e
  generalize grownCap w s.size 0 e = G at hr hge
  unfold Oper.wp execOp
  simp only [ho, hx, Sem.run_bind, Sem.run_pure, hr, Result.andThen_ok]
  refine k _ _ ?_ (by omega) ((Chg.refl none_ w).drew.alloc _)
  have e1 : bytesRow s G = (u8s (bsN s) ++ List.replicate (G - s.size) (Value.int .u8 0)).toArray := by
    apply Array.ext'
    simp [bytesRow, u8s, bsN]
  have hv := view_marked w w.drew (fun b => w.heap.size ≤ b) e ((bytesRow s G).size, (bytesRow s G).size + 1) (u8s (bsN s)) (List.replicate (G - s.size) (Value.int .u8 0)) rfl (Nat.le_refl _)
  rw [u8s_length, bsN_len, ← e1] at hv
  exact hv
theorem wpList_bytes_string {src dst e : TypeId} {x : Operand} (ho : o.op = .convert src dst x) (hw : Region.wanted o (yielded ops a.tmps) = true) {s : ByteArray} (hx : a.eval x = .string s) (hs : P.underlying src = some .string) (hd : P.underlying dst = some (.slice e)) (he : P.underlying e = some (.int .u8))
    (k : ∀ w' c, View w' (fun b => w.heap.size ≤ b) (some ⟨w.heap.size, 0, none⟩) s.size (u8s (bsN s)) → s.size ≤ c → Chg none_ w w' → wpList P ops Q rest (a.put o.dst (.slice (some ⟨w.heap.size, 0, none⟩) s.size c)) w') : wpList P ops Q (o :: rest) a w :=
  BigFrame.wpList_want hw fun _ hK => wp_bytes_string ho hx hs hd he fun w' c h1 h2 h3 => hK _ _ (k w' c h1 h2 h3)

/-- '[]byte("..")' of a constant that was just laid. -/
theorem wp_bytes_const {K : Act → World → Prop} {t e : TypeId} {x : Operand} (ho : o.op = .convert t t x) (l : List Nat) (n : Nat) (hn : l.length = n) (hx : a.eval x = .slice (some ⟨w.heap.size, 0, none⟩) n n) (ht : P.underlying t = some (.slice e)) (he : P.underlying e = some (.int .u8))
    (k : ∀ w', View w' (fun b => w.heap.size ≤ b) (some ⟨w.heap.size, 0, none⟩) l.length (u8s l) → Chg none_ w w' → K (a.put o.dst (.slice (some ⟨w.heap.size, 0, none⟩) l.length l.length)) w') : Oper.wp P o a (w.alloc (.cells (u8s l).toArray e)) K Q := by
  subst hn
  have hr := Go.Joins.run_convert_bytes_const_at (P := P) w t e (u8s l).toArray l.length l.length w.heap.size rfl ht he
  unfold Oper.wp execOp
  simp only [ho, hx, Sem.run_bind, Sem.run_pure, hr, Result.andThen_ok]
  refine k _ ?_ ((Chg.refl none_ w).alloc _)
  have hv := view_marked w w (fun b => w.heap.size ≤ b) e ((u8s l).toArray.size, (u8s l).toArray.size + 1) (u8s l) [] rfl (Nat.le_refl _)
  rw [List.append_nil, u8s_length] at hv
  exact hv
theorem wpList_bytes_const {t e : TypeId} {x : Operand} (ho : o.op = .convert t t x) (hw : Region.wanted o (yielded ops a.tmps) = true) (l : List Nat) (n : Nat) (hn : l.length = n) (hx : a.eval x = .slice (some ⟨w.heap.size, 0, none⟩) n n) (ht : P.underlying t = some (.slice e)) (he : P.underlying e = some (.int .u8))
    (k : ∀ w', View w' (fun b => w.heap.size ≤ b) (some ⟨w.heap.size, 0, none⟩) l.length (u8s l) → Chg none_ w w' → wpList P ops Q rest (a.put o.dst (.slice (some ⟨w.heap.size, 0, none⟩) l.length l.length)) w') : wpList P ops Q (o :: rest) a (w.alloc (.cells (u8s l).toArray e)) :=
  BigFrame.wpList_want hw fun _ hK => wp_bytes_const ho l n hn hx ht he fun w' h1 h2 => hK _ _ (k w' h1 h2)
/-- '[]byte("..")' of a constant that was laid. -/
theorem wp_bytes_mark {K : Act → World → Prop} {t e : TypeId} {x : Operand} (ho : o.op = .convert t t x) {g n c : Nat} {cs : List Value} (hx : a.eval x = .slice (some ⟨g, 0, none⟩) n c) (ht : P.underlying t = some (.slice e)) (he : P.underlying e = some (.int .u8)) (hr : Row w g e cs)
    (k : ∀ w', View w' (fun b => b = g) (some ⟨g, 0, none⟩) cs.length cs → Chg (· = g) w w' → w'.heap.size = w.heap.size → K (a.put o.dst (.slice (some ⟨g, 0, none⟩) n c)) w') : Oper.wp P o a w K Q := by
  have hg : w.heap[g]? = some (.cells cs.toArray e (0, 0)) := hr
  have hsh : w.shape? g = some (e, cs.length) := by
    unfold World.shape?
    rw [hg]
    simp
  have hrun : (convert t t (.slice (some ⟨g, 0, none⟩) n c)).run P w = .ok (.slice (some ⟨g, 0, none⟩) n c) (w.freeze ⟨g, cs.length, none⟩ 1) := by
    simp [convert, run_underlying ht, run_underlying he, markStringish, hsh]
  have hz : (w.freeze ⟨g, cs.length, none⟩ 1).heap.size = w.heap.size := by simp [World.freeze]
  have hb : ∀ i, i ≠ g → (w.freeze ⟨g, cs.length, none⟩ 1).heap[i]? = w.heap[i]? := fun i hi => by
    simp [World.freeze, Array.getElem?_modify, Ne.symm hi]
  have hgg : (w.freeze ⟨g, cs.length, none⟩ 1).heap[g]? = some (.cells cs.toArray e (cs.length, cs.length + 1)) := by
    simp [World.freeze, Array.getElem?_modify, hg]
  unfold Oper.wp execOp
  simp only [ho, hx, Sem.run_bind, Sem.run_pure, hrun, Result.andThen_ok]
  refine k _ ⟨rfl, fun hn => ⟨g, 0, rfl, by rw [hz]; exact hr.lt, rfl, fun j _ => ?_⟩⟩ ⟨by simp [World.freeze], by simp [World.freeze], by simp [World.freeze], by rw [hz]; exact Nat.le_refl _, fun i _ hi => hb i hi⟩ hz
  rw [Go.Joins.cell_of_block hgg]
  simp
theorem wpList_bytes_mark {t e : TypeId} {x : Operand} (ho : o.op = .convert t t x) (hw : Region.wanted o (yielded ops a.tmps) = true) {g n c : Nat} {cs : List Value} (hx : a.eval x = .slice (some ⟨g, 0, none⟩) n c) (ht : P.underlying t = some (.slice e)) (he : P.underlying e = some (.int .u8)) (hr : Row w g e cs)
    (k : ∀ w', View w' (fun b => b = g) (some ⟨g, 0, none⟩) cs.length cs → Chg (· = g) w w' → w'.heap.size = w.heap.size → wpList P ops Q rest (a.put o.dst (.slice (some ⟨g, 0, none⟩) n c)) w') : wpList P ops Q (o :: rest) a w :=
  BigFrame.wpList_want hw fun _ hK => wp_bytes_mark ho hx ht he hr fun w' h1 h2 h3 => hK _ _ (k w' h1 h2 h3)
/-- A literal of bytes, or of slices, is laid. -/
theorem wpList_new_row {v : Nat → Value} {e : TypeId} {cs : List Value} (hw : Region.wanted o (yielded ops a.tmps) = true) (hrun : ∀ w, (execOp a.eval o).run P w = .ok (.value (v w.heap.size)) (w.alloc (.cells cs.toArray e)))
    (k : ∀ w', Row w' w.heap.size e cs → Chg none_ w w' → w'.heap.size = w.heap.size + 1 → wpList P ops Q rest (a.put o.dst (v w.heap.size)) w') : wpList P ops Q (o :: rest) a w :=
  BigFrame.wpList_want hw fun _ hK => wp_new_row hrun fun w' h1 h2 h3 => hK _ _ (k w' h1 h2 h3)
end
end Go.Proofs.YtfpflhcabjcamaaDoor

namespace Go.Proofs.YtfpflhcabjcamaaDoor
open Go.RowKit

theorem run_string_view (w : World) (T : Nat → Prop) (A : Option Addr) (n cap : Nat) (l : List Nat) (h : View w T A n (u8s l)) :
    (convert 22 9 (.slice A n cap)).run Tryd.prog w = .ok (.string (strOfNums (l.map fun (x : Nat) => (x : Int)))) w := by
  rcases Nat.eq_zero_or_pos n with rfl | hn
  · have hl := h.1
    have : l = [] := List.eq_nil_of_length_eq_zero (by simpa using hl)
    subst this
    rw [run_convert_bytes_string w _ _ _ _ 0 cap Tryd.underlying22 Tryd.underlying5 Tryd.underlying9]
    cases A <;> simp [Conv.bytesToString, loadCells]
    all_goals rfl
  · obtain ⟨b, o, ha, _, _, hc⟩ := h.2 hn
    subst ha
    have hl := h.1
    simp at hl
    refine run_convert_bytes_arg w 22 5 Tryd.underlying22 Tryd.underlying5 b o n cap (l.map fun (x : Nat) => (x : Int)) (by simpa using hl) (fun i hi => ?_) 9 Tryd.underlying9
    have hi2 : i < l.length := by omega
    rw [hc i hi, u8s_get]
    simp [hi2, List.getD_eq_getElem?_getD]

theorem strOfNums_beq (l l' : List Nat) (hl : ∀ x ∈ l, x < 256) (hl' : ∀ x ∈ l', x < 256) :
    ((strOfNums (l.map fun (x : Nat) => (x : Int))).toList == (strOfNums (l'.map fun (x : Nat) => (x : Int))).toList) = decide (l = l') := by
  have e : ∀ l : List Nat, (strOfNums (l.map fun (x : Nat) => (x : Int))).toList = l.map UInt8.ofNat := fun l => by
    rw [ByteArray.toList_eq, strOfNums_data, List.map_map]; rfl
  rw [e, e]
  by_cases h : l = l'
  · subst h; simp
  · rw [decide_eq_false h]
    rw [beq_eq_false_iff_ne]
    intro hm
    apply h
    have : ∀ l l' : List Nat, (∀ x ∈ l, x < 256) → (∀ x ∈ l', x < 256) → l.map UInt8.ofNat = l'.map UInt8.ofNat → l = l' := by
      intro l
      induction l with
      | nil => intro l' _ _ h; cases l' with
        | nil => rfl
        | cons _ _ => cases h
      | cons a l ih =>
        intro l' h1 h2 h
        cases l' with
        | nil => cases h
        | cons b l' =>
          simp only [List.map_cons, List.cons.injEq] at h
          have ha := h1 a (by simp)
          have hb := h2 b (by simp)
          have hab : a = b := by
            have := congrArg UInt8.toNat h.1
            simp [Nat.mod_eq_of_lt ha, Nat.mod_eq_of_lt hb] at this
            exact this
          rw [hab, ih l' (fun x hx => h1 x (by simp [hx])) (fun x hx => h2 x (by simp [hx])) h.2]
    exact this l l' hl hl' hm

end Go.Proofs.YtfpflhcabjcamaaDoor

namespace Go.Proofs.YtfpflhcabjcamaaDoor
open Go.RowKit

/-- Where s[:k] lies. -/
def highA (A : Option Addr) (cap : Nat) : Option Addr := if cap = 0 then A else A.map (·.add 0)
theorem run_slice_high {P : Program} (w : World) (t e : TypeId) (A : Option Addr) (n cap k : Nat) (hu : P.underlying t = some (.slice e)) (hs : (P.info? e).map (·.size) = some 1) (hk : k ≤ cap) :
    (Instr.slice t (.slice A n cap) none (some (.int .i64 (k : Int))) none).run P w = .ok (.slice (highA A cap) k cap) w := by
  cases hq : P.info? e with
  | none => rw [hq] at hs; cases hs
  | some i =>
    have hsz : i.size = 1 := by simpa [hq] using hs
    simp [Instr.slice, run_underlying hu, Instr.sliceBounds, Instr.sliceBound, asIntOf, sizeOf, typeInfo, hq, hk, highA]
theorem View.high {w : World} {T : Nat → Prop} {A : Option Addr} {n : Nat} {xs : List Value} (h : View w T A n xs) (cap : Nat) : View w T (highA A cap) n xs := by
  unfold highA
  split
  · exact h
  · have := h.drop (k := 0)
    rw [List.drop_zero, Nat.sub_zero] at this
    exact this
/-- s[:k] of a view. -/
theorem View.upto {w : World} {T : Nat → Prop} {A : Option Addr} {n k : Nat} {l : List Nat} (h : View w T A n (u8s l)) (cap : Nat) (hk : k ≤ n) : View w T (highA A cap) k (u8s (l.take k)) := by
  have h2 := (h.take hk).high cap
  rwa [show (u8s l).take k = u8s (l.take k) from by simp [u8s]] at h2
theorem yieldsIf_slice_high {P : Program} {ops : Array Oper} {S : World → Prop} {o : Oper} {a : Act} (hw : Region.wanted o (yielded ops a.tmps) = true) (t e : TypeId) (x y : Operand) (ho : o.op = .slice t x none (some y) none) (A : Option Addr) (n cap k : Nat) (hx : a.eval x = .slice A n cap) (hy : a.eval y = .int .i64 (k : Int))
    (hu : P.underlying t = some (.slice e)) (hs : (P.info? e).map (·.size) = some 1) (hk : k ≤ cap) : YieldsIf P ops S o (.slice (highA A cap) k cap) a :=
  .inl ⟨hw, fun w _ => by
    have := run_slice_high (P := P) w t e A n cap k hu hs hk
    unfold execOp
    simp [ho, hx, hy, Instr.sliceAt, run_underlying hu, this]⟩
end Go.Proofs.YtfpflhcabjcamaaDoor

namespace Go.Proofs.YtfpflhcabjcamaaDoor
open Go.RowKit
theorem yieldsIf_eql {P : Program} {ops : Array Oper} {S : World → Prop} {op : Oper} {a : Act} (hw : Region.wanted op (yielded ops a.tmps) = true) (T R : TypeId) (x y : Operand) (ho : op.op = .binOp .eql T x y R) (u v : Array Value) (hx : a.eval x = .agg u) (hy : a.eval y = .agg v) (b : Bool)
    (hg : ∀ w, (eqGuard .eql T x y (.agg u) (.agg v)).run P w = .ok () w) (h : ∀ w, S w → (Op.equalIn 10000 T (.agg u) (.agg v)).run P w = .ok b w) : YieldsIf P ops S op (.bool b) a :=
  .inl ⟨hw, fun w hw' => by
    have hh : (Op.equal T (.agg u) (.agg v)).run P w = .ok b w := h w hw'
    unfold execOp
    simp only [ho, hx, hy, Sem.run_bind, Sem.run_pure, Result.andThen_ok, hg w, binOp, hh]⟩
end Go.Proofs.YtfpflhcabjcamaaDoor

namespace Go.Proofs.YtfpflhcabjcamaaDoor
open Go.RowKit

theorem plainU8 : Tryd.prog.plainKey 5 = true := by kernel_rfl
theorem cellsU8h : Tryd.prog.cellsOf 5 = 1 := by kernel_rfl
theorem eqItems_u8h (d : Nat) (xs ys : List Nat) (w : World) : ∀ is : List Nat, (∀ i ∈ is, i < xs.length ∧ i < ys.length) →
    (Op.eqItems (d + 1) 5 1 (u8s xs).toArray (u8s ys).toArray is).run Tryd.prog w = .ok (is.all fun i => xs.getD i 0 == ys.getD i 0) w
  | [], _ => by simp [Op.eqItems]
  | i :: is, h => by
    have hi := h i (by simp)
    have h1 : (u8s xs).toArray[i * 1]? = some (.int .u8 ((xs.getD i 0 : Nat) : Int)) := by rw [Nat.mul_one, List.getElem?_toArray, u8s_get]; simp [hi.1, List.getD_eq_getElem?_getD]
    have h2 : (u8s ys).toArray[i * 1]? = some (.int .u8 ((ys.getD i 0 : Nat) : Int)) := by rw [Nat.mul_one, List.getElem?_toArray, u8s_get]; simp [hi.2, List.getD_eq_getElem?_getD]
    have ih := eqItems_u8h d xs ys w is (fun j hj => h j (by simp [hj]))
    simp only [Op.eqItems, Sem.run_bind, run_part_plain w plainU8 h1, run_part_plain w plainU8 h2, Result.andThen_ok, run_equalIn_int w d 5 .u8 .u8 _ _ Tryd.underlying5]
    rw [List.all_cons]
    have e : ((((xs.getD i 0 : Nat) : Int)) == ((ys.getD i 0 : Nat) : Int)) = (xs.getD i 0 == ys.getD i 0) := by rw [Bool.eq_iff_iff]; simp; omega
    rw [e]
    cases hb : (xs.getD i 0 == ys.getD i 0)
    · simp
    · simpa using ih

theorem arr_eql (t : TypeId) (n d : Nat) (hu : Tryd.prog.underlying t = some (.array n 5)) (xs ys : List Nat) (hx : xs.length = n) (hy : ys.length = n) (w : World) :
    (Op.equalIn (d + 2) t (.agg (u8s xs).toArray) (.agg (u8s ys).toArray)).run Tryd.prog w = .ok (decide (xs = ys)) w := by
  obtain ⟨i0, hi⟩ : ∃ i0, Tryd.prog.info? 5 = some i0 := by
    obtain ⟨i0, hi, _⟩ := info_parts info5; exact ⟨i0, hi⟩
  rw [show d + 2 = (d + 1) + 1 from rfl, run_equalIn_array w (d + 1) _ _ hu hi, cellsU8h, eqItems_u8h d xs ys w _ (fun i h => by have := List.mem_range.1 h; omega)]
  refine congrArg (fun b => Result.ok b w) ?_
  by_cases h : xs = ys
  · subst h; simp
  · rw [decide_eq_false h, Bool.eq_false_iff]
    intro hall
    apply h
    apply List.ext_getElem (by omega)
    intro j h1 h2
    have := List.all_eq_true.1 hall j (List.mem_range.2 (by omega))
    simpa [List.getD_eq_getElem?_getD, h1, h2] using this
end Go.Proofs.YtfpflhcabjcamaaDoor

namespace Go.Proofs.YtfpflhcabjcamaaDoor
open Go.RowKit Go.ChangeShapes Go.WideShapes Go.Deep

theorem nat_u8h {x : Int} (h : (Lit.int .u8 x).wf = true) : ∃ n : Nat, x = (n : Int) ∧ n < 256 := by
  have h2 : (decide (0 ≤ x) && decide (x ≤ 255)) = true := h
  simp only [Bool.and_eq_true, decide_eq_true_eq] at h2
  exact ⟨x.toNat, by omega, by omega⟩
theorem cells_numsh : ∀ (l : List Value), (∀ v ∈ l, ∃ n : Nat, v = .int .u8 (n : Int) ∧ n < 256) → ∃ t : List Nat, l = u8s t ∧ ∀ x ∈ t, x < 256
  | [], _ => ⟨[], rfl, by simp⟩
  | v :: l, h => by
    obtain ⟨n, rfl, hn⟩ := h v (by simp)
    obtain ⟨t, rfl, ht⟩ := cells_numsh l (fun v hv => h v (by simp [hv]))
    exact ⟨n :: t, rfl, by simpa using ⟨hn, ht⟩⟩
end Go.Proofs.YtfpflhcabjcamaaDoor

namespace Go.Proofs.YtfpflhcabjcamaaDoor
open Go.RowKit

/-- Same, over views. -/
theorem same_any (w : World) (T T' : Nat → Prop) (A A' : Option Addr) (c c' : Nat) (l l' : List Nat) (h : View w T A l.length (u8s l)) (h' : View w T' A' l'.length (u8s l')) (hl : l.length ≤ 1000000) :
    Calls Tryd.prog 15 #[.slice A l.length c, .slice A' l'.length c'] w fun e w' => e = .returned (.bool (decide (l = l'))) ∧ ∃ k, w' = w.drewN k := by
  by_cases hlen : l.length = l'.length
  · by_cases hz : l.length = 0
    · have e1 : l = [] := List.eq_nil_of_length_eq_zero hz
      have e2 : l' = [] := List.eq_nil_of_length_eq_zero (by omega)
      subst e1; subst e2
      go_enter Tryd.func15, Tryd.ntmps15
      go_wp2
      refine wp_loop_rounds 1 ?_
      rw [rounds_succ]
      go_wp2
      go_ret
      exact ⟨rfl, 0, rfl⟩
    · obtain ⟨b, o, rfl, hb, _, hc⟩ := h.2 (by omega)
      obtain ⟨b', o', rfl, hb', _, hc'⟩ := h'.2 (by omega)
      have hne : (((l.length : Nat) : Int) != (l'.length : Int)) = false := by rw [bne_eq_false_iff_eq]; omega
      have hlen' : l'.length ≤ 1000000 := by omega
      have HL := Lib.hid hlen
      clear hlen h h'
      have HC : Hid (∀ j, j < l.length → w.cell? ⟨b, o + j, none⟩ = some (.int .u8 ((l.getD j 0 : Nat) : Int))) := fun j hj => by rw [hc j hj, u8s_get]; simp [hj, List.getD]
      have HC' : Hid (∀ j, j < l'.length → w.cell? ⟨b', o' + j, none⟩ = some (.int .u8 ((l'.getD j 0 : Nat) : Int))) := fun j hj => by rw [hc' j hj, u8s_get]; simp [hj, List.getD]
      clear hc hc'
      go_enter Tryd.func15, Tryd.ntmps15
      go_wp2
      go_loopw [5] (fun i wr => ∃ k m : Nat, k ≤ l.length ∧ i = .int .i64 k ∧ wr = w.drewN m ∧ Hid (∀ j, j < k → l.getD j 0 = l'.getD j 0)) (fun i _ => l.length - (intOf i).toNat)
      case atStart => exact ⟨0, 0, Nat.zero_le _, rfl, rfl, fun j hj => absurd hj (by omega)⟩
      case round =>
        obtain ⟨k, m, hk, rfl, rfl, hpre⟩ := hrel
        by_cases hlt : k < l.length
        · have hlt' : k < l'.length := by have := HL.out; omega
          have c1 : w.cell? ⟨b, o + k, none⟩ = some (.int .u8 ((l.getD k 0 : Nat) : Int)) := HC.out k hlt
          have c2 : w.cell? ⟨b', o' + k, none⟩ = some (.int .u8 ((l'.getD k 0 : Nat) : Int)) := HC'.out k hlt'
          have hk0 : (0 : Int) ≤ (k : Int) := by omega
          have hk1 : (k : Int) < (l.length : Int) := by omega
          have hk2 : (k : Int) < (l'.length : Int) := by omega
          generalize hx : l.getD k 0 = x at c1
          generalize hy : l'.getD k 0 = y at c2
          have HX := Lib.hid hx
          have HY := Lib.hid hy
          clear hx hy
          by_cases hxy : x = y
          · have hne2 : (((x : Nat) : Int) != (y : Int)) = false := by rw [bne_eq_false_iff_eq]; omega
            have HXY := Lib.hid hxy
            clear hxy
            go_wp2
            go_quiet (fail)
            go_wp2
            go_roundw
            case rel =>
              refine ⟨k + 1, m + nq, by omega, by go_num, rfl, ?_⟩
              intro j hj
              rcases Nat.lt_or_ge j k with hjk | hjk
              · exact hpre.out j hjk
              · have : j = k := by omega
                subst this
                rw [HX.out, HY.out, HXY.out]
            case measure => simp [intOf]; omega
          · have hne2 : (((x : Nat) : Int) != (y : Int)) = true := by rw [bne_iff_ne]; omega
            have HXY := Lib.hid hxy
            clear hxy
            go_wp2
            go_quiet (fail)
            go_wp2
            go_ret
            refine ⟨ret_bool ?_, m + nq, by simp only [World.drewN, Nat.add_assoc]⟩
            symm
            rw [decide_eq_false_iff_not]
            intro e
            exact HXY.out (by rw [← HX.out, ← HY.out, e])
        · have hkl : k = l.length := by omega
          have HK := Lib.hid hkl
          clear hkl
          have : ¬ (k : Int) < (l.length : Int) := by omega
          go_wp2
          go_ret
          refine ⟨ret_bool ?_, m, rfl⟩
          symm
          rw [decide_eq_true_eq]
          apply List.ext_getElem HL.out
          intro j h1 h2
          have := hpre.out j (by rw [HK.out]; exact h1)
          simpa [List.getD_eq_getElem?_getD, h1, h2] using this
  · have hne : (((l.length : Nat) : Int) != (l'.length : Int)) = true := by simp; omega
    have hd : decide (l = l') = false := by simp; intro e; exact hlen (by rw [e])
    rw [hd]
    go_enter Tryd.func15, Tryd.ntmps15
    go_wp2
    go_ret
    exact ⟨rfl, 0, rfl⟩
end Go.Proofs.YtfpflhcabjcamaaDoor

namespace Go.Proofs.YtfpflhcabjcamaaDoor
open Go.RowKit

section
variable {P : Program} {l n : Nat}
theorem wpIn_round_op {o : Oper} {a : Act} {w : World} {K : Act → World → Prop} {Q : Exit → Act → World → Prop} (hd : ∀ c, o.op ≠ .defer c) (h : Oper.wp P o a w K Q) : Oper.wpIn (Fence.wide.inRound l) n P o a w K Q := by
  refine ⟨fun _ _ => trivial, ?_⟩
  rw [Oper.semAt_eq _ _ _ hd]
  unfold Oper.wp at h
  generalize (execOp a.eval o).run P w = r at h ⊢
  cases r with
  | ok x w' =>
    cases x <;> simp only [Oper.upon, Oper.uponIn] at h ⊢
    case value => exact h
    case skip => exact h
    case defer => exact h
    case enter => exact ⟨fun hh => by simp [Fence.wide] at hh, CallsIn.inRound l ((callsIn_wide.2 h).mono fun e w'' he => by cases e <;> exact he)⟩
    case row => exact ⟨fun hh => by simp [Fence.wide] at hh, fun c cs _ => let ⟨v, w2, r, s⟩ := h c cs; ⟨v, w2, r, stepsIn_wide.2 s⟩⟩
  | halt x w' => cases x <;> simp only [Oper.upon, Oper.uponIn] at h ⊢ <;> exact h
theorem wpOpIn_round {ops : Array Oper} {Q : Exit → Act → World → Prop} {i : Nat} {K : Act → World → Prop} {a : Act} {w : World} (hd : ∀ (i : Nat) (o : Oper), ops[i]? = some o → ∀ c, o.op ≠ .defer c) (hq : ¬ LetsOut Q) (h : wpOp P ops Q i K a w) : wpOpIn (Fence.wide.inRound l) n P ops Q i K a w := by
  unfold wpOp at h
  unfold wpOpIn
  split
  · rename_i ho
    simp only [ho] at h
    exact h
  · rename_i o ho
    simp only [ho] at h
    split
    · rename_i hw
      simp only [hw, if_true] at h
      exact wpIn_round_op (hd _ _ ho) (h.resolve_right fun h2 => hq h2.2)
    · rename_i hw
      simp only [hw] at h
      exact ⟨fun _ _ => trivial, h⟩
theorem wpAnyIn_round {ops : Array Oper} {md : Region.Mode} {Q : Exit → Act → World → Prop} (hd : ∀ (i : Nat) (o : Oper), ops[i]? = some o → ∀ c, o.op ≠ .defer c) (hq : ¬ LetsOut Q) : ∀ (fuel : Nat) (listed : Array Bool) (a : Act) (w : World), wpAny P md ops Q fuel listed a w → wpAnyIn (Fence.wide.inRound l) n P md ops Q fuel listed a w
  | 0, _, _, _, h => h
  | fuel + 1, _, _, _, h => ⟨h.1, fun i hi => wpOpIn_mono (fun a w => wpAnyIn_round hd hq fuel _ a w) (wpOpIn_round hd hq (h.2 i hi))⟩
def noDefer (ops : Array Oper) : Bool := ops.toList.all fun o => match o.op with | .defer _ => false | _ => true
theorem noDefer_spec {ops : Array Oper} (h : noDefer ops = true) : ∀ (i : Nat) (o : Oper), ops[i]? = some o → ∀ c, o.op ≠ .defer c := fun i o ho c e => by
  have := List.all_eq_true.1 h o (Array.mem_toList_iff.2 (Array.mem_of_getElem? ho))
  rw [e] at this
  cases this
/-- The region is walked as outside of a round. -/
theorem wpIn_region_round {id : Nat} {ops : Array Oper} {Q : Exit → Act → World → Prop} {S : World → Prop} {a : Act} {w : World} (hm : P.follows .mixedOrders = true) (hd : noDefer ops = true) (hq : ¬ LetsOut Q) (hS : S w.drew)
    (h : S w.drew → wpAnyH P .any ops Q S ops.size (Array.replicate ops.size false) a w.drew) : (Code.region id ops true).wpIn (Fence.wide.inRound l) n P Q a w :=
  wpIn_region_any hm (wpAnyIn_round (noDefer_spec hd) hq _ _ _ _ (wpAny_of_held _ _ _ _ (h hS)))
end
end Go.Proofs.YtfpflhcabjcamaaDoor
