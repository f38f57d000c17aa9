/- Layer 3 (frames): frames one behind the other, in memory of the call's own. -/
import Derived.Test.YtlcffjmbfpdlbaaDoorV3ParseM
import Derived.Test.YtlcffjmbfpdlbaaDoorV3Of
import Derived.Test.YtlcffjmbfpdlbaaDoorAloc
import Derived.Test.YtlcffjmbfpdlbaaDoorFill
namespace Go.Proofs.YtlcffjmbfpdlbaaDoor
open Go.RowKit

/-- A frame, and where its slices lie. -/
abbrev FrV := Fr × Value × Value
def fcellsL : List FrV → List Value
  | [] => []
  | x :: xs => cellsF x.1 x.2.1 x.2.2 ++ fcellsL xs
theorem fcellsL_snoc (x : FrV) : ∀ l : List FrV, fcellsL (l ++ [x]) = fcellsL l ++ cellsF x.1 x.2.1 x.2.2
  | [] => by simp [fcellsL]
  | y :: l => by
    show cellsF y.1 y.2.1 y.2.2 ++ fcellsL (l ++ [x]) = _
    rw [fcellsL_snoc x l, ← List.append_assoc]
    rfl

/-- Frames lie in a row of the call's own; what they have lies in blocks of T. -/
structure FsAt (w : World) (base : Nat) (T : Nat → Prop) (v : Value) (L : List FrV) : Prop where
  own : w.ownsRow base 27 24 v L.length (fcellsL L)
  at_ : ∀ x ∈ L, FrD w T x.1 x.2.1 x.2.2
  lt : ∀ b, T b → base ≤ b ∧ b < w.heap.size
  ne : ∀ b, v.ownBlock = some b → ¬ T b
theorem own_chgF {w w' : World} {S : Nat → Prop} {base n size : Nat} {e : TypeId} {v : Value} {xs : List Value} (h : w.ownsRow base e size v n xs) (hc : Chg S w w') (hs : ∀ b, v.ownBlock = some b → ¬ S b) : w'.ownsRow base e size v n xs := by
  refine ⟨h.1, ?_⟩
  rcases h.2 with h2 | ⟨g, cap, cur, h1, hb, h2, h3⟩
  · exact .inl h2
  · exact .inr ⟨g, cap, cur, h1, hb, (hc.block g (Array.getElem?_eq_some_iff.1 h2).1 (hs g (by rw [h1]; rfl))).trans h2, h3⟩
theorem FsAt.chg {w w' : World} {base : Nat} {T S : Nat → Prop} {v : Value} {L : List FrV} (h : FsAt w base T v L) (hc : Chg S w w') (hs : ∀ b, base ≤ b → ¬ S b) : FsAt w' base T v L where
  own := own_chgF h.own hc (fun b e => hs b (h.own.lt b e).1)
  at_ := fun x hx => (h.at_ x hx).chg hc (fun b hb => hs b (h.lt b hb).1)
  lt := fun b hb => ⟨(h.lt b hb).1, Nat.lt_of_lt_of_le (h.lt b hb).2 hc.size⟩
  ne := h.ne
theorem FsAt.nil (w : World) (base : Nat) : FsAt w base (fun _ => False) (.slice none 0 0) [] where
  own := World.ownsRow_nil _ _ _ _
  at_ := fun x hx => by cases hx
  lt := fun _ h => h.elim
  ne := fun _ e => (nomatch e)
/-- One frame more, and what it has, in new memory. -/
theorem FsAt.snoc {w w1 w2 : World} {base : Nat} {T S : Nat → Prop} {v v' : Value} {L : List FrV} {x : FrV} (h : FsAt w base T v L) (hb : base ≤ w.heap.size) (hc1 : Chg S w w1) (hS : ∀ b, base ≤ b → ¬ S b) (hf : FrD w1 (fun b => w.heap.size ≤ b ∧ b < w1.heap.size) x.1 x.2.1 x.2.2)
    (hc2 : Chg (fun b => v.ownBlock = some b) w1 w2) (hown : w2.ownsRow base 27 24 v' (L.length + 1) (fcellsL L ++ cellsF x.1 x.2.1 x.2.2)) (hn : ∀ b, v'.ownBlock = some b → v.ownBlock = some b ∨ w1.heap.size ≤ b) :
    FsAt w2 base (fun b => T b ∨ (w.heap.size ≤ b ∧ b < w1.heap.size)) v' (L ++ [x]) where
  own := by rw [fcellsL_snoc, List.length_append]; exact hown
  at_ := fun y hy => by
    have hv : ∀ b, v.ownBlock = some b → b < w.heap.size := fun b e => (h.own.lt b e).2
    rcases List.mem_append.1 hy with hy | hy
    · exact (((h.at_ y hy).chg hc1 (fun b hb => hS b (h.lt b hb).1)).chg hc2 (fun b hb e => h.ne b e hb)).mono (fun b _ hb => .inl hb)
    · obtain rfl : y = x := by simpa using hy
      exact (hf.chg hc2 (fun b hb e => by have := hv b e; omega)).mono (fun b _ hb => .inr hb)
  lt := fun b hb' => by
    have h1 := hc1.size
    have h2 := hc2.size
    rcases hb' with hb' | hb'
    · have := h.lt b hb'; omega
    · omega
  ne := fun b e hb' => by
    rcases hn b e with e1 | e1
    · rcases hb' with hb' | hb'
      · exact h.ne b e1 hb'
      · have := (h.own.lt b e1).2; omega
    · have h1 := hc1.size
      rcases hb' with hb' | hb'
      · have := h.lt b hb'; omega
      · omega

section
variable {P : Program} {ops : Array Oper} {rest : List Oper} {o : Oper} {a : Act} {w : World} {Q : Exit → Act → World → Prop}
/-- Any operation that lays one block. -/
theorem wpList_newF {v : Nat → Value} {e : TypeId} {cs : List Value} (hw : Region.wanted o (yielded ops a.tmps) = true) (hrun : ∀ w, (execOp a.eval o).run P w = .ok (.value (v w.heap.size)) (w.alloc (.cells cs.toArray e)))
    (k : ∀ w', Row w' w.heap.size e cs → Chg none_ w w' → w'.heap.size = w.heap.size + 1 → wpList P ops Q rest (a.put o.dst (v w.heap.size)) w') : wpList P ops Q (o :: rest) a w :=
  BigFrame.wpList_want hw fun _ hK => wp_new_row hrun fun w' h1 h2 h3 => hK _ _ (k w' h1 h2 h3)
end

/-! ### slices of frames are laid -/
theorem zero27 : (Tryd.prog.info? 27).map (·.zero) = some (some (.agg zeroF.toArray)) := by kernel_rfl
theorem infoF_parts : ∃ j, Tryd.prog.info? 27 = some j ∧ j.size = 24 ∧ j.zero = some (.agg zeroF.toArray) ∧ j.bytes ≤ 4096 := by
  have h1 := size27
  have h2 := zero27
  have h3 : ((Tryd.prog.info? 27).map fun i => decide (i.bytes ≤ 4096)) = some true := by kernel_rfl
  cases hq : Tryd.prog.info? 27 with
  | none => rw [hq] at h1; cases h1
  | some j =>
    rw [hq] at h1 h2 h3
    exact ⟨j, rfl, by simpa using h1, by simpa using h2, by simpa using h3⟩
theorem zero24 : Array.map (fun x => zeroF[x % 24]?.getD default) (Array.range 24) = zeroF.toArray := by kernel_rfl
theorem zeroF_len : zeroF.length = 24 := rfl
theorem run_sliceF (cs : List Value) (hl : cs.length = 24) (w : World) : (Instr.buildSlice 35 1 #[(0, .agg cs.toArray)]).run Tryd.prog w = .ok (.slice (some ⟨w.heap.size, 0, none⟩) 1 1) (w.alloc (.cells cs.toArray 27)) := by
  obtain ⟨j, hj, hs, hz, _⟩ := infoF_parts
  have hf : Instr.fill (fun i => some (i * 24, 24)) zeroF.toArray [(0, .agg cs.toArray)] = some cs.toArray := by
    have := fill_part (place := fun i => some (i * 24, 24)) (k := 0) (v := .agg cs.toArray) (xs := cs) (pre := []) (ys := zeroF) (post := []) (rest := []) rfl (by rw [hl]; rfl) (by rw [hl]; rfl)
    simp only [List.nil_append, List.append_nil] at this
    rw [this]
    rfl
  have hz2 := zero24
  simp [Instr.buildSlice, run_underlying Tryd.underlying35, sizeOf, typeInfo, zeroValue, hj, hs, hz, Value.cells, zeroF_len, hz2, hf, newRow]
end Go.Proofs.YtlcffjmbfpdlbaaDoor
