/- Layer 6 (hframe): a frame told plainly, its cells, where its slices lie; what is right, its bytes, what is read. -/
import Derived.Test.YtcdnjeojgjakdaaDoorProg
import Derived.Test.YtcdnjeojgjakdaaDoorFlat
import Derived.Test.YtcdnjeojgjakdaaDoorBytes
import Derived.Test.YtcdnjeojgjakdaaDoorV3Rd
import Derived.BigQuiet
import Derived.Deep.QuietTactic
import Derived.Lib.Hide
namespace Go.Proofs.YtcdnjeojgjakdaaDoor
open Go.RowKit

/-- A frame, as numbers and lists. -/
structure Hf where
  kind : Int := 0
  id : Nat := 0
  sets : List (Nat × Nat) := []
  data : List Nat := []
  deriving DecidableEq

/-- A frame's cells, its slices as they are. -/
def cellsH (f : Hf) (ss sd : Value) : List Value := [.int .i64 f.kind, .int .u64 f.id, ss, sd]
/-- A frame by value. -/
def aggH (f : Hf) (ss sd : Value) : Value := .agg (cellsH f ss sd).toArray
/-- Pairs of numbers, two cells each. -/
def rcells (l : List (Nat × Nat)) : List Value := l.flatMap fun x => [.int .u64 (x.1 : Nat), .int .u64 (x.2 : Nat)]

/-- Where a frame's slices lie. -/
structure HfD (w : World) (T : Nat → Prop) (f : Hf) (ss sd : Value) : Prop where
  sets : ∃ A c, ss = .slice A f.sets.length c ∧ (f.sets.length ≤ 1000000 ∧ f.sets.length ≤ c) ∧ View w T A (2 * f.sets.length) (rcells f.sets)
  data : ∃ A c, sd = .slice A f.data.length c ∧ (f.data.length ≤ 1000000 ∧ f.data.length ≤ c) ∧ View w T A f.data.length (u8s f.data)
theorem HfD.chg {w w' : World} {S T : Nat → Prop} {f : Hf} {ss sd : Value} (h : HfD w T f ss sd) (hc : Chg S w w') (hs : ∀ b, T b → ¬ S b) : HfD w' T f ss sd := by
  obtain ⟨⟨A, c, h2, h3, h4⟩, ⟨B, d, h5, h6, h7⟩⟩ := h
  exact ⟨⟨A, c, h2, h3, h4.chg hc hs⟩, ⟨B, d, h5, h6, h7.chg hc hs⟩⟩
theorem HfD.mono {w : World} {T T' : Nat → Prop} {f : Hf} {ss sd : Value} (h : HfD w T f ss sd) (hs : ∀ b, b < w.heap.size → T b → T' b) : HfD w T' f ss sd := by
  obtain ⟨⟨A, c, h2, h3, h4⟩, ⟨B, d, h5, h6, h7⟩⟩ := h
  exact ⟨⟨A, c, h2, h3, h4.mono hs⟩, ⟨B, d, h5, h6, h7.mono hs⟩⟩
/-- Numbers that a frame's may be. -/
structure Hf.Ok (f : Hf) : Prop where
  k0 : -9223372036854775808 ≤ f.kind
  k1 : f.kind < 9223372036854775808
  id : f.id < 18446744073709551616
  data : ∀ x ∈ f.data, x < 256
  sets : ∀ x ∈ f.sets, x.1 < 18446744073709551616 ∧ x.2 < 18446744073709551616

theorem sizeH : (Tryd.prog.info? 26).map (·.size) = some 4 := by kernel_rfl
theorem sizeS : (Tryd.prog.info? 49).map (·.size) = some 2 := by kernel_rfl
theorem cellsH_one (f : Hf) (A B : Option Addr) (n c m d : Nat) : (cellsH f (.slice A n c) (.slice B m d)).all (·.oneCell') = true := rfl

theorem rcells_len (l : List (Nat × Nat)) : (rcells l).length = 2 * l.length := by
  induction l with
  | nil => rfl
  | cons a l ih => simp only [rcells, List.flatMap_cons, List.length_append, List.length_cons, List.length_nil] at ih ⊢; omega
theorem rcells_lo (l : List (Nat × Nat)) (i : Nat) (h : i < l.length) : (rcells l)[2 * i]? = some (.int .u64 ((l.getD i (0, 0)).1 : Nat)) := by
  induction l generalizing i with
  | nil => cases h
  | cons a l ih =>
    cases i with
    | zero => rfl
    | succ i =>
      have := ih i (by simpa using h)
      rw [show 2 * (i + 1) = 2 * i + 1 + 1 from by omega]
      simpa [rcells] using this
theorem rcells_hi (l : List (Nat × Nat)) (i : Nat) (h : i < l.length) : (rcells l)[2 * i + 1]? = some (.int .u64 ((l.getD i (0, 0)).2 : Nat)) := by
  induction l generalizing i with
  | nil => cases h
  | cons a l ih =>
    cases i with
    | zero => rfl
    | succ i =>
      have := ih i (by simpa using h)
      rw [show 2 * (i + 1) + 1 = 2 * i + 1 + 1 + 1 from by omega]
      simpa [rcells] using this
theorem rcells_append (l m : List (Nat × Nat)) : rcells (l ++ m) = rcells l ++ rcells m := by simp [rcells]
theorem rcells_one (l : List (Nat × Nat)) : ∀ u ∈ rcells l, u.oneCell' = true := by
  intro u hu
  simp only [rcells, List.mem_flatMap, List.mem_cons, List.not_mem_nil, or_false] at hu
  obtain ⟨x, _, rfl | rfl⟩ := hu <;> rfl
theorem rcells_take (l : List (Nat × Nat)) (k : Nat) : rcells (l.take k) = (rcells l).take (2 * k) := by
  induction l generalizing k with
  | nil => simp [rcells]
  | cons a l ih =>
    cases k with
    | zero => rfl
    | succ k =>
      rw [show 2 * (k + 1) = 2 * k + 1 + 1 from by omega]
      simpa [rcells] using ih k

/-- Pairs in view: where each one lies. -/
theorem View.pairs {w : World} {T : Nat → Prop} {A : Option Addr} {l : List (Nat × Nat)} (h : View w T A (2 * l.length) (rcells l)) (h0 : 0 < l.length) :
    ∃ b o, A = some ⟨b, o, none⟩ ∧ b < w.heap.size ∧ T b ∧ ∀ i, i < l.length → w.cell? ⟨b, o + i * 2, none⟩ = some (.int .u64 ((l.getD i (0, 0)).1 : Nat)) ∧ w.cell? ⟨b, o + i * 2 + 1, none⟩ = some (.int .u64 ((l.getD i (0, 0)).2 : Nat)) := by
  obtain ⟨b, o, ha, hb, ht, hc⟩ := h.2 (by omega)
  refine ⟨b, o, ha, hb, ht, fun i hi => ⟨?_, ?_⟩⟩
  · rw [Nat.mul_comm i 2, hc (2 * i) (by omega)]; exact rcells_lo l i hi
  · rw [Nat.mul_comm i 2, Nat.add_assoc, hc (2 * i + 1) (by omega)]; exact rcells_hi l i hi

/-! What is right. -/
/-- An integer's bytes. -/
def encI (n : Nat) : List Nat := wideB n (szN n)
/-- Which kind a number is. -/
inductive KK where
  | data | id | sets
  deriving DecidableEq
def kkL : List (Nat × KK) := [(0, .data), (1, .data), (3, .id), (4, .sets), (7, .id), (13, .id)]
def kkM (k : Nat) : Option KK := (kkL.find? fun x => x.1 == k).map (·.2)
/-- The key of a kind. -/
def keyM (k : Int) : Nat := (k % 18446744073709551616).toNat
theorem keyM_wrap (k : Int) : IntKind.u64.wrap k = (keyM k : Int) := by
  unfold keyM
  rw [Int.toNat_of_nonneg (Int.emod_nonneg _ (by decide))]
  rfl
theorem keyM_lt (k : Int) : keyM k < 18446744073709551616 := by unfold keyM; omega
/-- Numbers that no frame's may be, and no setting's. -/
def forbN (n : Nat) : Bool := decide (n = 2 ∨ n = 6 ∨ n = 8 ∨ n = 9)
def forbS (n : Nat) : Bool := decide (n = 0 ∨ n = 2 ∨ n = 3 ∨ n = 4 ∨ n = 5)
/-- Is a setting one that may not stand behind those ahead? -/
def badAt (l : List (Nat × Nat)) (i : Nat) : Bool := (l.take i).any (fun a => a.1 == (l.getD i (0, 0)).1) || (forbS (l.getD i (0, 0)).1 || decide (4611686018427387903 < max (l.getD i (0, 0)).1 (l.getD i (0, 0)).2))
def setsB (l : List (Nat × Nat)) : Bool := decide (l.length ≤ 16 ∧ ∀ i, i < l.length → badAt l i = false)
def hasK : KK → Hf → Bool
  | .data, f => decide (f.data.length ≤ 1000 ∧ f.id = 0 ∧ f.sets.length = 0)
  | .id, f => decide (f.id ≤ 4611686018427387903 ∧ f.sets.length = 0 ∧ f.data.length = 0)
  | .sets, f => setsB f.sets && decide (f.id = 0 ∧ f.data.length = 0)
def rightH (f : Hf) : Bool := match kkM (keyM f.kind) with | none => false | some k => hasK k f
/-- A frame's own bytes, and all. -/
def setsE (l : List (Nat × Nat)) : List Nat := l.flatMap fun s => encI s.1 ++ encI s.2
def ownK : KK → Hf → List Nat
  | .data, f => f.data
  | .id, f => encI f.id
  | .sets, f => setsE f.sets
def putH (f : Hf) : List Nat := match kkM (keyM f.kind) with
  | none => []
  | some k => if hasK k f then encI (keyM f.kind) ++ (encI (ownK k f).length ++ ownK k f) else []

/-! What is read. -/
def splitM (b : List Nat) : Nat × List Nat × Nat × Int :=
  let r1 := rdInt (b.take 16, 0)
  let s1 := if forbN r1.1 then failSt 3 r1.2 else r1.2
  let r2 := rdInt s1
  let start := (b.take 16).length - r2.2.1.length
  let s2 := if b.length - start < r2.1 then failSt 2 r2.2 else r2.2
  if s2.2 ≠ 0 then (0, [], 0, s2.2) else (r1.1, (b.drop start).take r2.1, start + r2.1, 0)
def takeS : Nat → List (Nat × Nat) → St → List (Nat × Nat) × St
  | 0, l, s => (l, s)
  | n + 1, l, s => if s.1 = [] then (l, s) else takeS n (l ++ [((rdInt s).1, (rdInt (rdInt s).2).1)]) (rdInt (rdInt s).2).2
def takeK : KK → List Nat → Hf → Hf × Bool
  | .data, own, f => ({ f with data := own }, true)
  | .id, own, f => ({ f with id := (rdInt (own, 0)).1 }, decide ((rdInt (own, 0)).2.2 = 0 ∧ (rdInt (own, 0)).2.1 = []))
  | .sets, own, f => ({ f with sets := (takeS 17 [] (own, 0)).1 }, decide ((takeS 17 [] (own, 0)).2.2 = 0))
def nextH (b : List Nat) : Hf × Nat × Int :=
  match splitM b with
  | (number, own, n, e) => if e ≠ 0 then ({}, 0, e) else match kkM number with
    | none => ({}, n, 6)
    | some k => if (takeK k own { kind := number }).2 && hasK k (takeK k own { kind := number }).1 then ((takeK k own { kind := number }).1, n, 0) else ({}, 0, 3)
end Go.Proofs.YtcdnjeojgjakdaaDoor
