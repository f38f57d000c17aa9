/- Layer 15 (ledger): packets as they lie, what they are plainly, and a ledger in memory. -/
import Derived.Test.YtakoeamfmmbdiaaV3FrL
import Derived.Test.YtakoeamfmmbdiaaRowsN
namespace Go.Proofs.Ytakoeamfmmbdiaa
open Go.RowKit

/-- A packet as it lies: its numbers, its frames, and where they lie. -/
structure It where
  num : Int
  at_ : Nat
  size : Int
  ask : Bool
  A : Option Addr
  c : Nat
  L : List FrV
def itc (x : It) : List Value := [.int .i64 x.num, .int .u64 (x.at_ : Int), .int .i64 x.size, .bool x.ask, .slice x.A x.L.length x.c]
def it0 : It := ⟨0, 0, 0, false, none, 0, []⟩
theorem itc_len (x : It) : (itc x).length = 5 := rfl
theorem itc_one (x : It) : ∀ u ∈ itc x, u.oneCell' = true := by
  intro u hu
  simp only [itc, List.mem_cons, List.not_mem_nil, or_false] at hu
  rcases hu with rfl | rfl | rfl | rfl | rfl <;> rfl
abbrev itcs (l : List It) : List Value := l.flatMap itc

/-- What a packet is, plainly. -/
structure Sn where
  num : Int
  at_ : Nat
  size : Int
  ask : Bool
  frs : List Fr
  deriving DecidableEq
def It.pl (x : It) : Sn := ⟨x.num, x.at_, x.size, x.ask, x.L.map (·.1)⟩

/-- A packet's frames lie in blocks of T. -/
structure ItD (w : World) (T : Nat → Prop) (x : It) : Prop where
  view : View w T x.A (x.L.length * 24) (fcellsL x.L)
  each : ∀ y ∈ x.L, FrD w T y.1 y.2.1 y.2.2
  few : x.L.length ≤ 1000
  lt : x.at_ < 18446744073709551616
theorem ItD.chg {w w' : World} {S T : Nat → Prop} {x : It} (h : ItD w T x) (hc : Chg S w w') (hs : ∀ b, T b → ¬ S b) : ItD w' T x := ⟨h.view.chg hc hs, fun y hy => (h.each y hy).chg hc hs, h.few, h.lt⟩
theorem ItD.mono {w : World} {T T' : Nat → Prop} {x : It} (h : ItD w T x) (hs : ∀ b, b < w.heap.size → T b → T' b) : ItD w T' x := ⟨h.view.mono hs, fun y hy => (h.each y hy).mono hs, h.few, h.lt⟩
theorem ItD.tok {w : World} {T : Nat → Prop} {x : It} (h : ItD w T x) : ∀ y ∈ x.L, y.1.tok.length = 16 := fun y hy => (h.each y hy).tok
theorem ItD.num {w : World} {T : Nat → Prop} {x : It} (h : ItD w T x) (n : Int) : ItD w T { x with num := n } := ⟨h.view, h.each, h.few, h.lt⟩

theorem sizeS : (Try.prog.info? 32).map (·.size) = some 5 := by kernel_rfl
theorem sizeLg : (Try.prog.info? 46).map (·.size) = some 3 := by kernel_rfl
theorem zeroS : (Try.prog.info? 32).map (·.zero) = some (some (.agg (itc it0).toArray)) := by kernel_rfl
theorem infoS : ∃ j, Try.prog.info? 32 = some j ∧ j.zero = some (.agg (itc it0).toArray) ∧ j.size = 5 ∧ j.bytes ≤ 4096 := by
  have h1 := sizeS
  have h2 := zeroS
  have h3 : ((Try.prog.info? 32).map fun i => decide (i.bytes ≤ 4096)) = some true := by kernel_rfl
  cases hq : Try.prog.info? 32 with
  | none => rw [hq] at h1; cases h1
  | some j =>
    rw [hq] at h1 h2 h3
    exact ⟨j, rfl, by simpa using h2, by simpa using h1, by simpa using h3⟩

/-- Packets in a slice of the call's own. -/
abbrev OwnS (w : World) (base : Nat) (v : Value) (L : List It) : Prop := OwnN itc 32 5 w base v L

theorem viewS {w : World} {g : Nat} {e : TypeId} {x : It} (h : Row w g e (itc x)) : View w (fun b => b = g) (some ⟨g, 0, none⟩) (1 * 5) ([x].flatMap itc) := by
  have := View.row (T := fun b => b = g) (n := 5) h (Nat.le_refl _) rfl
  rw [show List.take 5 (itc x) = itc x from rfl] at this
  simpa using this
theorem shapeS {w : World} {base : Nat} {v : Value} {L : List It} (h : OwnS w base v L) : ∃ A c, v = .slice A L.length c ∧ L.length ≤ c ∧ c ≤ maxLen := by
  obtain ⟨A, c, h1, h2, h3, _⟩ := h.view
  exact ⟨A, c, h1, h2, h3⟩

/-- A slice literal of one packet. -/
theorem zero5 : Array.map (fun x => (itc it0)[x % 5]?.getD default) (Array.range 5) = (itc it0).toArray := by kernel_rfl
theorem run_sliceS (x : It) (w : World) : (Instr.buildSlice 33 1 #[(0, .agg (itc x).toArray)]).run Try.prog w = .ok (.slice (some ⟨w.heap.size, 0, none⟩) 1 1) (w.alloc (.cells (itc x).toArray 32)) := by
  obtain ⟨j, hj, hz, hs, _⟩ := infoS
  have hz2 := zero5
  have hf : Instr.fill (fun i => some (i * 5, 5)) (itc it0).toArray [(0, .agg (itc x).toArray)] = some (itc x).toArray := by
    simp [Instr.fill, itc, Value.cells, it0]
  simp [Instr.buildSlice, run_underlying Try.underlying33, sizeOf, typeInfo, zeroValue, hj, hs, hz, Value.cells, hf, newRow, itc_len, hz2]

/-- A ledger of these packets: its cells, its list, and where its packets' frames lie. -/
structure LedAt (w : World) (base g : Nat) (T : Nat → Prop) (v : Value) (l : List It) (next above : Nat) : Prop where
  row : Row w g 46 [v, .int .i64 (next : Int), .int .i64 (above : Int)]
  own : OwnS w base v l
  its : ∀ x ∈ l, ItD w T x
  lt : ∀ b, T b → b < w.heap.size
  ng : ∀ b, T b → b ≠ g
  nv : ∀ b, T b → v.ownBlock ≠ some b
  nn : v.ownBlock ≠ some g
theorem LedAt.glt {w : World} {base g : Nat} {T : Nat → Prop} {v : Value} {l : List It} {next above : Nat} (h : LedAt w base g T v l next above) : g < w.heap.size := h.row.lt
theorem LedAt.chg {w w' : World} {base g : Nat} {S T : Nat → Prop} {v : Value} {l : List It} {next above : Nat} (h : LedAt w base g T v l next above) (hc : Chg S w w') (h1 : ¬ S g) (h2 : ∀ b, v.ownBlock = some b → ¬ S b) (h3 : ∀ b, T b → ¬ S b) : LedAt w' base g T v l next above where
  row := h.row.chg hc h1
  own := h.own.chg hc h2
  its := fun x hx => (h.its x hx).chg hc h3
  lt := fun b hb => Nat.lt_of_lt_of_le (h.lt b hb) hc.size
  ng := h.ng
  nv := h.nv
  nn := h.nn
theorem LedAt.quiet {w w' : World} {base g : Nat} {T : Nat → Prop} {v : Value} {l : List It} {next above : Nat} (h : LedAt w base g T v l next above) (hc : Chg none_ w w') : LedAt w' base g T v l next above := h.chg hc (fun h => h) (fun _ _ h => h) (fun _ _ h => h)
end Go.Proofs.Ytakoeamfmmbdiaa
