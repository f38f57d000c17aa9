/- Layer 3 (frames): a frame's numbers, its cells. -/
import Derived.Test.YtakoeamfmmbdiaaProg
import Derived.Test.YtakoeamfmmbdiaaFlat
import Derived.Test.YtakoeamfmmbdiaaBytes
import Derived.Test.YtakoeamfmmbdiaaBits
import Derived.BigQuiet
import Derived.Deep.QuietTactic
import Derived.Lib.Hide
namespace Go.Proofs.Ytakoeamfmmbdiaa
open Go.RowKit

/-- A frame, as numbers and lists. -/
structure Fr where
  kind : Int := 0
  id : Nat := 0
  a : Nat := 0
  b : Nat := 0
  code : Nat := 0
  flag : Bool := false
  data : List Nat := []
  ranges : List (Nat × Nat) := []
  tok : List Nat := List.replicate 16 0
  deriving DecidableEq

/-- A frame's cells, its slices as they are. -/
def cellsF (f : Fr) (sd sr : Value) : List Value := .int .i64 f.kind :: .int .u64 f.id :: .int .u64 f.a :: .int .u64 f.b :: .int .u64 f.code :: .bool f.flag :: sd :: sr :: u8s f.tok
/-- A frame by value. -/
def aggF (f : Fr) (sd sr : Value) : Value := .agg (cellsF f sd sr).toArray

def zeroF : List Value := cellsF {} (.slice none 0 0) (.slice none 0 0)

def rcells (l : List (Nat × Nat)) : List Value := l.flatMap fun x => [.int .u64 (x.1 : Nat), .int .u64 (x.2 : Nat)]

/-- Where a frame's slices lie. -/
structure FrD (w : World) (T : Nat → Prop) (f : Fr) (sd sr : Value) : Prop where
  tok : f.tok.length = 16
  data : ∃ A c, sd = .slice A f.data.length c ∧ f.data.length ≤ 1000000 ∧ View w T A f.data.length (u8s f.data)
  ranges : ∃ A c, sr = .slice A f.ranges.length c ∧ (f.ranges.length ≤ 1000000 ∧ f.ranges.length ≤ c) ∧ View w T A (2 * f.ranges.length) (rcells f.ranges)

theorem FrD.chg {w w' : World} {S T : Nat → Prop} {f : Fr} {sd sr : Value} (h : FrD w T f sd sr) (hc : Chg S w w') (hs : ∀ b, T b → ¬ S b) : FrD w' T f sd sr := by
  obtain ⟨h1, ⟨A, c, h2, h3, h4⟩, ⟨B, d, h5, h6, h7⟩⟩ := h
  exact ⟨h1, ⟨A, c, h2, h3, h4.chg hc hs⟩, ⟨B, d, h5, h6, h7.chg hc hs⟩⟩
theorem FrD.mono {w : World} {T T' : Nat → Prop} {f : Fr} {sd sr : Value} (h : FrD w T f sd sr) (hs : ∀ b, b < w.heap.size → T b → T' b) : FrD w T' f sd sr := by
  obtain ⟨h1, ⟨A, c, h2, h3, h4⟩, ⟨B, d, h5, h6, h7⟩⟩ := h
  exact ⟨h1, ⟨A, c, h2, h3, h4.mono hs⟩, ⟨B, d, h5, h6, h7.mono hs⟩⟩

section
variable (f : Fr) (sd sr : Value)
theorem cF_0 : (cellsF f sd sr)[0]? = some (.int .i64 f.kind) := rfl
theorem cF_1 : (cellsF f sd sr)[1]? = some (.int .u64 f.id) := rfl
theorem cF_2 : (cellsF f sd sr)[2]? = some (.int .u64 f.a) := rfl
theorem cF_3 : (cellsF f sd sr)[3]? = some (.int .u64 f.b) := rfl
theorem cF_4 : (cellsF f sd sr)[4]? = some (.int .u64 f.code) := rfl
theorem cF_5 : (cellsF f sd sr)[5]? = some (.bool f.flag) := rfl
theorem cF_6 : (cellsF f sd sr)[6]? = some sd := rfl
theorem cF_7 : (cellsF f sd sr)[7]? = some sr := rfl
theorem cF_len (h : f.tok.length = 16) : (cellsF f sd sr).length = 24 := by simp [cellsF, h]
end

theorem size27 : (Try.prog.info? 70).map (·.size) = some 24 := by kernel_rfl
theorem load27 {w : World} {g : Nat} {e : TypeId} {cs : List Value} (h : Row w g e cs) (hl : cs.length = 24) :
    (Instr.loadAt 70 (.pointer (some ⟨g, 0, none⟩))).run Try.prog w = .ok (.agg cs.toArray) w :=
  loadAt_row h Try.underlying70 rfl (by rw [hl]; exact size27)

section
variable {ops : Array Oper} {rest : List Oper} {o : Oper} {a : Act} {w : World} {Q : Exit → Act → World → Prop}
/-- A frame is read out of its box. -/
theorem wl27 {x : Operand} (ho : o.op = .load 70 x) (hw : Region.wanted o (yielded ops a.tmps) = true) {g : Nat} {e : TypeId} {cs : List Value} (hx : a.eval x = .pointer (some ⟨g, 0, none⟩)) (h : Row w g e cs) (hl : cs.length = 24)
    (k : wpList Try.prog ops Q rest (a.put o.dst (.agg cs.toArray)) w) : wpList Try.prog ops Q (o :: rest) a w :=
  wpList_load_Row ho hw hx h Try.underlying70 rfl (by rw [hl]; exact size27) k
/-- .. out of a box that was just made. -/
theorem wb27 {x : Operand} (ho : o.op = .load 70 x) (hw : Region.wanted o (yielded ops a.tmps) = true) {w0 : World} {cs : List Value} (hx : a.eval x = .pointer (some ⟨w0.heap.size, 0, none⟩)) (hl : cs.length = 24)
    (k : wpList Try.prog ops Q rest (a.put o.dst (.agg cs.toArray)) (w0.alloc (.cells cs.toArray 70))) : wpList Try.prog ops Q (o :: rest) a (w0.alloc (.cells cs.toArray 70)) :=
  wl27 ho hw hx (Row.new w0 _ cs) hl k
end
end Go.Proofs.Ytakoeamfmmbdiaa
