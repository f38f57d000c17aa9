/- Layer 3 (frames): a frame's numbers, its cells, and what the small functions over one come to. -/
import Derived.Test.YtlcffjmbfpdlbaaDoorProg
import Derived.Test.YtlcffjmbfpdlbaaDoorFlat
import Derived.Test.YtlcffjmbfpdlbaaDoorBytes
import Derived.Test.YtlcffjmbfpdlbaaDoorBits
import Derived.BigQuiet
import Derived.Deep.QuietTactic
import Derived.Lib.Hide
namespace Go.Proofs.YtlcffjmbfpdlbaaDoor
open Go.RowKit

/-- A frame, as numbers and lists. -/
structure Fr where
  kind : Int := 0
  id : Nat := 0
  a : Nat := 0
  b : Nat := 0
  code : Nat := 0
  flag : Bool := false
  data : List Nat := []
  ranges : List (Nat × Nat) := []
  tok : List Nat := List.replicate 16 0
  deriving DecidableEq

/-- A frame's cells, its slices as they are. -/
def cellsF (f : Fr) (sd sr : Value) : List Value := .int .i64 f.kind :: .int .u64 f.id :: .int .u64 f.a :: .int .u64 f.b :: .int .u64 f.code :: .bool f.flag :: sd :: sr :: u8s f.tok
/-- A frame by value. -/
def aggF (f : Fr) (sd sr : Value) : Value := .agg (cellsF f sd sr).toArray

def rcells (l : List (Nat × Nat)) : List Value := l.flatMap fun x => [.int .u64 (x.1 : Nat), .int .u64 (x.2 : Nat)]

/-- Where a frame's slices lie. -/
structure FrD (w : World) (T : Nat → Prop) (f : Fr) (sd sr : Value) : Prop where
  tok : f.tok.length = 16
  data : ∃ A c, sd = .slice A f.data.length c ∧ f.data.length ≤ 1000000 ∧ View w T A f.data.length (u8s f.data)
  ranges : ∃ A c, sr = .slice A f.ranges.length c ∧ (f.ranges.length ≤ 1000000 ∧ f.ranges.length ≤ c) ∧ View w T A (2 * f.ranges.length) (rcells f.ranges)

theorem FrD.chg {w w' : World} {S T : Nat → Prop} {f : Fr} {sd sr : Value} (h : FrD w T f sd sr) (hc : Chg S w w') (hs : ∀ b, T b → ¬ S b) : FrD w' T f sd sr := by
  obtain ⟨h1, ⟨A, c, h2, h3, h4⟩, ⟨B, d, h5, h6, h7⟩⟩ := h
  exact ⟨h1, ⟨A, c, h2, h3, h4.chg hc hs⟩, ⟨B, d, h5, h6, h7.chg hc hs⟩⟩
theorem FrD.mono {w : World} {T T' : Nat → Prop} {f : Fr} {sd sr : Value} (h : FrD w T f sd sr) (hs : ∀ b, b < w.heap.size → T b → T' b) : FrD w T' f sd sr := by
  obtain ⟨h1, ⟨A, c, h2, h3, h4⟩, ⟨B, d, h5, h6, h7⟩⟩ := h
  exact ⟨h1, ⟨A, c, h2, h3, h4.mono hs⟩, ⟨B, d, h5, h6, h7.mono hs⟩⟩

section
variable (f : Fr) (sd sr : Value)
theorem cF_0 : (cellsF f sd sr)[0]? = some (.int .i64 f.kind) := rfl
theorem cF_1 : (cellsF f sd sr)[1]? = some (.int .u64 f.id) := rfl
theorem cF_2 : (cellsF f sd sr)[2]? = some (.int .u64 f.a) := rfl
theorem cF_3 : (cellsF f sd sr)[3]? = some (.int .u64 f.b) := rfl
theorem cF_4 : (cellsF f sd sr)[4]? = some (.int .u64 f.code) := rfl
theorem cF_5 : (cellsF f sd sr)[5]? = some (.bool f.flag) := rfl
theorem cF_6 : (cellsF f sd sr)[6]? = some sd := rfl
theorem cF_7 : (cellsF f sd sr)[7]? = some sr := rfl
theorem cF_len (h : f.tok.length = 16) : (cellsF f sd sr).length = 24 := by simp [cellsF, h]
end

theorem size27 : (Tryd.prog.info? 27).map (·.size) = some 24 := by kernel_rfl
theorem load27 {w : World} {g : Nat} {e : TypeId} {cs : List Value} (h : Row w g e cs) (hl : cs.length = 24) :
    (Instr.loadAt 27 (.pointer (some ⟨g, 0, none⟩))).run Tryd.prog w = .ok (.agg cs.toArray) w :=
  loadAt_row h Tryd.underlying27 rfl (by rw [hl]; exact size27)

section
variable {ops : Array Oper} {rest : List Oper} {o : Oper} {a : Act} {w : World} {Q : Exit → Act → World → Prop}
/-- A frame is read out of its box. -/
theorem wl27 {x : Operand} (ho : o.op = .load 27 x) (hw : Region.wanted o (yielded ops a.tmps) = true) {g : Nat} {e : TypeId} {cs : List Value} (hx : a.eval x = .pointer (some ⟨g, 0, none⟩)) (h : Row w g e cs) (hl : cs.length = 24)
    (k : wpList Tryd.prog ops Q rest (a.put o.dst (.agg cs.toArray)) w) : wpList Tryd.prog ops Q (o :: rest) a w :=
  wpList_load_Row ho hw hx h Tryd.underlying27 rfl (by rw [hl]; exact size27) k
/-- .. out of a box that was just made. -/
theorem wb27 {x : Operand} (ho : o.op = .load 27 x) (hw : Region.wanted o (yielded ops a.tmps) = true) {w0 : World} {cs : List Value} (hx : a.eval x = .pointer (some ⟨w0.heap.size, 0, none⟩)) (hl : cs.length = 24)
    (k : wpList Tryd.prog ops Q rest (a.put o.dst (.agg cs.toArray)) (w0.alloc (.cells cs.toArray 27))) : wpList Tryd.prog ops Q (o :: rest) a (w0.alloc (.cells cs.toArray 27)) :=
  wl27 ho hw hx (Row.new w0 _ cs) hl k
end

/-- The type that a frame is put by. -/
def typM (f : Fr) : Nat := (if f.kind = 8 ∧ f.a ≠ 0 then 4 else 0) ||| ((if f.kind = 8 then 2 else 0) ||| ((if f.flag then 1 else 0) ||| f.kind.toNat))

theorem or_u64 (a b : Nat) (ha : a < 64) (hb : b < 64) : bits .or .u64 (a : Int) (b : Int) = ((b ||| a : Nat) : Int) := by
  rw [u64_or_nat a b (by omega) (by omega), Nat.or_comm]

theorem or1 (a : Nat) (h : a < 64) : bits .or .u64 (a : Int) 1 = ((1 ||| a : Nat) : Int) := or_u64 a 1 h (by omega)
theorem or2 (a : Nat) (h : a < 64) : bits .or .u64 (a : Int) 2 = ((2 ||| a : Nat) : Int) := or_u64 a 2 h (by omega)
theorem or4 (a : Nat) (h : a < 64) : bits .or .u64 (a : Int) 4 = ((4 ||| a : Nat) : Int) := or_u64 a 4 h (by omega)

theorem typM_lt (f : Fr) (h : f.kind.toNat < 64) : typM f < 64 := by
  unfold typM
  refine Nat.or_lt_two_pow (n := 6) ?_ (Nat.or_lt_two_pow (n := 6) ?_ (Nat.or_lt_two_pow (n := 6) ?_ h))
  all_goals split <;> decide

theorem typeOf_any (f : Fr) (sd sr : Value) (w : World) (hk0 : 0 ≤ f.kind) (hk : f.kind < 64) :
    Calls Tryd.prog 19 #[aggF f sd sr] w fun e w' => e = .returned (.int .u64 (typM f)) ∧ Chg none_ w w' := by
  unfold aggF
  obtain ⟨κ, hκ⟩ : ∃ κ : Nat, f.kind = κ := ⟨f.kind.toNat, by omega⟩
  have hκ64 : κ < 64 := by omega
  have hw : IntKind.u64.wrap f.kind = (κ : Int) := by rw [hκ]; exact IntWalk.u64_in _ (by omega)
  have h0 := cF_0 f sd sr
  have h2 := cF_2 f sd sr
  have h5 := cF_5 f sd sr
  have HW := Lib.hid hw
  have HK := Lib.hid hκ
  generalize cellsF f sd sr = cs at h0 h2 h5 ⊢
  have e8 : (f.kind == 8) = decide (κ = 8) := by rw [hκ, Bool.eq_iff_iff]; simp; omega
  have ea : (((f.a : Nat) : Int) != 0) = decide (f.a ≠ 0) := by rw [Bool.eq_iff_iff]; simp
  have E8 := Lib.hid e8
  have EA := Lib.hid ea
  clear hκ hw e8 ea
  have hr : ∀ w' : World, Chg none_ w (w.alloc (.cells cs.toArray 27)) := fun _ => (Chg.refl none_ w).alloc _
  have HR := Lib.hid (hr w)
  clear hr
  have ht : typM f = (if κ = 8 ∧ f.a ≠ 0 then 4 else 0) ||| ((if κ = 8 then 2 else 0) ||| ((if f.flag then 1 else 0) ||| κ)) := by
    unfold typM; rw [HK.out]; simp only [Int.toNat_natCast]
    have : ((κ : Int) = 8) ↔ κ = 8 := by omega
    simp only [this]
  have HTY := Lib.hid ht
  clear ht
  have h1l : 1 ||| κ < 64 := Nat.or_lt_two_pow (n := 6) (by decide) hκ64
  have h2l : 2 ||| κ < 64 := Nat.or_lt_two_pow (n := 6) (by decide) hκ64
  have h3l : 2 ||| (1 ||| κ) < 64 := Nat.or_lt_two_pow (n := 6) (by decide) h1l
  go_enter Tryd.func19, Tryd.ntmps19
  go_wp2
  all_goals
    go_ret
    have e8 := E8.out
    have ea := EA.out
    clear E8 EA
    refine ⟨ret_u64 ?_, HR.out⟩
    rw [HTY.out]
    simp only [HK.out, or1 κ hκ64, or2 κ hκ64, or2 (1 ||| κ) h1l, or4 (2 ||| κ) h2l, or4 (2 ||| (1 ||| κ)) h3l]
    have hκ := HK.out
    clear h1l h2l h3l HR HW HK HTY h0 h2 h5 hk hk0
    by_cases k8 : κ = 8 <;> by_cases a0 : f.a = 0 <;> simp_all
end Go.Proofs.YtlcffjmbfpdlbaaDoor
