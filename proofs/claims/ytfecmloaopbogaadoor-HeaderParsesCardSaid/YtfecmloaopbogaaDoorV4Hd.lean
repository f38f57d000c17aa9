/- Layer 4 (header): a header's cells, where its slices lie, and which headers are right. -/
import Derived.Test.YtfecmloaopbogaaDoorProg
import Derived.Test.YtfecmloaopbogaaDoorFlat
import Derived.Test.YtfecmloaopbogaaDoorBytes
import Derived.BigQuiet
import Derived.Deep.QuietTactic
import Derived.Lib.Hide
namespace Go.Proofs.YtfecmloaopbogaaDoor
open Go.RowKit

/-- A header, told plainly. -/
structure Hd where
  long : Bool := false
  phase : Bool := false
  kind : Int := 0
  version : Nat := 0
  dst : List Nat := []
  src : List Nat := []
  token : List Nat := []
  cut : List Nat := []
  rest : Int := 0
  deriving DecidableEq

/-- A header's four slices. -/
structure Four where
  d : Value
  s : Value
  t : Value
  c : Value

def cellsH (h : Hd) (v : Four) : List Value := [.bool h.long, .bool h.phase, .int .i64 h.kind, .int .u32 (h.version : Nat), v.d, v.s, v.t, v.c, .int .i64 h.rest]
def aggH (h : Hd) (v : Four) : Value := .agg (cellsH h v).toArray

/-- A slice of so many bytes, in a block of T. -/
def Sl (w : World) (T : Nat → Prop) (v : Value) (l : List Nat) : Prop := ∃ A c, v = .slice A l.length c ∧ l.length ≤ 1000000 ∧ View w T A l.length (u8s l)
theorem Sl.chg {w w' : World} {S T : Nat → Prop} {v : Value} {l : List Nat} (h : Sl w T v l) (hc : Chg S w w') (hs : ∀ b, T b → ¬ S b) : Sl w' T v l := by
  obtain ⟨A, c, h1, h2, h3⟩ := h; exact ⟨A, c, h1, h2, h3.chg hc hs⟩
theorem Sl.mono {w : World} {T T' : Nat → Prop} {v : Value} {l : List Nat} (h : Sl w T v l) (hs : ∀ b, b < w.heap.size → T b → T' b) : Sl w T' v l := by
  obtain ⟨A, c, h1, h2, h3⟩ := h; exact ⟨A, c, h1, h2, h3.mono hs⟩
theorem Sl.nil (w : World) (T : Nat → Prop) (A : Option Addr) (c : Nat) : Sl w T (.slice A 0 c) [] := ⟨A, c, rfl, Nat.zero_le _, View.none_ _ _ _⟩

/-- Where a header's slices lie. -/
structure HdD (w : World) (T : Nat → Prop) (h : Hd) (v : Four) : Prop where
  d : Sl w T v.d h.dst
  s : Sl w T v.s h.src
  t : Sl w T v.t h.token
  c : Sl w T v.c h.cut
theorem HdD.chg {w w' : World} {S T : Nat → Prop} {h : Hd} {v : Four} (x : HdD w T h v) (hc : Chg S w w') (hs : ∀ b, T b → ¬ S b) : HdD w' T h v := ⟨x.d.chg hc hs, x.s.chg hc hs, x.t.chg hc hs, x.c.chg hc hs⟩
theorem HdD.mono {w : World} {T T' : Nat → Prop} {h : Hd} {v : Four} (x : HdD w T h v) (hs : ∀ b, b < w.heap.size → T b → T' b) : HdD w T' h v := ⟨x.d.mono hs, x.s.mono hs, x.t.mono hs, x.c.mono hs⟩

/-- A header's slices, however long. -/
structure Shape (h : Hd) (v : Four) : Prop where
  d : ∃ A c, v.d = .slice A h.dst.length c
  s : ∃ A c, v.s = .slice A h.src.length c
  t : ∃ A c, v.t = .slice A h.token.length c
  c : ∃ A c, v.c = .slice A h.cut.length c
theorem Sl.shape {w : World} {T : Nat → Prop} {v : Value} {l : List Nat} (h : Sl w T v l) : ∃ A c, v = .slice A l.length c := by
  obtain ⟨A, c, h1, _⟩ := h; exact ⟨A, c, h1⟩
theorem HdD.shape {w : World} {T : Nat → Prop} {h : Hd} {v : Four} (x : HdD w T h v) : Shape h v := ⟨x.d.shape, x.s.shape, x.t.shape, x.c.shape⟩

/-- Numbers that a header's may be. -/
structure Hd.Ok (h : Hd) : Prop where
  k0 : -9223372036854775808 ≤ h.kind
  k1 : h.kind < 9223372036854775808
  v1 : h.version < 4294967296
  r0 : -9223372036854775808 ≤ h.rest
  r1 : h.rest < 9223372036854775808
  dst : ∀ x ∈ h.dst, x < 256
  src : ∀ x ∈ h.src, x < 256
  token : ∀ x ∈ h.token, x < 256
  cut : ∀ x ∈ h.cut, x < 256

section
variable (h : Hd) (v : Four)
theorem cH_0 : (cellsH h v)[0]? = some (.bool h.long) := rfl
theorem cH_1 : (cellsH h v)[1]? = some (.bool h.phase) := rfl
theorem cH_2 : (cellsH h v)[2]? = some (.int .i64 h.kind) := rfl
theorem cH_3 : (cellsH h v)[3]? = some (.int .u32 (h.version : Nat)) := rfl
theorem cH_4 : (cellsH h v)[4]? = some v.d := rfl
theorem cH_5 : (cellsH h v)[5]? = some v.s := rfl
theorem cH_6 : (cellsH h v)[6]? = some v.t := rfl
theorem cH_7 : (cellsH h v)[7]? = some v.c := rfl
theorem cH_8 : (cellsH h v)[8]? = some (.int .i64 h.rest) := rfl
theorem cH_len : (cellsH h v).length = 9 := rfl
end

theorem sizeH : (Tryd.prog.info? 25).map (·.size) = some 9 := by kernel_rfl
section
variable {ops : Array Oper} {rest : List Oper} {o : Oper} {a : Act} {w : World} {Q : Exit → Act → World → Prop}
/-- A header is read out of its box. -/
theorem wlH {x : Operand} (ho : o.op = .load 25 x) (hw : Region.wanted o (yielded ops a.tmps) = true) {g : Nat} {e : TypeId} {cs : List Value} (hx : a.eval x = .pointer (some ⟨g, 0, none⟩)) (h : Row w g e cs) (hl : cs.length = 9)
    (k : wpList Tryd.prog ops Q rest (a.put o.dst (.agg cs.toArray)) w) : wpList Tryd.prog ops Q (o :: rest) a w :=
  wpList_load_Row ho hw hx h Tryd.underlying25 rfl (by rw [hl]; exact sizeH) k
/-- .. out of a box that was just made. -/
theorem wbH {x : Operand} (ho : o.op = .load 25 x) (hw : Region.wanted o (yielded ops a.tmps) = true) {w0 : World} {cs : List Value} (hx : a.eval x = .pointer (some ⟨w0.heap.size, 0, none⟩)) (hl : cs.length = 9)
    (k : wpList Tryd.prog ops Q rest (a.put o.dst (.agg cs.toArray)) (w0.alloc (.cells cs.toArray 25))) : wpList Tryd.prog ops Q (o :: rest) a (w0.alloc (.cells cs.toArray 25)) :=
  wlH ho hw hx (Row.new w0 _ cs) hl k
end

/-- Is a header right? By its numbers, and how long its slices are. -/
def longN (phase : Bool) (kind : Int) (t : Nat) : Bool := decide ((kind = 0 ∧ phase = false ∧ t ≤ 200) ∨ (kind = 2 ∧ phase = false ∧ t = 0))
def shortN (kind : Int) (version d s t : Nat) : Bool := decide (kind = 0 ∧ version = 0 ∧ s = 0 ∧ t = 0 ∧ d = 8)
def rightN (long phase : Bool) (kind : Int) (version d s t c : Nat) (rest : Int) : Bool :=
  decide (1 ≤ c ∧ c ≤ 4 ∧ d ≤ 20 ∧ s ≤ 20 ∧ 0 ≤ rest ∧ rest ≤ 1200) && (if long then longN phase kind t else shortN kind version d s t)
def rightH (h : Hd) : Bool := rightN h.long h.phase h.kind h.version h.dst.length h.src.length h.token.length h.cut.length h.rest

section
variable (cs : List Value) (w : World) (long phase : Bool) (kind rest : Int) (version d s t c d' s' t' c' : Nat) (D S T C : Option Addr)

theorem isLong_any (h1 : cs[1]? = some (.bool phase)) (h2 : cs[2]? = some (.int .i64 kind)) (h6 : cs[6]? = some (.slice T t t')) :
    Calls Tryd.prog 23 #[.agg cs.toArray] w fun e w' => e = .returned (.bool (longN phase kind t)) ∧ Chg none_ w w' := by
  have HR := Lib.hid ((Chg.refl none_ w).alloc (.cells cs.toArray 25))
  unfold longN
  by_cases k0 : kind = 0
  · subst k0
    cases phase
    all_goals
      go_enter Tryd.func23, Tryd.ntmps23
      go_wp2
      all_goals go_ret
      all_goals exact ⟨ret_bool (by rw [Bool.eq_iff_iff]; simp <;> omega), HR.out⟩
  by_cases k2 : kind = 2
  · subst k2
    cases phase
    all_goals
      go_enter Tryd.func23, Tryd.ntmps23
      go_wp2
      all_goals go_ret
      all_goals exact ⟨ret_bool (by rw [Bool.eq_iff_iff]; simp <;> omega), HR.out⟩
  · have e0 : (kind == 0) = false := by simpa using k0
    have e2 : (kind == 2) = false := by simpa using k2
    go_enter Tryd.func23, Tryd.ntmps23
    go_wp2
    all_goals go_ret
    all_goals exact ⟨ret_bool (by rw [Bool.eq_iff_iff]; simp [k0, k2]), HR.out⟩

theorem isShort_any (h2 : cs[2]? = some (.int .i64 kind)) (h3 : cs[3]? = some (.int .u32 version)) (h4 : cs[4]? = some (.slice D d d')) (h5 : cs[5]? = some (.slice S s s')) (h6 : cs[6]? = some (.slice T t t')) :
    Calls Tryd.prog 24 #[.agg cs.toArray] w fun e w' => e = .returned (.bool (shortN kind version d s t)) ∧ Chg none_ w w' := by
  have HR := Lib.hid ((Chg.refl none_ w).alloc (.cells cs.toArray 25))
  unfold shortN
  by_cases k0 : kind = 0
  · subst k0
    go_enter Tryd.func24, Tryd.ntmps24
    go_wp2
    all_goals go_ret
    all_goals exact ⟨ret_bool (by rw [Bool.eq_iff_iff]; simp; omega), HR.out⟩
  · have e0 : (kind == 0) = false := by simpa using k0
    go_enter Tryd.func24, Tryd.ntmps24
    go_wp2
    all_goals go_ret
    all_goals exact ⟨ret_bool (by rw [Bool.eq_iff_iff]; simp [k0]), HR.out⟩
end
end Go.Proofs.YtfecmloaopbogaaDoor
