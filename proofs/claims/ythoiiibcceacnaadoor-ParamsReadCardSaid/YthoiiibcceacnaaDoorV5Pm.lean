/- Layer 5 (params): parameters, told plainly; their cells; which may be. -/
import Derived.Test.YthoiiibcceacnaaDoorTok
import Derived.Test.YthoiiibcceacnaaDoorV3Rd
import Derived.Test.YthoiiibcceacnaaDoorConcat
import Derived.BigQuiet
import Derived.Deep.QuietTactic
import Derived.Lib.Hide
import Derived.Laws.Cover1
namespace Go.Proofs.YthoiiibcceacnaaDoor
open Go.RowKit

/-- Parameters, as numbers and a list. -/
structure Pm where
  idle : Nat := 0
  data : Nat := 0
  stream : Nat := 0
  streams : Nat := 0
  has : Bool := false
  tok : List Nat := List.replicate 16 0
  deriving DecidableEq

def cellsP (p : Pm) : List Value := .int .u64 p.idle :: .int .u64 p.data :: .int .u64 p.stream :: .int .u64 p.streams :: .bool p.has :: u8s p.tok
def aggP (p : Pm) : Value := .agg (cellsP p).toArray
/-- Numbers that a Go value's may be. -/
structure Pm.Ok (p : Pm) : Prop where
  tok : p.tok.length = 16
  mem : ∀ x ∈ p.tok, x < 256
  a : p.idle < 18446744073709551616
  b : p.data < 18446744073709551616
  c : p.stream < 18446744073709551616
  d : p.streams < 18446744073709551616

section
variable (p : Pm)
theorem cP_0 : (cellsP p)[0]? = some (.int .u64 p.idle) := rfl
theorem cP_1 : (cellsP p)[1]? = some (.int .u64 p.data) := rfl
theorem cP_2 : (cellsP p)[2]? = some (.int .u64 p.stream) := rfl
theorem cP_3 : (cellsP p)[3]? = some (.int .u64 p.streams) := rfl
theorem cP_4 : (cellsP p)[4]? = some (.bool p.has) := rfl
theorem cP_len (h : p.tok.length = 16) : (cellsP p).length = 21 := by simp [cellsP, h]
end
theorem sizeP : (Tryd.prog.info? 25).map (·.size) = some 21 := by kernel_rfl

section
variable {ops : Array Oper} {rest : List Oper} {o : Oper} {a : Act} {w : World} {Q : Exit → Act → World → Prop}
/-- Parameters are read out of their box. -/
theorem wlP {x : Operand} (ho : o.op = .load 25 x) (hw : Region.wanted o (yielded ops a.tmps) = true) {g : Nat} {e : TypeId} {cs : List Value} (hx : a.eval x = .pointer (some ⟨g, 0, none⟩)) (h : Row w g e cs) (hl : cs.length = 21)
    (k : wpList Tryd.prog ops Q rest (a.put o.dst (.agg cs.toArray)) w) : wpList Tryd.prog ops Q (o :: rest) a w :=
  wpList_load_Row ho hw hx h Tryd.underlying25 rfl (by rw [hl]; exact sizeP) k
/-- A token is read. -/
theorem wlT {x : Operand} (ho : o.op = .load 23 x) (hw : Region.wanted o (yielded ops a.tmps) = true) {g : Nat} (hx : a.eval x = .pointer (some ⟨g, 5, none⟩)) {tok : List Nat} (h : w.rangeAt g 5 (u8s tok)) (hl : tok.length = 16)
    (k : wpList Tryd.prog ops Q rest (a.put o.dst (.agg (u8s tok).toArray)) w) : wpList Tryd.prog ops Q (o :: rest) a w :=
  wpList_load_Mid ho hw hx h Tryd.underlying23 rfl (by rw [u8s_length, hl]; exact size25) k
end
theorem tokP_range {w : World} {g : Nat} {e : TypeId} {p : Pm} (h : Row w g e (cellsP p)) : w.rangeAt g 5 (u8s p.tok) :=
  h.rangeMid 5 _ fun j v hv => by
    rw [Nat.add_comm 5 j]
    exact hv

def zeros16 : List Nat := List.replicate 16 0
theorem zeros16_arr : (u8s zeros16).toArray = #[.int .u8 0, .int .u8 0, .int .u8 0, .int .u8 0, .int .u8 0, .int .u8 0, .int .u8 0, .int .u8 0, .int .u8 0, .int .u8 0, .int .u8 0, .int .u8 0, .int .u8 0, .int .u8 0, .int .u8 0, .int .u8 0] := rfl
/-- May parameters be? -/
def mayB (p : Pm) : Bool := decide (max (max p.idle p.data) p.stream ≤ 4611686018427387903) && decide (p.streams ≤ 1152921504606846976) && (p.has || decide (p.tok = zeros16))

theorem max3 (P : Program) (ts : Array TypeId) (t : TypeId) (x y z : Nat) (w : World) : (Builtin.max_ ts t #[.int .u64 (x : Int), .int .u64 (y : Int), .int .u64 (z : Int)]).run P w = .ok (.int .u64 ((max (max x y) z : Nat) : Int)) w := by
  simp only [run_max_int3]
  congr 2
  repeat' split
  all_goals omega

set_option maxRecDepth 100000 in
set_option maxHeartbeats 1000000 in
theorem may_any (p : Pm) (ht : p.tok.length = 16) (w : World) : Calls Tryd.prog 10 #[aggP p] w fun e w' => e = .returned (.bool (mayB p)) ∧ Chg none_ w w' := by
  unfold aggP
  have h0 := cP_0 p
  have h1 := cP_1 p
  have h2 := cP_2 p
  have h3 := cP_3 p
  have h4 := cP_4 p
  have hR1 : ∀ (w' : World) (_ : w'.heap = (w.alloc (.cells (cellsP p).toArray 25)).heap), w'.rangeAt w.heap.size 5 (u8s p.tok) := fun w' hw => by
    have := tokP_range (Row.new w 25 (cellsP p))
    intro j v hv
    have := this j v hv
    simpa [World.cell?, hw] using this
  have HR := Lib.hid hR1
  have HT := Lib.hid ht
  have hmx := fun ts t w => max3 Tryd.prog ts t p.idle p.data p.stream w
  generalize hm : max (max p.idle p.data) p.stream = m at hmx
  have hte := tok_eql p.tok zeros16 ht rfl
  simp only [zeros16_arr] at hte
  have HC : Hid (Chg none_ w (w.alloc (.cells (cellsP p).toArray 25))) := (Chg.refl none_ w).alloc _
  have HM : Hid (mayB p = (decide (m ≤ 4611686018427387903) && decide (p.streams ≤ 1152921504606846976) && (p.has || decide (p.tok = zeros16)))) := hm ▸ rfl
  generalize cellsP p = cs at *
  clear hm
  clear hR1 ht
  go_enter Tryd.func10, Tryd.ntmps10
  go_wp2_with ((with_reducible show wpList _ _ _ (⟨_, .load 23 _, _, _, _, _⟩ :: _) _ _); refine wlT rfl rfl rfl (HR.out _ rfl) HT.out ?_)
  all_goals
    go_ret
    refine ⟨ret_bool ?_, HC.out⟩
    rw [HM.out]
    clear HR HT HC HM hte h0 h1 h2 h3 h4
    clear hmx
    simp_all
    try first | omega | (intros; omega)

/-- .. the document's answer. -/
theorem mayB_eq (p : Pm) : mayB p = (decide (p.idle ≤ 4611686018427387903) && decide (p.data ≤ 4611686018427387903) && decide (p.stream ≤ 4611686018427387903) && decide (p.streams ≤ 1152921504606846976) && (p.has || decide (p.tok = zeros16))) := by
  unfold mayB
  have : decide (max (max p.idle p.data) p.stream ≤ 4611686018427387903) = (decide (p.idle ≤ 4611686018427387903) && decide (p.data ≤ 4611686018427387903) && decide (p.stream ≤ 4611686018427387903)) := by
    rw [Bool.eq_iff_iff]
    simp only [Bool.and_eq_true, decide_eq_true_eq]
    omega
  rw [this]

set_option maxRecDepth 100000 in
set_option maxHeartbeats 1000000 in
theorem rmay_any (p : Pm) (ht : p.tok.length = 16) (w : World) : Calls Tryd.prog 11 #[aggP p] w fun e w' => e = .returned (.bool (mayB p)) ∧ Chg none_ w w' := by
  unfold aggP
  have h0 := cP_0 p
  have h1 := cP_1 p
  have h2 := cP_2 p
  have h3 := cP_3 p
  have h4 := cP_4 p
  have hR1 : ∀ (w' : World) (_ : w'.heap = (w.alloc (.cells (cellsP p).toArray 25)).heap), w'.rangeAt w.heap.size 5 (u8s p.tok) := fun w' hw => by
    have := tokP_range (Row.new w 25 (cellsP p))
    intro j v hv
    have := this j v hv
    simpa [World.cell?, hw] using this
  have HR := Lib.hid hR1
  have HT := Lib.hid ht
  have hte := tok_eql p.tok zeros16 ht rfl
  simp only [zeros16_arr] at hte
  have HC : Hid (Chg none_ w (w.alloc (.cells (cellsP p).toArray 25))) := (Chg.refl none_ w).alloc _
  have HM := Lib.hid (mayB_eq p)
  generalize cellsP p = cs at *
  clear hR1 ht
  go_enter Tryd.func11, Tryd.ntmps11
  go_wp2_with ((with_reducible show wpList _ _ _ (⟨_, .load 23 _, _, _, _, _⟩ :: _) _ _); refine wlT rfl rfl rfl (HR.out _ rfl) HT.out ?_)
  all_goals
    go_ret
    refine ⟨ret_bool ?_, HC.out⟩
    rw [HM.out]
    clear HR HT HC HM hte h0 h1 h2 h3 h4
    simp_all
    try first | omega | (intros; omega)
end Go.Proofs.YthoiiibcceacnaaDoor
