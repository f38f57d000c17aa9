/- Layer 6 (hframe): a reader that the call itself has made, by its states. -/
import Derived.Test.YtcdnjeojgjakdaaDoorV3Rd
import Derived.Laws.Cover1
namespace Go.Proofs.YtcdnjeojgjakdaaDoor
open Go.RowKit

/-- Since w: nothing turned; the reader in g, made since, is in state s. -/
structure Mine (w : World) (g : Nat) (wi : World) (s : St) : Prop where
  chg : Chg none_ w wi
  rd : RdS wi g (fun b => w.heap.size ≤ b ∧ b ≠ g) s
  new : w.heap.size ≤ g

section
variable {w wi wj : World} {g : Nat} {s s' : St}
theorem Mine.step (h : Mine w g wi s) (hc : Chg none_ wi wj) : Mine w g wj s := ⟨h.chg.trans hc, h.rd.chg hc (fun h => h) (fun _ _ h => h), h.new⟩
theorem Mine.next (h : Mine w g wi s) (hr : RdS wj g (fun b => w.heap.size ≤ b ∧ b ≠ g) s') (hc : Chg (· = g) wi wj) : Mine w g wj s' :=
  ⟨h.chg.andThen hc (fun b hb e => absurd hb (by have := h.new; omega)), hr, h.new⟩
theorem read_mine (w : World) (T : Nat → Prop) (A : Option Addr) (cap : Nat) (xs : List Nat) (h : View w T A xs.length (u8s xs)) (hm : xs.length ≤ 1000000) (hx : ∀ x ∈ xs, x < 256) :
    Calls Tryd.prog 39 #[.slice A xs.length cap] w fun e w' => ∃ g, e = .returned (.pointer (some ⟨g, 0, none⟩)) ∧ Mine w g w' (xs, 0) :=
  (read_any w T A cap xs h hm).mono fun _ _ ⟨g, h1, h2, h3, h4⟩ => ⟨g, h1, h4, ⟨h3, hx⟩, h2⟩
theorem int_mine (h : Mine w g wi s) : Calls Tryd.prog 58 #[.pointer (some ⟨g, 0, none⟩)] wi fun e w' => e = .returned (.int .u64 ((rdInt s).1 : Nat)) ∧ Mine w g w' (rdInt s).2 ∧ Chg (· = g) wi w' :=
  (int_any wi g _ s h.rd (fun h => h.2 rfl)).mono fun _ _ ⟨h1, h2, h3⟩ => ⟨h1, h.next h2 h3, h3⟩
theorem fail_mine (x : Int) (h : Mine w g wi s) : Calls Tryd.prog 42 #[.pointer (some ⟨g, 0, none⟩), .int .i64 x] wi fun e w' => e = .returned (.tuple #[]) ∧ Mine w g w' (failSt x s) ∧ Chg (· = g) wi w' :=
  (failS_any wi g _ s x h.rd).mono fun _ _ ⟨h1, h2, h3⟩ => ⟨h1, h.next h2 h3, h3⟩
theorem left_mine (h : Mine w g wi s) : Calls Tryd.prog 40 #[.pointer (some ⟨g, 0, none⟩)] wi fun e w' => e = .returned (.int .i64 s.1.length) ∧ wi = w' := leftS_any wi g _ s h.rd
theorem bad_mine (h : Mine w g wi s) : Calls Tryd.prog 43 #[.pointer (some ⟨g, 0, none⟩)] wi fun e w' => e = .returned (.int .i64 s.2) ∧ wi = w' := badS_any wi g _ s h.rd
end
theorem min2_nat {P : Program} (a b : Nat) (w : World) : (Builtin.min2 (.int .i64 a) (.int .i64 b)).run P w = .ok (.int .i64 ((min a b : Nat) : Int)) w := by
  have : (if b < a then (b : Int) else (a : Int)) = ((min a b : Nat) : Int) := by
    split <;> omega
  simp [Builtin.min2, this]
theorem run_min2 {P : Program} (a b : Nat) (t : TypeId) (ats : Array TypeId) (w : World) : (Builtin.min_ ats t #[.int .i64 a, .int .i64 b]).run P w = .ok (.int .i64 ((min a b : Nat) : Int)) w := by
  simp only [Builtin.min_, List.foldlM_cons, List.foldlM_nil, Sem.run_bind, min2_nat, Result.andThen_ok, Sem.run_pure]
end Go.Proofs.YtcdnjeojgjakdaaDoor
