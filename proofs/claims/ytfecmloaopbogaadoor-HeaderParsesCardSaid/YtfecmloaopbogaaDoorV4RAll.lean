/- Layer 4 (header): the document's Parse: all that lies anywhere while it reads. -/
import Derived.Test.YtfecmloaopbogaaDoorV4RParse
namespace Go.Proofs.YtfecmloaopbogaaDoor
open Go.RowKit

/-- The reader and the header that is read (RTwo), the answer's cells and a zero header, since the call began. -/
structure RAll (w0 W : World) (b : List Nat) (s : St) (h : Hd) (v : Four) : Prop where
  two : RTwo W (w0.heap.size + 1 + 1 + 1) (w0.heap.size + 1) (fun k => k < w0.heap.size) b s h v
  res : Row W w0.heap.size 25 (cellsH {} nil4)
  zero : Row W (w0.heap.size + 1 + 1) 25 (cellsH {} nil4)
  chg : Chg none_ w0 W

section
variable {w0 W W' : World} {b : List Nat} {s s' : St} {h h' : Hd} {v v' : Four}
theorem RAll.call (x : RAll w0 W b s h v) (y : RTwo W' (w0.heap.size + 1 + 1 + 1) (w0.heap.size + 1) (fun k => k < w0.heap.size) b s' h v) (hc : Chg (fun k => k = w0.heap.size + 1 + 1 + 1 ∨ k = w0.heap.size + 1) W W') : RAll w0 W' b s' h v :=
  ⟨y, x.res.chg hc (by omega), x.zero.chg hc (by omega), chg_up x.chg hc (by omega) (by omega)⟩
theorem RAll.keep (x : RAll w0 W b s h v) (hc : Chg none_ W W') : RAll w0 W' b s h v :=
  ⟨x.two.chg hc, x.res.chg hc (fun h => h), x.zero.chg hc (fun h => h), x.chg.trans hc⟩
theorem RAll.put (x : RAll w0 W b s h v) (i : Nat) (u : Value) (y : RTwo (W.setCell ⟨w0.heap.size + 1, i, none⟩ u) (w0.heap.size + 1 + 1 + 1) (w0.heap.size + 1) (fun k => k < w0.heap.size) b s h' v') : RAll w0 (W.setCell ⟨w0.heap.size + 1, i, none⟩ u) b s h' v' :=
  ⟨y, x.res.far (p := ⟨w0.heap.size + 1, i, none⟩) (by simp) u, x.zero.far (p := ⟨w0.heap.size + 1, i, none⟩) (by simp) u, x.chg.setCell (p := ⟨w0.heap.size + 1, i, none⟩) (fun h => absurd h (by simp)) u⟩
theorem RAll.bad (x : RAll w0 W b s h v) : W.cell? ⟨w0.heap.size + 1 + 1 + 1, 2, none⟩ = some (.int .i64 s.2) := by
  obtain ⟨_, _, _, q⟩ := x.two.rd.bad
  exact q.cell 2
theorem RAll.at_ (x : RAll w0 W b s h v) (hb : s.2 = 0) : W.cell? ⟨w0.heap.size + 1 + 1 + 1, 1, none⟩ = some (.int .i64 ((b.length : Int) - (s.1.length : Int))) := by
  obtain ⟨_, _, q⟩ := x.two.rd.place hb
  exact q.cell 1
theorem RAll.byte (x : RAll w0 W b s h v) : Calls Tryd.prog 41 #[.pointer (some ⟨w0.heap.size + 1 + 1 + 1, 0, none⟩)] W fun e w' => e = .returned (.int .u8 ((rdByte s).1 : Nat)) ∧ RAll w0 w' b (rdByte s).2 h v :=
  (byte_rtwo x.two).mono fun _ _ ⟨h1, h2, h3⟩ => ⟨h1, x.call h2 h3⟩
theorem RAll.int (x : RAll w0 W b s h v) : Calls Tryd.prog 44 #[.pointer (some ⟨w0.heap.size + 1 + 1 + 1, 0, none⟩)] W fun e w' => e = .returned (.int .u64 ((rdInt s).1 : Nat)) ∧ RAll w0 w' b (rdInt s).2 h v :=
  (int_rtwo x.two).mono fun _ _ ⟨h1, h2, h3⟩ => ⟨h1, x.call h2 h3⟩
theorem RAll.bytes (x : RAll w0 W b s h v) (n : Nat) : Calls Tryd.prog 42 #[.pointer (some ⟨w0.heap.size + 1 + 1 + 1, 0, none⟩), .int .u64 n] W fun e w' =>
    ∃ A c, e = .returned (.slice A (rdBytes n s).1.length c) ∧ Beside w' (w0.heap.size + 1 + 1 + 1) (w0.heap.size + 1) A (rdBytes n s).1 c ∧ RAll w0 w' b (rdBytes n s).2 h v :=
  (bytes_rtwo x.two n).mono fun _ _ ⟨A, c, h1, h2, h3, h4⟩ => ⟨A, c, h1, h2, x.call h3 h4⟩
theorem RAll.left (x : RAll w0 W b s h v) : Calls Tryd.prog 43 #[.pointer (some ⟨w0.heap.size + 1 + 1 + 1, 0, none⟩)] W fun e w' => e = .returned (.int .i64 (s.1.length : Nat)) ∧ RAll w0 w' b s h v :=
  (rleft_st x.two.rd).mono fun _ _ ⟨h1, k, h2⟩ => ⟨h1, by subst h2; exact x.keep ((Chg.refl none_ W).drewN k)⟩
theorem RAll.hdcell (x : RAll w0 W b s h v) (i : Nat) : W.cell? ⟨w0.heap.size + 1, i, none⟩ = (cellsH h v)[i]? := x.two.row.cell i
theorem RAll.hdfree (x : RAll w0 W b s h v) (i : Nat) : W.frozen? ⟨w0.heap.size + 1, i, none⟩ = false := x.two.row.frozen i
end
end Go.Proofs.YtfecmloaopbogaaDoor
