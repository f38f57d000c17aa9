/- Layer 16 (reasm): the program's buffer. -/
import Derived.Test.YtbmhoijdbhokaaaV16Math
import Derived.Test.YtbmhoijdbhokaaaAloc
import Derived.Test.YtbmhoijdbhokaaaOwn
import Derived.Test.YtbmhoijdbhokaaaProg
import Derived.Sort.Grow
import Derived.BigQuiet
import Derived.Deep.QuietTactic
import Derived.Deep.RegionHeld3
import Derived.StillTailTactics
import Derived.Lib.Hide
namespace Go.Proofs.Ytbmhoijdbhokaaa
open Go.RowKit

theorem wrapU (n : Nat) (h : n < 18446744073709551616) : IntKind.u64.wrap (n : Int) = (n : Int) := by
  simp only [IntKind.wrap, IntKind.bits, IntKind.signed]
  simp
  omega
theorem Row.newAtB (W : World) (e : TypeId) (cs : List Value) (b : Nat) (hb : W.heap.size = b) : Row (W.alloc (.cells cs.toArray e)) b e cs := hb ▸ Row.new W e cs
def cellsB (m : Nat) (s : Rb) : List Value := [.int .u64 (s.win : Nat), .map (some m), .int .u64 (s.rd : Nat), .int .u64 (s.gap : Nat), .int .u64 (s.top : Nat), .bool s.kn]
/-- The buffer lies in block g, its places in block m. -/
structure BufAt (w : World) (g m : Nat) (s : Rb) : Prop where
  row : Row w g 51 (cellsB m s)
  map : MapB w m s.es
  ne : m ≠ g
theorem BufAt.chg {S : Nat → Prop} {w w' : World} {g m : Nat} {s : Rb} (h : BufAt w g m s) (hc : Chg S w w') (hg : ¬ S g) (hm : ¬ S m) : BufAt w' g m s := ⟨h.row.chg hc hg, h.map.chg hc hm, h.ne⟩
/-- The blocks of a buffer. -/
def of2 (g m : Nat) : Nat → Prop := fun b => b = g ∨ b = m

theorem info8 : (Try.prog.info? 5).map (fun i => (i.size, i.zero)) = some (1, some (.int .u8 0)) := by kernel_rfl
theorem zeroByte (w : World) : (zeroValue 5).run Try.prog w = .ok (.int .u8 0) w := by
  cases hq : Try.prog.info? 5 with
  | none => have := info8; rw [hq] at this; cases this
  | some j =>
    have hz : j.zero = some (.int .u8 0) := by have := info8; rw [hq] at this; simp at this; exact this.2
    simp [zeroValue, typeInfo, hq, hz]

set_option maxRecDepth 100000 in
set_option maxHeartbeats 1000000 in
theorem bNew_none (n : Int) (h : n < 0 ∨ 100000 < n) (w : World) : Calls Try.prog 9 #[.int .i64 n] w fun e w' => e = .returned (.pointer none) ∧ w' = w := by
  rcases h with h | h
  · go_enter Try.func9, Try.ntmps9
    go_wp2
    go_ret
    exact ⟨rfl, rfl⟩
  · have h2 : ¬ n < 0 := by omega
    go_enter Try.func9, Try.ntmps9
    go_wp2
    all_goals (first | (exfalso; omega) | skip)
    all_goals go_ret
    all_goals exact ⟨rfl, rfl⟩
set_option maxRecDepth 100000 in
set_option maxHeartbeats 1000000 in
theorem bNew_any (n : Nat) (h : n ≤ 100000) (w : World) : Calls Try.prog 9 #[.int .i64 (n : Int)] w fun e w' => ∃ g m, e = .returned (.pointer (some ⟨g, 0, none⟩)) ∧ w.heap.size ≤ g ∧ w.heap.size ≤ m ∧ BufAt w' g m (newB n) ∧ Chg none_ w w' := by
  have h2 : (n : Int) ≤ 100000 := by omega
  have h3 : (0 : Int) ≤ (n : Int) := by omega
  have hmm := @run_makeMap Try.prog
  go_enter Try.func9, Try.ntmps9
  go_wp2
  go_ret
  refine ⟨_, w.heap.size, rfl, by simp, Nat.le_refl _, ⟨Row.newAtB _ _ (cellsB w.heap.size (newB n)) _ (by simp), ?_, by simp⟩, ?_⟩
  · exact (MapB.made w).chg ((Chg.refl none_ _).alloc _) (fun h => h)
  · exact ((Chg.refl none_ w).alloc _).alloc _

theorem BufAt.cells {w : World} {g m : Nat} {s : Rb} (hr : BufAt w g m s) : w.cell? ⟨g, 0, none⟩ = some (.int .u64 (s.win : Nat)) ∧ w.cell? ⟨g, 1, none⟩ = some (.map (some m)) ∧ w.cell? ⟨g, 2, none⟩ = some (.int .u64 (s.rd : Nat)) ∧ w.cell? ⟨g, 3, none⟩ = some (.int .u64 (s.gap : Nat)) ∧ w.cell? ⟨g, 4, none⟩ = some (.int .u64 (s.top : Nat)) ∧ w.cell? ⟨g, 5, none⟩ = some (.bool s.kn) :=
  ⟨hr.row.cell 0, hr.row.cell 1, hr.row.cell 2, hr.row.cell 3, hr.row.cell 4, hr.row.cell 5⟩

theorem bTop_any (g m : Nat) (s : Rb) (w : World) (hr : BufAt w g m s) : Calls Try.prog 17 #[.pointer (some ⟨g, 0, none⟩)] w fun e w' => e = .returned (.int .u64 (s.top : Nat)) ∧ w' = w := by
  obtain ⟨c0, c1, c2, c3, c4, c5⟩ := hr.cells
  clear hr
  go_enter Try.func17, Try.ntmps17
  go_wp2
  go_ret
  exact ⟨rfl, rfl⟩
theorem bLimit_any (g m : Nat) (s : Rb) (hs : Core s) (w : World) (hr : BufAt w g m s) : Calls Try.prog 16 #[.pointer (some ⟨g, 0, none⟩)] w fun e w' => e = .returned (.int .u64 ((s.rd + s.win : Nat) : Int)) ∧ ∃ k, w' = w.drewN k := by
  obtain ⟨c0, c1, c2, c3, c4, c5⟩ := hr.cells
  have h1 := hs.far
  have h2 : IntKind.u64.wrap ((s.rd : Int) + (s.win : Int)) = ((s.rd + s.win : Nat) : Int) := wrapU (s.rd + s.win) (by omega)
  clear hr
  go_enter Try.func16, Try.ntmps16
  go_wp2
  go_quiet (fail)
  go_wp2
  go_ret
  exact ⟨ret_u64 (by first | exact h2 | (push_cast; rfl)), _, rfl⟩
theorem bSize_any (g m : Nat) (s : Rb) (w : World) (hr : BufAt w g m s) : Calls Try.prog 18 #[.pointer (some ⟨g, 0, none⟩)] w fun e w' => e = .returned (.tuple #[.int .u64 ((if s.kn then s.top else 0 : Nat) : Int), .bool s.kn]) ∧ w' = w := by
  obtain ⟨c0, c1, c2, c3, c4, c5⟩ := hr.cells
  cases hk : s.kn
  · rw [hk] at c5
    go_enter Try.func18, Try.ntmps18
    go_wp2
    refine bodyPost_ret (results_tmp2 rfl _ _ _) rfl ?_
    exact ⟨rfl, rfl⟩
  · rw [hk] at c5
    go_enter Try.func18, Try.ntmps18
    go_wp2
    refine bodyPost_ret (results_tmp2 rfl _ _ _) rfl ?_
    exact ⟨rfl, rfl⟩
theorem bReady_any (g m : Nat) (s : Rb) (hs : Core s) (w : World) (hr : BufAt w g m s) : Calls Try.prog 14 #[.pointer (some ⟨g, 0, none⟩)] w fun e w' => e = .returned (.int .i64 ((s.gap - s.rd : Nat) : Int)) ∧ ∃ k, w' = w.drewN k := by
  obtain ⟨c0, c1, c2, c3, c4, c5⟩ := hr.cells
  have h1 := hs.far
  have h2 := hs.gap_le
  have h3 := hs.rg
  have h4 := hs.win
  obtain ⟨d, hd⟩ : ∃ d, d = s.gap - s.rd := ⟨_, rfl⟩
  have h5 : (s.gap : Int) - (s.rd : Int) = (d : Int) := by omega
  have h6 : d ≤ 100000 := by omega
  rw [← hd]
  clear hr hd
  go_enter Try.func14, Try.ntmps14
  go_wp2
  go_quiet (fail)
  go_wp2
  go_ret
  exact ⟨by first | rfl | exact ret_i64 h5, _, rfl⟩
theorem bDone_any (g m : Nat) (s : Rb) (w : World) (hr : BufAt w g m s) : Calls Try.prog 20 #[.pointer (some ⟨g, 0, none⟩)] w fun e w' => e = .returned (.bool (s.kn && decide (s.rd = s.top))) ∧ ∃ k, w' = w.drewN k := by
  obtain ⟨c0, c1, c2, c3, c4, c5⟩ := hr.cells
  clear hr
  cases hk : s.kn
  · rw [hk] at c5
    go_enter Try.func20, Try.ntmps20
    go_wp2
    go_quiet (fail)
    go_wp2
    go_ret
    exact ⟨rfl, _, rfl⟩
  · rw [hk] at c5
    by_cases hq : s.rd = s.top
    · rw [hq] at c2
      go_enter Try.func20, Try.ntmps20
      go_wp2
      go_quiet (fail)
      go_wp2
      go_ret
      exact ⟨by simp [hq], _, rfl⟩
    · have h1 : ((s.rd : Int) == (s.top : Int)) = false := by rw [beq_eq_false_iff_ne]; omega
      go_enter Try.func20, Try.ntmps20
      go_wp2
      go_quiet (fail)
      go_wp2
      go_ret
      exact ⟨by simp [hq], _, rfl⟩
theorem bHeld_any (g m : Nat) (s : Rb) (w : World) (hr : BufAt w g m s) : Calls Try.prog 12 #[.pointer (some ⟨g, 0, none⟩)] w fun e w' => e = .returned (.int .i64 (s.es.length : Int)) ∧ w' = w := by
  obtain ⟨c0, c1, c2, c3, c4, c5⟩ := hr.cells
  have hlen := run_lenB Try.underlying49 hr.map
  clear hr
  go_enter Try.func12, Try.ntmps12
  go_wp2
  go_ret
  exact ⟨rfl, rfl⟩
set_option maxRecDepth 100000 in
set_option maxHeartbeats 1000000 in
theorem came_any (g m : Nat) (s : Rb) (hs : Core s) (p : Nat) (w : World) (hr : BufAt w g m s) : Calls Try.prog 24 #[.pointer (some ⟨g, 0, none⟩), .int .u64 (p : Int)] w fun e w' => e = .returned (.bool (cameB s p)) ∧ w' = w := by
  obtain ⟨c0, c1, c2, c3, c4, c5⟩ := hr.cells
  have HM := Lib.hid hr.map
  rw [hs.came p]
  clear hr hs
  have hlk := run_lookupB Try.underlying49 Try.underlying32 (zeroByte w) HM.out p
  generalize lookN s.es p = lk at *
  clear HM
  cases lk with
  | some v =>
    simp only [Option.isSome_some, Option.getD_some] at hlk
    go_enter Try.func24, Try.ntmps24
    go_wp2
    go_ret
    exact ⟨rfl, rfl⟩
  | none =>
    simp only [Option.isSome_none, Option.getD_none] at hlk
    go_enter Try.func24, Try.ntmps24
    go_wp2
    go_ret
    exact ⟨by simp, rfl⟩
end Go.Proofs.Ytbmhoijdbhokaaa
