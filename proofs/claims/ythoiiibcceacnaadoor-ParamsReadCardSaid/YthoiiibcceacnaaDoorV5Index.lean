/- Layer 5 (params): where a number stands in the table. -/
import Derived.Test.YthoiiibcceacnaaDoorV5Table
namespace Go.Proofs.YthoiiibcceacnaaDoor
open Go.RowKit

/-- Where a number stands; -1, if it is none. -/
def idxP (n : Nat) : Int := if n = 1 then 0 else if n = 2 then 1 else if n = 4 then 2 else if n = 5 then 3 else if n = 8 then 4 else -1
theorem is_any (m n nb : Nat) (f1 f2 : Value) (w : World) (hn : w.cell? ⟨nb, 0, none⟩ = some (.int .u64 n)) (hb : nb < w.heap.size) :
    Calls Tryd.prog 28 #[.agg [.int .u64 m, f1, f2].toArray, .pointer (some ⟨nb, 0, none⟩)] w fun e w' => e = .returned (.bool (decide (m = n))) ∧ Chg none_ w w' := by
  have hn2 : (w.alloc (.cells [.int .u64 (m : Int), f1, f2].toArray 45)).cell? ⟨nb, 0, none⟩ = some (.int .u64 n) := (World.cell?_alloc_lt _ _ _ hb).trans hn
  have HC := Lib.hid ((Chg.refl none_ w).alloc (.cells [.int .u64 (m : Int), f1, f2].toArray 45))
  have h0 := (Row.new w 45 [.int .u64 (m : Int), f1, f2]).cell 0
  simp only [List.getElem?_cons_zero] at h0
  go_enter Tryd.func28, Tryd.ntmps28
  go_wp2
  go_ret
  exact ⟨ret_bool (by rw [Bool.eq_iff_iff]; simp; omega), HC.out⟩

theorem is_eq (m n nb : Nat) (f1 f2 : Value) (w0 : World) (hn : w0.cell? ⟨nb, 0, none⟩ = some (.int .u64 n)) (hb : nb < w0.heap.size) (b : Bool) (hb2 : decide (m = n) = b) (w : World) (hc : Chg none_ w0 w) :
    Calls Tryd.prog 28 #[.agg [.int .u64 m, f1, f2].toArray, .pointer (some ⟨nb, 0, none⟩)] w fun e w' => e = .returned (.bool b) ∧ Chg none_ w0 w' := by
  subst hb2
  exact (is_any m n nb f1 f2 w ((hc.cell 0 hb (fun h => h)).trans hn) (Nat.lt_of_lt_of_le hb hc.size)).mono fun e w' h => ⟨h.1, hc.trans h.2⟩

section
variable (gs : Pk → Nat) (n tb nb : Nat) (w : World)

set_option maxRecDepth 100000 in
set_option maxHeartbeats 1000000 in
theorem index_idle (hn : w.cell? ⟨nb, 0, none⟩ = some (.int .u64 n)) (hb : nb < w.heap.size) (ht : Row w tb 46 (tabCells gs)) (h0 : decide (1 = n) = true) :
    Calls Tryd.prog 27 #[.slice (some ⟨tb, 0, none⟩) 5 5, clo 28 nb] w fun e w' => e = .returned (.int .i64 (0)) ∧ Chg none_ w w' := by
  have HX : Hid (∀ w', Chg none_ w w' → Row w' tb 46 (tabCells gs)) := fun w' hc => ht.chg hc (fun h => h)
  have H0 := Lib.hid (fun f1 f2 => is_eq 1 n nb f1 f2 w hn hb _ h0)
  have c0 : Chg none_ w w := Chg.refl _ _
  clear hn hb ht h0
  unfold clo
  go_enter Tryd.func27, Tryd.ntmps27
  go_wp2
  refine wp_loop_rounds 6 ?_
  rw [rounds_succ]
  go_wp2_with ((with_reducible show wpList _ _ _ (⟨_, .load 45 _, _, _, _, _⟩ :: _) _ _); refine wpList_load_Mid (cs := cellsK gs .idle) rfl rfl rfl ((HX.out _ c0).rangeMid 0 _ (fun j v hv => by first | (rcases j with _ | _ | _ | j <;> first | exact hv | (simp [cellsK] at hv)))) Tryd.underlying45 rfl sizeK ?_)
  refine (H0.out _ _ _ c0).mono ?_
  rintro e w1 ⟨rfl, c1⟩
  clear c0
  go_wp2
  go_ret
  exact ⟨rfl, c1⟩

set_option maxRecDepth 100000 in
set_option maxHeartbeats 1000000 in
theorem index_token (hn : w.cell? ⟨nb, 0, none⟩ = some (.int .u64 n)) (hb : nb < w.heap.size) (ht : Row w tb 46 (tabCells gs)) (h0 : decide (1 = n) = false) (h1 : decide (2 = n) = true) :
    Calls Tryd.prog 27 #[.slice (some ⟨tb, 0, none⟩) 5 5, clo 28 nb] w fun e w' => e = .returned (.int .i64 (1)) ∧ Chg none_ w w' := by
  have HX : Hid (∀ w', Chg none_ w w' → Row w' tb 46 (tabCells gs)) := fun w' hc => ht.chg hc (fun h => h)
  have H0 := Lib.hid (fun f1 f2 => is_eq 1 n nb f1 f2 w hn hb _ h0)
  have H1 := Lib.hid (fun f1 f2 => is_eq 2 n nb f1 f2 w hn hb _ h1)
  have c0 : Chg none_ w w := Chg.refl _ _
  clear hn hb ht h0 h1
  unfold clo
  go_enter Tryd.func27, Tryd.ntmps27
  go_wp2
  refine wp_loop_rounds 6 ?_
  rw [rounds_succ]
  go_wp2_with ((with_reducible show wpList _ _ _ (⟨_, .load 45 _, _, _, _, _⟩ :: _) _ _); refine wpList_load_Mid (cs := cellsK gs .idle) rfl rfl rfl ((HX.out _ c0).rangeMid 0 _ (fun j v hv => by first | (rcases j with _ | _ | _ | j <;> first | exact hv | (simp [cellsK] at hv)))) Tryd.underlying45 rfl sizeK ?_)
  refine (H0.out _ _ _ c0).mono ?_
  rintro e w1 ⟨rfl, c1⟩
  clear c0
  go_wp2
  rw [rounds_succ]
  go_wp2_with ((with_reducible show wpList _ _ _ (⟨_, .load 45 _, _, _, _, _⟩ :: _) _ _); refine wpList_load_Mid (cs := cellsK gs .token) rfl rfl rfl ((HX.out _ c1).rangeMid 3 _ (fun j v hv => by first | (rcases j with _ | _ | _ | j <;> first | exact hv | (simp [cellsK] at hv)))) Tryd.underlying45 rfl sizeK ?_)
  refine (H1.out _ _ _ c1).mono ?_
  rintro e w2 ⟨rfl, c2⟩
  clear c1
  go_wp2
  go_ret
  exact ⟨rfl, c2⟩

set_option maxRecDepth 100000 in
set_option maxHeartbeats 1000000 in
theorem index_data (hn : w.cell? ⟨nb, 0, none⟩ = some (.int .u64 n)) (hb : nb < w.heap.size) (ht : Row w tb 46 (tabCells gs)) (h0 : decide (1 = n) = false) (h1 : decide (2 = n) = false) (h2 : decide (4 = n) = true) :
    Calls Tryd.prog 27 #[.slice (some ⟨tb, 0, none⟩) 5 5, clo 28 nb] w fun e w' => e = .returned (.int .i64 (2)) ∧ Chg none_ w w' := by
  have HX : Hid (∀ w', Chg none_ w w' → Row w' tb 46 (tabCells gs)) := fun w' hc => ht.chg hc (fun h => h)
  have H0 := Lib.hid (fun f1 f2 => is_eq 1 n nb f1 f2 w hn hb _ h0)
  have H1 := Lib.hid (fun f1 f2 => is_eq 2 n nb f1 f2 w hn hb _ h1)
  have H2 := Lib.hid (fun f1 f2 => is_eq 4 n nb f1 f2 w hn hb _ h2)
  have c0 : Chg none_ w w := Chg.refl _ _
  clear hn hb ht h0 h1 h2
  unfold clo
  go_enter Tryd.func27, Tryd.ntmps27
  go_wp2
  refine wp_loop_rounds 6 ?_
  rw [rounds_succ]
  go_wp2_with ((with_reducible show wpList _ _ _ (⟨_, .load 45 _, _, _, _, _⟩ :: _) _ _); refine wpList_load_Mid (cs := cellsK gs .idle) rfl rfl rfl ((HX.out _ c0).rangeMid 0 _ (fun j v hv => by first | (rcases j with _ | _ | _ | j <;> first | exact hv | (simp [cellsK] at hv)))) Tryd.underlying45 rfl sizeK ?_)
  refine (H0.out _ _ _ c0).mono ?_
  rintro e w1 ⟨rfl, c1⟩
  clear c0
  go_wp2
  rw [rounds_succ]
  go_wp2_with ((with_reducible show wpList _ _ _ (⟨_, .load 45 _, _, _, _, _⟩ :: _) _ _); refine wpList_load_Mid (cs := cellsK gs .token) rfl rfl rfl ((HX.out _ c1).rangeMid 3 _ (fun j v hv => by first | (rcases j with _ | _ | _ | j <;> first | exact hv | (simp [cellsK] at hv)))) Tryd.underlying45 rfl sizeK ?_)
  refine (H1.out _ _ _ c1).mono ?_
  rintro e w2 ⟨rfl, c2⟩
  clear c1
  go_wp2
  rw [rounds_succ]
  go_wp2_with ((with_reducible show wpList _ _ _ (⟨_, .load 45 _, _, _, _, _⟩ :: _) _ _); refine wpList_load_Mid (cs := cellsK gs .data) rfl rfl rfl ((HX.out _ c2).rangeMid 6 _ (fun j v hv => by first | (rcases j with _ | _ | _ | j <;> first | exact hv | (simp [cellsK] at hv)))) Tryd.underlying45 rfl sizeK ?_)
  refine (H2.out _ _ _ c2).mono ?_
  rintro e w3 ⟨rfl, c3⟩
  clear c2
  go_wp2
  go_ret
  exact ⟨rfl, c3⟩

set_option maxRecDepth 100000 in
set_option maxHeartbeats 1000000 in
theorem index_stream (hn : w.cell? ⟨nb, 0, none⟩ = some (.int .u64 n)) (hb : nb < w.heap.size) (ht : Row w tb 46 (tabCells gs)) (h0 : decide (1 = n) = false) (h1 : decide (2 = n) = false) (h2 : decide (4 = n) = false) (h3 : decide (5 = n) = true) :
    Calls Tryd.prog 27 #[.slice (some ⟨tb, 0, none⟩) 5 5, clo 28 nb] w fun e w' => e = .returned (.int .i64 (3)) ∧ Chg none_ w w' := by
  have HX : Hid (∀ w', Chg none_ w w' → Row w' tb 46 (tabCells gs)) := fun w' hc => ht.chg hc (fun h => h)
  have H0 := Lib.hid (fun f1 f2 => is_eq 1 n nb f1 f2 w hn hb _ h0)
  have H1 := Lib.hid (fun f1 f2 => is_eq 2 n nb f1 f2 w hn hb _ h1)
  have H2 := Lib.hid (fun f1 f2 => is_eq 4 n nb f1 f2 w hn hb _ h2)
  have H3 := Lib.hid (fun f1 f2 => is_eq 5 n nb f1 f2 w hn hb _ h3)
  have c0 : Chg none_ w w := Chg.refl _ _
  clear hn hb ht h0 h1 h2 h3
  unfold clo
  go_enter Tryd.func27, Tryd.ntmps27
  go_wp2
  refine wp_loop_rounds 6 ?_
  rw [rounds_succ]
  go_wp2_with ((with_reducible show wpList _ _ _ (⟨_, .load 45 _, _, _, _, _⟩ :: _) _ _); refine wpList_load_Mid (cs := cellsK gs .idle) rfl rfl rfl ((HX.out _ c0).rangeMid 0 _ (fun j v hv => by first | (rcases j with _ | _ | _ | j <;> first | exact hv | (simp [cellsK] at hv)))) Tryd.underlying45 rfl sizeK ?_)
  refine (H0.out _ _ _ c0).mono ?_
  rintro e w1 ⟨rfl, c1⟩
  clear c0
  go_wp2
  rw [rounds_succ]
  go_wp2_with ((with_reducible show wpList _ _ _ (⟨_, .load 45 _, _, _, _, _⟩ :: _) _ _); refine wpList_load_Mid (cs := cellsK gs .token) rfl rfl rfl ((HX.out _ c1).rangeMid 3 _ (fun j v hv => by first | (rcases j with _ | _ | _ | j <;> first | exact hv | (simp [cellsK] at hv)))) Tryd.underlying45 rfl sizeK ?_)
  refine (H1.out _ _ _ c1).mono ?_
  rintro e w2 ⟨rfl, c2⟩
  clear c1
  go_wp2
  rw [rounds_succ]
  go_wp2_with ((with_reducible show wpList _ _ _ (⟨_, .load 45 _, _, _, _, _⟩ :: _) _ _); refine wpList_load_Mid (cs := cellsK gs .data) rfl rfl rfl ((HX.out _ c2).rangeMid 6 _ (fun j v hv => by first | (rcases j with _ | _ | _ | j <;> first | exact hv | (simp [cellsK] at hv)))) Tryd.underlying45 rfl sizeK ?_)
  refine (H2.out _ _ _ c2).mono ?_
  rintro e w3 ⟨rfl, c3⟩
  clear c2
  go_wp2
  rw [rounds_succ]
  go_wp2_with ((with_reducible show wpList _ _ _ (⟨_, .load 45 _, _, _, _, _⟩ :: _) _ _); refine wpList_load_Mid (cs := cellsK gs .stream) rfl rfl rfl ((HX.out _ c3).rangeMid 9 _ (fun j v hv => by first | (rcases j with _ | _ | _ | j <;> first | exact hv | (simp [cellsK] at hv)))) Tryd.underlying45 rfl sizeK ?_)
  refine (H3.out _ _ _ c3).mono ?_
  rintro e w4 ⟨rfl, c4⟩
  clear c3
  go_wp2
  go_ret
  exact ⟨rfl, c4⟩

set_option maxRecDepth 100000 in
set_option maxHeartbeats 1000000 in
theorem index_streams (hn : w.cell? ⟨nb, 0, none⟩ = some (.int .u64 n)) (hb : nb < w.heap.size) (ht : Row w tb 46 (tabCells gs)) (h0 : decide (1 = n) = false) (h1 : decide (2 = n) = false) (h2 : decide (4 = n) = false) (h3 : decide (5 = n) = false) (h4 : decide (8 = n) = true) :
    Calls Tryd.prog 27 #[.slice (some ⟨tb, 0, none⟩) 5 5, clo 28 nb] w fun e w' => e = .returned (.int .i64 (4)) ∧ Chg none_ w w' := by
  have HX : Hid (∀ w', Chg none_ w w' → Row w' tb 46 (tabCells gs)) := fun w' hc => ht.chg hc (fun h => h)
  have H0 := Lib.hid (fun f1 f2 => is_eq 1 n nb f1 f2 w hn hb _ h0)
  have H1 := Lib.hid (fun f1 f2 => is_eq 2 n nb f1 f2 w hn hb _ h1)
  have H2 := Lib.hid (fun f1 f2 => is_eq 4 n nb f1 f2 w hn hb _ h2)
  have H3 := Lib.hid (fun f1 f2 => is_eq 5 n nb f1 f2 w hn hb _ h3)
  have H4 := Lib.hid (fun f1 f2 => is_eq 8 n nb f1 f2 w hn hb _ h4)
  have c0 : Chg none_ w w := Chg.refl _ _
  clear hn hb ht h0 h1 h2 h3 h4
  unfold clo
  go_enter Tryd.func27, Tryd.ntmps27
  go_wp2
  refine wp_loop_rounds 6 ?_
  rw [rounds_succ]
  go_wp2_with ((with_reducible show wpList _ _ _ (⟨_, .load 45 _, _, _, _, _⟩ :: _) _ _); refine wpList_load_Mid (cs := cellsK gs .idle) rfl rfl rfl ((HX.out _ c0).rangeMid 0 _ (fun j v hv => by first | (rcases j with _ | _ | _ | j <;> first | exact hv | (simp [cellsK] at hv)))) Tryd.underlying45 rfl sizeK ?_)
  refine (H0.out _ _ _ c0).mono ?_
  rintro e w1 ⟨rfl, c1⟩
  clear c0
  go_wp2
  rw [rounds_succ]
  go_wp2_with ((with_reducible show wpList _ _ _ (⟨_, .load 45 _, _, _, _, _⟩ :: _) _ _); refine wpList_load_Mid (cs := cellsK gs .token) rfl rfl rfl ((HX.out _ c1).rangeMid 3 _ (fun j v hv => by first | (rcases j with _ | _ | _ | j <;> first | exact hv | (simp [cellsK] at hv)))) Tryd.underlying45 rfl sizeK ?_)
  refine (H1.out _ _ _ c1).mono ?_
  rintro e w2 ⟨rfl, c2⟩
  clear c1
  go_wp2
  rw [rounds_succ]
  go_wp2_with ((with_reducible show wpList _ _ _ (⟨_, .load 45 _, _, _, _, _⟩ :: _) _ _); refine wpList_load_Mid (cs := cellsK gs .data) rfl rfl rfl ((HX.out _ c2).rangeMid 6 _ (fun j v hv => by first | (rcases j with _ | _ | _ | j <;> first | exact hv | (simp [cellsK] at hv)))) Tryd.underlying45 rfl sizeK ?_)
  refine (H2.out _ _ _ c2).mono ?_
  rintro e w3 ⟨rfl, c3⟩
  clear c2
  go_wp2
  rw [rounds_succ]
  go_wp2_with ((with_reducible show wpList _ _ _ (⟨_, .load 45 _, _, _, _, _⟩ :: _) _ _); refine wpList_load_Mid (cs := cellsK gs .stream) rfl rfl rfl ((HX.out _ c3).rangeMid 9 _ (fun j v hv => by first | (rcases j with _ | _ | _ | j <;> first | exact hv | (simp [cellsK] at hv)))) Tryd.underlying45 rfl sizeK ?_)
  refine (H3.out _ _ _ c3).mono ?_
  rintro e w4 ⟨rfl, c4⟩
  clear c3
  go_wp2
  rw [rounds_succ]
  go_wp2_with ((with_reducible show wpList _ _ _ (⟨_, .load 45 _, _, _, _, _⟩ :: _) _ _); refine wpList_load_Mid (cs := cellsK gs .streams) rfl rfl rfl ((HX.out _ c4).rangeMid 12 _ (fun j v hv => by first | (rcases j with _ | _ | _ | j <;> first | exact hv | (simp [cellsK] at hv)))) Tryd.underlying45 rfl sizeK ?_)
  refine (H4.out _ _ _ c4).mono ?_
  rintro e w5 ⟨rfl, c5⟩
  clear c4
  go_wp2
  go_ret
  exact ⟨rfl, c5⟩

set_option maxRecDepth 100000 in
set_option maxHeartbeats 1000000 in
theorem index_none (hn : w.cell? ⟨nb, 0, none⟩ = some (.int .u64 n)) (hb : nb < w.heap.size) (ht : Row w tb 46 (tabCells gs)) (h0 : decide (1 = n) = false) (h1 : decide (2 = n) = false) (h2 : decide (4 = n) = false) (h3 : decide (5 = n) = false) (h4 : decide (8 = n) = false) :
    Calls Tryd.prog 27 #[.slice (some ⟨tb, 0, none⟩) 5 5, clo 28 nb] w fun e w' => e = .returned (.int .i64 (-1)) ∧ Chg none_ w w' := by
  have HX : Hid (∀ w', Chg none_ w w' → Row w' tb 46 (tabCells gs)) := fun w' hc => ht.chg hc (fun h => h)
  have H0 := Lib.hid (fun f1 f2 => is_eq 1 n nb f1 f2 w hn hb _ h0)
  have H1 := Lib.hid (fun f1 f2 => is_eq 2 n nb f1 f2 w hn hb _ h1)
  have H2 := Lib.hid (fun f1 f2 => is_eq 4 n nb f1 f2 w hn hb _ h2)
  have H3 := Lib.hid (fun f1 f2 => is_eq 5 n nb f1 f2 w hn hb _ h3)
  have H4 := Lib.hid (fun f1 f2 => is_eq 8 n nb f1 f2 w hn hb _ h4)
  have c0 : Chg none_ w w := Chg.refl _ _
  clear hn hb ht h0 h1 h2 h3 h4
  unfold clo
  go_enter Tryd.func27, Tryd.ntmps27
  go_wp2
  refine wp_loop_rounds 6 ?_
  rw [rounds_succ]
  go_wp2_with ((with_reducible show wpList _ _ _ (⟨_, .load 45 _, _, _, _, _⟩ :: _) _ _); refine wpList_load_Mid (cs := cellsK gs .idle) rfl rfl rfl ((HX.out _ c0).rangeMid 0 _ (fun j v hv => by first | (rcases j with _ | _ | _ | j <;> first | exact hv | (simp [cellsK] at hv)))) Tryd.underlying45 rfl sizeK ?_)
  refine (H0.out _ _ _ c0).mono ?_
  rintro e w1 ⟨rfl, c1⟩
  clear c0
  go_wp2
  rw [rounds_succ]
  go_wp2_with ((with_reducible show wpList _ _ _ (⟨_, .load 45 _, _, _, _, _⟩ :: _) _ _); refine wpList_load_Mid (cs := cellsK gs .token) rfl rfl rfl ((HX.out _ c1).rangeMid 3 _ (fun j v hv => by first | (rcases j with _ | _ | _ | j <;> first | exact hv | (simp [cellsK] at hv)))) Tryd.underlying45 rfl sizeK ?_)
  refine (H1.out _ _ _ c1).mono ?_
  rintro e w2 ⟨rfl, c2⟩
  clear c1
  go_wp2
  rw [rounds_succ]
  go_wp2_with ((with_reducible show wpList _ _ _ (⟨_, .load 45 _, _, _, _, _⟩ :: _) _ _); refine wpList_load_Mid (cs := cellsK gs .data) rfl rfl rfl ((HX.out _ c2).rangeMid 6 _ (fun j v hv => by first | (rcases j with _ | _ | _ | j <;> first | exact hv | (simp [cellsK] at hv)))) Tryd.underlying45 rfl sizeK ?_)
  refine (H2.out _ _ _ c2).mono ?_
  rintro e w3 ⟨rfl, c3⟩
  clear c2
  go_wp2
  rw [rounds_succ]
  go_wp2_with ((with_reducible show wpList _ _ _ (⟨_, .load 45 _, _, _, _, _⟩ :: _) _ _); refine wpList_load_Mid (cs := cellsK gs .stream) rfl rfl rfl ((HX.out _ c3).rangeMid 9 _ (fun j v hv => by first | (rcases j with _ | _ | _ | j <;> first | exact hv | (simp [cellsK] at hv)))) Tryd.underlying45 rfl sizeK ?_)
  refine (H3.out _ _ _ c3).mono ?_
  rintro e w4 ⟨rfl, c4⟩
  clear c3
  go_wp2
  rw [rounds_succ]
  go_wp2_with ((with_reducible show wpList _ _ _ (⟨_, .load 45 _, _, _, _, _⟩ :: _) _ _); refine wpList_load_Mid (cs := cellsK gs .streams) rfl rfl rfl ((HX.out _ c4).rangeMid 12 _ (fun j v hv => by first | (rcases j with _ | _ | _ | j <;> first | exact hv | (simp [cellsK] at hv)))) Tryd.underlying45 rfl sizeK ?_)
  refine (H4.out _ _ _ c4).mono ?_
  rintro e w5 ⟨rfl, c5⟩
  clear c4
  go_wp2
  rw [rounds_succ]
  go_wp2
  go_ret
  exact ⟨rfl, c5⟩

end
theorem index_any (gs : Pk → Nat) (n tb nb : Nat) (w : World) (hn : w.cell? ⟨nb, 0, none⟩ = some (.int .u64 n)) (hb : nb < w.heap.size) (ht : Row w tb 46 (tabCells gs)) :
    Calls Tryd.prog 27 #[.slice (some ⟨tb, 0, none⟩) 5 5, clo 28 nb] w fun e w' => e = .returned (.int .i64 (idxP n)) ∧ Chg none_ w w' := by
  unfold idxP
  by_cases h1 : n = 1
  · rw [if_pos h1]; exact index_idle gs n tb nb w hn hb ht (by simp [h1])
  rw [if_neg h1]
  have g1 : decide (1 = n) = false := by simp; omega
  by_cases h2 : n = 2
  · rw [if_pos h2]; exact index_token gs n tb nb w hn hb ht g1 (by simp [h2])
  rw [if_neg h2]
  have g2 : decide (2 = n) = false := by simp; omega
  by_cases h4 : n = 4
  · rw [if_pos h4]; exact index_data gs n tb nb w hn hb ht g1 g2 (by simp [h4])
  rw [if_neg h4]
  have g4 : decide (4 = n) = false := by simp; omega
  by_cases h5 : n = 5
  · rw [if_pos h5]; exact index_stream gs n tb nb w hn hb ht g1 g2 g4 (by simp [h5])
  rw [if_neg h5]
  have g5 : decide (5 = n) = false := by simp; omega
  by_cases h8 : n = 8
  · rw [if_pos h8]; exact index_streams gs n tb nb w hn hb ht g1 g2 g4 g5 (by simp [h8])
  rw [if_neg h8]
  have g8 : decide (8 = n) = false := by simp; omega
  exact index_none gs n tb nb w hn hb ht g1 g2 g4 g5 g8
end Go.Proofs.YthoiiibcceacnaaDoor
