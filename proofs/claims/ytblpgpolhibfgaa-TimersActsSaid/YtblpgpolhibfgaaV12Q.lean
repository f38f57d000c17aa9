/- Layer 12 (timers): a queue's memory: its heap, how many there are, its map. -/
import Derived.Test.YtblpgpolhibfgaaV12Cmp
namespace Go.Proofs.Ytblpgpolhibfgaa
open Go.RowKit

theorem whose_cells : Try.prog.cellsOf 64 = 2 := by kernel_rfl
theorem int_cells : Try.prog.cellsOf 3 = 1 := by kernel_rfl
theorem types_pos : ∃ m, Try.prog.types.size = m + 1 := ⟨_, (by kernel_rfl : Try.prog.types.size = (Try.prog.types.size - 1) + 1)⟩
theorem keyLits_int (m : Nat) (x : Int) (h : (Lit.int .i64 x).wf = true) : Try.prog.keyLits (m + 1) 3 [.int .i64 x] = some [.int .i64 x] := by
  unfold Program.keyLits
  rw [Try.underlying3]
  simp [h]
theorem keyLits_whose (m : Nat) (k : Int × Int) (h : KOk k) : Try.prog.keyLits (m + 1 + 1) 64 [.int .i64 k.1, .int .i64 k.2] = some [.int .i64 k.1, .int .i64 k.2] := by
  unfold Program.keyLits
  rw [Try.underlying64]
  simp [whose_cells, int_cells, keyLits_int _ _ h.1, keyLits_int _ _ h.2]
theorem keyed : KeyS Try.prog 64 where
  law := deep_law_gate (by kernel_rfl) (by decide +kernel) (by decide +kernel) (by kernel_rfl) (by kernel_rfl)
  lit := fun k hk => by
    have h1 : Try.prog.keyType 64 = true := by kernel_rfl
    have h2 : (kV k).formed Try.prog 64 = true := by
      unfold kV Value.formed
      simp only [Try.underlying64, whose_cells]
      rfl
    obtain ⟨m, hm⟩ := types_pos
    have h3 := keyLits_whose m k hk
    refine ⟨.string (keyBytes [.int .i64 k.1, .int .i64 k.2]), ?_⟩
    unfold keyOf
    rw [Try.underlying64]
    simp only [h1, h2, hm, Bool.and_self, if_true]
    rw [show (kV k).cells.toList = [.int .i64 k.1, .int .i64 k.2] from rfl, h3]
    rfl

structure TOk (t : Tm) : Prop where
  a : t.at_ < 18446744073709551616
  k : KOk t.key

def tcells (F : List Tm) : List Value := F.flatMap tcell
theorem tcells_len (F : List Tm) : (tcells F).length = 3 * F.length := by
  induction F with
  | nil => rfl
  | cons a F ih => simp only [tcells, List.flatMap_cons, List.length_append, List.length_cons, tcell_len] at ih ⊢; omega
theorem tcells_get (F : List Tm) (i j : Nat) (h : i < F.length) (hj : j < 3) : (tcells F)[i * 3 + j]? = (tcell (tm F i))[j]? := by
  induction F generalizing i with
  | nil => cases h
  | cons a F ih =>
    cases i with
    | zero =>
      simp only [tcells, List.flatMap_cons, tm, List.getD_cons_zero, Nat.zero_mul, Nat.zero_add]
      rw [List.getElem?_append_left (by rw [tcell_len]; exact hj)]
    | succ i =>
      have := ih i (by simpa using h)
      simp only [tcells, List.flatMap_cons, tm, List.getD_cons_succ] at this ⊢
      rw [List.getElem?_append_right (by rw [tcell_len]; omega), tcell_len, show (i + 1) * 3 + j - 3 = i * 3 + j from by omega]
      exact this
theorem tcells_split (F : List Tm) (i : Nat) (h : i < F.length) : tcells F = tcells (F.take i) ++ tcell (tm F i) ++ tcells (F.drop (i + 1)) := by
  have e : F = F.take i ++ tm F i :: F.drop (i + 1) := by
    unfold tm
    rw [List.getD_eq_getElem?_getD, List.getElem?_eq_getElem h]
    simp
  conv => lhs; rw [e]
  simp [tcells]
theorem tcells_set (F : List Tm) (i : Nat) (t : Tm) (h : i < F.length) : tcells (F.set i t) = tcells (F.take i) ++ tcell t ++ tcells (F.drop (i + 1)) := by
  have e : F.set i t = F.take i ++ t :: F.drop (i + 1) := by
    rw [List.set_eq_take_append_cons_drop, if_pos h]
  rw [e]
  simp [tcells]

/-- A queue's cells. -/
structure QM (w : World) (q : Nat) (F : List Tm) (n : Nat) (mp : Option Nat) : Prop where
  row : Row w q 60 (tcells F ++ [.int .i64 (n : Int), .map mp])
  len : F.length = 200
  ok : ∀ t ∈ F, TOk t

theorem tm_ok {F : List Tm} (h : ∀ t ∈ F, TOk t) (i : Nat) : TOk (tm F i) := by
  unfold tm
  rw [List.getD_eq_getElem?_getD]
  cases hi : F[i]? with
  | none => exact ⟨by decide, by decide, by decide⟩
  | some t => exact h t (List.mem_of_getElem? hi)
theorem set_ok {F : List Tm} (h : ∀ t ∈ F, TOk t) (i : Nat) {t : Tm} (ht : TOk t) : ∀ x ∈ F.set i t, TOk x := fun x hx => by
  rcases List.mem_or_eq_of_mem_set hx with hx | rfl
  · exact h x hx
  · exact ht

section
variable {w w' : World} {q n : Nat} {F : List Tm} {mp : Option Nat}
theorem QM.lt (h : QM w q F n mp) : q < w.heap.size := h.row.lt
theorem QM.chg {S : Nat → Prop} (h : QM w q F n mp) (hc : Chg S w w') (hs : ¬ S q) : QM w' q F n mp := ⟨h.row.chg hc hs, h.len, h.ok⟩
theorem QM.drew (h : QM w q F n mp) : QM w.drew q F n mp := ⟨h.row.drew, h.len, h.ok⟩
theorem QM.c600 (h : QM w q F n mp) : w.cell? ⟨q, 600, none⟩ = some (.int .i64 (n : Int)) := by
  rw [h.row.cell, List.getElem?_append_right (by rw [tcells_len, h.len]; omega), tcells_len, h.len]
  rfl
theorem QM.c601 (h : QM w q F n mp) : w.cell? ⟨q, 601, none⟩ = some (.map mp) := by
  rw [h.row.cell, List.getElem?_append_right (by rw [tcells_len, h.len]; omega), tcells_len, h.len]
  rfl
theorem QM.at_ (h : QM w q F n mp) (i : Nat) (hi : i < 200) : w.rangeAt q (i * 3) (tcell (tm F i)) :=
  h.row.rangeMid _ _ fun j v hv => by
    have hj : j < 3 := by
      have := (List.getElem?_eq_some_iff.1 hv).1
      rwa [tcell_len] at this
    rw [List.getElem?_append_left (by rw [tcells_len, h.len]; omega), tcells_get F i j (by rw [h.len]; exact hi) hj]
    exact hv
theorem QM.count (h : QM w q F n mp) (m : Nat) : QM (w.setCell ⟨q, 600, none⟩ (.int .i64 (m : Int))) q F m mp := by
  refine ⟨?_, h.len, h.ok⟩
  have := h.row.set 600 (.int .i64 (m : Int))
  rw [List.set_append_right _ _ (by rw [tcells_len, h.len]; omega), tcells_len, h.len] at this
  exact this
theorem QM.map (h : QM w q F n mp) (m : Option Nat) : QM (w.setCell ⟨q, 601, none⟩ (.map m)) q F n m := by
  refine ⟨?_, h.len, h.ok⟩
  have := h.row.set 601 (.map m)
  rw [List.set_append_right _ _ (by rw [tcells_len, h.len]; omega), tcells_len, h.len] at this
  exact this
theorem QM.set (h : QM w q F n mp) (i : Nat) (hi : i < 200) {t : Tm} (ht : TOk t) : QM (w.setCells q (i * 3) (tcell t)) q (F.set i t) n mp := by
  refine ⟨?_, by rw [List.length_set, h.len], set_ok h.ok i ht⟩
  have hl : i < F.length := by rw [h.len]; exact hi
  have hr := h.row
  rw [tcells_split F i hl, List.append_assoc] at hr
  have k := hr.storeMid (xs := tcell t) rfl
  rw [tcells_len, List.length_take, Nat.min_eq_left (by omega), Nat.mul_comm] at k
  rw [tcells_set F i t hl, List.append_assoc]
  exact k
end
theorem sizeTm : (Try.prog.info? 27).map (·.size) = some 3 := by kernel_rfl
theorem sizeQ : (Try.prog.info? 60).map (·.size) = some 602 := by kernel_rfl

section
variable {P : Program} {ops : Array Oper} {rest : List Oper} {o : Oper} {a : Act} {w : World} {Q : Exit → Act → World → Prop}
/-- A timer is stored into a queue's heap. -/
theorem wp_store_Q {K : Act → World → Prop} {ty : TypeId} {x y : Operand} (ho : o.op = .store ty x y) {q n i : Nat} {F : List Tm} {mp : Option Nat} {t : Tm} (hx : a.eval x = .pointer (some ⟨q, i * 3, none⟩)) (h : QM w q F n mp) (hi : i < 200) (ht : TOk t)
    (hy : a.eval y = .agg (tcell t).toArray) (hz : (P.info? ty).map (·.size) = some 3)
    (k : ∀ w', QM w' q (F.set i t) n mp → Chg (· = q) w w' → w'.heap.size = w.heap.size → K (a.put o.dst undef) w') : Oper.wp P o a w K Q :=
  wp_store_mid ty x y ho q (i * 3) (tcell t).toArray hx hy (h.row.there (i * 3) _ (by rw [List.length_append, tcells_len, h.len]; simp [tcell]; omega)) hz (by simp [tcell, Value.oneCell'])
    (k _ (h.set i hi ht) ((Chg.refl (· = q) w).setCells _ _ (fun _ => rfl)) (setCells_size _ _ _ _))
theorem wpList_store_Q {ty : TypeId} {x y : Operand} (ho : o.op = .store ty x y) (hw : Region.wanted o (yielded ops a.tmps) = true) {q n i : Nat} {F : List Tm} {mp : Option Nat} {t : Tm} (hx : a.eval x = .pointer (some ⟨q, i * 3, none⟩)) (h : QM w q F n mp) (hi : i < 200) (ht : TOk t)
    (hy : a.eval y = .agg (tcell t).toArray) (hz : (P.info? ty).map (·.size) = some 3)
    (k : ∀ w', QM w' q (F.set i t) n mp → Chg (· = q) w w' → w'.heap.size = w.heap.size → wpList P ops Q rest (a.put o.dst undef) w') : wpList P ops Q (o :: rest) a w :=
  BigFrame.wpList_want hw fun _ hK => wp_store_Q ho hx h hi ht hy hz (fun w' h1 h2 h3 => hK _ _ (k w' h1 h2 h3))
end
end Go.Proofs.Ytblpgpolhibfgaa
