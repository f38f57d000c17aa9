/- Layer 10 (keys): the keys of a secret, as memory has them; which are the same; how they are built. -/
import Derived.Test.YtfpflhcabjcamaaDoorV10Math
import Derived.Test.YtfpflhcabjcamaaDoorK0

import Derived.Test.YtfpflhcabjcamaaDoorKA2
import Derived.DeepKeys
namespace Go.Proofs.YtfpflhcabjcamaaDoor
open Go.RowKit

theorem Chg.ofN {w w' : World} {S : Nat → Prop} (h : Chg none_ w w') : Chg S w w' := h.mono (fun _ _ h => h.elim)
theorem setList_mid (xs : List Value) : ∀ (ys pre post : List Value), xs.length = ys.length → xs.zipIdx.foldl (fun l x => l.set (pre.length + x.2) x.1) (pre ++ (ys ++ post)) = pre ++ (xs ++ post) := by
  induction xs with
  | nil => intro ys pre post h; have : ys = [] := List.eq_nil_of_length_eq_zero h.symm; subst this; simp
  | cons x r ih =>
    intro ys pre post h
    cases ys with
    | nil => cases h
    | cons y ys =>
      have hl : r.length = ys.length := by simpa using h
      have := ih ys (pre ++ [x]) post hl
      rw [List.zipIdx_cons, List.foldl_cons, List.zipIdx_succ, List.foldl_map]
      simp only [Nat.add_zero]
      have e1 : (pre ++ (y :: ys ++ post)).set pre.length x = pre ++ [x] ++ (ys ++ post) := by simp
      rw [e1]
      have e2 : (fun (l : List Value) (y : Value × Nat) => l.set (pre.length + (y.2 + 1)) y.1) = fun l y => l.set ((pre ++ [x]).length + y.2) y.1 := by
        funext l y; congr 1; simp; omega
      rw [e2, this]
      simp
theorem fill_part {place : Nat → Option (Nat × Nat)} {k : Nat} {v : Value} {xs pre ys post : List Value} {rest : List (Nat × Value)} (hv : v.cells = xs.toArray) (hp : place k = some (pre.length, xs.length)) (hl : xs.length = ys.length) :
    Instr.fill place (pre ++ (ys ++ post)).toArray ((k, v) :: rest) = Instr.fill place (pre ++ (xs ++ post)).toArray rest := by
  have e : ∀ (l : List (Value × Nat)) (cs : List Value), (l.foldl (fun (cs : Array Value) (x : Value × Nat) => cs.setIfInBounds (pre.length + x.2) x.1) cs.toArray) = (l.foldl (fun (cs : List Value) (x : Value × Nat) => cs.set (pre.length + x.2) x.1) cs).toArray := by
    intro l
    induction l with
    | nil => intro cs; rfl
    | cons a l ih => intro cs; simp only [List.foldl_cons, List.setIfInBounds_toArray]; exact ih _
  have h := setList_mid xs ys pre post hl
  have hz : (xs.toArray.zipIdx) = xs.zipIdx.toArray := by simp
  rw [Instr.fill, hp]
  simp only [hv]
  rw [if_neg (by simp; omega), hz, List.foldl_toArray', e, h]
  rfl

/-- The cells of keys. -/
def cellsS (s : Sc) : List Value := u8s s.key ++ (u8s s.iv ++ (u8s s.next ++ [.bool s.phase]))
def aggS (s : Sc) : Value := .agg (cellsS s).toArray
theorem cellsS_len {s : Sc} (h : s.Ok) : (cellsS s).length = 61 := by
  simp only [cellsS, List.length_append, u8s_length, h.keyL, h.ivL, h.nextL, List.length_cons, List.length_nil]
def zeroS : List Value := u8s (List.replicate 60 0) ++ [.bool false]
theorem zeroSc : (Tryd.prog.info? 36).map (·.zero) = some (some (.agg zeroS.toArray)) := by kernel_rfl
theorem sizeSc : (Tryd.prog.info? 36).map (·.size) = some 61 := by kernel_rfl
theorem builtSc (parts : List (Nat × Value)) : Tryd.prog.built 36 parts = Instr.fill (fun i => (#[(0, 16), (16, 12), (28, 32), (60, 1)] : Array (Nat × Nat))[i]?) zeroS.toArray parts := by kernel_rfl
theorem fillSc {s : Sc} (h : s.Ok) : Instr.fill (fun i => (#[(0, 16), (16, 12), (28, 32), (60, 1)] : Array (Nat × Nat))[i]?) zeroS.toArray [(0, .agg (u8s s.key).toArray), (1, .agg (u8s s.iv).toArray), (2, .agg (u8s s.next).toArray), (3, .bool s.phase)] = some (cellsS s).toArray := by
  have e0 : zeroS = [] ++ (u8s (List.replicate 16 0) ++ (u8s (List.replicate 12 0) ++ (u8s (List.replicate 32 0) ++ ([.bool false] ++ [])))) := by rfl
  rw [e0, fill_part (xs := u8s s.key) rfl (by rw [u8s_length, h.keyL]; rfl) (by rw [u8s_length, h.keyL]; rfl)]
  rw [show ([] : List Value) ++ (u8s s.key ++ (u8s (List.replicate 12 0) ++ (u8s (List.replicate 32 0) ++ ([.bool false] ++ [])))) = u8s s.key ++ (u8s (List.replicate 12 0) ++ (u8s (List.replicate 32 0) ++ ([.bool false] ++ []))) from rfl]
  rw [fill_part (xs := u8s s.iv) rfl (by rw [u8s_length, u8s_length, h.ivL, h.keyL]; rfl) (by rw [u8s_length, h.ivL]; rfl)]
  rw [show u8s s.key ++ (u8s s.iv ++ (u8s (List.replicate 32 0) ++ ([.bool false] ++ []))) = (u8s s.key ++ u8s s.iv) ++ (u8s (List.replicate 32 0) ++ ([.bool false] ++ [])) from by rw [List.append_assoc]]
  rw [fill_part (xs := u8s s.next) rfl (by rw [List.length_append, u8s_length, u8s_length, u8s_length, h.ivL, h.keyL, h.nextL]; rfl) (by rw [u8s_length, h.nextL]; rfl)]
  rw [show (u8s s.key ++ u8s s.iv) ++ (u8s s.next ++ ([.bool false] ++ [])) = (u8s s.key ++ u8s s.iv ++ u8s s.next) ++ ([.bool false] ++ []) from by rw [List.append_assoc (u8s s.key ++ u8s s.iv)]]
  rw [fill_part (xs := [.bool s.phase]) (ys := [.bool false]) (post := []) (pre := u8s s.key ++ u8s s.iv ++ u8s s.next) rfl (by rw [List.length_append, List.length_append, u8s_length, u8s_length, u8s_length, h.ivL, h.keyL, h.nextL]; rfl) rfl]
  rw [show (u8s s.key ++ u8s s.iv ++ u8s s.next) ++ ([.bool s.phase] ++ []) = cellsS s from by unfold cellsS; simp]
  rfl
theorem run_buildSc {s : Sc} (h : s.Ok) (w : World) : (Instr.build 36 #[(0, .agg (u8s s.key).toArray), (1, .agg (u8s s.iv).toArray), (2, .agg (u8s s.next).toArray), (3, .bool s.phase)]).run Tryd.prog w = .ok (aggS s) w :=
  run_build w _ _ _ (by rw [builtSc]; exact fillSc h)

theorem wf_u8s (n : Nat) (h : n < 256) : (Lit.int .u8 (n : Int)).wf = true := by
  show (decide ((0 : Int) ≤ n) && decide ((n : Int) ≤ 255)) = true
  simp only [Bool.and_eq_true, decide_eq_true_eq]
  omega
theorem keySc : Tryd.prog.keyTypeAt 4 36 = true := by kernel_rfl
theorem cellsOfSc : Tryd.prog.cellsOf 36 = 61 := by kernel_rfl
theorem cells16 : Tryd.prog.cellsOf 33 = 16 := by kernel_rfl
theorem cells12 : Tryd.prog.cellsOf 34 = 12 := by kernel_rfl
theorem cells32 : Tryd.prog.cellsOf 26 = 32 := by kernel_rfl
theorem cellsBl : Tryd.prog.cellsOf 4 = 1 := by kernel_rfl
def litsB (l : List Nat) : List Lit := l.map fun (x : Nat) => Lit.int .u8 (x : Int)
theorem mapM_allS {α β : Type} {f : α → Option β} {g : α → β} : ∀ (is : List α), (∀ i ∈ is, f i = some (g i)) → is.mapM f = some (is.map g)
  | [], _ => rfl
  | i :: is, h => by
    rw [List.mapM_cons, h i (by simp), mapM_allS is (fun j hj => h j (by simp [hj]))]
    rfl
theorem key_u8 (n : Nat) (h : n < 256) : Tryd.prog.keyLits 2 5 [.int .u8 (n : Int)] = some [.int .u8 (n : Int)] := by
  simp [Program.keyLits, Tryd.underlying5, wf_u8s n h]
theorem key_arr (t : TypeId) (n : Nat) (hu : Tryd.prog.underlying t = some (.array n 5)) (hc : Tryd.prog.cellsOf t = n) (l : List Nat) (hl : l.length = n) (hm : ∀ x ∈ l, x < 256) : Tryd.prog.keyLits 3 t (u8s l) = some (litsB l) := by
  unfold Program.keyLits
  simp only [hu]
  rw [if_pos (by rw [hc, u8s_length, hl])]
  rw [mapM_allS (g := fun i => [Lit.int .u8 ((l.getD i 0 : Nat) : Int)]) _ (fun i hi => by
    have hi' : i < l.length := by rw [hl]; exact List.mem_range.1 hi
    rw [cellsU8h, Nat.mul_one, List.drop_eq_getElem_cons (by rw [u8s_length]; exact hi'), List.take_succ_cons, List.take_zero]
    have e : (u8s l)[i]'(by rw [u8s_length]; exact hi') = .int .u8 ((l.getD i 0 : Nat) : Int) := by simp [u8s, List.getD_eq_getElem?_getD, hi']
    rw [e]
    exact key_u8 _ (getD_lt hm i (by decide)))]
  rw [Option.map_some]
  refine congrArg some ?_
  have e : ∀ is : List Nat, (is.map fun i => [Lit.int .u8 ((l.getD i 0 : Nat) : Int)]).flatten = is.map fun i => Lit.int .u8 ((l.getD i 0 : Nat) : Int) := by
    intro is
    induction is with
    | nil => rfl
    | cons a is ih => rw [List.map_cons, List.flatten_cons, ih]; rfl
  rw [e]
  unfold litsB
  conv => rhs; rw [← list_eta l n hl]
  rw [List.map_map]
  rfl
def litsS (s : Sc) : List Lit := litsB s.key ++ (litsB s.iv ++ (litsB s.next ++ [.bool s.phase]))
theorem keyB3 (b : Bool) : Tryd.prog.keyLits 3 4 [.bool b] = some [.bool b] := by
  simp [Program.keyLits, Tryd.underlying4]
theorem keySc_lits {s : Sc} (o : s.Ok) : Tryd.prog.keyLits 4 36 (cellsS s) = some (litsS s) := by
  have h1 := key_arr 33 16 Tryd.underlying33 cells16 s.key o.keyL o.keyB
  have h2 := key_arr 34 12 Tryd.underlying34 cells12 s.iv o.ivL o.ivB
  have h3 := key_arr 26 32 Tryd.underlying26 cells32 s.next o.nextL o.nextB
  have h4 := keyB3 s.phase
  have l1 : (u8s s.key).length = 16 := by rw [u8s_length]; exact o.keyL
  have l2 : (u8s s.iv).length = 12 := by rw [u8s_length]; exact o.ivL
  have l3 : (u8s s.next).length = 32 := by rw [u8s_length]; exact o.nextL
  unfold Program.keyLits
  simp only [Tryd.underlying36]
  rw [if_pos ⟨by rw [cellsOfSc]; exact cellsS_len o, by decide +kernel⟩]
  have a1 : (cellsS s).take 16 = u8s s.key := by unfold cellsS; rw [List.take_append_of_le_length (by omega), List.take_of_length_le (by omega)]
  have d1 : (cellsS s).drop 16 = u8s s.iv ++ (u8s s.next ++ [.bool s.phase]) := by unfold cellsS; rw [← l1, List.drop_left]
  have a2 : ((cellsS s).drop 16).take 12 = u8s s.iv := by rw [d1, List.take_append_of_le_length (by omega), List.take_of_length_le (by omega)]
  have d2 : (cellsS s).drop 28 = u8s s.next ++ [.bool s.phase] := by rw [show 28 = 16 + 12 from rfl, ← List.drop_drop, d1, ← l2, List.drop_left]
  have a3 : ((cellsS s).drop 28).take 32 = u8s s.next := by rw [d2, List.take_append_of_le_length (by omega), List.take_of_length_le (by omega)]
  have a4 : ((cellsS s).drop 60).take 1 = [.bool s.phase] := by rw [show 60 = 28 + 32 from rfl, ← List.drop_drop, d2, ← l3, List.drop_left]; rfl
  simp [a1, a2, a3, a4, h1, h2, h3, h4, cells16, cells12, cells32, cellsBl, litsS]

theorem sc_refl {s : Sc} (o : s.Ok) (w : World) : (Op.equalIn 10000 36 (aggS s) (aggS s)).run Tryd.prog w = .ok true w := by
  have hf : (aggS s).formed Tryd.prog 36 = true := by
    simp only [aggS, Value.formed]
    simp [Tryd.underlying36, cellsOfSc, cellsS_len o]
  obtain ⟨r, h1, h2⟩ := run_equalIn_deep (P := Tryd.prog) 9996 4 36 keySc w 4 4 (aggS s) (aggS s) (litsS s) (litsS s) hf hf (keySc_lits o) (keySc_lits o)
  rw [show (10000 : Nat) = 9996 + 4 from rfl, h1]
  have : r = true := h2.2 rfl
  rw [this]
end Go.Proofs.YtfpflhcabjcamaaDoor
