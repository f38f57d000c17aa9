/- Layer 6 (hframe): the map of all kinds; a kind looked up. -/
import Derived.Test.YtcdnjeojgjakdaaDoorV6Hf
import Derived.Test.YtcdnjeojgjakdaaDoorMap
namespace Go.Proofs.YtcdnjeojgjakdaaDoor
open Go.RowKit

/-- A function's value. -/
def fnv (n : Nat) : Value := .func (.func n) #[] #[]
def hasFn : KK → Nat
  | .data => 44
  | .id => 47
  | .sets => 50
def putFn : KK → Nat
  | .data => 45
  | .id => 48
  | .sets => 51
def takeFn : KK → Nat
  | .data => 46
  | .id => 49
  | .sets => 52
def kcells (k : KK) : List Value := [fnv (hasFn k), fnv (putFn k), fnv (takeFn k)]
def kzero : List Value := [.nilFunc, .nilFunc, .nilFunc]
theorem has_call (k : KK) : ∀ args w, (callFunc (hasFn k) args).run Tryd.prog w = .ok (.enter (hasFn k) args) w := by
  intro args w
  cases k <;> first | exact Tryd.call44 args w | exact Tryd.call47 args w | exact Tryd.call50 args w
theorem put_call (k : KK) : ∀ args w, (callFunc (putFn k) args).run Tryd.prog w = .ok (.enter (putFn k) args) w := by
  intro args w
  cases k <;> first | exact Tryd.call45 args w | exact Tryd.call48 args w | exact Tryd.call51 args w
theorem take_call (k : KK) : ∀ args w, (callFunc (takeFn k) args).run Tryd.prog w = .ok (.enter (takeFn k) args) w := by
  intro args w
  cases k <;> first | exact Tryd.call46 args w | exact Tryd.call49 args w | exact Tryd.call52 args w

def kkE (l : List (Nat × KK)) : List (Nat × Value) := l.map fun x => (x.1, .agg (kcells x.2).toArray)
/-- Block g is the map of all kinds. -/
def KindsAt (w : World) (g : Nat) : Prop := MapOf w g (kkE kkL)
theorem look_kkE (k : Nat) : ∀ l : List (Nat × KK), look (kkE l) k = ((l.find? fun x => x.1 == k).map (·.2)).map fun d => .agg (kcells d).toArray
  | [] => rfl
  | x :: l => by
    have ih := look_kkE k l
    unfold look kkE at *
    rw [List.map_cons, List.find?_cons, List.find?_cons]
    by_cases h : (x.1 == k) = true
    · simp only [h]; rfl
    · simp only [h]; exact ih

theorem sizeK : (Tryd.prog.info? 55).map (·.size) = some 3 := by kernel_rfl
theorem kcells_one (k : KK) : (kcells k).all (·.oneCell') = true := rfl
theorem len3 : ∀ {l : List Value}, l.length = 3 → ∃ x y z, l = [x, y, z]
  | [x, y, z], _ => ⟨x, y, z, rfl⟩

set_option maxRecDepth 100000 in
/-- A kind is looked up. -/
theorem look_kind {w : World} {g : Nat} (h : KindsAt w g) (k : Nat) :
    ∃ kc : List Value, (Instr.lookup 57 (.map (some g)) (.int .u64 k) true).run Tryd.prog w = .ok (.tuple #[.agg kc.toArray, .bool (kkM k).isSome]) w ∧ kc.length = 3 ∧ kc.all (·.oneCell') = true ∧ ∀ d, kkM k = some d → kc = kcells d := by
  have hz : (zeroValue 55).run Tryd.prog w = .ok (.agg kzero.toArray) w := by rfl
  have hr := run_lookup_ok (P := Tryd.prog) Tryd.underlying57 Tryd.underlying22 h k hz
  have hl : look (kkE kkL) k = (kkM k).map fun d => .agg (kcells d).toArray := look_kkE k kkL
  rw [hl] at hr
  cases hk : kkM k with
  | none =>
    rw [hk] at hr
    exact ⟨kzero, hr, rfl, rfl, fun d hd => by cases hd⟩
  | some d =>
    rw [hk] at hr
    exact ⟨kcells d, hr, rfl, rfl, fun d' hd => by injection hd with hd; rw [hd]⟩

set_option maxRecDepth 100000 in
set_option maxHeartbeats 2000000 in
theorem kinds_any (w : World) : Calls Tryd.prog 26 #[] w fun e w' => ∃ g, e = .returned (.map (some g)) ∧ KindsAt w' g ∧ Chg none_ w w' := by
  have hmm := @run_makeMap Tryd.prog
  go_enter Tryd.func26, Tryd.ntmps26
  go_wp2_with (first | ((with_reducible show wpList _ _ _ (⟨_, .store 55 (.tmp 1) _, _, _, _, _⟩ :: _) _ _); refine wpList_store_Row (xs := kcells .data) rfl rfl rfl (Row.new w 55 kzero) rfl rfl sizeK (kcells_one _) ?_; intro w1 hr1 hch1 hs1; have HC1 := Lib.hid (hch1 none_ w ((Chg.refl none_ w).alloc _) (fun h => absurd h (by omega))); have HR1 := Lib.hid hr1; clear hch1 hs1 hr1) | ((with_reducible show wpList _ _ _ (⟨_, .store 55 (.tmp 2) _, _, _, _, _⟩ :: _) _ _); refine wpList_store_Row (xs := kcells .id) rfl rfl rfl (Row.new w1 55 kzero) rfl rfl sizeK (kcells_one _) ?_; intro w2 hr2 hch2 hs2; have HC2 := Lib.hid (hch2 none_ w1 ((Chg.refl none_ w1).alloc _) (fun h => absurd h (by omega))); have HR2 := Lib.hid hr2; clear hch2 hs2 hr2; have HX1 := Lib.hid (fun w' (hc : Chg none_ w2 w') => (HR1.out.chg HC2.out (fun h => h)).chg hc (fun h => h)); have HX2 := Lib.hid (fun w' (hc : Chg none_ w2 w') => HR2.out.chg hc (fun h => h)); have M0 := Lib.hid (MapOf.made w2); have d0 := (Chg.refl none_ w2).alloc (.map #[] 0)) | ((with_reducible show wpList _ _ _ (⟨some 6, .load 55 (.tmp 1), _, _, _, _⟩ :: _) _ _); refine wpList_load_Row rfl rfl rfl (HX1.out _ (by assumption)) Tryd.underlying55 rfl sizeK ?_) | ((with_reducible show wpList _ _ _ (⟨some 7, .load 55 (.tmp 1), _, _, _, _⟩ :: _) _ _); refine wpList_load_Row rfl rfl rfl (HX1.out _ (by assumption)) Tryd.underlying55 rfl sizeK ?_) | ((with_reducible show wpList _ _ _ (⟨some 8, .load 55 (.tmp 2), _, _, _, _⟩ :: _) _ _); refine wpList_load_Row rfl rfl rfl (HX2.out _ (by assumption)) Tryd.underlying55 rfl sizeK ?_) | ((with_reducible show wpList _ _ _ (⟨some 10, .load 55 (.tmp 2), _, _, _, _⟩ :: _) _ _); refine wpList_load_Row rfl rfl rfl (HX2.out _ (by assumption)) Tryd.underlying55 rfl sizeK ?_) | ((with_reducible show wpList _ _ _ (⟨some 11, .load 55 (.tmp 2), _, _, _, _⟩ :: _) _ _); refine wpList_load_Row rfl rfl rfl (HX2.out _ (by assumption)) Tryd.underlying55 rfl sizeK ?_) | ((with_reducible show wpList _ _ _ (⟨_, .insert _ _ (.const (.int .u64 0)) _, _, _, _, _⟩ :: _) _ _); (refine wpList_insert (k := 0) rfl rfl rfl rfl rfl Tryd.underlying57 Tryd.underlying22 M0.out (by rfl) ?_; intro m1 hm hc; have M1 := Lib.hid hm; have d1 := d0.andThen hc (fun b hb h => by have : b = w2.heap.size := h; omega); clear hm hc d0)) | ((with_reducible show wpList _ _ _ (⟨_, .insert _ _ (.const (.int .u64 1)) _, _, _, _, _⟩ :: _) _ _); (refine wpList_insert (k := 1) rfl rfl rfl rfl rfl Tryd.underlying57 Tryd.underlying22 M1.out (by rfl) ?_; intro m2 hm hc; have M2 := Lib.hid hm; have d2 := d1.andThen hc (fun b hb h => by have : b = w2.heap.size := h; omega); clear hm hc d1)) | ((with_reducible show wpList _ _ _ (⟨_, .insert _ _ (.const (.int .u64 3)) _, _, _, _, _⟩ :: _) _ _); (refine wpList_insert (k := 3) rfl rfl rfl rfl rfl Tryd.underlying57 Tryd.underlying22 M2.out (by rfl) ?_; intro m3 hm hc; have M3 := Lib.hid hm; have d3 := d2.andThen hc (fun b hb h => by have : b = w2.heap.size := h; omega); clear hm hc d2)) | ((with_reducible show wpList _ _ _ (⟨_, .insert _ _ (.const (.int .u64 4)) _, _, _, _, _⟩ :: _) _ _); (refine wpList_insert (k := 4) rfl rfl rfl rfl rfl Tryd.underlying57 Tryd.underlying22 M3.out (by rfl) ?_; intro m4 hm hc; have M4 := Lib.hid hm; have d4 := d3.andThen hc (fun b hb h => by have : b = w2.heap.size := h; omega); clear hm hc d3)) | ((with_reducible show wpList _ _ _ (⟨_, .insert _ _ (.const (.int .u64 7)) _, _, _, _, _⟩ :: _) _ _); (refine wpList_insert (k := 7) rfl rfl rfl rfl rfl Tryd.underlying57 Tryd.underlying22 M4.out (by rfl) ?_; intro m5 hm hc; have M5 := Lib.hid hm; have d5 := d4.andThen hc (fun b hb h => by have : b = w2.heap.size := h; omega); clear hm hc d4)) | ((with_reducible show wpList _ _ _ (⟨_, .insert _ _ (.const (.int .u64 13)) _, _, _, _, _⟩ :: _) _ _); (refine wpList_insert (k := 13) rfl rfl rfl rfl rfl Tryd.underlying57 Tryd.underlying22 M5.out (by rfl) ?_; intro m6 hm hc; have M6 := Lib.hid hm; have d6 := d5.andThen hc (fun b hb h => by have : b = w2.heap.size := h; omega); clear hm hc d5)))
  go_ret
  exact ⟨_, rfl, M6.out, (HC1.out.trans HC2.out).trans d6⟩
end Go.Proofs.YtcdnjeojgjakdaaDoor
