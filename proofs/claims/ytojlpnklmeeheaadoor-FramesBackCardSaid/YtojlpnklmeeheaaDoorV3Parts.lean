/- Layer 3 (frames): a frame's parts, as values: three functions each, some over a box of their own. -/
import Derived.Test.YtojlpnklmeeheaaDoorV3Fr
namespace Go.Proofs.YtojlpnklmeeheaaDoor
open Go.RowKit

/-- A part of a frame. -/
inductive Part where
  | id | amount | code | counted | shortly | challenge | allLeft | token | zeros | acked | dropped
  deriving DecidableEq

/-- A function as a value; one over a box. -/
def fnv (n : Nat) : Value := .func (.func n) #[] #[]
def clo (n g : Nat) : Value := .func (.func n) #[] #[.pointer (some ⟨g, 0, none⟩)]

/-- An integer's place. -/
def placeFn : Part → Nat
  | .id => 70
  | .amount => 72
  | _ => 71
/-- What is put ahead of bytes; how many bytes a reader tells. -/
def aheadFn : Part → Nat
  | .counted => 74
  | .shortly => 76
  | _ => 83
def toldFn : Part → Nat
  | .counted => 61
  | .shortly => 77
  | .challenge => 84
  | _ => 101

def IntPart (w : World) (T : Nat → Prop) (p : Part) (cs : List Value) : Prop :=
  ∃ g, T g ∧ Row w g 80 [fnv (placeFn p)] ∧ cs = [clo 95 g, clo 96 g, clo 97 g]
def DataPart (w : World) (T : Nat → Prop) (p : Part) (cs : List Value) : Prop :=
  ∃ g h, T g ∧ T h ∧ Row w g 82 [fnv (aheadFn p)] ∧ Row w h 83 [fnv (toldFn p)] ∧ cs = [clo 98 g, clo 99 h, fnv 100]

/-- These cells are that part. -/
def PartIs (w : World) (T : Nat → Prop) (p : Part) (cs : List Value) : Prop :=
  match p with
  | .id | .amount | .code => IntPart w T p cs
  | .counted | .shortly | .challenge | .allLeft => DataPart w T p cs
  | .token => cs = [fnv 79, fnv 80, fnv 82]
  | .zeros => cs = [fnv 64, fnv 65, fnv 66]
  | .acked => cs = [fnv 89, fnv 90, fnv 91]
  | .dropped => cs = [fnv 92, fnv 93, fnv 94]

theorem PartIs.chg {w w' : World} {T S : Nat → Prop} {p : Part} {cs : List Value} (h : PartIs w T p cs) (hc : Chg S w w') (hs : ∀ b, T b → ¬ S b) : PartIs w' T p cs := by
  have h1 : ∀ p, IntPart w T p cs → IntPart w' T p cs := fun p ⟨g, a, b, c⟩ => ⟨g, a, b.chg hc (hs g a), c⟩
  have h2 : ∀ p, DataPart w T p cs → DataPart w' T p cs := fun p ⟨g, k, a, b, c, d, e⟩ => ⟨g, k, a, b, c.chg hc (hs g a), d.chg hc (hs k b), e⟩
  cases p <;> first | exact h1 _ h | exact h2 _ h | exact h
theorem PartIs.mono {w : World} {T T' : Nat → Prop} {p : Part} {cs : List Value} (h : PartIs w T p cs) (hs : ∀ b, b < w.heap.size → T b → T' b) : PartIs w T' p cs := by
  have h1 : ∀ p, IntPart w T p cs → IntPart w T' p cs := fun p ⟨g, a, b, c⟩ => ⟨g, hs g b.lt a, b, c⟩
  have h2 : ∀ p, DataPart w T p cs → DataPart w T' p cs := fun p ⟨g, k, a, b, c, d, e⟩ => ⟨g, k, hs g c.lt a, hs k d.lt b, c, d, e⟩
  cases p <;> first | exact h1 _ h | exact h2 _ h | exact h

theorem size59 : (Tryd.prog.info? 57).map (·.size) = some 3 := by kernel_rfl

theorem integer_any (p : Part) (w : World) : Calls Tryd.prog 69 #[fnv (placeFn p)] w fun e w' => ∃ cs, e = .returned (.agg cs.toArray) ∧ IntPart w' (fun b => w.heap.size ≤ b) p cs ∧ Chg none_ w w' := by
  unfold IntPart fnv clo
  generalize placeFn p = n
  have hst := fun (w : World) (a : Addr) (fn : Fn) (x y : Array Value) => run_store Tryd.prog w a (.func fn x y) .plain rfl
  go_enter Tryd.func69, Tryd.ntmps69
  go_wp2
  refine ret_row (cs := [_, _, _]) rfl rfl (Row.new2 _ _ _ _) Tryd.underlying57 rfl size59 rfl ?_
  exact ⟨_, rfl, ⟨w.heap.size, Nat.le_refl _, Row.new1 _ _ _ _, rfl⟩, ((Chg.refl _ _).alloc _).alloc _⟩

set_option maxRecDepth 100000 in
theorem data_any (p : Part) (w : World) : Calls Tryd.prog 73 #[fnv (aheadFn p), fnv (toldFn p)] w fun e w' => ∃ cs, e = .returned (.agg cs.toArray) ∧ DataPart w' (fun b => w.heap.size ≤ b) p cs ∧ Chg none_ w w' := by
  unfold DataPart fnv clo
  generalize aheadFn p = n
  generalize toldFn p = m
  have hst := fun (w : World) (a : Addr) (fn : Fn) (x y : Array Value) => run_store Tryd.prog w a (.func fn x y) .plain rfl
  go_enter Tryd.func73, Tryd.ntmps73
  go_wp2
  have hr3 : Row (((w.alloc (.cells #[.func (.func n) #[] #[]] 82)).alloc (.cells #[.func (.func m) #[] #[]] 83)).alloc (.cells [clo 98 w.heap.size, clo 99 (w.heap.size + 1), fnv 100].toArray 57)) (w.heap.size + 2) 57 [clo 98 w.heap.size, clo 99 (w.heap.size + 1), fnv 100] := by
    have := Row.new2 (w.alloc (.cells #[.func (.func n) #[] #[]] 82)) (.cells #[.func (.func m) #[] #[]] 83) 57 [clo 98 w.heap.size, clo 99 (w.heap.size + 1), fnv 100]
    simpa using this
  refine ret_row rfl rfl hr3 Tryd.underlying57 rfl size59 rfl ?_
  refine ⟨_, rfl, ⟨w.heap.size, w.heap.size + 1, Nat.le_refl _, Nat.le_succ _, (Row.new1 _ _ _ [_]).alloc _, (Row.new2 _ _ _ [_]).alloc _, rfl⟩, (((Chg.refl _ _).alloc _).alloc _).alloc _⟩

/-- The function that makes a part. -/
def makerFn : Part → Nat
  | .id => 40
  | .amount => 42
  | .code => 41
  | .counted => 43
  | .shortly => 49
  | .challenge => 52
  | .allLeft => 75
  | .token => 50
  | .zeros => 35
  | .acked => 67
  | .dropped => 68

theorem maker_id (w : World) : Calls Tryd.prog 40 #[] w fun e w' => ∃ cs, e = .returned (.agg cs.toArray) ∧ PartIs w' (fun b => w.heap.size ≤ b) .id cs ∧ Chg none_ w w' := by
  have H := Lib.hid (integer_any .id (w.alloc (.cells [Value.nilFunc, Value.nilFunc, Value.nilFunc].toArray 57)))
  go_enter Tryd.func40, Tryd.ntmps40
  go_wp2_with fail
  refine H.out.mono ?_
  rintro e w1 ⟨cs, rfl, hp, hc⟩
  obtain ⟨g, hg, hr, rfl⟩ := hp
  have hR := (Row.new w 57 [Value.nilFunc, Value.nilFunc, Value.nilFunc]).chg hc (fun h => h)
  have hC := ((Chg.refl none_ w).alloc (.cells [Value.nilFunc, Value.nilFunc, Value.nilFunc].toArray 57)).trans hc
  simp at hg
  have hG := Lib.hid hg
  have HR := Lib.hid hR
  have HC := Lib.hid hC
  have HW := Lib.hid hr
  clear hR hC hc hr hg
  go_wp2_with ((with_reducible show wpList _ _ _ (⟨_, .store 57 _ _, _, _, _, _⟩ :: _) _ _); refine wpList_store_Row rfl rfl rfl HR.out rfl rfl size59 rfl ?_; intro w2 hr2 hch2 hs2)
  refine ret_row rfl rfl hr2 Tryd.underlying57 rfl size59 rfl ?_
  refine ⟨_, rfl, ⟨g, by have := hG.out; omega, HW.out.chg (hch2 (· = w.heap.size) _ (Chg.refl _ _) (fun _ => rfl)) (fun h => by have := hG.out; omega), rfl⟩, hch2 none_ w HC.out (fun h => absurd h (by omega))⟩

theorem maker_amount (w : World) : Calls Tryd.prog 42 #[] w fun e w' => ∃ cs, e = .returned (.agg cs.toArray) ∧ PartIs w' (fun b => w.heap.size ≤ b) .amount cs ∧ Chg none_ w w' := by
  have H := Lib.hid (integer_any .amount (w.alloc (.cells [Value.nilFunc, Value.nilFunc, Value.nilFunc].toArray 57)))
  go_enter Tryd.func42, Tryd.ntmps42
  go_wp2_with fail
  refine H.out.mono ?_
  rintro e w1 ⟨cs, rfl, hp, hc⟩
  obtain ⟨g, hg, hr, rfl⟩ := hp
  have hR := (Row.new w 57 [Value.nilFunc, Value.nilFunc, Value.nilFunc]).chg hc (fun h => h)
  have hC := ((Chg.refl none_ w).alloc (.cells [Value.nilFunc, Value.nilFunc, Value.nilFunc].toArray 57)).trans hc
  simp at hg
  have hG := Lib.hid hg
  have HR := Lib.hid hR
  have HC := Lib.hid hC
  have HW := Lib.hid hr
  clear hR hC hc hr hg
  go_wp2_with ((with_reducible show wpList _ _ _ (⟨_, .store 57 _ _, _, _, _, _⟩ :: _) _ _); refine wpList_store_Row rfl rfl rfl HR.out rfl rfl size59 rfl ?_; intro w2 hr2 hch2 hs2)
  refine ret_row rfl rfl hr2 Tryd.underlying57 rfl size59 rfl ?_
  refine ⟨_, rfl, ⟨g, by have := hG.out; omega, HW.out.chg (hch2 (· = w.heap.size) _ (Chg.refl _ _) (fun _ => rfl)) (fun h => by have := hG.out; omega), rfl⟩, hch2 none_ w HC.out (fun h => absurd h (by omega))⟩

theorem maker_code (w : World) : Calls Tryd.prog 41 #[] w fun e w' => ∃ cs, e = .returned (.agg cs.toArray) ∧ PartIs w' (fun b => w.heap.size ≤ b) .code cs ∧ Chg none_ w w' := by
  have H := Lib.hid (integer_any .code (w.alloc (.cells [Value.nilFunc, Value.nilFunc, Value.nilFunc].toArray 57)))
  go_enter Tryd.func41, Tryd.ntmps41
  go_wp2_with fail
  refine H.out.mono ?_
  rintro e w1 ⟨cs, rfl, hp, hc⟩
  obtain ⟨g, hg, hr, rfl⟩ := hp
  have hR := (Row.new w 57 [Value.nilFunc, Value.nilFunc, Value.nilFunc]).chg hc (fun h => h)
  have hC := ((Chg.refl none_ w).alloc (.cells [Value.nilFunc, Value.nilFunc, Value.nilFunc].toArray 57)).trans hc
  simp at hg
  have hG := Lib.hid hg
  have HR := Lib.hid hR
  have HC := Lib.hid hC
  have HW := Lib.hid hr
  clear hR hC hc hr hg
  go_wp2_with ((with_reducible show wpList _ _ _ (⟨_, .store 57 _ _, _, _, _, _⟩ :: _) _ _); refine wpList_store_Row rfl rfl rfl HR.out rfl rfl size59 rfl ?_; intro w2 hr2 hch2 hs2)
  refine ret_row rfl rfl hr2 Tryd.underlying57 rfl size59 rfl ?_
  refine ⟨_, rfl, ⟨g, by have := hG.out; omega, HW.out.chg (hch2 (· = w.heap.size) _ (Chg.refl _ _) (fun _ => rfl)) (fun h => by have := hG.out; omega), rfl⟩, hch2 none_ w HC.out (fun h => absurd h (by omega))⟩

theorem maker_counted (w : World) : Calls Tryd.prog 43 #[] w fun e w' => ∃ cs, e = .returned (.agg cs.toArray) ∧ PartIs w' (fun b => w.heap.size ≤ b) .counted cs ∧ Chg none_ w w' := by
  have H := Lib.hid (data_any .counted (w.alloc (.cells [Value.nilFunc, Value.nilFunc, Value.nilFunc].toArray 57)))
  go_enter Tryd.func43, Tryd.ntmps43
  go_wp2_with fail
  refine H.out.mono ?_
  rintro e w1 ⟨cs, rfl, hp, hc⟩
  obtain ⟨g, k, hg, hk, hr, hrk, rfl⟩ := hp
  have hR := (Row.new w 57 [Value.nilFunc, Value.nilFunc, Value.nilFunc]).chg hc (fun h => h)
  have hC := ((Chg.refl none_ w).alloc (.cells [Value.nilFunc, Value.nilFunc, Value.nilFunc].toArray 57)).trans hc
  simp at hg hk
  have hG := Lib.hid hg
  have hK := Lib.hid hk
  have HR := Lib.hid hR
  have HC := Lib.hid hC
  have HW := Lib.hid hr
  have HV := Lib.hid hrk
  clear hR hC hc hr hg hk hrk
  go_wp2_with ((with_reducible show wpList _ _ _ (⟨_, .store 57 _ _, _, _, _, _⟩ :: _) _ _); refine wpList_store_Row rfl rfl rfl HR.out rfl rfl size59 rfl ?_; intro w2 hr2 hch2 hs2)
  refine ret_row rfl rfl hr2 Tryd.underlying57 rfl size59 rfl ?_
  refine ⟨_, rfl, ⟨g, k, by have := hG.out; omega, by have := hK.out; omega, HW.out.chg (hch2 (· = w.heap.size) _ (Chg.refl _ _) (fun _ => rfl)) (fun h => by have := hG.out; omega), HV.out.chg (hch2 (· = w.heap.size) _ (Chg.refl _ _) (fun _ => rfl)) (fun h => by have := hK.out; omega), rfl⟩, hch2 none_ w HC.out (fun h => absurd h (by omega))⟩

theorem maker_shortly (w : World) : Calls Tryd.prog 49 #[] w fun e w' => ∃ cs, e = .returned (.agg cs.toArray) ∧ PartIs w' (fun b => w.heap.size ≤ b) .shortly cs ∧ Chg none_ w w' := by
  have H := Lib.hid (data_any .shortly (w.alloc (.cells [Value.nilFunc, Value.nilFunc, Value.nilFunc].toArray 57)))
  go_enter Tryd.func49, Tryd.ntmps49
  go_wp2_with fail
  refine H.out.mono ?_
  rintro e w1 ⟨cs, rfl, hp, hc⟩
  obtain ⟨g, k, hg, hk, hr, hrk, rfl⟩ := hp
  have hR := (Row.new w 57 [Value.nilFunc, Value.nilFunc, Value.nilFunc]).chg hc (fun h => h)
  have hC := ((Chg.refl none_ w).alloc (.cells [Value.nilFunc, Value.nilFunc, Value.nilFunc].toArray 57)).trans hc
  simp at hg hk
  have hG := Lib.hid hg
  have hK := Lib.hid hk
  have HR := Lib.hid hR
  have HC := Lib.hid hC
  have HW := Lib.hid hr
  have HV := Lib.hid hrk
  clear hR hC hc hr hg hk hrk
  go_wp2_with ((with_reducible show wpList _ _ _ (⟨_, .store 57 _ _, _, _, _, _⟩ :: _) _ _); refine wpList_store_Row rfl rfl rfl HR.out rfl rfl size59 rfl ?_; intro w2 hr2 hch2 hs2)
  refine ret_row rfl rfl hr2 Tryd.underlying57 rfl size59 rfl ?_
  refine ⟨_, rfl, ⟨g, k, by have := hG.out; omega, by have := hK.out; omega, HW.out.chg (hch2 (· = w.heap.size) _ (Chg.refl _ _) (fun _ => rfl)) (fun h => by have := hG.out; omega), HV.out.chg (hch2 (· = w.heap.size) _ (Chg.refl _ _) (fun _ => rfl)) (fun h => by have := hK.out; omega), rfl⟩, hch2 none_ w HC.out (fun h => absurd h (by omega))⟩

theorem maker_challenge (w : World) : Calls Tryd.prog 52 #[] w fun e w' => ∃ cs, e = .returned (.agg cs.toArray) ∧ PartIs w' (fun b => w.heap.size ≤ b) .challenge cs ∧ Chg none_ w w' := by
  have H := Lib.hid (data_any .challenge (w.alloc (.cells [Value.nilFunc, Value.nilFunc, Value.nilFunc].toArray 57)))
  go_enter Tryd.func52, Tryd.ntmps52
  go_wp2_with fail
  refine H.out.mono ?_
  rintro e w1 ⟨cs, rfl, hp, hc⟩
  obtain ⟨g, k, hg, hk, hr, hrk, rfl⟩ := hp
  have hR := (Row.new w 57 [Value.nilFunc, Value.nilFunc, Value.nilFunc]).chg hc (fun h => h)
  have hC := ((Chg.refl none_ w).alloc (.cells [Value.nilFunc, Value.nilFunc, Value.nilFunc].toArray 57)).trans hc
  simp at hg hk
  have hG := Lib.hid hg
  have hK := Lib.hid hk
  have HR := Lib.hid hR
  have HC := Lib.hid hC
  have HW := Lib.hid hr
  have HV := Lib.hid hrk
  clear hR hC hc hr hg hk hrk
  go_wp2_with ((with_reducible show wpList _ _ _ (⟨_, .store 57 _ _, _, _, _, _⟩ :: _) _ _); refine wpList_store_Row rfl rfl rfl HR.out rfl rfl size59 rfl ?_; intro w2 hr2 hch2 hs2)
  refine ret_row rfl rfl hr2 Tryd.underlying57 rfl size59 rfl ?_
  refine ⟨_, rfl, ⟨g, k, by have := hG.out; omega, by have := hK.out; omega, HW.out.chg (hch2 (· = w.heap.size) _ (Chg.refl _ _) (fun _ => rfl)) (fun h => by have := hG.out; omega), HV.out.chg (hch2 (· = w.heap.size) _ (Chg.refl _ _) (fun _ => rfl)) (fun h => by have := hK.out; omega), rfl⟩, hch2 none_ w HC.out (fun h => absurd h (by omega))⟩

theorem maker_allLeft (w : World) : Calls Tryd.prog 75 #[] w fun e w' => ∃ cs, e = .returned (.agg cs.toArray) ∧ PartIs w' (fun b => w.heap.size ≤ b) .allLeft cs ∧ Chg none_ w w' := by
  have H := Lib.hid (data_any .allLeft (w.alloc (.cells [Value.nilFunc, Value.nilFunc, Value.nilFunc].toArray 57)))
  go_enter Tryd.func75, Tryd.ntmps75
  go_wp2_with fail
  refine H.out.mono ?_
  rintro e w1 ⟨cs, rfl, hp, hc⟩
  obtain ⟨g, k, hg, hk, hr, hrk, rfl⟩ := hp
  have hR := (Row.new w 57 [Value.nilFunc, Value.nilFunc, Value.nilFunc]).chg hc (fun h => h)
  have hC := ((Chg.refl none_ w).alloc (.cells [Value.nilFunc, Value.nilFunc, Value.nilFunc].toArray 57)).trans hc
  simp at hg hk
  have hG := Lib.hid hg
  have hK := Lib.hid hk
  have HR := Lib.hid hR
  have HC := Lib.hid hC
  have HW := Lib.hid hr
  have HV := Lib.hid hrk
  clear hR hC hc hr hg hk hrk
  go_wp2_with ((with_reducible show wpList _ _ _ (⟨_, .store 57 _ _, _, _, _, _⟩ :: _) _ _); refine wpList_store_Row rfl rfl rfl HR.out rfl rfl size59 rfl ?_; intro w2 hr2 hch2 hs2)
  refine ret_row rfl rfl hr2 Tryd.underlying57 rfl size59 rfl ?_
  refine ⟨_, rfl, ⟨g, k, by have := hG.out; omega, by have := hK.out; omega, HW.out.chg (hch2 (· = w.heap.size) _ (Chg.refl _ _) (fun _ => rfl)) (fun h => by have := hG.out; omega), HV.out.chg (hch2 (· = w.heap.size) _ (Chg.refl _ _) (fun _ => rfl)) (fun h => by have := hK.out; omega), rfl⟩, hch2 none_ w HC.out (fun h => absurd h (by omega))⟩

theorem maker_token (w : World) : Calls Tryd.prog 50 #[] w fun e w' => ∃ cs, e = .returned (.agg cs.toArray) ∧ PartIs w' (fun b => w.heap.size ≤ b) .token cs ∧ Chg none_ w w' := by
  have hst := fun (w : World) (a : Addr) (fn : Fn) (x y : Array Value) => run_store Tryd.prog w a (.func fn x y) .plain rfl
  go_enter Tryd.func50, Tryd.ntmps50
  go_wp2
  refine ret_row (cs := [_, _, _]) rfl rfl (Row.new _ _ _) Tryd.underlying57 rfl size59 rfl ?_
  exact ⟨_, rfl, rfl, (Chg.refl _ _).alloc _⟩

theorem maker_zeros (w : World) : Calls Tryd.prog 35 #[] w fun e w' => ∃ cs, e = .returned (.agg cs.toArray) ∧ PartIs w' (fun b => w.heap.size ≤ b) .zeros cs ∧ Chg none_ w w' := by
  have hst := fun (w : World) (a : Addr) (fn : Fn) (x y : Array Value) => run_store Tryd.prog w a (.func fn x y) .plain rfl
  go_enter Tryd.func35, Tryd.ntmps35
  go_wp2
  refine ret_row (cs := [_, _, _]) rfl rfl (Row.new _ _ _) Tryd.underlying57 rfl size59 rfl ?_
  exact ⟨_, rfl, rfl, (Chg.refl _ _).alloc _⟩

theorem maker_acked (w : World) : Calls Tryd.prog 67 #[] w fun e w' => ∃ cs, e = .returned (.agg cs.toArray) ∧ PartIs w' (fun b => w.heap.size ≤ b) .acked cs ∧ Chg none_ w w' := by
  have hst := fun (w : World) (a : Addr) (fn : Fn) (x y : Array Value) => run_store Tryd.prog w a (.func fn x y) .plain rfl
  go_enter Tryd.func67, Tryd.ntmps67
  go_wp2
  refine ret_row (cs := [_, _, _]) rfl rfl (Row.new _ _ _) Tryd.underlying57 rfl size59 rfl ?_
  exact ⟨_, rfl, rfl, (Chg.refl _ _).alloc _⟩

theorem maker_dropped (w : World) : Calls Tryd.prog 68 #[] w fun e w' => ∃ cs, e = .returned (.agg cs.toArray) ∧ PartIs w' (fun b => w.heap.size ≤ b) .dropped cs ∧ Chg none_ w w' := by
  have hst := fun (w : World) (a : Addr) (fn : Fn) (x y : Array Value) => run_store Tryd.prog w a (.func fn x y) .plain rfl
  go_enter Tryd.func68, Tryd.ntmps68
  go_wp2
  refine ret_row (cs := [_, _, _]) rfl rfl (Row.new _ _ _) Tryd.underlying57 rfl size59 rfl ?_
  exact ⟨_, rfl, rfl, (Chg.refl _ _).alloc _⟩

/-- Each part is made by its maker. -/
theorem maker_any (p : Part) (w : World) : Calls Tryd.prog (makerFn p) #[] w fun e w' => ∃ cs, e = .returned (.agg cs.toArray) ∧ PartIs w' (fun b => w.heap.size ≤ b) p cs ∧ Chg none_ w w' := by
  cases p
  · exact maker_id w
  · exact maker_amount w
  · exact maker_code w
  · exact maker_counted w
  · exact maker_shortly w
  · exact maker_challenge w
  · exact maker_allLeft w
  · exact maker_token w
  · exact maker_zeros w
  · exact maker_acked w
  · exact maker_dropped w
end Go.Proofs.YtojlpnklmeeheaaDoor
