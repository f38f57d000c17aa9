/- Layer 3 (frames): a frame's parts, as values: three functions each, some over a box of their own. -/
import Derived.Test.YtlcffjmbfpdlbaaDoorV3Fr
namespace Go.Proofs.YtlcffjmbfpdlbaaDoor
open Go.RowKit

/-- A part of a frame. -/
inductive Part where
  | id | amount | code | counted | shortly | challenge | allLeft | token | zeros | acked | dropped
  deriving DecidableEq

/-- A function as a value; one over a box. -/
def fnv (n : Nat) : Value := .func (.func n) #[] #[]
def clo (n g : Nat) : Value := .func (.func n) #[] #[.pointer (some ⟨g, 0, none⟩)]

/-- An integer's place. -/
def placeFn : Part → Nat
  | .id => 65
  | .amount => 67
  | _ => 66
/-- What is put ahead of bytes; how many bytes a reader tells. -/
def aheadFn : Part → Nat
  | .counted => 69
  | .shortly => 71
  | _ => 78
def toldFn : Part → Nat
  | .counted => 56
  | .shortly => 72
  | .challenge => 79
  | _ => 96

def IntPart (w : World) (T : Nat → Prop) (p : Part) (cs : List Value) : Prop :=
  ∃ g, T g ∧ Row w g 76 [fnv (placeFn p)] ∧ cs = [clo 90 g, clo 91 g, clo 92 g]
def DataPart (w : World) (T : Nat → Prop) (p : Part) (cs : List Value) : Prop :=
  ∃ g h, T g ∧ T h ∧ Row w g 78 [fnv (aheadFn p)] ∧ Row w h 79 [fnv (toldFn p)] ∧ cs = [clo 93 g, clo 94 h, fnv 95]

/-- These cells are that part. -/
def PartIs (w : World) (T : Nat → Prop) (p : Part) (cs : List Value) : Prop :=
  match p with
  | .id | .amount | .code => IntPart w T p cs
  | .counted | .shortly | .challenge | .allLeft => DataPart w T p cs
  | .token => cs = [fnv 74, fnv 75, fnv 77]
  | .zeros => cs = [fnv 59, fnv 60, fnv 61]
  | .acked => cs = [fnv 84, fnv 85, fnv 86]
  | .dropped => cs = [fnv 87, fnv 88, fnv 89]

theorem PartIs.chg {w w' : World} {T S : Nat → Prop} {p : Part} {cs : List Value} (h : PartIs w T p cs) (hc : Chg S w w') (hs : ∀ b, T b → ¬ S b) : PartIs w' T p cs := by
  have h1 : ∀ p, IntPart w T p cs → IntPart w' T p cs := fun p ⟨g, a, b, c⟩ => ⟨g, a, b.chg hc (hs g a), c⟩
  have h2 : ∀ p, DataPart w T p cs → DataPart w' T p cs := fun p ⟨g, k, a, b, c, d, e⟩ => ⟨g, k, a, b, c.chg hc (hs g a), d.chg hc (hs k b), e⟩
  cases p <;> first | exact h1 _ h | exact h2 _ h | exact h
theorem PartIs.mono {w : World} {T T' : Nat → Prop} {p : Part} {cs : List Value} (h : PartIs w T p cs) (hs : ∀ b, b < w.heap.size → T b → T' b) : PartIs w T' p cs := by
  have h1 : ∀ p, IntPart w T p cs → IntPart w T' p cs := fun p ⟨g, a, b, c⟩ => ⟨g, hs g b.lt a, b, c⟩
  have h2 : ∀ p, DataPart w T p cs → DataPart w T' p cs := fun p ⟨g, k, a, b, c, d, e⟩ => ⟨g, k, hs g c.lt a, hs k d.lt b, c, d, e⟩
  cases p <;> first | exact h1 _ h | exact h2 _ h | exact h

theorem size59 : (Tryd.prog.info? 53).map (·.size) = some 3 := by kernel_rfl

theorem integer_any (p : Part) (w : World) : Calls Tryd.prog 64 #[fnv (placeFn p)] w fun e w' => ∃ cs, e = .returned (.agg cs.toArray) ∧ IntPart w' (fun b => w.heap.size ≤ b) p cs ∧ Chg none_ w w' := by
  unfold IntPart fnv clo
  generalize placeFn p = n
  have hst := fun (w : World) (a : Addr) (fn : Fn) (x y : Array Value) => run_store Tryd.prog w a (.func fn x y) .plain rfl
  go_enter Tryd.func64, Tryd.ntmps64
  go_wp2
  refine ret_row (cs := [_, _, _]) rfl rfl (Row.new2 _ _ _ _) Tryd.underlying53 rfl size59 rfl ?_
  exact ⟨_, rfl, ⟨w.heap.size, Nat.le_refl _, Row.new1 _ _ _ _, rfl⟩, ((Chg.refl _ _).alloc _).alloc _⟩

set_option maxRecDepth 100000 in
theorem data_any (p : Part) (w : World) : Calls Tryd.prog 68 #[fnv (aheadFn p), fnv (toldFn p)] w fun e w' => ∃ cs, e = .returned (.agg cs.toArray) ∧ DataPart w' (fun b => w.heap.size ≤ b) p cs ∧ Chg none_ w w' := by
  unfold DataPart fnv clo
  generalize aheadFn p = n
  generalize toldFn p = m
  have hst := fun (w : World) (a : Addr) (fn : Fn) (x y : Array Value) => run_store Tryd.prog w a (.func fn x y) .plain rfl
  go_enter Tryd.func68, Tryd.ntmps68
  go_wp2
  have hr3 : Row (((w.alloc (.cells #[.func (.func n) #[] #[]] 78)).alloc (.cells #[.func (.func m) #[] #[]] 79)).alloc (.cells [clo 93 w.heap.size, clo 94 (w.heap.size + 1), fnv 95].toArray 53)) (w.heap.size + 2) 53 [clo 93 w.heap.size, clo 94 (w.heap.size + 1), fnv 95] := by
    have := Row.new2 (w.alloc (.cells #[.func (.func n) #[] #[]] 78)) (.cells #[.func (.func m) #[] #[]] 79) 53 [clo 93 w.heap.size, clo 94 (w.heap.size + 1), fnv 95]
    simpa using this
  refine ret_row rfl rfl hr3 Tryd.underlying53 rfl size59 rfl ?_
  refine ⟨_, rfl, ⟨w.heap.size, w.heap.size + 1, Nat.le_refl _, Nat.le_succ _, (Row.new1 _ _ _ [_]).alloc _, (Row.new2 _ _ _ [_]).alloc _, rfl⟩, (((Chg.refl _ _).alloc _).alloc _).alloc _⟩

/-- The function that makes a part. -/
def makerFn : Part → Nat
  | .id => 35
  | .amount => 37
  | .code => 36
  | .counted => 38
  | .shortly => 44
  | .challenge => 47
  | .allLeft => 70
  | .token => 45
  | .zeros => 30
  | .acked => 62
  | .dropped => 63

theorem maker_id (w : World) : Calls Tryd.prog 35 #[] w fun e w' => ∃ cs, e = .returned (.agg cs.toArray) ∧ PartIs w' (fun b => w.heap.size ≤ b) .id cs ∧ Chg none_ w w' := by
  have H := Lib.hid (integer_any .id (w.alloc (.cells [Value.nilFunc, Value.nilFunc, Value.nilFunc].toArray 53)))
  go_enter Tryd.func35, Tryd.ntmps35
  go_wp2_with fail
  refine H.out.mono ?_
  rintro e w1 ⟨cs, rfl, hp, hc⟩
  obtain ⟨g, hg, hr, rfl⟩ := hp
  have hR := (Row.new w 53 [Value.nilFunc, Value.nilFunc, Value.nilFunc]).chg hc (fun h => h)
  have hC := ((Chg.refl none_ w).alloc (.cells [Value.nilFunc, Value.nilFunc, Value.nilFunc].toArray 53)).trans hc
  simp at hg
  have hG := Lib.hid hg
  have HR := Lib.hid hR
  have HC := Lib.hid hC
  have HW := Lib.hid hr
  clear hR hC hc hr hg
  go_wp2_with ((with_reducible show wpList _ _ _ (⟨_, .store 53 _ _, _, _, _, _⟩ :: _) _ _); refine wpList_store_Row rfl rfl rfl HR.out rfl rfl size59 rfl ?_; intro w2 hr2 hch2 hs2)
  refine ret_row rfl rfl hr2 Tryd.underlying53 rfl size59 rfl ?_
  refine ⟨_, rfl, ⟨g, by have := hG.out; omega, HW.out.chg (hch2 (· = w.heap.size) _ (Chg.refl _ _) (fun _ => rfl)) (fun h => by have := hG.out; omega), rfl⟩, hch2 none_ w HC.out (fun h => absurd h (by omega))⟩

theorem maker_amount (w : World) : Calls Tryd.prog 37 #[] w fun e w' => ∃ cs, e = .returned (.agg cs.toArray) ∧ PartIs w' (fun b => w.heap.size ≤ b) .amount cs ∧ Chg none_ w w' := by
  have H := Lib.hid (integer_any .amount (w.alloc (.cells [Value.nilFunc, Value.nilFunc, Value.nilFunc].toArray 53)))
  go_enter Tryd.func37, Tryd.ntmps37
  go_wp2_with fail
  refine H.out.mono ?_
  rintro e w1 ⟨cs, rfl, hp, hc⟩
  obtain ⟨g, hg, hr, rfl⟩ := hp
  have hR := (Row.new w 53 [Value.nilFunc, Value.nilFunc, Value.nilFunc]).chg hc (fun h => h)
  have hC := ((Chg.refl none_ w).alloc (.cells [Value.nilFunc, Value.nilFunc, Value.nilFunc].toArray 53)).trans hc
  simp at hg
  have hG := Lib.hid hg
  have HR := Lib.hid hR
  have HC := Lib.hid hC
  have HW := Lib.hid hr
  clear hR hC hc hr hg
  go_wp2_with ((with_reducible show wpList _ _ _ (⟨_, .store 53 _ _, _, _, _, _⟩ :: _) _ _); refine wpList_store_Row rfl rfl rfl HR.out rfl rfl size59 rfl ?_; intro w2 hr2 hch2 hs2)
  refine ret_row rfl rfl hr2 Tryd.underlying53 rfl size59 rfl ?_
  refine ⟨_, rfl, ⟨g, by have := hG.out; omega, HW.out.chg (hch2 (· = w.heap.size) _ (Chg.refl _ _) (fun _ => rfl)) (fun h => by have := hG.out; omega), rfl⟩, hch2 none_ w HC.out (fun h => absurd h (by omega))⟩

theorem maker_code (w : World) : Calls Tryd.prog 36 #[] w fun e w' => ∃ cs, e = .returned (.agg cs.toArray) ∧ PartIs w' (fun b => w.heap.size ≤ b) .code cs ∧ Chg none_ w w' := by
  have H := Lib.hid (integer_any .code (w.alloc (.cells [Value.nilFunc, Value.nilFunc, Value.nilFunc].toArray 53)))
  go_enter Tryd.func36, Tryd.ntmps36
  go_wp2_with fail
  refine H.out.mono ?_
  rintro e w1 ⟨cs, rfl, hp, hc⟩
  obtain ⟨g, hg, hr, rfl⟩ := hp
  have hR := (Row.new w 53 [Value.nilFunc, Value.nilFunc, Value.nilFunc]).chg hc (fun h => h)
  have hC := ((Chg.refl none_ w).alloc (.cells [Value.nilFunc, Value.nilFunc, Value.nilFunc].toArray 53)).trans hc
  simp at hg
  have hG := Lib.hid hg
  have HR := Lib.hid hR
  have HC := Lib.hid hC
  have HW := Lib.hid hr
  clear hR hC hc hr hg
  go_wp2_with ((with_reducible show wpList _ _ _ (⟨_, .store 53 _ _, _, _, _, _⟩ :: _) _ _); refine wpList_store_Row rfl rfl rfl HR.out rfl rfl size59 rfl ?_; intro w2 hr2 hch2 hs2)
  refine ret_row rfl rfl hr2 Tryd.underlying53 rfl size59 rfl ?_
  refine ⟨_, rfl, ⟨g, by have := hG.out; omega, HW.out.chg (hch2 (· = w.heap.size) _ (Chg.refl _ _) (fun _ => rfl)) (fun h => by have := hG.out; omega), rfl⟩, hch2 none_ w HC.out (fun h => absurd h (by omega))⟩

theorem maker_counted (w : World) : Calls Tryd.prog 38 #[] w fun e w' => ∃ cs, e = .returned (.agg cs.toArray) ∧ PartIs w' (fun b => w.heap.size ≤ b) .counted cs ∧ Chg none_ w w' := by
  have H := Lib.hid (data_any .counted (w.alloc (.cells [Value.nilFunc, Value.nilFunc, Value.nilFunc].toArray 53)))
  go_enter Tryd.func38, Tryd.ntmps38
  go_wp2_with fail
  refine H.out.mono ?_
  rintro e w1 ⟨cs, rfl, hp, hc⟩
  obtain ⟨g, k, hg, hk, hr, hrk, rfl⟩ := hp
  have hR := (Row.new w 53 [Value.nilFunc, Value.nilFunc, Value.nilFunc]).chg hc (fun h => h)
  have hC := ((Chg.refl none_ w).alloc (.cells [Value.nilFunc, Value.nilFunc, Value.nilFunc].toArray 53)).trans hc
  simp at hg hk
  have hG := Lib.hid hg
  have hK := Lib.hid hk
  have HR := Lib.hid hR
  have HC := Lib.hid hC
  have HW := Lib.hid hr
  have HV := Lib.hid hrk
  clear hR hC hc hr hg hk hrk
  go_wp2_with ((with_reducible show wpList _ _ _ (⟨_, .store 53 _ _, _, _, _, _⟩ :: _) _ _); refine wpList_store_Row rfl rfl rfl HR.out rfl rfl size59 rfl ?_; intro w2 hr2 hch2 hs2)
  refine ret_row rfl rfl hr2 Tryd.underlying53 rfl size59 rfl ?_
  refine ⟨_, rfl, ⟨g, k, by have := hG.out; omega, by have := hK.out; omega, HW.out.chg (hch2 (· = w.heap.size) _ (Chg.refl _ _) (fun _ => rfl)) (fun h => by have := hG.out; omega), HV.out.chg (hch2 (· = w.heap.size) _ (Chg.refl _ _) (fun _ => rfl)) (fun h => by have := hK.out; omega), rfl⟩, hch2 none_ w HC.out (fun h => absurd h (by omega))⟩

theorem maker_shortly (w : World) : Calls Tryd.prog 44 #[] w fun e w' => ∃ cs, e = .returned (.agg cs.toArray) ∧ PartIs w' (fun b => w.heap.size ≤ b) .shortly cs ∧ Chg none_ w w' := by
  have H := Lib.hid (data_any .shortly (w.alloc (.cells [Value.nilFunc, Value.nilFunc, Value.nilFunc].toArray 53)))
  go_enter Tryd.func44, Tryd.ntmps44
  go_wp2_with fail
  refine H.out.mono ?_
  rintro e w1 ⟨cs, rfl, hp, hc⟩
  obtain ⟨g, k, hg, hk, hr, hrk, rfl⟩ := hp
  have hR := (Row.new w 53 [Value.nilFunc, Value.nilFunc, Value.nilFunc]).chg hc (fun h => h)
  have hC := ((Chg.refl none_ w).alloc (.cells [Value.nilFunc, Value.nilFunc, Value.nilFunc].toArray 53)).trans hc
  simp at hg hk
  have hG := Lib.hid hg
  have hK := Lib.hid hk
  have HR := Lib.hid hR
  have HC := Lib.hid hC
  have HW := Lib.hid hr
  have HV := Lib.hid hrk
  clear hR hC hc hr hg hk hrk
  go_wp2_with ((with_reducible show wpList _ _ _ (⟨_, .store 53 _ _, _, _, _, _⟩ :: _) _ _); refine wpList_store_Row rfl rfl rfl HR.out rfl rfl size59 rfl ?_; intro w2 hr2 hch2 hs2)
  refine ret_row rfl rfl hr2 Tryd.underlying53 rfl size59 rfl ?_
  refine ⟨_, rfl, ⟨g, k, by have := hG.out; omega, by have := hK.out; omega, HW.out.chg (hch2 (· = w.heap.size) _ (Chg.refl _ _) (fun _ => rfl)) (fun h => by have := hG.out; omega), HV.out.chg (hch2 (· = w.heap.size) _ (Chg.refl _ _) (fun _ => rfl)) (fun h => by have := hK.out; omega), rfl⟩, hch2 none_ w HC.out (fun h => absurd h (by omega))⟩

theorem maker_challenge (w : World) : Calls Tryd.prog 47 #[] w fun e w' => ∃ cs, e = .returned (.agg cs.toArray) ∧ PartIs w' (fun b => w.heap.size ≤ b) .challenge cs ∧ Chg none_ w w' := by
  have H := Lib.hid (data_any .challenge (w.alloc (.cells [Value.nilFunc, Value.nilFunc, Value.nilFunc].toArray 53)))
  go_enter Tryd.func47, Tryd.ntmps47
  go_wp2_with fail
  refine H.out.mono ?_
  rintro e w1 ⟨cs, rfl, hp, hc⟩
  obtain ⟨g, k, hg, hk, hr, hrk, rfl⟩ := hp
  have hR := (Row.new w 53 [Value.nilFunc, Value.nilFunc, Value.nilFunc]).chg hc (fun h => h)
  have hC := ((Chg.refl none_ w).alloc (.cells [Value.nilFunc, Value.nilFunc, Value.nilFunc].toArray 53)).trans hc
  simp at hg hk
  have hG := Lib.hid hg
  have hK := Lib.hid hk
  have HR := Lib.hid hR
  have HC := Lib.hid hC
  have HW := Lib.hid hr
  have HV := Lib.hid hrk
  clear hR hC hc hr hg hk hrk
  go_wp2_with ((with_reducible show wpList _ _ _ (⟨_, .store 53 _ _, _, _, _, _⟩ :: _) _ _); refine wpList_store_Row rfl rfl rfl HR.out rfl rfl size59 rfl ?_; intro w2 hr2 hch2 hs2)
  refine ret_row rfl rfl hr2 Tryd.underlying53 rfl size59 rfl ?_
  refine ⟨_, rfl, ⟨g, k, by have := hG.out; omega, by have := hK.out; omega, HW.out.chg (hch2 (· = w.heap.size) _ (Chg.refl _ _) (fun _ => rfl)) (fun h => by have := hG.out; omega), HV.out.chg (hch2 (· = w.heap.size) _ (Chg.refl _ _) (fun _ => rfl)) (fun h => by have := hK.out; omega), rfl⟩, hch2 none_ w HC.out (fun h => absurd h (by omega))⟩

theorem maker_allLeft (w : World) : Calls Tryd.prog 70 #[] w fun e w' => ∃ cs, e = .returned (.agg cs.toArray) ∧ PartIs w' (fun b => w.heap.size ≤ b) .allLeft cs ∧ Chg none_ w w' := by
  have H := Lib.hid (data_any .allLeft (w.alloc (.cells [Value.nilFunc, Value.nilFunc, Value.nilFunc].toArray 53)))
  go_enter Tryd.func70, Tryd.ntmps70
  go_wp2_with fail
  refine H.out.mono ?_
  rintro e w1 ⟨cs, rfl, hp, hc⟩
  obtain ⟨g, k, hg, hk, hr, hrk, rfl⟩ := hp
  have hR := (Row.new w 53 [Value.nilFunc, Value.nilFunc, Value.nilFunc]).chg hc (fun h => h)
  have hC := ((Chg.refl none_ w).alloc (.cells [Value.nilFunc, Value.nilFunc, Value.nilFunc].toArray 53)).trans hc
  simp at hg hk
  have hG := Lib.hid hg
  have hK := Lib.hid hk
  have HR := Lib.hid hR
  have HC := Lib.hid hC
  have HW := Lib.hid hr
  have HV := Lib.hid hrk
  clear hR hC hc hr hg hk hrk
  go_wp2_with ((with_reducible show wpList _ _ _ (⟨_, .store 53 _ _, _, _, _, _⟩ :: _) _ _); refine wpList_store_Row rfl rfl rfl HR.out rfl rfl size59 rfl ?_; intro w2 hr2 hch2 hs2)
  refine ret_row rfl rfl hr2 Tryd.underlying53 rfl size59 rfl ?_
  refine ⟨_, rfl, ⟨g, k, by have := hG.out; omega, by have := hK.out; omega, HW.out.chg (hch2 (· = w.heap.size) _ (Chg.refl _ _) (fun _ => rfl)) (fun h => by have := hG.out; omega), HV.out.chg (hch2 (· = w.heap.size) _ (Chg.refl _ _) (fun _ => rfl)) (fun h => by have := hK.out; omega), rfl⟩, hch2 none_ w HC.out (fun h => absurd h (by omega))⟩

theorem maker_token (w : World) : Calls Tryd.prog 45 #[] w fun e w' => ∃ cs, e = .returned (.agg cs.toArray) ∧ PartIs w' (fun b => w.heap.size ≤ b) .token cs ∧ Chg none_ w w' := by
  have hst := fun (w : World) (a : Addr) (fn : Fn) (x y : Array Value) => run_store Tryd.prog w a (.func fn x y) .plain rfl
  go_enter Tryd.func45, Tryd.ntmps45
  go_wp2
  refine ret_row (cs := [_, _, _]) rfl rfl (Row.new _ _ _) Tryd.underlying53 rfl size59 rfl ?_
  exact ⟨_, rfl, rfl, (Chg.refl _ _).alloc _⟩

theorem maker_zeros (w : World) : Calls Tryd.prog 30 #[] w fun e w' => ∃ cs, e = .returned (.agg cs.toArray) ∧ PartIs w' (fun b => w.heap.size ≤ b) .zeros cs ∧ Chg none_ w w' := by
  have hst := fun (w : World) (a : Addr) (fn : Fn) (x y : Array Value) => run_store Tryd.prog w a (.func fn x y) .plain rfl
  go_enter Tryd.func30, Tryd.ntmps30
  go_wp2
  refine ret_row (cs := [_, _, _]) rfl rfl (Row.new _ _ _) Tryd.underlying53 rfl size59 rfl ?_
  exact ⟨_, rfl, rfl, (Chg.refl _ _).alloc _⟩

theorem maker_acked (w : World) : Calls Tryd.prog 62 #[] w fun e w' => ∃ cs, e = .returned (.agg cs.toArray) ∧ PartIs w' (fun b => w.heap.size ≤ b) .acked cs ∧ Chg none_ w w' := by
  have hst := fun (w : World) (a : Addr) (fn : Fn) (x y : Array Value) => run_store Tryd.prog w a (.func fn x y) .plain rfl
  go_enter Tryd.func62, Tryd.ntmps62
  go_wp2
  refine ret_row (cs := [_, _, _]) rfl rfl (Row.new _ _ _) Tryd.underlying53 rfl size59 rfl ?_
  exact ⟨_, rfl, rfl, (Chg.refl _ _).alloc _⟩

theorem maker_dropped (w : World) : Calls Tryd.prog 63 #[] w fun e w' => ∃ cs, e = .returned (.agg cs.toArray) ∧ PartIs w' (fun b => w.heap.size ≤ b) .dropped cs ∧ Chg none_ w w' := by
  have hst := fun (w : World) (a : Addr) (fn : Fn) (x y : Array Value) => run_store Tryd.prog w a (.func fn x y) .plain rfl
  go_enter Tryd.func63, Tryd.ntmps63
  go_wp2
  refine ret_row (cs := [_, _, _]) rfl rfl (Row.new _ _ _) Tryd.underlying53 rfl size59 rfl ?_
  exact ⟨_, rfl, rfl, (Chg.refl _ _).alloc _⟩

/-- Each part is made by its maker. -/
theorem maker_any (p : Part) (w : World) : Calls Tryd.prog (makerFn p) #[] w fun e w' => ∃ cs, e = .returned (.agg cs.toArray) ∧ PartIs w' (fun b => w.heap.size ≤ b) p cs ∧ Chg none_ w w' := by
  cases p
  · exact maker_id w
  · exact maker_amount w
  · exact maker_code w
  · exact maker_counted w
  · exact maker_shortly w
  · exact maker_challenge w
  · exact maker_allLeft w
  · exact maker_token w
  · exact maker_zeros w
  · exact maker_acked w
  · exact maker_dropped w
end Go.Proofs.YtlcffjmbfpdlbaaDoor
