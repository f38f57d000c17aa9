/- Layer 5 (params): the table; where a number stands in it. -/
import Derived.Test.YthoiiibcceacnaaDoorV5Take
namespace Go.Proofs.YthoiiibcceacnaaDoor
open Go.RowKit

/-- A parameter's cells. -/
def cellsK (gs : Pk → Nat) : Pk → List Value
  | .token => [.int .u64 2, fnv 36, fnv 37]
  | k => [.int .u64 k.num, clo 49 (gs k), clo 50 (gs k)]
def tabCells (gs : Pk → Nat) : List Value := cellsK gs .idle ++ cellsK gs .token ++ cellsK gs .data ++ cellsK gs .stream ++ cellsK gs .streams

def TabPost (w : World) (e : Ending) (w' : World) : Prop := ∃ gs, e = .returned (.agg (tabCells gs).toArray) ∧ Places w' (fun b => w.heap.size ≤ b) gs ∧ Chg none_ w w'
def pick4 (a b c d : Nat) : Pk → Nat
  | .idle => a
  | .data => b
  | .stream => c
  | _ => d
theorem nilFunc_eq : Value.nilFunc = Value.nilFunc := rfl

set_option maxRecDepth 100000 in
set_option maxHeartbeats 1000000 in
theorem table_any (w : World) : Calls Tryd.prog 19 #[] w (TabPost w) := by
  obtain ⟨W0, hW0⟩ : ∃ W0, W0 = w.alloc (.cells ([.int .u64 0, .nilFunc, .nilFunc, .int .u64 0, .nilFunc, .nilFunc, .int .u64 0, .nilFunc, .nilFunc, .int .u64 0, .nilFunc, .nilFunc, .int .u64 0, .nilFunc, .nilFunc] : List Value).toArray 46) := ⟨_, rfl⟩
  have HR := Lib.hid (Row.new w 46 ([.int .u64 0, .nilFunc, .nilFunc, .int .u64 0, .nilFunc, .nilFunc, .int .u64 0, .nilFunc, .nilFunc, .int .u64 0, .nilFunc, .nilFunc, .int .u64 0, .nilFunc, .nilFunc] : List Value))
  have HC0 := Lib.hid ((Chg.refl none_ w).alloc (.cells ([.int .u64 0, .nilFunc, .nilFunc, .int .u64 0, .nilFunc, .nilFunc, .int .u64 0, .nilFunc, .nilFunc, .int .u64 0, .nilFunc, .nilFunc, .int .u64 0, .nilFunc, .nilFunc] : List Value).toArray 46))
  clear hW0 W0
  have HZ : Hid (w.heap.size + 1 = (w.alloc (.cells ([.int .u64 0, .nilFunc, .nilFunc, .int .u64 0, .nilFunc, .nilFunc, .int .u64 0, .nilFunc, .nilFunc, .int .u64 0, .nilFunc, .nilFunc, .int .u64 0, .nilFunc, .nilFunc] : List Value).toArray 46)).heap.size) := by show _ = _; simp
  go_enter Tryd.func19, Tryd.ntmps19
  go_wp2_with fail
  refine (integer_any .idle _).mono ?_
  rintro e w1 ⟨g1, rfl, hg1, hr1, hc1⟩
  have HG1 := Lib.hid hg1; have HR1 := Lib.hid hr1; have HC1 := Lib.hid hc1
  clear hg1 hr1 hc1
  go_wp2_with fail
  refine (integer_any .data _).mono ?_
  rintro e w2 ⟨g2, rfl, hg2, hr2, hc2⟩
  have HG2 := Lib.hid hg2; have HR2 := Lib.hid hr2; have HC2 := Lib.hid hc2
  clear hg2 hr2 hc2
  go_wp2_with fail
  refine (integer_any .stream _).mono ?_
  rintro e w3 ⟨g3, rfl, hg3, hr3, hc3⟩
  have HG3 := Lib.hid hg3; have HR3 := Lib.hid hr3; have HC3 := Lib.hid hc3
  clear hg3 hr3 hc3
  go_wp2_with fail
  refine (integer_any .streams _).mono ?_
  rintro e w4 ⟨g4, rfl, hg4, hr4, hc4⟩
  have HG4 := Lib.hid hg4; have HR4 := Lib.hid hr4; have HC4 := Lib.hid hc4
  clear hg4 hr4 hc4
  have HRX := Lib.hid ((((HR.out.chg HC1.out (fun h => h)).chg HC2.out (fun h => h)).chg HC3.out (fun h => h)).chg HC4.out (fun h => h))
  go_wp2_with ((with_reducible show wpList _ _ _ (⟨_, .store 46 _ _, _, _, _, _⟩ :: _) _ _); refine wpList_store_Row (xs := tabCells (pick4 g1 g2 g3 g4)) rfl rfl rfl HRX.out rfl rfl sizeTab rfl ?_; intro w5 hr5 hch5 hs5)
  refine ret_row rfl rfl hr5 Tryd.underlying46 rfl sizeTab rfl ?_
  have hz := HZ.out
  have hG1 := HG1.out; have hG2 := HG2.out; have hG3 := HG3.out; have hG4 := HG4.out
  have s1 := HC1.out.size; have s2 := HC2.out.size; have s3 := HC3.out.size; have s4 := HC4.out.size
  have hc5 := hch5 (· = w.heap.size) w4 (Chg.refl _ _) (fun _ => rfl)
  refine ⟨_, rfl, fun k => ?_, hch5 none_ w (((((HC0.out.trans HC1.out).trans HC2.out).trans HC3.out).trans HC4.out)) (fun h => absurd h (by omega))⟩
  have q1 := (((HR1.out.chg HC2.out (fun h => h)).chg HC3.out (fun h => h)).chg HC4.out (fun h => h)).chg hc5 (fun e => by have e : g1 = w.heap.size := e; omega)
  have q2 := ((HR2.out.chg HC3.out (fun h => h)).chg HC4.out (fun h => h)).chg hc5 (fun e => by have e : g2 = w.heap.size := e; omega)
  have q3 := (HR3.out.chg HC4.out (fun h => h)).chg hc5 (fun e => by have e : g3 = w.heap.size := e; omega)
  have q4 := HR4.out.chg hc5 (fun e => by have e : g4 = w.heap.size := e; omega)
  cases k
  · exact ⟨by show w.heap.size ≤ g1; omega, q1⟩
  · exact ⟨by show w.heap.size ≤ g4; omega, q4⟩
  · exact ⟨by show w.heap.size ≤ g2; omega, q2⟩
  · exact ⟨by show w.heap.size ≤ g3; omega, q3⟩
  · exact ⟨by show w.heap.size ≤ g4; omega, q4⟩
end Go.Proofs.YthoiiibcceacnaaDoor
