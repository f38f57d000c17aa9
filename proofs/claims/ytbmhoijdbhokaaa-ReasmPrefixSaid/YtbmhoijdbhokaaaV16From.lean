/- Layer 16 (reasm): the bytes from a place on, an iterator over a map. -/
import Derived.Shelf.Abstract
import Derived.WalkKit
import Derived.OwnWalkIn
import Derived.TacticsInMore
import Derived.LoopNIn
import Derived.LoopIn
import Derived.Test.YtbmhoijdbhokaaaRangeG
import Derived.Test.YtbmhoijdbhokaaaV16Buf
namespace Go.Proofs.Ytbmhoijdbhokaaa
open Go.RowKit Go.Shelf
attribute [local go_sem] Oper.semAt_some

def encB (x : Nat × Nat) : Array Value := #[.int .u64 (x.1 : Int), .int .u8 (x.2 : Int)]
/-- What the iterator finds: its boxes, the buffer, and of the bytes M those that are still to come. -/
structure FromG (pb pp g m p : Nat) (M : Nat → Option Nat) (pre : List (Nat × Nat)) (W : World) : Prop where
  box : Row W pb 25 [.pointer (some ⟨g, 0, none⟩)]
  place : Row W pp 32 [.int .u64 (p : Int)]
  row : ∃ s, Row W g 51 (cellsB m s)
  map : ∃ es, MapB W m es ∧ ∀ q, p + pre.length ≤ q → lookN es q = M q

set_option maxRecDepth 100000 in
set_option maxHeartbeats 1000000 in
theorem from_any (g p : Nat) (w : World) : Calls Try.prog 23 #[.pointer (some ⟨g, 0, none⟩), .int .u64 (p : Int)] w fun e w' =>
    e = .returned (.func (.func 25) #[] #[.pointer (some ⟨w.heap.size + 1, 0, none⟩), .pointer (some ⟨w.heap.size, 0, none⟩)]) ∧ Row w' w.heap.size 25 [.pointer (some ⟨g, 0, none⟩)] ∧ Row w' (w.heap.size + 1) 32 [.int .u64 (p : Int)] ∧ Chg none_ w w' := by
  have HR := Lib.hid ((Row.new w 25 [.pointer (some ⟨g, 0, none⟩)]).alloc (.cells #[.int .u64 (p : Int)] 32))
  have HS := Lib.hid (Row.newAtB (w.alloc (.cells #[.pointer (some ⟨g, 0, none⟩)] 25)) 32 [.int .u64 (p : Int)] (w.heap.size + 1) (by simp))
  have HC := Lib.hid (((Chg.refl none_ w).alloc (.cells #[.pointer (some ⟨g, 0, none⟩)] 25)).alloc (.cells #[.int .u64 (p : Int)] 32))
  go_enter Try.func23, Try.ntmps23
  go_wp2
  go_ret
  exact ⟨by simp, HR.out, HS.out, HC.out⟩

set_option maxRecDepth 100000 in
set_option maxHeartbeats 4000000 in
theorem from1_in (l pb pp g m p T : Nat) (M : Nat → Option Nat) (hM : ∀ q x, M q = some x → q < T) (hT : T < 4611686018427587904) (hp : p ≤ T) (J Jx : List (Nat × Nat) → World → Prop) (W : World) (hJG : ∀ pre W, J pre W → FromG pb pp g m p M pre W)
    (hY : ∀ pre x W1, J pre W1 → (x.1 = p + pre.length ∧ M x.1 = some x.2) → YieldAt Fence.wide 0 Try.prog l (encB x) W1 fun e W' => (e = .returned (.bool true) ∧ J (pre ++ [x]) W') ∨ (e = .returned (.bool false) ∧ Jx (pre ++ [x]) W'))
    (h0 : J [] W) :
    CallsIn Fence.wide 1 Try.prog 25 #[.func (.yield l) #[] #[], .pointer (some ⟨pp, 0, none⟩), .pointer (some ⟨pb, 0, none⟩)] W fun e W' => (∃ v, e = .returned v) ∧ ((∃ xs : List (Nat × Nat), M (p + xs.length) = none ∧ J xs W') ∨ (∃ pre : List (Nat × Nat), Jx pre W')) := by
  have b0 := (hJG _ _ h0).place.cell 0
  simp only [List.getElem?_cons_zero] at b0
  have HY := Lib.hid hY
  have HG := Lib.hid hJG
  clear hY hJG
  refine callsIn_of_wp Try.func25 rfl trivial ?_ rfl
  simp only [Try.ntmps25, List.size_toArray, List.length_cons, List.length_nil, Nat.reduceAdd, Nat.reduceSub, Array.replicate_succ, Array.replicate_zero, List.push_toArray, List.append_toArray, List.nil_append, List.cons_append]
  gi_wp2
  gi_loopw [4, 5, 6, 10] (fun x _ _ _ wr => ∃ (q : Nat) (pre : List (Nat × Nat)), x = .int .u64 (q : Int) ∧ p + pre.length = q ∧ q ≤ T ∧ J pre wr) (fun x _ _ _ _ => T + 1 - (intOf x).toNat)
  case atStart => exact ⟨p, [], rfl, rfl, hp, h0⟩
  case round =>
    obtain ⟨q, pre, rfl, hq, hqT, hJ⟩ := hrel
    have hg := HG.out _ _ hJ
    obtain ⟨s, hrow⟩ := hg.row
    obtain ⟨es, hmap, hlook⟩ := hg.map
    have b1 := hg.box.cell 0
    have b2 := hrow.cell 1
    simp only [List.getElem?_cons_zero, List.getElem?_cons_succ, cellsB] at b1 b2
    have hlk := run_lookupB Try.underlying49 Try.underlying32 (zeroByte wr) hmap q
    rw [hlook q (by omega)] at hlk
    have hw : IntKind.u64.wrap ((q : Int) + 1) = ((q + 1 : Nat) : Int) := wrapU (q + 1) (by omega)
    clear hlook hmap hrow hg
    cases hMq : M q with
    | none =>
      rw [hMq] at hlk
      simp only [Option.isSome_none, Option.getD_none] at hlk
      gi_wp2
      all_goals refine ⟨fun _ h => (by cases h), ?_⟩
      all_goals gi_wp2
      all_goals refine bodyPost_ret (results_none rfl _ _ _) rfl ?_
      all_goals exact ⟨⟨_, rfl⟩, .inl ⟨pre, by rw [hq]; exact hMq, hJ⟩⟩
    | some v =>
      rw [hMq] at hlk
      simp only [Option.isSome_some, Option.getD_some] at hlk
      have hlt := hM q v hMq
      obtain ⟨fn, tmps, assign, body, hyy, hR⟩ := HY.out pre (q, v) wr hJ ⟨hq.symm, hMq⟩
      simp only [encB] at hyy
      gi_wp2
      refine hR.mono ?_
      rintro e w3 (⟨rfl, hJ3⟩ | ⟨rfl, hJx3⟩)
      · gi_wp2
        go_roundw
        case rel => exact ⟨q + 1, pre ++ [(q, v)], by push_cast; rfl, by rw [List.length_append]; simp; omega, hlt, hJ3⟩
        case measure => simp [intOf]; omega
      · gi_wp2
        refine bodyPost_ret (results_none rfl _ _ _) rfl ?_
        exact ⟨⟨_, rfl⟩, .inr ⟨pre ++ [(q, v)], hJx3⟩⟩

theorem from_seq (pb pp g m p T : Nat) (M : Nat → Option Nat) (hM : ∀ q x, M q = some x → q < T) (hT : T < 4611686018427587904) (hp : p ≤ T) :
    SeqG 1 Try.prog 25 #[.pointer (some ⟨pp, 0, none⟩), .pointer (some ⟨pb, 0, none⟩)] encB (FromG pb pp g m p M) (fun pre x => x.1 = p + pre.length ∧ M x.1 = some x.2) (fun xs => M (p + xs.length) = none) := fun l J Jx W hG hY h0 =>
  from1_in l pb pp g m p T M hM hT hp J Jx W hG hY h0
end Go.Proofs.Ytbmhoijdbhokaaa
