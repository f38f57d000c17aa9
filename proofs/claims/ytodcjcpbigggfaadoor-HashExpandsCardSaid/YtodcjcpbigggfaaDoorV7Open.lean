/- Layer 7 (hash): a digest by value that came in; s[:n] by a small number. -/
import Derived.Test.YtodcjcpbigggfaaDoorV7Alive
import Derived.Test.YtodcjcpbigggfaaDoorV7RExpand
import Derived.ChangeOld
import Derived.ChangeSlices
import Derived.OpenShut
import Derived.Deep.Fields
namespace Go.Proofs.YtodcjcpbigggfaaDoor
open Go.RowKit Go.ChangeShapes Go.WideShapes Go.Deep

theorem nat_u8h {x : Int} (h : (Lit.int .u8 x).wf = true) : ∃ n : Nat, x = (n : Int) ∧ n < 256 := by
  have h2 : (decide (0 ≤ x) && decide (x ≤ 255)) = true := h
  simp only [Bool.and_eq_true, decide_eq_true_eq] at h2
  exact ⟨x.toNat, by omega, by omega⟩
theorem cells_numsh : ∀ (l : List Value), (∀ v ∈ l, ∃ n : Nat, v = .int .u8 (n : Int) ∧ n < 256) → ∃ t : List Nat, l = u8s t ∧ ∀ x ∈ t, x < 256
  | [], _ => ⟨[], rfl, by simp⟩
  | v :: l, h => by
    obtain ⟨n, rfl, hn⟩ := h v (by simp)
    obtain ⟨t, rfl, ht⟩ := cells_numsh l (fun v hv => h v (by simp [hv]))
    exact ⟨n :: t, rfl, by simpa using ⟨hn, ht⟩⟩
theorem cellsHash : Tryd.prog.cellsOf 25 = 32 := by kernel_rfl
section
variable {H : Type} {enc : TypeId × Value → H} {W : World} {held : Bool}
theorem open_hash {r : Reach} {b0 : Nat} {v : Value} {d : DataW H} {p : List MemPlace} (hv : Value.okWide Tryd.prog W r b0 25 v) (h : DataW.Trod enc Tryd.prog W 0 (fun _ => true) held 25 v d p) :
    ∃ t : List Nat, v = .agg (u8s t).toArray ∧ t.length = 32 ∧ ∀ x ∈ t, x < 256 := by
  obtain ⟨cs, rfl, hsz⟩ : ∃ cs, v = .agg cs ∧ cs.size = Tryd.prog.cellsOf 25 := by
    simp only [Value.okWide, Tryd.underlying25] at hv
    obtain ⟨cs, h1, h2, _⟩ := hv
    exact ⟨cs, h1, h2⟩
  obtain ⟨l⟩ := cs
  have hl : l.length = 32 := hsz.trans cellsHash
  obtain ⟨fuel, hf⟩ := h
  obtain ⟨ys, m, _, _, _, hly, hy⟩ := DataW.trod_array Tryd.underlying25 hf
  obtain ⟨t, rfl, ht⟩ := cells_numsh l (fun v hv => by
    obtain ⟨i, hi, rfl⟩ := List.mem_iff_getElem.1 hv
    have q := hy i (by omega)
    have hys : ys[i]? = some (ys[i]'(by omega)) := List.getElem?_eq_getElem _
    rw [hys, cellsU8h, Nat.mul_one] at q
    simp only [Value.cells] at q
    rw [List.drop_eq_getElem_cons hi, List.take_succ_cons, List.take_zero] at q
    obtain ⟨z, qz, _, wz⟩ := DataW.trod_int Tryd.underlying5 q
    obtain ⟨k, rfl, hk⟩ := nat_u8h wz
    simp at qz
    exact ⟨k, qz, hk⟩)
  exact ⟨t, rfl, by simpa using hl, ht⟩
end

theorem run_slice_highK {P : Program} (w : World) (t e : TypeId) (ik : IntKind) (A : Option Addr) (n cap k : Nat) (hu : P.underlying t = some (.slice e)) (hs : (P.info? e).map (·.size) = some 1) (hk : k ≤ cap) :
    (Instr.slice t (.slice A n cap) none (some (.int ik (k : Int))) none).run P w = .ok (.slice (highA A cap) k cap) w := by
  cases hq : P.info? e with
  | none => rw [hq] at hs; cases hs
  | some i =>
    have hsz : i.size = 1 := by simpa [hq] using hs
    simp [Instr.slice, run_underlying hu, Instr.sliceBounds, Instr.sliceBound, asIntOf, sizeOf, typeInfo, hq, hk, highA]
theorem allN_app (s info : List Nat) (a : Nat) : ∀ b, ∃ r, allN s info (a + b) = allN s info a ++ r
  | 0 => ⟨[], by simp⟩
  | b + 1 => by
    obtain ⟨r, hr⟩ := allN_app s info a b
    exact ⟨r ++ chainN s info (a + b + 1), by rw [← Nat.add_assoc, allN, hr, List.append_assoc]⟩
/-- Less is the beginning of more. -/
theorem expandN_take (s info : List Nat) (n m : Nat) (hn : n ≤ m) (hm : m ≤ 255) : expandN s info (n : Int) = (expandN s info (m : Int)).take n := by
  unfold expandN
  rw [if_neg (by omega), if_neg (by omega)]
  simp only [Int.toNat_natCast]
  rw [List.take_take, Nat.min_eq_left hn]
  obtain ⟨r, hr⟩ := allN_app s info ((n + 31) / 32) ((m + 31) / 32 - (n + 31) / 32)
  rw [show (n + 31) / 32 + ((m + 31) / 32 - (n + 31) / 32) = (m + 31) / 32 from by omega] at hr
  rw [hr, List.take_append_of_le_length (by rw [allN_len]; omega)]
end Go.Proofs.YtodcjcpbigggfaaDoor
