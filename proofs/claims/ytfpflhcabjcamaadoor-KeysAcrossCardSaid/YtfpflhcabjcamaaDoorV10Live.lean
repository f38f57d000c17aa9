/- Layer 10 (keys): how many keys a ring has. -/
import Derived.Test.YtfpflhcabjcamaaDoorV10Ring
namespace Go.Proofs.YtfpflhcabjcamaaDoor
open Go.RowKit

def b1 (o : Option Nat) : Nat := if o.isSome then 1 else 0
def cnt3 (a b c : Option Nat) : Nat → Nat
  | 0 => 0
  | 1 => b1 a
  | 2 => b1 a + b1 b
  | _ => b1 a + b1 b + b1 c
theorem b1_le (o : Option Nat) : b1 o ≤ 1 := by cases o <;> simp [b1]
theorem cnt3_le (a b c : Option Nat) : ∀ j, cnt3 a b c j ≤ 3
  | 0 => Nat.zero_le _
  | 1 => by have := b1_le a; show b1 a ≤ 3; omega
  | 2 => by have := b1_le a; have := b1_le b; show b1 a + b1 b ≤ 3; omega
  | _ + 3 => by have := b1_le a; have := b1_le b; have := b1_le c; show b1 a + b1 b + b1 c ≤ 3; omega
theorem live_lv {w : World} {T : Nat → Prop} {o : Option Lv} {a b c : Option Nat} (h : LvAt w T o a b c) : liveO o = b1 a + b1 b + b1 c := by
  cases o with
  | none => obtain ⟨rfl, rfl, rfl⟩ := h; rfl
  | some l =>
    obtain ⟨_, _, x, y, rfl, rfl, _, _, _, _, h9⟩ := h
    cases ho : l.old with
    | none => rw [ho] at h9; subst h9; simp [liveO, ho, b1]
    | some q => rw [ho] at h9; obtain ⟨_, z, rfl, _⟩ := h9; simp [liveO, ho, b1]
theorem size2L : (Tryd.prog.info? 57).map (·.size) = some 6 := by kernel_rfl
theorem size3L : (Tryd.prog.info? 56).map (·.size) = some 3 := by kernel_rfl
theorem zero3L : (Tryd.prog.info? 56).map (·.zero) = some (some (.agg [ptr none, ptr none, ptr none].toArray)) := by kernel_rfl
theorem idx2_0 (p0 p1 p2 p3 p4 p5 : Value) (w : World) : (Instr.index 57 (.agg [p0, p1, p2, p3, p4, p5].toArray) (.int .i64 0)).run Tryd.prog w = .ok (.agg [p0, p1, p2].toArray) w := by kernel_rfl
theorem idx2_1 (p0 p1 p2 p3 p4 p5 : Value) (w : World) : (Instr.index 57 (.agg [p0, p1, p2, p3, p4, p5].toArray) (.int .i64 1)).run Tryd.prog w = .ok (.agg [p3, p4, p5].toArray) w := by kernel_rfl
theorem idx3_0 (p0 p1 p2 : Value) (w : World) : (Instr.index 56 (.agg [p0, p1, p2].toArray) (.int .i64 0)).run Tryd.prog w = .ok p0 w := by kernel_rfl
theorem idx3_1 (p0 p1 p2 : Value) (w : World) : (Instr.index 56 (.agg [p0, p1, p2].toArray) (.int .i64 1)).run Tryd.prog w = .ok p1 w := by kernel_rfl
theorem idx3_2 (p0 p1 p2 : Value) (w : World) : (Instr.index 56 (.agg [p0, p1, p2].toArray) (.int .i64 2)).run Tryd.prog w = .ok p2 w := by kernel_rfl

set_option maxRecDepth 100000 in
set_option maxHeartbeats 4000000 in
theorem Live_any (g : Nat) (T : Nat → Prop) (r : Rg) (w : World) (h : RingAt w g T r) : Calls Tryd.prog 17 #[.pointer (some ⟨g, 0, none⟩)] w fun e w' => e = .returned (.int .i64 ((r.live : Nat) : Int)) ∧ Chg none_ w w' := by
  obtain ⟨a0, b0, c0, a1, b1_, c1, hrow, h0, h1⟩ := h
  have e0 := live_lv h0
  have e1 := live_lv h1
  obtain ⟨n0, hn0⟩ : ∃ n : Nat, n = 0 := ⟨_, rfl⟩
  obtain ⟨n1, hn1⟩ : ∃ n : Nat, n = n0 + cnt3 a0 b0 c0 3 := ⟨_, rfl⟩
  obtain ⟨n2, hn2⟩ : ∃ n : Nat, n = n1 + cnt3 a1 b1_ c1 3 := ⟨_, rfl⟩
  have e2 : r.live = n2 := by
    unfold Rg.live
    rw [e0, e1, hn2, hn1, hn0]
    simp only [cnt3]
    omega
  have HN0 : Hid (n0 + cnt3 a0 b0 c0 3 = n1) := Lib.hid hn1.symm
  have HN1 : Hid (n1 + cnt3 a1 b1_ c1 3 = n2) := Lib.hid hn2.symm
  have HNZ : Hid (n0 = 0) := Lib.hid hn0
  have HNB : Hid (n0 ≤ 10 ∧ n1 ≤ 10 ∧ n2 ≤ 20) := Lib.hid (by
    have q1 := b1_le a0; have q2 := b1_le b0; have q3 := b1_le c0; have q4 := b1_le a1; have q5 := b1_le b1_; have q6 := b1_le c1
    have z1 : cnt3 a0 b0 c0 3 = b1 a0 + b1 b0 + b1 c0 := rfl
    have z2 : cnt3 a1 b1_ c1 3 = b1 a1 + b1 b1_ + b1 c1 := rfl
    omega)
  rw [e2]
  have HRG : Hid (w.rangeAt g 0 [ptr a0, ptr b0, ptr c0, ptr a1, ptr b1_, ptr c1]) := Lib.hid (hrow.rangeMid 0 _ (fun j v hv => by
    match j, hv with
    | 0, hv | 1, hv | 2, hv | 3, hv | 4, hv | 5, hv => exact hv))
  clear hrow h0 h1 e0 e1 hn0 hn1 hn2 e2
  go_enter Tryd.func17, Tryd.ntmps17
  go_wp2_with (first | ((with_reducible show wpList _ _ _ (⟨some 13, .load 57 _, _, _, _, _⟩ :: _) _ _); refine wpList_load_Mid (cs := [ptr a0, ptr b0, ptr c0, ptr a1, ptr b1_, ptr c1]) rfl rfl rfl (HRG.out) Tryd.underlying57 rfl (by exact size2L) ?_))
  try simp only [Act.put, List.setIfInBounds_toArray, List.set_cons_zero, List.set_cons_succ]
  go_loopw [3, 5, 7, 14, 17, 18] (fun lv _ _ iv _ _ wr => ∃ k : Nat, k ≤ 2 ∧ iv = .int .i64 k ∧ lv = .int .i64 (([n0, n1, n2].getD k 0 : Nat) : Int) ∧ Chg none_ w wr) (fun _ _ _ iv _ _ _ => 2 - (intOf iv).toNat)
  case atStart => exact ⟨0, Nat.zero_le _, rfl, by rw [show ([n0, n1, n2].getD 0 0) = n0 from rfl, HNZ.out]; rfl, Chg.refl _ _⟩
  case round =>
    obtain ⟨k, hk, rfl, rfl, hch⟩ := hrel
    have HC := Lib.hid hch
    clear hch
    have hk3 : k = 0 ∨ k = 1 ∨ k = 2 := by omega
    rcases hk3 with rfl | rfl | rfl
    · simp only [show ([n0, n1, n2].getD 0 0) = n0 from rfl, show ((0 : Nat) : Int) = 0 from rfl]
      go_wp2_with (first | ((with_reducible show wpList _ _ _ (⟨some 16, _, _, _, _, _⟩ :: _) _ _); refine wpList_val rfl (.agg [ptr a0, ptr b0, ptr c0].toArray) (fun w => by have hh := idx2_0 (ptr a0) (ptr b0) (ptr c0) (ptr a1) (ptr b1_) (ptr c1) w; unfold execOp; simp [Act.eval, hh]) ?_) | ((with_reducible show wpList _ _ _ (⟨some 5, .alloc 56, _, _, _, _⟩ :: _) _ _); refine wpList_alloc_Row rfl rfl ([ptr none, ptr none, ptr none]) zero3L ?_; intro w2 hr2 hc2 hs2; have HR2 := Lib.hid hr2; have HC2 := Lib.hid (HC.out.trans hc2); clear hr2 hc2 hs2) | ((with_reducible show wpList _ _ _ (⟨_, .store 56 (.tmp 5) _, _, _, _, _⟩ :: _) _ _); refine wpList_store_Row (xs := [ptr a0, ptr b0, ptr c0]) rfl rfl rfl (HR2.out) (rfl) (by rfl) (by exact size3L) (by rfl) ?_; intro w3 hr3 hc3 hs3; have HR3 := Lib.hid hr3; have HC3 := Lib.hid (hc3 none_ w HC2.out (fun h => by have := HC.out.size; omega)); clear hr3 hc3 hs3) | ((with_reducible show wpList _ _ _ (⟨some 17, .load 56 _, _, _, _, _⟩ :: _) _ _); refine wpList_load_Row rfl rfl rfl (HR3.out) Tryd.underlying56 rfl (by exact size3L) ?_))
      try simp only [Act.put, List.setIfInBounds_toArray, List.set_cons_zero, List.set_cons_succ]
      clear HR2 HC2 HR3
      go_loopw [3, 7, 18] (fun lv _ jv wr => ∃ j : Nat, j ≤ 3 ∧ jv = .int .i64 j ∧ lv = .int .i64 ((n0 + cnt3 a0 b0 c0 j : Nat) : Int) ∧ Chg none_ w wr) (fun _ _ jv _ => 3 - (intOf jv).toNat)
      case atStart => exact ⟨0, Nat.zero_le _, rfl, rfl, HC3.out⟩
      case round =>
        obtain ⟨j, hj, rfl, rfl, hch⟩ := hrel
        have HCI := Lib.hid hch
        clear hch
        have hj4 : j = 0 ∨ j = 1 ∨ j = 2 ∨ j = 3 := by omega
        rcases hj4 with rfl | rfl | rfl | rfl
        · obtain ⟨m, hm⟩ : ∃ m : Nat, m = n0 + cnt3 a0 b0 c0 0 := ⟨_, rfl⟩
          rw [← hm]
          have hmb : m ≤ 100 := by rw [hm]; have := HNB.out; have := cnt3_le a0 b0 c0 0; omega
          have HM : Hid (n0 + cnt3 a0 b0 c0 1 = m + b1 a0) := Lib.hid (by rw [hm]; show _ = _; simp only [cnt3]; omega)
          clear hm
          simp only [show ((0 : Nat) : Int) = 0 from rfl]
          cases a0 with
          | none =>
            go_wp2_with ((with_reducible show wpList _ _ _ (⟨some 20, _, _, _, _, _⟩ :: _) _ _); refine wpList_val rfl (.pointer none) (fun w => by have hh : (Instr.index 56 (.agg [ptr none, ptr b0, ptr c0].toArray) (.int .i64 0)).run Tryd.prog w = .ok (.pointer none) w := idx3_0 (ptr none) (ptr b0) (ptr c0) w; unfold execOp; simp [Act.eval, hh]) ?_)
            go_roundw
            case rel => exact ⟨1, by omega, rfl, by rw [HM.out]; rfl, HCI.out⟩
            case measure => simp [intOf]
          | some x =>
            go_wp2_with ((with_reducible show wpList _ _ _ (⟨some 20, _, _, _, _, _⟩ :: _) _ _); refine wpList_val rfl (.pointer (some ⟨x, 0, none⟩)) (fun w => by have hh : (Instr.index 56 (.agg [ptr (some x), ptr b0, ptr c0].toArray) (.int .i64 0)).run Tryd.prog w = .ok (.pointer (some ⟨x, 0, none⟩)) w := idx3_0 (ptr (some x)) (ptr b0) (ptr c0) w; unfold execOp; simp [Act.eval, hh]) ?_)
            go_roundw
            case rel => exact ⟨1, by omega, rfl, by rw [HM.out]; exact congrArg (Value.int .i64) (by simp [b1]), HCI.out⟩
            case measure => simp [intOf]
        · obtain ⟨m, hm⟩ : ∃ m : Nat, m = n0 + cnt3 a0 b0 c0 1 := ⟨_, rfl⟩
          rw [← hm]
          have hmb : m ≤ 100 := by rw [hm]; have := HNB.out; have := cnt3_le a0 b0 c0 1; omega
          have HM : Hid (n0 + cnt3 a0 b0 c0 2 = m + b1 b0) := Lib.hid (by rw [hm]; show _ = _; simp only [cnt3]; omega)
          clear hm
          simp only [show ((1 : Nat) : Int) = 1 from rfl]
          cases b0 with
          | none =>
            go_wp2_with ((with_reducible show wpList _ _ _ (⟨some 20, _, _, _, _, _⟩ :: _) _ _); refine wpList_val rfl (.pointer none) (fun w => by have hh : (Instr.index 56 (.agg [ptr a0, ptr none, ptr c0].toArray) (.int .i64 1)).run Tryd.prog w = .ok (.pointer none) w := idx3_1 (ptr a0) (ptr none) (ptr c0) w; unfold execOp; simp [Act.eval, hh]) ?_)
            go_roundw
            case rel => exact ⟨2, by omega, rfl, by rw [HM.out]; rfl, HCI.out⟩
            case measure => simp [intOf]
          | some x =>
            go_wp2_with ((with_reducible show wpList _ _ _ (⟨some 20, _, _, _, _, _⟩ :: _) _ _); refine wpList_val rfl (.pointer (some ⟨x, 0, none⟩)) (fun w => by have hh : (Instr.index 56 (.agg [ptr a0, ptr (some x), ptr c0].toArray) (.int .i64 1)).run Tryd.prog w = .ok (.pointer (some ⟨x, 0, none⟩)) w := idx3_1 (ptr a0) (ptr (some x)) (ptr c0) w; unfold execOp; simp [Act.eval, hh]) ?_)
            go_roundw
            case rel => exact ⟨2, by omega, rfl, by rw [HM.out]; exact congrArg (Value.int .i64) (by simp [b1]), HCI.out⟩
            case measure => simp [intOf]
        · obtain ⟨m, hm⟩ : ∃ m : Nat, m = n0 + cnt3 a0 b0 c0 2 := ⟨_, rfl⟩
          rw [← hm]
          have hmb : m ≤ 100 := by rw [hm]; have := HNB.out; have := cnt3_le a0 b0 c0 2; omega
          have HM : Hid (n0 + cnt3 a0 b0 c0 3 = m + b1 c0) := Lib.hid (by rw [hm]; show _ = _; simp only [cnt3]; omega)
          clear hm
          simp only [show ((2 : Nat) : Int) = 2 from rfl]
          cases c0 with
          | none =>
            go_wp2_with ((with_reducible show wpList _ _ _ (⟨some 20, _, _, _, _, _⟩ :: _) _ _); refine wpList_val rfl (.pointer none) (fun w => by have hh : (Instr.index 56 (.agg [ptr a0, ptr b0, ptr none].toArray) (.int .i64 2)).run Tryd.prog w = .ok (.pointer none) w := idx3_2 (ptr a0) (ptr b0) (ptr none) w; unfold execOp; simp [Act.eval, hh]) ?_)
            go_roundw
            case rel => exact ⟨3, by omega, rfl, by rw [HM.out]; rfl, HCI.out⟩
            case measure => simp [intOf]
          | some x =>
            go_wp2_with ((with_reducible show wpList _ _ _ (⟨some 20, _, _, _, _, _⟩ :: _) _ _); refine wpList_val rfl (.pointer (some ⟨x, 0, none⟩)) (fun w => by have hh : (Instr.index 56 (.agg [ptr a0, ptr b0, ptr (some x)].toArray) (.int .i64 2)).run Tryd.prog w = .ok (.pointer (some ⟨x, 0, none⟩)) w := idx3_2 (ptr a0) (ptr b0) (ptr (some x)) w; unfold execOp; simp [Act.eval, hh]) ?_)
            go_roundw
            case rel => exact ⟨3, by omega, rfl, by rw [HM.out]; exact congrArg (Value.int .i64) (by simp [b1]), HCI.out⟩
            case measure => simp [intOf]
        · simp only [show ((3 : Nat) : Int) = 3 from rfl]
          go_wp2
          go_roundw
          case rel => exact ⟨1, by omega, rfl, by rw [HN0.out]; rfl, HCI.out⟩
          case measure => simp [intOf]
    · simp only [show ([n0, n1, n2].getD 1 0) = n1 from rfl, show ((1 : Nat) : Int) = 1 from rfl]
      go_wp2_with (first | ((with_reducible show wpList _ _ _ (⟨some 16, _, _, _, _, _⟩ :: _) _ _); refine wpList_val rfl (.agg [ptr a1, ptr b1_, ptr c1].toArray) (fun w => by have hh := idx2_1 (ptr a0) (ptr b0) (ptr c0) (ptr a1) (ptr b1_) (ptr c1) w; unfold execOp; simp [Act.eval, hh]) ?_) | ((with_reducible show wpList _ _ _ (⟨some 5, .alloc 56, _, _, _, _⟩ :: _) _ _); refine wpList_alloc_Row rfl rfl ([ptr none, ptr none, ptr none]) zero3L ?_; intro w2 hr2 hc2 hs2; have HR2 := Lib.hid hr2; have HC2 := Lib.hid (HC.out.trans hc2); clear hr2 hc2 hs2) | ((with_reducible show wpList _ _ _ (⟨_, .store 56 (.tmp 5) _, _, _, _, _⟩ :: _) _ _); refine wpList_store_Row (xs := [ptr a1, ptr b1_, ptr c1]) rfl rfl rfl (HR2.out) (rfl) (by rfl) (by exact size3L) (by rfl) ?_; intro w3 hr3 hc3 hs3; have HR3 := Lib.hid hr3; have HC3 := Lib.hid (hc3 none_ w HC2.out (fun h => by have := HC.out.size; omega)); clear hr3 hc3 hs3) | ((with_reducible show wpList _ _ _ (⟨some 17, .load 56 _, _, _, _, _⟩ :: _) _ _); refine wpList_load_Row rfl rfl rfl (HR3.out) Tryd.underlying56 rfl (by exact size3L) ?_))
      try simp only [Act.put, List.setIfInBounds_toArray, List.set_cons_zero, List.set_cons_succ]
      clear HR2 HC2 HR3
      go_loopw [3, 7, 18] (fun lv _ jv wr => ∃ j : Nat, j ≤ 3 ∧ jv = .int .i64 j ∧ lv = .int .i64 ((n1 + cnt3 a1 b1_ c1 j : Nat) : Int) ∧ Chg none_ w wr) (fun _ _ jv _ => 3 - (intOf jv).toNat)
      case atStart => exact ⟨0, Nat.zero_le _, rfl, rfl, HC3.out⟩
      case round =>
        obtain ⟨j, hj, rfl, rfl, hch⟩ := hrel
        have HCI := Lib.hid hch
        clear hch
        have hj4 : j = 0 ∨ j = 1 ∨ j = 2 ∨ j = 3 := by omega
        rcases hj4 with rfl | rfl | rfl | rfl
        · obtain ⟨m, hm⟩ : ∃ m : Nat, m = n1 + cnt3 a1 b1_ c1 0 := ⟨_, rfl⟩
          rw [← hm]
          have hmb : m ≤ 100 := by rw [hm]; have := HNB.out; have := cnt3_le a1 b1_ c1 0; omega
          have HM : Hid (n1 + cnt3 a1 b1_ c1 1 = m + b1 a1) := Lib.hid (by rw [hm]; show _ = _; simp only [cnt3]; omega)
          clear hm
          simp only [show ((0 : Nat) : Int) = 0 from rfl]
          cases a1 with
          | none =>
            go_wp2_with ((with_reducible show wpList _ _ _ (⟨some 20, _, _, _, _, _⟩ :: _) _ _); refine wpList_val rfl (.pointer none) (fun w => by have hh : (Instr.index 56 (.agg [ptr none, ptr b1_, ptr c1].toArray) (.int .i64 0)).run Tryd.prog w = .ok (.pointer none) w := idx3_0 (ptr none) (ptr b1_) (ptr c1) w; unfold execOp; simp [Act.eval, hh]) ?_)
            go_roundw
            case rel => exact ⟨1, by omega, rfl, by rw [HM.out]; rfl, HCI.out⟩
            case measure => simp [intOf]
          | some x =>
            go_wp2_with ((with_reducible show wpList _ _ _ (⟨some 20, _, _, _, _, _⟩ :: _) _ _); refine wpList_val rfl (.pointer (some ⟨x, 0, none⟩)) (fun w => by have hh : (Instr.index 56 (.agg [ptr (some x), ptr b1_, ptr c1].toArray) (.int .i64 0)).run Tryd.prog w = .ok (.pointer (some ⟨x, 0, none⟩)) w := idx3_0 (ptr (some x)) (ptr b1_) (ptr c1) w; unfold execOp; simp [Act.eval, hh]) ?_)
            go_roundw
            case rel => exact ⟨1, by omega, rfl, by rw [HM.out]; exact congrArg (Value.int .i64) (by simp [b1]), HCI.out⟩
            case measure => simp [intOf]
        · obtain ⟨m, hm⟩ : ∃ m : Nat, m = n1 + cnt3 a1 b1_ c1 1 := ⟨_, rfl⟩
          rw [← hm]
          have hmb : m ≤ 100 := by rw [hm]; have := HNB.out; have := cnt3_le a1 b1_ c1 1; omega
          have HM : Hid (n1 + cnt3 a1 b1_ c1 2 = m + b1 b1_) := Lib.hid (by rw [hm]; show _ = _; simp only [cnt3]; omega)
          clear hm
          simp only [show ((1 : Nat) : Int) = 1 from rfl]
          cases b1_ with
          | none =>
            go_wp2_with ((with_reducible show wpList _ _ _ (⟨some 20, _, _, _, _, _⟩ :: _) _ _); refine wpList_val rfl (.pointer none) (fun w => by have hh : (Instr.index 56 (.agg [ptr a1, ptr none, ptr c1].toArray) (.int .i64 1)).run Tryd.prog w = .ok (.pointer none) w := idx3_1 (ptr a1) (ptr none) (ptr c1) w; unfold execOp; simp [Act.eval, hh]) ?_)
            go_roundw
            case rel => exact ⟨2, by omega, rfl, by rw [HM.out]; rfl, HCI.out⟩
            case measure => simp [intOf]
          | some x =>
            go_wp2_with ((with_reducible show wpList _ _ _ (⟨some 20, _, _, _, _, _⟩ :: _) _ _); refine wpList_val rfl (.pointer (some ⟨x, 0, none⟩)) (fun w => by have hh : (Instr.index 56 (.agg [ptr a1, ptr (some x), ptr c1].toArray) (.int .i64 1)).run Tryd.prog w = .ok (.pointer (some ⟨x, 0, none⟩)) w := idx3_1 (ptr a1) (ptr (some x)) (ptr c1) w; unfold execOp; simp [Act.eval, hh]) ?_)
            go_roundw
            case rel => exact ⟨2, by omega, rfl, by rw [HM.out]; exact congrArg (Value.int .i64) (by simp [b1]), HCI.out⟩
            case measure => simp [intOf]
        · obtain ⟨m, hm⟩ : ∃ m : Nat, m = n1 + cnt3 a1 b1_ c1 2 := ⟨_, rfl⟩
          rw [← hm]
          have hmb : m ≤ 100 := by rw [hm]; have := HNB.out; have := cnt3_le a1 b1_ c1 2; omega
          have HM : Hid (n1 + cnt3 a1 b1_ c1 3 = m + b1 c1) := Lib.hid (by rw [hm]; show _ = _; simp only [cnt3]; omega)
          clear hm
          simp only [show ((2 : Nat) : Int) = 2 from rfl]
          cases c1 with
          | none =>
            go_wp2_with ((with_reducible show wpList _ _ _ (⟨some 20, _, _, _, _, _⟩ :: _) _ _); refine wpList_val rfl (.pointer none) (fun w => by have hh : (Instr.index 56 (.agg [ptr a1, ptr b1_, ptr none].toArray) (.int .i64 2)).run Tryd.prog w = .ok (.pointer none) w := idx3_2 (ptr a1) (ptr b1_) (ptr none) w; unfold execOp; simp [Act.eval, hh]) ?_)
            go_roundw
            case rel => exact ⟨3, by omega, rfl, by rw [HM.out]; rfl, HCI.out⟩
            case measure => simp [intOf]
          | some x =>
            go_wp2_with ((with_reducible show wpList _ _ _ (⟨some 20, _, _, _, _, _⟩ :: _) _ _); refine wpList_val rfl (.pointer (some ⟨x, 0, none⟩)) (fun w => by have hh : (Instr.index 56 (.agg [ptr a1, ptr b1_, ptr (some x)].toArray) (.int .i64 2)).run Tryd.prog w = .ok (.pointer (some ⟨x, 0, none⟩)) w := idx3_2 (ptr a1) (ptr b1_) (ptr (some x)) w; unfold execOp; simp [Act.eval, hh]) ?_)
            go_roundw
            case rel => exact ⟨3, by omega, rfl, by rw [HM.out]; exact congrArg (Value.int .i64) (by simp [b1]), HCI.out⟩
            case measure => simp [intOf]
        · simp only [show ((3 : Nat) : Int) = 3 from rfl]
          go_wp2
          go_roundw
          case rel => exact ⟨2, by omega, rfl, by rw [HN1.out]; rfl, HCI.out⟩
          case measure => simp [intOf]
    · simp only [show ([n0, n1, n2].getD 2 0) = n2 from rfl, show ((2 : Nat) : Int) = 2 from rfl]
      go_wp2
      go_ret
      exact ⟨rfl, HC.out⟩
end Go.Proofs.YtfpflhcabjcamaaDoor
