/- Layer 15 (ledger): the document's example (alive). -/
import Derived.Test.YtakoeamfmmbdiaaV15P
namespace Go.Proofs.Ytakoeamfmmbdiaa
open Go.RowKit

theorem zeroLg : (Try.prog.info? 46).map (·.zero) = some (some (.agg #[.slice none 0 0, .int .i64 0, .int .i64 0])) := by kernel_rfl
theorem LedP.zeroB {w : World} {B g : Nat} (h : Row w g 46 [.slice none 0 0, .int .i64 0, .int .i64 0]) (h1 : g < B) (h2 : B ≤ w.heap.size) : LedP w B g [] 0 0 :=
  ⟨fun _ => False, .slice none 0 0, [], ⟨h, OwnN.nil _ _ _ _ _, fun x hx => (nomatch hx), fun _ h => h.elim, fun _ h => h.elim, fun _ h => h.elim, fun e => (nomatch e)⟩, rfl, h1, h2, ⟨fun s hs => (nomatch hs), by decide, by decide, by decide⟩, fun _ h => h.elim⟩

/-- The example's packet, and so many of them. -/
def p5 : It := ⟨0, 5, 100, true, none, 0, []⟩
def PS (n : Nat) : List Sn := (List.range n).map fun (i : Nat) => ⟨(i : Int), 5, 100, true, []⟩
theorem PS_succ (n : Nat) : PS (n + 1) = PS n ++ [{ p5.pl with num := (n : Int) }] := by
  unfold PS
  rw [List.range_succ, List.map_append]
  rfl
theorem PS_len (n : Nat) : (PS n).length = n := by simp [PS]
theorem p5_D (w : World) : ItD w (fun _ => False) p5 := ⟨View.none_ _ _ _, fun y hy => (nomatch hy), by decide, by decide⟩

section
variable {w : World} {B g : Nat}
theorem aSend (n : Nat) (h : LedP w B g (PS n) n 0) (hn : n < 64) :
    Calls Try.prog 9 #[.pointer (some ⟨g, 0, none⟩), .agg (itc p5).toArray] w fun e w' => e = .returned (.tuple #[.int .i64 (n : Int), .int .i64 0]) ∧ LedP w' B g (PS (n + 1)) (n + 1) 0 ∧ Chg (Tn B g) w w' := by
  rw [PS_succ]
  exact pSend h (p5_D w) (by decide) (by decide) (by rw [PS_len]; exact hn) (by omega)
theorem aSend0 (h : LedP w B g [] 0 0) : Calls Try.prog 9 #[.pointer (some ⟨g, 0, none⟩), .agg (itc p5).toArray] w fun e w' => e = .returned (.tuple #[.int .i64 0, .int .i64 0]) ∧ LedP w' B g (PS 1) 1 0 ∧ Chg (Tn B g) w w' := aSend 0 h (by decide)
theorem aSend1 (h : LedP w B g (PS 1) 1 0) : Calls Try.prog 9 #[.pointer (some ⟨g, 0, none⟩), .agg (itc p5).toArray] w fun e w' => e = .returned (.tuple #[.int .i64 1, .int .i64 0]) ∧ LedP w' B g (PS 2) 2 0 ∧ Chg (Tn B g) w w' := aSend 1 h (by decide)
theorem turnP {pb : Nat} (h1 : g < pb) (h2 : pb < B) : ¬ Tn B g pb := fun h => by
  rcases h with h | h
  · omega
  · have : B ≤ pb := h; omega
theorem turnW {n : Nat} (h1 : n ≤ g) (h2 : g < B) : ∀ b, b < n → Tn B g b → none_ b := fun b hb h => by
  rcases h with h | h
  · omega
  · have : B ≤ b := h; omega
theorem aFlight (h : LedP w B g (PS 2) 2 0) : Calls Try.prog 16 #[.pointer (some ⟨g, 0, none⟩)] w fun e w' => e = .returned (.complex .f64 4611686018427387904 4641240890982006784) ∧ Chg none_ w w' := by
  have := pFlight h
  rw [show flNs (PS 2) = 2 by decide, show flBs (PS 2) = 200 by decide, show dbl 2 = 4611686018427387904 by rw [dbl_def]; decide, show dbl 200 = 4641240890982006784 by rw [dbl_def]; decide] at this
  exact this
theorem aAck {T0 : Nat → Prop} {A : Option Addr} (h : LedP w B g (PS 5) 5 0) (hv : View w T0 A (1 * 2) (([(4, 4)] : List (Nat × Nat)).flatMap rgc)) :
    Calls Try.prog 10 #[.pointer (some ⟨g, 0, none⟩), .slice A 1 1] w fun e w' => ∃ AG cg, e = .returned (.tuple #[.slice AG 1 cg, .int .i64 0]) ∧ LedP w' B g (PS 4) 5 5 ∧ Chg (Tn B g) w w' := by
  refine (pAck (r := [(4, 4)]) (c := 1) h hv (by decide) (by decide)).mono ?_
  rintro e w' ⟨AG, cg, G, rfl, h1, h2, h3, h4⟩
  rw [show (PS 5).filter (fun s => !inS [(4, 4)] s) = PS 4 by decide, show maxS 0 ((PS 5).filter (inS [(4, 4)])) = 5 by decide] at h3
  exact ⟨AG, cg, by rw [show ((PS 5).filter (inS [(4, 4)])).length = 1 by decide], h3, h4⟩
theorem aBad {T0 : Nat → Prop} {A : Option Addr} {P : List Sn} (h : LedP w B g P 5 5) (hv : View w T0 A (1 * 2) (([(9, 9)] : List (Nat × Nat)).flatMap rgc)) :
    Calls Try.prog 10 #[.pointer (some ⟨g, 0, none⟩), .slice A 1 1] w fun e w' => e = .returned (.tuple #[.slice none 0 0, .int .i64 3]) ∧ Chg none_ w w' :=
  pAck_bad (r := [(9, 9)]) (c := 1) h hv (by decide) (by decide)
theorem aLost (h : LedP w B g (PS 4) 5 5) : Calls Try.prog 12 #[.pointer (some ⟨g, 0, none⟩), .int .u64 6, .int .u64 10] w fun e w' => ∃ AG cg, e = .returned (.slice AG 2 cg) ∧ LedP w' B g ((PS 4).drop 2) 5 5 ∧ Chg (Tn B g) w w' := by
  refine (pLost 6 10 h).mono ?_
  rintro e w' ⟨AG, cg, G, rfl, h1, h2, h3, h4⟩
  rw [show (PS 4).filter (fun s => !lostS 5 10 6 s) = (PS 4).drop 2 by decide] at h3
  exact ⟨AG, cg, by rw [show ((PS 4).filter (lostS 5 10 6)).length = 2 by decide], h3, h4⟩
theorem aDue (h : LedP w B g ((PS 4).drop 2) 5 5) : Calls Try.prog 15 #[.pointer (some ⟨g, 0, none⟩), .int .u64 10] w fun e w' => e = .returned (.int .u64 15) ∧ Chg none_ w w' := by
  have := pDue 10 h
  rw [show dueP 5 10 ((PS 4).drop 2) = 15 by decide] at this
  exact this
theorem aAcked {P : List Sn} (h : LedP w B g P 5 5) : Calls Try.prog 18 #[.pointer (some ⟨g, 0, none⟩)] w fun e w' => e = .returned (.int .i64 4) ∧ w = w' := pAcked h
theorem aNext {P : List Sn} (h : LedP w B g P 5 5) : Calls Try.prog 17 #[.pointer (some ⟨g, 0, none⟩)] w fun e w' => e = .returned (.int .i64 5) ∧ w = w' := pNext h
theorem aList (h : LedP w B g ((PS 4).drop 2) 5 5) : Calls Try.prog 13 #[.pointer (some ⟨g, 0, none⟩)] w fun e w' => ∃ AG cg, e = .returned (.slice AG 2 cg) ∧ Chg none_ w w' := by
  refine (pList h).mono ?_
  rintro e w' ⟨AG, cg, G, rfl, _, _, h4⟩
  exact ⟨AG, cg, rfl, h4⟩
theorem aDrop (h : LedP w B g ((PS 4).drop 2) 5 5) : Calls Try.prog 14 #[.pointer (some ⟨g, 0, none⟩)] w fun e w' => e = .returned (.int .i64 2) ∧ LedP w' B g [] 5 5 ∧ Chg (Tn B g) w w' := pDrop h
end
theorem run_sliceR (x : Nat × Nat) (w : World) : (Instr.buildSlice 49 1 #[(0, .agg #[.int .u64 (x.1 : Int), .int .u64 (x.2 : Int)])]).run Try.prog w = .ok (.slice (some ⟨w.heap.size, 0, none⟩) 1 1) (w.alloc (.cells (rgc x).toArray 63)) := by
  obtain ⟨j, hj, hz, hs, _⟩ := infoR
  have hz2 : Array.map (fun x => (rgc (0, 0))[x % 2]?.getD default) (Array.range 2) = (rgc (0, 0)).toArray := by kernel_rfl
  have hf : Instr.fill (fun i => some (i * 2, 2)) (rgc (0, 0)).toArray [(0, .agg #[.int .u64 (x.1 : Int), .int .u64 (x.2 : Int)])] = some (rgc x).toArray := by
    simp [Instr.fill, rgc, Value.cells]
  simp [Instr.buildSlice, run_underlying Try.underlying49, sizeOf, typeInfo, zeroValue, hj, hs, hz, Value.cells, hf, newRow, rgc_len, hz2]
theorem viewR {w : World} {g : Nat} {e : TypeId} {x : Nat × Nat} (h : Row w g e (rgc x)) : View w (fun b => b = g) (some ⟨g, 0, none⟩) (1 * 2) ([x].flatMap rgc) := by
  have := View.row (T := fun b => b = g) (n := 2) h (Nat.le_refl _) rfl
  rw [show List.take 2 (rgc x) = rgc x from rfl] at this
  simpa using this

set_option maxRecDepth 100000 in
set_option maxHeartbeats 4000000 in
theorem alive_any (w : World) : Calls Try.prog 7 #[] w fun e w' => e = .returned (.bool true) ∧ Chg none_ w w' := by
  go_enter Try.func7, Try.ntmps7
  go_wp2_with (first | ((with_reducible show wpList _ _ _ (⟨some 1, .alloc _, _, _, _, _⟩ :: _) _ _); refine wpList_alloc_Row rfl rfl [.slice none 0 0, .int .i64 0, .int .i64 0] zeroLg ?_; intro w1 hr1 hc1 hs1; have HR1 := Lib.hid hr1; have HC1 := Lib.hid hc1; clear hr1 hc1 hs1) | ((with_reducible show wpList _ _ _ (⟨some 2, .alloc _, _, _, _, _⟩ :: _) _ _); refine wpList_alloc_Row rfl rfl (itc it0) zeroS ?_; intro w2 hr2 hc2 hs2; have HR2 := Lib.hid hr2; have HC2 := Lib.hid hc2; clear hr2 hc2 hs2) | ((with_reducible show wpList _ _ _ (⟨none, .store _ (.tmp 2) _, _, _, _, _⟩ :: _) _ _); refine wpList_store_Row (xs := itc p5) rfl rfl rfl HR2.out rfl rfl sizeS rfl ?_; intro w3 hr3 hc3 hs3; have HR3 := Lib.hid hr3; have HC3 := Lib.hid (hc3 none_ w1 HC2.out (fun h => absurd h (Nat.lt_irrefl _))); have HL := Lib.hid (LedP.zeroB (HR1.out.chg HC3.out (fun h => h)) (Nat.lt_of_lt_of_le HR1.out.lt HC3.out.size) (Nat.le_refl w3.heap.size)); have HP := Lib.hid hr3; have HC := Lib.hid (HC1.out.trans HC3.out); have HLT := Lib.hid (And.intro HR1.out.lt hr3.lt); clear hr3 hc3 hs3) | ((with_reducible show wpList _ _ _ (⟨some 16, .load _ _, _, _, _, _⟩ :: _) _ _); refine wpList_load_Row rfl rfl rfl HP.out Try.underlying32 rfl sizeS ?_) | ((with_reducible show wpList _ _ _ (⟨some 21, .load _ _, _, _, _, _⟩ :: _) _ _); refine wpList_load_Row rfl rfl rfl HP.out Try.underlying32 rfl sizeS ?_) | ((with_reducible show Calls _ 9 _ _ _); refine (aSend0 HL.out).mono ?_; rintro e w4 ⟨rfl, hl, hc⟩; have HL := Lib.hid hl; have HP := Lib.hid (HP.out.chg hc (turnP HLT.out.1 HLT.out.2)); have HC := Lib.hid (HC.out.andThen hc (turnW (Nat.le_refl _) (Nat.lt_trans HLT.out.1 HLT.out.2))); clear hl hc) | ((with_reducible show Calls _ 9 _ _ _); refine (aSend1 HL.out).mono ?_; rintro e w4 ⟨rfl, hl, hc⟩; have HL := Lib.hid hl; have HP := Lib.hid (HP.out.chg hc (turnP HLT.out.1 HLT.out.2)); have HC := Lib.hid (HC.out.andThen hc (turnW (Nat.le_refl _) (Nat.lt_trans HLT.out.1 HLT.out.2))); clear hl hc) | ((with_reducible show Calls _ 16 _ _ _); refine (aFlight HL.out).mono ?_; rintro e w4 ⟨rfl, hc⟩; have HL := Lib.hid (HL.out.quiet hc); have HP := Lib.hid (HP.out.chg hc (fun h => h)); have HC := Lib.hid (HC.out.trans hc); clear hc))
  have HF : Hid (w.heap.size < w1.heap.size ∧ w1.heap.size < w3.heap.size) := HLT
  clear HLT HR1 HR2 HR3 HC1 HC2 HC3
  rename_i w5
  go_loopw [8] (fun i wr => ∃ k : Nat, i = .int .i64 (k : Int) ∧ k ≤ 3 ∧ Hid (LedP wr w3.heap.size w.heap.size (PS (2 + k)) (2 + k) 0) ∧ Hid (Row wr w1.heap.size 32 (itc p5)) ∧ Hid (Chg none_ w wr)) (fun i _ => 3 - (intOf i).toNat)
  case atStart => exact ⟨0, rfl, by decide, HL, HP, HC⟩
  case round =>
    clear HL HP HC
    obtain ⟨k, rfl, hk, HL, HP, HC⟩ := hrel
    by_cases hlt : k < 3
    · have k1 : (k : Int) < 3 := by omega
      go_wp2_with (first | ((with_reducible show wpList _ _ _ (⟨some 30, .load _ _, _, _, _, _⟩ :: _) _ _); refine wpList_load_Row rfl rfl rfl HP.out Try.underlying32 rfl sizeS ?_) | ((with_reducible show Calls _ 9 _ _ _); refine (aSend (2 + k) HL.out (by omega)).mono ?_; rintro e w6 ⟨rfl, hl, hc⟩; have HL := Lib.hid hl; have HP := Lib.hid (HP.out.chg hc (turnP HF.out.1 HF.out.2)); have HC := Lib.hid (HC.out.andThen hc (turnW (Nat.le_refl _) (Nat.lt_trans HF.out.1 HF.out.2))); clear hl hc))
      go_roundw
      case rel => exact ⟨k + 1, by go_num, by omega, HL, HP, HC⟩
      case measure => simp [intOf]; omega
    · have hke : k = 3 := by omega
      subst hke
      clear hlt hk
      have ho2 : FloatKind.f64.format.order 4611686018427387904 4611686018427387904 = some .eq := by decide
      have ho3 : FloatKind.f64.format.order 4641240890982006784 4641240890982006784 = some .eq := by decide
      have ho4 : (some Ordering.eq == some Ordering.eq) = true := rfl
      go_wp2_with (first | ((with_reducible show wpList _ _ _ (⟨some 34, _, _, _, _, _⟩ :: _) _ _); refine wpList_newN (f := fun g => .slice (some ⟨g, 0, none⟩) 1 1) (e := 63) (cs := rgc (4, 4)) rfl (fun w_ => by have := run_sliceR (4, 4) w_; simp [execOp, Act.eval] at this ⊢; simp [this]) ?_; intro w7 hr hc hs; have HV := Lib.hid (viewR hr); have HL := Lib.hid (HL.out.quiet hc); have HC := Lib.hid (HC.out.trans hc); clear hr hc hs) | ((with_reducible show wpList _ _ _ (⟨some 41, _, _, _, _, _⟩ :: _) _ _); refine wpList_newN (f := fun g => .slice (some ⟨g, 0, none⟩) 1 1) (e := 63) (cs := rgc (9, 9)) rfl (fun w_ => by have := run_sliceR (9, 9) w_; simp [execOp, Act.eval] at this ⊢; simp [this]) ?_; intro w8 hr hc hs; have HV := Lib.hid (viewR hr); have HL := Lib.hid (HL.out.quiet hc); have HC := Lib.hid (HC.out.trans hc); clear hr hc hs) | ((with_reducible show Calls _ 10 _ _ _); refine (aAck HL.out HV.out).mono ?_; rintro e w9 ⟨AG, cg, rfl, hl, hc⟩; have HL := Lib.hid hl; have HC := Lib.hid (HC.out.andThen hc (turnW (Nat.le_refl _) (Nat.lt_trans HF.out.1 HF.out.2))); clear hl hc) | ((with_reducible show Calls _ 12 _ _ _); refine (aLost HL.out).mono ?_; rintro e w9 ⟨AL, cl, rfl, hl, hc⟩; have HL := Lib.hid hl; have HC := Lib.hid (HC.out.andThen hc (turnW (Nat.le_refl _) (Nat.lt_trans HF.out.1 HF.out.2))); clear hl hc) | ((with_reducible show Calls _ 10 _ _ _); refine (aBad HL.out HV.out).mono ?_; rintro e w9 ⟨rfl, hc⟩; have HL := Lib.hid (HL.out.quiet hc); have HC := Lib.hid (HC.out.trans hc); clear hc) | ((with_reducible show Calls _ 18 _ _ _); refine (aAcked HL.out).mono ?_; rintro e w9 ⟨rfl, rfl⟩) | ((with_reducible show Calls _ 17 _ _ _); refine (aNext HL.out).mono ?_; rintro e w9 ⟨rfl, rfl⟩) | ((with_reducible show Calls _ 15 _ _ _); refine (aDue HL.out).mono ?_; rintro e w9 ⟨rfl, hc⟩; have HL := Lib.hid (HL.out.quiet hc); have HC := Lib.hid (HC.out.trans hc); clear hc) | ((with_reducible show Calls _ 13 _ _ _); refine (aList HL.out).mono ?_; rintro e w9 ⟨AX, cx, rfl, hc⟩; have HL := Lib.hid (HL.out.quiet hc); have HC := Lib.hid (HC.out.trans hc); clear hc) | ((with_reducible show Calls _ 14 _ _ _); refine (aDrop HL.out).mono ?_; rintro e w9 ⟨rfl, hl, hc⟩; have HL := Lib.hid hl; have HC := Lib.hid (HC.out.andThen hc (turnW (Nat.le_refl _) (Nat.lt_trans HF.out.1 HF.out.2))); clear hl hc))
      go_ret
      exact ⟨rfl, HC.out⟩
end Go.Proofs.Ytakoeamfmmbdiaa
