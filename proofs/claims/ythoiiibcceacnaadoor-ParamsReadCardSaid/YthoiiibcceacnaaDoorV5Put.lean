/- Layer 5 (params): parameters' bytes. -/
import Derived.Test.YthoiiibcceacnaaDoorV5Table
import Derived.Test.YthoiiibcceacnaaDoorCatN
namespace Go.Proofs.YthoiiibcceacnaaDoor
open Go.RowKit

/-- An array by value, indexed. -/
theorem index_arr {P : Program} (w : World) (t e : TypeId) (n size : Nat) (cs : Array Value) (i : Nat) (d : TypeDesc) (h : P.underlying t = some (.array n e)) (hu : P.underlying e = some d) (hd : d.isRow = true) (hi : (P.info? e).map (·.size) = some size) (hl : i < n) :
    (Instr.index t (.agg cs) (.int .i64 (i : Int))).run P w = .ok (.agg (cs.extract (i * size) (i * size + size))) w := by
  obtain ⟨i0, e1, e2⟩ : ∃ i0, P.info? e = some i0 ∧ i0.size = size := by
    cases he : P.info? e with
    | none => rw [he] at hi; cases hi
    | some i0 => rw [he] at hi; exact ⟨i0, rfl, by simpa using hi⟩
  subst e2
  cases d <;> simp [TypeDesc.isRow] at hd <;> simp [Instr.index, run_underlying h, asIntOf, hl, part, isAgg, run_underlying hu, sizeOf, typeInfo, e1]
theorem tab_at (gs : Pk → Nat) (i : Nat) (hi : i < 5) (w : World) : (Instr.index 46 (.agg (tabCells gs).toArray) (.int .i64 (i : Int))).run Tryd.prog w = .ok (.agg ((tabCells gs).toArray.extract (i * 3) (i * 3 + 3))) w :=
  index_arr w _ _ 5 3 _ i _ Tryd.underlying46 Tryd.underlying45 rfl sizeK hi

/-- A parameter's bytes; none of one that is left out. -/
def chunk (p : Pm) (k : Pk) : List Nat := if valP k p = [] then [] else encI k.num ++ (encI (valP k p).length ++ valP k p)
def upto (p : Pm) (i : Nat) : List Nat := ((Pk.all.take i).map (chunk p)).flatten
def bytesP (p : Pm) : List Nat := upto p 5
def putP (p : Pm) : List Nat := if mayB p then bytesP p else []

theorem encI_len8 (n : Nat) : (encI n).length ≤ 8 := wideB_len n
theorem valP_len (k : Pk) (p : Pm) (ht : p.tok.length = 16) : (valP k p).length ≤ 16 := by
  have h : ∀ n, (if n = 0 then [] else encI n).length ≤ 16 := fun n => by
    split
    · simp
    · have := encI_len8 n; omega
  cases k
  case token => show (if p.has then p.tok else []).length ≤ 16; split <;> simp [ht]
  all_goals exact h _
theorem chunk_len (k : Pk) (p : Pm) (ht : p.tok.length = 16) : (chunk p k).length ≤ 32 := by
  unfold chunk
  split
  · simp
  · have h1 := encI_len8 k.num
    have h2 := encI_len8 (valP k p).length
    have h3 := valP_len k p ht
    simp only [List.length_append]; omega
theorem upto_len (p : Pm) (ht : p.tok.length = 16) (i : Nat) (hi : i ≤ 5) : (upto p i).length ≤ 200 := by
  have h1 := chunk_len .idle p ht
  have h2 := chunk_len .token p ht
  have h3 := chunk_len .data p ht
  have h4 := chunk_len .stream p ht
  have h5 := chunk_len .streams p ht
  have : i = 0 ∨ i = 1 ∨ i = 2 ∨ i = 3 ∨ i = 4 ∨ i = 5 := by omega
  rcases this with rfl | rfl | rfl | rfl | rfl | rfl <;> simp [upto, Pk.all] <;> omega
theorem upto_no (p : Pm) (i : Nat) (k : Pk) (hk : Pk.all[i]? = some k) (hv : valP k p = []) : upto p (i + 1) = upto p i := by
  unfold upto
  rw [List.take_add_one, hk]
  simp [chunk, hv]
theorem upto_yes (p : Pm) (i : Nat) (k : Pk) (hk : Pk.all[i]? = some k) (hv : valP k p ≠ []) : upto p (i + 1) = upto p i ++ (encI k.num ++ (encI (valP k p).length ++ valP k p)) := by
  unfold upto
  rw [List.take_add_one, hk]
  simp [chunk, hv]

set_option maxRecDepth 100000 in
set_option maxHeartbeats 4000000 in
theorem put_yes (p : Pm) (hm : mayB p = true) (w : World) (ht : p.tok.length = 16) (hT : Tab w) : Calls Tryd.prog 13 #[aggP p] w (BytesNew w (bytesP p)) := by
  unfold aggP
  have hA := (Chg.refl none_ w).alloc (.cells (cellsP p).toArray 25)
  have hR := Row.new w 25 (cellsP p)
  have hl := cP_len p ht
  have HM := Lib.hid (may_any p ht (w.alloc (.cells (cellsP p).toArray 25)))
  unfold aggP at HM
  rw [hm] at HM
  have HTB := Lib.hid (hT.chg hA (fun h => h))
  have HA := Lib.hid hA
  have HR := Lib.hid hR
  have HL := Lib.hid hl
  have HT := Lib.hid ht
  clear hA hR hl ht hT hm
  go_enter Tryd.func13, Tryd.ntmps13
  go_wp2_with (first | ((with_reducible show wpList _ _ _ (⟨_, .load 25 _, _, _, _, _⟩ :: _) _ _); refine wlP rfl rfl rfl HR.out HL.out ?_) | (go_at_call 10; refine HM.out.mono ?_; rintro e w1 ⟨rfl, hc1⟩) | (go_at_call 19; refine (table_any _).mono ?_; rintro e w2 ⟨gs, rfl, hpl, hc2⟩))
  have HC2 := Lib.hid ((HA.out.trans hc1).trans hc2)
  have HR2 := Lib.hid ((HR.out.chg hc1 (fun h => h)).chg hc2 (fun h => h))
  have HPL := Lib.hid hpl
  have HTB2 := Lib.hid ((HTB.out.chg hc1 (fun h => h)).chg hc2 (fun h => h))
  have HUL := Lib.hid (upto_len p HT.out)
  clear hpl hc1 hc2 HM HTB HR HA
  go_loopw [3, 11] (fun v i wr => ∃ (k : Nat) (A : Option Addr) (c : Nat), k ≤ 5 ∧ i = .int .i64 k ∧ v = .slice A (upto p k).length c ∧ View wr (fun b => w.heap.size ≤ b) A (upto p k).length (u8s (upto p k)) ∧ Chg none_ w2 wr) (fun _ i _ => 5 - (intOf i).toNat)
  case atStart => exact ⟨0, none, 0, by omega, rfl, rfl, View.none_ _ _ _, Chg.refl _ _⟩
  case round =>
    obtain ⟨k, A, c, hk, rfl, rfl, hv, hch⟩ := hrel
    have hcase : k = 0 ∨ k = 1 ∨ k = 2 ∨ k = 3 ∨ k = 4 ∨ k = 5 := by omega
    have HV := Lib.hid hv
    have HCH := Lib.hid hch
    clear hk hv hch
    rcases hcase with rfl | hcase
    · have HVAL : Hid (∀ w', Chg none_ w2 w' → Calls Tryd.prog 49 #[aggP p, .pointer (some ⟨gs .idle, 0, none⟩)] w' (BytesNew w' (valP .idle p))) := fun w' hc => value_any p _ .idle (gs .idle) (HTB2.out.chg hc (fun h => h)) ((HPL.out .idle).2.chg hc (fun h => h))
      have HYES := Lib.hid (upto_yes p 0 .idle rfl)
      have HNO := Lib.hid (upto_no p 0 .idle rfl)
      have HL1 := Lib.hid (HUL.out 0 (by omega))
      have HVL := Lib.hid (valP_len .idle p HT.out)
      unfold aggP at HVAL
      have hix : ∀ w, (Instr.index 46 (.agg (tabCells gs).toArray) (.int .i64 0)).run Tryd.prog w = .ok (.agg (cellsK gs .idle).toArray) w := fun w => tab_at gs 0 (by omega) w
      have hst := fun (w : World) (a : Addr) (fn : Fn) (x y : Array Value) => run_store Tryd.prog w a (.func fn x y) .plain rfl
      have HRX : Hid (∀ w', Chg none_ w2 w' → Row w' w.heap.size 25 (cellsP p)) := fun w' hc => HR2.out.chg hc (fun h => h)
      have HTX : Hid (∀ w', Chg none_ w2 w' → Tab w') := fun w' hc => HTB2.out.chg hc (fun h => h)
      generalize hL : valP .idle p = L at HVAL HYES HNO HVL
      clear hL
      generalize hUU : upto p (0 + 1) = U' at HYES HNO
      generalize hU : upto p 0 = U at HYES HNO HL1 HV
      have HUU := Lib.hid hUU
      clear hUU hU
      have HZ2 : Hid (wr.heap.size < (wr.alloc (.cells #[.int .u64 0, .nilFunc, .nilFunc] 45)).heap.size) := by show _ < _; simp
      by_cases hz : L = []
      · subst hz
        obtain rfl := HNO.out rfl
        clear HYES HNO
        go_wp2_with (first | ((with_reducible show wpList _ _ _ (⟨_, .store 45 _ _, _, _, _, _⟩ :: _) _ _); refine wpList_store_Row (xs := cellsK gs .idle) rfl rfl rfl (Row.new wr 45 [.int .u64 0, .nilFunc, .nilFunc]) rfl rfl sizeK rfl ?_; intro w3 hr3 hch3 hs3; have hd3 := hch3 none_ wr ((Chg.refl none_ wr).alloc _) (fun h => absurd h (by omega)); have hc3 := HCH.out.trans hd3; have c0 := hr3.cell 0; have c1 := hr3.cell 1; simp only [cellsK, List.getElem?_cons_zero, List.getElem?_cons_succ, clo, Pk.num] at c0 c1; clear hr3 hch3) | ((with_reducible show wpList _ _ _ (⟨_, .load 25 _, _, _, _, _⟩ :: _) _ _); refine wlP rfl rfl rfl (HRX.out _ (by assumption)) HL.out ?_))
        refine (HVAL.out _ hc3).mono ?_
        rintro e w4 ⟨A1, k1, rfl, _, hc4⟩
        have HD4 := Lib.hid (hd3.trans hc4)
        clear hd3 hc3 hc4 c0 c1
        go_wp2
        go_roundw
        case rel => exact ⟨0 + 1, A, c, by omega, rfl, by rw [HUU.out], by rw [HUU.out]; exact HV.out.chg HD4.out (fun _ _ h => h), HCH.out.trans HD4.out⟩
        case measure => simp [intOf]
      · have hpos : 0 < L.length := List.length_pos_iff.2 hz
        have HZ := Lib.hid hz
        have hl16 := HVL.out
        clear hz HNO
        go_wp2_with (first | ((with_reducible show wpList _ _ _ (⟨_, .store 45 _ _, _, _, _, _⟩ :: _) _ _); refine wpList_store_Row (xs := cellsK gs .idle) rfl rfl rfl (Row.new wr 45 [.int .u64 0, .nilFunc, .nilFunc]) rfl rfl sizeK rfl ?_; intro w3 hr3 hch3 hs3; have hd3 := hch3 none_ wr ((Chg.refl none_ wr).alloc _) (fun h => absurd h (by omega)); have hc3 := HCH.out.trans hd3; have c0 := hr3.cell 0; have c1 := hr3.cell 1; simp only [cellsK, List.getElem?_cons_zero, List.getElem?_cons_succ, clo, Pk.num] at c0 c1; clear hr3 hch3) | ((with_reducible show wpList _ _ _ (⟨_, .load 25 _, _, _, _, _⟩ :: _) _ _); refine wlP rfl rfl rfl (HRX.out _ (by assumption)) HL.out ?_))
        refine (HVAL.out _ hc3).mono ?_
        rintro e w4 ⟨A1, k1, rfl, hv1, hc4⟩
        have c0' := (hc4.cell 0 (by rw [hs3]; exact HZ2.out) (fun h => h)).trans c0
        have HD3 := Lib.hid hd3; have HC4 := Lib.hid hc4; have HV1 := Lib.hid hv1
        have HT4 := Lib.hid (HTX.out _ (hc3.trans hc4))
        clear hd3 hc3 hc4 hv1 c0 c1 hs3
        go_wp2_with fail
        refine (putSlc 1 _ HT4.out).mono ?_
        rintro e w5 ⟨A2, k2, rfl, s2, hc5⟩
        have HT5 := Lib.hid (HT4.out.chg hc5 (fun h => h))
        have S2 := Lib.hid s2; have HC5 := Lib.hid hc5
        clear s2 hc5 c0'
        go_wp2_with fail
        refine (putSlc L.length _ HT5.out).mono ?_
        rintro e w6 ⟨A3, k3, rfl, s3, hc6⟩
        have S3 := Lib.hid s3; have HC6 := Lib.hid hc6
        have HD6 := Lib.hid (((HD3.out.trans HC4.out).trans HC5.out).trans hc6)
        clear s3 hc6
        have hE1 := encI_len8 1
        have hE2 := encI_len8 L.length
        have hL1 := HL1.out
        unfold encI at hE1 hE2
        have HCAT := Lib.hid (cat4 w6 A A2 A3 A1 c k2 k3 k1 U _ _ L ⟨(HV.out.chg HD6.out (fun _ _ h => h)).mono (fun _ _ _ => trivial)⟩ (S2.out.chg HC6.out) S3.out ⟨(HV1.out.chg (HC5.out.trans HC6.out) (fun _ _ h => h)).mono (fun _ _ _ => trivial)⟩ (by omega))
        clear hE1 hE2 hL1
        go_wp2_with fail
        refine HCAT.out.mono ?_
        rintro e w7 ⟨A4, k4, rfl, hv7, hc7⟩
        have HV7 := Lib.hid hv7; have HC7 := Lib.hid hc7
        clear hv7 hc7
        go_wp2
        go_roundw
        case rel =>
          have hu := HYES.out HZ.out
          refine ⟨0 + 1, A4, k4, by omega, rfl, by rw [HUU.out, hu]; simp only [List.length_append, encI, Pk.num], ?_, (HCH.out.trans HD6.out).trans HC7.out⟩
          rw [HUU.out, hu]
          exact HV7.out.mono (fun b _ hb => Nat.le_trans (Nat.le_trans (Nat.le_trans HC2.out.size HCH.out.size) HD6.out.size) hb)
        case measure => simp [intOf]
    rcases hcase with rfl | hcase
    · have HVAL : Hid (∀ w', Chg none_ w2 w' → Calls Tryd.prog 36 #[aggP p] w' (BytesNew w' (valP .token p))) := fun w' hc => valueT_any p _ HT.out
      have HYES := Lib.hid (upto_yes p 1 .token rfl)
      have HNO := Lib.hid (upto_no p 1 .token rfl)
      have HL1 := Lib.hid (HUL.out 1 (by omega))
      have HVL := Lib.hid (valP_len .token p HT.out)
      unfold aggP at HVAL
      have hix : ∀ w, (Instr.index 46 (.agg (tabCells gs).toArray) (.int .i64 1)).run Tryd.prog w = .ok (.agg (cellsK gs .token).toArray) w := fun w => tab_at gs 1 (by omega) w
      have hst := fun (w : World) (a : Addr) (fn : Fn) (x y : Array Value) => run_store Tryd.prog w a (.func fn x y) .plain rfl
      have HRX : Hid (∀ w', Chg none_ w2 w' → Row w' w.heap.size 25 (cellsP p)) := fun w' hc => HR2.out.chg hc (fun h => h)
      have HTX : Hid (∀ w', Chg none_ w2 w' → Tab w') := fun w' hc => HTB2.out.chg hc (fun h => h)
      generalize hL : valP .token p = L at HVAL HYES HNO HVL
      clear hL
      generalize hUU : upto p (1 + 1) = U' at HYES HNO
      generalize hU : upto p 1 = U at HYES HNO HL1 HV
      have HUU := Lib.hid hUU
      clear hUU hU
      have HZ2 : Hid (wr.heap.size < (wr.alloc (.cells #[.int .u64 0, .nilFunc, .nilFunc] 45)).heap.size) := by show _ < _; simp
      by_cases hz : L = []
      · subst hz
        obtain rfl := HNO.out rfl
        clear HYES HNO
        go_wp2_with (first | ((with_reducible show wpList _ _ _ (⟨_, .store 45 _ _, _, _, _, _⟩ :: _) _ _); refine wpList_store_Row (xs := cellsK gs .token) rfl rfl rfl (Row.new wr 45 [.int .u64 0, .nilFunc, .nilFunc]) rfl rfl sizeK rfl ?_; intro w3 hr3 hch3 hs3; have hd3 := hch3 none_ wr ((Chg.refl none_ wr).alloc _) (fun h => absurd h (by omega)); have hc3 := HCH.out.trans hd3; have c0 := hr3.cell 0; have c1 := hr3.cell 1; simp only [cellsK, List.getElem?_cons_zero, List.getElem?_cons_succ, fnv] at c0 c1; clear hr3 hch3) | ((with_reducible show wpList _ _ _ (⟨_, .load 25 _, _, _, _, _⟩ :: _) _ _); refine wlP rfl rfl rfl (HRX.out _ (by assumption)) HL.out ?_))
        refine (HVAL.out _ hc3).mono ?_
        rintro e w4 ⟨A1, k1, rfl, _, hc4⟩
        have HD4 := Lib.hid (hd3.trans hc4)
        clear hd3 hc3 hc4 c0 c1
        go_wp2
        go_roundw
        case rel => exact ⟨1 + 1, A, c, by omega, rfl, by rw [HUU.out], by rw [HUU.out]; exact HV.out.chg HD4.out (fun _ _ h => h), HCH.out.trans HD4.out⟩
        case measure => simp [intOf]
      · have hpos : 0 < L.length := List.length_pos_iff.2 hz
        have HZ := Lib.hid hz
        have hl16 := HVL.out
        clear hz HNO
        go_wp2_with (first | ((with_reducible show wpList _ _ _ (⟨_, .store 45 _ _, _, _, _, _⟩ :: _) _ _); refine wpList_store_Row (xs := cellsK gs .token) rfl rfl rfl (Row.new wr 45 [.int .u64 0, .nilFunc, .nilFunc]) rfl rfl sizeK rfl ?_; intro w3 hr3 hch3 hs3; have hd3 := hch3 none_ wr ((Chg.refl none_ wr).alloc _) (fun h => absurd h (by omega)); have hc3 := HCH.out.trans hd3; have c0 := hr3.cell 0; have c1 := hr3.cell 1; simp only [cellsK, List.getElem?_cons_zero, List.getElem?_cons_succ, fnv] at c0 c1; clear hr3 hch3) | ((with_reducible show wpList _ _ _ (⟨_, .load 25 _, _, _, _, _⟩ :: _) _ _); refine wlP rfl rfl rfl (HRX.out _ (by assumption)) HL.out ?_))
        refine (HVAL.out _ hc3).mono ?_
        rintro e w4 ⟨A1, k1, rfl, hv1, hc4⟩
        have c0' := (hc4.cell 0 (by rw [hs3]; exact HZ2.out) (fun h => h)).trans c0
        have HD3 := Lib.hid hd3; have HC4 := Lib.hid hc4; have HV1 := Lib.hid hv1
        have HT4 := Lib.hid (HTX.out _ (hc3.trans hc4))
        clear hd3 hc3 hc4 hv1 c0 c1 hs3
        go_wp2_with fail
        refine (putSlc 2 _ HT4.out).mono ?_
        rintro e w5 ⟨A2, k2, rfl, s2, hc5⟩
        have HT5 := Lib.hid (HT4.out.chg hc5 (fun h => h))
        have S2 := Lib.hid s2; have HC5 := Lib.hid hc5
        clear s2 hc5 c0'
        go_wp2_with fail
        refine (putSlc L.length _ HT5.out).mono ?_
        rintro e w6 ⟨A3, k3, rfl, s3, hc6⟩
        have S3 := Lib.hid s3; have HC6 := Lib.hid hc6
        have HD6 := Lib.hid (((HD3.out.trans HC4.out).trans HC5.out).trans hc6)
        clear s3 hc6
        have hE1 := encI_len8 2
        have hE2 := encI_len8 L.length
        have hL1 := HL1.out
        unfold encI at hE1 hE2
        have HCAT := Lib.hid (cat4 w6 A A2 A3 A1 c k2 k3 k1 U _ _ L ⟨(HV.out.chg HD6.out (fun _ _ h => h)).mono (fun _ _ _ => trivial)⟩ (S2.out.chg HC6.out) S3.out ⟨(HV1.out.chg (HC5.out.trans HC6.out) (fun _ _ h => h)).mono (fun _ _ _ => trivial)⟩ (by omega))
        clear hE1 hE2 hL1
        go_wp2_with fail
        refine HCAT.out.mono ?_
        rintro e w7 ⟨A4, k4, rfl, hv7, hc7⟩
        have HV7 := Lib.hid hv7; have HC7 := Lib.hid hc7
        clear hv7 hc7
        go_wp2
        go_roundw
        case rel =>
          have hu := HYES.out HZ.out
          refine ⟨1 + 1, A4, k4, by omega, rfl, by rw [HUU.out, hu]; simp only [List.length_append, encI, Pk.num], ?_, (HCH.out.trans HD6.out).trans HC7.out⟩
          rw [HUU.out, hu]
          exact HV7.out.mono (fun b _ hb => Nat.le_trans (Nat.le_trans (Nat.le_trans HC2.out.size HCH.out.size) HD6.out.size) hb)
        case measure => simp [intOf]
    rcases hcase with rfl | hcase
    · have HVAL : Hid (∀ w', Chg none_ w2 w' → Calls Tryd.prog 49 #[aggP p, .pointer (some ⟨gs .data, 0, none⟩)] w' (BytesNew w' (valP .data p))) := fun w' hc => value_any p _ .data (gs .data) (HTB2.out.chg hc (fun h => h)) ((HPL.out .data).2.chg hc (fun h => h))
      have HYES := Lib.hid (upto_yes p 2 .data rfl)
      have HNO := Lib.hid (upto_no p 2 .data rfl)
      have HL1 := Lib.hid (HUL.out 2 (by omega))
      have HVL := Lib.hid (valP_len .data p HT.out)
      unfold aggP at HVAL
      have hix : ∀ w, (Instr.index 46 (.agg (tabCells gs).toArray) (.int .i64 2)).run Tryd.prog w = .ok (.agg (cellsK gs .data).toArray) w := fun w => tab_at gs 2 (by omega) w
      have hst := fun (w : World) (a : Addr) (fn : Fn) (x y : Array Value) => run_store Tryd.prog w a (.func fn x y) .plain rfl
      have HRX : Hid (∀ w', Chg none_ w2 w' → Row w' w.heap.size 25 (cellsP p)) := fun w' hc => HR2.out.chg hc (fun h => h)
      have HTX : Hid (∀ w', Chg none_ w2 w' → Tab w') := fun w' hc => HTB2.out.chg hc (fun h => h)
      generalize hL : valP .data p = L at HVAL HYES HNO HVL
      clear hL
      generalize hUU : upto p (2 + 1) = U' at HYES HNO
      generalize hU : upto p 2 = U at HYES HNO HL1 HV
      have HUU := Lib.hid hUU
      clear hUU hU
      have HZ2 : Hid (wr.heap.size < (wr.alloc (.cells #[.int .u64 0, .nilFunc, .nilFunc] 45)).heap.size) := by show _ < _; simp
      by_cases hz : L = []
      · subst hz
        obtain rfl := HNO.out rfl
        clear HYES HNO
        go_wp2_with (first | ((with_reducible show wpList _ _ _ (⟨_, .store 45 _ _, _, _, _, _⟩ :: _) _ _); refine wpList_store_Row (xs := cellsK gs .data) rfl rfl rfl (Row.new wr 45 [.int .u64 0, .nilFunc, .nilFunc]) rfl rfl sizeK rfl ?_; intro w3 hr3 hch3 hs3; have hd3 := hch3 none_ wr ((Chg.refl none_ wr).alloc _) (fun h => absurd h (by omega)); have hc3 := HCH.out.trans hd3; have c0 := hr3.cell 0; have c1 := hr3.cell 1; simp only [cellsK, List.getElem?_cons_zero, List.getElem?_cons_succ, clo, Pk.num] at c0 c1; clear hr3 hch3) | ((with_reducible show wpList _ _ _ (⟨_, .load 25 _, _, _, _, _⟩ :: _) _ _); refine wlP rfl rfl rfl (HRX.out _ (by assumption)) HL.out ?_))
        refine (HVAL.out _ hc3).mono ?_
        rintro e w4 ⟨A1, k1, rfl, _, hc4⟩
        have HD4 := Lib.hid (hd3.trans hc4)
        clear hd3 hc3 hc4 c0 c1
        go_wp2
        go_roundw
        case rel => exact ⟨2 + 1, A, c, by omega, rfl, by rw [HUU.out], by rw [HUU.out]; exact HV.out.chg HD4.out (fun _ _ h => h), HCH.out.trans HD4.out⟩
        case measure => simp [intOf]
      · have hpos : 0 < L.length := List.length_pos_iff.2 hz
        have HZ := Lib.hid hz
        have hl16 := HVL.out
        clear hz HNO
        go_wp2_with (first | ((with_reducible show wpList _ _ _ (⟨_, .store 45 _ _, _, _, _, _⟩ :: _) _ _); refine wpList_store_Row (xs := cellsK gs .data) rfl rfl rfl (Row.new wr 45 [.int .u64 0, .nilFunc, .nilFunc]) rfl rfl sizeK rfl ?_; intro w3 hr3 hch3 hs3; have hd3 := hch3 none_ wr ((Chg.refl none_ wr).alloc _) (fun h => absurd h (by omega)); have hc3 := HCH.out.trans hd3; have c0 := hr3.cell 0; have c1 := hr3.cell 1; simp only [cellsK, List.getElem?_cons_zero, List.getElem?_cons_succ, clo, Pk.num] at c0 c1; clear hr3 hch3) | ((with_reducible show wpList _ _ _ (⟨_, .load 25 _, _, _, _, _⟩ :: _) _ _); refine wlP rfl rfl rfl (HRX.out _ (by assumption)) HL.out ?_))
        refine (HVAL.out _ hc3).mono ?_
        rintro e w4 ⟨A1, k1, rfl, hv1, hc4⟩
        have c0' := (hc4.cell 0 (by rw [hs3]; exact HZ2.out) (fun h => h)).trans c0
        have HD3 := Lib.hid hd3; have HC4 := Lib.hid hc4; have HV1 := Lib.hid hv1
        have HT4 := Lib.hid (HTX.out _ (hc3.trans hc4))
        clear hd3 hc3 hc4 hv1 c0 c1 hs3
        go_wp2_with fail
        refine (putSlc 4 _ HT4.out).mono ?_
        rintro e w5 ⟨A2, k2, rfl, s2, hc5⟩
        have HT5 := Lib.hid (HT4.out.chg hc5 (fun h => h))
        have S2 := Lib.hid s2; have HC5 := Lib.hid hc5
        clear s2 hc5 c0'
        go_wp2_with fail
        refine (putSlc L.length _ HT5.out).mono ?_
        rintro e w6 ⟨A3, k3, rfl, s3, hc6⟩
        have S3 := Lib.hid s3; have HC6 := Lib.hid hc6
        have HD6 := Lib.hid (((HD3.out.trans HC4.out).trans HC5.out).trans hc6)
        clear s3 hc6
        have hE1 := encI_len8 4
        have hE2 := encI_len8 L.length
        have hL1 := HL1.out
        unfold encI at hE1 hE2
        have HCAT := Lib.hid (cat4 w6 A A2 A3 A1 c k2 k3 k1 U _ _ L ⟨(HV.out.chg HD6.out (fun _ _ h => h)).mono (fun _ _ _ => trivial)⟩ (S2.out.chg HC6.out) S3.out ⟨(HV1.out.chg (HC5.out.trans HC6.out) (fun _ _ h => h)).mono (fun _ _ _ => trivial)⟩ (by omega))
        clear hE1 hE2 hL1
        go_wp2_with fail
        refine HCAT.out.mono ?_
        rintro e w7 ⟨A4, k4, rfl, hv7, hc7⟩
        have HV7 := Lib.hid hv7; have HC7 := Lib.hid hc7
        clear hv7 hc7
        go_wp2
        go_roundw
        case rel =>
          have hu := HYES.out HZ.out
          refine ⟨2 + 1, A4, k4, by omega, rfl, by rw [HUU.out, hu]; simp only [List.length_append, encI, Pk.num], ?_, (HCH.out.trans HD6.out).trans HC7.out⟩
          rw [HUU.out, hu]
          exact HV7.out.mono (fun b _ hb => Nat.le_trans (Nat.le_trans (Nat.le_trans HC2.out.size HCH.out.size) HD6.out.size) hb)
        case measure => simp [intOf]
    rcases hcase with rfl | hcase
    · have HVAL : Hid (∀ w', Chg none_ w2 w' → Calls Tryd.prog 49 #[aggP p, .pointer (some ⟨gs .stream, 0, none⟩)] w' (BytesNew w' (valP .stream p))) := fun w' hc => value_any p _ .stream (gs .stream) (HTB2.out.chg hc (fun h => h)) ((HPL.out .stream).2.chg hc (fun h => h))
      have HYES := Lib.hid (upto_yes p 3 .stream rfl)
      have HNO := Lib.hid (upto_no p 3 .stream rfl)
      have HL1 := Lib.hid (HUL.out 3 (by omega))
      have HVL := Lib.hid (valP_len .stream p HT.out)
      unfold aggP at HVAL
      have hix : ∀ w, (Instr.index 46 (.agg (tabCells gs).toArray) (.int .i64 3)).run Tryd.prog w = .ok (.agg (cellsK gs .stream).toArray) w := fun w => tab_at gs 3 (by omega) w
      have hst := fun (w : World) (a : Addr) (fn : Fn) (x y : Array Value) => run_store Tryd.prog w a (.func fn x y) .plain rfl
      have HRX : Hid (∀ w', Chg none_ w2 w' → Row w' w.heap.size 25 (cellsP p)) := fun w' hc => HR2.out.chg hc (fun h => h)
      have HTX : Hid (∀ w', Chg none_ w2 w' → Tab w') := fun w' hc => HTB2.out.chg hc (fun h => h)
      generalize hL : valP .stream p = L at HVAL HYES HNO HVL
      clear hL
      generalize hUU : upto p (3 + 1) = U' at HYES HNO
      generalize hU : upto p 3 = U at HYES HNO HL1 HV
      have HUU := Lib.hid hUU
      clear hUU hU
      have HZ2 : Hid (wr.heap.size < (wr.alloc (.cells #[.int .u64 0, .nilFunc, .nilFunc] 45)).heap.size) := by show _ < _; simp
      by_cases hz : L = []
      · subst hz
        obtain rfl := HNO.out rfl
        clear HYES HNO
        go_wp2_with (first | ((with_reducible show wpList _ _ _ (⟨_, .store 45 _ _, _, _, _, _⟩ :: _) _ _); refine wpList_store_Row (xs := cellsK gs .stream) rfl rfl rfl (Row.new wr 45 [.int .u64 0, .nilFunc, .nilFunc]) rfl rfl sizeK rfl ?_; intro w3 hr3 hch3 hs3; have hd3 := hch3 none_ wr ((Chg.refl none_ wr).alloc _) (fun h => absurd h (by omega)); have hc3 := HCH.out.trans hd3; have c0 := hr3.cell 0; have c1 := hr3.cell 1; simp only [cellsK, List.getElem?_cons_zero, List.getElem?_cons_succ, clo, Pk.num] at c0 c1; clear hr3 hch3) | ((with_reducible show wpList _ _ _ (⟨_, .load 25 _, _, _, _, _⟩ :: _) _ _); refine wlP rfl rfl rfl (HRX.out _ (by assumption)) HL.out ?_))
        refine (HVAL.out _ hc3).mono ?_
        rintro e w4 ⟨A1, k1, rfl, _, hc4⟩
        have HD4 := Lib.hid (hd3.trans hc4)
        clear hd3 hc3 hc4 c0 c1
        go_wp2
        go_roundw
        case rel => exact ⟨3 + 1, A, c, by omega, rfl, by rw [HUU.out], by rw [HUU.out]; exact HV.out.chg HD4.out (fun _ _ h => h), HCH.out.trans HD4.out⟩
        case measure => simp [intOf]
      · have hpos : 0 < L.length := List.length_pos_iff.2 hz
        have HZ := Lib.hid hz
        have hl16 := HVL.out
        clear hz HNO
        go_wp2_with (first | ((with_reducible show wpList _ _ _ (⟨_, .store 45 _ _, _, _, _, _⟩ :: _) _ _); refine wpList_store_Row (xs := cellsK gs .stream) rfl rfl rfl (Row.new wr 45 [.int .u64 0, .nilFunc, .nilFunc]) rfl rfl sizeK rfl ?_; intro w3 hr3 hch3 hs3; have hd3 := hch3 none_ wr ((Chg.refl none_ wr).alloc _) (fun h => absurd h (by omega)); have hc3 := HCH.out.trans hd3; have c0 := hr3.cell 0; have c1 := hr3.cell 1; simp only [cellsK, List.getElem?_cons_zero, List.getElem?_cons_succ, clo, Pk.num] at c0 c1; clear hr3 hch3) | ((with_reducible show wpList _ _ _ (⟨_, .load 25 _, _, _, _, _⟩ :: _) _ _); refine wlP rfl rfl rfl (HRX.out _ (by assumption)) HL.out ?_))
        refine (HVAL.out _ hc3).mono ?_
        rintro e w4 ⟨A1, k1, rfl, hv1, hc4⟩
        have c0' := (hc4.cell 0 (by rw [hs3]; exact HZ2.out) (fun h => h)).trans c0
        have HD3 := Lib.hid hd3; have HC4 := Lib.hid hc4; have HV1 := Lib.hid hv1
        have HT4 := Lib.hid (HTX.out _ (hc3.trans hc4))
        clear hd3 hc3 hc4 hv1 c0 c1 hs3
        go_wp2_with fail
        refine (putSlc 5 _ HT4.out).mono ?_
        rintro e w5 ⟨A2, k2, rfl, s2, hc5⟩
        have HT5 := Lib.hid (HT4.out.chg hc5 (fun h => h))
        have S2 := Lib.hid s2; have HC5 := Lib.hid hc5
        clear s2 hc5 c0'
        go_wp2_with fail
        refine (putSlc L.length _ HT5.out).mono ?_
        rintro e w6 ⟨A3, k3, rfl, s3, hc6⟩
        have S3 := Lib.hid s3; have HC6 := Lib.hid hc6
        have HD6 := Lib.hid (((HD3.out.trans HC4.out).trans HC5.out).trans hc6)
        clear s3 hc6
        have hE1 := encI_len8 5
        have hE2 := encI_len8 L.length
        have hL1 := HL1.out
        unfold encI at hE1 hE2
        have HCAT := Lib.hid (cat4 w6 A A2 A3 A1 c k2 k3 k1 U _ _ L ⟨(HV.out.chg HD6.out (fun _ _ h => h)).mono (fun _ _ _ => trivial)⟩ (S2.out.chg HC6.out) S3.out ⟨(HV1.out.chg (HC5.out.trans HC6.out) (fun _ _ h => h)).mono (fun _ _ _ => trivial)⟩ (by omega))
        clear hE1 hE2 hL1
        go_wp2_with fail
        refine HCAT.out.mono ?_
        rintro e w7 ⟨A4, k4, rfl, hv7, hc7⟩
        have HV7 := Lib.hid hv7; have HC7 := Lib.hid hc7
        clear hv7 hc7
        go_wp2
        go_roundw
        case rel =>
          have hu := HYES.out HZ.out
          refine ⟨3 + 1, A4, k4, by omega, rfl, by rw [HUU.out, hu]; simp only [List.length_append, encI, Pk.num], ?_, (HCH.out.trans HD6.out).trans HC7.out⟩
          rw [HUU.out, hu]
          exact HV7.out.mono (fun b _ hb => Nat.le_trans (Nat.le_trans (Nat.le_trans HC2.out.size HCH.out.size) HD6.out.size) hb)
        case measure => simp [intOf]
    rcases hcase with rfl | hcase
    · have HVAL : Hid (∀ w', Chg none_ w2 w' → Calls Tryd.prog 49 #[aggP p, .pointer (some ⟨gs .streams, 0, none⟩)] w' (BytesNew w' (valP .streams p))) := fun w' hc => value_any p _ .streams (gs .streams) (HTB2.out.chg hc (fun h => h)) ((HPL.out .streams).2.chg hc (fun h => h))
      have HYES := Lib.hid (upto_yes p 4 .streams rfl)
      have HNO := Lib.hid (upto_no p 4 .streams rfl)
      have HL1 := Lib.hid (HUL.out 4 (by omega))
      have HVL := Lib.hid (valP_len .streams p HT.out)
      unfold aggP at HVAL
      have hix : ∀ w, (Instr.index 46 (.agg (tabCells gs).toArray) (.int .i64 4)).run Tryd.prog w = .ok (.agg (cellsK gs .streams).toArray) w := fun w => tab_at gs 4 (by omega) w
      have hst := fun (w : World) (a : Addr) (fn : Fn) (x y : Array Value) => run_store Tryd.prog w a (.func fn x y) .plain rfl
      have HRX : Hid (∀ w', Chg none_ w2 w' → Row w' w.heap.size 25 (cellsP p)) := fun w' hc => HR2.out.chg hc (fun h => h)
      have HTX : Hid (∀ w', Chg none_ w2 w' → Tab w') := fun w' hc => HTB2.out.chg hc (fun h => h)
      generalize hL : valP .streams p = L at HVAL HYES HNO HVL
      clear hL
      generalize hUU : upto p (4 + 1) = U' at HYES HNO
      generalize hU : upto p 4 = U at HYES HNO HL1 HV
      have HUU := Lib.hid hUU
      clear hUU hU
      have HZ2 : Hid (wr.heap.size < (wr.alloc (.cells #[.int .u64 0, .nilFunc, .nilFunc] 45)).heap.size) := by show _ < _; simp
      by_cases hz : L = []
      · subst hz
        obtain rfl := HNO.out rfl
        clear HYES HNO
        go_wp2_with (first | ((with_reducible show wpList _ _ _ (⟨_, .store 45 _ _, _, _, _, _⟩ :: _) _ _); refine wpList_store_Row (xs := cellsK gs .streams) rfl rfl rfl (Row.new wr 45 [.int .u64 0, .nilFunc, .nilFunc]) rfl rfl sizeK rfl ?_; intro w3 hr3 hch3 hs3; have hd3 := hch3 none_ wr ((Chg.refl none_ wr).alloc _) (fun h => absurd h (by omega)); have hc3 := HCH.out.trans hd3; have c0 := hr3.cell 0; have c1 := hr3.cell 1; simp only [cellsK, List.getElem?_cons_zero, List.getElem?_cons_succ, clo, Pk.num] at c0 c1; clear hr3 hch3) | ((with_reducible show wpList _ _ _ (⟨_, .load 25 _, _, _, _, _⟩ :: _) _ _); refine wlP rfl rfl rfl (HRX.out _ (by assumption)) HL.out ?_))
        refine (HVAL.out _ hc3).mono ?_
        rintro e w4 ⟨A1, k1, rfl, _, hc4⟩
        have HD4 := Lib.hid (hd3.trans hc4)
        clear hd3 hc3 hc4 c0 c1
        go_wp2
        go_roundw
        case rel => exact ⟨4 + 1, A, c, by omega, rfl, by rw [HUU.out], by rw [HUU.out]; exact HV.out.chg HD4.out (fun _ _ h => h), HCH.out.trans HD4.out⟩
        case measure => simp [intOf]
      · have hpos : 0 < L.length := List.length_pos_iff.2 hz
        have HZ := Lib.hid hz
        have hl16 := HVL.out
        clear hz HNO
        go_wp2_with (first | ((with_reducible show wpList _ _ _ (⟨_, .store 45 _ _, _, _, _, _⟩ :: _) _ _); refine wpList_store_Row (xs := cellsK gs .streams) rfl rfl rfl (Row.new wr 45 [.int .u64 0, .nilFunc, .nilFunc]) rfl rfl sizeK rfl ?_; intro w3 hr3 hch3 hs3; have hd3 := hch3 none_ wr ((Chg.refl none_ wr).alloc _) (fun h => absurd h (by omega)); have hc3 := HCH.out.trans hd3; have c0 := hr3.cell 0; have c1 := hr3.cell 1; simp only [cellsK, List.getElem?_cons_zero, List.getElem?_cons_succ, clo, Pk.num] at c0 c1; clear hr3 hch3) | ((with_reducible show wpList _ _ _ (⟨_, .load 25 _, _, _, _, _⟩ :: _) _ _); refine wlP rfl rfl rfl (HRX.out _ (by assumption)) HL.out ?_))
        refine (HVAL.out _ hc3).mono ?_
        rintro e w4 ⟨A1, k1, rfl, hv1, hc4⟩
        have c0' := (hc4.cell 0 (by rw [hs3]; exact HZ2.out) (fun h => h)).trans c0
        have HD3 := Lib.hid hd3; have HC4 := Lib.hid hc4; have HV1 := Lib.hid hv1
        have HT4 := Lib.hid (HTX.out _ (hc3.trans hc4))
        clear hd3 hc3 hc4 hv1 c0 c1 hs3
        go_wp2_with fail
        refine (putSlc 8 _ HT4.out).mono ?_
        rintro e w5 ⟨A2, k2, rfl, s2, hc5⟩
        have HT5 := Lib.hid (HT4.out.chg hc5 (fun h => h))
        have S2 := Lib.hid s2; have HC5 := Lib.hid hc5
        clear s2 hc5 c0'
        go_wp2_with fail
        refine (putSlc L.length _ HT5.out).mono ?_
        rintro e w6 ⟨A3, k3, rfl, s3, hc6⟩
        have S3 := Lib.hid s3; have HC6 := Lib.hid hc6
        have HD6 := Lib.hid (((HD3.out.trans HC4.out).trans HC5.out).trans hc6)
        clear s3 hc6
        have hE1 := encI_len8 8
        have hE2 := encI_len8 L.length
        have hL1 := HL1.out
        unfold encI at hE1 hE2
        have HCAT := Lib.hid (cat4 w6 A A2 A3 A1 c k2 k3 k1 U _ _ L ⟨(HV.out.chg HD6.out (fun _ _ h => h)).mono (fun _ _ _ => trivial)⟩ (S2.out.chg HC6.out) S3.out ⟨(HV1.out.chg (HC5.out.trans HC6.out) (fun _ _ h => h)).mono (fun _ _ _ => trivial)⟩ (by omega))
        clear hE1 hE2 hL1
        go_wp2_with fail
        refine HCAT.out.mono ?_
        rintro e w7 ⟨A4, k4, rfl, hv7, hc7⟩
        have HV7 := Lib.hid hv7; have HC7 := Lib.hid hc7
        clear hv7 hc7
        go_wp2
        go_roundw
        case rel =>
          have hu := HYES.out HZ.out
          refine ⟨4 + 1, A4, k4, by omega, rfl, by rw [HUU.out, hu]; simp only [List.length_append, encI, Pk.num], ?_, (HCH.out.trans HD6.out).trans HC7.out⟩
          rw [HUU.out, hu]
          exact HV7.out.mono (fun b _ hb => Nat.le_trans (Nat.le_trans (Nat.le_trans HC2.out.size HCH.out.size) HD6.out.size) hb)
        case measure => simp [intOf]
    subst hcase
    go_wp2
    go_ret
    exact ⟨A, c, rfl, HV.out, HC2.out.trans HCH.out⟩

theorem put_no (p : Pm) (hm : mayB p = false) (w : World) (ht : p.tok.length = 16) : Calls Tryd.prog 13 #[aggP p] w (BytesNew w []) := by
  unfold aggP
  have hA := (Chg.refl none_ w).alloc (.cells (cellsP p).toArray 25)
  have hR := Row.new w 25 (cellsP p)
  have hl := cP_len p ht
  have HM := Lib.hid (may_any p ht (w.alloc (.cells (cellsP p).toArray 25)))
  unfold aggP at HM
  rw [hm] at HM
  have HA := Lib.hid hA
  have HR := Lib.hid hR
  have HL := Lib.hid hl
  clear hA hR hl ht hm
  go_enter Tryd.func13, Tryd.ntmps13
  go_wp2_with (first | ((with_reducible show wpList _ _ _ (⟨_, .load 25 _, _, _, _, _⟩ :: _) _ _); refine wlP rfl rfl rfl HR.out HL.out ?_) | (go_at_call 10; refine HM.out.mono ?_; rintro e w1 ⟨rfl, hc1⟩))
  go_ret
  exact BytesNew.nil (HA.out.trans hc1)

/-- Put, of whatever parameters. -/
theorem putP_any (p : Pm) (w : World) (ht : p.tok.length = 16) (hT : Tab w) : Calls Tryd.prog 13 #[aggP p] w (BytesNew w (putP p)) := by
  unfold putP
  cases hm : mayB p
  · exact put_no p hm w ht
  · exact put_yes p hm w ht hT
end Go.Proofs.YthoiiibcceacnaaDoor
