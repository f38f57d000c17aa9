/- Layer 10 (keys): packets opened by a ring, in another phase than its peer's keys. -/
import Derived.Test.YtfpflhcabjcamaaDoorV10Ring3
import Derived.Test.YtfpflhcabjcamaaDoorV10Open
namespace Go.Proofs.YtfpflhcabjcamaaDoor
open Go.RowKit

theorem lv3_c1 {w : World} {g : Nat} {x c : Option Nat} {y' : Nat} (h : Row w g 56 [ptr x, ptr (some y'), ptr c]) : w.cell? ⟨g, 1, none⟩ = some (.pointer (some ⟨y', 0, none⟩)) := h.cell 1
theorem lv3_c2 {w : World} {g : Nat} {x y : Option Nat} {q : Nat} (h : Row w g 56 [ptr x, ptr y, ptr (some q)]) : w.cell? ⟨g, 2, none⟩ = some (.pointer (some ⟨q, 0, none⟩)) := h.cell 2
theorem lv3_c2n {w : World} {g : Nat} {x y : Option Nat} (h : Row w g 56 [ptr x, ptr y, ptr none]) : w.cell? ⟨g, 2, none⟩ = some (.pointer none) := h.cell 2
theorem sc_phase_eq {w : World} {g : Nat} {e : TypeId} {s : Sc} {b : Bool} (h : Row w g e (cellsS s)) (o : s.Ok) (hb : s.phase = b) : w.cell? ⟨g, 60, none⟩ = some (.bool b) := by rw [← hb]; exact sc_phase h o

set_option maxRecDepth 100000 in
set_option maxHeartbeats 4000000 in
theorem OO_n_ok (g : Nat) (T : Nat → Prop) (r : Rg) (l : Lv) (k : Int) (more text : List Nat) (T1 T2 : Nat → Prop) (A A' : Option Addr) (cap cap' : Nat) (w : World) (h : RingAt w g T r) (hl : r.l1 = some l) (hT : ¬ T g) (hTn : ∀ b, w.heap.size ≤ b → T b) (hK : KTab w) (ho : l.old = none) (ht0 : (openK (updateN l.peer) k more text).2 = 0) (hm : View w T1 A more.length (u8s more)) (hmc : more.length ≤ cap) (hml : more.length ≤ 100000) (hmb : ∀ x ∈ more, x < 256) (ht : View w T2 A' text.length (u8s text)) (htc : text.length ≤ cap') (htl : text.length ≤ 100000) (htb : ∀ x ∈ text, x < 256) : Calls Tryd.prog 26 #[.pointer (some ⟨g, 0, none⟩), .int .i64 k, .slice A more.length cap, .slice A' text.length cap'] w fun e w' => ∃ v, e = .returned (.tuple #[v, .int .i64 (openK (updateN l.peer) k more text).2]) ∧ Owned w' w.heap.size v (openK (updateN l.peer) k more text).1 ∧ RingAt w' g T ({ r with l1 := some (turnL l) } : Rg) ∧ Chg (· = g) w w' := by
  have HRG := Lib.hid h
  have HGL := Lib.hid h.lt
  obtain ⟨a0, b0, c0, a1, b1, c1, hrow, h0, h1⟩ := h
  rw [hl] at h1
  obtain ⟨o1, o2, x, y, rfl, rfl, tx, ty, hx, hy, hc_⟩ := h1
  rw [ho] at hc_
  subst hc_
  have HR := Lib.hid hrow
  have HY := Lib.hid hy
  have HPO := Lib.hid o2
  obtain ⟨U, hU⟩ : ∃ U, U = updateN l.peer := ⟨_, rfl⟩
  have oU : U.Ok := by rw [hU]; exact updateN_ok _
  have HUP : Hid (∀ w', Chg none_ w w' → Calls Tryd.prog 10 #[.agg (cellsS l.peer).toArray] w' fun e w'' => e = .returned (.agg (cellsS U).toArray) ∧ Chg none_ w' w'') := Lib.hid (fun w' hc => by rw [hU]; exact Update_any l.peer w' o2 (hK.chg hc))
  rw [← hU] at ht0
  rw [← hU]
  obtain ⟨z2, hz2⟩ : ∃ z, z = (openK U k more text).2 := ⟨_, rfl⟩
  obtain ⟨P2, hP2⟩ : ∃ z, z = (openK U k more text).1 := ⟨_, rfl⟩
  have HS2 : Hid (∀ w', Chg none_ w w' → Calls Tryd.prog 12 #[.agg (cellsS U).toArray, .int .i64 k, .slice A more.length cap, .slice A' text.length cap'] w' fun e w'' => ∃ v, e = .returned (.tuple #[v, .int .i64 z2]) ∧ Owned w'' w'.heap.size v P2 ∧ Chg none_ w' w'') := Lib.hid (fun w' hc => by rw [hz2, hP2]; exact kOpen_any U k more text T1 T2 A A' cap cap' w' oU (hm.chg hc (fun _ _ h => h)) hmc htc hml hmb (ht.chg hc (fun _ _ h => h)) htl htb)
  rw [← hz2] at ht0
  rw [← hz2, ← hP2]
  have HTU : Hid (∀ w', Chg none_ w w' → Calls Tryd.prog 9 #[.pointer (some ⟨g, 0, none⟩)] w' fun e w'' => e = .returned (.bool true) ∧ RingAt w'' g T { r with l1 := some (turnL l) } ∧ Chg (· = g) w' w'') := Lib.hid (fun w' hc => TurnY_any g T r l w' (HRG.out.quiet hc) hl hT (fun b hb => hTn b (Nat.le_trans hc.size hb)) (hK.chg hc))
  clear hm hmc hml hmb ht htc htl htb hrow h0 hx hy o1 o2 tx ty hK hT hTn hl ho hz2 hP2 hU oU
  subst ht0
  go_enter Tryd.func26, Tryd.ntmps26
  go_wp2_with (first | ((with_reducible show wpList _ _ _ (⟨some 19, .load 56 _, _, _, _, _⟩ :: _) _ _); refine wpList_load_Mid (cs := [ptr (some x), ptr (some y), ptr none]) rfl rfl rfl (ring_mid1 HR.out) Tryd.underlying56 rfl (size3L) ?_) | ((with_reducible show wpList _ _ _ (⟨some 10, .alloc 56, _, _, _, _⟩ :: _) _ _); refine wpList_alloc_Row rfl rfl ([ptr none, ptr none, ptr none]) zero3L ?_; intro w1 hr1 hc1 hs1; have HR1 := Lib.hid hr1; have HC1 := Lib.hid hc1; clear hr1 hc1 hs1) | ((with_reducible show wpList _ _ _ (⟨_, .store 56 (.tmp 10) _, _, _, _, _⟩ :: _) _ _); refine wpList_store_Row (xs := [ptr (some x), ptr (some y), ptr none]) rfl rfl rfl (HR1.out) (rfl) (rfl) (size3L) (rfl) ?_; intro w2 hr2 hc2 hs2; have HL2 := Lib.hid hr2; have HC2 := Lib.hid (hc2 none_ w HC1.out (fun h => by omega)); have c2_ := lv3_c2n hr2; have c1_ := lv3_c1 hr2; have HX2 := Lib.hid (HY.out.chg HC2.out (fun h => h)); clear hr2 hc2 hs2) | ((with_reducible show wpList _ _ _ (⟨some 42, .load 36 _, _, _, _, _⟩ :: _) _ _); refine wpList_load_Row rfl rfl rfl (HX2.out) Tryd.underlying36 rfl (by rw [cellsS_len HPO.out]; exact sizeSc) ?_) | (go_at_call 10; with_reducible refine (HUP.out _ HC2.out).mono ?_; rintro e w4 ⟨rfl, hc4⟩; have HC4 := Lib.hid (HC2.out.trans hc4); clear hc4) | (go_at_call 12; with_reducible refine (HS2.out _ HC4.out).mono ?_; rintro e w5 ⟨v5, rfl, ho5, hc5⟩; have HC5 := Lib.hid (HC4.out.trans hc5); have HO5 := Lib.hid ho5; clear ho5 hc5) | (go_at_call 9; with_reducible refine (HTU.out _ HC5.out).mono ?_; rintro e w6 ⟨rfl, hr6, hc6⟩; have HC6 := Lib.hid (HC5.out.ofN.trans hc6); have HRG6 := Lib.hid hr6; have HO6 := Lib.hid (HO5.out.chg hc6 (fun b hb e => by have := HGL.out; have := HC4.out.size; omega)); clear hr6 hc6))
  go_ret2
  exact ⟨v5, rfl, HO6.out.lowK HC4.out.size, HRG6.out, HC6.out⟩

set_option maxRecDepth 100000 in
set_option maxHeartbeats 4000000 in
theorem OO_n_fail (g : Nat) (T : Nat → Prop) (r : Rg) (l : Lv) (k : Int) (more text : List Nat) (T1 T2 : Nat → Prop) (A A' : Option Addr) (cap cap' : Nat) (w : World) (h : RingAt w g T r) (hl : r.l1 = some l) (_hT : ¬ T g) (_hTn : ∀ b, w.heap.size ≤ b → T b) (hK : KTab w) (ho : l.old = none) (ht0 : (openK (updateN l.peer) k more text).2 ≠ 0) (hm : View w T1 A more.length (u8s more)) (hmc : more.length ≤ cap) (hml : more.length ≤ 100000) (hmb : ∀ x ∈ more, x < 256) (ht : View w T2 A' text.length (u8s text)) (htc : text.length ≤ cap') (htl : text.length ≤ 100000) (htb : ∀ x ∈ text, x < 256) : Calls Tryd.prog 26 #[.pointer (some ⟨g, 0, none⟩), .int .i64 k, .slice A more.length cap, .slice A' text.length cap'] w fun e w' => ∃ v, e = .returned (.tuple #[v, .int .i64 (openK (updateN l.peer) k more text).2]) ∧ Owned w' w.heap.size v (openK (updateN l.peer) k more text).1 ∧ RingAt w' g T (r : Rg) ∧ Chg (· = g) w w' := by
  have HRG := Lib.hid h
  have HGL := Lib.hid h.lt
  obtain ⟨a0, b0, c0, a1, b1, c1, hrow, h0, h1⟩ := h
  rw [hl] at h1
  obtain ⟨o1, o2, x, y, rfl, rfl, tx, ty, hx, hy, hc_⟩ := h1
  rw [ho] at hc_
  subst hc_
  have HR := Lib.hid hrow
  have HY := Lib.hid hy
  have HPO := Lib.hid o2
  obtain ⟨U, hU⟩ : ∃ U, U = updateN l.peer := ⟨_, rfl⟩
  have oU : U.Ok := by rw [hU]; exact updateN_ok _
  have HUP : Hid (∀ w', Chg none_ w w' → Calls Tryd.prog 10 #[.agg (cellsS l.peer).toArray] w' fun e w'' => e = .returned (.agg (cellsS U).toArray) ∧ Chg none_ w' w'') := Lib.hid (fun w' hc => by rw [hU]; exact Update_any l.peer w' o2 (hK.chg hc))
  rw [← hU] at ht0
  rw [← hU]
  obtain ⟨z2, hz2⟩ : ∃ z, z = (openK U k more text).2 := ⟨_, rfl⟩
  obtain ⟨P2, hP2⟩ : ∃ z, z = (openK U k more text).1 := ⟨_, rfl⟩
  have HS2 : Hid (∀ w', Chg none_ w w' → Calls Tryd.prog 12 #[.agg (cellsS U).toArray, .int .i64 k, .slice A more.length cap, .slice A' text.length cap'] w' fun e w'' => ∃ v, e = .returned (.tuple #[v, .int .i64 z2]) ∧ Owned w'' w'.heap.size v P2 ∧ Chg none_ w' w'') := Lib.hid (fun w' hc => by rw [hz2, hP2]; exact kOpen_any U k more text T1 T2 A A' cap cap' w' oU (hm.chg hc (fun _ _ h => h)) hmc htc hml hmb (ht.chg hc (fun _ _ h => h)) htl htb)
  rw [← hz2] at ht0
  rw [← hz2, ← hP2]
  clear hm hmc hml hmb ht htc htl htb hrow h0 hx hy o1 o2 tx ty hK _hT _hTn hl ho hz2 hP2 hU oU
  go_enter Tryd.func26, Tryd.ntmps26
  go_wp2_with (first | ((with_reducible show wpList _ _ _ (⟨some 19, .load 56 _, _, _, _, _⟩ :: _) _ _); refine wpList_load_Mid (cs := [ptr (some x), ptr (some y), ptr none]) rfl rfl rfl (ring_mid1 HR.out) Tryd.underlying56 rfl (size3L) ?_) | ((with_reducible show wpList _ _ _ (⟨some 10, .alloc 56, _, _, _, _⟩ :: _) _ _); refine wpList_alloc_Row rfl rfl ([ptr none, ptr none, ptr none]) zero3L ?_; intro w1 hr1 hc1 hs1; have HR1 := Lib.hid hr1; have HC1 := Lib.hid hc1; clear hr1 hc1 hs1) | ((with_reducible show wpList _ _ _ (⟨_, .store 56 (.tmp 10) _, _, _, _, _⟩ :: _) _ _); refine wpList_store_Row (xs := [ptr (some x), ptr (some y), ptr none]) rfl rfl rfl (HR1.out) (rfl) (rfl) (size3L) (rfl) ?_; intro w2 hr2 hc2 hs2; have HL2 := Lib.hid hr2; have HC2 := Lib.hid (hc2 none_ w HC1.out (fun h => by omega)); have c2_ := lv3_c2n hr2; have c1_ := lv3_c1 hr2; have HX2 := Lib.hid (HY.out.chg HC2.out (fun h => h)); clear hr2 hc2 hs2) | ((with_reducible show wpList _ _ _ (⟨some 42, .load 36 _, _, _, _, _⟩ :: _) _ _); refine wpList_load_Row rfl rfl rfl (HX2.out) Tryd.underlying36 rfl (by rw [cellsS_len HPO.out]; exact sizeSc) ?_) | (go_at_call 10; with_reducible refine (HUP.out _ HC2.out).mono ?_; rintro e w4 ⟨rfl, hc4⟩; have HC4 := Lib.hid (HC2.out.trans hc4); clear hc4) | (go_at_call 12; with_reducible refine (HS2.out _ HC4.out).mono ?_; rintro e w5 ⟨v5, rfl, ho5, hc5⟩; have HC5 := Lib.hid (HC4.out.trans hc5); have HO5 := Lib.hid ho5; clear ho5 hc5))
  go_ret2
  exact ⟨v5, rfl, HO5.out.lowK HC4.out.size, HRG.out.quiet HC5.out, HC5.out.ofN⟩

set_option maxRecDepth 100000 in
set_option maxHeartbeats 4000000 in
theorem OO_f_ok (g : Nat) (T : Nat → Prop) (r : Rg) (l : Lv) (k : Int) (more text : List Nat) (T1 T2 : Nat → Prop) (A A' : Option Addr) (cap cap' : Nat) (w : World) (h : RingAt w g T r) (hl : r.l1 = some l) (hT : ¬ T g) (hTn : ∀ b, w.heap.size ≤ b → T b) (hK : KTab w) (q_ : Sc) (ho : l.old = some q_) (hq0 : (openK q_ k more text).2 ≠ 0) (ht0 : (openK (updateN l.peer) k more text).2 = 0) (hm : View w T1 A more.length (u8s more)) (hmc : more.length ≤ cap) (hml : more.length ≤ 100000) (hmb : ∀ x ∈ more, x < 256) (ht : View w T2 A' text.length (u8s text)) (htc : text.length ≤ cap') (htl : text.length ≤ 100000) (htb : ∀ x ∈ text, x < 256) : Calls Tryd.prog 26 #[.pointer (some ⟨g, 0, none⟩), .int .i64 k, .slice A more.length cap, .slice A' text.length cap'] w fun e w' => ∃ v, e = .returned (.tuple #[v, .int .i64 (openK (updateN l.peer) k more text).2]) ∧ Owned w' w.heap.size v (openK (updateN l.peer) k more text).1 ∧ RingAt w' g T ({ r with l1 := some (turnL l) } : Rg) ∧ Chg (· = g) w w' := by
  have HRG := Lib.hid h
  have HGL := Lib.hid h.lt
  obtain ⟨a0, b0, c0, a1, b1, c1, hrow, h0, h1⟩ := h
  rw [hl] at h1
  obtain ⟨o1, o2, x, y, rfl, rfl, tx, ty, hx, hy, hc_⟩ := h1
  rw [ho] at hc_
  obtain ⟨oq, q, rfl, tq, hq⟩ := hc_
  have HQ := Lib.hid hq
  have HQO := Lib.hid oq
  have HR := Lib.hid hrow
  have HY := Lib.hid hy
  have HPO := Lib.hid o2
  obtain ⟨z1, hz1⟩ : ∃ z, z = (openK q_ k more text).2 := ⟨_, rfl⟩
  obtain ⟨P1, hP1⟩ : ∃ z, z = (openK q_ k more text).1 := ⟨_, rfl⟩
  have HS1 : Hid (∀ w', Chg none_ w w' → Calls Tryd.prog 12 #[.agg (cellsS q_).toArray, .int .i64 k, .slice A more.length cap, .slice A' text.length cap'] w' fun e w'' => ∃ v, e = .returned (.tuple #[v, .int .i64 z1]) ∧ Owned w'' w'.heap.size v P1 ∧ Chg none_ w' w'') := Lib.hid (fun w' hc => by rw [hz1, hP1]; exact kOpen_any q_ k more text T1 T2 A A' cap cap' w' oq (hm.chg hc (fun _ _ h => h)) hmc htc hml hmb (ht.chg hc (fun _ _ h => h)) htl htb)
  rw [← hz1] at hq0
  obtain ⟨U, hU⟩ : ∃ U, U = updateN l.peer := ⟨_, rfl⟩
  have oU : U.Ok := by rw [hU]; exact updateN_ok _
  have HUP : Hid (∀ w', Chg none_ w w' → Calls Tryd.prog 10 #[.agg (cellsS l.peer).toArray] w' fun e w'' => e = .returned (.agg (cellsS U).toArray) ∧ Chg none_ w' w'') := Lib.hid (fun w' hc => by rw [hU]; exact Update_any l.peer w' o2 (hK.chg hc))
  rw [← hU] at ht0
  rw [← hU]
  obtain ⟨z2, hz2⟩ : ∃ z, z = (openK U k more text).2 := ⟨_, rfl⟩
  obtain ⟨P2, hP2⟩ : ∃ z, z = (openK U k more text).1 := ⟨_, rfl⟩
  have HS2 : Hid (∀ w', Chg none_ w w' → Calls Tryd.prog 12 #[.agg (cellsS U).toArray, .int .i64 k, .slice A more.length cap, .slice A' text.length cap'] w' fun e w'' => ∃ v, e = .returned (.tuple #[v, .int .i64 z2]) ∧ Owned w'' w'.heap.size v P2 ∧ Chg none_ w' w'') := Lib.hid (fun w' hc => by rw [hz2, hP2]; exact kOpen_any U k more text T1 T2 A A' cap cap' w' oU (hm.chg hc (fun _ _ h => h)) hmc htc hml hmb (ht.chg hc (fun _ _ h => h)) htl htb)
  rw [← hz2] at ht0
  rw [← hz2, ← hP2]
  have HTU : Hid (∀ w', Chg none_ w w' → Calls Tryd.prog 9 #[.pointer (some ⟨g, 0, none⟩)] w' fun e w'' => e = .returned (.bool true) ∧ RingAt w'' g T { r with l1 := some (turnL l) } ∧ Chg (· = g) w' w'') := Lib.hid (fun w' hc => TurnY_any g T r l w' (HRG.out.quiet hc) hl hT (fun b hb => hTn b (Nat.le_trans hc.size hb)) (hK.chg hc))
  clear hm hmc hml hmb ht htc htl htb hrow h0 hx hy o1 o2 tx ty hK hT hTn hl ho hz1 hP1 tq hq oq hz2 hP2 hU oU
  have hq0' : ¬ z1 = 0 := hq0
  subst ht0
  go_enter Tryd.func26, Tryd.ntmps26
  go_wp2_with (first | ((with_reducible show wpList _ _ _ (⟨some 19, .load 56 _, _, _, _, _⟩ :: _) _ _); refine wpList_load_Mid (cs := [ptr (some x), ptr (some y), ptr (some q)]) rfl rfl rfl (ring_mid1 HR.out) Tryd.underlying56 rfl (size3L) ?_) | ((with_reducible show wpList _ _ _ (⟨some 10, .alloc 56, _, _, _, _⟩ :: _) _ _); refine wpList_alloc_Row rfl rfl ([ptr none, ptr none, ptr none]) zero3L ?_; intro w1 hr1 hc1 hs1; have HR1 := Lib.hid hr1; have HC1 := Lib.hid hc1; clear hr1 hc1 hs1) | ((with_reducible show wpList _ _ _ (⟨_, .store 56 (.tmp 10) _, _, _, _, _⟩ :: _) _ _); refine wpList_store_Row (xs := [ptr (some x), ptr (some y), ptr (some q)]) rfl rfl rfl (HR1.out) (rfl) (rfl) (size3L) (rfl) ?_; intro w2 hr2 hc2 hs2; have HL2 := Lib.hid hr2; have HC2 := Lib.hid (hc2 none_ w HC1.out (fun h => by omega)); have c2_ := lv3_c2 hr2; have c1_ := lv3_c1 hr2; have HX2 := Lib.hid (HY.out.chg HC2.out (fun h => h)); clear hr2 hc2 hs2) | ((with_reducible show wpList _ _ _ (⟨some 27, .load 36 _, _, _, _, _⟩ :: _) _ _); refine wpList_load_Row rfl rfl rfl (HQ.out.chg HC2.out (fun h => h)) Tryd.underlying36 rfl (by rw [cellsS_len HQO.out]; exact sizeSc) ?_) | (go_at_call 12; with_reducible refine (HS1.out _ HC2.out).mono ?_; rintro e w3 ⟨v3, rfl, ho3, hc3⟩; have HC3 := Lib.hid (HC2.out.trans hc3); have HO3 := Lib.hid ho3; have HX3 := Lib.hid (HX2.out.chg hc3 (fun h => h)); have c3_ := lv3_c1 (HL2.out.chg hc3 (fun h => h)); clear ho3 hc3) | ((with_reducible show wpList _ _ _ (⟨some 42, .load 36 _, _, _, _, _⟩ :: _) _ _); refine wpList_load_Row rfl rfl rfl (HX3.out) Tryd.underlying36 rfl (by rw [cellsS_len HPO.out]; exact sizeSc) ?_) | (go_at_call 10; with_reducible refine (HUP.out _ HC3.out).mono ?_; rintro e w4 ⟨rfl, hc4⟩; have HC4 := Lib.hid (HC3.out.trans hc4); clear hc4) | (go_at_call 12; with_reducible refine (HS2.out _ HC4.out).mono ?_; rintro e w5 ⟨v5, rfl, ho5, hc5⟩; have HC5 := Lib.hid (HC4.out.trans hc5); have HO5 := Lib.hid ho5; clear ho5 hc5) | (go_at_call 9; with_reducible refine (HTU.out _ HC5.out).mono ?_; rintro e w6 ⟨rfl, hr6, hc6⟩; have HC6 := Lib.hid (HC5.out.ofN.trans hc6); have HRG6 := Lib.hid hr6; have HO6 := Lib.hid (HO5.out.chg hc6 (fun b hb e => by have := HGL.out; have := HC4.out.size; omega)); clear hr6 hc6))
  go_ret2
  exact ⟨v5, rfl, HO6.out.lowK HC4.out.size, HRG6.out, HC6.out⟩

set_option maxRecDepth 100000 in
set_option maxHeartbeats 4000000 in
theorem OO_f_fail (g : Nat) (T : Nat → Prop) (r : Rg) (l : Lv) (k : Int) (more text : List Nat) (T1 T2 : Nat → Prop) (A A' : Option Addr) (cap cap' : Nat) (w : World) (h : RingAt w g T r) (hl : r.l1 = some l) (_hT : ¬ T g) (_hTn : ∀ b, w.heap.size ≤ b → T b) (hK : KTab w) (q_ : Sc) (ho : l.old = some q_) (hq0 : (openK q_ k more text).2 ≠ 0) (ht0 : (openK (updateN l.peer) k more text).2 ≠ 0) (hm : View w T1 A more.length (u8s more)) (hmc : more.length ≤ cap) (hml : more.length ≤ 100000) (hmb : ∀ x ∈ more, x < 256) (ht : View w T2 A' text.length (u8s text)) (htc : text.length ≤ cap') (htl : text.length ≤ 100000) (htb : ∀ x ∈ text, x < 256) : Calls Tryd.prog 26 #[.pointer (some ⟨g, 0, none⟩), .int .i64 k, .slice A more.length cap, .slice A' text.length cap'] w fun e w' => ∃ v, e = .returned (.tuple #[v, .int .i64 (openK (updateN l.peer) k more text).2]) ∧ Owned w' w.heap.size v (openK (updateN l.peer) k more text).1 ∧ RingAt w' g T (r : Rg) ∧ Chg (· = g) w w' := by
  have HRG := Lib.hid h
  have HGL := Lib.hid h.lt
  obtain ⟨a0, b0, c0, a1, b1, c1, hrow, h0, h1⟩ := h
  rw [hl] at h1
  obtain ⟨o1, o2, x, y, rfl, rfl, tx, ty, hx, hy, hc_⟩ := h1
  rw [ho] at hc_
  obtain ⟨oq, q, rfl, tq, hq⟩ := hc_
  have HQ := Lib.hid hq
  have HQO := Lib.hid oq
  have HR := Lib.hid hrow
  have HY := Lib.hid hy
  have HPO := Lib.hid o2
  obtain ⟨z1, hz1⟩ : ∃ z, z = (openK q_ k more text).2 := ⟨_, rfl⟩
  obtain ⟨P1, hP1⟩ : ∃ z, z = (openK q_ k more text).1 := ⟨_, rfl⟩
  have HS1 : Hid (∀ w', Chg none_ w w' → Calls Tryd.prog 12 #[.agg (cellsS q_).toArray, .int .i64 k, .slice A more.length cap, .slice A' text.length cap'] w' fun e w'' => ∃ v, e = .returned (.tuple #[v, .int .i64 z1]) ∧ Owned w'' w'.heap.size v P1 ∧ Chg none_ w' w'') := Lib.hid (fun w' hc => by rw [hz1, hP1]; exact kOpen_any q_ k more text T1 T2 A A' cap cap' w' oq (hm.chg hc (fun _ _ h => h)) hmc htc hml hmb (ht.chg hc (fun _ _ h => h)) htl htb)
  rw [← hz1] at hq0
  obtain ⟨U, hU⟩ : ∃ U, U = updateN l.peer := ⟨_, rfl⟩
  have oU : U.Ok := by rw [hU]; exact updateN_ok _
  have HUP : Hid (∀ w', Chg none_ w w' → Calls Tryd.prog 10 #[.agg (cellsS l.peer).toArray] w' fun e w'' => e = .returned (.agg (cellsS U).toArray) ∧ Chg none_ w' w'') := Lib.hid (fun w' hc => by rw [hU]; exact Update_any l.peer w' o2 (hK.chg hc))
  rw [← hU] at ht0
  rw [← hU]
  obtain ⟨z2, hz2⟩ : ∃ z, z = (openK U k more text).2 := ⟨_, rfl⟩
  obtain ⟨P2, hP2⟩ : ∃ z, z = (openK U k more text).1 := ⟨_, rfl⟩
  have HS2 : Hid (∀ w', Chg none_ w w' → Calls Tryd.prog 12 #[.agg (cellsS U).toArray, .int .i64 k, .slice A more.length cap, .slice A' text.length cap'] w' fun e w'' => ∃ v, e = .returned (.tuple #[v, .int .i64 z2]) ∧ Owned w'' w'.heap.size v P2 ∧ Chg none_ w' w'') := Lib.hid (fun w' hc => by rw [hz2, hP2]; exact kOpen_any U k more text T1 T2 A A' cap cap' w' oU (hm.chg hc (fun _ _ h => h)) hmc htc hml hmb (ht.chg hc (fun _ _ h => h)) htl htb)
  rw [← hz2] at ht0
  rw [← hz2, ← hP2]
  clear hm hmc hml hmb ht htc htl htb hrow h0 hx hy o1 o2 tx ty hK _hT _hTn hl ho hz1 hP1 tq hq oq hz2 hP2 hU oU
  have hq0' : ¬ z1 = 0 := hq0
  go_enter Tryd.func26, Tryd.ntmps26
  go_wp2_with (first | ((with_reducible show wpList _ _ _ (⟨some 19, .load 56 _, _, _, _, _⟩ :: _) _ _); refine wpList_load_Mid (cs := [ptr (some x), ptr (some y), ptr (some q)]) rfl rfl rfl (ring_mid1 HR.out) Tryd.underlying56 rfl (size3L) ?_) | ((with_reducible show wpList _ _ _ (⟨some 10, .alloc 56, _, _, _, _⟩ :: _) _ _); refine wpList_alloc_Row rfl rfl ([ptr none, ptr none, ptr none]) zero3L ?_; intro w1 hr1 hc1 hs1; have HR1 := Lib.hid hr1; have HC1 := Lib.hid hc1; clear hr1 hc1 hs1) | ((with_reducible show wpList _ _ _ (⟨_, .store 56 (.tmp 10) _, _, _, _, _⟩ :: _) _ _); refine wpList_store_Row (xs := [ptr (some x), ptr (some y), ptr (some q)]) rfl rfl rfl (HR1.out) (rfl) (rfl) (size3L) (rfl) ?_; intro w2 hr2 hc2 hs2; have HL2 := Lib.hid hr2; have HC2 := Lib.hid (hc2 none_ w HC1.out (fun h => by omega)); have c2_ := lv3_c2 hr2; have c1_ := lv3_c1 hr2; have HX2 := Lib.hid (HY.out.chg HC2.out (fun h => h)); clear hr2 hc2 hs2) | ((with_reducible show wpList _ _ _ (⟨some 27, .load 36 _, _, _, _, _⟩ :: _) _ _); refine wpList_load_Row rfl rfl rfl (HQ.out.chg HC2.out (fun h => h)) Tryd.underlying36 rfl (by rw [cellsS_len HQO.out]; exact sizeSc) ?_) | (go_at_call 12; with_reducible refine (HS1.out _ HC2.out).mono ?_; rintro e w3 ⟨v3, rfl, ho3, hc3⟩; have HC3 := Lib.hid (HC2.out.trans hc3); have HO3 := Lib.hid ho3; have HX3 := Lib.hid (HX2.out.chg hc3 (fun h => h)); have c3_ := lv3_c1 (HL2.out.chg hc3 (fun h => h)); clear ho3 hc3) | ((with_reducible show wpList _ _ _ (⟨some 42, .load 36 _, _, _, _, _⟩ :: _) _ _); refine wpList_load_Row rfl rfl rfl (HX3.out) Tryd.underlying36 rfl (by rw [cellsS_len HPO.out]; exact sizeSc) ?_) | (go_at_call 10; with_reducible refine (HUP.out _ HC3.out).mono ?_; rintro e w4 ⟨rfl, hc4⟩; have HC4 := Lib.hid (HC3.out.trans hc4); clear hc4) | (go_at_call 12; with_reducible refine (HS2.out _ HC4.out).mono ?_; rintro e w5 ⟨v5, rfl, ho5, hc5⟩; have HC5 := Lib.hid (HC4.out.trans hc5); have HO5 := Lib.hid ho5; clear ho5 hc5))
  go_ret2
  exact ⟨v5, rfl, HO5.out.lowK HC4.out.size, HRG.out.quiet HC5.out, HC5.out.ofN⟩

set_option maxRecDepth 100000 in
set_option maxHeartbeats 4000000 in
theorem OO_ok (g : Nat) (T : Nat → Prop) (r : Rg) (l : Lv) (k : Int) (more text : List Nat) (T1 T2 : Nat → Prop) (A A' : Option Addr) (cap cap' : Nat) (w : World) (h : RingAt w g T r) (hl : r.l1 = some l) (_hT : ¬ T g) (_hTn : ∀ b, w.heap.size ≤ b → T b) (_hK : KTab w) (q_ : Sc) (ho : l.old = some q_) (hq0 : (openK q_ k more text).2 = 0) (hm : View w T1 A more.length (u8s more)) (hmc : more.length ≤ cap) (hml : more.length ≤ 100000) (hmb : ∀ x ∈ more, x < 256) (ht : View w T2 A' text.length (u8s text)) (htc : text.length ≤ cap') (htl : text.length ≤ 100000) (htb : ∀ x ∈ text, x < 256) : Calls Tryd.prog 26 #[.pointer (some ⟨g, 0, none⟩), .int .i64 k, .slice A more.length cap, .slice A' text.length cap'] w fun e w' => ∃ v, e = .returned (.tuple #[v, .int .i64 (openK q_ k more text).2]) ∧ Owned w' w.heap.size v (openK q_ k more text).1 ∧ RingAt w' g T (r : Rg) ∧ Chg (· = g) w w' := by
  have HRG := Lib.hid h
  have HGL := Lib.hid h.lt
  obtain ⟨a0, b0, c0, a1, b1, c1, hrow, h0, h1⟩ := h
  rw [hl] at h1
  obtain ⟨o1, o2, x, y, rfl, rfl, tx, ty, hx, hy, hc_⟩ := h1
  rw [ho] at hc_
  obtain ⟨oq, q, rfl, tq, hq⟩ := hc_
  have HQ := Lib.hid hq
  have HQO := Lib.hid oq
  have HR := Lib.hid hrow
  have HY := Lib.hid hy
  have HPO := Lib.hid o2
  obtain ⟨z1, hz1⟩ : ∃ z, z = (openK q_ k more text).2 := ⟨_, rfl⟩
  obtain ⟨P1, hP1⟩ : ∃ z, z = (openK q_ k more text).1 := ⟨_, rfl⟩
  have HS1 : Hid (∀ w', Chg none_ w w' → Calls Tryd.prog 12 #[.agg (cellsS q_).toArray, .int .i64 k, .slice A more.length cap, .slice A' text.length cap'] w' fun e w'' => ∃ v, e = .returned (.tuple #[v, .int .i64 z1]) ∧ Owned w'' w'.heap.size v P1 ∧ Chg none_ w' w'') := Lib.hid (fun w' hc => by rw [hz1, hP1]; exact kOpen_any q_ k more text T1 T2 A A' cap cap' w' oq (hm.chg hc (fun _ _ h => h)) hmc htc hml hmb (ht.chg hc (fun _ _ h => h)) htl htb)
  rw [← hz1] at hq0
  rw [← hz1, ← hP1]
  clear hm hmc hml hmb ht htc htl htb hrow h0 hx hy o1 o2 tx ty _hK _hT _hTn hl ho hz1 hP1 tq hq oq
  subst hq0
  go_enter Tryd.func26, Tryd.ntmps26
  go_wp2_with (first | ((with_reducible show wpList _ _ _ (⟨some 19, .load 56 _, _, _, _, _⟩ :: _) _ _); refine wpList_load_Mid (cs := [ptr (some x), ptr (some y), ptr (some q)]) rfl rfl rfl (ring_mid1 HR.out) Tryd.underlying56 rfl (size3L) ?_) | ((with_reducible show wpList _ _ _ (⟨some 10, .alloc 56, _, _, _, _⟩ :: _) _ _); refine wpList_alloc_Row rfl rfl ([ptr none, ptr none, ptr none]) zero3L ?_; intro w1 hr1 hc1 hs1; have HR1 := Lib.hid hr1; have HC1 := Lib.hid hc1; clear hr1 hc1 hs1) | ((with_reducible show wpList _ _ _ (⟨_, .store 56 (.tmp 10) _, _, _, _, _⟩ :: _) _ _); refine wpList_store_Row (xs := [ptr (some x), ptr (some y), ptr (some q)]) rfl rfl rfl (HR1.out) (rfl) (rfl) (size3L) (rfl) ?_; intro w2 hr2 hc2 hs2; have HL2 := Lib.hid hr2; have HC2 := Lib.hid (hc2 none_ w HC1.out (fun h => by omega)); have c2_ := lv3_c2 hr2; have c1_ := lv3_c1 hr2; have HX2 := Lib.hid (HY.out.chg HC2.out (fun h => h)); clear hr2 hc2 hs2) | ((with_reducible show wpList _ _ _ (⟨some 27, .load 36 _, _, _, _, _⟩ :: _) _ _); refine wpList_load_Row rfl rfl rfl (HQ.out.chg HC2.out (fun h => h)) Tryd.underlying36 rfl (by rw [cellsS_len HQO.out]; exact sizeSc) ?_) | (go_at_call 12; with_reducible refine (HS1.out _ HC2.out).mono ?_; rintro e w3 ⟨v3, rfl, ho3, hc3⟩; have HC3 := Lib.hid (HC2.out.trans hc3); have HO3 := Lib.hid ho3; have HX3 := Lib.hid (HX2.out.chg hc3 (fun h => h)); have c3_ := lv3_c1 (HL2.out.chg hc3 (fun h => h)); clear ho3 hc3))
  go_ret2
  exact ⟨v3, rfl, HO3.out.lowK HC2.out.size, HRG.out.quiet HC3.out, HC3.out.ofN⟩

/-- What openInOtherPhase hands back, whatever it is, Open hands back. -/
theorem OpenX (g : Nat) (T : Nat → Prop) (r r' : Rg) (l : Lv) (ph : Bool) (k : Int) (more text OP : List Nat) (z : Int) (A A' : Option Addr) (cap cap' : Nat) (w : World) (h : RingAt w g T r) (hl : r.l1 = some l) (hph : ph ≠ l.peer.phase)
    (hoo : ∀ w', Chg none_ w w' → Calls Tryd.prog 26 #[.pointer (some ⟨g, 0, none⟩), .int .i64 k, .slice A more.length cap, .slice A' text.length cap'] w' fun e w'' => ∃ v, e = .returned (.tuple #[v, .int .i64 z]) ∧ Owned w'' w'.heap.size v OP ∧ RingAt w'' g T r' ∧ Chg (· = g) w' w'') :
    Calls Tryd.prog 13 #[.pointer (some ⟨g, 0, none⟩), .int .i64 1, .bool ph, .int .i64 k, .slice A more.length cap, .slice A' text.length cap'] w fun e w' => ∃ v, e = .returned (.tuple #[v, .int .i64 z]) ∧ Owned w' w.heap.size v OP ∧ RingAt w' g T r' ∧ Chg (· = g) w w' := by
  have HH := Lib.hid (fun w' (hc : Chg none_ w w') => Has_1 g T r w' (h.quiet hc))
  rw [hl] at HH
  have HH2 : Hid (∀ w', Chg none_ w w' → Calls Tryd.prog 22 #[.pointer (some ⟨g, 0, none⟩), .int .i64 1] w' fun e w'' => e = .returned (.bool true) ∧ Chg none_ w' w'') := HH
  have HOO := Lib.hid hoo
  obtain ⟨a0, b0, c0, a1, b1, c1, hrow, h0, h1⟩ := h
  rw [hl] at h1
  obtain ⟨o1, o2, x, y, rfl, rfl, _, _, _, hx, _⟩ := h1
  have HR := Lib.hid hrow
  have HX := Lib.hid hx
  have HO := Lib.hid o2
  generalize l.peer = s at *
  obtain ⟨b, hb⟩ : ∃ b, s.phase = b := ⟨_, rfl⟩
  have hne : ph = !b := by rw [← hb]; revert hph; cases ph <;> cases s.phase <;> simp
  subst hne
  clear HH hl hrow h0 hx o1 o2 hoo hph
  cases b with
  | false =>
    go_enter Tryd.func13, Tryd.ntmps13
    go_wp2_with (first | (go_at_call 22; with_reducible refine (HH2.out _ (Chg.refl _ _)).mono ?_; rintro e w1 ⟨rfl, hc1⟩; have HC1 := Lib.hid hc1; have ca := ring_cell4 (HR.out.chg hc1 (fun h => h)); have HX1 := Lib.hid (HX.out.chg hc1 (fun h => h)); clear hc1) | ((with_reducible show wpList _ _ _ (⟨some 27, .load 36 _, _, _, _, _⟩ :: _) _ _); refine wpList_load_Row rfl rfl rfl (HX1.out) Tryd.underlying36 rfl (by rw [cellsS_len HO.out]; exact sizeSc) ?_) | ((with_reducible show wpList _ _ _ (⟨some 14, .alloc 36, _, _, _, _⟩ :: _) _ _); refine wpList_alloc_Row rfl rfl (zeroS) zeroSc ?_; intro w2 hr2 hc2 hs2; have HR2 := Lib.hid hr2; have HC2 := Lib.hid (HC1.out.trans hc2); clear hr2 hc2 hs2) | ((with_reducible show wpList _ _ _ (⟨_, .store 36 (.tmp 14) _, _, _, _, _⟩ :: _) _ _); refine wpList_store_Row (xs := cellsS s) rfl rfl rfl (HR2.out) (rfl) (by rw [cellsS_len HO.out]; rfl) (by rw [cellsS_len HO.out]; exact sizeSc) (cellsS_one s) ?_; intro w3 hr3 hc3 hs3; have HR3 := Lib.hid hr3; have HC3 := Lib.hid (hc3 none_ w HC2.out (fun h => by have := HC1.out.size; omega)); have cp := sc_phase_eq hr3 HO.out hb; clear hr3 hc3 hs3) | (go_at_call 26; with_reducible refine (HOO.out _ HC3.out).mono ?_; rintro e w4 ⟨v4, rfl, ho4, hr4, hc4⟩; have HC4 := Lib.hid (HC3.out.ofN.trans hc4); have HO4 := Lib.hid ho4; have HR4 := Lib.hid hr4; clear ho4 hr4 hc4))
    go_ret2
    exact ⟨v4, rfl, HO4.out.lowK HC3.out.size, HR4.out, HC4.out⟩
  | true =>
    go_enter Tryd.func13, Tryd.ntmps13
    go_wp2_with (first | (go_at_call 22; with_reducible refine (HH2.out _ (Chg.refl _ _)).mono ?_; rintro e w1 ⟨rfl, hc1⟩; have HC1 := Lib.hid hc1; have ca := ring_cell4 (HR.out.chg hc1 (fun h => h)); have HX1 := Lib.hid (HX.out.chg hc1 (fun h => h)); clear hc1) | ((with_reducible show wpList _ _ _ (⟨some 27, .load 36 _, _, _, _, _⟩ :: _) _ _); refine wpList_load_Row rfl rfl rfl (HX1.out) Tryd.underlying36 rfl (by rw [cellsS_len HO.out]; exact sizeSc) ?_) | ((with_reducible show wpList _ _ _ (⟨some 14, .alloc 36, _, _, _, _⟩ :: _) _ _); refine wpList_alloc_Row rfl rfl (zeroS) zeroSc ?_; intro w2 hr2 hc2 hs2; have HR2 := Lib.hid hr2; have HC2 := Lib.hid (HC1.out.trans hc2); clear hr2 hc2 hs2) | ((with_reducible show wpList _ _ _ (⟨_, .store 36 (.tmp 14) _, _, _, _, _⟩ :: _) _ _); refine wpList_store_Row (xs := cellsS s) rfl rfl rfl (HR2.out) (rfl) (by rw [cellsS_len HO.out]; rfl) (by rw [cellsS_len HO.out]; exact sizeSc) (cellsS_one s) ?_; intro w3 hr3 hc3 hs3; have HR3 := Lib.hid hr3; have HC3 := Lib.hid (hc3 none_ w HC2.out (fun h => by have := HC1.out.size; omega)); have cp := sc_phase_eq hr3 HO.out hb; clear hr3 hc3 hs3) | (go_at_call 26; with_reducible refine (HOO.out _ HC3.out).mono ?_; rintro e w4 ⟨v4, rfl, ho4, hr4, hc4⟩; have HC4 := Lib.hid (HC3.out.ofN.trans hc4); have HO4 := Lib.hid ho4; have HR4 := Lib.hid hr4; clear ho4 hr4 hc4))
    go_ret2
    exact ⟨v4, rfl, HO4.out.lowK HC3.out.size, HR4.out, HC4.out⟩

end Go.Proofs.YtfpflhcabjcamaaDoor
