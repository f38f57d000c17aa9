/- Layer 10 (keys): packets opened by a ring, by the keys of their phase. -/
import Derived.Test.YtfpflhcabjcamaaDoorV10Ring
namespace Go.Proofs.YtfpflhcabjcamaaDoor
open Go.RowKit

set_option maxRecDepth 100000 in
set_option maxHeartbeats 1000000 in
theorem OpenN_0 (g : Nat) (T : Nat → Prop) (r : Rg) (ph : Bool) (k : Int) (more text : List Nat) (_T1 _T2 : Nat → Prop) (A A' : Option Addr) (cap cap' : Nat) (w : World) (h : RingAt w g T r) (hl : r.l0 = none) : Calls Tryd.prog 13 #[.pointer (some ⟨g, 0, none⟩), .int .i64 0, .bool ph, .int .i64 k, .slice A more.length cap, .slice A' text.length cap'] w fun e w' => e = .returned (.tuple #[.slice none 0 0, .int .i64 8]) ∧ Chg none_ w w' := by
  have HH := Lib.hid (fun w' (hc : Chg none_ w w') => Has_0 g T r w' (h.quiet hc))
  rw [hl] at HH
  have HH2 : Hid (∀ w', Chg none_ w w' → Calls Tryd.prog 22 #[.pointer (some ⟨g, 0, none⟩), .int .i64 0] w' fun e w'' => e = .returned (.bool false) ∧ Chg none_ w' w'') := HH
  clear HH hl h
  go_enter Tryd.func13, Tryd.ntmps13
  go_wp2_with (go_at_call 22; with_reducible refine (HH2.out _ (Chg.refl _ _)).mono ?_; rintro e w1 ⟨rfl, hc1⟩; have HC1 := Lib.hid hc1; clear hc1)
  go_ret2
  exact ⟨rfl, HC1.out⟩

set_option maxRecDepth 100000 in
set_option maxHeartbeats 1000000 in
theorem OpenN_1 (g : Nat) (T : Nat → Prop) (r : Rg) (ph : Bool) (k : Int) (more text : List Nat) (_T1 _T2 : Nat → Prop) (A A' : Option Addr) (cap cap' : Nat) (w : World) (h : RingAt w g T r) (hl : r.l1 = none) : Calls Tryd.prog 13 #[.pointer (some ⟨g, 0, none⟩), .int .i64 1, .bool ph, .int .i64 k, .slice A more.length cap, .slice A' text.length cap'] w fun e w' => e = .returned (.tuple #[.slice none 0 0, .int .i64 8]) ∧ Chg none_ w w' := by
  have HH := Lib.hid (fun w' (hc : Chg none_ w w') => Has_1 g T r w' (h.quiet hc))
  rw [hl] at HH
  have HH2 : Hid (∀ w', Chg none_ w w' → Calls Tryd.prog 22 #[.pointer (some ⟨g, 0, none⟩), .int .i64 1] w' fun e w'' => e = .returned (.bool false) ∧ Chg none_ w' w'') := HH
  clear HH hl h
  go_enter Tryd.func13, Tryd.ntmps13
  go_wp2_with (go_at_call 22; with_reducible refine (HH2.out _ (Chg.refl _ _)).mono ?_; rintro e w1 ⟨rfl, hc1⟩; have HC1 := Lib.hid hc1; clear hc1)
  go_ret2
  exact ⟨rfl, HC1.out⟩

set_option maxRecDepth 100000 in
set_option maxHeartbeats 2000000 in
theorem OpenS_0 (g : Nat) (T : Nat → Prop) (r : Rg) (l : Lv) (ph : Bool) (k : Int) (more text : List Nat) (T1 T2 : Nat → Prop) (A A' : Option Addr) (cap cap' : Nat) (w : World) (h : RingAt w g T r) (hl : r.l0 = some l) (hm : View w T1 A more.length (u8s more)) (hmc : more.length ≤ cap) (hml : more.length ≤ 100000) (hmb : ∀ x ∈ more, x < 256) (ht : View w T2 A' text.length (u8s text)) (htc : text.length ≤ cap') (htl : text.length ≤ 100000) (htb : ∀ x ∈ text, x < 256) : Calls Tryd.prog 13 #[.pointer (some ⟨g, 0, none⟩), .int .i64 0, .bool ph, .int .i64 k, .slice A more.length cap, .slice A' text.length cap'] w fun e w' => ∃ v, e = .returned (.tuple #[v, .int .i64 (openK l.peer k more text).2]) ∧ Owned w' w.heap.size v (openK l.peer k more text).1 ∧ Chg none_ w w' := by
  have HH := Lib.hid (fun w' (hc : Chg none_ w w') => Has_0 g T r w' (h.quiet hc))
  rw [hl] at HH
  have HH2 : Hid (∀ w', Chg none_ w w' → Calls Tryd.prog 22 #[.pointer (some ⟨g, 0, none⟩), .int .i64 0] w' fun e w'' => e = .returned (.bool true) ∧ Chg none_ w' w'') := HH
  obtain ⟨a0, b0, c0, a1, b1, c1, hrow, h0, h1⟩ := h
  rw [hl] at h0
  obtain ⟨o1, o2, x, y, rfl, rfl, _, _, _, hx, _⟩ := h0
  have HR := Lib.hid hrow
  have HX := Lib.hid hx
  have HO := Lib.hid o2
  obtain ⟨z, hz⟩ : ∃ z, z = (openK l.peer k more text).2 := ⟨_, rfl⟩
  obtain ⟨OP, hop⟩ : ∃ z, z = (openK l.peer k more text).1 := ⟨_, rfl⟩
  rw [← hz, ← hop]
  have HSE : Hid (∀ w', Chg none_ w w' → Calls Tryd.prog 12 #[.agg (cellsS l.peer).toArray, .int .i64 k, .slice A more.length cap, .slice A' text.length cap'] w' fun e w'' => ∃ v, e = .returned (.tuple #[v, .int .i64 z]) ∧ Owned w'' w'.heap.size v OP ∧ Chg none_ w' w'') := Lib.hid (fun w' hc => by rw [hz, hop]; exact kOpen_any l.peer k more text T1 T2 A A' cap cap' w' o2 (hm.chg hc (fun _ _ h => h)) hmc htc hml hmb (ht.chg hc (fun _ _ h => h)) htl htb)
  clear hz hop
  generalize l.peer = s at *
  clear HH hl hrow h1 hx o1 o2 hm hmc hml hmb ht htc htl htb
  go_enter Tryd.func13, Tryd.ntmps13
  go_wp2_with (first | (go_at_call 22; with_reducible refine (HH2.out _ (Chg.refl _ _)).mono ?_; rintro e w1 ⟨rfl, hc1⟩; have HC1 := Lib.hid hc1; have ca := ring_cell1 (HR.out.chg hc1 (fun h => h)); have HX1 := Lib.hid (HX.out.chg hc1 (fun h => h)); clear hc1) | ((with_reducible show wpList _ _ _ (⟨some 27, .load 36 _, _, _, _, _⟩ :: _) _ _); refine wpList_load_Row rfl rfl rfl (HX1.out) Tryd.underlying36 rfl (by rw [cellsS_len HO.out]; exact sizeSc) ?_) | ((with_reducible show wpList _ _ _ (⟨some 14, .alloc 36, _, _, _, _⟩ :: _) _ _); refine wpList_alloc_Row rfl rfl (zeroS) zeroSc ?_; intro w2 hr2 hc2 hs2; have HR2 := Lib.hid hr2; have HC2 := Lib.hid (HC1.out.trans hc2); clear hr2 hc2 hs2) | ((with_reducible show wpList _ _ _ (⟨_, .store 36 (.tmp 14) _, _, _, _, _⟩ :: _) _ _); refine wpList_store_Row (xs := cellsS s) rfl rfl rfl (HR2.out) (rfl) (by rw [cellsS_len HO.out]; rfl) (by rw [cellsS_len HO.out]; exact sizeSc) (cellsS_one s) ?_; intro w3 hr3 hc3 hs3; have HR3 := Lib.hid hr3; have HC3 := Lib.hid (hc3 none_ w HC2.out (fun h => by have := HC1.out.size; omega)); have cp := sc_phase hr3 HO.out; clear hr3 hc3 hs3) | ((with_reducible show wpList _ _ _ (⟨some 43, .load 36 _, _, _, _, _⟩ :: _) _ _); refine wpList_load_Row rfl rfl rfl (HR3.out) Tryd.underlying36 rfl (by rw [cellsS_len HO.out]; exact sizeSc) ?_) | (go_at_call 12; with_reducible refine (HSE.out _ HC3.out).mono ?_; rintro e w4 ⟨v4, rfl, ho4, hc4⟩; have HC4 := Lib.hid (HC3.out.trans hc4); have HO4 := Lib.hid ho4; clear ho4 hc4))
  go_ret2
  exact ⟨v4, rfl, HO4.out.lowK HC3.out.size, HC4.out⟩

set_option maxRecDepth 100000 in
set_option maxHeartbeats 2000000 in
theorem OpenS_1 (g : Nat) (T : Nat → Prop) (r : Rg) (l : Lv) (ph : Bool) (k : Int) (more text : List Nat) (T1 T2 : Nat → Prop) (A A' : Option Addr) (cap cap' : Nat) (w : World) (h : RingAt w g T r) (hl : r.l1 = some l) (hph : ph = l.peer.phase) (hm : View w T1 A more.length (u8s more)) (hmc : more.length ≤ cap) (hml : more.length ≤ 100000) (hmb : ∀ x ∈ more, x < 256) (ht : View w T2 A' text.length (u8s text)) (htc : text.length ≤ cap') (htl : text.length ≤ 100000) (htb : ∀ x ∈ text, x < 256) : Calls Tryd.prog 13 #[.pointer (some ⟨g, 0, none⟩), .int .i64 1, .bool ph, .int .i64 k, .slice A more.length cap, .slice A' text.length cap'] w fun e w' => ∃ v, e = .returned (.tuple #[v, .int .i64 (openK l.peer k more text).2]) ∧ Owned w' w.heap.size v (openK l.peer k more text).1 ∧ Chg none_ w w' := by
  have HH := Lib.hid (fun w' (hc : Chg none_ w w') => Has_1 g T r w' (h.quiet hc))
  rw [hl] at HH
  have HH2 : Hid (∀ w', Chg none_ w w' → Calls Tryd.prog 22 #[.pointer (some ⟨g, 0, none⟩), .int .i64 1] w' fun e w'' => e = .returned (.bool true) ∧ Chg none_ w' w'') := HH
  obtain ⟨a0, b0, c0, a1, b1, c1, hrow, h0, h1⟩ := h
  rw [hl] at h1
  obtain ⟨o1, o2, x, y, rfl, rfl, _, _, _, hx, _⟩ := h1
  have HR := Lib.hid hrow
  have HX := Lib.hid hx
  have HO := Lib.hid o2
  obtain ⟨z, hz⟩ : ∃ z, z = (openK l.peer k more text).2 := ⟨_, rfl⟩
  obtain ⟨OP, hop⟩ : ∃ z, z = (openK l.peer k more text).1 := ⟨_, rfl⟩
  rw [← hz, ← hop]
  have HSE : Hid (∀ w', Chg none_ w w' → Calls Tryd.prog 12 #[.agg (cellsS l.peer).toArray, .int .i64 k, .slice A more.length cap, .slice A' text.length cap'] w' fun e w'' => ∃ v, e = .returned (.tuple #[v, .int .i64 z]) ∧ Owned w'' w'.heap.size v OP ∧ Chg none_ w' w'') := Lib.hid (fun w' hc => by rw [hz, hop]; exact kOpen_any l.peer k more text T1 T2 A A' cap cap' w' o2 (hm.chg hc (fun _ _ h => h)) hmc htc hml hmb (ht.chg hc (fun _ _ h => h)) htl htb)
  clear hz hop
  generalize l.peer = s at *
  clear HH hl hrow h0 hx o1 o2 hm hmc hml hmb ht htc htl htb
  subst hph
  go_enter Tryd.func13, Tryd.ntmps13
  go_wp2_with (first | (go_at_call 22; with_reducible refine (HH2.out _ (Chg.refl _ _)).mono ?_; rintro e w1 ⟨rfl, hc1⟩; have HC1 := Lib.hid hc1; have ca := ring_cell4 (HR.out.chg hc1 (fun h => h)); have HX1 := Lib.hid (HX.out.chg hc1 (fun h => h)); clear hc1) | ((with_reducible show wpList _ _ _ (⟨some 27, .load 36 _, _, _, _, _⟩ :: _) _ _); refine wpList_load_Row rfl rfl rfl (HX1.out) Tryd.underlying36 rfl (by rw [cellsS_len HO.out]; exact sizeSc) ?_) | ((with_reducible show wpList _ _ _ (⟨some 14, .alloc 36, _, _, _, _⟩ :: _) _ _); refine wpList_alloc_Row rfl rfl (zeroS) zeroSc ?_; intro w2 hr2 hc2 hs2; have HR2 := Lib.hid hr2; have HC2 := Lib.hid (HC1.out.trans hc2); clear hr2 hc2 hs2) | ((with_reducible show wpList _ _ _ (⟨_, .store 36 (.tmp 14) _, _, _, _, _⟩ :: _) _ _); refine wpList_store_Row (xs := cellsS s) rfl rfl rfl (HR2.out) (rfl) (by rw [cellsS_len HO.out]; rfl) (by rw [cellsS_len HO.out]; exact sizeSc) (cellsS_one s) ?_; intro w3 hr3 hc3 hs3; have HR3 := Lib.hid hr3; have HC3 := Lib.hid (hc3 none_ w HC2.out (fun h => by have := HC1.out.size; omega)); have cp := sc_phase hr3 HO.out; clear hr3 hc3 hs3) | ((with_reducible show wpList _ _ _ (⟨some 43, .load 36 _, _, _, _, _⟩ :: _) _ _); refine wpList_load_Row rfl rfl rfl (HR3.out) Tryd.underlying36 rfl (by rw [cellsS_len HO.out]; exact sizeSc) ?_) | (go_at_call 12; with_reducible refine (HSE.out _ HC3.out).mono ?_; rintro e w4 ⟨v4, rfl, ho4, hc4⟩; have HC4 := Lib.hid (HC3.out.trans hc4); have HO4 := Lib.hid ho4; clear ho4 hc4))
  go_ret2
  exact ⟨v4, rfl, HO4.out.lowK HC3.out.size, HC4.out⟩

end Go.Proofs.YtfpflhcabjcamaaDoor
