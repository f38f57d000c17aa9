/- Layer 10 (keys): rings, as memory has them; their short functions. -/
import Derived.Test.YtfpflhcabjcamaaDoorV10Seal
namespace Go.Proofs.YtfpflhcabjcamaaDoor
open Go.RowKit

def ptr (o : Option Nat) : Value := .pointer (o.map fun b => ⟨b, 0, none⟩)
/-- A level's keys, where their pointers point. -/
def LvAt (w : World) (T : Nat → Prop) (o : Option Lv) (a b c : Option Nat) : Prop := match o with
  | none => a = none ∧ b = none ∧ c = none
  | some l => l.own.Ok ∧ l.peer.Ok ∧ ∃ x y, a = some x ∧ b = some y ∧ T x ∧ T y ∧ Row w x 36 (cellsS l.own) ∧ Row w y 36 (cellsS l.peer) ∧ (match l.old with
    | none => c = none
    | some o => o.Ok ∧ ∃ z, c = some z ∧ T z ∧ Row w z 36 (cellsS o))
def cellsR (a0 b0 c0 a1 b1 c1 : Option Nat) (g0 g1 : Bool) : List Value := [ptr a0, ptr b0, ptr c0, ptr a1, ptr b1, ptr c1, .bool g0, .bool g1]
/-- A ring in its block; its keys lie in blocks of T. -/
def RingAt (w : World) (g : Nat) (T : Nat → Prop) (r : Rg) : Prop := ∃ a0 b0 c0 a1 b1 c1, Row w g 60 (cellsR a0 b0 c0 a1 b1 c1 r.g0 r.g1) ∧ LvAt w T r.l0 a0 b0 c0 ∧ LvAt w T r.l1 a1 b1 c1
theorem LvAt.chg {w w' : World} {T Q : Nat → Prop} {o : Option Lv} {a b c : Option Nat} (h : LvAt w T o a b c) (hc : Chg Q w w') (hT : ∀ b, T b → ¬ Q b) : LvAt w' T o a b c := by
  cases o with
  | none => exact h
  | some l =>
    obtain ⟨h1, h2, x, y, h3, h4, h5, h6, h7, h8, h9⟩ := h
    refine ⟨h1, h2, x, y, h3, h4, h5, h6, h7.chg hc (hT x h5), h8.chg hc (hT y h6), ?_⟩
    cases ho : l.old with
    | none => rw [ho] at h9; exact h9
    | some q =>
      rw [ho] at h9
      obtain ⟨k1, z, k2, k3, k4⟩ := h9
      exact ⟨k1, z, k2, k3, k4.chg hc (hT z k3)⟩
theorem RingAt.chg {w w' : World} {g : Nat} {T Q : Nat → Prop} {r : Rg} (h : RingAt w g T r) (hc : Chg Q w w') (hg : ¬ Q g) (hT : ∀ b, T b → ¬ Q b) : RingAt w' g T r := by
  obtain ⟨a0, b0, c0, a1, b1, c1, h1, h2, h3⟩ := h
  exact ⟨a0, b0, c0, a1, b1, c1, h1.chg hc hg, h2.chg hc hT, h3.chg hc hT⟩
theorem RingAt.quiet {w w' : World} {g : Nat} {T : Nat → Prop} {r : Rg} (h : RingAt w g T r) (hc : Chg none_ w w') : RingAt w' g T r := h.chg hc (fun h => h) (fun _ _ h => h)
theorem RingAt.lt {w : World} {g : Nat} {T : Nat → Prop} {r : Rg} (h : RingAt w g T r) : g < w.heap.size := by
  obtain ⟨a0, b0, c0, a1, b1, c1, h1, _⟩ := h
  exact h1.lt
theorem zeroRg : (Tryd.prog.info? 60).map (·.zero) = some (some (.agg (cellsR none none none none none none false false).toArray)) := by kernel_rfl

set_option maxRecDepth 100000 in
theorem NewRing_any (T : Nat → Prop) (w : World) : Calls Tryd.prog 6 #[] w fun e w' => e = .returned (.pointer (some ⟨w.heap.size, 0, none⟩)) ∧ RingAt w' w.heap.size T Rg.new ∧ Chg none_ w w' := by
  go_enter Tryd.func6, Tryd.ntmps6
  go_wp2_with ((with_reducible show wpList _ _ _ (⟨_, .alloc 60, _, _, _, _⟩ :: _) _ _); refine wpList_alloc_Row rfl rfl (cellsR none none none none none none false false) zeroRg ?_; intro w1 hr1 hc1 hs1)
  go_ret
  exact ⟨rfl, ⟨none, none, none, none, none, none, hr1, ⟨rfl, rfl, rfl⟩, ⟨rfl, rfl, rfl⟩⟩, hc1⟩

theorem ring_cell0 {w : World} {g x : Nat} {b0 c0 a1 b1 c1 : Option Nat} {g0 g1 : Bool} (h : Row w g 60 (cellsR (some x) b0 c0 a1 b1 c1 g0 g1)) : w.cell? ⟨g, 0, none⟩ = some (.pointer (some ⟨x, 0, none⟩)) := h.cell 0
theorem ring_cell1 {w : World} {g x : Nat} {a0 c0 a1 b1 c1 : Option Nat} {g0 g1 : Bool} (h : Row w g 60 (cellsR a0 (some x) c0 a1 b1 c1 g0 g1)) : w.cell? ⟨g, 1, none⟩ = some (.pointer (some ⟨x, 0, none⟩)) := h.cell 1
theorem ring_cell3 {w : World} {g x : Nat} {a0 b0 c0 b1 c1 : Option Nat} {g0 g1 : Bool} (h : Row w g 60 (cellsR a0 b0 c0 (some x) b1 c1 g0 g1)) : w.cell? ⟨g, 3, none⟩ = some (.pointer (some ⟨x, 0, none⟩)) := h.cell 3
theorem ring_cell4 {w : World} {g x : Nat} {a0 b0 c0 a1 c1 : Option Nat} {g0 g1 : Bool} (h : Row w g 60 (cellsR a0 b0 c0 a1 (some x) c1 g0 g1)) : w.cell? ⟨g, 4, none⟩ = some (.pointer (some ⟨x, 0, none⟩)) := h.cell 4

set_option maxRecDepth 100000 in
set_option maxHeartbeats 1000000 in
theorem Has_0 (g : Nat) (T : Nat → Prop) (r : Rg) (w : World) (h : RingAt w g T r) : Calls Tryd.prog 22 #[.pointer (some ⟨g, 0, none⟩), .int .i64 0] w fun e w' => e = .returned (.bool r.l0.isSome) ∧ Chg none_ w w' := by
  obtain ⟨a0, b0, c0, a1, b1, c1, hrow, h0, h1⟩ := h
  cases hl : r.l0 with
  | none =>
    rw [hl] at h0
    obtain ⟨rfl, rfl, rfl⟩ := h0
    have c : w.cell? ⟨g, 0, none⟩ = some (.pointer none) := hrow.cell 0
    show Calls _ _ _ _ fun e w' => e = .returned (.bool false) ∧ Chg none_ w w'
    clear hl hrow h1
    go_enter Tryd.func22, Tryd.ntmps22
    go_wp2
    go_ret
    exact ⟨rfl, Chg.refl _ _⟩
  | some l =>
    rw [hl] at h0
    obtain ⟨_, _, x, y, rfl, rfl, _⟩ := h0
    have c : w.cell? ⟨g, 0, none⟩ = some (.pointer (some ⟨x, 0, none⟩)) := hrow.cell 0
    show Calls _ _ _ _ fun e w' => e = .returned (.bool true) ∧ Chg none_ w w'
    clear hl hrow h1
    go_enter Tryd.func22, Tryd.ntmps22
    go_wp2
    go_ret
    exact ⟨rfl, Chg.refl _ _⟩

set_option maxRecDepth 100000 in
set_option maxHeartbeats 1000000 in
theorem Has_1 (g : Nat) (T : Nat → Prop) (r : Rg) (w : World) (h : RingAt w g T r) : Calls Tryd.prog 22 #[.pointer (some ⟨g, 0, none⟩), .int .i64 1] w fun e w' => e = .returned (.bool r.l1.isSome) ∧ Chg none_ w w' := by
  obtain ⟨a0, b0, c0, a1, b1, c1, hrow, h0, h1⟩ := h
  cases hl : r.l1 with
  | none =>
    rw [hl] at h1
    obtain ⟨rfl, rfl, rfl⟩ := h1
    have c : w.cell? ⟨g, 3, none⟩ = some (.pointer none) := hrow.cell 3
    show Calls _ _ _ _ fun e w' => e = .returned (.bool false) ∧ Chg none_ w w'
    clear hl hrow h0
    go_enter Tryd.func22, Tryd.ntmps22
    go_wp2
    go_ret
    exact ⟨rfl, Chg.refl _ _⟩
  | some l =>
    rw [hl] at h1
    obtain ⟨_, _, x, y, rfl, rfl, _⟩ := h1
    have c : w.cell? ⟨g, 3, none⟩ = some (.pointer (some ⟨x, 0, none⟩)) := hrow.cell 3
    show Calls _ _ _ _ fun e w' => e = .returned (.bool true) ∧ Chg none_ w w'
    clear hl hrow h0
    go_enter Tryd.func22, Tryd.ntmps22
    go_wp2
    go_ret
    exact ⟨rfl, Chg.refl _ _⟩

set_option maxRecDepth 100000 in
set_option maxHeartbeats 1000000 in
theorem Phase_any (g : Nat) (T : Nat → Prop) (r : Rg) (w : World) (h : RingAt w g T r) : Calls Tryd.prog 14 #[.pointer (some ⟨g, 0, none⟩)] w fun e w' => e = .returned (.bool r.phase) ∧ Chg none_ w w' := by
  have HH := Lib.hid (fun w' (hc : Chg none_ w w') => Has_1 g T r w' (h.quiet hc))
  obtain ⟨a0, b0, c0, a1, b1, c1, hrow, h0, h1⟩ := h
  cases hl : r.l1 with
  | none =>
    have e : r.phase = false := by unfold Rg.phase; rw [hl]
    rw [e]
    rw [hl] at HH
    have HH2 : Hid (∀ w', Chg none_ w w' → Calls Tryd.prog 22 #[.pointer (some ⟨g, 0, none⟩), .int .i64 1] w' fun e w'' => e = .returned (.bool false) ∧ Chg none_ w' w'') := HH
    clear HH hl hrow h0 h1 e
    go_enter Tryd.func14, Tryd.ntmps14
    go_wp2_with (go_at_call 22; with_reducible refine (HH2.out _ (Chg.refl _ _)).mono ?_; rintro e w1 ⟨rfl, hc1⟩; have HC1 := Lib.hid hc1; clear hc1)
    go_ret
    exact ⟨rfl, HC1.out⟩
  | some l =>
    have e : r.phase = l.own.phase := by unfold Rg.phase; rw [hl]
    rw [e]
    rw [hl] at HH h1
    have HH2 : Hid (∀ w', Chg none_ w w' → Calls Tryd.prog 22 #[.pointer (some ⟨g, 0, none⟩), .int .i64 1] w' fun e w'' => e = .returned (.bool true) ∧ Chg none_ w' w'') := HH
    obtain ⟨o1, o2, x, y, rfl, rfl, _, _, hx, _⟩ := h1
    have HR := Lib.hid hrow
    have HX := Lib.hid hx
    have HO := Lib.hid o1
    generalize l.own = s at HX HO
    clear HH hl hrow h0 hx o1 o2 e
    go_enter Tryd.func14, Tryd.ntmps14
    go_wp2_with (go_at_call 22; with_reducible refine (HH2.out _ (Chg.refl _ _)).mono ?_; rintro e w1 ⟨rfl, hc1⟩; have HC1 := Lib.hid hc1; have ca := ring_cell3 (HR.out.chg hc1 (fun h => h)); have cp := sc_phase (HX.out.chg hc1 (fun h => h)) HO.out; clear hc1)
    go_ret
    exact ⟨rfl, HC1.out⟩

set_option maxRecDepth 100000 in
set_option maxHeartbeats 1000000 in
theorem RSealN_0 (g : Nat) (T : Nat → Prop) (r : Rg) (k : Int) (more text : List Nat) (_T1 _T2 : Nat → Prop) (A A' : Option Addr) (cap cap' : Nat) (w : World) (h : RingAt w g T r) (hl : r.l0 = none) : Calls Tryd.prog 11 #[.pointer (some ⟨g, 0, none⟩), .int .i64 0, .int .i64 k, .slice A more.length cap, .slice A' text.length cap'] w fun e w' => e = .returned (.slice none 0 0) ∧ Chg none_ w w' := by
  have HH := Lib.hid (fun w' (hc : Chg none_ w w') => Has_0 g T r w' (h.quiet hc))
  rw [hl] at HH
  have HH2 : Hid (∀ w', Chg none_ w w' → Calls Tryd.prog 22 #[.pointer (some ⟨g, 0, none⟩), .int .i64 0] w' fun e w'' => e = .returned (.bool false) ∧ Chg none_ w' w'') := HH
  clear HH hl h
  go_enter Tryd.func11, Tryd.ntmps11
  go_wp2_with (go_at_call 22; with_reducible refine (HH2.out _ (Chg.refl _ _)).mono ?_; rintro e w1 ⟨rfl, hc1⟩; have HC1 := Lib.hid hc1; clear hc1)
  go_ret
  exact ⟨rfl, HC1.out⟩

set_option maxRecDepth 100000 in
set_option maxHeartbeats 1000000 in
theorem RSealS_0 (g : Nat) (T : Nat → Prop) (r : Rg) (l : Lv) (k : Int) (more text : List Nat) (T1 T2 : Nat → Prop) (A A' : Option Addr) (cap cap' : Nat) (w : World) (h : RingAt w g T r) (hl : r.l0 = some l) (hm : View w T1 A more.length (u8s more)) (hmc : more.length ≤ cap) (hml : more.length ≤ 100000) (hmb : ∀ x ∈ more, x < 256) (ht : View w T2 A' text.length (u8s text)) (htl : text.length ≤ 100000) (htb : ∀ x ∈ text, x < 256) : Calls Tryd.prog 11 #[.pointer (some ⟨g, 0, none⟩), .int .i64 0, .int .i64 k, .slice A more.length cap, .slice A' text.length cap'] w fun e w' => ∃ v, e = .returned v ∧ Owned w' w.heap.size v (sealK l.own k more text) ∧ Chg none_ w w' := by
  have HH := Lib.hid (fun w' (hc : Chg none_ w w') => Has_0 g T r w' (h.quiet hc))
  rw [hl] at HH
  have HH2 : Hid (∀ w', Chg none_ w w' → Calls Tryd.prog 22 #[.pointer (some ⟨g, 0, none⟩), .int .i64 0] w' fun e w'' => e = .returned (.bool true) ∧ Chg none_ w' w'') := HH
  obtain ⟨a0, b0, c0, a1, b1, c1, hrow, h0, h1⟩ := h
  rw [hl] at h0
  obtain ⟨o1, o2, x, y, rfl, rfl, _, _, hx, _⟩ := h0
  have HR := Lib.hid hrow
  have HX := Lib.hid hx
  have HO := Lib.hid o1
  have HSE : Hid (∀ w', Chg none_ w w' → Calls Tryd.prog 23 #[.agg (cellsS l.own).toArray, .int .i64 k, .slice A more.length cap, .slice A' text.length cap'] w' fun e w'' => ∃ v, e = .returned v ∧ Owned w'' w'.heap.size v (sealK l.own k more text) ∧ Chg none_ w' w'') := Lib.hid (fun w' hc => kSeal_any l.own k more text T1 T2 A A' cap cap' w' o1 (hm.chg hc (fun _ _ h => h)) hmc hml hmb (ht.chg hc (fun _ _ h => h)) htl htb)
  generalize sealK l.own k more text = SE at HSE
  generalize l.own = s at HX HO HSE
  clear HH hl hrow h1 hx o1 o2 hm hmc hml hmb ht htl htb
  go_enter Tryd.func11, Tryd.ntmps11
  go_wp2_with (first | (go_at_call 22; with_reducible refine (HH2.out _ (Chg.refl _ _)).mono ?_; rintro e w1 ⟨rfl, hc1⟩; have HC1 := Lib.hid hc1; have ca := ring_cell0 (HR.out.chg hc1 (fun h => h)); have HX1 := Lib.hid (HX.out.chg hc1 (fun h => h)); clear hc1) | ((with_reducible show wpList _ _ _ (⟨some 23, .load 36 _, _, _, _, _⟩ :: _) _ _); refine wpList_load_Row rfl rfl rfl (HX1.out) Tryd.underlying36 rfl (by rw [cellsS_len HO.out]; exact sizeSc) ?_) | (go_at_call 23; with_reducible refine (HSE.out _ HC1.out).mono ?_; rintro e w2 ⟨v2, rfl, ho2, hc2⟩; have HC2 := Lib.hid (HC1.out.trans hc2); have HO2 := Lib.hid ho2; clear ho2 hc2))
  go_ret
  exact ⟨v2, rfl, HO2.out.lowK HC1.out.size, HC2.out⟩

set_option maxRecDepth 100000 in
set_option maxHeartbeats 1000000 in
theorem RSealN_1 (g : Nat) (T : Nat → Prop) (r : Rg) (k : Int) (more text : List Nat) (_T1 _T2 : Nat → Prop) (A A' : Option Addr) (cap cap' : Nat) (w : World) (h : RingAt w g T r) (hl : r.l1 = none) : Calls Tryd.prog 11 #[.pointer (some ⟨g, 0, none⟩), .int .i64 1, .int .i64 k, .slice A more.length cap, .slice A' text.length cap'] w fun e w' => e = .returned (.slice none 0 0) ∧ Chg none_ w w' := by
  have HH := Lib.hid (fun w' (hc : Chg none_ w w') => Has_1 g T r w' (h.quiet hc))
  rw [hl] at HH
  have HH2 : Hid (∀ w', Chg none_ w w' → Calls Tryd.prog 22 #[.pointer (some ⟨g, 0, none⟩), .int .i64 1] w' fun e w'' => e = .returned (.bool false) ∧ Chg none_ w' w'') := HH
  clear HH hl h
  go_enter Tryd.func11, Tryd.ntmps11
  go_wp2_with (go_at_call 22; with_reducible refine (HH2.out _ (Chg.refl _ _)).mono ?_; rintro e w1 ⟨rfl, hc1⟩; have HC1 := Lib.hid hc1; clear hc1)
  go_ret
  exact ⟨rfl, HC1.out⟩

set_option maxRecDepth 100000 in
set_option maxHeartbeats 1000000 in
theorem RSealS_1 (g : Nat) (T : Nat → Prop) (r : Rg) (l : Lv) (k : Int) (more text : List Nat) (T1 T2 : Nat → Prop) (A A' : Option Addr) (cap cap' : Nat) (w : World) (h : RingAt w g T r) (hl : r.l1 = some l) (hm : View w T1 A more.length (u8s more)) (hmc : more.length ≤ cap) (hml : more.length ≤ 100000) (hmb : ∀ x ∈ more, x < 256) (ht : View w T2 A' text.length (u8s text)) (htl : text.length ≤ 100000) (htb : ∀ x ∈ text, x < 256) : Calls Tryd.prog 11 #[.pointer (some ⟨g, 0, none⟩), .int .i64 1, .int .i64 k, .slice A more.length cap, .slice A' text.length cap'] w fun e w' => ∃ v, e = .returned v ∧ Owned w' w.heap.size v (sealK l.own k more text) ∧ Chg none_ w w' := by
  have HH := Lib.hid (fun w' (hc : Chg none_ w w') => Has_1 g T r w' (h.quiet hc))
  rw [hl] at HH
  have HH2 : Hid (∀ w', Chg none_ w w' → Calls Tryd.prog 22 #[.pointer (some ⟨g, 0, none⟩), .int .i64 1] w' fun e w'' => e = .returned (.bool true) ∧ Chg none_ w' w'') := HH
  obtain ⟨a0, b0, c0, a1, b1, c1, hrow, h0, h1⟩ := h
  rw [hl] at h1
  obtain ⟨o1, o2, x, y, rfl, rfl, _, _, hx, _⟩ := h1
  have HR := Lib.hid hrow
  have HX := Lib.hid hx
  have HO := Lib.hid o1
  have HSE : Hid (∀ w', Chg none_ w w' → Calls Tryd.prog 23 #[.agg (cellsS l.own).toArray, .int .i64 k, .slice A more.length cap, .slice A' text.length cap'] w' fun e w'' => ∃ v, e = .returned v ∧ Owned w'' w'.heap.size v (sealK l.own k more text) ∧ Chg none_ w' w'') := Lib.hid (fun w' hc => kSeal_any l.own k more text T1 T2 A A' cap cap' w' o1 (hm.chg hc (fun _ _ h => h)) hmc hml hmb (ht.chg hc (fun _ _ h => h)) htl htb)
  generalize sealK l.own k more text = SE at HSE
  generalize l.own = s at HX HO HSE
  clear HH hl hrow h0 hx o1 o2 hm hmc hml hmb ht htl htb
  go_enter Tryd.func11, Tryd.ntmps11
  go_wp2_with (first | (go_at_call 22; with_reducible refine (HH2.out _ (Chg.refl _ _)).mono ?_; rintro e w1 ⟨rfl, hc1⟩; have HC1 := Lib.hid hc1; have ca := ring_cell3 (HR.out.chg hc1 (fun h => h)); have HX1 := Lib.hid (HX.out.chg hc1 (fun h => h)); clear hc1) | ((with_reducible show wpList _ _ _ (⟨some 23, .load 36 _, _, _, _, _⟩ :: _) _ _); refine wpList_load_Row rfl rfl rfl (HX1.out) Tryd.underlying36 rfl (by rw [cellsS_len HO.out]; exact sizeSc) ?_) | (go_at_call 23; with_reducible refine (HSE.out _ HC1.out).mono ?_; rintro e w2 ⟨v2, rfl, ho2, hc2⟩; have HC2 := Lib.hid (HC1.out.trans hc2); have HO2 := Lib.hid ho2; clear ho2 hc2))
  go_ret
  exact ⟨v2, rfl, HO2.out.lowK HC1.out.size, HC2.out⟩

end Go.Proofs.YtfpflhcabjcamaaDoor
