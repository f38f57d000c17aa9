/- Layer 4 (header): Peek. -/
import Derived.Test.YtfecmloaopbogaaDoorV4Step
namespace Go.Proofs.YtfecmloaopbogaaDoor
open Go.RowKit

/-- What Peek comes to. -/
def peekOut (d : List Nat) (long : Bool) (bad : Int) : List Nat × Bool × Bool := if bad ≠ 0 ∨ 20 < d.length then ([], false, false) else (d, long, true)
def peekM (b : List Nat) : List Nat × Bool × Bool :=
  let f := rdByte (b, 0)
  if f.1 / 64 % 2 = 0 then ([], false, false)
  else if f.1 / 128 % 2 = 1 then (let p := whoM { long := true } f.2; peekOut p.1.dst true p.2.2)
  else (let p := rdBytes 8 f.2; peekOut p.1 false p.2.2)

def PeekPost (w : World) (d : List Nat) (long ok : Bool) (e : Ending) (w' : World) : Prop :=
  ∃ A c, e = .returned (.tuple #[.slice A d.length c, .bool long, .bool ok]) ∧ View w' (fun _ => True) A d.length (u8s d) ∧ d.length ≤ 1000000 ∧ Chg none_ w w'

theorem chg_up1 {w w1 w2 : World} {g gh : Nat} (h : Chg none_ w w1) (k : Chg (fun b => b = g ∨ b = gh) w1 w2) (hg : w.heap.size ≤ g) (hh : w.heap.size ≤ gh) : Chg none_ w w2 :=
  h.andThen k (fun b hb e => by omega)

/-- Behind varint.Read. -/
theorem read_one (w W0 w1 : World) (hW : W0 = w.alloc (.cells (cellsH {} nil4).toArray 25)) (g : Nat) (b : List Nat) (hb : ∀ x ∈ b, x < 256)
    (hg : W0.heap.size ≤ g) (hr : Rd w1 g (fun k => W0.heap.size ≤ k ∧ k ≠ g) b 0) (hc : Chg none_ W0 w1) :
    Two_ w1 g w.heap.size (fun k => W0.heap.size ≤ k ∧ k ≠ g) (b, 0) {} nil4 ∧ Chg none_ w w1 ∧ w.heap.size + 1 ≤ g := by
  subst hW
  have hg2 : w.heap.size + 1 ≤ g := by simp at hg; omega
  refine ⟨⟨⟨hr, hb⟩, (Row.new w _ _).chg hc (fun h => h), by omega, fun h => h.2 rfl, fun h => by have := h.1; simp at this; omega, ⟨Sl.nil _ _ _ _, Sl.nil _ _ _ _, Sl.nil _ _ _ _, Sl.nil _ _ _ _⟩⟩, ((Chg.refl none_ w).alloc _).trans hc, hg2⟩
theorem Two_.set0 {w : World} {g gh : Nat} {T : Nat → Prop} {s : St} {h : Hd} {v : Four} (x : Two_ w g gh T s h v) (l : Bool) :
    Two_ (w.setCell ⟨gh, 0, none⟩ (.bool l)) g gh T s { h with long := l } v :=
  have y := x.gh_setCell 0 (.bool l)
  ⟨y.1, x.row.set 0 _, x.ne, x.Tg, x.Th, ⟨y.2.1.d, y.2.1.s, y.2.1.t, y.2.1.c⟩⟩

set_option maxRecDepth 100000 in
set_option maxHeartbeats 1000000 in
theorem peek_none_may (w : World) (T : Nat → Prop) (A : Option Addr) (c : Nat) (b : List Nat) (hv : View w T A b.length (u8s b)) (hm : b.length ≤ 1000000) (hb : ∀ x ∈ b, x < 256) (f : Nat) (s : St) (ef : rdByte (b, 0) = (f, s)) (hq : f / 64 % 2 = 0) :
    Calls Tryd.prog 21 #[.slice A b.length c] w (PeekPost w [] false false) := by
  have hC0 : Chg none_ w (w.alloc (.cells (cellsH {} nil4).toArray 25)) := (Chg.refl none_ w).alloc _
  have HRD := Lib.hid (read_any _ T A c b (hv.chg hC0 (fun _ _ h => h)) hm)
  have HBB := Lib.hid hb
  have EF := Lib.hid ef
  clear hv hb ef hC0
  go_enter Tryd.func21, Tryd.ntmps21
  go_wp2_with fail
  refine wp_scope_fwd 0 rfl ?_
  go_wp2_with fail
  refine HRD.out.mono ?_
  rintro e w1 ⟨g, rfl, hg1, hr1, hc1⟩
  obtain ⟨x1, hcc1, hg2⟩ := read_one w _ w1 rfl g b HBB.out hg1 hr1 hc1
  have HT1 := Lib.hid x1
  have HC1 := Lib.hid hcc1
  clear x1 hcc1 hg1 hr1 hc1 HRD
  go_wp2_with fail
  refine (byte_two HT1.out).mono ?_
  have hf256 := (rdByte_mem (b, 0) HT1.out.rd.2).1
  rw [EF.out] at hf256 ⊢
  try simp only at hf256
  rintro e w2 ⟨rfl, x2, hc2⟩
  try simp only at x2
  have HT2 := Lib.hid x2
  have HC2 := Lib.hid (chg_up1 HC1.out hc2 (by omega) (by omega))
  clear x2 hc2 HT1 HC1
  have hb64 := b64 f hf256
  rw [decide_eq_true hq] at hb64
  clear hq
  go_wp2_with fail
  go_step3
  simp only [Exit.then]
  refine jump_fwd ?_
  go_wp2_with fail
  rw [Exit.noGoto_ret]
  go_ret3
  exact ⟨none, 0, rfl, View.none_ _ _ _, Nat.zero_le _, HC2.out⟩

set_option maxRecDepth 100000 in
set_option maxHeartbeats 1000000 in
theorem peek_long_bad (w : World) (T : Nat → Prop) (A : Option Addr) (c : Nat) (b : List Nat) (hv : View w T A b.length (u8s b)) (hm : b.length ≤ 1000000) (hb : ∀ x ∈ b, x < 256) (f : Nat) (s : St) (ef : rdByte (b, 0) = (f, s)) (h64 : ¬ f / 64 % 2 = 0) (hl : f / 128 % 2 = 1) (p : Hd × St) (ep : whoM { long := true } s = p) (hq : p.2.2 ≠ 0) :
    Calls Tryd.prog 21 #[.slice A b.length c] w (PeekPost w [] false false) := by
  have hC0 : Chg none_ w (w.alloc (.cells (cellsH {} nil4).toArray 25)) := (Chg.refl none_ w).alloc _
  have HRD := Lib.hid (read_any _ T A c b (hv.chg hC0 (fun _ _ h => h)) hm)
  have HBB := Lib.hid hb
  have EF := Lib.hid ef
  have EP := Lib.hid ep
  clear hv hb ef hC0 ep
  go_enter Tryd.func21, Tryd.ntmps21
  go_wp2_with fail
  refine wp_scope_fwd 0 rfl ?_
  go_wp2_with fail
  refine HRD.out.mono ?_
  rintro e w1 ⟨g, rfl, hg1, hr1, hc1⟩
  obtain ⟨x1, hcc1, hg2⟩ := read_one w _ w1 rfl g b HBB.out hg1 hr1 hc1
  have HT1 := Lib.hid x1
  have HC1 := Lib.hid hcc1
  clear x1 hcc1 hg1 hr1 hc1 HRD
  go_wp2_with fail
  refine (byte_two HT1.out).mono ?_
  have hf256 := (rdByte_mem (b, 0) HT1.out.rd.2).1
  rw [EF.out] at hf256 ⊢
  try simp only at hf256
  rintro e w2 ⟨rfl, x2, hc2⟩
  try simp only at x2
  have HT2 := Lib.hid x2
  have HC2 := Lib.hid (chg_up1 HC1.out hc2 (by omega) (by omega))
  clear x2 hc2 HT1 HC1
  have hb64 := b64 f hf256
  rw [decide_eq_false h64] at hb64
  have hb128 := b128n f hf256
  rw [decide_eq_true hl] at hb128
  have hk0 := HT2.out.row.cell 0
  have hf0 := HT2.out.row.frozen 0
  rw [cH_0] at hk0
  clear h64 hl
  go_wp2_with fail
  have HT3 := Lib.hid (HT2.out.set0 true)
  have HC3 := Lib.hid (HC2.out.setCell (p := ⟨w.heap.size, 0, none⟩) (fun h => absurd h (Nat.lt_irrefl _)) (.bool true))
  clear HT2 HC2 hk0 hf0
  generalize w2.setCell ⟨w.heap.size, 0, none⟩ (.bool true) = w3 at *
  have HWH := Lib.hid (readWhose_any w3 g w.heap.size _ s _ _ HT3.out)
  rw [EP.out] at HWH
  refine HWH.out.mono ?_
  rintro e w4 ⟨rfl, ⟨A4, c4, x4⟩, hc4⟩
  have hlong : p.1.long = true := by rw [← EP.out]; rfl
  have HT4 := Lib.hid x4
  have HC4 := Lib.hid (chg_up1 HC3.out hc4 (by omega) (by omega))
  clear x4 hc4 HT3 HC3 HWH
  have hk4 := HT4.out.row.cell 4
  rw [cH_4] at hk4
  try simp only at hk4
  have hk0 := HT4.out.row.cell 0
  rw [cH_0] at hk0
  try simp only at hk0
  rw [hlong] at hk0
  have hq' : (p.2.2 != 0) = true := by simpa using hq
  clear hq
  go_wp2_with (go_at_call 38; refine (badS_any _ g _ _ HT4.out.rd).mono ?_; rintro e w7 ⟨rfl, rfl⟩)
  go_step3
  simp only [Exit.then]
  refine jump_fwd ?_
  go_wp2_with fail
  rw [Exit.noGoto_ret]
  go_ret3
  exact ⟨none, 0, rfl, View.none_ _ _ _, Nat.zero_le _, HC4.out⟩

set_option maxRecDepth 100000 in
set_option maxHeartbeats 1000000 in
theorem peek_long_big (w : World) (T : Nat → Prop) (A : Option Addr) (c : Nat) (b : List Nat) (hv : View w T A b.length (u8s b)) (hm : b.length ≤ 1000000) (hb : ∀ x ∈ b, x < 256) (f : Nat) (s : St) (ef : rdByte (b, 0) = (f, s)) (h64 : ¬ f / 64 % 2 = 0) (hl : f / 128 % 2 = 1) (p : Hd × St) (ep : whoM { long := true } s = p) (hq0 : p.2.2 = 0) (hq : 20 < p.1.dst.length) :
    Calls Tryd.prog 21 #[.slice A b.length c] w (PeekPost w [] false false) := by
  have hC0 : Chg none_ w (w.alloc (.cells (cellsH {} nil4).toArray 25)) := (Chg.refl none_ w).alloc _
  have HRD := Lib.hid (read_any _ T A c b (hv.chg hC0 (fun _ _ h => h)) hm)
  have HBB := Lib.hid hb
  have EF := Lib.hid ef
  have EP := Lib.hid ep
  clear hv hb ef hC0 ep
  go_enter Tryd.func21, Tryd.ntmps21
  go_wp2_with fail
  refine wp_scope_fwd 0 rfl ?_
  go_wp2_with fail
  refine HRD.out.mono ?_
  rintro e w1 ⟨g, rfl, hg1, hr1, hc1⟩
  obtain ⟨x1, hcc1, hg2⟩ := read_one w _ w1 rfl g b HBB.out hg1 hr1 hc1
  have HT1 := Lib.hid x1
  have HC1 := Lib.hid hcc1
  clear x1 hcc1 hg1 hr1 hc1 HRD
  go_wp2_with fail
  refine (byte_two HT1.out).mono ?_
  have hf256 := (rdByte_mem (b, 0) HT1.out.rd.2).1
  rw [EF.out] at hf256 ⊢
  try simp only at hf256
  rintro e w2 ⟨rfl, x2, hc2⟩
  try simp only at x2
  have HT2 := Lib.hid x2
  have HC2 := Lib.hid (chg_up1 HC1.out hc2 (by omega) (by omega))
  clear x2 hc2 HT1 HC1
  have hb64 := b64 f hf256
  rw [decide_eq_false h64] at hb64
  have hb128 := b128n f hf256
  rw [decide_eq_true hl] at hb128
  have hk0 := HT2.out.row.cell 0
  have hf0 := HT2.out.row.frozen 0
  rw [cH_0] at hk0
  clear h64 hl
  go_wp2_with fail
  have HT3 := Lib.hid (HT2.out.set0 true)
  have HC3 := Lib.hid (HC2.out.setCell (p := ⟨w.heap.size, 0, none⟩) (fun h => absurd h (Nat.lt_irrefl _)) (.bool true))
  clear HT2 HC2 hk0 hf0
  generalize w2.setCell ⟨w.heap.size, 0, none⟩ (.bool true) = w3 at *
  have HWH := Lib.hid (readWhose_any w3 g w.heap.size _ s _ _ HT3.out)
  rw [EP.out] at HWH
  refine HWH.out.mono ?_
  rintro e w4 ⟨rfl, ⟨A4, c4, x4⟩, hc4⟩
  have hlong : p.1.long = true := by rw [← EP.out]; rfl
  have HT4 := Lib.hid x4
  have HC4 := Lib.hid (chg_up1 HC3.out hc4 (by omega) (by omega))
  clear x4 hc4 HT3 HC3 HWH
  have hk4 := HT4.out.row.cell 4
  rw [cH_4] at hk4
  try simp only at hk4
  have hk0 := HT4.out.row.cell 0
  rw [cH_0] at hk0
  try simp only at hk0
  rw [hlong] at hk0
  have hq0' : (p.2.2 != 0) = false := by simpa using hq0
  clear hq0
  go_wp2_with (go_at_call 38; refine (badS_any _ g _ _ HT4.out.rd).mono ?_; rintro e w7 ⟨rfl, rfl⟩)
  go_step3
  simp only [Exit.then]
  refine jump_fwd ?_
  go_wp2_with fail
  rw [Exit.noGoto_ret]
  go_ret3
  exact ⟨none, 0, rfl, View.none_ _ _ _, Nat.zero_le _, HC4.out⟩

set_option maxRecDepth 100000 in
set_option maxHeartbeats 1000000 in
theorem peek_long_ok (w : World) (T : Nat → Prop) (A : Option Addr) (c : Nat) (b : List Nat) (hv : View w T A b.length (u8s b)) (hm : b.length ≤ 1000000) (hb : ∀ x ∈ b, x < 256) (f : Nat) (s : St) (ef : rdByte (b, 0) = (f, s)) (h64 : ¬ f / 64 % 2 = 0) (hl : f / 128 % 2 = 1) (p : Hd × St) (ep : whoM { long := true } s = p) (hq0 : p.2.2 = 0) (hq : ¬ 20 < p.1.dst.length) :
    Calls Tryd.prog 21 #[.slice A b.length c] w (PeekPost w p.1.dst true true) := by
  have hC0 : Chg none_ w (w.alloc (.cells (cellsH {} nil4).toArray 25)) := (Chg.refl none_ w).alloc _
  have HRD := Lib.hid (read_any _ T A c b (hv.chg hC0 (fun _ _ h => h)) hm)
  have HBB := Lib.hid hb
  have EF := Lib.hid ef
  have EP := Lib.hid ep
  clear hv hb ef hC0 ep
  go_enter Tryd.func21, Tryd.ntmps21
  go_wp2_with fail
  refine wp_scope_fwd 0 rfl ?_
  go_wp2_with fail
  refine HRD.out.mono ?_
  rintro e w1 ⟨g, rfl, hg1, hr1, hc1⟩
  obtain ⟨x1, hcc1, hg2⟩ := read_one w _ w1 rfl g b HBB.out hg1 hr1 hc1
  have HT1 := Lib.hid x1
  have HC1 := Lib.hid hcc1
  clear x1 hcc1 hg1 hr1 hc1 HRD
  go_wp2_with fail
  refine (byte_two HT1.out).mono ?_
  have hf256 := (rdByte_mem (b, 0) HT1.out.rd.2).1
  rw [EF.out] at hf256 ⊢
  try simp only at hf256
  rintro e w2 ⟨rfl, x2, hc2⟩
  try simp only at x2
  have HT2 := Lib.hid x2
  have HC2 := Lib.hid (chg_up1 HC1.out hc2 (by omega) (by omega))
  clear x2 hc2 HT1 HC1
  have hb64 := b64 f hf256
  rw [decide_eq_false h64] at hb64
  have hb128 := b128n f hf256
  rw [decide_eq_true hl] at hb128
  have hk0 := HT2.out.row.cell 0
  have hf0 := HT2.out.row.frozen 0
  rw [cH_0] at hk0
  clear h64 hl
  go_wp2_with fail
  have HT3 := Lib.hid (HT2.out.set0 true)
  have HC3 := Lib.hid (HC2.out.setCell (p := ⟨w.heap.size, 0, none⟩) (fun h => absurd h (Nat.lt_irrefl _)) (.bool true))
  clear HT2 HC2 hk0 hf0
  generalize w2.setCell ⟨w.heap.size, 0, none⟩ (.bool true) = w3 at *
  have HWH := Lib.hid (readWhose_any w3 g w.heap.size _ s _ _ HT3.out)
  rw [EP.out] at HWH
  refine HWH.out.mono ?_
  rintro e w4 ⟨rfl, ⟨A4, c4, x4⟩, hc4⟩
  have hlong : p.1.long = true := by rw [← EP.out]; rfl
  have HT4 := Lib.hid x4
  have HC4 := Lib.hid (chg_up1 HC3.out hc4 (by omega) (by omega))
  clear x4 hc4 HT3 HC3 HWH
  have hk4 := HT4.out.row.cell 4
  rw [cH_4] at hk4
  try simp only at hk4
  have hk0 := HT4.out.row.cell 0
  rw [cH_0] at hk0
  try simp only at hk0
  rw [hlong] at hk0
  have hq0' : (p.2.2 != 0) = false := by simpa using hq0
  clear hq0
  go_wp2_with (go_at_call 38; refine (badS_any _ g _ _ HT4.out.rd).mono ?_; rintro e w7 ⟨rfl, rfl⟩)
  go_quiet (fail)
  go_wp2_with fail
  rw [jump_ret]
  go_ret3
  obtain ⟨A', c', q1, q2, q3⟩ := HT4.out.sl.d
  try simp only at q1 q2 q3
  injection q1 with q1 _ _
  subst q1
  exact ⟨A4, c4, rfl, (q3.mono (fun _ _ _ => trivial)).drewN _, q2, HC4.out.drewN _⟩

set_option maxRecDepth 100000 in
set_option maxHeartbeats 1000000 in
theorem peek_short_bad (w : World) (T : Nat → Prop) (A : Option Addr) (c : Nat) (b : List Nat) (hv : View w T A b.length (u8s b)) (hm : b.length ≤ 1000000) (hb : ∀ x ∈ b, x < 256) (f : Nat) (s : St) (ef : rdByte (b, 0) = (f, s)) (h64 : ¬ f / 64 % 2 = 0) (hl : ¬ f / 128 % 2 = 1) (p : List Nat × St) (ep : rdBytes 8 s = p) (hq : p.2.2 ≠ 0) :
    Calls Tryd.prog 21 #[.slice A b.length c] w (PeekPost w [] false false) := by
  have hC0 : Chg none_ w (w.alloc (.cells (cellsH {} nil4).toArray 25)) := (Chg.refl none_ w).alloc _
  have HRD := Lib.hid (read_any _ T A c b (hv.chg hC0 (fun _ _ h => h)) hm)
  have HBB := Lib.hid hb
  have EF := Lib.hid ef
  have EP := Lib.hid ep
  clear hv hb ef hC0 ep
  go_enter Tryd.func21, Tryd.ntmps21
  go_wp2_with fail
  refine wp_scope_fwd 0 rfl ?_
  go_wp2_with fail
  refine HRD.out.mono ?_
  rintro e w1 ⟨g, rfl, hg1, hr1, hc1⟩
  obtain ⟨x1, hcc1, hg2⟩ := read_one w _ w1 rfl g b HBB.out hg1 hr1 hc1
  have HT1 := Lib.hid x1
  have HC1 := Lib.hid hcc1
  clear x1 hcc1 hg1 hr1 hc1 HRD
  go_wp2_with fail
  refine (byte_two HT1.out).mono ?_
  have hf256 := (rdByte_mem (b, 0) HT1.out.rd.2).1
  rw [EF.out] at hf256 ⊢
  try simp only at hf256
  rintro e w2 ⟨rfl, x2, hc2⟩
  try simp only at x2
  have HT2 := Lib.hid x2
  have HC2 := Lib.hid (chg_up1 HC1.out hc2 (by omega) (by omega))
  clear x2 hc2 HT1 HC1
  have hb64 := b64 f hf256
  rw [decide_eq_false h64] at hb64
  have hb128 := b128n f hf256
  rw [decide_eq_false hl] at hb128
  have hk0 := HT2.out.row.cell 0
  have hf0 := HT2.out.row.frozen 0
  rw [cH_0] at hk0
  clear h64 hl
  go_wp2_with fail
  have HT3 := Lib.hid (HT2.out.set0 false)
  have HC3 := Lib.hid (HC2.out.setCell (p := ⟨w.heap.size, 0, none⟩) (fun h => absurd h (Nat.lt_irrefl _)) (.bool false))
  clear HT2 HC2 hk0 hf0
  generalize w2.setCell ⟨w.heap.size, 0, none⟩ (.bool false) = w3 at *
  refine (bytes_two HT3.out 8).mono ?_
  rw [EP.out]
  rintro e w5 ⟨A4, c4, rfl, b5, x5, hc5⟩
  have HT5 := Lib.hid x5
  have HB5 := Lib.hid b5
  have HC5 := Lib.hid (chg_up1 HC3.out hc5 (by omega) (by omega))
  have hk4 := HT5.out.row.cell 4
  have hf4 := HT5.out.row.frozen 4
  rw [cH_4] at hk4
  clear x5 b5 hc5 HT3 HC3
  go_wp2_with fail
  have HT4 := Lib.hid (HT5.out.set4 HB5.out)
  have HC4 := Lib.hid (HC5.out.setCell (p := ⟨w.heap.size, 4, none⟩) (fun h => absurd h (Nat.lt_irrefl _)) (.slice A4 p.1.length c4))
  clear HT5 HC5 HB5 hk4 hf4
  generalize w5.setCell ⟨w.heap.size, 4, none⟩ (.slice A4 p.1.length c4) = w4 at *
  have hk4 := HT4.out.row.cell 4
  rw [cH_4] at hk4
  try simp only at hk4
  have hk0 := HT4.out.row.cell 0
  rw [cH_0] at hk0
  try simp only at hk0
  have hq' : (p.2.2 != 0) = true := by simpa using hq
  clear hq
  go_wp2_with (go_at_call 38; refine (badS_any _ g _ _ HT4.out.rd).mono ?_; rintro e w7 ⟨rfl, rfl⟩)
  go_step3
  simp only [Exit.then]
  refine jump_fwd ?_
  go_wp2_with fail
  rw [Exit.noGoto_ret]
  go_ret3
  exact ⟨none, 0, rfl, View.none_ _ _ _, Nat.zero_le _, HC4.out⟩

set_option maxRecDepth 100000 in
set_option maxHeartbeats 1000000 in
theorem peek_short_ok (w : World) (T : Nat → Prop) (A : Option Addr) (c : Nat) (b : List Nat) (hv : View w T A b.length (u8s b)) (hm : b.length ≤ 1000000) (hb : ∀ x ∈ b, x < 256) (f : Nat) (s : St) (ef : rdByte (b, 0) = (f, s)) (h64 : ¬ f / 64 % 2 = 0) (hl : ¬ f / 128 % 2 = 1) (p : List Nat × St) (ep : rdBytes 8 s = p) (hq0 : p.2.2 = 0) (hq : ¬ 20 < p.1.length) :
    Calls Tryd.prog 21 #[.slice A b.length c] w (PeekPost w p.1 false true) := by
  have hC0 : Chg none_ w (w.alloc (.cells (cellsH {} nil4).toArray 25)) := (Chg.refl none_ w).alloc _
  have HRD := Lib.hid (read_any _ T A c b (hv.chg hC0 (fun _ _ h => h)) hm)
  have HBB := Lib.hid hb
  have EF := Lib.hid ef
  have EP := Lib.hid ep
  clear hv hb ef hC0 ep
  go_enter Tryd.func21, Tryd.ntmps21
  go_wp2_with fail
  refine wp_scope_fwd 0 rfl ?_
  go_wp2_with fail
  refine HRD.out.mono ?_
  rintro e w1 ⟨g, rfl, hg1, hr1, hc1⟩
  obtain ⟨x1, hcc1, hg2⟩ := read_one w _ w1 rfl g b HBB.out hg1 hr1 hc1
  have HT1 := Lib.hid x1
  have HC1 := Lib.hid hcc1
  clear x1 hcc1 hg1 hr1 hc1 HRD
  go_wp2_with fail
  refine (byte_two HT1.out).mono ?_
  have hf256 := (rdByte_mem (b, 0) HT1.out.rd.2).1
  rw [EF.out] at hf256 ⊢
  try simp only at hf256
  rintro e w2 ⟨rfl, x2, hc2⟩
  try simp only at x2
  have HT2 := Lib.hid x2
  have HC2 := Lib.hid (chg_up1 HC1.out hc2 (by omega) (by omega))
  clear x2 hc2 HT1 HC1
  have hb64 := b64 f hf256
  rw [decide_eq_false h64] at hb64
  have hb128 := b128n f hf256
  rw [decide_eq_false hl] at hb128
  have hk0 := HT2.out.row.cell 0
  have hf0 := HT2.out.row.frozen 0
  rw [cH_0] at hk0
  clear h64 hl
  go_wp2_with fail
  have HT3 := Lib.hid (HT2.out.set0 false)
  have HC3 := Lib.hid (HC2.out.setCell (p := ⟨w.heap.size, 0, none⟩) (fun h => absurd h (Nat.lt_irrefl _)) (.bool false))
  clear HT2 HC2 hk0 hf0
  generalize w2.setCell ⟨w.heap.size, 0, none⟩ (.bool false) = w3 at *
  refine (bytes_two HT3.out 8).mono ?_
  rw [EP.out]
  rintro e w5 ⟨A4, c4, rfl, b5, x5, hc5⟩
  have HT5 := Lib.hid x5
  have HB5 := Lib.hid b5
  have HC5 := Lib.hid (chg_up1 HC3.out hc5 (by omega) (by omega))
  have hk4 := HT5.out.row.cell 4
  have hf4 := HT5.out.row.frozen 4
  rw [cH_4] at hk4
  clear x5 b5 hc5 HT3 HC3
  go_wp2_with fail
  have HT4 := Lib.hid (HT5.out.set4 HB5.out)
  have HC4 := Lib.hid (HC5.out.setCell (p := ⟨w.heap.size, 4, none⟩) (fun h => absurd h (Nat.lt_irrefl _)) (.slice A4 p.1.length c4))
  clear HT5 HC5 HB5 hk4 hf4
  generalize w5.setCell ⟨w.heap.size, 4, none⟩ (.slice A4 p.1.length c4) = w4 at *
  have hk4 := HT4.out.row.cell 4
  rw [cH_4] at hk4
  try simp only at hk4
  have hk0 := HT4.out.row.cell 0
  rw [cH_0] at hk0
  try simp only at hk0
  have hq0' : (p.2.2 != 0) = false := by simpa using hq0
  clear hq0
  go_wp2_with (go_at_call 38; refine (badS_any _ g _ _ HT4.out.rd).mono ?_; rintro e w7 ⟨rfl, rfl⟩)
  go_quiet (fail)
  go_wp2_with fail
  rw [jump_ret]
  go_ret3
  obtain ⟨A', c', q1, q2, q3⟩ := HT4.out.sl.d
  try simp only at q1 q2 q3
  injection q1 with q1 _ _
  subst q1
  exact ⟨A4, c4, rfl, (q3.mono (fun _ _ _ => trivial)).drewN _, q2, HC4.out.drewN _⟩


theorem peek_any (w : World) (T : Nat → Prop) (A : Option Addr) (c : Nat) (b : List Nat) (hv : View w T A b.length (u8s b)) (hm : b.length ≤ 1000000) (hb : ∀ x ∈ b, x < 256) :
    Calls Tryd.prog 21 #[.slice A b.length c] w (PeekPost w (peekM b).1 (peekM b).2.1 (peekM b).2.2) := by
  unfold peekM peekOut
  simp only
  split
  · rename_i h
    exact peek_none_may w T A c b hv hm hb _ _ rfl h
  · rename_i h64
    split
    · rename_i hl
      split
      · rename_i hq
        by_cases h0 : (whoM { long := true } (rdByte (b, 0)).2).2.2 = 0
        · exact peek_long_big w T A c b hv hm hb _ _ rfl h64 hl _ rfl h0 (hq.resolve_left (fun h => h h0))
        · exact peek_long_bad w T A c b hv hm hb _ _ rfl h64 hl _ rfl h0
      · rename_i hq
        exact peek_long_ok w T A c b hv hm hb _ _ rfl h64 hl _ rfl (by omega) (by omega)
    · rename_i hl
      have h8 := rdBytes_len 8 (rdByte (b, 0)).2
      split
      · rename_i hq
        exact peek_short_bad w T A c b hv hm hb _ _ rfl h64 hl _ rfl (hq.resolve_right (by omega))
      · rename_i hq
        exact peek_short_ok w T A c b hv hm hb _ _ rfl h64 hl _ rfl (by omega) (by omega)
end Go.Proofs.YtfecmloaopbogaaDoor
