/- Layer 4 (header): Parse. -/
import Derived.Test.YtfecmloaopbogaaDoorV4LongAny
import Derived.Test.YtfecmloaopbogaaDoorV4Right
import Derived.Deep.RegionHeld3
namespace Go.Proofs.YtfecmloaopbogaaDoor
open Go.RowKit

/-- What Parse comes to. -/
def restM (f : Nat) (s : St) : Hd × St := if (partsM f).long then longM (partsM f) (f % 4 + 1) s else shortM (partsM f) (f % 4 + 1) s
def parseM (b : List Nat) : Hd × Int × Int :=
  let f := rdByte (b, 0)
  if mayM f.1 = false then ({}, 0, (failSt 3 f.2).2)
  else
    let r := restM f.1 f.2
    if r.2.2 ≠ 0 ∨ rightH r.1 = false then ({}, 0, (failSt 3 r.2).2)
    else (r.1, (b.length : Int) - (r.2.1.length : Int), 0)

def ParsePost (w : World) (h : Hd) (n : Int) (err : Int) (e : Ending) (w' : World) : Prop :=
  ∃ v', e = .returned (.tuple #[aggH h v', .int .i64 n, .int .i64 err]) ∧ HdD w' (fun b => w.heap.size ≤ b) h v' ∧ Chg none_ w w'

theorem chg_up {w w1 w2 : World} {g gh : Nat} (h : Chg none_ w w1) (k : Chg (fun b => b = g ∨ b = gh) w1 w2) (hg : w.heap.size ≤ g) (hh : w.heap.size ≤ gh) : Chg none_ w w2 :=
  h.andThen k (fun b hb e => by omega)

theorem nil4_d (w : World) (T : Nat → Prop) : HdD w T {} nil4 := ⟨Sl.nil _ _ _ _, Sl.nil _ _ _ _, Sl.nil _ _ _ _, Sl.nil _ _ _ _⟩

theorem partsM_nil (w : World) (T : Nat → Prop) (f : Nat) : HdD w T (partsM f) nil4 := by
  unfold partsM
  split
  · exact ⟨Sl.nil _ _ _ _, Sl.nil _ _ _ _, Sl.nil _ _ _ _, Sl.nil _ _ _ _⟩
  · exact ⟨Sl.nil _ _ _ _, Sl.nil _ _ _ _, Sl.nil _ _ _ _, Sl.nil _ _ _ _⟩
theorem Two_.store_all {w w' : World} {g gh : Nat} {T : Nat → Prop} {s : St} {h : Hd} {v : Four} (x : Two_ w g gh T s h v) (p : Hd) (hp : HdD w' (fun b => b ≠ g ∧ gh < b) p nil4) (hr : Row w' gh 25 (cellsH p nil4)) (hc : Chg (· = gh) w w') : Two_ w' g gh T s p nil4 :=
  ⟨x.rd.chg hc (fun e => x.ne e) (fun _ hb e => x.Th (e ▸ hb)), hr, x.ne, x.Tg, x.Th, hp⟩

section
variable {P : Program} {o : Oper} {a : Act} {w : World} {K : Act → World → Prop} {Q : Exit → Act → World → Prop}
/-- A whole struct is stored into a row, at the operation. -/
theorem wp_store_Row {ty : TypeId} {x y : Operand} (ho : o.op = .store ty x y) {g : Nat} {e : TypeId} {cs xs : List Value} (hx : a.eval x = .pointer (some ⟨g, 0, none⟩)) (h : Row w g e cs)
    (hy : a.eval y = .agg xs.toArray) (hl : xs.length = cs.length) (hi : (P.info? ty).map (·.size) = some xs.length) (h1 : xs.all (·.oneCell') = true)
    (k : ∀ w', Row w' g e xs → (∀ S w0, Chg S w0 w → (g < w0.heap.size → S g) → Chg S w0 w') → K (a.put o.dst undef) w') : o.wp P a w K Q :=
  wp_store_mid ty x y ho g 0 xs.toArray hx hy (h.there 0 _ (by simp; omega)) (by simpa using hi) (by simpa using h1)
    (k _ (by simpa using h.store xs hl) (fun S w0 hc hg => by simpa using hc.setCells xs 0 hg))
end

/-- Behind varint.Read. -/
theorem read_two (w W0 w1 : World) (hW : W0 = (w.alloc (.cells (cellsH {} nil4).toArray 25)).alloc (.cells (cellsH {} nil4).toArray 25)) (g : Nat) (b : List Nat) (hb : ∀ x ∈ b, x < 256)
    (hg : W0.heap.size ≤ g) (hr : Rd w1 g (fun k => W0.heap.size ≤ k ∧ k ≠ g) b 0) (hc : Chg none_ W0 w1) :
    Two_ w1 g (w.heap.size + 1) (fun k => W0.heap.size ≤ k ∧ k ≠ g) (b, 0) {} nil4 ∧ Row w1 w.heap.size 25 (cellsH {} nil4) ∧ Chg none_ w w1 ∧ w.heap.size + 2 ≤ g := by
  subst hW
  have hg2 : w.heap.size + 2 ≤ g := by simp at hg; omega
  refine ⟨⟨⟨hr, hb⟩, (Row.new2 w _ _ _).chg hc (fun h => h), by omega, fun h => h.2 rfl, fun h => by have := h.1; simp at this; omega, nil4_d _ _⟩, (Row.new1 w _ _ _).chg hc (fun h => h), (((Chg.refl none_ w).alloc _).alloc _).trans hc, hg2⟩

set_option maxRecDepth 100000 in
set_option maxHeartbeats 1000000 in
theorem parse_none_may (w : World) (T : Nat → Prop) (A : Option Addr) (c : Nat) (b : List Nat) (hv : View w T A b.length (u8s b)) (hm : b.length ≤ 1000000) (hb : ∀ x ∈ b, x < 256) (f : Nat) (s : St) (ef : rdByte (b, 0) = (f, s)) (hq : mayM f = false) :
    Calls Tryd.prog 19 #[.slice A b.length c] w (ParsePost w {} 0 (failSt 3 s).2) := by
  have hC0 : Chg none_ w ((w.alloc (.cells (cellsH {} nil4).toArray 25)).alloc (.cells (cellsH {} nil4).toArray 25)) := ((Chg.refl none_ w).alloc _).alloc _
  have HRD := Lib.hid (read_any _ T A c b (hv.chg hC0 (fun _ _ h => h)) hm)
  have HBB := Lib.hid hb
  have EF := Lib.hid ef
  clear hv hb ef hC0
  go_enter Tryd.func19, Tryd.ntmps19
  go_wp2_with fail
  refine wp_scope_fwd 0 rfl ?_
  go_wp2_with fail
  refine HRD.out.mono ?_
  rintro e w1 ⟨g, rfl, hg1, hr1, hc1⟩
  obtain ⟨x1, hrr1, hcc1, hg2⟩ := read_two w _ w1 rfl g b HBB.out hg1 hr1 hc1
  have HT1 := Lib.hid x1
  have HR1 := Lib.hid hrr1
  have HC1 := Lib.hid hcc1
  clear x1 hrr1 hcc1 hg1 hr1 hc1 HRD
  go_wp2_with fail
  refine (byte_two HT1.out).mono ?_
  have hf256 := (rdByte_mem (b, 0) HT1.out.rd.2).1
  rw [EF.out] at hf256 ⊢
  try simp only at hf256
  rintro e w2 ⟨rfl, x2, hc2⟩
  try simp only at x2
  have HT2 := Lib.hid x2
  have HR2 := Lib.hid (HR1.out.chg hc2 (fun e => by omega))
  have HC2 := Lib.hid (chg_up HC1.out hc2 (by omega) (by omega))
  clear x2 hc2 HT1 HR1 HC1
  have HMB := Lib.hid (mayBegin_any f hf256 w2)
  rw [hq] at HMB
  go_wp2_with fail
  refine HMB.out.mono ?_
  rintro e w3 ⟨rfl, rfl⟩
  go_wp2_with fail
  go_step3
  simp only [Exit.then]
  refine jump_fwd ?_
  go_wp2_with fail
  refine (fail_two HT2.out 3).mono ?_
  rintro e w9 ⟨rfl, x9, hc9⟩
  have HT9 := Lib.hid x9
  have hr9 := HR2.out.chg hc9 (fun e => by omega)
  have HC9 := Lib.hid (chg_up HC2.out hc9 (by omega) (by omega))
  clear x9 hc9
  have hh0 := hr9.cell 0
  have hth := hr9.there 0 9 (by rw [cH_len]; omega)
  have HR9 := Lib.hid hr9
  go_wp2_with (first | ((with_reducible show wpList _ _ _ (⟨_, .store 25 _ _, _, _, _, _⟩ :: _) _ _); refine wpList_store_Row (xs := cellsH {} nil4) rfl rfl rfl HR9.out rfl rfl (by exact sizeH) rfl ?_; intro w11 hr11 hch11 _; have HC11 := Lib.hid (hch11 none_ w HC9.out (fun h => by omega)); have HR11 := Lib.hid hr11; clear hr11 hch11) | (go_at_call 38; refine (badS_any _ g _ _ HT9.out.rd).mono ?_; rintro e w10 ⟨rfl, rfl⟩))
  rw [Exit.noGoto_ret]
  refine ret_row3 rfl rfl HR11.out Tryd.underlying25 rfl sizeH rfl ?_
  exact ⟨nil4, rfl, nil4_d _ _, HC11.out⟩

set_option maxRecDepth 100000 in
set_option maxHeartbeats 1000000 in
theorem parse_long_bad (w : World) (T : Nat → Prop) (A : Option Addr) (c : Nat) (b : List Nat) (hv : View w T A b.length (u8s b)) (hm : b.length ≤ 1000000) (hb : ∀ x ∈ b, x < 256) (f : Nat) (s : St) (ef : rdByte (b, 0) = (f, s)) (hmay : mayM f = true) (p : Hd) (ep : partsM f = p) (hl : p.long = true) (hkind : p.kind = 0 ∨ p.kind = 2) (r : Hd × St) (er : longM p (f % 4 + 1) s = r) (hq : r.2.2 ≠ 0) :
    Calls Tryd.prog 19 #[.slice A b.length c] w (ParsePost w {} 0 (failSt 3 r.2).2) := by
  have hC0 : Chg none_ w ((w.alloc (.cells (cellsH {} nil4).toArray 25)).alloc (.cells (cellsH {} nil4).toArray 25)) := ((Chg.refl none_ w).alloc _).alloc _
  have HRD := Lib.hid (read_any _ T A c b (hv.chg hC0 (fun _ _ h => h)) hm)
  have HBB := Lib.hid hb
  have EF := Lib.hid ef
  have EP := Lib.hid ep
  have ER := Lib.hid er
  clear hv hb ef hC0 ep er
  go_enter Tryd.func19, Tryd.ntmps19
  go_wp2_with fail
  refine wp_scope_fwd 0 rfl ?_
  go_wp2_with fail
  refine HRD.out.mono ?_
  rintro e w1 ⟨g, rfl, hg1, hr1, hc1⟩
  obtain ⟨x1, hrr1, hcc1, hg2⟩ := read_two w _ w1 rfl g b HBB.out hg1 hr1 hc1
  have HT1 := Lib.hid x1
  have HR1 := Lib.hid hrr1
  have HC1 := Lib.hid hcc1
  clear x1 hrr1 hcc1 hg1 hr1 hc1 HRD
  go_wp2_with fail
  refine (byte_two HT1.out).mono ?_
  have hf256 := (rdByte_mem (b, 0) HT1.out.rd.2).1
  rw [EF.out] at hf256 ⊢
  try simp only at hf256
  rintro e w2 ⟨rfl, x2, hc2⟩
  try simp only at x2
  have HT2 := Lib.hid x2
  have HR2 := Lib.hid (HR1.out.chg hc2 (fun e => by omega))
  have HC2 := Lib.hid (chg_up HC1.out hc2 (by omega) (by omega))
  clear x2 hc2 HT1 HR1 HC1
  have HMB := Lib.hid (mayBegin_any f hf256 w2)
  rw [hmay] at HMB
  go_wp2_with fail
  refine HMB.out.mono ?_
  rintro e w3 ⟨rfl, rfl⟩
  have HPO := Lib.hid (partsOf_any f hf256 w2)
  unfold aggH at HPO
  rw [EP.out] at HPO
  have HSZ : Hid (f % 4 + 1 ≤ 4) := by show _ ≤ _; omega
  generalize hsz : f % 4 + 1 = size at *
  clear hsz
  go_wp2_with (first | (go_at_call 35; refine HPO.out.mono ?_; rintro e w4 ⟨rfl, hc4⟩; have HT4 := Lib.hid (HT2.out.chg hc4); have HR4 := Lib.hid (HR2.out.chg hc4 (fun h => h)); have HC4 := Lib.hid (HC2.out.trans hc4); clear hc4) | ((with_reducible show wpList _ _ _ (⟨_, .store 25 _ _, _, _, _, _⟩ :: _) _ _); refine wpList_store_Row (xs := cellsH p nil4) rfl rfl rfl HT4.out.row rfl rfl (by exact sizeH) rfl ?_; intro w5 hr5 hch5 _; have HH5 := Lib.hid (hch5 (· = w.heap.size + 1) w4 (Chg.refl _ _) (fun _ => rfl)); have HC5 := Lib.hid (hch5 none_ w HC4.out (fun h => by omega)); have HT5 := Lib.hid (HT4.out.store_all p (EP.out ▸ partsM_nil _ _ f) hr5 HH5.out); have HR5 := Lib.hid (HR4.out.chg HH5.out (fun e => by omega)); have hl5 := hr5.cell 0; rw [cH_0, hl] at hl5; clear hr5 hch5))
  have HRDL := Lib.hid (readLong_any w5 g (w.heap.size + 1) _ s p nil4 HT5.out size HSZ.out hkind)
  rw [ER.out] at HRDL
  refine HRDL.out.mono ?_
  clear hl5 HRDL
  rintro e w6 ⟨rfl, ⟨v6, x6⟩, hc6⟩
  have HT6 := Lib.hid x6
  have HR6 := Lib.hid (HR5.out.chg hc6 (fun e => by omega))
  have HC6 := Lib.hid (chg_up HC5.out hc6 (by omega) (by omega))
  clear x6 hc6 HT5 HR5 HC5 HT4 HR4 HC4 HT2 HR2 HC2 HPO HMB
  have hq' : (r.2.2 != 0) = true := by simpa using hq
  clear hq
  go_wp2_with (go_at_call 38; refine (badS_any _ g _ _ HT6.out.rd).mono ?_; rintro e w7 ⟨rfl, rfl⟩)
  go_step3
  simp only [Exit.then]
  refine jump_fwd ?_
  go_wp2_with fail
  refine (fail_two HT6.out 3).mono ?_
  rintro e w9 ⟨rfl, x9, hc9⟩
  have HT9 := Lib.hid x9
  have hr9 := HR6.out.chg hc9 (fun e => by omega)
  have HC9 := Lib.hid (chg_up HC6.out hc9 (by omega) (by omega))
  clear x9 hc9
  have hh0 := hr9.cell 0
  have hth := hr9.there 0 9 (by rw [cH_len]; omega)
  have HR9 := Lib.hid hr9
  go_wp2_with (first | ((with_reducible show wpList _ _ _ (⟨_, .store 25 _ _, _, _, _, _⟩ :: _) _ _); refine wpList_store_Row (xs := cellsH {} nil4) rfl rfl rfl HR9.out rfl rfl (by exact sizeH) rfl ?_; intro w11 hr11 hch11 _; have HC11 := Lib.hid (hch11 none_ w HC9.out (fun h => by omega)); have HR11 := Lib.hid hr11; clear hr11 hch11) | (go_at_call 38; refine (badS_any _ g _ _ HT9.out.rd).mono ?_; rintro e w10 ⟨rfl, rfl⟩))
  rw [Exit.noGoto_ret]
  refine ret_row3 rfl rfl HR11.out Tryd.underlying25 rfl sizeH rfl ?_
  exact ⟨nil4, rfl, nil4_d _ _, HC11.out⟩

set_option maxRecDepth 100000 in
set_option maxHeartbeats 1000000 in
theorem parse_long_wrong (w : World) (T : Nat → Prop) (A : Option Addr) (c : Nat) (b : List Nat) (hv : View w T A b.length (u8s b)) (hm : b.length ≤ 1000000) (hb : ∀ x ∈ b, x < 256) (f : Nat) (s : St) (ef : rdByte (b, 0) = (f, s)) (hmay : mayM f = true) (p : Hd) (ep : partsM f = p) (hl : p.long = true) (hkind : p.kind = 0 ∨ p.kind = 2) (r : Hd × St) (er : longM p (f % 4 + 1) s = r) (hq0 : r.2.2 = 0) (hq : rightH r.1 = false) :
    Calls Tryd.prog 19 #[.slice A b.length c] w (ParsePost w {} 0 (failSt 3 r.2).2) := by
  have hC0 : Chg none_ w ((w.alloc (.cells (cellsH {} nil4).toArray 25)).alloc (.cells (cellsH {} nil4).toArray 25)) := ((Chg.refl none_ w).alloc _).alloc _
  have HRD := Lib.hid (read_any _ T A c b (hv.chg hC0 (fun _ _ h => h)) hm)
  have HBB := Lib.hid hb
  have EF := Lib.hid ef
  have EP := Lib.hid ep
  have ER := Lib.hid er
  clear hv hb ef hC0 ep er
  go_enter Tryd.func19, Tryd.ntmps19
  go_wp2_with fail
  refine wp_scope_fwd 0 rfl ?_
  go_wp2_with fail
  refine HRD.out.mono ?_
  rintro e w1 ⟨g, rfl, hg1, hr1, hc1⟩
  obtain ⟨x1, hrr1, hcc1, hg2⟩ := read_two w _ w1 rfl g b HBB.out hg1 hr1 hc1
  have HT1 := Lib.hid x1
  have HR1 := Lib.hid hrr1
  have HC1 := Lib.hid hcc1
  clear x1 hrr1 hcc1 hg1 hr1 hc1 HRD
  go_wp2_with fail
  refine (byte_two HT1.out).mono ?_
  have hf256 := (rdByte_mem (b, 0) HT1.out.rd.2).1
  rw [EF.out] at hf256 ⊢
  try simp only at hf256
  rintro e w2 ⟨rfl, x2, hc2⟩
  try simp only at x2
  have HT2 := Lib.hid x2
  have HR2 := Lib.hid (HR1.out.chg hc2 (fun e => by omega))
  have HC2 := Lib.hid (chg_up HC1.out hc2 (by omega) (by omega))
  clear x2 hc2 HT1 HR1 HC1
  have HMB := Lib.hid (mayBegin_any f hf256 w2)
  rw [hmay] at HMB
  go_wp2_with fail
  refine HMB.out.mono ?_
  rintro e w3 ⟨rfl, rfl⟩
  have HPO := Lib.hid (partsOf_any f hf256 w2)
  unfold aggH at HPO
  rw [EP.out] at HPO
  have HSZ : Hid (f % 4 + 1 ≤ 4) := by show _ ≤ _; omega
  generalize hsz : f % 4 + 1 = size at *
  clear hsz
  go_wp2_with (first | (go_at_call 35; refine HPO.out.mono ?_; rintro e w4 ⟨rfl, hc4⟩; have HT4 := Lib.hid (HT2.out.chg hc4); have HR4 := Lib.hid (HR2.out.chg hc4 (fun h => h)); have HC4 := Lib.hid (HC2.out.trans hc4); clear hc4) | ((with_reducible show wpList _ _ _ (⟨_, .store 25 _ _, _, _, _, _⟩ :: _) _ _); refine wpList_store_Row (xs := cellsH p nil4) rfl rfl rfl HT4.out.row rfl rfl (by exact sizeH) rfl ?_; intro w5 hr5 hch5 _; have HH5 := Lib.hid (hch5 (· = w.heap.size + 1) w4 (Chg.refl _ _) (fun _ => rfl)); have HC5 := Lib.hid (hch5 none_ w HC4.out (fun h => by omega)); have HT5 := Lib.hid (HT4.out.store_all p (EP.out ▸ partsM_nil _ _ f) hr5 HH5.out); have HR5 := Lib.hid (HR4.out.chg HH5.out (fun e => by omega)); have hl5 := hr5.cell 0; rw [cH_0, hl] at hl5; clear hr5 hch5))
  have HRDL := Lib.hid (readLong_any w5 g (w.heap.size + 1) _ s p nil4 HT5.out size HSZ.out hkind)
  rw [ER.out] at HRDL
  refine HRDL.out.mono ?_
  clear hl5 HRDL
  rintro e w6 ⟨rfl, ⟨v6, x6⟩, hc6⟩
  have HT6 := Lib.hid x6
  have HR6 := Lib.hid (HR5.out.chg hc6 (fun e => by omega))
  have HC6 := Lib.hid (chg_up HC5.out hc6 (by omega) (by omega))
  clear x6 hc6 HT5 HR5 HC5 HT4 HR4 HC4 HT2 HR2 HC2 HPO HMB
  have hq0' : (r.2.2 != 0) = false := by simpa using hq0
  have HRI := Lib.hid (right_any r.1 v6 w6 w6 _ HT6.out.sl)
  unfold aggH at HRI
  rw [hq] at HRI
  clear hq0
  go_wp2_with (first | (go_at_call 38; refine (badS_any _ g _ _ HT6.out.rd).mono ?_; rintro e w7 ⟨rfl, rfl⟩) | ((with_reducible show wpList _ _ _ (⟨_, .load 25 _, _, _, _, _⟩ :: _) _ _); refine wlH rfl rfl rfl HT6.out.row rfl ?_) | (go_at_call 12; refine HRI.out.mono ?_; rintro e w8 ⟨rfl, hc8⟩; have HT8 := Lib.hid (HT6.out.chg hc8); have HR8 := Lib.hid (HR6.out.chg hc8 (fun h => h)); have HC8 := Lib.hid (HC6.out.trans hc8); clear hc8))
  go_step3
  simp only [Exit.then]
  refine jump_fwd ?_
  go_wp2_with fail
  refine (fail_two HT8.out 3).mono ?_
  rintro e w9 ⟨rfl, x9, hc9⟩
  have HT9 := Lib.hid x9
  have hr9 := HR8.out.chg hc9 (fun e => by omega)
  have HC9 := Lib.hid (chg_up HC8.out hc9 (by omega) (by omega))
  clear x9 hc9
  have hh0 := hr9.cell 0
  have hth := hr9.there 0 9 (by rw [cH_len]; omega)
  have HR9 := Lib.hid hr9
  go_wp2_with (first | ((with_reducible show wpList _ _ _ (⟨_, .store 25 _ _, _, _, _, _⟩ :: _) _ _); refine wpList_store_Row (xs := cellsH {} nil4) rfl rfl rfl HR9.out rfl rfl (by exact sizeH) rfl ?_; intro w11 hr11 hch11 _; have HC11 := Lib.hid (hch11 none_ w HC9.out (fun h => by omega)); have HR11 := Lib.hid hr11; clear hr11 hch11) | (go_at_call 38; refine (badS_any _ g _ _ HT9.out.rd).mono ?_; rintro e w10 ⟨rfl, rfl⟩))
  rw [Exit.noGoto_ret]
  refine ret_row3 rfl rfl HR11.out Tryd.underlying25 rfl sizeH rfl ?_
  exact ⟨nil4, rfl, nil4_d _ _, HC11.out⟩

set_option maxRecDepth 100000 in
set_option maxHeartbeats 1000000 in
theorem parse_long_ok (w : World) (T : Nat → Prop) (A : Option Addr) (c : Nat) (b : List Nat) (hv : View w T A b.length (u8s b)) (hm : b.length ≤ 1000000) (hb : ∀ x ∈ b, x < 256) (f : Nat) (s : St) (ef : rdByte (b, 0) = (f, s)) (hmay : mayM f = true) (p : Hd) (ep : partsM f = p) (hl : p.long = true) (hkind : p.kind = 0 ∨ p.kind = 2) (r : Hd × St) (er : longM p (f % 4 + 1) s = r) (hq0 : r.2.2 = 0) (hq : rightH r.1 = true) :
    Calls Tryd.prog 19 #[.slice A b.length c] w (ParsePost w r.1 ((b.length : Int) - (r.2.1.length : Int)) 0) := by
  have hC0 : Chg none_ w ((w.alloc (.cells (cellsH {} nil4).toArray 25)).alloc (.cells (cellsH {} nil4).toArray 25)) := ((Chg.refl none_ w).alloc _).alloc _
  have HRD := Lib.hid (read_any _ T A c b (hv.chg hC0 (fun _ _ h => h)) hm)
  have HBB := Lib.hid hb
  have EF := Lib.hid ef
  have EP := Lib.hid ep
  have ER := Lib.hid er
  clear hv hb ef hC0 ep er
  go_enter Tryd.func19, Tryd.ntmps19
  go_wp2_with fail
  refine wp_scope_fwd 0 rfl ?_
  go_wp2_with fail
  refine HRD.out.mono ?_
  rintro e w1 ⟨g, rfl, hg1, hr1, hc1⟩
  obtain ⟨x1, hrr1, hcc1, hg2⟩ := read_two w _ w1 rfl g b HBB.out hg1 hr1 hc1
  have HT1 := Lib.hid x1
  have HR1 := Lib.hid hrr1
  have HC1 := Lib.hid hcc1
  clear x1 hrr1 hcc1 hg1 hr1 hc1 HRD
  go_wp2_with fail
  refine (byte_two HT1.out).mono ?_
  have hf256 := (rdByte_mem (b, 0) HT1.out.rd.2).1
  rw [EF.out] at hf256 ⊢
  try simp only at hf256
  rintro e w2 ⟨rfl, x2, hc2⟩
  try simp only at x2
  have HT2 := Lib.hid x2
  have HR2 := Lib.hid (HR1.out.chg hc2 (fun e => by omega))
  have HC2 := Lib.hid (chg_up HC1.out hc2 (by omega) (by omega))
  clear x2 hc2 HT1 HR1 HC1
  have HMB := Lib.hid (mayBegin_any f hf256 w2)
  rw [hmay] at HMB
  go_wp2_with fail
  refine HMB.out.mono ?_
  rintro e w3 ⟨rfl, rfl⟩
  have HPO := Lib.hid (partsOf_any f hf256 w2)
  unfold aggH at HPO
  rw [EP.out] at HPO
  have HSZ : Hid (f % 4 + 1 ≤ 4) := by show _ ≤ _; omega
  generalize hsz : f % 4 + 1 = size at *
  clear hsz
  go_wp2_with (first | (go_at_call 35; refine HPO.out.mono ?_; rintro e w4 ⟨rfl, hc4⟩; have HT4 := Lib.hid (HT2.out.chg hc4); have HR4 := Lib.hid (HR2.out.chg hc4 (fun h => h)); have HC4 := Lib.hid (HC2.out.trans hc4); clear hc4) | ((with_reducible show wpList _ _ _ (⟨_, .store 25 _ _, _, _, _, _⟩ :: _) _ _); refine wpList_store_Row (xs := cellsH p nil4) rfl rfl rfl HT4.out.row rfl rfl (by exact sizeH) rfl ?_; intro w5 hr5 hch5 _; have HH5 := Lib.hid (hch5 (· = w.heap.size + 1) w4 (Chg.refl _ _) (fun _ => rfl)); have HC5 := Lib.hid (hch5 none_ w HC4.out (fun h => by omega)); have HT5 := Lib.hid (HT4.out.store_all p (EP.out ▸ partsM_nil _ _ f) hr5 HH5.out); have HR5 := Lib.hid (HR4.out.chg HH5.out (fun e => by omega)); have hl5 := hr5.cell 0; rw [cH_0, hl] at hl5; clear hr5 hch5))
  have HRDL := Lib.hid (readLong_any w5 g (w.heap.size + 1) _ s p nil4 HT5.out size HSZ.out hkind)
  rw [ER.out] at HRDL
  refine HRDL.out.mono ?_
  clear hl5 HRDL
  rintro e w6 ⟨rfl, ⟨v6, x6⟩, hc6⟩
  have HT6 := Lib.hid x6
  have HR6 := Lib.hid (HR5.out.chg hc6 (fun e => by omega))
  have HC6 := Lib.hid (chg_up HC5.out hc6 (by omega) (by omega))
  clear x6 hc6 HT5 HR5 HC5 HT4 HR4 HC4 HT2 HR2 HC2 HPO HMB
  have hq0' : (r.2.2 != 0) = false := by simpa using hq0
  have HRI := Lib.hid (right_any r.1 v6 w6 w6 _ HT6.out.sl)
  unfold aggH at HRI
  rw [hq] at HRI
  clear hq0
  go_wp2_with (first | (go_at_call 38; refine (badS_any _ g _ _ HT6.out.rd).mono ?_; rintro e w7 ⟨rfl, rfl⟩) | ((with_reducible show wpList _ _ _ (⟨_, .load 25 _, _, _, _, _⟩ :: _) _ _); refine wlH rfl rfl rfl HT6.out.row rfl ?_) | (go_at_call 12; refine HRI.out.mono ?_; rintro e w8 ⟨rfl, hc8⟩; have HT8 := Lib.hid (HT6.out.chg hc8); have HR8 := Lib.hid (HR6.out.chg hc8 (fun h => h)); have HC8 := Lib.hid (HC6.out.trans hc8); clear hc8))
  have hln := HT8.out.rd.len
  have hch0 : Chg (· = w.heap.size) w8 w8.drew := (Chg.refl _ _).drew
  have hchN : Chg none_ w8 w8.drew := (Chg.refl _ _).drew
  have HTX : Hid (∀ w', Chg (· = w.heap.size) w8 w' → Row w' (w.heap.size + 1) 25 (cellsH r.1 v6)) := fun w' hc => HT8.out.row.chg hc (fun h => by omega)
  have hwl : IntKind.i64.wrap ((b.length : Int) - (r.2.1.length : Int)) = (b.length : Int) - (r.2.1.length : Int) := IntWalk.i64_in _ (by omega)
  have HSL := Lib.hid HT8.out.sl
  refine wp_region_held_drew (S := fun w' => Chg (· = w.heap.size) w8 w') (by kernel_rfl) hch0 (fun _ => ?_)
  refine wpAnyH_take (i := 0) (v := .agg (cellsH r.1 v6).toArray) rfl (by kernel_rfl) (by kernel_rfl) (by kernel_rfl) (by first | exact fun _ _ _ h => h | exact fun _ _ _ h => nomatch h.1) (yieldsIf_load_mid (by rfl) 25 _ rfl (w.heap.size + 1) 0 rfl (cellsH r.1 v6) _ (fun w' hw' => (HTX.out w' hw').range) Tryd.underlying25 rfl (by exact sizeH)) hch0 ?_
  refine wpAnyH_take (i := 1) (v := .slice A b.length c) rfl (by kernel_rfl) (by kernel_rfl) (by kernel_rfl) (by first | exact fun _ _ _ h => h | exact fun _ _ _ h => nomatch h.1) (Or.inl ⟨by rfl, fun w' hw' => by go_simp⟩) hch0 ?_
  refine wpAnyH_take (i := 2) (v := .int .i64 (b.length : Nat)) rfl (by kernel_rfl) (by kernel_rfl) (by kernel_rfl) (by first | exact fun _ _ _ h => h | exact fun _ _ _ h => nomatch h.1) (Or.inl ⟨by rfl, fun w' hw' => by go_simp⟩) hch0 ?_
  refine wpAnyH_take (i := 3) (v := .pointer (some ⟨g, 0, none⟩)) rfl (by kernel_rfl) (by kernel_rfl) (by kernel_rfl) (by first | exact fun _ _ _ h => h | exact fun _ _ _ h => nomatch h.1) (Or.inl ⟨by rfl, fun w' hw' => by go_simp⟩) hch0 ?_
  refine wpAnyH_ready (rs := [4]) (by kernel_rfl) (by simp) ?_
  refine AllReadyH.cons rfl (fun K hK => ?_) AllReadyH.nil
  rw [if_pos (by rfl)]
  try simp only [List.getElem_toArray, List.getElem_cons_succ, List.getElem_cons_zero]
  go_simp
  refine (leftS_any w8.drew g _ r.2 (HT8.out.chg hchN).rd).mono ?_
  rintro e w10 ⟨rfl, rfl⟩
  refine hK.out _ _ hch0 (fun _ => ?_)
  clear hK K
  try simp only [Act.put, List.setIfInBounds_toArray, List.set_cons_zero, List.set_cons_succ, List.getElem_toArray, List.getElem_cons_succ, List.getElem_cons_zero]
  refine wpAnyH_take (i := 5) (v := .int .i64 ((b.length : Int) - (r.2.1.length : Int))) rfl (by kernel_rfl) (by kernel_rfl) (by kernel_rfl) (by first | exact fun _ _ _ h => h | exact fun _ _ _ h => nomatch h.1) (Or.inl ⟨by rfl, fun w' hw' => by go_simp⟩) hch0 ?_
  refine wpAnyH_ready (rs := [6]) (by kernel_rfl) (by simp) ?_
  refine AllReadyH.cons rfl (fun K hK => ?_) AllReadyH.nil
  rw [if_pos (by rfl)]
  try simp only [List.getElem_toArray, List.getElem_cons_succ, List.getElem_cons_zero]
  refine wp_store_Row (xs := cellsH r.1 v6) rfl rfl (HR8.out.chg hchN (fun h => h)) rfl rfl (by exact sizeH) ?one ?_
  case one =>
    obtain ⟨⟨_, _, q1, _⟩, ⟨_, _, q2, _⟩, ⟨_, _, q3, _⟩, ⟨_, _, q4, _⟩⟩ := HSL.out
    simp [cellsH, q1, q2, q3, q4, Value.oneCell']
  intro w11 hr11 hch11
  have HR11 := Lib.hid hr11
  have HC11 := Lib.hid (hch11 none_ w (HC8.out.trans hchN) (fun h => by omega))
  have HC12 := Lib.hid (hch11 (· = w.heap.size) w8 hch0 (fun _ => rfl))
  clear hr11 hch11
  refine hK.out _ _ HC12.out (fun _ => ?_)
  clear hK K
  try simp only [Act.put, List.setIfInBounds_toArray, List.set_cons_zero, List.set_cons_succ]
  refine wpAnyH_take (i := 7) (v := .int .i64 ((b.length : Int) - (r.2.1.length : Int))) rfl (by kernel_rfl) (by kernel_rfl) (by kernel_rfl) (by first | exact fun _ _ _ h => h | exact fun _ _ _ h => nomatch h.1) (Or.inl ⟨by rfl, fun w' hw' => by go_simp⟩) HC12.out ?_
  refine wpAnyH_take (i := 8) (v := .int .i64 0) rfl (by kernel_rfl) (by kernel_rfl) (by kernel_rfl) (by first | exact fun _ _ _ h => h | exact fun _ _ _ h => nomatch h.1) (Or.inl ⟨by rfl, fun w' hw' => by go_simp⟩) HC12.out ?_
  refine wpAnyH_done (by kernel_rfl) ?_ _
  go_wp2_with fail
  rw [jump_ret]
  refine ret_row3 rfl rfl HR11.out Tryd.underlying25 rfl sizeH rfl ?_
  exact ⟨v6, rfl, (HSL.out.chg HC12.out (fun b hb e => by omega)).mono (fun b _ hb => by omega), HC11.out⟩

set_option maxRecDepth 100000 in
set_option maxHeartbeats 1000000 in
theorem parse_short_bad (w : World) (T : Nat → Prop) (A : Option Addr) (c : Nat) (b : List Nat) (hv : View w T A b.length (u8s b)) (hm : b.length ≤ 1000000) (hb : ∀ x ∈ b, x < 256) (f : Nat) (s : St) (ef : rdByte (b, 0) = (f, s)) (hmay : mayM f = true) (p : Hd) (ep : partsM f = p) (hl : p.long = false) (r : Hd × St) (er : shortM p (f % 4 + 1) s = r) (hq : r.2.2 ≠ 0) :
    Calls Tryd.prog 19 #[.slice A b.length c] w (ParsePost w {} 0 (failSt 3 r.2).2) := by
  have hC0 : Chg none_ w ((w.alloc (.cells (cellsH {} nil4).toArray 25)).alloc (.cells (cellsH {} nil4).toArray 25)) := ((Chg.refl none_ w).alloc _).alloc _
  have HRD := Lib.hid (read_any _ T A c b (hv.chg hC0 (fun _ _ h => h)) hm)
  have HBB := Lib.hid hb
  have EF := Lib.hid ef
  have EP := Lib.hid ep
  have ER := Lib.hid er
  clear hv hb ef hC0 ep er
  go_enter Tryd.func19, Tryd.ntmps19
  go_wp2_with fail
  refine wp_scope_fwd 0 rfl ?_
  go_wp2_with fail
  refine HRD.out.mono ?_
  rintro e w1 ⟨g, rfl, hg1, hr1, hc1⟩
  obtain ⟨x1, hrr1, hcc1, hg2⟩ := read_two w _ w1 rfl g b HBB.out hg1 hr1 hc1
  have HT1 := Lib.hid x1
  have HR1 := Lib.hid hrr1
  have HC1 := Lib.hid hcc1
  clear x1 hrr1 hcc1 hg1 hr1 hc1 HRD
  go_wp2_with fail
  refine (byte_two HT1.out).mono ?_
  have hf256 := (rdByte_mem (b, 0) HT1.out.rd.2).1
  rw [EF.out] at hf256 ⊢
  try simp only at hf256
  rintro e w2 ⟨rfl, x2, hc2⟩
  try simp only at x2
  have HT2 := Lib.hid x2
  have HR2 := Lib.hid (HR1.out.chg hc2 (fun e => by omega))
  have HC2 := Lib.hid (chg_up HC1.out hc2 (by omega) (by omega))
  clear x2 hc2 HT1 HR1 HC1
  have HMB := Lib.hid (mayBegin_any f hf256 w2)
  rw [hmay] at HMB
  go_wp2_with fail
  refine HMB.out.mono ?_
  rintro e w3 ⟨rfl, rfl⟩
  have HPO := Lib.hid (partsOf_any f hf256 w2)
  unfold aggH at HPO
  rw [EP.out] at HPO
  have HSZ : Hid (f % 4 + 1 ≤ 4) := by show _ ≤ _; omega
  generalize hsz : f % 4 + 1 = size at *
  clear hsz
  go_wp2_with (first | (go_at_call 35; refine HPO.out.mono ?_; rintro e w4 ⟨rfl, hc4⟩; have HT4 := Lib.hid (HT2.out.chg hc4); have HR4 := Lib.hid (HR2.out.chg hc4 (fun h => h)); have HC4 := Lib.hid (HC2.out.trans hc4); clear hc4) | ((with_reducible show wpList _ _ _ (⟨_, .store 25 _ _, _, _, _, _⟩ :: _) _ _); refine wpList_store_Row (xs := cellsH p nil4) rfl rfl rfl HT4.out.row rfl rfl (by exact sizeH) rfl ?_; intro w5 hr5 hch5 _; have HH5 := Lib.hid (hch5 (· = w.heap.size + 1) w4 (Chg.refl _ _) (fun _ => rfl)); have HC5 := Lib.hid (hch5 none_ w HC4.out (fun h => by omega)); have HT5 := Lib.hid (HT4.out.store_all p (EP.out ▸ partsM_nil _ _ f) hr5 HH5.out); have HR5 := Lib.hid (HR4.out.chg HH5.out (fun e => by omega)); have hl5 := hr5.cell 0; rw [cH_0, hl] at hl5; clear hr5 hch5))
  have HRDL := Lib.hid (readShort_any w5 g (w.heap.size + 1) _ s p nil4 HT5.out size )
  rw [ER.out] at HRDL
  refine HRDL.out.mono ?_
  clear hl5 HRDL
  rintro e w6 ⟨rfl, ⟨v6, x6⟩, hc6⟩
  have HT6 := Lib.hid x6
  have HR6 := Lib.hid (HR5.out.chg hc6 (fun e => by omega))
  have HC6 := Lib.hid (chg_up HC5.out hc6 (by omega) (by omega))
  clear x6 hc6 HT5 HR5 HC5 HT4 HR4 HC4 HT2 HR2 HC2 HPO HMB
  have hq' : (r.2.2 != 0) = true := by simpa using hq
  clear hq
  go_wp2_with (go_at_call 38; refine (badS_any _ g _ _ HT6.out.rd).mono ?_; rintro e w7 ⟨rfl, rfl⟩)
  go_step3
  simp only [Exit.then]
  refine jump_fwd ?_
  go_wp2_with fail
  refine (fail_two HT6.out 3).mono ?_
  rintro e w9 ⟨rfl, x9, hc9⟩
  have HT9 := Lib.hid x9
  have hr9 := HR6.out.chg hc9 (fun e => by omega)
  have HC9 := Lib.hid (chg_up HC6.out hc9 (by omega) (by omega))
  clear x9 hc9
  have hh0 := hr9.cell 0
  have hth := hr9.there 0 9 (by rw [cH_len]; omega)
  have HR9 := Lib.hid hr9
  go_wp2_with (first | ((with_reducible show wpList _ _ _ (⟨_, .store 25 _ _, _, _, _, _⟩ :: _) _ _); refine wpList_store_Row (xs := cellsH {} nil4) rfl rfl rfl HR9.out rfl rfl (by exact sizeH) rfl ?_; intro w11 hr11 hch11 _; have HC11 := Lib.hid (hch11 none_ w HC9.out (fun h => by omega)); have HR11 := Lib.hid hr11; clear hr11 hch11) | (go_at_call 38; refine (badS_any _ g _ _ HT9.out.rd).mono ?_; rintro e w10 ⟨rfl, rfl⟩))
  rw [Exit.noGoto_ret]
  refine ret_row3 rfl rfl HR11.out Tryd.underlying25 rfl sizeH rfl ?_
  exact ⟨nil4, rfl, nil4_d _ _, HC11.out⟩

set_option maxRecDepth 100000 in
set_option maxHeartbeats 1000000 in
theorem parse_short_wrong (w : World) (T : Nat → Prop) (A : Option Addr) (c : Nat) (b : List Nat) (hv : View w T A b.length (u8s b)) (hm : b.length ≤ 1000000) (hb : ∀ x ∈ b, x < 256) (f : Nat) (s : St) (ef : rdByte (b, 0) = (f, s)) (hmay : mayM f = true) (p : Hd) (ep : partsM f = p) (hl : p.long = false) (r : Hd × St) (er : shortM p (f % 4 + 1) s = r) (hq0 : r.2.2 = 0) (hq : rightH r.1 = false) :
    Calls Tryd.prog 19 #[.slice A b.length c] w (ParsePost w {} 0 (failSt 3 r.2).2) := by
  have hC0 : Chg none_ w ((w.alloc (.cells (cellsH {} nil4).toArray 25)).alloc (.cells (cellsH {} nil4).toArray 25)) := ((Chg.refl none_ w).alloc _).alloc _
  have HRD := Lib.hid (read_any _ T A c b (hv.chg hC0 (fun _ _ h => h)) hm)
  have HBB := Lib.hid hb
  have EF := Lib.hid ef
  have EP := Lib.hid ep
  have ER := Lib.hid er
  clear hv hb ef hC0 ep er
  go_enter Tryd.func19, Tryd.ntmps19
  go_wp2_with fail
  refine wp_scope_fwd 0 rfl ?_
  go_wp2_with fail
  refine HRD.out.mono ?_
  rintro e w1 ⟨g, rfl, hg1, hr1, hc1⟩
  obtain ⟨x1, hrr1, hcc1, hg2⟩ := read_two w _ w1 rfl g b HBB.out hg1 hr1 hc1
  have HT1 := Lib.hid x1
  have HR1 := Lib.hid hrr1
  have HC1 := Lib.hid hcc1
  clear x1 hrr1 hcc1 hg1 hr1 hc1 HRD
  go_wp2_with fail
  refine (byte_two HT1.out).mono ?_
  have hf256 := (rdByte_mem (b, 0) HT1.out.rd.2).1
  rw [EF.out] at hf256 ⊢
  try simp only at hf256
  rintro e w2 ⟨rfl, x2, hc2⟩
  try simp only at x2
  have HT2 := Lib.hid x2
  have HR2 := Lib.hid (HR1.out.chg hc2 (fun e => by omega))
  have HC2 := Lib.hid (chg_up HC1.out hc2 (by omega) (by omega))
  clear x2 hc2 HT1 HR1 HC1
  have HMB := Lib.hid (mayBegin_any f hf256 w2)
  rw [hmay] at HMB
  go_wp2_with fail
  refine HMB.out.mono ?_
  rintro e w3 ⟨rfl, rfl⟩
  have HPO := Lib.hid (partsOf_any f hf256 w2)
  unfold aggH at HPO
  rw [EP.out] at HPO
  have HSZ : Hid (f % 4 + 1 ≤ 4) := by show _ ≤ _; omega
  generalize hsz : f % 4 + 1 = size at *
  clear hsz
  go_wp2_with (first | (go_at_call 35; refine HPO.out.mono ?_; rintro e w4 ⟨rfl, hc4⟩; have HT4 := Lib.hid (HT2.out.chg hc4); have HR4 := Lib.hid (HR2.out.chg hc4 (fun h => h)); have HC4 := Lib.hid (HC2.out.trans hc4); clear hc4) | ((with_reducible show wpList _ _ _ (⟨_, .store 25 _ _, _, _, _, _⟩ :: _) _ _); refine wpList_store_Row (xs := cellsH p nil4) rfl rfl rfl HT4.out.row rfl rfl (by exact sizeH) rfl ?_; intro w5 hr5 hch5 _; have HH5 := Lib.hid (hch5 (· = w.heap.size + 1) w4 (Chg.refl _ _) (fun _ => rfl)); have HC5 := Lib.hid (hch5 none_ w HC4.out (fun h => by omega)); have HT5 := Lib.hid (HT4.out.store_all p (EP.out ▸ partsM_nil _ _ f) hr5 HH5.out); have HR5 := Lib.hid (HR4.out.chg HH5.out (fun e => by omega)); have hl5 := hr5.cell 0; rw [cH_0, hl] at hl5; clear hr5 hch5))
  have HRDL := Lib.hid (readShort_any w5 g (w.heap.size + 1) _ s p nil4 HT5.out size )
  rw [ER.out] at HRDL
  refine HRDL.out.mono ?_
  clear hl5 HRDL
  rintro e w6 ⟨rfl, ⟨v6, x6⟩, hc6⟩
  have HT6 := Lib.hid x6
  have HR6 := Lib.hid (HR5.out.chg hc6 (fun e => by omega))
  have HC6 := Lib.hid (chg_up HC5.out hc6 (by omega) (by omega))
  clear x6 hc6 HT5 HR5 HC5 HT4 HR4 HC4 HT2 HR2 HC2 HPO HMB
  have hq0' : (r.2.2 != 0) = false := by simpa using hq0
  have HRI := Lib.hid (right_any r.1 v6 w6 w6 _ HT6.out.sl)
  unfold aggH at HRI
  rw [hq] at HRI
  clear hq0
  go_wp2_with (first | (go_at_call 38; refine (badS_any _ g _ _ HT6.out.rd).mono ?_; rintro e w7 ⟨rfl, rfl⟩) | ((with_reducible show wpList _ _ _ (⟨_, .load 25 _, _, _, _, _⟩ :: _) _ _); refine wlH rfl rfl rfl HT6.out.row rfl ?_) | (go_at_call 12; refine HRI.out.mono ?_; rintro e w8 ⟨rfl, hc8⟩; have HT8 := Lib.hid (HT6.out.chg hc8); have HR8 := Lib.hid (HR6.out.chg hc8 (fun h => h)); have HC8 := Lib.hid (HC6.out.trans hc8); clear hc8))
  go_step3
  simp only [Exit.then]
  refine jump_fwd ?_
  go_wp2_with fail
  refine (fail_two HT8.out 3).mono ?_
  rintro e w9 ⟨rfl, x9, hc9⟩
  have HT9 := Lib.hid x9
  have hr9 := HR8.out.chg hc9 (fun e => by omega)
  have HC9 := Lib.hid (chg_up HC8.out hc9 (by omega) (by omega))
  clear x9 hc9
  have hh0 := hr9.cell 0
  have hth := hr9.there 0 9 (by rw [cH_len]; omega)
  have HR9 := Lib.hid hr9
  go_wp2_with (first | ((with_reducible show wpList _ _ _ (⟨_, .store 25 _ _, _, _, _, _⟩ :: _) _ _); refine wpList_store_Row (xs := cellsH {} nil4) rfl rfl rfl HR9.out rfl rfl (by exact sizeH) rfl ?_; intro w11 hr11 hch11 _; have HC11 := Lib.hid (hch11 none_ w HC9.out (fun h => by omega)); have HR11 := Lib.hid hr11; clear hr11 hch11) | (go_at_call 38; refine (badS_any _ g _ _ HT9.out.rd).mono ?_; rintro e w10 ⟨rfl, rfl⟩))
  rw [Exit.noGoto_ret]
  refine ret_row3 rfl rfl HR11.out Tryd.underlying25 rfl sizeH rfl ?_
  exact ⟨nil4, rfl, nil4_d _ _, HC11.out⟩

set_option maxRecDepth 100000 in
set_option maxHeartbeats 1000000 in
theorem parse_short_ok (w : World) (T : Nat → Prop) (A : Option Addr) (c : Nat) (b : List Nat) (hv : View w T A b.length (u8s b)) (hm : b.length ≤ 1000000) (hb : ∀ x ∈ b, x < 256) (f : Nat) (s : St) (ef : rdByte (b, 0) = (f, s)) (hmay : mayM f = true) (p : Hd) (ep : partsM f = p) (hl : p.long = false) (r : Hd × St) (er : shortM p (f % 4 + 1) s = r) (hq0 : r.2.2 = 0) (hq : rightH r.1 = true) :
    Calls Tryd.prog 19 #[.slice A b.length c] w (ParsePost w r.1 ((b.length : Int) - (r.2.1.length : Int)) 0) := by
  have hC0 : Chg none_ w ((w.alloc (.cells (cellsH {} nil4).toArray 25)).alloc (.cells (cellsH {} nil4).toArray 25)) := ((Chg.refl none_ w).alloc _).alloc _
  have HRD := Lib.hid (read_any _ T A c b (hv.chg hC0 (fun _ _ h => h)) hm)
  have HBB := Lib.hid hb
  have EF := Lib.hid ef
  have EP := Lib.hid ep
  have ER := Lib.hid er
  clear hv hb ef hC0 ep er
  go_enter Tryd.func19, Tryd.ntmps19
  go_wp2_with fail
  refine wp_scope_fwd 0 rfl ?_
  go_wp2_with fail
  refine HRD.out.mono ?_
  rintro e w1 ⟨g, rfl, hg1, hr1, hc1⟩
  obtain ⟨x1, hrr1, hcc1, hg2⟩ := read_two w _ w1 rfl g b HBB.out hg1 hr1 hc1
  have HT1 := Lib.hid x1
  have HR1 := Lib.hid hrr1
  have HC1 := Lib.hid hcc1
  clear x1 hrr1 hcc1 hg1 hr1 hc1 HRD
  go_wp2_with fail
  refine (byte_two HT1.out).mono ?_
  have hf256 := (rdByte_mem (b, 0) HT1.out.rd.2).1
  rw [EF.out] at hf256 ⊢
  try simp only at hf256
  rintro e w2 ⟨rfl, x2, hc2⟩
  try simp only at x2
  have HT2 := Lib.hid x2
  have HR2 := Lib.hid (HR1.out.chg hc2 (fun e => by omega))
  have HC2 := Lib.hid (chg_up HC1.out hc2 (by omega) (by omega))
  clear x2 hc2 HT1 HR1 HC1
  have HMB := Lib.hid (mayBegin_any f hf256 w2)
  rw [hmay] at HMB
  go_wp2_with fail
  refine HMB.out.mono ?_
  rintro e w3 ⟨rfl, rfl⟩
  have HPO := Lib.hid (partsOf_any f hf256 w2)
  unfold aggH at HPO
  rw [EP.out] at HPO
  have HSZ : Hid (f % 4 + 1 ≤ 4) := by show _ ≤ _; omega
  generalize hsz : f % 4 + 1 = size at *
  clear hsz
  go_wp2_with (first | (go_at_call 35; refine HPO.out.mono ?_; rintro e w4 ⟨rfl, hc4⟩; have HT4 := Lib.hid (HT2.out.chg hc4); have HR4 := Lib.hid (HR2.out.chg hc4 (fun h => h)); have HC4 := Lib.hid (HC2.out.trans hc4); clear hc4) | ((with_reducible show wpList _ _ _ (⟨_, .store 25 _ _, _, _, _, _⟩ :: _) _ _); refine wpList_store_Row (xs := cellsH p nil4) rfl rfl rfl HT4.out.row rfl rfl (by exact sizeH) rfl ?_; intro w5 hr5 hch5 _; have HH5 := Lib.hid (hch5 (· = w.heap.size + 1) w4 (Chg.refl _ _) (fun _ => rfl)); have HC5 := Lib.hid (hch5 none_ w HC4.out (fun h => by omega)); have HT5 := Lib.hid (HT4.out.store_all p (EP.out ▸ partsM_nil _ _ f) hr5 HH5.out); have HR5 := Lib.hid (HR4.out.chg HH5.out (fun e => by omega)); have hl5 := hr5.cell 0; rw [cH_0, hl] at hl5; clear hr5 hch5))
  have HRDL := Lib.hid (readShort_any w5 g (w.heap.size + 1) _ s p nil4 HT5.out size )
  rw [ER.out] at HRDL
  refine HRDL.out.mono ?_
  clear hl5 HRDL
  rintro e w6 ⟨rfl, ⟨v6, x6⟩, hc6⟩
  have HT6 := Lib.hid x6
  have HR6 := Lib.hid (HR5.out.chg hc6 (fun e => by omega))
  have HC6 := Lib.hid (chg_up HC5.out hc6 (by omega) (by omega))
  clear x6 hc6 HT5 HR5 HC5 HT4 HR4 HC4 HT2 HR2 HC2 HPO HMB
  have hq0' : (r.2.2 != 0) = false := by simpa using hq0
  have HRI := Lib.hid (right_any r.1 v6 w6 w6 _ HT6.out.sl)
  unfold aggH at HRI
  rw [hq] at HRI
  clear hq0
  go_wp2_with (first | (go_at_call 38; refine (badS_any _ g _ _ HT6.out.rd).mono ?_; rintro e w7 ⟨rfl, rfl⟩) | ((with_reducible show wpList _ _ _ (⟨_, .load 25 _, _, _, _, _⟩ :: _) _ _); refine wlH rfl rfl rfl HT6.out.row rfl ?_) | (go_at_call 12; refine HRI.out.mono ?_; rintro e w8 ⟨rfl, hc8⟩; have HT8 := Lib.hid (HT6.out.chg hc8); have HR8 := Lib.hid (HR6.out.chg hc8 (fun h => h)); have HC8 := Lib.hid (HC6.out.trans hc8); clear hc8))
  have hln := HT8.out.rd.len
  have hch0 : Chg (· = w.heap.size) w8 w8.drew := (Chg.refl _ _).drew
  have hchN : Chg none_ w8 w8.drew := (Chg.refl _ _).drew
  have HTX : Hid (∀ w', Chg (· = w.heap.size) w8 w' → Row w' (w.heap.size + 1) 25 (cellsH r.1 v6)) := fun w' hc => HT8.out.row.chg hc (fun h => by omega)
  have hwl : IntKind.i64.wrap ((b.length : Int) - (r.2.1.length : Int)) = (b.length : Int) - (r.2.1.length : Int) := IntWalk.i64_in _ (by omega)
  have HSL := Lib.hid HT8.out.sl
  refine wp_region_held_drew (S := fun w' => Chg (· = w.heap.size) w8 w') (by kernel_rfl) hch0 (fun _ => ?_)
  refine wpAnyH_take (i := 0) (v := .agg (cellsH r.1 v6).toArray) rfl (by kernel_rfl) (by kernel_rfl) (by kernel_rfl) (by first | exact fun _ _ _ h => h | exact fun _ _ _ h => nomatch h.1) (yieldsIf_load_mid (by rfl) 25 _ rfl (w.heap.size + 1) 0 rfl (cellsH r.1 v6) _ (fun w' hw' => (HTX.out w' hw').range) Tryd.underlying25 rfl (by exact sizeH)) hch0 ?_
  refine wpAnyH_take (i := 1) (v := .slice A b.length c) rfl (by kernel_rfl) (by kernel_rfl) (by kernel_rfl) (by first | exact fun _ _ _ h => h | exact fun _ _ _ h => nomatch h.1) (Or.inl ⟨by rfl, fun w' hw' => by go_simp⟩) hch0 ?_
  refine wpAnyH_take (i := 2) (v := .int .i64 (b.length : Nat)) rfl (by kernel_rfl) (by kernel_rfl) (by kernel_rfl) (by first | exact fun _ _ _ h => h | exact fun _ _ _ h => nomatch h.1) (Or.inl ⟨by rfl, fun w' hw' => by go_simp⟩) hch0 ?_
  refine wpAnyH_take (i := 3) (v := .pointer (some ⟨g, 0, none⟩)) rfl (by kernel_rfl) (by kernel_rfl) (by kernel_rfl) (by first | exact fun _ _ _ h => h | exact fun _ _ _ h => nomatch h.1) (Or.inl ⟨by rfl, fun w' hw' => by go_simp⟩) hch0 ?_
  refine wpAnyH_ready (rs := [4]) (by kernel_rfl) (by simp) ?_
  refine AllReadyH.cons rfl (fun K hK => ?_) AllReadyH.nil
  rw [if_pos (by rfl)]
  try simp only [List.getElem_toArray, List.getElem_cons_succ, List.getElem_cons_zero]
  go_simp
  refine (leftS_any w8.drew g _ r.2 (HT8.out.chg hchN).rd).mono ?_
  rintro e w10 ⟨rfl, rfl⟩
  refine hK.out _ _ hch0 (fun _ => ?_)
  clear hK K
  try simp only [Act.put, List.setIfInBounds_toArray, List.set_cons_zero, List.set_cons_succ, List.getElem_toArray, List.getElem_cons_succ, List.getElem_cons_zero]
  refine wpAnyH_take (i := 5) (v := .int .i64 ((b.length : Int) - (r.2.1.length : Int))) rfl (by kernel_rfl) (by kernel_rfl) (by kernel_rfl) (by first | exact fun _ _ _ h => h | exact fun _ _ _ h => nomatch h.1) (Or.inl ⟨by rfl, fun w' hw' => by go_simp⟩) hch0 ?_
  refine wpAnyH_ready (rs := [6]) (by kernel_rfl) (by simp) ?_
  refine AllReadyH.cons rfl (fun K hK => ?_) AllReadyH.nil
  rw [if_pos (by rfl)]
  try simp only [List.getElem_toArray, List.getElem_cons_succ, List.getElem_cons_zero]
  refine wp_store_Row (xs := cellsH r.1 v6) rfl rfl (HR8.out.chg hchN (fun h => h)) rfl rfl (by exact sizeH) ?one ?_
  case one =>
    obtain ⟨⟨_, _, q1, _⟩, ⟨_, _, q2, _⟩, ⟨_, _, q3, _⟩, ⟨_, _, q4, _⟩⟩ := HSL.out
    simp [cellsH, q1, q2, q3, q4, Value.oneCell']
  intro w11 hr11 hch11
  have HR11 := Lib.hid hr11
  have HC11 := Lib.hid (hch11 none_ w (HC8.out.trans hchN) (fun h => by omega))
  have HC12 := Lib.hid (hch11 (· = w.heap.size) w8 hch0 (fun _ => rfl))
  clear hr11 hch11
  refine hK.out _ _ HC12.out (fun _ => ?_)
  clear hK K
  try simp only [Act.put, List.setIfInBounds_toArray, List.set_cons_zero, List.set_cons_succ]
  refine wpAnyH_take (i := 7) (v := .int .i64 ((b.length : Int) - (r.2.1.length : Int))) rfl (by kernel_rfl) (by kernel_rfl) (by kernel_rfl) (by first | exact fun _ _ _ h => h | exact fun _ _ _ h => nomatch h.1) (Or.inl ⟨by rfl, fun w' hw' => by go_simp⟩) HC12.out ?_
  refine wpAnyH_take (i := 8) (v := .int .i64 0) rfl (by kernel_rfl) (by kernel_rfl) (by kernel_rfl) (by first | exact fun _ _ _ h => h | exact fun _ _ _ h => nomatch h.1) (Or.inl ⟨by rfl, fun w' hw' => by go_simp⟩) HC12.out ?_
  refine wpAnyH_done (by kernel_rfl) ?_ _
  go_wp2_with fail
  rw [jump_ret]
  refine ret_row3 rfl rfl HR11.out Tryd.underlying25 rfl sizeH rfl ?_
  exact ⟨v6, rfl, (HSL.out.chg HC12.out (fun b hb e => by omega)).mono (fun b _ hb => by omega), HC11.out⟩

theorem partsM_kind (f : Nat) (h : mayM f = true) (hl : (partsM f).long = true) : (partsM f).kind = 0 ∨ (partsM f).kind = 2 := by
  unfold partsM at hl ⊢
  split at hl
  · rename_i h1
    rw [if_pos h1]
    unfold mayM at h
    simp only [Bool.and_eq_true, decide_eq_true_eq] at h
    rw [if_neg (by omega)] at h
    simp only [decide_eq_true_eq] at h
    show ((f / 16 % 4 : Nat) : Int) = 0 ∨ ((f / 16 % 4 : Nat) : Int) = 2
    omega
  · cases hl

section
variable {b : List Nat} {f : Nat} {s : St} {r : Hd × St}
theorem parseM_none (e : rdByte (b, 0) = (f, s)) (hm : mayM f = false) : parseM b = ({}, 0, (failSt 3 s).2) := by
  unfold parseM
  simp only [e, hm, if_true]
theorem parseM_wrong (e : rdByte (b, 0) = (f, s)) (hm : mayM f = true) (er : restM f s = r) (hq : r.2.2 ≠ 0 ∨ rightH r.1 = false) : parseM b = ({}, 0, (failSt 3 r.2).2) := by
  unfold parseM
  simp only [e, hm, er, Bool.true_eq_false, if_false]
  rw [if_pos hq]
theorem parseM_ok (e : rdByte (b, 0) = (f, s)) (hm : mayM f = true) (er : restM f s = r) (hq0 : r.2.2 = 0) (hq : rightH r.1 = true) : parseM b = (r.1, (b.length : Int) - (r.2.1.length : Int), 0) := by
  unfold parseM
  simp only [e, hm, er, Bool.true_eq_false, if_false]
  rw [if_neg (by simp [hq0, hq])]
theorem restM_long (hl : (partsM f).long = true) : restM f s = longM (partsM f) (f % 4 + 1) s := by unfold restM; rw [if_pos hl]
theorem restM_short (hl : (partsM f).long = false) : restM f s = shortM (partsM f) (f % 4 + 1) s := by unfold restM; rw [if_neg (by simp [hl])]
end

theorem parse_any (w : World) (T : Nat → Prop) (A : Option Addr) (c : Nat) (b : List Nat) (hv : View w T A b.length (u8s b)) (hm : b.length ≤ 1000000) (hb : ∀ x ∈ b, x < 256) :
    Calls Tryd.prog 19 #[.slice A b.length c] w (ParsePost w (parseM b).1 (parseM b).2.1 (parseM b).2.2) := by
  obtain ⟨f, s, ef⟩ : ∃ f s, rdByte (b, 0) = (f, s) := ⟨_, _, rfl⟩
  cases hmay : mayM f with
  | false => rw [parseM_none ef hmay]; exact parse_none_may w T A c b hv hm hb _ _ ef hmay
  | true =>
    cases hl : (partsM f).long with
    | true =>
      have hk := partsM_kind _ hmay hl
      have er := restM_long (s := s) hl
      by_cases hq : (longM (partsM f) (f % 4 + 1) s).2.2 = 0
      · cases hr : rightH (longM (partsM f) (f % 4 + 1) s).1 with
        | false => rw [parseM_wrong ef hmay er (.inr hr)]; exact parse_long_wrong w T A c b hv hm hb _ _ ef hmay _ rfl hl hk _ rfl hq hr
        | true => rw [parseM_ok ef hmay er hq hr]; exact parse_long_ok w T A c b hv hm hb _ _ ef hmay _ rfl hl hk _ rfl hq hr
      · rw [parseM_wrong ef hmay er (.inl hq)]; exact parse_long_bad w T A c b hv hm hb _ _ ef hmay _ rfl hl hk _ rfl hq
    | false =>
      have er := restM_short (s := s) hl
      by_cases hq : (shortM (partsM f) (f % 4 + 1) s).2.2 = 0
      · cases hr : rightH (shortM (partsM f) (f % 4 + 1) s).1 with
        | false => rw [parseM_wrong ef hmay er (.inr hr)]; exact parse_short_wrong w T A c b hv hm hb _ _ ef hmay _ rfl hl _ rfl hq hr
        | true => rw [parseM_ok ef hmay er hq hr]; exact parse_short_ok w T A c b hv hm hb _ _ ef hmay _ rfl hl _ rfl hq hr
      · rw [parseM_wrong ef hmay er (.inl hq)]; exact parse_short_bad w T A c b hv hm hb _ _ ef hmay _ rfl hl _ rfl hq
end Go.Proofs.YtfecmloaopbogaaDoor
