/- Layer 15 (ledger): Ack. -/
import Derived.Test.YtakoeamfmmbdiaaV15Ops
import Derived.Test.YtakoeamfmmbdiaaRegionLate
namespace Go.Proofs.Ytakoeamfmmbdiaa
open Go.RowKit

theorem Ack_nil (A : Option Addr) (n c : Nat) (w : World) : Calls Try.prog 10 #[.pointer none, .slice A n c] w fun e w' => e = .returned (.tuple #[.slice none 0 0, .int .i64 1]) ∧ Chg none_ w w' := by
  have HB := Lib.hid (fun (o1 o2 : Obj) => ((Chg.refl none_ w).alloc o1).alloc o2)
  go_enter Try.func10, Try.ntmps10
  go_wp2
  refine bodyPost_ret (results_tmp2 rfl _ _ _) rfl ?_
  exact ⟨rfl, HB.out _ _⟩

/-- Has one of these ranges a number that was not sent? -/
def badR (r : List (Nat × Nat)) (next : Nat) : Bool := r.any fun y => decide (y.1 ≤ y.2) && decide (next ≤ y.2)
/-- Is a packet's number in one of them? -/
def inR (r : List (Nat × Nat)) (x : It) : Bool := r.any fun y => decide (y.1 ≤ x.num.toNat) && decide (x.num.toNat ≤ y.2)
/-- One more than the greatest number that was acked. -/
def maxA (above : Nat) (l : List It) : Nat := l.foldl (fun a x => max a (x.num.toNat + 1)) above
theorem maxA_snoc (a : Nat) (l : List It) (x : It) : maxA a (l ++ [x]) = max (maxA a l) (x.num.toNat + 1) := by simp [maxA]

theorem contains1 (base g next above pl : Nat) (T T0 : Nat → Prop) (v : Value) (l : List It) (r : List (Nat × Nat)) (A : Option Addr) (c : Nat) (w W : World) (h : LedAt w base g T v l next above) (hn : next < 4611686018427387904) (hv : View w T0 A (r.length * 2) (r.flatMap rgc)) (hr : r.length ≤ 1000000) (hc : Chg none_ w W) (hp : W.cell? ⟨pl, 0, none⟩ = some (.pointer (some ⟨g, 0, none⟩))) :
    Calls Try.prog 27 #[.slice A r.length c, .func (.func 28) #[] #[.pointer (some ⟨pl, 0, none⟩)]] W fun e w' => e = .returned (.bool (badR r next)) ∧ Chg none_ W w' :=
  ContainsFunc_any 28 #[.pointer (some ⟨pl, 0, none⟩)] (fun y => decide (y.1 ≤ y.2) && decide (next ≤ y.2)) r T0 A c W (hv.chg hc (fun _ _ h => h)) hr ⟨Try.call28, fun W' y _ hc' =>
    ack1_any y.1 y.2 next pl g W' ((hc'.cell 0 (World.block_lt_of_cell? _ _ hp) (fun h => h)).trans hp) ((h.quiet (hc.trans hc')).row.cell 1) hn⟩

set_option maxHeartbeats 2000000 in
/-- There is a number that was not sent. -/
theorem Ack_bad (base g next above : Nat) (T T0 : Nat → Prop) (v : Value) (l : List It) (r : List (Nat × Nat)) (A : Option Addr) (c : Nat) (w : World) (h : LedAt w base g T v l next above) (hn : next < 4611686018427387904) (hv : View w T0 A (r.length * 2) (r.flatMap rgc)) (hr : r.length ≤ 1000000) (hb : badR r next = true) :
    Calls Try.prog 10 #[.pointer (some ⟨g, 0, none⟩), .slice A r.length c] w fun e w' => e = .returned (.tuple #[.slice none 0 0, .int .i64 3]) ∧ Chg none_ w w' := by
  have HK : Hid (∀ W pl, Chg none_ w W → W.cell? ⟨pl, 0, none⟩ = some (.pointer (some ⟨g, 0, none⟩)) → Calls Try.prog 27 #[.slice A r.length c, .func (.func 28) #[] #[.pointer (some ⟨pl, 0, none⟩)]] W fun e w' => e = .returned (.bool true) ∧ Chg none_ W w') := Lib.hid (fun W pl hc hp => by
    have := contains1 base g next above pl T T0 v l r A c w W h hn hv hr hc hp
    rwa [hb] at this)
  have HB := Lib.hid (fun (o1 o2 : Obj) => ((Chg.refl none_ w).alloc o1).alloc o2)
  clear h hv hb
  go_enter Try.func10, Try.ntmps10
  go_wp2_with ((with_reducible show Calls _ 27 _ _ _); refine (HK.out _ _ (HB.out _ _) (by go_simp)).mono ?_; rintro e w3 ⟨rfl, hc⟩; have HC := Lib.hid ((HB.out _ _).trans hc); clear hc)
  refine bodyPost_ret (results_tmp2 rfl _ _ _) rfl ?_
  exact ⟨rfl, HC.out⟩

set_option maxRecDepth 100000 in
set_option maxHeartbeats 4000000 in
theorem Ack_any (base g next above : Nat) (T T0 : Nat → Prop) (v : Value) (l : List It) (r : List (Nat × Nat)) (A : Option Addr) (c : Nat) (w : World) (h : LedAt w base g T v l next above) (hn : next < 4611686018427387904) (ha : above ≤ next) (hl : l.length ≤ 1000) (hx : ∀ x ∈ l, 0 ≤ x.num ∧ x.num < (next : Int)) (hv : View w T0 A (r.length * 2) (r.flatMap rgc)) (hr : r.length ≤ 1000000) (hb : badR r next = false) :
    Calls Try.prog 10 #[.pointer (some ⟨g, 0, none⟩), .slice A r.length c] w fun e w' => ∃ gv lv, e = .returned (.tuple #[gv, .int .i64 0]) ∧ OwnS w' w.heap.size gv (l.filter (inR r)) ∧
      LedAt w' w.heap.size g T lv (l.filter (fun x => !inR r x)) next (maxA above (l.filter (inR r))) ∧ (∀ b, gv.ownBlock = some b → lv.ownBlock ≠ some b) ∧ Chg (· = g) w w' := by
  have HK : Hid (∀ W pl, Chg none_ w W → W.cell? ⟨pl, 0, none⟩ = some (.pointer (some ⟨g, 0, none⟩)) → Calls Try.prog 27 #[.slice A r.length c, .func (.func 28) #[] #[.pointer (some ⟨pl, 0, none⟩)]] W fun e w' => e = .returned (.bool false) ∧ Chg none_ W w') := Lib.hid (fun W pl hc hp => by
    have := contains1 base g next above pl T T0 v l r A c w W h hn hv hr hc hp
    rwa [hb] at this)
  have HP : Hid (∀ W pr, Chg none_ w W → W.cell? ⟨pr, 0, none⟩ = some (.slice A r.length c) → Calls Try.prog 29 #[.pointer (some ⟨g, 0, none⟩), .func (.func 30) #[] #[.pointer (some ⟨pr, 0, none⟩)]] W fun e w' => ∃ gv lv, e = .returned gv ∧ OwnS w' w.heap.size gv (l.filter (inR r)) ∧ LedAt w' w.heap.size g T lv (l.filter (fun x => !inR r x)) next above ∧ (∀ b, gv.ownBlock = some b → lv.ownBlock ≠ some b) ∧ Chg (· = g) w w' ∧ Chg (· = g) W w') := Lib.hid (fun W pr hc hp => by
    refine (part_any base g next above 30 #[.pointer (some ⟨pr, 0, none⟩)] (inR r) T v l W (h.quiet hc) hl ⟨Try.call30, fun W' x hxl hc' => ?_⟩).mono ?_
    · have hb := hx x hxl
      exact ack2_any x x.num.toNat pr c r T0 A W' (by omega) (by omega) ((hc'.cell 0 (World.block_lt_of_cell? _ _ hp) (fun h => h)).trans hp) (hv.chg (hc.trans hc') (fun _ _ h => h)) hr
    · rintro e w' ⟨gv, lv, rfl, h1, h2, h3, h4⟩
      exact ⟨gv, lv, rfl, h1.past hc.size, h2.past hc.size, h3, (hc.mono (fun _ _ h => h.elim)).trans h4, h4⟩)
  have HB := Lib.hid (fun (o1 o2 : Obj) => ((Chg.refl none_ w).alloc o1).alloc o2)
  have HGX : Hid (∀ x ∈ l.filter (inR r), 0 ≤ x.num ∧ x.num < (next : Int)) := Lib.hid (fun x hxl => hx x (List.mem_filter.1 hxl).1)
  have HN : Hid (next < 4611686018427387904 ∧ above ≤ next) := Lib.hid ⟨hn, ha⟩
  have HGW := Lib.hid h.glt
  clear h hv hb hx
  go_enter Try.func10, Try.ntmps10
  go_wp2_with (first | ((with_reducible show Calls _ 27 _ _ _); refine (HK.out _ _ (HB.out _ _) (by go_simp)).mono ?_; rintro e w3 ⟨rfl, hc⟩; have p2 := (hc.cell 0 (b := w.heap.size) (by simp; omega) (fun h => h)).trans (show ((w.alloc _).alloc _).cell? ⟨w.heap.size, 0, none⟩ = some (.pointer (some ⟨g, 0, none⟩)) by go_simp); have p3 := (hc.cell 0 (b := w.heap.size + 1) (by simp) (fun h => h)).trans (show ((w.alloc _).alloc _).cell? ⟨w.heap.size + 1, 0, none⟩ = some (.slice A r.length c) by go_simp); have HC := Lib.hid ((HB.out _ _).trans hc); clear hc) | ((with_reducible show Calls _ 29 _ _ _); refine (HP.out _ _ HC.out p3).mono ?_; rintro e w4 ⟨gv, lv, rfl, k1, k2, k3, k4, k5⟩; obtain ⟨AG, cg, rfl, _, _⟩ := shapeS k1; have p4 := (k5.cell 0 (World.block_lt_of_cell? _ _ p2) (fun (e : w.heap.size = g) => by have := HGW.out; omega)).trans p2; have HF := Lib.hid (And.intro k1 (And.intro k2 (And.intro k3 k4))); clear k1 k2 k3 k4 k5))
  obtain ⟨HGO, HLL, HDJ, HCC⟩ : Hid (OwnS w4 w.heap.size (.slice AG (l.filter (inR r)).length cg) (l.filter (inR r))) ∧ Hid (LedAt w4 w.heap.size g T lv (l.filter (fun x => !inR r x)) next above) ∧ Hid (∀ b, (Value.slice AG (l.filter (inR r)).length cg).ownBlock = some b → lv.ownBlock ≠ some b) ∧ Hid (Chg (· = g) w w4) := ⟨Lib.hid HF.out.1, Lib.hid HF.out.2.1, Lib.hid HF.out.2.2.1, Lib.hid HF.out.2.2.2⟩
  have hgs : (l.filter (inR r)).length ≤ 1000 := Nat.le_trans (List.length_filter_le _ _) hl
  have HV := Lib.hid HGO.out.view
  clear HF HP HK HB
  obtain ⟨AV, cv, ev, _, _, hv⟩ := HV.out
  injection ev with e1 _ e3
  subst e1
  subst e3
  have HVV := Lib.hid hv
  clear HV hv
  have HPB : Hid (w4.cell? ⟨w.heap.size, 0, none⟩ = some (.pointer (some ⟨g, 0, none⟩))) := Lib.hid p4
  have HL4 : Hid (w.heap.size < w4.heap.size) := Lib.hid (World.block_lt_of_cell? _ _ p4)
  clear p4 p2 p3
  go_loopw [19] (fun i wr => ∃ (k a : Nat), i = .int .i64 (k : Int) ∧ k ≤ (l.filter (inR r)).length ∧ a = maxA above ((l.filter (inR r)).take k) ∧ a ≤ next ∧ Hid (Row wr g 46 [lv, .int .i64 (next : Int), .int .i64 (a : Int)]) ∧ Hid (Chg (· = g) w4 wr)) (fun i _ => (l.filter (inR r)).length - (intOf i).toNat)
  case atStart => exact ⟨0, above, rfl, Nat.zero_le _, rfl, HN.out.2, Lib.hid HLL.out.row, Lib.hid (Chg.refl _ _)⟩
  case round =>
    obtain ⟨k, a, rfl, hk, hak, han, HR, HC5⟩ := hrel
    have HAK := Lib.hid hak
    clear hak
    by_cases hlt : k < (l.filter (inR r)).length
    · have k1 : (k : Int) < ((l.filter (inR r)).length : Int) := by omega
      have k0 : (0 : Int) ≤ (k : Int) := by omega
      obtain ⟨b, o, rfl, hb, _, hra⟩ := (HVV.out.chg HC5.out (fun b hb e => by have h1 := (HGO.out.lt hb).1; have h2 := HGW.out; omega)).elemAt itc_len (by decide) it0 hlt
      have hmx : (l.filter (inR r)).getD k it0 ∈ (l.filter (inR r)) := getD_mem it0 hlt
      have hr := hra k hlt
      obtain ⟨x, hx⟩ : ∃ x, (l.filter (inR r)).getD k it0 = x := ⟨_, rfl⟩
      rw [hx] at hr hmx
      have HRX := Lib.hid hr
      have HX := Lib.hid hx
      have hxn := HGX.out x hmx
      have hxn0 := hxn.1
      have hxn1 : x.num < 4611686018427387904 := by have := HN.out.1; have := hxn.2; omega
      clear hra hr hx hmx hb
      obtain ⟨m, hm⟩ : ∃ m : Nat, (m : Int) = max (a : Int) (x.num + 1) := ⟨max a (x.num + 1).toNat, by omega⟩
      have HM := Lib.hid hm
      have HMA : Hid (m = max a (x.num.toNat + 1) ∧ m ≤ next) := Lib.hid (by omega)
      have HW1 : Hid (IntKind.i64.wrap (x.num + 1) = x.num + 1) := Lib.hid (by simp [IntKind.wrap, IntKind.bits, IntKind.signed]; omega)
      clear hm hxn
      go_wp2_with (first | ((with_reducible show wpList _ _ _ (⟨some 22, .load _ _, _, _, _, _⟩ :: _) _ _); refine wpList_load_Mid (cs := itc x) rfl rfl rfl HRX.out Try.underlying32 rfl sizeS ?_) | ((with_reducible show wpList _ _ _ (⟨some 8, .alloc _, _, _, _, _⟩ :: _) _ _); refine wpList_alloc_Row rfl rfl (itc it0) zeroS ?_; intro w7 hr7 hc7 hs7; have HR7 := Lib.hid hr7; have HC7 := Lib.hid hc7; clear hr7 hc7 hs7) | ((with_reducible show wpList _ _ _ (⟨none, .store _ (.tmp 8) _, _, _, _, _⟩ :: _) _ _); refine wpList_store_Row (xs := itc x) rfl rfl rfl HR7.out rfl rfl sizeS (List.all_eq_true.2 (itc_one x)) ?_; intro w8 hr8 hc8 hs8; have HB8 := Lib.hid hr8; have HCW8 := Lib.hid (hc8 none_ wr HC7.out (fun h => absurd h (Nat.lt_irrefl _))); clear hr8 hc8 hs8))
      have HC8 : Hid (Chg none_ wr w8) := HCW8
      have HP8 : Hid (∀ y, Chg none_ w8 y → y.cell? ⟨w.heap.size, 0, none⟩ = some (.pointer (some ⟨g, 0, none⟩))) := Lib.hid (fun y hy => (((HC8.out.trans hy).cell 0 (Nat.lt_of_lt_of_le HL4.out HC5.out.size) (fun h => h)).trans (HC5.out.cell 0 HL4.out (fun (e : w.heap.size = g) => by have := HGW.out; omega))).trans HPB.out)
      have HR8 := Lib.hid (HR.out.chg HC8.out (fun h => h))
      have HA8 : Hid (∀ y, Chg none_ w8 y → y.cell? ⟨g, 2, none⟩ = some (.int .i64 (a : Int))) := Lib.hid (fun y hy => (HR8.out.chg hy (fun h => h)).cell 2)
      have HX8 : Hid (∀ y, Chg none_ w8 y → y.cell? ⟨wr.heap.size, 0, none⟩ = some (.int .i64 x.num)) := Lib.hid (fun y hy => (HB8.out.chg hy (fun h => h)).cell 0)
      refine wp_region_late (fun y => Chg none_ w8 y) 11 (by kernel_rfl) ?_
      have hz : Chg none_ w8 w8.drew := (Chg.refl _ w8).drew
      generalize w8.drew = wz at hz ⊢
      refine late_take (i := 0) (v := .pointer (some ⟨g, 0, none⟩)) [9, 10, 11] rfl (by kernel_rfl) (by kernel_rfl) (by kernel_rfl) (by kernel_rfl) (by first | exact fun _ _ _ h => h | exact fun _ _ _ h => nomatch h.1) (Or.inl ⟨by rfl, fun w_ hw_ => by have q1_ := HP8.out w_ hw_; go_simp⟩) hz ?_
      try simp only [Act.put, List.setIfInBounds_toArray, List.set_cons_zero, List.set_cons_succ, List.getElem_toArray, List.getElem_cons_zero]
      refine late_take (i := 1) (v := .pointer (some ⟨g, 0, none⟩)) [2, 3, 4, 8, 11] rfl (by kernel_rfl) (by kernel_rfl) (by kernel_rfl) (by kernel_rfl) (by first | exact fun _ _ _ h => h | exact fun _ _ _ h => nomatch h.1) (Or.inl ⟨by rfl, fun w_ hw_ => by have q1_ := HP8.out w_ hw_; go_simp⟩) hz ?_
      try simp only [Act.put, List.setIfInBounds_toArray, List.set_cons_zero, List.set_cons_succ, List.getElem_toArray, List.getElem_cons_succ, List.getElem_cons_zero]
      refine late_take (i := 2) (v := .pointer (some ⟨g, 0, none⟩)) [3, 4, 8, 11] rfl (by kernel_rfl) (by kernel_rfl) (by kernel_rfl) (by kernel_rfl) (by first | exact fun _ _ _ h => h | exact fun _ _ _ h => nomatch h.1) (Or.inl ⟨by rfl, fun w_ hw_ => by go_simp⟩) hz ?_
      try simp only [Act.put, List.setIfInBounds_toArray, List.set_cons_zero, List.set_cons_succ, List.getElem_toArray, List.getElem_cons_succ, List.getElem_cons_zero]
      refine late_take (i := 3) (v := .pointer (some ⟨g, 2, none⟩)) [4, 8, 11] rfl (by kernel_rfl) (by kernel_rfl) (by kernel_rfl) (by kernel_rfl) (by first | exact fun _ _ _ h => h | exact fun _ _ _ h => nomatch h.1) (Or.inl ⟨by rfl, fun w_ hw_ => by go_simp⟩) hz ?_
      try simp only [Act.put, List.setIfInBounds_toArray, List.set_cons_zero, List.set_cons_succ, List.getElem_toArray, List.getElem_cons_succ, List.getElem_cons_zero]
      refine late_take (i := 4) (v := .int .i64 (a : Int)) [8, 11] rfl (by kernel_rfl) (by kernel_rfl) (by kernel_rfl) (by kernel_rfl) (by first | exact fun _ _ _ h => h | exact fun _ _ _ h => nomatch h.1) (Or.inl ⟨by rfl, fun w_ hw_ => by have q1_ := HA8.out w_ hw_; go_simp⟩) hz ?_
      try simp only [Act.put, List.setIfInBounds_toArray, List.set_cons_zero, List.set_cons_succ, List.getElem_toArray, List.getElem_cons_succ, List.getElem_cons_zero]
      refine late_take (i := 5) (v := .pointer (some ⟨wr.heap.size, 0, none⟩)) [6, 7, 8, 11] rfl (by kernel_rfl) (by kernel_rfl) (by kernel_rfl) (by kernel_rfl) (by first | exact fun _ _ _ h => h | exact fun _ _ _ h => nomatch h.1) (Or.inl ⟨by rfl, fun w_ hw_ => by go_simp⟩) hz ?_
      try simp only [Act.put, List.setIfInBounds_toArray, List.set_cons_zero, List.set_cons_succ, List.getElem_toArray, List.getElem_cons_succ, List.getElem_cons_zero]
      refine late_take (i := 6) (v := .int .i64 x.num) [7, 8, 11] rfl (by kernel_rfl) (by kernel_rfl) (by kernel_rfl) (by kernel_rfl) (by first | exact fun _ _ _ h => h | exact fun _ _ _ h => nomatch h.1) (Or.inl ⟨by rfl, fun w_ hw_ => by have q1_ := HX8.out w_ hw_; go_simp⟩) hz ?_
      try simp only [Act.put, List.setIfInBounds_toArray, List.set_cons_zero, List.set_cons_succ, List.getElem_toArray, List.getElem_cons_succ, List.getElem_cons_zero]
      refine late_take (i := 7) (v := .int .i64 (x.num + 1)) [8, 11] rfl (by kernel_rfl) (by kernel_rfl) (by kernel_rfl) (by kernel_rfl) (by first | exact fun _ _ _ h => h | exact fun _ _ _ h => nomatch h.1) (Or.inl ⟨by rfl, fun w_ hw_ => by have q1_ := HW1.out; go_simp⟩) hz ?_
      try simp only [Act.put, List.setIfInBounds_toArray, List.set_cons_zero, List.set_cons_succ, List.getElem_toArray, List.getElem_cons_succ, List.getElem_cons_zero]
      refine late_take (i := 8) (v := .int .i64 (m : Int)) [11] rfl (by kernel_rfl) (by kernel_rfl) (by kernel_rfl) (by kernel_rfl) (by first | exact fun _ _ _ h => h | exact fun _ _ _ h => nomatch h.1) (Or.inl ⟨by rfl, fun w_ hw_ => by rw [HM.out]; go_simp; omega⟩) hz ?_
      try simp only [Act.put, List.setIfInBounds_toArray, List.set_cons_zero, List.set_cons_succ, List.getElem_toArray, List.getElem_cons_succ, List.getElem_cons_zero]
      refine late_take (i := 9) (v := .pointer (some ⟨g, 0, none⟩)) [10, 11] rfl (by kernel_rfl) (by kernel_rfl) (by kernel_rfl) (by kernel_rfl) (by first | exact fun _ _ _ h => h | exact fun _ _ _ h => nomatch h.1) (Or.inl ⟨by rfl, fun w_ hw_ => by go_simp⟩) hz ?_
      try simp only [Act.put, List.setIfInBounds_toArray, List.set_cons_zero, List.set_cons_succ, List.getElem_toArray, List.getElem_cons_succ, List.getElem_cons_zero]
      refine late_take (i := 10) (v := .pointer (some ⟨g, 2, none⟩)) [11] rfl (by kernel_rfl) (by kernel_rfl) (by kernel_rfl) (by kernel_rfl) (by first | exact fun _ _ _ h => h | exact fun _ _ _ h => nomatch h.1) (Or.inl ⟨by rfl, fun w_ hw_ => by go_simp⟩) hz ?_
      try simp only [Act.put, List.setIfInBounds_toArray, List.set_cons_zero, List.set_cons_succ, List.getElem_toArray, List.getElem_cons_succ, List.getElem_cons_zero]
      have c2 := HA8.out _ hz
      have f2 := (HR8.out.chg hz (fun h => h)).frozen 2
      have hrs := (HR8.out.chg hz (fun h => h)).set 2 (.int .i64 (m : Int))
      have hcs := Chg.setCell (S := fun b => b = g) ((show Chg (fun b => b = g) w8 wz from hz.mono (fun _ _ h => h.elim))) (p := ⟨g, 2, none⟩) (fun _ => rfl) (.int .i64 (m : Int))
      refine late_last (by kernel_rfl) rfl (by kernel_rfl) (fun K hK => ?_)
      rw [if_pos (by rfl)]
      try simp only [List.getElem_toArray, List.getElem_cons_succ, List.getElem_cons_zero]
      go_simp
      refine hK.out _ _ ?_
      clear hK K
      try simp only [Act.put, List.setIfInBounds_toArray, List.set_cons_zero, List.set_cons_succ, List.getElem_toArray, List.getElem_cons_succ, List.getElem_cons_zero]
      have HRS : Hid (Row (wz.setCell ⟨g, 2, none⟩ (.int .i64 (m : Int))) g 46 [lv, .int .i64 (next : Int), .int .i64 (m : Int)]) := Lib.hid hrs
      have HCS := Lib.hid (((show Chg (· = g) wr w8 from HC8.out.mono (fun _ _ h => h.elim))).trans hcs)
      generalize wz.setCell ⟨g, 2, none⟩ (.int .i64 (m : Int)) = w9 at *
      clear c2 f2 hrs hcs
      go_wp2
      go_roundw
      case rel =>
        refine ⟨k + 1, m, by go_num, by omega, ?_, HMA.out.2, HRS, Lib.hid (HC5.out.trans HCS.out)⟩
        rw [take_snoc it0 hlt, maxA_snoc, HX.out, ← HAK.out]
        exact HMA.out.1
      case measure => simp [intOf]; omega
    · have hke : k = (l.filter (inR r)).length := by omega
      subst hke
      rw [List.take_of_length_le (Nat.le_refl _)] at HAK
      clear hlt hk
      go_wp2
      refine bodyPost_ret (results_tmp2 rfl _ _ _) rfl ?_
      have hgl := HGW.out
      have hlg : ∀ b, lv.ownBlock = some b → w.heap.size ≤ b := fun b e => (HLL.out.own.lt e).1
      have hL := HLL.out
      refine ⟨.slice AG (l.filter (inR r)).length cg, rfl, HGO.out.chg HC5.out (fun b e h => by have h1 := (HGO.out.lt e).1; omega), lv, ?_, HDJ.out, HCC.out.trans HC5.out⟩
      rw [← HAK.out]
      exact ⟨HR.out, hL.own.chg HC5.out (fun b e h => by have h1 := hlg b e; omega), fun z hz => (hL.its z hz).chg HC5.out (fun b hb e => hL.ng b hb e), fun b hb => Nat.lt_of_lt_of_le (hL.lt b hb) HC5.out.size, hL.ng, hL.nv, hL.nn⟩
end Go.Proofs.Ytakoeamfmmbdiaa
