/- Layer 15 (ledger): the document's ledger: Lost. -/
import Derived.Test.YtakoeamfmmbdiaaV15RRead
namespace Go.Proofs.Ytakoeamfmmbdiaa
open Go.RowKit

set_option maxRecDepth 100000 in
set_option maxHeartbeats 8000000 in
theorem RLost_any (r c next acked now delay : Nat) (T : Nat → Prop) (A : Option Addr) (m : List It) (w : World) (h : RLed w r T A c m next acked) (ha : acked < 4611686018427387904) (hl : m.length ≤ 64) (hx : ∀ x ∈ m, 0 ≤ x.num ∧ x.num < 4611686018427387904) (hd : delay < 18446744073709551616) :
    Calls Try.prog 22 #[.pointer (some ⟨r, 0, none⟩), .int .u64 (now : Int), .int .u64 (delay : Int)] w fun e w' => ∃ AG cg A' c', e = .returned (.slice AG (m.filter (fun x => lostB x.num x.at_ ((acked : Int) - 1) delay now)).length cg) ∧ OwnS w' w.heap.size (.slice AG (m.filter (fun x => lostB x.num x.at_ ((acked : Int) - 1) delay now)).length cg) (m.filter (fun x => lostB x.num x.at_ ((acked : Int) - 1) delay now)) ∧
      RLed w' r (fun b => T b ∨ w.heap.size ≤ b) A' c' (m.filter (fun x => !lostB x.num x.at_ ((acked : Int) - 1) delay now)) next acked ∧ Chg (· = r) w w' := by
  have HH := Lib.hid h
  have HLV : Hid (∀ W, Chg none_ w W → View W T A (m.length * 5) (m.flatMap itc)) := Lib.hid (fun W hc => h.view.chg hc (fun _ _ h => h))
  have HRW : Hid (∀ W, Chg none_ w W → Row W r 48 [.slice A m.length c, .int .i64 (next : Int), .int .i64 (acked : Int)]) := Lib.hid (fun W hc => h.row.chg hc (fun h => h))
  have HTA : Hid (∀ x ∈ m, ∀ W, Calls Try.prog 39 #[.int .u64 (x.at_ : Int), .int .u64 (delay : Int)] W fun e w' => e = .returned (.int .u64 (addN x.at_ delay : Nat)) ∧ W = w') := Lib.hid (fun x hx W => (radd_any x.at_ delay (h.its x hx).lt hd W).mono (fun _ _ q => ⟨q.1, q.2.symm⟩))
  have HX := Lib.hid hx
  have HRLT := Lib.hid h.row.lt
  have HAB : Hid (acked < 4611686018427387904) := Lib.hid ha
  have r0 := h.row.cell 0
  simp only [List.getElem?_cons_zero] at r0
  obtain ⟨i5, hi5⟩ := infoS
  clear h hx hd ha
  go_enter Try.func22, Try.ntmps22
  go_wp2
  go_loopw [7, 8, 9] (fun i7 i8 i wQ => ∃ (k : Nat) (gv lv : Value), i = .int .i64 (k : Int) ∧ gv = i7 ∧ lv = i8 ∧ k ≤ m.length ∧ Hid (Chg none_ w wQ) ∧ Hid (OwnS wQ w.heap.size gv ((m.take k).filter (fun x => lostB x.num x.at_ ((acked : Int) - 1) delay now))) ∧ Hid (OwnS wQ w.heap.size lv ((m.take k).filter (fun x => !lostB x.num x.at_ ((acked : Int) - 1) delay now))) ∧ Hid (∀ b, gv.ownBlock = some b → lv.ownBlock ≠ some b)) (fun _ _ i _ => m.length - (intOf i).toNat)
  case atStart => exact ⟨0, _, _, rfl, rfl, rfl, Nat.zero_le _, Lib.hid (Chg.refl _ _), Lib.hid (OwnN.nil _ _ _ _ _), Lib.hid (OwnN.nil _ _ _ _ _), Lib.hid (fun b e => nomatch e)⟩
  case round =>
    obtain ⟨k, gv, lv, rfl, rfl, rfl, hk, HC, HGV, HLV2, HDJ⟩ := hrel
    have q0 := (HRW.out wr HC.out).cell 0
    simp only [List.getElem?_cons_zero] at q0
    clear r0
    by_cases hlt : k < m.length
    · have k1 : (k : Int) < (m.length : Int) := by omega
      have k0 : (0 : Int) ≤ (k : Int) := by omega
      obtain ⟨b, o, rfl, hbl, _, hra⟩ := (HLV.out wr HC.out).elemAt itc_len (by decide) it0 hlt
      have hmx : m.getD k it0 ∈ m := getD_mem it0 hlt
      have hr2 := hra k hlt
      obtain ⟨x, hx⟩ : ∃ x, m.getD k it0 = x := ⟨_, rfl⟩
      rw [hx] at hr2 hmx
      obtain ⟨hx0, hxb⟩ := HX.out x hmx
      have HRX := Lib.hid hr2
      have HTK : Hid (m.take (k + 1) = m.take k ++ [x]) := Lib.hid (by rw [take_snoc it0 hlt, hx])
      have HW1 : Hid (IntKind.i64.wrap (x.num + 1) = x.num + 1) := Lib.hid (by simp [IntKind.wrap, IntKind.bits, IntKind.signed]; omega)
      have HW4 : Hid (IntKind.i64.wrap (x.num + 4) = x.num + 4) := Lib.hid (by simp [IntKind.wrap, IntKind.bits, IntKind.signed]; omega)
      have HTX := Lib.hid (HTA.out x hmx)
      have HLE : Hid (((m.take k).filter (fun x => lostB x.num x.at_ ((acked : Int) - 1) delay now)).length + 1 ≤ 1000000 ∧ ((m.take k).filter (fun x => !lostB x.num x.at_ ((acked : Int) - 1) delay now)).length + 1 ≤ 1000000) := Lib.hid (by
        have h1 := List.length_filter_le (fun x => lostB x.num x.at_ ((acked : Int) - 1) delay now) (m.take k)
        have h2 := List.length_filter_le (fun x => !lostB x.num x.at_ ((acked : Int) - 1) delay now) (m.take k)
        rw [List.length_take] at h1 h2
        omega)
      clear hra hr2 hx hbl hmx
      by_cases h1 : x.num + 1 < (acked : Int)
      · have p1 : decide (x.num + 1 < (acked : Int)) = true := by simpa using h1
        have p1' : decide (x.num < (acked : Int) - 1) = true := by simp; omega
        by_cases h2 : x.num + 4 ≤ (acked : Int)
        · have p2 : decide (x.num + 4 ≤ (acked : Int)) = true := by simpa using h2
          have HQ : Hid (lostB x.num x.at_ ((acked : Int) - 1) delay now = true) := Lib.hid (by unfold lostB; rw [p1', show decide (3 ≤ (acked : Int) - 1 - x.num) = true by simp; omega]; rfl)
          clear h1 h2 hx0 hxb p1'
          go_wp2_with (first | ((with_reducible show wpList _ _ _ (⟨some 26, .load _ _, _, _, _, _⟩ :: _) _ _); refine wpList_load_Mid (cs := itc x) rfl rfl rfl HRX.out Try.underlying32 rfl sizeS ?_) | ((with_reducible show wpList _ _ _ (⟨some 10, .alloc _, _, _, _, _⟩ :: _) _ _); refine wpList_alloc_Row rfl rfl (itc it0) zeroS ?_; intro w4 hr4 hc4 hs4; have HR4 := Lib.hid hr4; have HC4 := Lib.hid hc4; clear hr4 hc4 hs4) | ((with_reducible show wpList _ _ _ (⟨none, .store _ (.tmp 10) _, _, _, _, _⟩ :: _) _ _); refine wpList_store_Row (xs := itc x) rfl rfl rfl HR4.out rfl rfl sizeS (List.all_eq_true.2 (itc_one x)) ?_; intro w5 hr5 hc5 hs5; have HR5 := Lib.hid hr5; have HC5 := Lib.hid (hc5 none_ wr HC4.out (fun h => absurd h (Nat.lt_irrefl _))); clear hr5 hc5 hs5))
          have HX0 : Hid (∀ y, Chg none_ w5 y → y.cell? ⟨wr.heap.size, 0, none⟩ = some (.int .i64 x.num)) := Lib.hid (fun y hy => (HR5.out.chg hy (fun h => h)).cell 0)
          have HX1 : Hid (∀ y, Chg none_ w5 y → y.cell? ⟨wr.heap.size, 1, none⟩ = some (.int .u64 (x.at_ : Int))) := Lib.hid (fun y hy => (HR5.out.chg hy (fun h => h)).cell 1)
          have HA2 : Hid (∀ y, Chg none_ w5 y → y.cell? ⟨r, 2, none⟩ = some (.int .i64 (acked : Int))) := Lib.hid (fun y hy => (HRW.out y ((HC.out.trans HC5.out).trans hy)).cell 2)
          refine wp_region_held_drew (S := fun y => Chg none_ w5 y) (by kernel_rfl) ((Chg.refl none_ w5).drew) (fun hch0 => ?_)
          have hz : Chg none_ w5 w5.drew := (Chg.refl _ w5).drew
          clear hch0
          refine wpAnyH_take (i := 0) (v := .pointer (some ⟨wr.heap.size, 0, none⟩)) rfl (by kernel_rfl) (by kernel_rfl) (by kernel_rfl) (by first | exact fun _ _ _ h => h | exact fun _ _ _ h => nomatch h.1) (Or.inl ⟨by rfl, fun w_ hw_ => by go_simp⟩) hz ?_
          try simp only [Act.put, List.setIfInBounds_toArray, List.set_cons_zero, List.set_cons_succ, List.getElem_toArray, List.getElem_cons_zero]
          refine wpAnyH_take (i := 1) (v := .int .i64 x.num) rfl (by kernel_rfl) (by kernel_rfl) (by kernel_rfl) (by first | exact fun _ _ _ h => h | exact fun _ _ _ h => nomatch h.1) (Or.inl ⟨by rfl, fun w_ hw_ => by have q1_ := HX0.out w_ hw_; go_simp⟩) hz ?_
          try simp only [Act.put, List.setIfInBounds_toArray, List.set_cons_zero, List.set_cons_succ, List.getElem_toArray, List.getElem_cons_succ, List.getElem_cons_zero]
          refine wpAnyH_take (i := 2) (v := .int .i64 (x.num + 1)) rfl (by kernel_rfl) (by kernel_rfl) (by kernel_rfl) (by first | exact fun _ _ _ h => h | exact fun _ _ _ h => nomatch h.1) (Or.inl ⟨by rfl, fun w_ hw_ => by have q1_ := HW1.out; go_simp⟩) hz ?_
          try simp only [Act.put, List.setIfInBounds_toArray, List.set_cons_zero, List.set_cons_succ, List.getElem_toArray, List.getElem_cons_succ, List.getElem_cons_zero]
          refine wpAnyH_take (i := 3) (v := .pointer (some ⟨r, 0, none⟩)) rfl (by kernel_rfl) (by kernel_rfl) (by kernel_rfl) (by first | exact fun _ _ _ h => h | exact fun _ _ _ h => nomatch h.1) (Or.inl ⟨by rfl, fun w_ hw_ => by go_simp⟩) hz ?_
          try simp only [Act.put, List.setIfInBounds_toArray, List.set_cons_zero, List.set_cons_succ, List.getElem_toArray, List.getElem_cons_succ, List.getElem_cons_zero]
          refine wpAnyH_take (i := 4) (v := .pointer (some ⟨r, 0, none⟩)) rfl (by kernel_rfl) (by kernel_rfl) (by kernel_rfl) (by first | exact fun _ _ _ h => h | exact fun _ _ _ h => nomatch h.1) (Or.inl ⟨by rfl, fun w_ hw_ => by go_simp⟩) hz ?_
          try simp only [Act.put, List.setIfInBounds_toArray, List.set_cons_zero, List.set_cons_succ, List.getElem_toArray, List.getElem_cons_succ, List.getElem_cons_zero]
          refine wpAnyH_take (i := 5) (v := .pointer (some ⟨r, 2, none⟩)) rfl (by kernel_rfl) (by kernel_rfl) (by kernel_rfl) (by first | exact fun _ _ _ h => h | exact fun _ _ _ h => nomatch h.1) (Or.inl ⟨by rfl, fun w_ hw_ => by go_simp⟩) hz ?_
          try simp only [Act.put, List.setIfInBounds_toArray, List.set_cons_zero, List.set_cons_succ, List.getElem_toArray, List.getElem_cons_succ, List.getElem_cons_zero]
          refine wpAnyH_take (i := 6) (v := .int .i64 (acked : Int)) rfl (by kernel_rfl) (by kernel_rfl) (by kernel_rfl) (by first | exact fun _ _ _ h => h | exact fun _ _ _ h => nomatch h.1) (Or.inl ⟨by rfl, fun w_ hw_ => by have q1_ := HA2.out w_ hw_; go_simp⟩) hz ?_
          try simp only [Act.put, List.setIfInBounds_toArray, List.set_cons_zero, List.set_cons_succ, List.getElem_toArray, List.getElem_cons_succ, List.getElem_cons_zero]
          refine wpAnyH_take (i := 7) (v := .bool true) rfl (by kernel_rfl) (by kernel_rfl) (by kernel_rfl) (by first | exact fun _ _ _ h => h | exact fun _ _ _ h => nomatch h.1) (Or.inl ⟨by rfl, fun w_ hw_ => by go_simp⟩) hz ?_
          try simp only [Act.put, List.setIfInBounds_toArray, List.set_cons_zero, List.set_cons_succ, List.getElem_toArray, List.getElem_cons_succ, List.getElem_cons_zero]
          refine wpAnyH_take (i := 8) (v := .bool true) rfl (by kernel_rfl) (by kernel_rfl) (by kernel_rfl) (by first | exact fun _ _ _ h => h | exact fun _ _ _ h => nomatch h.1) (Or.inl ⟨by rfl, fun w_ hw_ => by go_simp⟩) hz ?_
          try simp only [Act.put, List.setIfInBounds_toArray, List.set_cons_zero, List.set_cons_succ, List.getElem_toArray, List.getElem_cons_succ, List.getElem_cons_zero]
          refine wpAnyH_take (i := 9) (v := .pointer (some ⟨wr.heap.size, 0, none⟩)) rfl (by kernel_rfl) (by kernel_rfl) (by kernel_rfl) (by first | exact fun _ _ _ h => h | exact fun _ _ _ h => nomatch h.1) (Or.inl ⟨by rfl, fun w_ hw_ => by go_simp⟩) hz ?_
          try simp only [Act.put, List.setIfInBounds_toArray, List.set_cons_zero, List.set_cons_succ, List.getElem_toArray, List.getElem_cons_succ, List.getElem_cons_zero]
          refine wpAnyH_take (i := 10) (v := .int .i64 x.num) rfl (by kernel_rfl) (by kernel_rfl) (by kernel_rfl) (by first | exact fun _ _ _ h => h | exact fun _ _ _ h => nomatch h.1) (Or.inl ⟨by rfl, fun w_ hw_ => by have q1_ := HX0.out w_ hw_; go_simp⟩) hz ?_
          try simp only [Act.put, List.setIfInBounds_toArray, List.set_cons_zero, List.set_cons_succ, List.getElem_toArray, List.getElem_cons_succ, List.getElem_cons_zero]
          refine wpAnyH_take (i := 11) (v := .int .i64 (x.num + 4)) rfl (by kernel_rfl) (by kernel_rfl) (by kernel_rfl) (by first | exact fun _ _ _ h => h | exact fun _ _ _ h => nomatch h.1) (Or.inl ⟨by rfl, fun w_ hw_ => by have q1_ := HW4.out; go_simp⟩) hz ?_
          try simp only [Act.put, List.setIfInBounds_toArray, List.set_cons_zero, List.set_cons_succ, List.getElem_toArray, List.getElem_cons_succ, List.getElem_cons_zero]
          refine wpAnyH_take (i := 12) (v := .pointer (some ⟨r, 0, none⟩)) rfl (by kernel_rfl) (by kernel_rfl) (by kernel_rfl) (by first | exact fun _ _ _ h => h | exact fun _ _ _ h => nomatch h.1) (Or.inl ⟨by rfl, fun w_ hw_ => by go_simp⟩) hz ?_
          try simp only [Act.put, List.setIfInBounds_toArray, List.set_cons_zero, List.set_cons_succ, List.getElem_toArray, List.getElem_cons_succ, List.getElem_cons_zero]
          refine wpAnyH_take (i := 13) (v := .pointer (some ⟨r, 0, none⟩)) rfl (by kernel_rfl) (by kernel_rfl) (by kernel_rfl) (by first | exact fun _ _ _ h => h | exact fun _ _ _ h => nomatch h.1) (Or.inl ⟨by rfl, fun w_ hw_ => by go_simp⟩) hz ?_
          try simp only [Act.put, List.setIfInBounds_toArray, List.set_cons_zero, List.set_cons_succ, List.getElem_toArray, List.getElem_cons_succ, List.getElem_cons_zero]
          refine wpAnyH_take (i := 14) (v := .pointer (some ⟨r, 2, none⟩)) rfl (by kernel_rfl) (by kernel_rfl) (by kernel_rfl) (by first | exact fun _ _ _ h => h | exact fun _ _ _ h => nomatch h.1) (Or.inl ⟨by rfl, fun w_ hw_ => by go_simp⟩) hz ?_
          try simp only [Act.put, List.setIfInBounds_toArray, List.set_cons_zero, List.set_cons_succ, List.getElem_toArray, List.getElem_cons_succ, List.getElem_cons_zero]
          refine wpAnyH_take (i := 15) (v := .int .i64 (acked : Int)) rfl (by kernel_rfl) (by kernel_rfl) (by kernel_rfl) (by first | exact fun _ _ _ h => h | exact fun _ _ _ h => nomatch h.1) (Or.inl ⟨by rfl, fun w_ hw_ => by have q1_ := HA2.out w_ hw_; go_simp⟩) hz ?_
          try simp only [Act.put, List.setIfInBounds_toArray, List.set_cons_zero, List.set_cons_succ, List.getElem_toArray, List.getElem_cons_succ, List.getElem_cons_zero]
          refine wpAnyH_take (i := 16) (v := .bool true) rfl (by kernel_rfl) (by kernel_rfl) (by kernel_rfl) (by first | exact fun _ _ _ h => h | exact fun _ _ _ h => nomatch h.1) (Or.inl ⟨by rfl, fun w_ hw_ => by go_simp⟩) hz ?_
          try simp only [Act.put, List.setIfInBounds_toArray, List.set_cons_zero, List.set_cons_succ, List.getElem_toArray, List.getElem_cons_succ, List.getElem_cons_zero]
          refine wpAnyH_take (i := 17) (v := .bool true) rfl (by kernel_rfl) (by kernel_rfl) (by kernel_rfl) (by first | exact fun _ _ _ h => h | exact fun _ _ _ h => nomatch h.1) (Or.inl ⟨by rfl, fun w_ hw_ => by go_simp⟩) hz ?_
          try simp only [Act.put, List.setIfInBounds_toArray, List.set_cons_zero, List.set_cons_succ, List.getElem_toArray, List.getElem_cons_succ, List.getElem_cons_zero]
          refine wpAnyH_take (i := 18) (v := undef) rfl (by kernel_rfl) (by kernel_rfl) (by kernel_rfl) (by first | exact fun _ _ _ h => h | exact fun _ _ _ h => nomatch h.1) (Or.inr ⟨by rfl, rfl⟩) hz ?_
          try simp only [Act.put, List.setIfInBounds_toArray, List.set_cons_zero, List.set_cons_succ, List.getElem_toArray, List.getElem_cons_succ, List.getElem_cons_zero]
          refine wpAnyH_take (i := 19) (v := undef) rfl (by kernel_rfl) (by kernel_rfl) (by kernel_rfl) (by first | exact fun _ _ _ h => h | exact fun _ _ _ h => nomatch h.1) (Or.inr ⟨by rfl, rfl⟩) hz ?_
          try simp only [Act.put, List.setIfInBounds_toArray, List.set_cons_zero, List.set_cons_succ, List.getElem_toArray, List.getElem_cons_succ, List.getElem_cons_zero]
          refine wpAnyH_take (i := 20) (v := undef) rfl (by kernel_rfl) (by kernel_rfl) (by kernel_rfl) (by first | exact fun _ _ _ h => h | exact fun _ _ _ h => nomatch h.1) (Or.inr ⟨by rfl, rfl⟩) hz ?_
          try simp only [Act.put, List.setIfInBounds_toArray, List.set_cons_zero, List.set_cons_succ, List.getElem_toArray, List.getElem_cons_succ, List.getElem_cons_zero]
          refine wpAnyH_take (i := 21) (v := undef) rfl (by kernel_rfl) (by kernel_rfl) (by kernel_rfl) (by first | exact fun _ _ _ h => h | exact fun _ _ _ h => nomatch h.1) (Or.inr ⟨by rfl, rfl⟩) hz ?_
          try simp only [Act.put, List.setIfInBounds_toArray, List.set_cons_zero, List.set_cons_succ, List.getElem_toArray, List.getElem_cons_succ, List.getElem_cons_zero]
          refine wpAnyH_take (i := 22) (v := undef) rfl (by kernel_rfl) (by kernel_rfl) (by kernel_rfl) (by first | exact fun _ _ _ h => h | exact fun _ _ _ h => nomatch h.1) (Or.inr ⟨by rfl, rfl⟩) hz ?_
          try simp only [Act.put, List.setIfInBounds_toArray, List.set_cons_zero, List.set_cons_succ, List.getElem_toArray, List.getElem_cons_succ, List.getElem_cons_zero]
          refine wpAnyH_take (i := 23) (v := undef) rfl (by kernel_rfl) (by kernel_rfl) (by kernel_rfl) (by first | exact fun _ _ _ h => h | exact fun _ _ _ h => nomatch h.1) (Or.inr ⟨by rfl, rfl⟩) hz ?_
          try simp only [Act.put, List.setIfInBounds_toArray, List.set_cons_zero, List.set_cons_succ, List.getElem_toArray, List.getElem_cons_succ, List.getElem_cons_zero]
          refine wpAnyH_take (i := 24) (v := .bool true) rfl (by kernel_rfl) (by kernel_rfl) (by kernel_rfl) (by first | exact fun _ _ _ h => h | exact fun _ _ _ h => nomatch h.1) (Or.inl ⟨by rfl, fun w_ hw_ => by go_simp⟩) hz ?_
          try simp only [Act.put, List.setIfInBounds_toArray, List.set_cons_zero, List.set_cons_succ, List.getElem_toArray, List.getElem_cons_succ, List.getElem_cons_zero]
          refine wpAnyH_take (i := 25) (v := .bool true) rfl (by kernel_rfl) (by kernel_rfl) (by kernel_rfl) (by first | exact fun _ _ _ h => h | exact fun _ _ _ h => nomatch h.1) (Or.inl ⟨by rfl, fun w_ hw_ => by go_simp⟩) hz ?_
          try simp only [Act.put, List.setIfInBounds_toArray, List.set_cons_zero, List.set_cons_succ, List.getElem_toArray, List.getElem_cons_succ, List.getElem_cons_zero]
          refine wpAnyH_done (by kernel_rfl) ?_ _
          have HR6_ := HR5.out.chg hz (fun h => h)
          obtain ⟨w6, hw6⟩ : ∃ w6, w6 = w5.drew := ⟨_, rfl⟩
          rw [← hw6] at hz HR6_ ⊢
          have HR6 := Lib.hid HR6_
          have HC6 := Lib.hid (HC5.out.trans hz)
          clear hz HR6_ hw6
          go_wp2_with (first | ((with_reducible show wpList _ _ _ (⟨some 54, .load _ _, _, _, _, _⟩ :: _) _ _); refine wpList_load_Row rfl rfl rfl HR6.out Try.underlying32 rfl sizeS ?_) | ((with_reducible show wpList _ _ _ (⟨some 55, _, _, _, _, _⟩ :: _) _ _); refine wpList_newN (f := fun g => .slice (some ⟨g, 0, none⟩) 1 1) (e := 32) (cs := itc x) rfl (fun w_ => by have := run_sliceS x w_; simp [execOp, Act.eval, Act.put, this]) ?_; intro w7 hr7 hc7 hs7; have HR7 := Lib.hid hr7; have HC7 := Lib.hid (HC6.out.trans hc7); clear hr7 hc7 hs7) | ((with_reducible show wpList _ _ _ (⟨some 56, _, _, _, _, _⟩ :: _) _ _); refine wpList_append_N rfl (c := itc) (e := 32) (s := 5) (base := w.heap.size) (v := gv) (L := ((m.take k).filter (fun x => lostB x.num x.at_ ((acked : Int) - 1) delay now))) (M := [x]) (T := fun b => b = w6.heap.size) (A := some ⟨w6.heap.size, 0, none⟩) (m := 1) (cp := 1) (i := i5) (z := .agg (itc it0).toArray) _ _ 33 rfl Try.underlying33 hi5 rfl (by decide) itc_one itc_len rfl (HGV.out.chg HC7.out (fun _ _ h => h)) rfl (viewS HR7.out) HLE.out.1 (HC.out.trans HC7.out).size ?_; intro v8 w8 o8 c8 n8; have HO8 : Hid (OwnS w8 w.heap.size v8 (((m.take k).filter (fun x => lostB x.num x.at_ ((acked : Int) - 1) delay now)) ++ [x])) := Lib.hid o8; have HC8 := Lib.hid c8; have HN8 := Lib.hid n8; clear o8 c8 n8))
          go_roundw
          case rel =>
            have hcw : Chg none_ w w8 := (HC.out.trans HC7.out).andThen HC8.out (fun b hb e => by have := (HGV.out.lt e).1; omega)
            have hot : OwnS w8 w.heap.size lv ((m.take k).filter (fun x => !lostB x.num x.at_ ((acked : Int) - 1) delay now)) := (HLV2.out.chg HC7.out (fun _ _ h => h)).chg HC8.out (fun b e h => HDJ.out b h e)
            have hown : OwnS w8 w.heap.size v8 (((m.take k).filter (fun x => lostB x.num x.at_ ((acked : Int) - 1) delay now)) ++ [x]) := HO8.out
            refine ⟨k + 1, v8, lv, by go_num, rfl, rfl, by omega, Lib.hid hcw, Lib.hid ?_, Lib.hid ?_, Lib.hid (fun b e1 e2 => ?_)⟩
            · rw [HTK.out, List.filter_append, List.filter_cons_of_pos (by simp [HQ.out]), List.filter_nil]; exact hown
            · rw [HTK.out, List.filter_append, List.filter_cons_of_neg (by simp [HQ.out]), List.filter_nil, List.append_nil]; exact hot
            · rcases HN8.out b e1 with h | h
              · exact HDJ.out b h e2
              · have h1 := (HLV2.out.lt e2).2; have h2 := HC7.out.size; omega
          case measure => simp [intOf]; omega
        · have p2 : decide (x.num + 4 ≤ (acked : Int)) = false := by simpa using h2
          have p2' : decide (3 ≤ (acked : Int) - 1 - x.num) = false := by simp; omega
          by_cases h3 : addN x.at_ delay ≤ now
          · have HDA : Hid (decide (((addN x.at_ delay : Nat) : Int) ≤ (now : Int)) = true) := Lib.hid (by simpa using h3)
            have HDN : Hid (decide (addN x.at_ delay ≤ now) = true) := Lib.hid (by simpa using h3)
            have HQ : Hid (lostB x.num x.at_ ((acked : Int) - 1) delay now = true) := Lib.hid (by unfold lostB; rw [p1', p2', decide_eq_true h3]; rfl)
            clear h1 h2 h3 hx0 hxb p1' p2'
            go_wp2_with (first | ((with_reducible show wpList _ _ _ (⟨some 26, .load _ _, _, _, _, _⟩ :: _) _ _); refine wpList_load_Mid (cs := itc x) rfl rfl rfl HRX.out Try.underlying32 rfl sizeS ?_) | ((with_reducible show wpList _ _ _ (⟨some 10, .alloc _, _, _, _, _⟩ :: _) _ _); refine wpList_alloc_Row rfl rfl (itc it0) zeroS ?_; intro w4 hr4 hc4 hs4; have HR4 := Lib.hid hr4; have HC4 := Lib.hid hc4; clear hr4 hc4 hs4) | ((with_reducible show wpList _ _ _ (⟨none, .store _ (.tmp 10) _, _, _, _, _⟩ :: _) _ _); refine wpList_store_Row (xs := itc x) rfl rfl rfl HR4.out rfl rfl sizeS (List.all_eq_true.2 (itc_one x)) ?_; intro w5 hr5 hc5 hs5; have HR5 := Lib.hid hr5; have HC5 := Lib.hid (hc5 none_ wr HC4.out (fun h => absurd h (Nat.lt_irrefl _))); clear hr5 hc5 hs5))
            have HX0 : Hid (∀ y, Chg none_ w5 y → y.cell? ⟨wr.heap.size, 0, none⟩ = some (.int .i64 x.num)) := Lib.hid (fun y hy => (HR5.out.chg hy (fun h => h)).cell 0)
            have HX1 : Hid (∀ y, Chg none_ w5 y → y.cell? ⟨wr.heap.size, 1, none⟩ = some (.int .u64 (x.at_ : Int))) := Lib.hid (fun y hy => (HR5.out.chg hy (fun h => h)).cell 1)
            have HA2 : Hid (∀ y, Chg none_ w5 y → y.cell? ⟨r, 2, none⟩ = some (.int .i64 (acked : Int))) := Lib.hid (fun y hy => (HRW.out y ((HC.out.trans HC5.out).trans hy)).cell 2)
            refine wp_region_held_drew (S := fun y => Chg none_ w5 y) (by kernel_rfl) ((Chg.refl none_ w5).drew) (fun hch0 => ?_)
            have hz : Chg none_ w5 w5.drew := (Chg.refl _ w5).drew
            clear hch0
            refine wpAnyH_take (i := 0) (v := .pointer (some ⟨wr.heap.size, 0, none⟩)) rfl (by kernel_rfl) (by kernel_rfl) (by kernel_rfl) (by first | exact fun _ _ _ h => h | exact fun _ _ _ h => nomatch h.1) (Or.inl ⟨by rfl, fun w_ hw_ => by go_simp⟩) hz ?_
            try simp only [Act.put, List.setIfInBounds_toArray, List.set_cons_zero, List.set_cons_succ, List.getElem_toArray, List.getElem_cons_zero]
            refine wpAnyH_take (i := 1) (v := .int .i64 x.num) rfl (by kernel_rfl) (by kernel_rfl) (by kernel_rfl) (by first | exact fun _ _ _ h => h | exact fun _ _ _ h => nomatch h.1) (Or.inl ⟨by rfl, fun w_ hw_ => by have q1_ := HX0.out w_ hw_; go_simp⟩) hz ?_
            try simp only [Act.put, List.setIfInBounds_toArray, List.set_cons_zero, List.set_cons_succ, List.getElem_toArray, List.getElem_cons_succ, List.getElem_cons_zero]
            refine wpAnyH_take (i := 2) (v := .int .i64 (x.num + 1)) rfl (by kernel_rfl) (by kernel_rfl) (by kernel_rfl) (by first | exact fun _ _ _ h => h | exact fun _ _ _ h => nomatch h.1) (Or.inl ⟨by rfl, fun w_ hw_ => by have q1_ := HW1.out; go_simp⟩) hz ?_
            try simp only [Act.put, List.setIfInBounds_toArray, List.set_cons_zero, List.set_cons_succ, List.getElem_toArray, List.getElem_cons_succ, List.getElem_cons_zero]
            refine wpAnyH_take (i := 3) (v := .pointer (some ⟨r, 0, none⟩)) rfl (by kernel_rfl) (by kernel_rfl) (by kernel_rfl) (by first | exact fun _ _ _ h => h | exact fun _ _ _ h => nomatch h.1) (Or.inl ⟨by rfl, fun w_ hw_ => by go_simp⟩) hz ?_
            try simp only [Act.put, List.setIfInBounds_toArray, List.set_cons_zero, List.set_cons_succ, List.getElem_toArray, List.getElem_cons_succ, List.getElem_cons_zero]
            refine wpAnyH_take (i := 4) (v := .pointer (some ⟨r, 0, none⟩)) rfl (by kernel_rfl) (by kernel_rfl) (by kernel_rfl) (by first | exact fun _ _ _ h => h | exact fun _ _ _ h => nomatch h.1) (Or.inl ⟨by rfl, fun w_ hw_ => by go_simp⟩) hz ?_
            try simp only [Act.put, List.setIfInBounds_toArray, List.set_cons_zero, List.set_cons_succ, List.getElem_toArray, List.getElem_cons_succ, List.getElem_cons_zero]
            refine wpAnyH_take (i := 5) (v := .pointer (some ⟨r, 2, none⟩)) rfl (by kernel_rfl) (by kernel_rfl) (by kernel_rfl) (by first | exact fun _ _ _ h => h | exact fun _ _ _ h => nomatch h.1) (Or.inl ⟨by rfl, fun w_ hw_ => by go_simp⟩) hz ?_
            try simp only [Act.put, List.setIfInBounds_toArray, List.set_cons_zero, List.set_cons_succ, List.getElem_toArray, List.getElem_cons_succ, List.getElem_cons_zero]
            refine wpAnyH_take (i := 6) (v := .int .i64 (acked : Int)) rfl (by kernel_rfl) (by kernel_rfl) (by kernel_rfl) (by first | exact fun _ _ _ h => h | exact fun _ _ _ h => nomatch h.1) (Or.inl ⟨by rfl, fun w_ hw_ => by have q1_ := HA2.out w_ hw_; go_simp⟩) hz ?_
            try simp only [Act.put, List.setIfInBounds_toArray, List.set_cons_zero, List.set_cons_succ, List.getElem_toArray, List.getElem_cons_succ, List.getElem_cons_zero]
            refine wpAnyH_take (i := 7) (v := .bool true) rfl (by kernel_rfl) (by kernel_rfl) (by kernel_rfl) (by first | exact fun _ _ _ h => h | exact fun _ _ _ h => nomatch h.1) (Or.inl ⟨by rfl, fun w_ hw_ => by go_simp⟩) hz ?_
            try simp only [Act.put, List.setIfInBounds_toArray, List.set_cons_zero, List.set_cons_succ, List.getElem_toArray, List.getElem_cons_succ, List.getElem_cons_zero]
            refine wpAnyH_take (i := 8) (v := .bool true) rfl (by kernel_rfl) (by kernel_rfl) (by kernel_rfl) (by first | exact fun _ _ _ h => h | exact fun _ _ _ h => nomatch h.1) (Or.inl ⟨by rfl, fun w_ hw_ => by go_simp⟩) hz ?_
            try simp only [Act.put, List.setIfInBounds_toArray, List.set_cons_zero, List.set_cons_succ, List.getElem_toArray, List.getElem_cons_succ, List.getElem_cons_zero]
            refine wpAnyH_take (i := 9) (v := .pointer (some ⟨wr.heap.size, 0, none⟩)) rfl (by kernel_rfl) (by kernel_rfl) (by kernel_rfl) (by first | exact fun _ _ _ h => h | exact fun _ _ _ h => nomatch h.1) (Or.inl ⟨by rfl, fun w_ hw_ => by go_simp⟩) hz ?_
            try simp only [Act.put, List.setIfInBounds_toArray, List.set_cons_zero, List.set_cons_succ, List.getElem_toArray, List.getElem_cons_succ, List.getElem_cons_zero]
            refine wpAnyH_take (i := 10) (v := .int .i64 x.num) rfl (by kernel_rfl) (by kernel_rfl) (by kernel_rfl) (by first | exact fun _ _ _ h => h | exact fun _ _ _ h => nomatch h.1) (Or.inl ⟨by rfl, fun w_ hw_ => by have q1_ := HX0.out w_ hw_; go_simp⟩) hz ?_
            try simp only [Act.put, List.setIfInBounds_toArray, List.set_cons_zero, List.set_cons_succ, List.getElem_toArray, List.getElem_cons_succ, List.getElem_cons_zero]
            refine wpAnyH_take (i := 11) (v := .int .i64 (x.num + 4)) rfl (by kernel_rfl) (by kernel_rfl) (by kernel_rfl) (by first | exact fun _ _ _ h => h | exact fun _ _ _ h => nomatch h.1) (Or.inl ⟨by rfl, fun w_ hw_ => by have q1_ := HW4.out; go_simp⟩) hz ?_
            try simp only [Act.put, List.setIfInBounds_toArray, List.set_cons_zero, List.set_cons_succ, List.getElem_toArray, List.getElem_cons_succ, List.getElem_cons_zero]
            refine wpAnyH_take (i := 12) (v := .pointer (some ⟨r, 0, none⟩)) rfl (by kernel_rfl) (by kernel_rfl) (by kernel_rfl) (by first | exact fun _ _ _ h => h | exact fun _ _ _ h => nomatch h.1) (Or.inl ⟨by rfl, fun w_ hw_ => by go_simp⟩) hz ?_
            try simp only [Act.put, List.setIfInBounds_toArray, List.set_cons_zero, List.set_cons_succ, List.getElem_toArray, List.getElem_cons_succ, List.getElem_cons_zero]
            refine wpAnyH_take (i := 13) (v := .pointer (some ⟨r, 0, none⟩)) rfl (by kernel_rfl) (by kernel_rfl) (by kernel_rfl) (by first | exact fun _ _ _ h => h | exact fun _ _ _ h => nomatch h.1) (Or.inl ⟨by rfl, fun w_ hw_ => by go_simp⟩) hz ?_
            try simp only [Act.put, List.setIfInBounds_toArray, List.set_cons_zero, List.set_cons_succ, List.getElem_toArray, List.getElem_cons_succ, List.getElem_cons_zero]
            refine wpAnyH_take (i := 14) (v := .pointer (some ⟨r, 2, none⟩)) rfl (by kernel_rfl) (by kernel_rfl) (by kernel_rfl) (by first | exact fun _ _ _ h => h | exact fun _ _ _ h => nomatch h.1) (Or.inl ⟨by rfl, fun w_ hw_ => by go_simp⟩) hz ?_
            try simp only [Act.put, List.setIfInBounds_toArray, List.set_cons_zero, List.set_cons_succ, List.getElem_toArray, List.getElem_cons_succ, List.getElem_cons_zero]
            refine wpAnyH_take (i := 15) (v := .int .i64 (acked : Int)) rfl (by kernel_rfl) (by kernel_rfl) (by kernel_rfl) (by first | exact fun _ _ _ h => h | exact fun _ _ _ h => nomatch h.1) (Or.inl ⟨by rfl, fun w_ hw_ => by have q1_ := HA2.out w_ hw_; go_simp⟩) hz ?_
            try simp only [Act.put, List.setIfInBounds_toArray, List.set_cons_zero, List.set_cons_succ, List.getElem_toArray, List.getElem_cons_succ, List.getElem_cons_zero]
            refine wpAnyH_take (i := 16) (v := .bool false) rfl (by kernel_rfl) (by kernel_rfl) (by kernel_rfl) (by first | exact fun _ _ _ h => h | exact fun _ _ _ h => nomatch h.1) (Or.inl ⟨by rfl, fun w_ hw_ => by go_simp⟩) hz ?_
            try simp only [Act.put, List.setIfInBounds_toArray, List.set_cons_zero, List.set_cons_succ, List.getElem_toArray, List.getElem_cons_succ, List.getElem_cons_zero]
            refine wpAnyH_take (i := 17) (v := .bool false) rfl (by kernel_rfl) (by kernel_rfl) (by kernel_rfl) (by first | exact fun _ _ _ h => h | exact fun _ _ _ h => nomatch h.1) (Or.inl ⟨by rfl, fun w_ hw_ => by go_simp⟩) hz ?_
            try simp only [Act.put, List.setIfInBounds_toArray, List.set_cons_zero, List.set_cons_succ, List.getElem_toArray, List.getElem_cons_succ, List.getElem_cons_zero]
            refine wpAnyH_take (i := 18) (v := .pointer (some ⟨wr.heap.size, 1, none⟩)) rfl (by kernel_rfl) (by kernel_rfl) (by kernel_rfl) (by first | exact fun _ _ _ h => h | exact fun _ _ _ h => nomatch h.1) (Or.inl ⟨by rfl, fun w_ hw_ => by go_simp⟩) hz ?_
            try simp only [Act.put, List.setIfInBounds_toArray, List.set_cons_zero, List.set_cons_succ, List.getElem_toArray, List.getElem_cons_succ, List.getElem_cons_zero]
            refine wpAnyH_take (i := 19) (v := .int .u64 (x.at_ : Int)) rfl (by kernel_rfl) (by kernel_rfl) (by kernel_rfl) (by first | exact fun _ _ _ h => h | exact fun _ _ _ h => nomatch h.1) (Or.inl ⟨by rfl, fun w_ hw_ => by have q1_ := HX1.out w_ hw_; go_simp⟩) hz ?_
            try simp only [Act.put, List.setIfInBounds_toArray, List.set_cons_zero, List.set_cons_succ, List.getElem_toArray, List.getElem_cons_succ, List.getElem_cons_zero]
            refine wpAnyH_take (i := 20) (v := .int .u64 (delay : Int)) rfl (by kernel_rfl) (by kernel_rfl) (by kernel_rfl) (by first | exact fun _ _ _ h => h | exact fun _ _ _ h => nomatch h.1) (Or.inl ⟨by rfl, fun w_ hw_ => by go_simp⟩) hz ?_
            try simp only [Act.put, List.setIfInBounds_toArray, List.set_cons_zero, List.set_cons_succ, List.getElem_toArray, List.getElem_cons_succ, List.getElem_cons_zero]
            refine wpAnyH_take (i := 22) (v := .int .u64 (now : Int)) rfl (by kernel_rfl) (by kernel_rfl) (by kernel_rfl) (by first | exact fun _ _ _ h => h | exact fun _ _ _ h => nomatch h.1) (Or.inl ⟨by rfl, fun w_ hw_ => by go_simp⟩) hz ?_
            try simp only [Act.put, List.setIfInBounds_toArray, List.set_cons_zero, List.set_cons_succ, List.getElem_toArray, List.getElem_cons_succ, List.getElem_cons_zero]
            refine wpAnyH_ready (rs := [21]) (by kernel_rfl) (by simp) ?_
            refine AllReadyH.cons rfl (fun K hK => ?_) AllReadyH.nil
            rw [if_pos (by rfl)]
            try simp only [List.getElem_toArray, List.getElem_cons_succ, List.getElem_cons_zero]
            go_simp
            refine ((HTX.out _)).mono ?_
            rintro e y1 ⟨rfl, rfl⟩
            refine hK.out _ _ (hz) (fun _ => ?_)
            clear hK K
            try simp only [Act.put, List.setIfInBounds_toArray, List.set_cons_zero, List.set_cons_succ, List.getElem_toArray, List.getElem_cons_succ, List.getElem_cons_zero]
            refine wpAnyH_take (i := 23) (v := .bool true) rfl (by kernel_rfl) (by kernel_rfl) (by kernel_rfl) (by first | exact fun _ _ _ h => h | exact fun _ _ _ h => nomatch h.1) (Or.inl ⟨by rfl, fun w_ hw_ => by have q1_ := HDA.out; have q2_ := HDN.out; go_simp; try exact q2_⟩) hz ?_
            try simp only [Act.put, List.setIfInBounds_toArray, List.set_cons_zero, List.set_cons_succ, List.getElem_toArray, List.getElem_cons_succ, List.getElem_cons_zero]
            refine wpAnyH_take (i := 24) (v := .bool true) rfl (by kernel_rfl) (by kernel_rfl) (by kernel_rfl) (by first | exact fun _ _ _ h => h | exact fun _ _ _ h => nomatch h.1) (Or.inl ⟨by rfl, fun w_ hw_ => by go_simp⟩) hz ?_
            try simp only [Act.put, List.setIfInBounds_toArray, List.set_cons_zero, List.set_cons_succ, List.getElem_toArray, List.getElem_cons_succ, List.getElem_cons_zero]
            refine wpAnyH_take (i := 25) (v := .bool true) rfl (by kernel_rfl) (by kernel_rfl) (by kernel_rfl) (by first | exact fun _ _ _ h => h | exact fun _ _ _ h => nomatch h.1) (Or.inl ⟨by rfl, fun w_ hw_ => by go_simp⟩) hz ?_
            try simp only [Act.put, List.setIfInBounds_toArray, List.set_cons_zero, List.set_cons_succ, List.getElem_toArray, List.getElem_cons_succ, List.getElem_cons_zero]
            refine wpAnyH_done (by kernel_rfl) ?_ _
            have HR6_ := HR5.out.chg hz (fun h => h)
            obtain ⟨w6, hw6⟩ : ∃ w6, w6 = w5.drew := ⟨_, rfl⟩
            rw [← hw6] at hz HR6_ ⊢
            have HR6 := Lib.hid HR6_
            have HC6 := Lib.hid (HC5.out.trans hz)
            clear hz HR6_ hw6
            go_wp2_with (first | ((with_reducible show wpList _ _ _ (⟨some 54, .load _ _, _, _, _, _⟩ :: _) _ _); refine wpList_load_Row rfl rfl rfl HR6.out Try.underlying32 rfl sizeS ?_) | ((with_reducible show wpList _ _ _ (⟨some 55, _, _, _, _, _⟩ :: _) _ _); refine wpList_newN (f := fun g => .slice (some ⟨g, 0, none⟩) 1 1) (e := 32) (cs := itc x) rfl (fun w_ => by have := run_sliceS x w_; simp [execOp, Act.eval, Act.put, this]) ?_; intro w7 hr7 hc7 hs7; have HR7 := Lib.hid hr7; have HC7 := Lib.hid (HC6.out.trans hc7); clear hr7 hc7 hs7) | ((with_reducible show wpList _ _ _ (⟨some 56, _, _, _, _, _⟩ :: _) _ _); refine wpList_append_N rfl (c := itc) (e := 32) (s := 5) (base := w.heap.size) (v := gv) (L := ((m.take k).filter (fun x => lostB x.num x.at_ ((acked : Int) - 1) delay now))) (M := [x]) (T := fun b => b = w6.heap.size) (A := some ⟨w6.heap.size, 0, none⟩) (m := 1) (cp := 1) (i := i5) (z := .agg (itc it0).toArray) _ _ 33 rfl Try.underlying33 hi5 rfl (by decide) itc_one itc_len rfl (HGV.out.chg HC7.out (fun _ _ h => h)) rfl (viewS HR7.out) HLE.out.1 (HC.out.trans HC7.out).size ?_; intro v8 w8 o8 c8 n8; have HO8 : Hid (OwnS w8 w.heap.size v8 (((m.take k).filter (fun x => lostB x.num x.at_ ((acked : Int) - 1) delay now)) ++ [x])) := Lib.hid o8; have HC8 := Lib.hid c8; have HN8 := Lib.hid n8; clear o8 c8 n8))
            go_roundw
            case rel =>
              have hcw : Chg none_ w w8 := (HC.out.trans HC7.out).andThen HC8.out (fun b hb e => by have := (HGV.out.lt e).1; omega)
              have hot : OwnS w8 w.heap.size lv ((m.take k).filter (fun x => !lostB x.num x.at_ ((acked : Int) - 1) delay now)) := (HLV2.out.chg HC7.out (fun _ _ h => h)).chg HC8.out (fun b e h => HDJ.out b h e)
              have hown : OwnS w8 w.heap.size v8 (((m.take k).filter (fun x => lostB x.num x.at_ ((acked : Int) - 1) delay now)) ++ [x]) := HO8.out
              refine ⟨k + 1, v8, lv, by go_num, rfl, rfl, by omega, Lib.hid hcw, Lib.hid ?_, Lib.hid ?_, Lib.hid (fun b e1 e2 => ?_)⟩
              · rw [HTK.out, List.filter_append, List.filter_cons_of_pos (by simp [HQ.out]), List.filter_nil]; exact hown
              · rw [HTK.out, List.filter_append, List.filter_cons_of_neg (by simp [HQ.out]), List.filter_nil, List.append_nil]; exact hot
              · rcases HN8.out b e1 with h | h
                · exact HDJ.out b h e2
                · have h1 := (HLV2.out.lt e2).2; have h2 := HC7.out.size; omega
            case measure => simp [intOf]; omega
          · have HDA : Hid (decide (((addN x.at_ delay : Nat) : Int) ≤ (now : Int)) = false) := Lib.hid (by simpa using h3)
            have HDN : Hid (decide (addN x.at_ delay ≤ now) = false) := Lib.hid (by simpa using h3)
            have HQ : Hid (lostB x.num x.at_ ((acked : Int) - 1) delay now = false) := Lib.hid (by unfold lostB; rw [p1', p2', decide_eq_false h3]; rfl)
            clear h1 h2 h3 hx0 hxb p1' p2'
            go_wp2_with (first | ((with_reducible show wpList _ _ _ (⟨some 26, .load _ _, _, _, _, _⟩ :: _) _ _); refine wpList_load_Mid (cs := itc x) rfl rfl rfl HRX.out Try.underlying32 rfl sizeS ?_) | ((with_reducible show wpList _ _ _ (⟨some 10, .alloc _, _, _, _, _⟩ :: _) _ _); refine wpList_alloc_Row rfl rfl (itc it0) zeroS ?_; intro w4 hr4 hc4 hs4; have HR4 := Lib.hid hr4; have HC4 := Lib.hid hc4; clear hr4 hc4 hs4) | ((with_reducible show wpList _ _ _ (⟨none, .store _ (.tmp 10) _, _, _, _, _⟩ :: _) _ _); refine wpList_store_Row (xs := itc x) rfl rfl rfl HR4.out rfl rfl sizeS (List.all_eq_true.2 (itc_one x)) ?_; intro w5 hr5 hc5 hs5; have HR5 := Lib.hid hr5; have HC5 := Lib.hid (hc5 none_ wr HC4.out (fun h => absurd h (Nat.lt_irrefl _))); clear hr5 hc5 hs5))
            have HX0 : Hid (∀ y, Chg none_ w5 y → y.cell? ⟨wr.heap.size, 0, none⟩ = some (.int .i64 x.num)) := Lib.hid (fun y hy => (HR5.out.chg hy (fun h => h)).cell 0)
            have HX1 : Hid (∀ y, Chg none_ w5 y → y.cell? ⟨wr.heap.size, 1, none⟩ = some (.int .u64 (x.at_ : Int))) := Lib.hid (fun y hy => (HR5.out.chg hy (fun h => h)).cell 1)
            have HA2 : Hid (∀ y, Chg none_ w5 y → y.cell? ⟨r, 2, none⟩ = some (.int .i64 (acked : Int))) := Lib.hid (fun y hy => (HRW.out y ((HC.out.trans HC5.out).trans hy)).cell 2)
            refine wp_region_held_drew (S := fun y => Chg none_ w5 y) (by kernel_rfl) ((Chg.refl none_ w5).drew) (fun hch0 => ?_)
            have hz : Chg none_ w5 w5.drew := (Chg.refl _ w5).drew
            clear hch0
            refine wpAnyH_take (i := 0) (v := .pointer (some ⟨wr.heap.size, 0, none⟩)) rfl (by kernel_rfl) (by kernel_rfl) (by kernel_rfl) (by first | exact fun _ _ _ h => h | exact fun _ _ _ h => nomatch h.1) (Or.inl ⟨by rfl, fun w_ hw_ => by go_simp⟩) hz ?_
            try simp only [Act.put, List.setIfInBounds_toArray, List.set_cons_zero, List.set_cons_succ, List.getElem_toArray, List.getElem_cons_zero]
            refine wpAnyH_take (i := 1) (v := .int .i64 x.num) rfl (by kernel_rfl) (by kernel_rfl) (by kernel_rfl) (by first | exact fun _ _ _ h => h | exact fun _ _ _ h => nomatch h.1) (Or.inl ⟨by rfl, fun w_ hw_ => by have q1_ := HX0.out w_ hw_; go_simp⟩) hz ?_
            try simp only [Act.put, List.setIfInBounds_toArray, List.set_cons_zero, List.set_cons_succ, List.getElem_toArray, List.getElem_cons_succ, List.getElem_cons_zero]
            refine wpAnyH_take (i := 2) (v := .int .i64 (x.num + 1)) rfl (by kernel_rfl) (by kernel_rfl) (by kernel_rfl) (by first | exact fun _ _ _ h => h | exact fun _ _ _ h => nomatch h.1) (Or.inl ⟨by rfl, fun w_ hw_ => by have q1_ := HW1.out; go_simp⟩) hz ?_
            try simp only [Act.put, List.setIfInBounds_toArray, List.set_cons_zero, List.set_cons_succ, List.getElem_toArray, List.getElem_cons_succ, List.getElem_cons_zero]
            refine wpAnyH_take (i := 3) (v := .pointer (some ⟨r, 0, none⟩)) rfl (by kernel_rfl) (by kernel_rfl) (by kernel_rfl) (by first | exact fun _ _ _ h => h | exact fun _ _ _ h => nomatch h.1) (Or.inl ⟨by rfl, fun w_ hw_ => by go_simp⟩) hz ?_
            try simp only [Act.put, List.setIfInBounds_toArray, List.set_cons_zero, List.set_cons_succ, List.getElem_toArray, List.getElem_cons_succ, List.getElem_cons_zero]
            refine wpAnyH_take (i := 4) (v := .pointer (some ⟨r, 0, none⟩)) rfl (by kernel_rfl) (by kernel_rfl) (by kernel_rfl) (by first | exact fun _ _ _ h => h | exact fun _ _ _ h => nomatch h.1) (Or.inl ⟨by rfl, fun w_ hw_ => by go_simp⟩) hz ?_
            try simp only [Act.put, List.setIfInBounds_toArray, List.set_cons_zero, List.set_cons_succ, List.getElem_toArray, List.getElem_cons_succ, List.getElem_cons_zero]
            refine wpAnyH_take (i := 5) (v := .pointer (some ⟨r, 2, none⟩)) rfl (by kernel_rfl) (by kernel_rfl) (by kernel_rfl) (by first | exact fun _ _ _ h => h | exact fun _ _ _ h => nomatch h.1) (Or.inl ⟨by rfl, fun w_ hw_ => by go_simp⟩) hz ?_
            try simp only [Act.put, List.setIfInBounds_toArray, List.set_cons_zero, List.set_cons_succ, List.getElem_toArray, List.getElem_cons_succ, List.getElem_cons_zero]
            refine wpAnyH_take (i := 6) (v := .int .i64 (acked : Int)) rfl (by kernel_rfl) (by kernel_rfl) (by kernel_rfl) (by first | exact fun _ _ _ h => h | exact fun _ _ _ h => nomatch h.1) (Or.inl ⟨by rfl, fun w_ hw_ => by have q1_ := HA2.out w_ hw_; go_simp⟩) hz ?_
            try simp only [Act.put, List.setIfInBounds_toArray, List.set_cons_zero, List.set_cons_succ, List.getElem_toArray, List.getElem_cons_succ, List.getElem_cons_zero]
            refine wpAnyH_take (i := 7) (v := .bool true) rfl (by kernel_rfl) (by kernel_rfl) (by kernel_rfl) (by first | exact fun _ _ _ h => h | exact fun _ _ _ h => nomatch h.1) (Or.inl ⟨by rfl, fun w_ hw_ => by go_simp⟩) hz ?_
            try simp only [Act.put, List.setIfInBounds_toArray, List.set_cons_zero, List.set_cons_succ, List.getElem_toArray, List.getElem_cons_succ, List.getElem_cons_zero]
            refine wpAnyH_take (i := 8) (v := .bool true) rfl (by kernel_rfl) (by kernel_rfl) (by kernel_rfl) (by first | exact fun _ _ _ h => h | exact fun _ _ _ h => nomatch h.1) (Or.inl ⟨by rfl, fun w_ hw_ => by go_simp⟩) hz ?_
            try simp only [Act.put, List.setIfInBounds_toArray, List.set_cons_zero, List.set_cons_succ, List.getElem_toArray, List.getElem_cons_succ, List.getElem_cons_zero]
            refine wpAnyH_take (i := 9) (v := .pointer (some ⟨wr.heap.size, 0, none⟩)) rfl (by kernel_rfl) (by kernel_rfl) (by kernel_rfl) (by first | exact fun _ _ _ h => h | exact fun _ _ _ h => nomatch h.1) (Or.inl ⟨by rfl, fun w_ hw_ => by go_simp⟩) hz ?_
            try simp only [Act.put, List.setIfInBounds_toArray, List.set_cons_zero, List.set_cons_succ, List.getElem_toArray, List.getElem_cons_succ, List.getElem_cons_zero]
            refine wpAnyH_take (i := 10) (v := .int .i64 x.num) rfl (by kernel_rfl) (by kernel_rfl) (by kernel_rfl) (by first | exact fun _ _ _ h => h | exact fun _ _ _ h => nomatch h.1) (Or.inl ⟨by rfl, fun w_ hw_ => by have q1_ := HX0.out w_ hw_; go_simp⟩) hz ?_
            try simp only [Act.put, List.setIfInBounds_toArray, List.set_cons_zero, List.set_cons_succ, List.getElem_toArray, List.getElem_cons_succ, List.getElem_cons_zero]
            refine wpAnyH_take (i := 11) (v := .int .i64 (x.num + 4)) rfl (by kernel_rfl) (by kernel_rfl) (by kernel_rfl) (by first | exact fun _ _ _ h => h | exact fun _ _ _ h => nomatch h.1) (Or.inl ⟨by rfl, fun w_ hw_ => by have q1_ := HW4.out; go_simp⟩) hz ?_
            try simp only [Act.put, List.setIfInBounds_toArray, List.set_cons_zero, List.set_cons_succ, List.getElem_toArray, List.getElem_cons_succ, List.getElem_cons_zero]
            refine wpAnyH_take (i := 12) (v := .pointer (some ⟨r, 0, none⟩)) rfl (by kernel_rfl) (by kernel_rfl) (by kernel_rfl) (by first | exact fun _ _ _ h => h | exact fun _ _ _ h => nomatch h.1) (Or.inl ⟨by rfl, fun w_ hw_ => by go_simp⟩) hz ?_
            try simp only [Act.put, List.setIfInBounds_toArray, List.set_cons_zero, List.set_cons_succ, List.getElem_toArray, List.getElem_cons_succ, List.getElem_cons_zero]
            refine wpAnyH_take (i := 13) (v := .pointer (some ⟨r, 0, none⟩)) rfl (by kernel_rfl) (by kernel_rfl) (by kernel_rfl) (by first | exact fun _ _ _ h => h | exact fun _ _ _ h => nomatch h.1) (Or.inl ⟨by rfl, fun w_ hw_ => by go_simp⟩) hz ?_
            try simp only [Act.put, List.setIfInBounds_toArray, List.set_cons_zero, List.set_cons_succ, List.getElem_toArray, List.getElem_cons_succ, List.getElem_cons_zero]
            refine wpAnyH_take (i := 14) (v := .pointer (some ⟨r, 2, none⟩)) rfl (by kernel_rfl) (by kernel_rfl) (by kernel_rfl) (by first | exact fun _ _ _ h => h | exact fun _ _ _ h => nomatch h.1) (Or.inl ⟨by rfl, fun w_ hw_ => by go_simp⟩) hz ?_
            try simp only [Act.put, List.setIfInBounds_toArray, List.set_cons_zero, List.set_cons_succ, List.getElem_toArray, List.getElem_cons_succ, List.getElem_cons_zero]
            refine wpAnyH_take (i := 15) (v := .int .i64 (acked : Int)) rfl (by kernel_rfl) (by kernel_rfl) (by kernel_rfl) (by first | exact fun _ _ _ h => h | exact fun _ _ _ h => nomatch h.1) (Or.inl ⟨by rfl, fun w_ hw_ => by have q1_ := HA2.out w_ hw_; go_simp⟩) hz ?_
            try simp only [Act.put, List.setIfInBounds_toArray, List.set_cons_zero, List.set_cons_succ, List.getElem_toArray, List.getElem_cons_succ, List.getElem_cons_zero]
            refine wpAnyH_take (i := 16) (v := .bool false) rfl (by kernel_rfl) (by kernel_rfl) (by kernel_rfl) (by first | exact fun _ _ _ h => h | exact fun _ _ _ h => nomatch h.1) (Or.inl ⟨by rfl, fun w_ hw_ => by go_simp⟩) hz ?_
            try simp only [Act.put, List.setIfInBounds_toArray, List.set_cons_zero, List.set_cons_succ, List.getElem_toArray, List.getElem_cons_succ, List.getElem_cons_zero]
            refine wpAnyH_take (i := 17) (v := .bool false) rfl (by kernel_rfl) (by kernel_rfl) (by kernel_rfl) (by first | exact fun _ _ _ h => h | exact fun _ _ _ h => nomatch h.1) (Or.inl ⟨by rfl, fun w_ hw_ => by go_simp⟩) hz ?_
            try simp only [Act.put, List.setIfInBounds_toArray, List.set_cons_zero, List.set_cons_succ, List.getElem_toArray, List.getElem_cons_succ, List.getElem_cons_zero]
            refine wpAnyH_take (i := 18) (v := .pointer (some ⟨wr.heap.size, 1, none⟩)) rfl (by kernel_rfl) (by kernel_rfl) (by kernel_rfl) (by first | exact fun _ _ _ h => h | exact fun _ _ _ h => nomatch h.1) (Or.inl ⟨by rfl, fun w_ hw_ => by go_simp⟩) hz ?_
            try simp only [Act.put, List.setIfInBounds_toArray, List.set_cons_zero, List.set_cons_succ, List.getElem_toArray, List.getElem_cons_succ, List.getElem_cons_zero]
            refine wpAnyH_take (i := 19) (v := .int .u64 (x.at_ : Int)) rfl (by kernel_rfl) (by kernel_rfl) (by kernel_rfl) (by first | exact fun _ _ _ h => h | exact fun _ _ _ h => nomatch h.1) (Or.inl ⟨by rfl, fun w_ hw_ => by have q1_ := HX1.out w_ hw_; go_simp⟩) hz ?_
            try simp only [Act.put, List.setIfInBounds_toArray, List.set_cons_zero, List.set_cons_succ, List.getElem_toArray, List.getElem_cons_succ, List.getElem_cons_zero]
            refine wpAnyH_take (i := 20) (v := .int .u64 (delay : Int)) rfl (by kernel_rfl) (by kernel_rfl) (by kernel_rfl) (by first | exact fun _ _ _ h => h | exact fun _ _ _ h => nomatch h.1) (Or.inl ⟨by rfl, fun w_ hw_ => by go_simp⟩) hz ?_
            try simp only [Act.put, List.setIfInBounds_toArray, List.set_cons_zero, List.set_cons_succ, List.getElem_toArray, List.getElem_cons_succ, List.getElem_cons_zero]
            refine wpAnyH_take (i := 22) (v := .int .u64 (now : Int)) rfl (by kernel_rfl) (by kernel_rfl) (by kernel_rfl) (by first | exact fun _ _ _ h => h | exact fun _ _ _ h => nomatch h.1) (Or.inl ⟨by rfl, fun w_ hw_ => by go_simp⟩) hz ?_
            try simp only [Act.put, List.setIfInBounds_toArray, List.set_cons_zero, List.set_cons_succ, List.getElem_toArray, List.getElem_cons_succ, List.getElem_cons_zero]
            refine wpAnyH_ready (rs := [21]) (by kernel_rfl) (by simp) ?_
            refine AllReadyH.cons rfl (fun K hK => ?_) AllReadyH.nil
            rw [if_pos (by rfl)]
            try simp only [List.getElem_toArray, List.getElem_cons_succ, List.getElem_cons_zero]
            go_simp
            refine ((HTX.out _)).mono ?_
            rintro e y1 ⟨rfl, rfl⟩
            refine hK.out _ _ (hz) (fun _ => ?_)
            clear hK K
            try simp only [Act.put, List.setIfInBounds_toArray, List.set_cons_zero, List.set_cons_succ, List.getElem_toArray, List.getElem_cons_succ, List.getElem_cons_zero]
            refine wpAnyH_take (i := 23) (v := .bool false) rfl (by kernel_rfl) (by kernel_rfl) (by kernel_rfl) (by first | exact fun _ _ _ h => h | exact fun _ _ _ h => nomatch h.1) (Or.inl ⟨by rfl, fun w_ hw_ => by have q1_ := HDA.out; have q2_ := HDN.out; go_simp; try exact q2_⟩) hz ?_
            try simp only [Act.put, List.setIfInBounds_toArray, List.set_cons_zero, List.set_cons_succ, List.getElem_toArray, List.getElem_cons_succ, List.getElem_cons_zero]
            refine wpAnyH_take (i := 24) (v := .bool false) rfl (by kernel_rfl) (by kernel_rfl) (by kernel_rfl) (by first | exact fun _ _ _ h => h | exact fun _ _ _ h => nomatch h.1) (Or.inl ⟨by rfl, fun w_ hw_ => by go_simp⟩) hz ?_
            try simp only [Act.put, List.setIfInBounds_toArray, List.set_cons_zero, List.set_cons_succ, List.getElem_toArray, List.getElem_cons_succ, List.getElem_cons_zero]
            refine wpAnyH_take (i := 25) (v := .bool false) rfl (by kernel_rfl) (by kernel_rfl) (by kernel_rfl) (by first | exact fun _ _ _ h => h | exact fun _ _ _ h => nomatch h.1) (Or.inl ⟨by rfl, fun w_ hw_ => by go_simp⟩) hz ?_
            try simp only [Act.put, List.setIfInBounds_toArray, List.set_cons_zero, List.set_cons_succ, List.getElem_toArray, List.getElem_cons_succ, List.getElem_cons_zero]
            refine wpAnyH_done (by kernel_rfl) ?_ _
            have HR6_ := HR5.out.chg hz (fun h => h)
            obtain ⟨w6, hw6⟩ : ∃ w6, w6 = w5.drew := ⟨_, rfl⟩
            rw [← hw6] at hz HR6_ ⊢
            have HR6 := Lib.hid HR6_
            have HC6 := Lib.hid (HC5.out.trans hz)
            clear hz HR6_ hw6
            go_wp2_with (first | ((with_reducible show wpList _ _ _ (⟨some 58, .load _ _, _, _, _, _⟩ :: _) _ _); refine wpList_load_Row rfl rfl rfl HR6.out Try.underlying32 rfl sizeS ?_) | ((with_reducible show wpList _ _ _ (⟨some 59, _, _, _, _, _⟩ :: _) _ _); refine wpList_newN (f := fun g => .slice (some ⟨g, 0, none⟩) 1 1) (e := 32) (cs := itc x) rfl (fun w_ => by have := run_sliceS x w_; simp [execOp, Act.eval, Act.put, this]) ?_; intro w7 hr7 hc7 hs7; have HR7 := Lib.hid hr7; have HC7 := Lib.hid (HC6.out.trans hc7); clear hr7 hc7 hs7) | ((with_reducible show wpList _ _ _ (⟨some 60, _, _, _, _, _⟩ :: _) _ _); refine wpList_append_N rfl (c := itc) (e := 32) (s := 5) (base := w.heap.size) (v := lv) (L := ((m.take k).filter (fun x => !lostB x.num x.at_ ((acked : Int) - 1) delay now))) (M := [x]) (T := fun b => b = w6.heap.size) (A := some ⟨w6.heap.size, 0, none⟩) (m := 1) (cp := 1) (i := i5) (z := .agg (itc it0).toArray) _ _ 33 rfl Try.underlying33 hi5 rfl (by decide) itc_one itc_len rfl (HLV2.out.chg HC7.out (fun _ _ h => h)) rfl (viewS HR7.out) HLE.out.2 (HC.out.trans HC7.out).size ?_; intro v8 w8 o8 c8 n8; have HO8 : Hid (OwnS w8 w.heap.size v8 (((m.take k).filter (fun x => !lostB x.num x.at_ ((acked : Int) - 1) delay now)) ++ [x])) := Lib.hid o8; have HC8 := Lib.hid c8; have HN8 := Lib.hid n8; clear o8 c8 n8))
            go_roundw
            case rel =>
              have hcw : Chg none_ w w8 := (HC.out.trans HC7.out).andThen HC8.out (fun b hb e => by have := (HLV2.out.lt e).1; omega)
              have hot : OwnS w8 w.heap.size gv ((m.take k).filter (fun x => lostB x.num x.at_ ((acked : Int) - 1) delay now)) := (HGV.out.chg HC7.out (fun _ _ h => h)).chg HC8.out (fun b e h => HDJ.out b e h)
              have hown : OwnS w8 w.heap.size v8 (((m.take k).filter (fun x => !lostB x.num x.at_ ((acked : Int) - 1) delay now)) ++ [x]) := HO8.out
              refine ⟨k + 1, gv, v8, by go_num, rfl, rfl, by omega, Lib.hid hcw, Lib.hid ?_, Lib.hid ?_, Lib.hid (fun b e1 e2 => ?_)⟩
              · rw [HTK.out, List.filter_append, List.filter_cons_of_neg (by simp [HQ.out]), List.filter_nil, List.append_nil]; exact hot
              · rw [HTK.out, List.filter_append, List.filter_cons_of_pos (by simp [HQ.out]), List.filter_nil]; exact hown
              · rcases HN8.out b e2 with h | h
                · exact HDJ.out b e1 h
                · have h1 := (HGV.out.lt e1).2; have h2 := HC7.out.size; omega
            case measure => simp [intOf]; omega
      · have p1 : decide (x.num + 1 < (acked : Int)) = false := by simpa using h1
        have HQ : Hid (lostB x.num x.at_ ((acked : Int) - 1) delay now = false) := Lib.hid (by unfold lostB; rw [show decide (x.num < (acked : Int) - 1) = false by simp; omega]; rfl)
        clear h1 hx0 hxb
        go_wp2_with (first | ((with_reducible show wpList _ _ _ (⟨some 26, .load _ _, _, _, _, _⟩ :: _) _ _); refine wpList_load_Mid (cs := itc x) rfl rfl rfl HRX.out Try.underlying32 rfl sizeS ?_) | ((with_reducible show wpList _ _ _ (⟨some 10, .alloc _, _, _, _, _⟩ :: _) _ _); refine wpList_alloc_Row rfl rfl (itc it0) zeroS ?_; intro w4 hr4 hc4 hs4; have HR4 := Lib.hid hr4; have HC4 := Lib.hid hc4; clear hr4 hc4 hs4) | ((with_reducible show wpList _ _ _ (⟨none, .store _ (.tmp 10) _, _, _, _, _⟩ :: _) _ _); refine wpList_store_Row (xs := itc x) rfl rfl rfl HR4.out rfl rfl sizeS (List.all_eq_true.2 (itc_one x)) ?_; intro w5 hr5 hc5 hs5; have HR5 := Lib.hid hr5; have HC5 := Lib.hid (hc5 none_ wr HC4.out (fun h => absurd h (Nat.lt_irrefl _))); clear hr5 hc5 hs5))
        have HX0 : Hid (∀ y, Chg none_ w5 y → y.cell? ⟨wr.heap.size, 0, none⟩ = some (.int .i64 x.num)) := Lib.hid (fun y hy => (HR5.out.chg hy (fun h => h)).cell 0)
        have HX1 : Hid (∀ y, Chg none_ w5 y → y.cell? ⟨wr.heap.size, 1, none⟩ = some (.int .u64 (x.at_ : Int))) := Lib.hid (fun y hy => (HR5.out.chg hy (fun h => h)).cell 1)
        have HA2 : Hid (∀ y, Chg none_ w5 y → y.cell? ⟨r, 2, none⟩ = some (.int .i64 (acked : Int))) := Lib.hid (fun y hy => (HRW.out y ((HC.out.trans HC5.out).trans hy)).cell 2)
        refine wp_region_held_drew (S := fun y => Chg none_ w5 y) (by kernel_rfl) ((Chg.refl none_ w5).drew) (fun hch0 => ?_)
        have hz : Chg none_ w5 w5.drew := (Chg.refl _ w5).drew
        clear hch0
        refine wpAnyH_take (i := 0) (v := .pointer (some ⟨wr.heap.size, 0, none⟩)) rfl (by kernel_rfl) (by kernel_rfl) (by kernel_rfl) (by first | exact fun _ _ _ h => h | exact fun _ _ _ h => nomatch h.1) (Or.inl ⟨by rfl, fun w_ hw_ => by go_simp⟩) hz ?_
        try simp only [Act.put, List.setIfInBounds_toArray, List.set_cons_zero, List.set_cons_succ, List.getElem_toArray, List.getElem_cons_zero]
        refine wpAnyH_take (i := 1) (v := .int .i64 x.num) rfl (by kernel_rfl) (by kernel_rfl) (by kernel_rfl) (by first | exact fun _ _ _ h => h | exact fun _ _ _ h => nomatch h.1) (Or.inl ⟨by rfl, fun w_ hw_ => by have q1_ := HX0.out w_ hw_; go_simp⟩) hz ?_
        try simp only [Act.put, List.setIfInBounds_toArray, List.set_cons_zero, List.set_cons_succ, List.getElem_toArray, List.getElem_cons_succ, List.getElem_cons_zero]
        refine wpAnyH_take (i := 2) (v := .int .i64 (x.num + 1)) rfl (by kernel_rfl) (by kernel_rfl) (by kernel_rfl) (by first | exact fun _ _ _ h => h | exact fun _ _ _ h => nomatch h.1) (Or.inl ⟨by rfl, fun w_ hw_ => by have q1_ := HW1.out; go_simp⟩) hz ?_
        try simp only [Act.put, List.setIfInBounds_toArray, List.set_cons_zero, List.set_cons_succ, List.getElem_toArray, List.getElem_cons_succ, List.getElem_cons_zero]
        refine wpAnyH_take (i := 3) (v := .pointer (some ⟨r, 0, none⟩)) rfl (by kernel_rfl) (by kernel_rfl) (by kernel_rfl) (by first | exact fun _ _ _ h => h | exact fun _ _ _ h => nomatch h.1) (Or.inl ⟨by rfl, fun w_ hw_ => by go_simp⟩) hz ?_
        try simp only [Act.put, List.setIfInBounds_toArray, List.set_cons_zero, List.set_cons_succ, List.getElem_toArray, List.getElem_cons_succ, List.getElem_cons_zero]
        refine wpAnyH_take (i := 4) (v := .pointer (some ⟨r, 0, none⟩)) rfl (by kernel_rfl) (by kernel_rfl) (by kernel_rfl) (by first | exact fun _ _ _ h => h | exact fun _ _ _ h => nomatch h.1) (Or.inl ⟨by rfl, fun w_ hw_ => by go_simp⟩) hz ?_
        try simp only [Act.put, List.setIfInBounds_toArray, List.set_cons_zero, List.set_cons_succ, List.getElem_toArray, List.getElem_cons_succ, List.getElem_cons_zero]
        refine wpAnyH_take (i := 5) (v := .pointer (some ⟨r, 2, none⟩)) rfl (by kernel_rfl) (by kernel_rfl) (by kernel_rfl) (by first | exact fun _ _ _ h => h | exact fun _ _ _ h => nomatch h.1) (Or.inl ⟨by rfl, fun w_ hw_ => by go_simp⟩) hz ?_
        try simp only [Act.put, List.setIfInBounds_toArray, List.set_cons_zero, List.set_cons_succ, List.getElem_toArray, List.getElem_cons_succ, List.getElem_cons_zero]
        refine wpAnyH_take (i := 6) (v := .int .i64 (acked : Int)) rfl (by kernel_rfl) (by kernel_rfl) (by kernel_rfl) (by first | exact fun _ _ _ h => h | exact fun _ _ _ h => nomatch h.1) (Or.inl ⟨by rfl, fun w_ hw_ => by have q1_ := HA2.out w_ hw_; go_simp⟩) hz ?_
        try simp only [Act.put, List.setIfInBounds_toArray, List.set_cons_zero, List.set_cons_succ, List.getElem_toArray, List.getElem_cons_succ, List.getElem_cons_zero]
        refine wpAnyH_take (i := 7) (v := .bool false) rfl (by kernel_rfl) (by kernel_rfl) (by kernel_rfl) (by first | exact fun _ _ _ h => h | exact fun _ _ _ h => nomatch h.1) (Or.inl ⟨by rfl, fun w_ hw_ => by go_simp⟩) hz ?_
        try simp only [Act.put, List.setIfInBounds_toArray, List.set_cons_zero, List.set_cons_succ, List.getElem_toArray, List.getElem_cons_succ, List.getElem_cons_zero]
        refine wpAnyH_take (i := 8) (v := .bool false) rfl (by kernel_rfl) (by kernel_rfl) (by kernel_rfl) (by first | exact fun _ _ _ h => h | exact fun _ _ _ h => nomatch h.1) (Or.inl ⟨by rfl, fun w_ hw_ => by go_simp⟩) hz ?_
        try simp only [Act.put, List.setIfInBounds_toArray, List.set_cons_zero, List.set_cons_succ, List.getElem_toArray, List.getElem_cons_succ, List.getElem_cons_zero]
        refine wpAnyH_take (i := 9) (v := undef) rfl (by kernel_rfl) (by kernel_rfl) (by kernel_rfl) (by first | exact fun _ _ _ h => h | exact fun _ _ _ h => nomatch h.1) (Or.inr ⟨by rfl, rfl⟩) hz ?_
        try simp only [Act.put, List.setIfInBounds_toArray, List.set_cons_zero, List.set_cons_succ, List.getElem_toArray, List.getElem_cons_succ, List.getElem_cons_zero]
        refine wpAnyH_take (i := 10) (v := undef) rfl (by kernel_rfl) (by kernel_rfl) (by kernel_rfl) (by first | exact fun _ _ _ h => h | exact fun _ _ _ h => nomatch h.1) (Or.inr ⟨by rfl, rfl⟩) hz ?_
        try simp only [Act.put, List.setIfInBounds_toArray, List.set_cons_zero, List.set_cons_succ, List.getElem_toArray, List.getElem_cons_succ, List.getElem_cons_zero]
        refine wpAnyH_take (i := 11) (v := undef) rfl (by kernel_rfl) (by kernel_rfl) (by kernel_rfl) (by first | exact fun _ _ _ h => h | exact fun _ _ _ h => nomatch h.1) (Or.inr ⟨by rfl, rfl⟩) hz ?_
        try simp only [Act.put, List.setIfInBounds_toArray, List.set_cons_zero, List.set_cons_succ, List.getElem_toArray, List.getElem_cons_succ, List.getElem_cons_zero]
        refine wpAnyH_take (i := 12) (v := undef) rfl (by kernel_rfl) (by kernel_rfl) (by kernel_rfl) (by first | exact fun _ _ _ h => h | exact fun _ _ _ h => nomatch h.1) (Or.inr ⟨by rfl, rfl⟩) hz ?_
        try simp only [Act.put, List.setIfInBounds_toArray, List.set_cons_zero, List.set_cons_succ, List.getElem_toArray, List.getElem_cons_succ, List.getElem_cons_zero]
        refine wpAnyH_take (i := 13) (v := undef) rfl (by kernel_rfl) (by kernel_rfl) (by kernel_rfl) (by first | exact fun _ _ _ h => h | exact fun _ _ _ h => nomatch h.1) (Or.inr ⟨by rfl, rfl⟩) hz ?_
        try simp only [Act.put, List.setIfInBounds_toArray, List.set_cons_zero, List.set_cons_succ, List.getElem_toArray, List.getElem_cons_succ, List.getElem_cons_zero]
        refine wpAnyH_take (i := 14) (v := undef) rfl (by kernel_rfl) (by kernel_rfl) (by kernel_rfl) (by first | exact fun _ _ _ h => h | exact fun _ _ _ h => nomatch h.1) (Or.inr ⟨by rfl, rfl⟩) hz ?_
        try simp only [Act.put, List.setIfInBounds_toArray, List.set_cons_zero, List.set_cons_succ, List.getElem_toArray, List.getElem_cons_succ, List.getElem_cons_zero]
        refine wpAnyH_take (i := 15) (v := undef) rfl (by kernel_rfl) (by kernel_rfl) (by kernel_rfl) (by first | exact fun _ _ _ h => h | exact fun _ _ _ h => nomatch h.1) (Or.inr ⟨by rfl, rfl⟩) hz ?_
        try simp only [Act.put, List.setIfInBounds_toArray, List.set_cons_zero, List.set_cons_succ, List.getElem_toArray, List.getElem_cons_succ, List.getElem_cons_zero]
        refine wpAnyH_take (i := 16) (v := undef) rfl (by kernel_rfl) (by kernel_rfl) (by kernel_rfl) (by first | exact fun _ _ _ h => h | exact fun _ _ _ h => nomatch h.1) (Or.inr ⟨by rfl, rfl⟩) hz ?_
        try simp only [Act.put, List.setIfInBounds_toArray, List.set_cons_zero, List.set_cons_succ, List.getElem_toArray, List.getElem_cons_succ, List.getElem_cons_zero]
        refine wpAnyH_take (i := 17) (v := undef) rfl (by kernel_rfl) (by kernel_rfl) (by kernel_rfl) (by first | exact fun _ _ _ h => h | exact fun _ _ _ h => nomatch h.1) (Or.inr ⟨by rfl, rfl⟩) hz ?_
        try simp only [Act.put, List.setIfInBounds_toArray, List.set_cons_zero, List.set_cons_succ, List.getElem_toArray, List.getElem_cons_succ, List.getElem_cons_zero]
        refine wpAnyH_take (i := 18) (v := undef) rfl (by kernel_rfl) (by kernel_rfl) (by kernel_rfl) (by first | exact fun _ _ _ h => h | exact fun _ _ _ h => nomatch h.1) (Or.inr ⟨by rfl, rfl⟩) hz ?_
        try simp only [Act.put, List.setIfInBounds_toArray, List.set_cons_zero, List.set_cons_succ, List.getElem_toArray, List.getElem_cons_succ, List.getElem_cons_zero]
        refine wpAnyH_take (i := 19) (v := undef) rfl (by kernel_rfl) (by kernel_rfl) (by kernel_rfl) (by first | exact fun _ _ _ h => h | exact fun _ _ _ h => nomatch h.1) (Or.inr ⟨by rfl, rfl⟩) hz ?_
        try simp only [Act.put, List.setIfInBounds_toArray, List.set_cons_zero, List.set_cons_succ, List.getElem_toArray, List.getElem_cons_succ, List.getElem_cons_zero]
        refine wpAnyH_take (i := 20) (v := undef) rfl (by kernel_rfl) (by kernel_rfl) (by kernel_rfl) (by first | exact fun _ _ _ h => h | exact fun _ _ _ h => nomatch h.1) (Or.inr ⟨by rfl, rfl⟩) hz ?_
        try simp only [Act.put, List.setIfInBounds_toArray, List.set_cons_zero, List.set_cons_succ, List.getElem_toArray, List.getElem_cons_succ, List.getElem_cons_zero]
        refine wpAnyH_take (i := 21) (v := undef) rfl (by kernel_rfl) (by kernel_rfl) (by kernel_rfl) (by first | exact fun _ _ _ h => h | exact fun _ _ _ h => nomatch h.1) (Or.inr ⟨by rfl, rfl⟩) hz ?_
        try simp only [Act.put, List.setIfInBounds_toArray, List.set_cons_zero, List.set_cons_succ, List.getElem_toArray, List.getElem_cons_succ, List.getElem_cons_zero]
        refine wpAnyH_take (i := 22) (v := undef) rfl (by kernel_rfl) (by kernel_rfl) (by kernel_rfl) (by first | exact fun _ _ _ h => h | exact fun _ _ _ h => nomatch h.1) (Or.inr ⟨by rfl, rfl⟩) hz ?_
        try simp only [Act.put, List.setIfInBounds_toArray, List.set_cons_zero, List.set_cons_succ, List.getElem_toArray, List.getElem_cons_succ, List.getElem_cons_zero]
        refine wpAnyH_take (i := 23) (v := undef) rfl (by kernel_rfl) (by kernel_rfl) (by kernel_rfl) (by first | exact fun _ _ _ h => h | exact fun _ _ _ h => nomatch h.1) (Or.inr ⟨by rfl, rfl⟩) hz ?_
        try simp only [Act.put, List.setIfInBounds_toArray, List.set_cons_zero, List.set_cons_succ, List.getElem_toArray, List.getElem_cons_succ, List.getElem_cons_zero]
        refine wpAnyH_take (i := 24) (v := undef) rfl (by kernel_rfl) (by kernel_rfl) (by kernel_rfl) (by first | exact fun _ _ _ h => h | exact fun _ _ _ h => nomatch h.1) (Or.inr ⟨by rfl, rfl⟩) hz ?_
        try simp only [Act.put, List.setIfInBounds_toArray, List.set_cons_zero, List.set_cons_succ, List.getElem_toArray, List.getElem_cons_succ, List.getElem_cons_zero]
        refine wpAnyH_take (i := 25) (v := .bool false) rfl (by kernel_rfl) (by kernel_rfl) (by kernel_rfl) (by first | exact fun _ _ _ h => h | exact fun _ _ _ h => nomatch h.1) (Or.inl ⟨by rfl, fun w_ hw_ => by go_simp⟩) hz ?_
        try simp only [Act.put, List.setIfInBounds_toArray, List.set_cons_zero, List.set_cons_succ, List.getElem_toArray, List.getElem_cons_succ, List.getElem_cons_zero]
        refine wpAnyH_done (by kernel_rfl) ?_ _
        have HR6_ := HR5.out.chg hz (fun h => h)
        obtain ⟨w6, hw6⟩ : ∃ w6, w6 = w5.drew := ⟨_, rfl⟩
        rw [← hw6] at hz HR6_ ⊢
        have HR6 := Lib.hid HR6_
        have HC6 := Lib.hid (HC5.out.trans hz)
        clear hz HR6_ hw6
        go_wp2_with (first | ((with_reducible show wpList _ _ _ (⟨some 58, .load _ _, _, _, _, _⟩ :: _) _ _); refine wpList_load_Row rfl rfl rfl HR6.out Try.underlying32 rfl sizeS ?_) | ((with_reducible show wpList _ _ _ (⟨some 59, _, _, _, _, _⟩ :: _) _ _); refine wpList_newN (f := fun g => .slice (some ⟨g, 0, none⟩) 1 1) (e := 32) (cs := itc x) rfl (fun w_ => by have := run_sliceS x w_; simp [execOp, Act.eval, Act.put, this]) ?_; intro w7 hr7 hc7 hs7; have HR7 := Lib.hid hr7; have HC7 := Lib.hid (HC6.out.trans hc7); clear hr7 hc7 hs7) | ((with_reducible show wpList _ _ _ (⟨some 60, _, _, _, _, _⟩ :: _) _ _); refine wpList_append_N rfl (c := itc) (e := 32) (s := 5) (base := w.heap.size) (v := lv) (L := ((m.take k).filter (fun x => !lostB x.num x.at_ ((acked : Int) - 1) delay now))) (M := [x]) (T := fun b => b = w6.heap.size) (A := some ⟨w6.heap.size, 0, none⟩) (m := 1) (cp := 1) (i := i5) (z := .agg (itc it0).toArray) _ _ 33 rfl Try.underlying33 hi5 rfl (by decide) itc_one itc_len rfl (HLV2.out.chg HC7.out (fun _ _ h => h)) rfl (viewS HR7.out) HLE.out.2 (HC.out.trans HC7.out).size ?_; intro v8 w8 o8 c8 n8; have HO8 : Hid (OwnS w8 w.heap.size v8 (((m.take k).filter (fun x => !lostB x.num x.at_ ((acked : Int) - 1) delay now)) ++ [x])) := Lib.hid o8; have HC8 := Lib.hid c8; have HN8 := Lib.hid n8; clear o8 c8 n8))
        go_roundw
        case rel =>
          have hcw : Chg none_ w w8 := (HC.out.trans HC7.out).andThen HC8.out (fun b hb e => by have := (HLV2.out.lt e).1; omega)
          have hot : OwnS w8 w.heap.size gv ((m.take k).filter (fun x => lostB x.num x.at_ ((acked : Int) - 1) delay now)) := (HGV.out.chg HC7.out (fun _ _ h => h)).chg HC8.out (fun b e h => HDJ.out b e h)
          have hown : OwnS w8 w.heap.size v8 (((m.take k).filter (fun x => !lostB x.num x.at_ ((acked : Int) - 1) delay now)) ++ [x]) := HO8.out
          refine ⟨k + 1, gv, v8, by go_num, rfl, rfl, by omega, Lib.hid hcw, Lib.hid ?_, Lib.hid ?_, Lib.hid (fun b e1 e2 => ?_)⟩
          · rw [HTK.out, List.filter_append, List.filter_cons_of_neg (by simp [HQ.out]), List.filter_nil, List.append_nil]; exact hot
          · rw [HTK.out, List.filter_append, List.filter_cons_of_pos (by simp [HQ.out]), List.filter_nil]; exact hown
          · rcases HN8.out b e2 with h | h
            · exact HDJ.out b e1 h
            · have h1 := (HGV.out.lt e1).2; have h2 := HC7.out.size; omega
        case measure => simp [intOf]; omega
    · have hke : k = m.length := by omega
      subst hke
      rw [List.take_of_length_le (Nat.le_refl _)] at HGV HLV2
      obtain ⟨AG, cg, rfl, _, _⟩ := shapeS HGV.out
      obtain ⟨AL, cl, rfl, hcl, _⟩ := shapeS HLV2.out
      have HR := Lib.hid (HRW.out wr HC.out)
      have rf0 := HR.out.frozen 0
      have HRW2 := Lib.hid (HR.out.set 0 (.slice AL (m.filter (fun x => !lostB x.num x.at_ ((acked : Int) - 1) delay now)).length cl))
      have HCW := Lib.hid (Chg.setCell (S := (· = r)) (HC.out.mono (fun _ _ h => h.elim)) (p := ⟨r, 0, none⟩) (fun _ => rfl) (.slice AL (m.filter (fun x => !lostB x.num x.at_ ((acked : Int) - 1) delay now)).length cl))
      have HCS := Lib.hid (Chg.setCell (S := (· = r)) (Chg.refl _ wr) (p := ⟨r, 0, none⟩) (fun _ => rfl) (.slice AL (m.filter (fun x => !lostB x.num x.at_ ((acked : Int) - 1) delay now)).length cl))
      clear hlt hk
      go_wp2
      go_ret
      have hgl := HRLT.out
      have hg1 := HGV.out.chg HCS.out (fun b e h => by have := (HGV.out.lt e).1; omega)
      have hl1 := HLV2.out.chg HCS.out (fun b e h => by have := (HLV2.out.lt e).1; omega)
      obtain ⟨A4, c4, e4, h4, _, v4⟩ := hl1.view
      injection e4 with e5 _ e6
      subst e5; subst e6
      refine ⟨AG, cg, AL, cl, rfl, hg1, ⟨HRW2.out, hcl, v4.mono (fun b _ hb => Or.inr (hl1.lt hb).1), fun z hz => ((HH.out.its z (List.mem_filter.1 hz).1).chg HCW.out (fun b hb e => HH.out.nr b hb e)).mono (fun _ _ h => Or.inl h), fun b hb => ?_⟩, HCW.out⟩
      rcases hb with hb | hb
      · exact HH.out.nr b hb
      · intro e; omega
end Go.Proofs.Ytakoeamfmmbdiaa
