/- Layer 4 (header): Peek, by the document's answer. -/
import Derived.Test.YtfecmloaopbogaaDoorV4Peek
import Derived.Test.YtfecmloaopbogaaDoorV4CutMath
import Derived.Deep.RegionHeld3
namespace Go.Proofs.YtfecmloaopbogaaDoor
open Go.RowKit

/-- A byte of what came in. -/
theorem View.byte {w : World} {T : Nat → Prop} {A : Option Addr} {b : List Nat} (hv : View w T A b.length (u8s b)) (i : Nat) (hi : i < b.length) :
    ∃ g o, A = some ⟨g, o, none⟩ ∧ g < w.heap.size ∧ ∀ j, j < b.length → w.cell? ⟨g, o + j, none⟩ = some (.int .u8 ((b.getD j 0 : Nat) : Int)) := by
  obtain ⟨g, o, ha, hgl, _, _⟩ := hv.at_ hi
  refine ⟨g, o, ha, hgl, fun j hj => ?_⟩
  obtain ⟨g', o', ha', _, _, hc⟩ := hv.at_ hj
  rw [ha] at ha'
  injection ha' with ha'
  injection ha' with h1 h2
  subst h1; subst h2
  exact hc

set_option maxRecDepth 100000 in
set_option maxHeartbeats 1000000 in
theorem rpeek_nil (w : World) (T : Nat → Prop) (A : Option Addr) (c : Nat) (b : List Nat) (hv : View w T A b.length (u8s b)) (hm : b.length ≤ 1000000) (hcap : b.length ≤ c) (hq : b.length = 0) :
    Calls Tryd.prog 22 #[.slice A b.length c] w (PeekPost w [] false false) := by
  have hz : ((b.length : Nat) : Int) = 0 := by omega
  rw [hq]
  clear hv hm hq hz hcap
  go_enter Tryd.func22, Tryd.ntmps22
  go_wp2
  all_goals go_ret3
  all_goals exact ⟨none, 0, rfl, View.none_ _ _ _, Nat.zero_le _, Chg.refl _ _⟩

set_option maxRecDepth 100000 in
set_option maxHeartbeats 1000000 in
theorem rpeek_low (w : World) (T : Nat → Prop) (A : Option Addr) (c : Nat) (b : List Nat) (hv : View w T A b.length (u8s b)) (hm : b.length ≤ 1000000) (hcap : b.length ≤ c) (hbt : ∀ i, b.getD i 0 < 256) (h0 : 0 < b.length) (hq : b.getD 0 0 / 64 % 2 = 0) :
    Calls Tryd.prog 22 #[.slice A b.length c] w (PeekPost w [] false false) := by
  obtain ⟨g, o, rfl, hgl, hcell⟩ := hv.byte 0 (by omega)
  have k0 : w.cell? ⟨g, o, none⟩ = some (.int .u8 ((b.getD 0 0 : Nat) : Int)) := hcell 0 (by omega)
  have hx256 := hbt 0
  generalize hx : b.getD 0 0 = x at *
  have hi1 : ((x : Int) / 64 % 2) = 0 := by omega
  have hn0 : ((b.length : Nat) : Int) ≠ 0 := by omega
  generalize b.length = n at *
  clear hcell hv hbt hx
  go_enter Tryd.func22, Tryd.ntmps22
  go_wp2
  all_goals go_ret3
  all_goals exact ⟨none, 0, rfl, View.none_ _ _ _, Nat.zero_le _, Chg.refl _ _⟩

set_option maxRecDepth 100000 in
set_option maxHeartbeats 1000000 in
theorem rpeek_l6 (w : World) (T : Nat → Prop) (A : Option Addr) (c : Nat) (b : List Nat) (hv : View w T A b.length (u8s b)) (hm : b.length ≤ 1000000) (hcap : b.length ≤ c) (hbt : ∀ i, b.getD i 0 < 256) (h0 : 0 < b.length) (h64 : b.getD 0 0 / 64 % 2 = 1) (hl : 128 ≤ b.getD 0 0) (hq : b.length < 6) :
    Calls Tryd.prog 22 #[.slice A b.length c] w (PeekPost w [] false false) := by
  obtain ⟨g, o, rfl, hgl, hcell⟩ := hv.byte 0 (by omega)
  have k0 : w.cell? ⟨g, o, none⟩ = some (.int .u8 ((b.getD 0 0 : Nat) : Int)) := hcell 0 (by omega)
  have hx256 := hbt 0
  generalize hx : b.getD 0 0 = x at *
  have hi1 : ((x : Int) / 64 % 2) = 1 := by omega
  have hn0 : ((b.length : Nat) : Int) ≠ 0 := by omega
  generalize b.length = n at *
  clear hcell hv hbt hx
  go_enter Tryd.func22, Tryd.ntmps22
  go_wp2
  all_goals go_ret3
  all_goals exact ⟨none, 0, rfl, View.none_ _ _ _, Nat.zero_le _, Chg.refl _ _⟩

set_option maxRecDepth 100000 in
set_option maxHeartbeats 1000000 in
theorem rpeek_l20 (w : World) (T : Nat → Prop) (A : Option Addr) (c : Nat) (b : List Nat) (hv : View w T A b.length (u8s b)) (hm : b.length ≤ 1000000) (hcap : b.length ≤ c) (hbt : ∀ i, b.getD i 0 < 256) (h64 : b.getD 0 0 / 64 % 2 = 1) (hl : 128 ≤ b.getD 0 0) (h6 : 6 ≤ b.length) (hq : 20 < b.getD 5 0) :
    Calls Tryd.prog 22 #[.slice A b.length c] w (PeekPost w [] false false) := by
  obtain ⟨g, o, rfl, hgl, hcell⟩ := hv.byte 0 (by omega)
  have k0 : w.cell? ⟨g, o, none⟩ = some (.int .u8 ((b.getD 0 0 : Nat) : Int)) := hcell 0 (by omega)
  have hx256 := hbt 0
  generalize hx : b.getD 0 0 = x at *
  have k5 : w.cell? ⟨g, o + 5, none⟩ = some (.int .u8 ((b.getD 5 0 : Nat) : Int)) := hcell 5 (by omega)
  have hy256 := hbt 5
  generalize hy : b.getD 5 0 = y at *
  have hi1 : ((x : Int) / 64 % 2) = 1 := by omega
  have hn0 : ((b.length : Nat) : Int) ≠ 0 := by omega
  generalize b.length = n at *
  clear hcell hv hbt hx hy
  go_enter Tryd.func22, Tryd.ntmps22
  go_wp2
  all_goals go_ret3
  all_goals exact ⟨none, 0, rfl, View.none_ _ _ _, Nat.zero_le _, Chg.refl _ _⟩

set_option maxRecDepth 100000 in
set_option maxHeartbeats 1000000 in
theorem rpeek_lcut (w : World) (T : Nat → Prop) (A : Option Addr) (c : Nat) (b : List Nat) (hv : View w T A b.length (u8s b)) (hm : b.length ≤ 1000000) (hcap : b.length ≤ c) (hbt : ∀ i, b.getD i 0 < 256) (h64 : b.getD 0 0 / 64 % 2 = 1) (hl : 128 ≤ b.getD 0 0) (h6 : 6 ≤ b.length) (h20 : b.getD 5 0 ≤ 20) (hq : b.length < 6 + b.getD 5 0) :
    Calls Tryd.prog 22 #[.slice A b.length c] w (PeekPost w [] false false) := by
  obtain ⟨g, o, rfl, hgl, hcell⟩ := hv.byte 0 (by omega)
  have k0 : w.cell? ⟨g, o, none⟩ = some (.int .u8 ((b.getD 0 0 : Nat) : Int)) := hcell 0 (by omega)
  have hx256 := hbt 0
  generalize hx : b.getD 0 0 = x at *
  have k5 : w.cell? ⟨g, o + 5, none⟩ = some (.int .u8 ((b.getD 5 0 : Nat) : Int)) := hcell 5 (by omega)
  have hy256 := hbt 5
  generalize hy : b.getD 5 0 = y at *
  have hi1 : ((x : Int) / 64 % 2) = 1 := by omega
  have hn0 : ((b.length : Nat) : Int) ≠ 0 := by omega
  generalize b.length = n at *
  clear hcell hv hbt hx hy
  go_enter Tryd.func22, Tryd.ntmps22
  go_wp2
  all_goals go_ret3
  all_goals exact ⟨none, 0, rfl, View.none_ _ _ _, Nat.zero_le _, Chg.refl _ _⟩

set_option maxRecDepth 100000 in
set_option maxHeartbeats 1000000 in
theorem rpeek_scut (w : World) (T : Nat → Prop) (A : Option Addr) (c : Nat) (b : List Nat) (hv : View w T A b.length (u8s b)) (hm : b.length ≤ 1000000) (hcap : b.length ≤ c) (hbt : ∀ i, b.getD i 0 < 256) (h0 : 0 < b.length) (h64 : b.getD 0 0 / 64 % 2 = 1) (hl : b.getD 0 0 < 128) (hq : b.length < 9) :
    Calls Tryd.prog 22 #[.slice A b.length c] w (PeekPost w [] false false) := by
  obtain ⟨g, o, rfl, hgl, hcell⟩ := hv.byte 0 (by omega)
  have k0 : w.cell? ⟨g, o, none⟩ = some (.int .u8 ((b.getD 0 0 : Nat) : Int)) := hcell 0 (by omega)
  have hx256 := hbt 0
  generalize hx : b.getD 0 0 = x at *
  have hi1 : ((x : Int) / 64 % 2) = 1 := by omega
  have hn0 : ((b.length : Nat) : Int) ≠ 0 := by omega
  generalize b.length = n at *
  clear hcell hv hbt hx
  go_enter Tryd.func22, Tryd.ntmps22
  go_wp2
  all_goals go_ret3
  all_goals exact ⟨none, 0, rfl, View.none_ _ _ _, Nat.zero_le _, Chg.refl _ _⟩

set_option maxRecDepth 100000 in
set_option maxHeartbeats 1000000 in
theorem rpeek_long (w : World) (T : Nat → Prop) (A : Option Addr) (c : Nat) (b : List Nat) (hv : View w T A b.length (u8s b)) (hm : b.length ≤ 1000000) (hcap : b.length ≤ c) (hbt : ∀ i, b.getD i 0 < 256) (h64 : b.getD 0 0 / 64 % 2 = 1) (hl : 128 ≤ b.getD 0 0) (h6 : 6 ≤ b.length) (h20 : b.getD 5 0 ≤ 20) (hq : 6 + b.getD 5 0 ≤ b.length) :
    Calls Tryd.prog 22 #[.slice A b.length c] w (PeekPost w ((b.drop 6).take (b.getD 5 0)) true true) := by
  obtain ⟨g, o, rfl, hgl, hcell⟩ := hv.byte 0 (by omega)
  have k0 : w.cell? ⟨g, o, none⟩ = some (.int .u8 ((b.getD 0 0 : Nat) : Int)) := hcell 0 (by omega)
  have hx256 := hbt 0
  generalize hx : b.getD 0 0 = x at *
  have k5 : w.cell? ⟨g, o + 5, none⟩ = some (.int .u8 ((b.getD 5 0 : Nat) : Int)) := hcell 5 (by omega)
  have hy256 := hbt 5
  generalize hy : b.getD 5 0 = y at *
  have hi1 : ((x : Int) / 64 % 2) = 1 := by omega
  have hn0 : ((b.length : Nat) : Int) ≠ 0 := by omega
  obtain ⟨i0, hi, hz0, hz1, hz2⟩ := info_parts info5
  have HV := Lib.hid ((hv.drop (k := 6)).take (k := y) (by omega))
  have hlen : ((b.drop 6).take y).length = y := by rw [List.length_take, List.length_drop]; omega
  rw [u8s_drop, u8s_take] at HV
  generalize hS : (b.drop 6).take y = L at *
  generalize b.length = n at *
  clear hcell hv hbt hx hy hS
  go_enter Tryd.func22, Tryd.ntmps22
  go_wp2_with fail
  have hch0 : Chg none_ w w.drew := (Chg.refl _ _).drew
  have hcat : (6 : Nat) ≤ c := by omega
  have hci : ((6 + y : Nat) : Int) ≤ (c : Int) := by omega
  have hci2 : (6 : Int) + (y : Int) ≤ (c : Int) := by omega
  have hcl : (6 : Int) ≤ (c : Int) := by omega
  have hw9 : IntKind.i64.wrap ((6 : Int) + (y : Int)) = (6 : Int) + (y : Int) := IntWalk.i64_in _ (by omega)
  have hm1 : (0 : Int) ≤ (6 : Int) + (y : Int) := by omega
  have hm2 : (6 : Int) ≤ max ((6 : Int) + (y : Int)) 0 := by omega
  have hm3 : ((6 : Int) + (y : Int)).toNat - 6 = y := by omega
  have hm4 : ((6 : Int) + (y : Int)) ≤ (c : Int) := by omega
  obtain ⟨P, hP, HVP⟩ : ∃ P : Addr, (if c = 6 then some (⟨g, o, none⟩ : Addr) else some ⟨g, o + 6, none⟩) = some P ∧ Hid (View w T (some P) y (u8s L)) := by
    by_cases hca : c = 6
    · refine ⟨⟨g, o, none⟩, by rw [if_pos hca], ?_⟩
      have h0 : y = 0 := by omega
      have hL0 : L = [] := List.eq_nil_of_length_eq_zero (by omega)
      rw [hL0, h0]
      exact View.none_ _ _ _
    · refine ⟨⟨g, o + 6, none⟩, by rw [if_neg hca], ?_⟩
      have q := HV.out
      rw [Option.map_some, addr_add] at q
      exact q
  refine wp_region_held_drew (S := fun w' => Chg none_ w w') (by kernel_rfl) hch0 (fun _ => ?_)
  refine wpAnyH_take (i := 1) (v := .slice (some ⟨g, o, none⟩) n c) rfl (by kernel_rfl) (by kernel_rfl) (by kernel_rfl) (by first | exact fun _ _ _ h => h | exact fun _ _ _ h => nomatch h.1) (Or.inl ⟨by rfl, fun w' hw' => by go_simp⟩) hch0 ?_
  refine wpAnyH_take (i := 2) (v := .int .i64 6) rfl (by kernel_rfl) (by kernel_rfl) (by kernel_rfl) (by first | exact fun _ _ _ h => h | exact fun _ _ _ h => nomatch h.1) (Or.inl ⟨by rfl, fun w' hw' => by go_simp⟩) hch0 ?_
  refine wpAnyH_take (i := 3) (v := .int .i64 6) rfl (by kernel_rfl) (by kernel_rfl) (by kernel_rfl) (by first | exact fun _ _ _ h => h | exact fun _ _ _ h => nomatch h.1) (Or.inl ⟨by rfl, fun w' hw' => by go_simp⟩) hch0 ?_
  refine wpAnyH_take (i := 4) (v := .int .i64 (y : Nat)) rfl (by kernel_rfl) (by kernel_rfl) (by kernel_rfl) (by first | exact fun _ _ _ h => h | exact fun _ _ _ h => nomatch h.1) (Or.inl ⟨by rfl, fun w' hw' => by go_simp⟩) hch0 ?_
  refine wpAnyH_take (i := 5) (v := .int .i64 ((6 : Int) + (y : Int))) rfl (by kernel_rfl) (by kernel_rfl) (by kernel_rfl) (by first | exact fun _ _ _ h => h | exact fun _ _ _ h => nomatch h.1) (Or.inl ⟨by rfl, fun w' hw' => by go_simp⟩) hch0 ?_
  refine wpAnyH_take (i := 8) (v := .slice (some ⟨g, o, none⟩) n c) rfl (by kernel_rfl) (by kernel_rfl) (by kernel_rfl) (by first | exact fun _ _ _ h => h | exact fun _ _ _ h => nomatch h.1) (Or.inl ⟨by rfl, fun w' hw' => by go_simp⟩) hch0 ?_
  refine wpAnyH_take (i := 9) (v := .pointer (some ⟨g, o, none⟩)) rfl (by kernel_rfl) (by kernel_rfl) (by kernel_rfl) (by first | exact fun _ _ _ h => h | exact fun _ _ _ h => nomatch h.1) (Or.inl ⟨by rfl, fun w' hw' => by go_simp⟩) hch0 ?_
  refine wpAnyH_take (i := 10) (v := .int .u8 (x : Nat)) rfl (by kernel_rfl) (by kernel_rfl) (by kernel_rfl) (by first | exact fun _ _ _ h => h | exact fun _ _ _ h => nomatch h.1) (Or.inl ⟨by rfl, fun w' hw' => by have hh := (hw'.cell o hgl (fun h => h)).trans k0; go_simp⟩) hch0 ?_
  refine wpAnyH_take (i := 11) (v := .bool true) rfl (by kernel_rfl) (by kernel_rfl) (by kernel_rfl) (by first | exact fun _ _ _ h => h | exact fun _ _ _ h => nomatch h.1) (Or.inl ⟨by rfl, fun w' hw' => by go_simp⟩) hch0 ?_
  refine wpAnyH_take (i := 6) (v := .slice (some P) y (c - 6)) rfl (by kernel_rfl) (by kernel_rfl) (by kernel_rfl) (by first | exact fun _ _ _ h => h | exact fun _ _ _ h => nomatch h.1) (Or.inl ⟨by rfl, fun w' hw' => by go_simp⟩) hch0 ?_
  refine wpAnyH_ready (rs := [0]) (by kernel_rfl) (by simp) ?_
  refine AllReadyH.cons rfl (fun K hK => ?_) AllReadyH.nil
  rw [if_pos (by rfl)]
  try simp only [List.getElem_toArray, List.getElem_cons_succ, List.getElem_cons_zero]
  go_simp
  have hchA : Chg none_ w (w.drew.alloc (.cells #[] 5)) := hch0.alloc _
  refine hK.out _ _ hchA (fun _ => ?_)
  clear hK K
  try simp only [Act.put, List.setIfInBounds_toArray, List.set_cons_zero, List.set_cons_succ, List.getElem_toArray, List.getElem_cons_succ, List.getElem_cons_zero]
  refine wpAnyH_ready (rs := [7]) (by kernel_rfl) (by simp) ?_
  refine AllReadyH.cons rfl (fun K hK => ?_) AllReadyH.nil
  rw [if_pos (by rfl)]
  try simp only [List.getElem_toArray, List.getElem_cons_succ, List.getElem_cons_zero]
  refine wp_append_view _ _ 23 rfl 5 i0 _ 1 Tryd.underlying23 hi hz0 hz1 hz2 rfl w.heap.size _ 0 [] rfl (World.ownsRow_lit w.drew #[] 0 (Nat.le_refl _) (Nat.zero_le _) rfl) _ (some P) y _ (u8s L) rfl (HVP.out.chg hchA (fun _ _ h => h)) (u8s_one _) (by unfold maxLen; omega) (by omega) hchA.size ?_
  intro v8 w8 hown8 hgrow8 hob8
  have hchB : Chg none_ w w8 := hchA.append (Nat.le_refl _) (World.ownsRow_lit w.drew #[] 0 (Nat.le_refl _) (Nat.zero_le _) rfl) hgrow8
  rw [Nat.zero_add, List.nil_append] at hown8
  obtain ⟨A8, k8, rfl, _, _, v8⟩ := View.own (T := fun _ => True) hown8 (fun _ _ => trivial)
  refine hK.out _ _ hchB (fun _ => ?_)
  clear hK K
  try simp only [Act.put, List.setIfInBounds_toArray, List.set_cons_zero, List.set_cons_succ]
  refine wpAnyH_take (i := 12) (v := .slice A8 y k8) rfl (by kernel_rfl) (by kernel_rfl) (by kernel_rfl) (by first | exact fun _ _ _ h => h | exact fun _ _ _ h => nomatch h.1) (Or.inl ⟨by rfl, fun w' hw' => by go_simp⟩) hchB ?_
  refine wpAnyH_take (i := 13) (v := .bool true) rfl (by kernel_rfl) (by kernel_rfl) (by kernel_rfl) (by first | exact fun _ _ _ h => h | exact fun _ _ _ h => nomatch h.1) (Or.inl ⟨by rfl, fun w' hw' => by go_simp⟩) hchB ?_
  refine wpAnyH_take (i := 14) (v := .bool true) rfl (by kernel_rfl) (by kernel_rfl) (by kernel_rfl) (by first | exact fun _ _ _ h => h | exact fun _ _ _ h => nomatch h.1) (Or.inl ⟨by rfl, fun w' hw' => by go_simp⟩) hchB ?_
  refine wpAnyH_done (by kernel_rfl) ?_ _
  go_wp2_with fail
  go_ret3
  exact ⟨A8, k8, by rw [hlen]; rfl, by rw [hlen]; exact v8, by omega, hchB⟩

set_option maxRecDepth 100000 in
set_option maxHeartbeats 1000000 in
theorem rpeek_short (w : World) (T : Nat → Prop) (A : Option Addr) (c : Nat) (b : List Nat) (hv : View w T A b.length (u8s b)) (hm : b.length ≤ 1000000) (hcap : b.length ≤ c) (hbt : ∀ i, b.getD i 0 < 256) (h64 : b.getD 0 0 / 64 % 2 = 1) (hl : b.getD 0 0 < 128) (hq : 9 ≤ b.length) :
    Calls Tryd.prog 22 #[.slice A b.length c] w (PeekPost w ((b.drop 1).take 8) false true) := by
  obtain ⟨g, o, rfl, hgl, hcell⟩ := hv.byte 0 (by omega)
  have k0 : w.cell? ⟨g, o, none⟩ = some (.int .u8 ((b.getD 0 0 : Nat) : Int)) := hcell 0 (by omega)
  have hx256 := hbt 0
  generalize hx : b.getD 0 0 = x at *
  have hi1 : ((x : Int) / 64 % 2) = 1 := by omega
  have hn0 : ((b.length : Nat) : Int) ≠ 0 := by omega
  obtain ⟨i0, hi, hz0, hz1, hz2⟩ := info_parts info5
  have HV := Lib.hid ((hv.drop (k := 1)).take (k := 8) (by omega))
  have hlen : ((b.drop 1).take 8).length = 8 := by rw [List.length_take, List.length_drop]; omega
  rw [u8s_drop, u8s_take] at HV
  generalize hS : (b.drop 1).take 8 = L at *
  generalize b.length = n at *
  clear hcell hv hbt hx  hS
  go_enter Tryd.func22, Tryd.ntmps22
  go_wp2_with fail
  have hch0 : Chg none_ w w.drew := (Chg.refl _ _).drew
  have hcat : (1 : Nat) ≤ c := by omega
  have hci : ((1 + 8 : Nat) : Int) ≤ (c : Int) := by omega
  have hci2 : (1 : Int) + (8 : Int) ≤ (c : Int) := by omega
  have hcl : (1 : Int) ≤ (c : Int) := by omega
  have hw9 : IntKind.i64.wrap 9 = 9 := IntWalk.i64_in _ (by omega)
  have hm1 : (0 : Int) ≤ 9 := by omega
  have hm2 : (1 : Int) ≤ max (9) 0 := by omega
  have hm3 : ((9 : Int)).toNat - 1 = 8 := by omega
  have hm4 : ((9 : Int)) ≤ (c : Int) := by omega
  obtain ⟨P, hP, HVP⟩ : ∃ P : Addr, (if c = 1 then some (⟨g, o, none⟩ : Addr) else some ⟨g, o + 1, none⟩) = some P ∧ Hid (View w T (some P) 8 (u8s L)) := by
    by_cases hca : c = 1
    · refine ⟨⟨g, o, none⟩, by rw [if_pos hca], ?_⟩
      have h0 : 8 = 0 := by omega
      have hL0 : L = [] := List.eq_nil_of_length_eq_zero (by omega)
      rw [hL0, h0]
      exact View.none_ _ _ _
    · refine ⟨⟨g, o + 1, none⟩, by rw [if_neg hca], ?_⟩
      have q := HV.out
      rw [Option.map_some, addr_add] at q
      exact q
  refine wp_region_held_drew (S := fun w' => Chg none_ w w') (by kernel_rfl) hch0 (fun _ => ?_)
  refine wpAnyH_take (i := 1) (v := .slice (some ⟨g, o, none⟩) n c) rfl (by kernel_rfl) (by kernel_rfl) (by kernel_rfl) (by first | exact fun _ _ _ h => h | exact fun _ _ _ h => nomatch h.1) (Or.inl ⟨by rfl, fun w' hw' => by go_simp⟩) hch0 ?_
  refine wpAnyH_take (i := 2) (v := .int .i64 1) rfl (by kernel_rfl) (by kernel_rfl) (by kernel_rfl) (by first | exact fun _ _ _ h => h | exact fun _ _ _ h => nomatch h.1) (Or.inl ⟨by rfl, fun w' hw' => by go_simp⟩) hch0 ?_
  refine wpAnyH_take (i := 3) (v := .int .i64 1) rfl (by kernel_rfl) (by kernel_rfl) (by kernel_rfl) (by first | exact fun _ _ _ h => h | exact fun _ _ _ h => nomatch h.1) (Or.inl ⟨by rfl, fun w' hw' => by go_simp⟩) hch0 ?_
  refine wpAnyH_take (i := 4) (v := .int .i64 8) rfl (by kernel_rfl) (by kernel_rfl) (by kernel_rfl) (by first | exact fun _ _ _ h => h | exact fun _ _ _ h => nomatch h.1) (Or.inl ⟨by rfl, fun w' hw' => by go_simp⟩) hch0 ?_
  refine wpAnyH_take (i := 5) (v := .int .i64 9) rfl (by kernel_rfl) (by kernel_rfl) (by kernel_rfl) (by first | exact fun _ _ _ h => h | exact fun _ _ _ h => nomatch h.1) (Or.inl ⟨by rfl, fun w' hw' => by go_simp⟩) hch0 ?_
  refine wpAnyH_take (i := 8) (v := .slice (some ⟨g, o, none⟩) n c) rfl (by kernel_rfl) (by kernel_rfl) (by kernel_rfl) (by first | exact fun _ _ _ h => h | exact fun _ _ _ h => nomatch h.1) (Or.inl ⟨by rfl, fun w' hw' => by go_simp⟩) hch0 ?_
  refine wpAnyH_take (i := 9) (v := .pointer (some ⟨g, o, none⟩)) rfl (by kernel_rfl) (by kernel_rfl) (by kernel_rfl) (by first | exact fun _ _ _ h => h | exact fun _ _ _ h => nomatch h.1) (Or.inl ⟨by rfl, fun w' hw' => by go_simp⟩) hch0 ?_
  refine wpAnyH_take (i := 10) (v := .int .u8 (x : Nat)) rfl (by kernel_rfl) (by kernel_rfl) (by kernel_rfl) (by first | exact fun _ _ _ h => h | exact fun _ _ _ h => nomatch h.1) (Or.inl ⟨by rfl, fun w' hw' => by have hh := (hw'.cell o hgl (fun h => h)).trans k0; go_simp⟩) hch0 ?_
  refine wpAnyH_take (i := 11) (v := .bool false) rfl (by kernel_rfl) (by kernel_rfl) (by kernel_rfl) (by first | exact fun _ _ _ h => h | exact fun _ _ _ h => nomatch h.1) (Or.inl ⟨by rfl, fun w' hw' => by go_simp⟩) hch0 ?_
  refine wpAnyH_take (i := 6) (v := .slice (some P) 8 (c - 1)) rfl (by kernel_rfl) (by kernel_rfl) (by kernel_rfl) (by first | exact fun _ _ _ h => h | exact fun _ _ _ h => nomatch h.1) (Or.inl ⟨by rfl, fun w' hw' => by go_simp⟩) hch0 ?_
  refine wpAnyH_ready (rs := [0]) (by kernel_rfl) (by simp) ?_
  refine AllReadyH.cons rfl (fun K hK => ?_) AllReadyH.nil
  rw [if_pos (by rfl)]
  try simp only [List.getElem_toArray, List.getElem_cons_succ, List.getElem_cons_zero]
  go_simp
  have hchA : Chg none_ w (w.drew.alloc (.cells #[] 5)) := hch0.alloc _
  refine hK.out _ _ hchA (fun _ => ?_)
  clear hK K
  try simp only [Act.put, List.setIfInBounds_toArray, List.set_cons_zero, List.set_cons_succ, List.getElem_toArray, List.getElem_cons_succ, List.getElem_cons_zero]
  refine wpAnyH_ready (rs := [7]) (by kernel_rfl) (by simp) ?_
  refine AllReadyH.cons rfl (fun K hK => ?_) AllReadyH.nil
  rw [if_pos (by rfl)]
  try simp only [List.getElem_toArray, List.getElem_cons_succ, List.getElem_cons_zero]
  refine wp_append_view _ _ 23 rfl 5 i0 _ 1 Tryd.underlying23 hi hz0 hz1 hz2 rfl w.heap.size _ 0 [] rfl (World.ownsRow_lit w.drew #[] 0 (Nat.le_refl _) (Nat.zero_le _) rfl) _ (some P) 8 _ (u8s L) rfl (HVP.out.chg hchA (fun _ _ h => h)) (u8s_one _) (by unfold maxLen; omega) (by omega) hchA.size ?_
  intro v8 w8 hown8 hgrow8 hob8
  have hchB : Chg none_ w w8 := hchA.append (Nat.le_refl _) (World.ownsRow_lit w.drew #[] 0 (Nat.le_refl _) (Nat.zero_le _) rfl) hgrow8
  rw [Nat.zero_add, List.nil_append] at hown8
  obtain ⟨A8, k8, rfl, _, _, v8⟩ := View.own (T := fun _ => True) hown8 (fun _ _ => trivial)
  refine hK.out _ _ hchB (fun _ => ?_)
  clear hK K
  try simp only [Act.put, List.setIfInBounds_toArray, List.set_cons_zero, List.set_cons_succ]
  refine wpAnyH_take (i := 12) (v := .slice A8 8 k8) rfl (by kernel_rfl) (by kernel_rfl) (by kernel_rfl) (by first | exact fun _ _ _ h => h | exact fun _ _ _ h => nomatch h.1) (Or.inl ⟨by rfl, fun w' hw' => by go_simp⟩) hchB ?_
  refine wpAnyH_take (i := 13) (v := .bool false) rfl (by kernel_rfl) (by kernel_rfl) (by kernel_rfl) (by first | exact fun _ _ _ h => h | exact fun _ _ _ h => nomatch h.1) (Or.inl ⟨by rfl, fun w' hw' => by go_simp⟩) hchB ?_
  refine wpAnyH_take (i := 14) (v := .bool true) rfl (by kernel_rfl) (by kernel_rfl) (by kernel_rfl) (by first | exact fun _ _ _ h => h | exact fun _ _ _ h => nomatch h.1) (Or.inl ⟨by rfl, fun w' hw' => by go_simp⟩) hchB ?_
  refine wpAnyH_done (by kernel_rfl) ?_ _
  go_wp2_with fail
  go_ret3
  exact ⟨A8, k8, by rw [hlen]; rfl, by rw [hlen]; exact v8, by omega, hchB⟩

theorem rdBytes_ok (n : Nat) (l : List Nat) : rdBytes n (l, 0) = if n ≤ l.length then (l.take n, (l.drop n, 0)) else ([], ([], 2)) := by
  unfold rdBytes
  simp only [ne_eq, not_true_eq_false, if_false]
theorem getD_lt (b : List Nat) (hb : ∀ x ∈ b, x < 256) (i : Nat) : b.getD i 0 < 256 := by
  rw [List.getD_eq_getElem?_getD]
  rcases Nat.lt_or_ge i b.length with h | h
  · rw [List.getElem?_eq_getElem h]; exact hb _ (List.getElem_mem h)
  · rw [List.getElem?_eq_none h]; decide

theorem peek_of_bad {b : List Nat} (x : Nat) (r : List Nat) (hb : b = x :: r) (h64 : x / 64 % 2 = 1) (hl : x / 128 % 2 = 1) (hw : (whoM { long := true } (r, 0)).2.2 ≠ 0 ∨ 20 < (whoM { long := true } (r, 0)).1.dst.length) : peekM b = ([], false, false) := by
  subst hb
  unfold peekM
  simp only [rdByte_cons]
  rw [if_neg (by omega), if_pos hl]
  unfold peekOut
  rw [if_pos hw]

theorem rpeek_any (w : World) (T : Nat → Prop) (A : Option Addr) (c : Nat) (b : List Nat) (hv : View w T A b.length (u8s b)) (hm : b.length ≤ 1000000) (hcap : b.length ≤ c) (hb : ∀ x ∈ b, x < 256) :
    Calls Tryd.prog 22 #[.slice A b.length c] w (PeekPost w (peekM b).1 (peekM b).2.1 (peekM b).2.2) := by
  have hbt := getD_lt b hb
  cases hbb : b with
  | nil =>
    subst hbb
    exact rpeek_nil w T A c [] hv hm hcap rfl
  | cons x r =>
    rw [← hbb]
    have hx0 : b.getD 0 0 = x := by rw [hbb]; rfl
    have hx := hbt 0
    rw [hx0] at hx
    have hlen : b.length = r.length + 1 := by rw [hbb]; rfl
    have e64 : x / 64 % 2 = 0 ∨ x / 64 % 2 = 1 := by omega
    rcases e64 with h64 | h64
    · have e : peekM b = ([], false, false) := by rw [hbb]; unfold peekM; simp only [rdByte_cons]; rw [if_pos h64]
      rw [e]
      exact rpeek_low w T A c b hv hm hcap hbt (by omega) (by rw [hx0]; exact h64)
    · by_cases hl : 128 ≤ x
      · have hl2 : x / 128 % 2 = 1 := by omega
        by_cases h6 : b.length < 6
        · have e : peekM b = ([], false, false) := by
            refine peek_of_bad x r hbb h64 hl2 (.inl ?_)
            rw [who_bad]
            · decide
            · rw [rdBytes_ok]
              split
              · have hd : r.drop 4 = [] := List.drop_eq_nil_of_le (by omega)
                rw [hd]; simp [rdByte]
              · rw [rdByte_bad]
          rw [e]
          exact rpeek_l6 w T A c b hv hm hcap hbt (by omega) (by rw [hx0]; exact h64) (by rw [hx0]; exact hl) h6
        · have h5 : b.getD 5 0 = r.getD 4 0 := by rw [hbb]; rfl
          have hd4 : r.drop 4 = r.getD 4 0 :: r.drop 5 := by
            rw [List.drop_eq_getElem_cons (by omega), List.getD_eq_getElem?_getD, List.getElem?_eq_getElem (by omega)]
            rfl
          have hwho : whoM { long := true } (r, 0) = ({ long := true, version := foldB 0 (r.take 4), dst := (rdBytes (r.getD 4 0) (r.drop 5, 0)).1 }, (rdBytes (r.getD 4 0) (r.drop 5, 0)).2) := by
            unfold whoM
            simp only
            rw [rdBytes_ok, if_pos (by omega)]
            simp only
            rw [hd4, rdByte_cons]
          have hld : (r.drop 5).length = r.length - 5 := List.length_drop
          by_cases h20 : 20 < b.getD 5 0
          · have e : peekM b = ([], false, false) := by
              refine peek_of_bad x r hbb h64 hl2 ?_
              rw [hwho, rdBytes_ok]
              split
              · right
                rename_i hy
                simp only [List.length_take]
                omega
              · left; simp
            rw [e]
            exact rpeek_l20 w T A c b hv hm hcap hbt (by rw [hx0]; exact h64) (by rw [hx0]; exact hl) (by omega) h20
          · by_cases hy : b.length < 6 + b.getD 5 0
            · have e : peekM b = ([], false, false) := by
                refine peek_of_bad x r hbb h64 hl2 (.inl ?_)
                rw [hwho, rdBytes_ok, if_neg (by omega)]
                simp
              rw [e]
              exact rpeek_lcut w T A c b hv hm hcap hbt (by rw [hx0]; exact h64) (by rw [hx0]; exact hl) (by omega) (by omega) hy
            · have e : peekM b = ((b.drop 6).take (b.getD 5 0), true, true) := by
                have ed : b.drop 6 = r.drop 5 := by rw [hbb]; rfl
                rw [ed, h5, hbb]
                unfold peekM
                simp only [rdByte_cons]
                rw [if_neg (by omega), if_pos hl2, hwho, rdBytes_ok, if_pos (by omega)]
                unfold peekOut
                rw [if_neg (by simp only [List.length_take]; omega)]
              rw [e]
              exact rpeek_long w T A c b hv hm hcap hbt (by rw [hx0]; exact h64) (by rw [hx0]; exact hl) (by omega) (by omega) (by omega)
      · have hl2 : ¬ x / 128 % 2 = 1 := by omega
        by_cases h9 : b.length < 9
        · have e : peekM b = ([], false, false) := by
            rw [hbb]
            unfold peekM
            simp only [rdByte_cons]
            rw [if_neg (by omega), if_neg hl2, rdBytes_ok, if_neg (by omega)]
            unfold peekOut
            rw [if_pos (.inl (by decide))]
          rw [e]
          exact rpeek_scut w T A c b hv hm hcap hbt (by omega) (by rw [hx0]; exact h64) (by rw [hx0]; omega) h9
        · have e : peekM b = ((b.drop 1).take 8, false, true) := by
            have ed : b.drop 1 = r := by rw [hbb]; rfl
            rw [ed, hbb]
            unfold peekM
            simp only [rdByte_cons]
            rw [if_neg (by omega), if_neg hl2, rdBytes_ok, if_pos (by omega)]
            unfold peekOut
            rw [if_neg (by simp only [List.length_take]; omega)]
          rw [e]
          exact rpeek_short w T A c b hv hm hcap hbt (by rw [hx0]; exact h64) (by rw [hx0]; omega) (by omega)
end Go.Proofs.YtfecmloaopbogaaDoor
