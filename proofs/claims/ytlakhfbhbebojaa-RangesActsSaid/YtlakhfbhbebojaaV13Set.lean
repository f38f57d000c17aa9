/- Layer 13 (ranges): a set in memory, and where a range stands (sort.Search with a closure). -/
import Derived.Test.YtlakhfbhbebojaaV13Math2
import Derived.Test.YtlakhfbhbebojaaProg
import Derived.Test.YtlakhfbhbebojaaAloc
import Derived.Test.YtlakhfbhbebojaaAppN
import Derived.Test.YtlakhfbhbebojaaSliceN
import Derived.Sort.Grow
import Derived.BigQuiet
import Derived.Deep.QuietTactic
import Derived.Deep.RegionHeld3
import Derived.Lib.Hide
import Derived.StillTailTactics
import Derived.Shelf.SlSorted.Search
import Derived.Ground.SlsoProg
namespace Go.Proofs.Ytlakhfbhbebojaa
open Go.RowKit Go.Shelf Go.Sort

def search_ren : Go.Shelf.Ren := ⟨fun | 16 => 28 | n => n, fun | 3 => 3 | 35 => 53 | 4 => 4 | 38 => 54 | n => n, fun | n => n⟩
theorem search : Go.Proofs.SlLaysO.n16 Try.prog search_ren := {
  mixed := by kernel_rfl
  f16 := Try.func28.trans (congrArg some (by kernel_rfl))
  t3 := Try.underlying3
  a3 := Try.isAgg3
  z3 := Try.sizeOf3
  v3 := Try.zeroValue3
  t4 := Try.underlying4
  a4 := Try.isAgg4
  z4 := Try.sizeOf4
  v4 := Try.zeroValue4
  t35 := Try.underlying53
  a35 := Try.isAgg53
  z35 := Try.sizeOf53
  v35 := Try.zeroValue53
  t38 := Try.underlying54
  a38 := Try.isAgg54
  z38 := Try.sizeOf54
  v38 := Try.zeroValue54 }

/-- A range's cells. -/
def rcell (r : Nat × Nat) : List Value := [.int .u64 (r.1 : Int), .int .u64 (r.2 : Int)]
def rcells (l : List (Nat × Nat)) : List Value := l.flatMap rcell
def rg (l : List (Nat × Nat)) (i : Nat) : Nat × Nat := l.getD i (0, 0)
theorem rcell_len (r : Nat × Nat) : (rcell r).length = 2 := rfl
theorem rcells_len (l : List (Nat × Nat)) : (rcells l).length = l.length * 2 := by
  induction l with
  | nil => rfl
  | cons a l ih => simp only [rcells, List.flatMap_cons, List.length_append, List.length_cons, rcell_len] at ih ⊢; omega
theorem rcells_append (l m : List (Nat × Nat)) : rcells (l ++ m) = rcells l ++ rcells m := List.flatMap_append
theorem rcells_get (l : List (Nat × Nat)) (i j : Nat) (h : i < l.length) (hj : j < 2) : (rcells l)[i * 2 + j]? = (rcell (rg l i))[j]? := by
  induction l generalizing i with
  | nil => cases h
  | cons a l ih =>
    cases i with
    | zero =>
      simp only [rcells, rg, List.flatMap_cons, List.getD_cons_zero, Nat.zero_mul, Nat.zero_add]
      rw [List.getElem?_append_left (by rw [rcell_len]; exact hj)]
    | succ i =>
      have := ih i (by simpa using h)
      simp only [rcells, rg, List.flatMap_cons, List.getD_cons_succ] at this ⊢
      rw [List.getElem?_append_right (by rw [rcell_len]; omega), rcell_len, show (i + 1) * 2 + j - 2 = i * 2 + j from by omega]
      exact this
theorem rcells_one (l : List (Nat × Nat)) : ∀ u ∈ rcells l, u.oneCell' = true := by
  intro u hu
  obtain ⟨r, _, hr⟩ := List.mem_flatMap.1 hu
  simp only [rcell, List.mem_cons, List.not_mem_nil, or_false] at hr
  rcases hr with rfl | rfl <;> rfl
theorem rg_mem {l : List (Nat × Nat)} {i : Nat} (h : i < l.length) : rg l i ∈ l := by
  unfold rg
  rw [List.getD_eq_getElem?_getD, List.getElem?_eq_getElem h]
  exact List.getElem_mem h

/-- A set of these ranges: its two cells, and where they lie (in blocks past B). -/
def SetAt (w : World) (B g : Nat) (l : List (Nat × Nat)) (y : Nat) : Prop :=
  ∃ A cap, Row w g 32 [.slice A l.length cap, .int .u64 (y : Int)] ∧ l.length ≤ cap ∧ cap ≤ maxLen ∧ View w (fun b => B ≤ b) A (l.length * 2) (rcells l) ∧ g < B ∧ B ≤ w.heap.size
theorem SetAt.chg {w w' : World} {B g : Nat} {l : List (Nat × Nat)} {y : Nat} {S : Nat → Prop} (h : SetAt w B g l y) (hc : Chg S w w') (h1 : ¬ S g) (h2 : ∀ b, B ≤ b → ¬ S b) : SetAt w' B g l y := by
  obtain ⟨A, cap, k1, k2, k3, k4, k5, k6⟩ := h
  exact ⟨A, cap, k1.chg hc h1, k2, k3, k4.chg hc h2, k5, Nat.le_trans k6 hc.size⟩
theorem SetAt.quiet {w w' : World} {B g : Nat} {l : List (Nat × Nat)} {y : Nat} (h : SetAt w B g l y) (hc : Chg none_ w w') : SetAt w' B g l y := h.chg hc (fun h => h) (fun _ _ h => h)
theorem SetAt.drew {w : World} {B g : Nat} {l : List (Nat × Nat)} {y : Nat} (h : SetAt w B g l y) : SetAt w.drew B g l y := h.quiet (Chg.refl _ _).drew
theorem SetAt.lt {w : World} {B g : Nat} {l : List (Nat × Nat)} {y : Nat} (h : SetAt w B g l y) : g < B ∧ B ≤ w.heap.size := by
  obtain ⟨A, cap, _, _, _, _, k5, k6⟩ := h
  exact ⟨k5, k6⟩
theorem View.rAt {w : World} {T : Nat → Prop} {A : Option Addr} {l : List (Nat × Nat)} {k : Nat} (h : View w T A (l.length * 2) (rcells l)) (hk : k < l.length) : ∃ b o, A = some ⟨b, o, none⟩ ∧ b < w.heap.size ∧ T b ∧ ∀ k, k < l.length → w.rangeAt b (o + k * 2) (rcell (rg l k)) := by
  obtain ⟨b, o, h1, h2, h3, h4⟩ := h.2 (by omega)
  refine ⟨b, o, h1, h2, h3, fun k hk j v hv => ?_⟩
  have hj : j < 2 := by
    have := (List.getElem?_eq_some_iff.1 hv).1
    rwa [rcell_len] at this
  rw [Nat.add_assoc, h4 _ (by omega), rcells_get l k j hk hj]
  exact hv
theorem chg_grow (w : World) (m : Nat) (os : Array Obj) : Chg none_ w (grow (w.drewN m) os) :=
  ⟨rfl, rfl, rfl, by simp, fun i hi _ => heap_grow_old (w.drewN m) os hi⟩
theorem sizeR : (Try.prog.info? 41).map (·.size) = some 2 := by kernel_rfl
theorem sizeSt : (Try.prog.info? 32).map (·.size) = some 2 := by kernel_rfl

/-- A closure over a range: what it says, and nothing is turned. -/
def Says (fn : Nat) (cb : Array Value) (q : Nat × Nat → Bool) (l : List (Nat × Nat)) (w : World) : Prop :=
  (∀ args w, (callFunc fn args).run Try.prog w = .ok (.enter fn args) w) ∧ ∀ W r, r ∈ l → Chg none_ w W → Calls Try.prog fn (#[.agg (rcell r).toArray] ++ cb) W fun e w' => e = .returned (.bool (q r)) ∧ ∃ m os, w' = grow (W.drewN m) os

set_option maxRecDepth 100000 in
set_option maxHeartbeats 1000000 in
theorem first1_any (fn : Nat) (cb : Array Value) (q : Nat × Nat → Bool) (l : List (Nat × Nat)) (y B g pf ps : Nat) (w0 : World) (h : SetAt w0 B g l y) (hpf : w0.cell? ⟨pf, 0, none⟩ = some (.func (.func fn) #[] cb)) (hps : w0.cell? ⟨ps, 0, none⟩ = some (.pointer (some ⟨g, 0, none⟩)))
    (hf : Says fn cb q l w0) (i : Nat) (hi : i < l.length) (W : World) (hW : Chg none_ w0 W) :
    Calls Try.prog 29 (#[.int .i64 (i : Int)] ++ #[.pointer (some ⟨pf, 0, none⟩), .pointer (some ⟨ps, 0, none⟩)]) W fun e w' => e = .returned (.bool (q (rg l i))) ∧ ∃ m os, w' = grow (W.drewN m) os := by
  have HF := Lib.hid hf
  obtain ⟨A, cap, hr, _, _, hv, _, _⟩ := h
  have hlt : (i : Int) < (l.length : Int) := by omega
  have hge : 0 ≤ (i : Int) := by omega
  obtain ⟨b, o, rfl, hbl, _, hk⟩ := hv.rAt hi
  have HK := Lib.hid (hk i hi)
  have HS : Hid (∀ w', Chg none_ w0 w' → w'.cell? ⟨pf, 0, none⟩ = some (.func (.func fn) #[] cb) ∧ w'.cell? ⟨ps, 0, none⟩ = some (.pointer (some ⟨g, 0, none⟩)) ∧ w'.cell? ⟨g, 0, none⟩ = some (.slice (some ⟨b, o, none⟩) l.length cap) ∧ w'.rangeAt b (o + i * 2) (rcell (rg l i))) := Lib.hid (fun w' hc =>
    ⟨(hc.cell 0 (World.block_lt_of_cell? _ _ hpf) (fun h => h)).trans hpf, (hc.cell 0 (World.block_lt_of_cell? _ _ hps) (fun h => h)).trans hps, (hr.chg hc (fun h => h)).cell 0,
      fun j v hv => (hc.cell _ hbl (fun h => h)).trans (HK.out j v hv)⟩)
  have HM := Lib.hid (rg_mem hi)
  have HW := Lib.hid hW
  clear hf hr hv hk hpf hps hW HK
  go_enter Try.func29, Try.ntmps29
  go_wp2
  have HS2 : Hid (∀ w', (∃ m os, w' = grow (W.drewN m) os) → _) := Lib.hid (fun w' hw => HS.out w' (by obtain ⟨m, os, rfl⟩ := hw; exact HW.out.trans (chg_grow W m os)))
  clear HS
  have eg := HF.out.1
  refine wp_region_held_drew (S := fun w' => ∃ m os, w' = grow (W.drewN m) os) (by kernel_rfl) (⟨1, #[], by rw [grow_empty]; rfl⟩) (fun hch0 => ?_)
  refine wpAnyH_take (i := 0) (v := .func (.func fn) #[] cb) rfl (by kernel_rfl) (by kernel_rfl) (by kernel_rfl) (by first | exact fun _ _ _ h => h | exact fun _ _ _ h => nomatch h.1) (Or.inl ⟨by rfl, fun w_ hw_ => by have hx := (HS2.out w_ hw_).1; go_simp⟩) ⟨1, #[], by rw [grow_empty]; rfl⟩ ?_
  refine wpAnyH_take (i := 1) (v := .pointer (some ⟨g, 0, none⟩)) rfl (by kernel_rfl) (by kernel_rfl) (by kernel_rfl) (by first | exact fun _ _ _ h => h | exact fun _ _ _ h => nomatch h.1) (Or.inl ⟨by rfl, fun w_ hw_ => by have hx := (HS2.out w_ hw_).2.1; go_simp⟩) ⟨1, #[], by rw [grow_empty]; rfl⟩ ?_
  refine wpAnyH_take (i := 2) (v := .pointer (some ⟨g, 0, none⟩)) rfl (by kernel_rfl) (by kernel_rfl) (by kernel_rfl) (by first | exact fun _ _ _ h => h | exact fun _ _ _ h => nomatch h.1) (Or.inl ⟨by rfl, fun w_ hw_ => by go_simp⟩) ⟨1, #[], by rw [grow_empty]; rfl⟩ ?_
  refine wpAnyH_take (i := 3) (v := .pointer (some ⟨g, 0, none⟩)) rfl (by kernel_rfl) (by kernel_rfl) (by kernel_rfl) (by first | exact fun _ _ _ h => h | exact fun _ _ _ h => nomatch h.1) (Or.inl ⟨by rfl, fun w_ hw_ => by go_simp⟩) ⟨1, #[], by rw [grow_empty]; rfl⟩ ?_
  refine wpAnyH_take (i := 4) (v := .slice (some ⟨b, o, none⟩) l.length cap) rfl (by kernel_rfl) (by kernel_rfl) (by kernel_rfl) (by first | exact fun _ _ _ h => h | exact fun _ _ _ h => nomatch h.1) (Or.inl ⟨by rfl, fun w_ hw_ => by have hx := (HS2.out w_ hw_).2.2.1; go_simp⟩) ⟨1, #[], by rw [grow_empty]; rfl⟩ ?_
  refine wpAnyH_take (i := 5) (v := .int .i64 (i : Int)) rfl (by kernel_rfl) (by kernel_rfl) (by kernel_rfl) (by first | exact fun _ _ _ h => h | exact fun _ _ _ h => nomatch h.1) (Or.inl ⟨by rfl, fun w_ hw_ => by go_simp⟩) ⟨1, #[], by rw [grow_empty]; rfl⟩ ?_
  refine wpAnyH_take (i := 6) (v := .pointer (some ⟨b, o + i * 2, none⟩)) rfl (by kernel_rfl) (by kernel_rfl) (by kernel_rfl) (by first | exact fun _ _ _ h => h | exact fun _ _ _ h => nomatch h.1) (Or.inl ⟨by rfl, fun w_ hw_ => by go_simp⟩) ⟨1, #[], by rw [grow_empty]; rfl⟩ ?_
  refine wpAnyH_take (i := 7) (v := .agg (rcell (rg l i)).toArray) rfl (by kernel_rfl) (by kernel_rfl) (by kernel_rfl) (by first | exact fun _ _ _ h => h | exact fun _ _ _ h => nomatch h.1) (yieldsIf_load_mid (by rfl) 41 (.tmp 11) rfl b (o + i * 2) rfl (rcell (rg l i)) _ (fun w hw => (HS2.out w hw).2.2.2) Try.underlying41 rfl sizeR) ⟨1, #[], by rw [grow_empty]; rfl⟩ ?_
  refine wpAnyH_ready (rs := [8]) (by kernel_rfl) (by simp) ?_
  refine AllReadyH.cons rfl (fun K hK => ?_) AllReadyH.nil
  rw [if_pos (by rfl)]
  try simp only [Act.put, List.setIfInBounds_toArray, List.set_cons_zero, List.set_cons_succ, List.getElem_toArray, List.getElem_cons_succ, List.getElem_cons_zero]
  go_simp
  refine (HF.out.2 W.drew _ HM.out HW.out.drew).mono ?_
  rintro e w9 ⟨rfl, m, os, rfl⟩
  refine hK.out _ _ ⟨1 + m, os, by rw [← World.drewN_drewN]; rfl⟩ (fun _ => ?_)
  clear hK K
  try simp only [Act.put, List.setIfInBounds_toArray, List.set_cons_zero, List.set_cons_succ, List.getElem_toArray, List.getElem_cons_succ, List.getElem_cons_zero]
  refine wpAnyH_ready (rs := [9]) (by kernel_rfl) (by simp) ?_
  refine AllReadyH.cons rfl (fun K hK => ?_) AllReadyH.nil
  rw [if_pos (by rfl)]
  try simp only [List.getElem_toArray, List.getElem_cons_succ, List.getElem_cons_zero]
  go_simp
  refine hK.out _ _ ⟨1 + m, os, rfl⟩ (fun _ => ?_)
  clear hK K
  try simp only [Act.put, List.setIfInBounds_toArray, List.set_cons_zero, List.set_cons_succ, List.getElem_toArray, List.getElem_cons_succ, List.getElem_cons_zero]
  refine wpAnyH_done (by kernel_rfl) ?_ _
  go_wp2
  go_ret
  exact ⟨rfl, 1 + m, os, rfl⟩

theorem countP_rg (q : Nat × Nat → Bool) (l : List (Nat × Nat)) : (List.range l.length).countP (fun i => !q (rg l i)) = fst_ q l := by
  have h : l = (List.range l.length).map (rg l) := by
    apply List.ext_getElem
    · simp
    · intro i h1 h2
      simp only [List.getElem_map, List.getElem_range, rg]
      rw [List.getD_eq_getElem?_getD, List.getElem?_eq_getElem h1]
      rfl
  unfold fst_
  conv => rhs; rw [h]
  rw [List.countP_map]
  rfl

set_option maxRecDepth 100000 in
set_option maxHeartbeats 1000000 in
theorem first_any (fn : Nat) (cb : Array Value) (q : Nat × Nat → Bool) (l : List (Nat × Nat)) (y B g : Nat) (w : World) (h : SetAt w B g l y) (hm : Mono q l) (hl : l.length ≤ 1000) (hf : Says fn cb q l w) :
    Calls Try.prog 21 #[.pointer (some ⟨g, 0, none⟩), .func (.func fn) #[] cb] w fun e w' => e = .returned (.int .i64 ((fst_ q l : Nat) : Int)) ∧ Chg none_ w w' := by
  have HS : Hid (∀ w1, Chg none_ w w1 → ∀ pf ps, w1.cell? ⟨pf, 0, none⟩ = some (.func (.func fn) #[] cb) → w1.cell? ⟨ps, 0, none⟩ = some (.pointer (some ⟨g, 0, none⟩)) →
      Calls Try.prog 28 #[.int .i64 (l.length : Int), .func (.func 29) #[] #[.pointer (some ⟨pf, 0, none⟩), .pointer (some ⟨ps, 0, none⟩)]] w1 fun e w' => e = .returned (.int .i64 ((fst_ q l : Nat) : Int)) ∧ Chg none_ w w') := Lib.hid (fun w1 hc pf ps h1 h2 => by
    have hq := Any.sort_Search search 29 #[.pointer (some ⟨pf, 0, none⟩), .pointer (some ⟨ps, 0, none⟩)] l.length (fun i => q (rg l i)) w1 Try.call29 (by omega)
      (fun m os i hi => first1_any fn cb q l y B g pf ps w1 (h.quiet hc) h1 h2 ⟨hf.1, fun W r hr hW => hf.2 W r hr (hc.trans hW)⟩ i hi _ (chg_grow w1 m os))
      (fun a b hab hb ha => by
        rcases Nat.lt_or_ge a b with hlt | hge
        · have := List.pairwise_iff_getElem.1 hm a b (by omega) hb hlt
          unfold rg at ha ⊢
          rw [List.getD_eq_getElem?_getD, List.getElem?_eq_getElem (by omega)] at ha
          rw [List.getD_eq_getElem?_getD, List.getElem?_eq_getElem hb]
          exact this ha
        · have : a = b := by omega
          rw [← this]; exact ha)
    rw [countP_rg] at hq
    refine hq.mono ?_
    rintro e w' ⟨a, m, os, rfl⟩
    exact ⟨a, hc.trans (chg_grow w1 m os)⟩)
  obtain ⟨A, cap, hr, _, _, _, hgB, hBw⟩ := h
  have HR := Lib.hid hr
  have hglt := hr.lt
  clear hr hf hm
  generalize fst_ q l = n at *
  go_enter Try.func21, Try.ntmps21
  have c0 := (((HR.out.alloc (.cells #[.pointer (some ⟨g, 0, none⟩)] 24)).alloc (.cells #[.func (.func fn) #[] cb] 49)).cell 0)
  simp only [List.getElem?_cons_zero] at c0
  go_wp2_with (go_at_call 28; refine (HS.out _ (((Chg.refl none_ w).alloc _).alloc _) _ _ (by go_simp) (by go_simp)).mono ?_; rintro e w9 ⟨rfl, hc⟩; have HC := Lib.hid hc; clear hc)
  go_ret
  exact ⟨rfl, HC.out⟩
end Go.Proofs.Ytlakhfbhbebojaa
