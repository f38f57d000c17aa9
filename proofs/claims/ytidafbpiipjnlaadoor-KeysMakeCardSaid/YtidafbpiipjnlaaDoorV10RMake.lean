/- Layer 10 (keys): the keys of a secret, the document's. -/
import Derived.Test.YtidafbpiipjnlaaDoorV10Keys2
import Derived.Test.YtidafbpiipjnlaaDoorKH4
namespace Go.Proofs.YtidafbpiipjnlaaDoor
open Go.RowKit

theorem wpList_nameS {P : Program} {ops : Array Oper} {Q : Exit → Act → World → Prop} {l : List Oper} {a : Act} {w : World} (k : ∀ x, x = w → wpList P ops Q l a x) : wpList P ops Q l a w := k w rfl
theorem chg_set_K (w : World) (g i : Nat) (v : Value) : Chg (· = g) w (w.setCell ⟨g, i, none⟩ v) := (Chg.refl (· = g) w).setCell (fun _ => rfl) v

theorem zeroS_60 {w : World} {g : Nat} {e : TypeId} (h : Row w g e zeroS) : w.cell? ⟨g, 60, none⟩ = some (.bool false) := by rw [h.cell]; rfl
theorem cellsS_set0 {s : Sc} (h : s.key.length = 16) {k : Nat} (hk : k < 16) (v : Nat) : (cellsS s).set k (.int .u8 (v : Int)) = cellsS { s with key := s.key.set k v } := by
  unfold cellsS
  rw [List.set_append_left _ _ (by rw [u8s_length]; omega), u8s_set]
theorem cellsS_set1 {s : Sc} (h : s.key.length = 16) (h' : s.iv.length = 12) {k : Nat} (hk : k < 12) (v : Nat) : (cellsS s).set (16 + k) (.int .u8 (v : Int)) = cellsS { s with iv := s.iv.set k v } := by
  unfold cellsS
  rw [List.set_append_right _ _ (by rw [u8s_length]; omega), u8s_length, h, Nat.add_sub_cancel_left, List.set_append_left _ _ (by rw [u8s_length]; omega), u8s_set]
theorem cellsS_set2 {s : Sc} (h : s.key.length = 16) (h' : s.iv.length = 12) (h2 : s.next.length = 32) {k : Nat} (hk : k < 32) (v : Nat) : (cellsS s).set (28 + k) (.int .u8 (v : Int)) = cellsS { s with next := s.next.set k v } := by
  unfold cellsS
  rw [List.set_append_right _ _ (by rw [u8s_length]; omega), u8s_length, h, List.set_append_right _ _ (by rw [u8s_length]; omega), u8s_length, h', show 28 + k - 16 - 12 = k from by omega, List.set_append_left _ _ (by rw [u8s_length]; omega), u8s_set]
theorem partF_past (f : Nat → Nat) (s : List Nat) (n k : Nat) (h : n ≤ k) : partF f s n (k + 1) = partF f s n k := by
  rw [← partF_set, List.set_eq_of_length_le (by rw [partF_len]; exact h)]
theorem partF_ge (f : Nat → Nat) (s : List Nat) (n : Nat) : ∀ m, partF f s n (n + m) = (List.range n).map f
  | 0 => partF_all f s n
  | m + 1 => by rw [← Nat.add_assoc, partF_past _ _ _ _ (by omega), partF_ge f s n m]
/-- Keys of which so many bytes are there. -/
def stP (M : Sc) (k : Nat) : Sc := ⟨partF (fun i => M.key.getD i 0) (List.replicate 16 0) 16 k, partF (fun i => M.iv.getD i 0) (List.replicate 12 0) 12 k, partF (fun i => M.next.getD i 0) (List.replicate 32 0) 32 k, M.phase⟩
theorem stP_0 (M : Sc) : cellsS (stP M 0) = zeroS.set 60 (.bool M.phase) := by
  unfold stP
  rw [partF_0 _ _ _ (by simp), partF_0 _ _ _ (by simp), partF_0 _ _ _ (by simp)]
  rfl
theorem stP_32 {M : Sc} (o : M.Ok) : stP M 32 = M := by
  unfold stP
  rw [partF_ge _ _ 16 16, partF_ge _ _ 12 20, partF_ge _ _ 32 0, list_eta M.key 16 o.keyL, list_eta M.iv 12 o.ivL, list_eta M.next 32 o.nextL]
theorem stP_len (M : Sc) (k : Nat) : (stP M k).key.length = 16 ∧ (stP M k).iv.length = 12 ∧ (stP M k).next.length = 32 := ⟨partF_len _ _ _ _, partF_len _ _ _ _, partF_len _ _ _ _⟩
theorem stP_key (M : Sc) (k : Nat) : (stP M k).key.set k (M.key.getD k 0) = (stP M (k + 1)).key := partF_set _ _ _ _
theorem stP_iv (M : Sc) (k : Nat) : (stP M k).iv.set k (M.iv.getD k 0) = (stP M (k + 1)).iv := partF_set _ _ _ _
theorem stP_next (M : Sc) (k : Nat) : (stP M k).next.set k (M.next.getD k 0) = (stP M (k + 1)).next := partF_set _ _ _ _
theorem stP_key' (M : Sc) (k : Nat) (h : 16 ≤ k) : (stP M k).key = (stP M (k + 1)).key := (partF_past (fun i => M.key.getD i 0) (List.replicate 16 0) 16 k h).symm
theorem stP_iv' (M : Sc) (k : Nat) (h : 12 ≤ k) : (stP M k).iv = (stP M (k + 1)).iv := (partF_past (fun i => M.iv.getD i 0) (List.replicate 12 0) 12 k h).symm
/-- Byte k of the key, of the iv, of what follows is stored. -/
def stK (M : Sc) (k : Nat) : Sc := ⟨(stP M (k + 1)).key, (stP M k).iv, (stP M k).next, M.phase⟩
def stI (M : Sc) (k : Nat) : Sc := ⟨(stP M (k + 1)).key, (stP M (k + 1)).iv, (stP M k).next, M.phase⟩
theorem row_K {w : World} {g k : Nat} {e : TypeId} {M : Sc} (h : Row w g e (cellsS (stP M k))) (hk : k < 16) : Row (w.setCell ⟨g, k, none⟩ (.int .u8 ((M.key.getD k 0 : Nat) : Int))) g e (cellsS (stK M k)) := by
  have := h.set k (.int .u8 ((M.key.getD k 0 : Nat) : Int))
  rw [cellsS_set0 (stP_len M k).1 hk, stP_key] at this
  exact this
theorem row_I {w : World} {g k : Nat} {e : TypeId} {M : Sc} (h : Row w g e (cellsS (stK M k))) (hk : k < 12) : Row (w.setCell ⟨g, 16 + k, none⟩ (.int .u8 ((M.iv.getD k 0 : Nat) : Int))) g e (cellsS (stI M k)) := by
  have := h.set (16 + k) (.int .u8 ((M.iv.getD k 0 : Nat) : Int))
  rw [cellsS_set1 (s := stK M k) (stP_len M (k + 1)).1 (stP_len M k).2.1 hk, show (stK M k).iv = (stP M k).iv from rfl, stP_iv] at this
  exact this
theorem row_N {w : World} {g k : Nat} {e : TypeId} {M : Sc} (h : Row w g e (cellsS (stI M k))) (hk : k < 32) : Row (w.setCell ⟨g, 28 + k, none⟩ (.int .u8 ((M.next.getD k 0 : Nat) : Int))) g e (cellsS (stP M (k + 1))) := by
  have := h.set (28 + k) (.int .u8 ((M.next.getD k 0 : Nat) : Int))
  rw [cellsS_set2 (s := stI M k) (stP_len M (k + 1)).1 (stP_len M (k + 1)).2.1 (stP_len M k).2.2 hk, show (stI M k).next = (stP M k).next from rfl, stP_next] at this
  exact this
theorem stI_12 (M : Sc) (k : Nat) (h : 12 ≤ k) : stK M k = stI M k := by unfold stK stI; rw [stP_iv' M k h]
theorem stI_16 (M : Sc) (k : Nat) (h : 16 ≤ k) : stP M k = stI M k := by
  unfold stI
  rw [← stP_key' M k h, ← stP_iv' M k (by omega)]
  rfl
theorem sc_cell {w : World} {g : Nat} {e : TypeId} {s : Sc} (h : Row w g e (cellsS s)) (hl : s.key.length = 16 ∧ s.iv.length = 12 ∧ s.next.length = 32) {i : Nat} (hi : i < 61) : ∃ v, w.cell? ⟨g, i, none⟩ = some v := by
  have hL : (cellsS s).length = 61 := by simp only [cellsS, List.length_append, u8s_length, hl.1, hl.2.1, hl.2.2, List.length_cons, List.length_nil]
  exact ⟨_, by rw [h.cell]; exact List.getElem?_eq_getElem (by omega)⟩
theorem stK_len (M : Sc) (k : Nat) : (stK M k).key.length = 16 ∧ (stK M k).iv.length = 12 ∧ (stK M k).next.length = 32 := ⟨(stP_len _ _).1, (stP_len _ _).2.1, (stP_len _ _).2.2⟩
theorem stI_len (M : Sc) (k : Nat) : (stI M k).key.length = 16 ∧ (stI M k).iv.length = 12 ∧ (stI M k).next.length = 32 := ⟨(stP_len _ _).1, (stP_len _ _).2.1, (stP_len _ _).2.2⟩

theorem rlab_any (s : List Nat) (L : ByteArray) (n : Nat) (w : World) (hL : (bsN L).length ≤ 60) (hn : n ≤ 255) (hs : s.length = 32) (hsb : ∀ x ∈ s, x < 256) (hT : HTab w) :
    Calls Tryd.prog 34 #[.agg (u8s s).toArray, .string L, .int .i64 (n : Int)] w fun e w' => ∃ A c, e = .returned (.slice A n c) ∧ View w' (fun b => w.heap.size ≤ b) A n (u8s (labelN s (bsN L) (n : Int))) ∧ Chg none_ w w' := by
  refine (rlabel_any s L (n : Int) w (by rw [bsN_len] at hL; omega) hs hsb hT).mono ?_
  rintro e w' ⟨A, c, rfl, hv, hc⟩
  have hl := labelN_len s (bsN L) n hL hn
  rw [hl] at hv ⊢
  exact ⟨A, c, rfl, hv, hc⟩

set_option maxRecDepth 100000 in
set_option maxHeartbeats 4000000 in
theorem rMake_any (s : List Nat) (ph : Bool) (w : World) (hs : s.length = 32) (hsb : ∀ x ∈ s, x < 256) (hT : HTab w) :
    Calls Tryd.prog 14 #[.agg (u8s s).toArray, .bool ph] w fun e w' => e = .returned (aggS (makeN s ph)) ∧ Chg none_ w w' := by
  have HS := Lib.hid hs
  obtain ⟨M, hM⟩ : ∃ M, M = makeN s ph := ⟨_, rfl⟩
  have HMO : Hid (M.Ok) := Lib.hid (by rw [hM]; exact makeN_ok s ph)
  have HP0 : Hid (cellsS (stP M 0) = zeroS.set 60 (.bool ph)) := Lib.hid (by rw [stP_0, hM]; rfl)
  have HTX : ∀ w', Chg none_ w w' → HTab w' := fun w' hc => hT.chg hc (fun h => h) (fun h => h)
  have HB0 : Hid (∀ w', Chg none_ w w' → Calls Tryd.prog 34 #[.agg (u8s s).toArray, .string ⟨#[113, 117, 105, 99, 32, 107, 101, 121]⟩, .int .i64 16] w' fun e w'' => ∃ A c, e = .returned (.slice A 16 c) ∧ View w'' (fun b => w'.heap.size ≤ b) A 16 (u8s M.key) ∧ Chg none_ w' w'') := Lib.hid (fun w' hc => by rw [hM]; exact rlab_any s ⟨#[113, 117, 105, 99, 32, 107, 101, 121]⟩ 16 w' (by decide) (by decide) hs hsb (HTX w' hc))
  have HB1 : Hid (∀ w', Chg none_ w w' → Calls Tryd.prog 34 #[.agg (u8s s).toArray, .string ⟨#[113, 117, 105, 99, 32, 105, 118]⟩, .int .i64 12] w' fun e w'' => ∃ A c, e = .returned (.slice A 12 c) ∧ View w'' (fun b => w'.heap.size ≤ b) A 12 (u8s M.iv) ∧ Chg none_ w' w'') := Lib.hid (fun w' hc => by rw [hM]; exact rlab_any s ⟨#[113, 117, 105, 99, 32, 105, 118]⟩ 12 w' (by decide) (by decide) hs hsb (HTX w' hc))
  have HB2 : Hid (∀ w', Chg none_ w w' → Calls Tryd.prog 34 #[.agg (u8s s).toArray, .string ⟨#[113, 117, 105, 99, 32, 107, 117]⟩, .int .i64 32] w' fun e w'' => ∃ A c, e = .returned (.slice A 32 c) ∧ View w'' (fun b => w'.heap.size ≤ b) A 32 (u8s M.next) ∧ Chg none_ w' w'') := Lib.hid (fun w' hc => by rw [hM]; exact rlab_any s ⟨#[113, 117, 105, 99, 32, 107, 117]⟩ 32 w' (by decide) (by decide) hs hsb (HTX w' hc))
  rw [← hM]
  show Calls Tryd.prog 14 #[.agg (u8s s).toArray, .bool ph] w fun e w' => e = .returned (.agg (cellsS M).toArray) ∧ Chg none_ w w'
  clear hs hsb hT hM HTX
  go_enter Tryd.func14, Tryd.ntmps14
  go_wp2_with (first | ((with_reducible show wpList _ _ _ (⟨some 2, .box 23 _, _, _, _, _⟩ :: _) _ _); refine wpList_box_Row rfl rfl (u8s s) rfl ?_; intro w1 hr1 hc1 hs1; have HRS1 := Lib.hid hr1; have HC1 := Lib.hid hc1; clear hr1 hc1 hs1) | ((with_reducible show wpList _ _ _ (⟨some 4, .alloc 29, _, _, _, _⟩ :: _) _ _); refine wpList_alloc_Row rfl rfl (zeroS) zeroSc ?_; intro w2 hr2 hc2 hs2; have HRR2 := Lib.hid hr2; have HC2 := Lib.hid (HC1.out.trans hc2); have HRS2 := Lib.hid (HRS1.out.chg hc2 (fun h => h)); have HG1 := Lib.hid HRS1.out.lt; clear hr2 hc2 hs2) | ((with_reducible show wpList _ _ _ (⟨some 5, .alloc 29, _, _, _, _⟩ :: _) _ _); refine wpList_alloc_Row rfl rfl (zeroS) zeroSc ?_; intro w3 hr3 hc3 hs3; have HR3 := Lib.hid hr3; have HN3 := Lib.hid hc3; have HC3 := Lib.hid (HC2.out.trans hc3); have HRS3 := Lib.hid (HRS2.out.chg hc3 (fun h => h)); have HRR3 := Lib.hid (HRR2.out.chg hc3 (fun h => h)); have HG2 := Lib.hid HRR2.out.lt; have HG3 := Lib.hid hr3.lt; have f60 := hr3.frozen 60; have c60 := zeroS_60 hr3; clear hr3 hc3 hs3) | ((with_reducible show wpList _ _ _ (⟨some 12, _, _, _, _, _⟩ :: _) _ _); refine wpList_nameS ?_; intro w4 hx4; have HR4 := Lib.hid (show Row w4 w2.heap.size 29 (cellsS (stP M 0)) by (rw [hx4, HP0.out]; exact HR3.out.set 60 _)); have hc4 := (show Chg (· = w2.heap.size) w3 w4 by (rw [hx4]; exact chg_set_K _ _ _ _)); have HC4 := Lib.hid (HC2.out.andThen ((HN3.out.ofN).trans hc4) (fun b hb e => by have := HC2.out.size; have := HG2.out; omega)); have HRS4 := Lib.hid (HRS3.out.chg hc4 (fun e => by have := HG1.out; have := HG2.out; omega)); have HRR4 := Lib.hid (HRR3.out.chg hc4 (fun e => by have := HG2.out; omega)); have HS4 := Lib.hid (show w3.heap.size ≤ w4.heap.size from hc4.size); clear hx4 hc4 f60 c60; refine wpList_load_Row rfl rfl rfl HRS4.out Tryd.underlying23 rfl (by rw [u8s_length, HS.out]; exact size25) ?_) | (go_at_call 34; with_reducible refine (HB0.out _ HC4.out).mono ?_; rintro e w5 ⟨A5, c5, rfl, hv5, hc5⟩; have HV5 := Lib.hid hv5; have HC5 := Lib.hid (HC4.out.trans hc5); have HR5 := Lib.hid (HR4.out.chg hc5 (fun h => h)); have HRS5 := Lib.hid (HRS4.out.chg hc5 (fun h => h)); have HRR5 := Lib.hid (HRR4.out.chg hc5 (fun h => h)); have HS5 := Lib.hid hc5.size; clear hv5 hc5) | ((with_reducible show wpList _ _ _ (⟨some 14, .load 23 _, _, _, _, _⟩ :: _) _ _); refine wpList_load_Row rfl rfl rfl (HRS5.out) Tryd.underlying23 rfl (by rw [u8s_length, HS.out]; exact size25) ?_) | (go_at_call 34; with_reducible refine (HB1.out _ HC5.out).mono ?_; rintro e w6 ⟨A6, c6, rfl, hv6, hc6⟩; have HV6 := Lib.hid hv6; have HC6 := Lib.hid (HC5.out.trans hc6); have HR6 := Lib.hid (HR5.out.chg hc6 (fun h => h)); have HRS6 := Lib.hid (HRS5.out.chg hc6 (fun h => h)); have HRR6 := Lib.hid (HRR5.out.chg hc6 (fun h => h)); have HS6 := Lib.hid hc6.size; have HV5b := Lib.hid (HV5.out.chg hc6 (fun _ _ h => h)); clear hv6 hc6) | ((with_reducible show wpList _ _ _ (⟨some 16, .load 23 _, _, _, _, _⟩ :: _) _ _); refine wpList_load_Row rfl rfl rfl (HRS6.out) Tryd.underlying23 rfl (by rw [u8s_length, HS.out]; exact size25) ?_) | (go_at_call 34; with_reducible refine (HB2.out _ HC6.out).mono ?_; rintro e w7 ⟨A7, c7, rfl, hv7, hc7⟩; have HV7 := Lib.hid hv7; have HC7 := Lib.hid (HC6.out.trans hc7); have HR7 := Lib.hid (HR6.out.chg hc7 (fun h => h)); have HRS7 := Lib.hid (HRS6.out.chg hc7 (fun h => h)); have HRR7 := Lib.hid (HRR6.out.chg hc7 (fun h => h)); have HS7 := Lib.hid hc7.size; have HV5c := Lib.hid (HV5b.out.chg hc7 (fun _ _ h => h)); have HV6b := Lib.hid (HV6.out.chg hc7 (fun _ _ h => h)); clear hv7 hc7))
  have HGS : Hid (w.heap.size < w1.heap.size ∧ w1.heap.size < w2.heap.size ∧ w2.heap.size < w4.heap.size ∧ w4.heap.size ≤ w5.heap.size ∧ w5.heap.size ≤ w6.heap.size) := Lib.hid ⟨HG1.out, HG2.out, Nat.lt_of_lt_of_le HG3.out HS4.out, HS5.out, HS6.out⟩
  clear HG1 HG2 HG3 HS4 HS5 HS6 HS7 HRS1 HRS2 HRS3 HRS4 HRS5 HRS6 HRS7 HRR2 HRR3 HRR4 HRR5 HRR6 HR3 HR4 HR5 HR6 HV5 HV5b HV6 HC1 HC2 HC3 HN3 HC4 HC5 HC6 HB0 HB1 HB2
  go_loopw [9] (fun iv wr => ∃ k : Nat, k ≤ 32 ∧ iv = .int .i64 k ∧ Row wr w2.heap.size 29 (cellsS (stP M k)) ∧ Chg (· = w2.heap.size) w7 wr) (fun iv _ => 32 - (intOf iv).toNat)
  case atStart => exact ⟨0, Nat.zero_le _, rfl, HR7.out, Chg.refl _ _⟩
  case round =>
    obtain ⟨k, hk, rfl, hrow, hch⟩ := hrel
    rcases Nat.lt_or_ge k 12 with h12 | h12
    · have q1 : (0 : Int) ≤ (k : Int) := by omega
      have q2 : (k : Int) < 32 := by omega
      have f0 := hrow.frozen k
      have HLT : Hid (k < 12) := Lib.hid (by omega)
      have HKF : Hid (∀ w', Row w' w2.heap.size 29 (cellsS (stP M k)) → k < 16 → Row (w'.setCell ⟨w2.heap.size, k, none⟩ (.int .u8 ((M.key.getD k 0 : Nat) : Int))) w2.heap.size 29 (cellsS (stK M k))) := Lib.hid (fun w' h h2 => row_K h h2)
      have HIF : Hid (∀ w', Row w' w2.heap.size 29 (cellsS (stK M k)) → k < 12 → Row (w'.setCell ⟨w2.heap.size, 16 + k, none⟩ (.int .u8 ((M.iv.getD k 0 : Nat) : Int))) w2.heap.size 29 (cellsS (stI M k))) := Lib.hid (fun w' h h2 => row_I h h2)
      have HNF : Hid (∀ w', Row w' w2.heap.size 29 (cellsS (stI M k)) → k < 32 → Row (w'.setCell ⟨w2.heap.size, 28 + k, none⟩ (.int .u8 ((M.next.getD k 0 : Nat) : Int))) w2.heap.size 29 (cellsS (stP M (k + 1)))) := Lib.hid (fun w' h h2 => row_N h h2)
      obtain ⟨b5, o5, hA5, hb5, hT5, d5⟩ := (HV5c.out.chg hch (fun b hb e => by have := HGS.out; omega)).at_ (i := k) (by omega)
      subst hA5
      have HB5 : Hid (b5 < wr.heap.size ∧ w4.heap.size ≤ b5) := Lib.hid ⟨hb5, by have := HGS.out; omega⟩
      clear hb5 hT5
      obtain ⟨b6, o6, hA6, hb6, hT6, d6⟩ := (HV6b.out.chg hch (fun b hb e => by have := HGS.out; omega)).at_ (i := k) (by omega)
      subst hA6
      have HB6 : Hid (b6 < wr.heap.size ∧ w4.heap.size ≤ b6) := Lib.hid ⟨hb6, by have := HGS.out; omega⟩
      clear hb6 hT6
      obtain ⟨b7, o7, hA7, hb7, hT7, d7⟩ := (HV7.out.chg hch (fun b hb e => by have := HGS.out; omega)).at_ (i := k) (by omega)
      subst hA7
      have HB7 : Hid (b7 < wr.heap.size ∧ w4.heap.size ≤ b7) := Lib.hid ⟨hb7, by have := HGS.out; omega⟩
      clear hb7 hT7
      obtain ⟨z0, c0⟩ := sc_cell hrow (stP_len M k) (i := k) (by omega)
      have q3 : (k : Int) < 16 := by omega
      have q4 : (k : Int) < 12 := by omega
      have HROW := Lib.hid hrow
      have HC_wr := Lib.hid hch
      generalize M.key.getD k 0 = x0 at *
      generalize M.iv.getD k 0 = x1 at *
      generalize M.next.getD k 0 = x2 at *
      clear hrow hch hk h12
      go_wp2_with (first | ((with_reducible show wpList _ _ _ (⟨some 37, _, _, _, _, _⟩ :: _) _ _); refine wpList_nameS ?_; intro y1 hx_y1; have HQ_y1 := Lib.hid (show Row y1 w2.heap.size 29 (cellsS (stK M k)) by (rw [hx_y1]; exact HKF.out _ HROW.out (by have := HLT.out; omega))); have hc_y1 := (show Chg (· = w2.heap.size) wr y1 by (rw [hx_y1]; exact chg_set_K _ _ _ _)); have HC_y1 := Lib.hid (HC_wr.out.trans hc_y1); have e6_y1 := (hc_y1.cell _ HB6.out.1 (fun e => by have := HB6.out; have := HGS.out; omega)).trans d6; have HB6 := Lib.hid (And.intro (Nat.lt_of_lt_of_le HB6.out.1 hc_y1.size) HB6.out.2); have e7_y1 := (hc_y1.cell _ HB7.out.1 (fun e => by have := HB7.out; have := HGS.out; omega)).trans d7; have HB7 := Lib.hid (And.intro (Nat.lt_of_lt_of_le HB7.out.1 hc_y1.size) HB7.out.2); obtain ⟨z_y1, c_y1⟩ := sc_cell HQ_y1.out (stK_len M k) (i := 16 + k) (by have := HLT.out; omega); have f_y1 := HQ_y1.out.frozen (16 + k); clear hx_y1 hc_y1) | ((with_reducible show wpList _ _ _ (⟨some 44, _, _, _, _, _⟩ :: _) _ _); refine wpList_nameS ?_; intro y2 hx_y2; have HQ_y2 := Lib.hid (show Row y2 w2.heap.size 29 (cellsS (stI M k)) by (rw [hx_y2]; exact HIF.out _ HQ_y1.out (by have := HLT.out; omega))); have hc_y2 := (show Chg (· = w2.heap.size) y1 y2 by (rw [hx_y2]; exact chg_set_K _ _ _ _)); have HC_y2 := Lib.hid (HC_y1.out.trans hc_y2); have e7_y2 := (hc_y2.cell _ HB7.out.1 (fun e => by have := HB7.out; have := HGS.out; omega)).trans e7_y1; have HB7 := Lib.hid (And.intro (Nat.lt_of_lt_of_le HB7.out.1 hc_y2.size) HB7.out.2); obtain ⟨z_y2, c_y2⟩ := sc_cell HQ_y2.out (stI_len M k) (i := 28 + k) (by have := HLT.out; omega); have f_y2 := HQ_y2.out.frozen (28 + k); clear hx_y2 hc_y2))
      go_roundw
      case rel => exact ⟨k + 1, by have := HLT.out; omega, by go_num, HNF.out _ HQ_y2.out (by have := HLT.out; omega), HC_y2.out.setCell (fun _ => rfl) _⟩
      case measure => have := HLT.out; simp [intOf]; omega
    rcases Nat.lt_or_ge k 16 with h16 | h16
    · have q1 : (0 : Int) ≤ (k : Int) := by omega
      have q2 : (k : Int) < 32 := by omega
      have f0 := hrow.frozen k
      have HLT : Hid (12 ≤ k ∧ k < 16) := Lib.hid (by omega)
      have HKF : Hid (∀ w', Row w' w2.heap.size 29 (cellsS (stP M k)) → k < 16 → Row (w'.setCell ⟨w2.heap.size, k, none⟩ (.int .u8 ((M.key.getD k 0 : Nat) : Int))) w2.heap.size 29 (cellsS (stK M k))) := Lib.hid (fun w' h h2 => row_K h h2)
      have HIF : Hid (∀ w', Row w' w2.heap.size 29 (cellsS (stK M k)) → k < 12 → Row (w'.setCell ⟨w2.heap.size, 16 + k, none⟩ (.int .u8 ((M.iv.getD k 0 : Nat) : Int))) w2.heap.size 29 (cellsS (stI M k))) := Lib.hid (fun w' h h2 => row_I h h2)
      have HNF : Hid (∀ w', Row w' w2.heap.size 29 (cellsS (stI M k)) → k < 32 → Row (w'.setCell ⟨w2.heap.size, 28 + k, none⟩ (.int .u8 ((M.next.getD k 0 : Nat) : Int))) w2.heap.size 29 (cellsS (stP M (k + 1)))) := Lib.hid (fun w' h h2 => row_N h h2)
      obtain ⟨b5, o5, hA5, hb5, hT5, d5⟩ := (HV5c.out.chg hch (fun b hb e => by have := HGS.out; omega)).at_ (i := k) (by omega)
      subst hA5
      have HB5 : Hid (b5 < wr.heap.size ∧ w4.heap.size ≤ b5) := Lib.hid ⟨hb5, by have := HGS.out; omega⟩
      clear hb5 hT5
      obtain ⟨b7, o7, hA7, hb7, hT7, d7⟩ := (HV7.out.chg hch (fun b hb e => by have := HGS.out; omega)).at_ (i := k) (by omega)
      subst hA7
      have HB7 : Hid (b7 < wr.heap.size ∧ w4.heap.size ≤ b7) := Lib.hid ⟨hb7, by have := HGS.out; omega⟩
      clear hb7 hT7
      obtain ⟨z0, c0⟩ := sc_cell hrow (stP_len M k) (i := k) (by omega)
      have q3 : (k : Int) < 16 := by omega
      have q4 : ¬ (k : Int) < 12 := by omega
      have HROW := Lib.hid hrow
      have HC_wr := Lib.hid hch
      have HS12 : Hid (stK M k = stI M k) := Lib.hid (stI_12 M k (by omega))
      generalize M.key.getD k 0 = x0 at *
      generalize M.iv.getD k 0 = x1 at *
      generalize M.next.getD k 0 = x2 at *
      clear hrow hch hk h12 h16
      go_wp2_with (first | ((with_reducible show wpList _ _ _ (⟨some 44, _, _, _, _, _⟩ :: _) _ _); refine wpList_nameS ?_; intro y2 hx_y2; have HQ_y2 := Lib.hid (show Row y2 w2.heap.size 29 (cellsS (stI M k)) by (rw [hx_y2]; exact by (rw [← HS12.out]; exact HKF.out _ HROW.out (by have := HLT.out; omega)))); have hc_y2 := (show Chg (· = w2.heap.size) wr y2 by (rw [hx_y2]; exact chg_set_K _ _ _ _)); have HC_y2 := Lib.hid (HC_wr.out.trans hc_y2); have e7_y2 := (hc_y2.cell _ HB7.out.1 (fun e => by have := HB7.out; have := HGS.out; omega)).trans d7; have HB7 := Lib.hid (And.intro (Nat.lt_of_lt_of_le HB7.out.1 hc_y2.size) HB7.out.2); obtain ⟨z_y2, c_y2⟩ := sc_cell HQ_y2.out (stI_len M k) (i := 28 + k) (by have := HLT.out; omega); have f_y2 := HQ_y2.out.frozen (28 + k); clear hx_y2 hc_y2))
      go_roundw
      case rel => exact ⟨k + 1, by have := HLT.out; omega, by go_num, HNF.out _ HQ_y2.out (by have := HLT.out; omega), HC_y2.out.setCell (fun _ => rfl) _⟩
      case measure => have := HLT.out; simp [intOf]; omega
    rcases Nat.lt_or_ge k 32 with h32 | h32
    · have q1 : (0 : Int) ≤ (k : Int) := by omega
      have q2 : (k : Int) < 32 := by omega
      have f0 := hrow.frozen (28 + k)
      have HLT : Hid (16 ≤ k ∧ k < 32) := Lib.hid (by omega)
      have HKF : Hid (∀ w', Row w' w2.heap.size 29 (cellsS (stP M k)) → k < 16 → Row (w'.setCell ⟨w2.heap.size, k, none⟩ (.int .u8 ((M.key.getD k 0 : Nat) : Int))) w2.heap.size 29 (cellsS (stK M k))) := Lib.hid (fun w' h h2 => row_K h h2)
      have HIF : Hid (∀ w', Row w' w2.heap.size 29 (cellsS (stK M k)) → k < 12 → Row (w'.setCell ⟨w2.heap.size, 16 + k, none⟩ (.int .u8 ((M.iv.getD k 0 : Nat) : Int))) w2.heap.size 29 (cellsS (stI M k))) := Lib.hid (fun w' h h2 => row_I h h2)
      have HNF : Hid (∀ w', Row w' w2.heap.size 29 (cellsS (stI M k)) → k < 32 → Row (w'.setCell ⟨w2.heap.size, 28 + k, none⟩ (.int .u8 ((M.next.getD k 0 : Nat) : Int))) w2.heap.size 29 (cellsS (stP M (k + 1)))) := Lib.hid (fun w' h h2 => row_N h h2)
      obtain ⟨b7, o7, hA7, hb7, hT7, d7⟩ := (HV7.out.chg hch (fun b hb e => by have := HGS.out; omega)).at_ (i := k) (by omega)
      subst hA7
      have HB7 : Hid (b7 < wr.heap.size ∧ w4.heap.size ≤ b7) := Lib.hid ⟨hb7, by have := HGS.out; omega⟩
      clear hb7 hT7
      obtain ⟨z0, c0⟩ := sc_cell hrow (stP_len M k) (i := 28 + k) (by omega)
      have q3 : ¬ (k : Int) < 16 := by omega
      have q4 : ¬ (k : Int) < 12 := by omega
      have HROW : Hid (Row wr w2.heap.size 29 (cellsS (stI M k))) := Lib.hid (by rw [← stI_16 M k (by omega)]; exact hrow)
      have HC_wr := Lib.hid hch
      generalize M.key.getD k 0 = x0 at *
      generalize M.iv.getD k 0 = x1 at *
      generalize M.next.getD k 0 = x2 at *
      clear hrow hch hk h12 h16 h32
      go_wp2
      go_roundw
      case rel => exact ⟨k + 1, by have := HLT.out; omega, by go_num, HNF.out _ HROW.out (by have := HLT.out; omega), HC_wr.out.setCell (fun _ => rfl) _⟩
      case measure => have := HLT.out; simp [intOf]; omega
    · have hk32 : k = 32 := by omega
      subst hk32
      rw [stP_32 HMO.out] at hrow
      have HROW := Lib.hid hrow
      have HRRr := Lib.hid (HRR7.out.chg hch (fun e => by have := HGS.out; omega))
      have HE := Lib.hid (HC7.out.andThen hch (fun b h e => by have := HGS.out; omega))
      have q0 : ¬ (((32 : Nat) : Int) < 32) := by decide
      clear hrow hch hk h12 h16 h32
      go_wp2_with (first | ((with_reducible show wpList _ _ _ (⟨some 47, .load 29 _, _, _, _, _⟩ :: _) _ _); refine wpList_load_Row rfl rfl rfl (HROW.out) Tryd.underlying29 rfl (by rw [cellsS_len HMO.out]; exact sizeSc) ?_) | ((with_reducible show wpList _ _ _ (⟨_, .store 29 (.tmp 4) _, _, _, _, _⟩ :: _) _ _); refine wpList_store_Row (xs := cellsS M) rfl rfl rfl (HRRr.out) (rfl) (by rw [cellsS_len HMO.out]; rfl) (by rw [cellsS_len HMO.out]; exact sizeSc) (cellsS_one M) ?_; intro w9 hr9 hc9 hs9; have HR9 := Lib.hid hr9; have HC9 := Lib.hid hc9; clear hr9 hc9 hs9))
      refine ret_row rfl rfl HR9.out Tryd.underlying29 rfl (by rw [cellsS_len HMO.out]; exact sizeSc) rfl ?_
      exact ⟨rfl, HC9.out none_ w HE.out (fun h => by have := HGS.out; omega)⟩
end Go.Proofs.YtidafbpiipjnlaaDoor
