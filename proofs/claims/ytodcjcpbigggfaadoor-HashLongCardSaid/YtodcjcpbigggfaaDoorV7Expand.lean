/- Layer 7 (hash): what a secret is expanded to. -/
import Derived.Test.YtodcjcpbigggfaaDoorV7Tag
import Derived.Test.YtodcjcpbigggfaaDoorConcatG
namespace Go.Proofs.YtodcjcpbigggfaaDoor
open Go.RowKit

theorem chainN_lt (s info : List Nat) : ∀ k, ∀ x ∈ chainN s info k, x < 256
  | 0 => by simp [chainN]
  | k + 1 => tagN_lt _ _
theorem chainN_len (s info : List Nat) (k : Nat) : (chainN s info (k + 1)).length = 32 := tagN_len _ _
theorem chainN_le (s info : List Nat) : ∀ k, (chainN s info k).length ≤ 32
  | 0 => by simp [chainN]
  | k + 1 => by rw [chainN_len]; omega
theorem allN_len (s info : List Nat) : ∀ k, (allN s info k).length = 32 * k
  | 0 => rfl
  | k + 1 => by rw [allN, List.length_append, allN_len s info k, chainN_len]; omega
/-- What is laid, as far as it goes. -/
def outP (s info : List Nat) (n k : Nat) : List Nat := (allN s info k).take n ++ List.replicate (n - 32 * k) 0
theorem outP_0 (s info : List Nat) (n : Nat) : outP s info n 0 = List.replicate n 0 := by simp [outP, allN]
theorem outP_len (s info : List Nat) (n k : Nat) : (outP s info n k).length = n := by simp [outP, allN_len]; omega
theorem outP_end (s info : List Nat) (n k : Nat) (h : n ≤ 32 * k) : outP s info n k = (allN s info k).take n := by simp [outP, show n - 32 * k = 0 from by omega]
theorem outP_split (s info : List Nat) (n k : Nat) (h : 32 * k ≤ n) : outP s info n k = allN s info k ++ List.replicate (n - 32 * k) 0 := by rw [outP, List.take_of_length_le (by rw [allN_len]; exact h)]
theorem outP_next (s info : List Nat) (n k : Nat) (h : 32 * k ≤ n) : allN s info k ++ ((chainN s info (k + 1)).take (n - 32 * k) ++ (List.replicate (n - 32 * k) 0).drop 32) = outP s info n (k + 1) := by
  rw [outP, allN, List.take_append, List.take_of_length_le (l := allN s info k) (by rw [allN_len]; exact h), allN_len, List.drop_replicate, List.append_assoc, show n - 32 * k - 32 = n - 32 * (k + 1) from by omega]

theorem Fresh.le {w : World} {base : Nat} {A : Option Addr} {cap : Nat} {l : List Nat} (h : Fresh w base A cap l) : l.length ≤ cap := by
  obtain ⟨A', cap', e, h2, _, _⟩ := View.own (T := fun _ => True) h.own (fun _ _ => trivial)
  injection e with _ _ e3
  omega

theorem View.mono' {w : World} {g c n : Nat} {xs : List Value} {B : Nat} (h : View w (fun b => b ≠ c) (some ⟨g, 0, none⟩) n xs) (hg : B ≤ g) : View w (fun b => B ≤ b) (some ⟨g, 0, none⟩) n xs :=
  ⟨h.1, fun hn => by
    obtain ⟨b, o, ha, hb, _, hc⟩ := h.2 hn
    injection ha with ha
    injection ha with h1 h2
    subst h1; subst h2
    exact ⟨g, 0, rfl, hb, hg, hc⟩⟩
/-- slices.Concat of three slices that lie in a row. -/
theorem cat3 (w : World) (g : Nat) (e : TypeId) (A1 A2 A3 : Option Addr) (c1 c2 c3 : Nat) (l1 l2 l3 : List Nat) (T1 T2 T3 : Nat → Prop) (hr : Row w g e [.slice A1 l1.length c1, .slice A2 l2.length c2, .slice A3 l3.length c3])
    (h1 : View w T1 A1 l1.length (u8s l1)) (h2 : View w T2 A2 l2.length (u8s l2)) (h3 : View w T3 A3 l3.length (u8s l3)) (ht : l1.length + (l2.length + l3.length) ≤ 1000000) :
    Calls Tryd.prog 22 #[.slice (some ⟨g, 0, none⟩) 3 3] w (GotBytes w (l1 ++ (l2 ++ l3))) := by
  have hv := View.row (T := fun _ => True) hr (n := 3) (Nat.le_refl _) trivial
  rw [List.take_of_length_le (by simp)] at hv
  have := concat_got w (fun _ => True) _ 3 [.slice A1 l1.length c1, .slice A2 l2.length c2, .slice A3 l3.length c3] [l1, l2, l3] hv rfl (fun i hi => by
    match i, hi with
    | 0, _ => exact ⟨A1, c1, rfl, h1.mono (fun _ _ _ => trivial)⟩
    | 1, _ => exact ⟨A2, c2, rfl, h2.mono (fun _ _ _ => trivial)⟩
    | 2, _ => exact ⟨A3, c3, rfl, h3.mono (fun _ _ _ => trivial)⟩) (by simp [total]; omega) (by simp)
  simpa using this

theorem expand_none (s : List Nat) (n : Int) (v : Value) (w : World) (hn : n < 0 ∨ 255 < n) :
    Calls Tryd.prog 15 #[.agg (u8s s).toArray, v, .int .i64 n] w fun e w' => e = .returned (.slice none 0 0) ∧ Chg none_ w w' := by
  have hb : decide (n < 0) = true ∨ (decide (n < 0) = false ∧ decide (255 < n) = true) := by
    by_cases h : n < 0
    · left; simpa using h
    · right; simp; omega
  clear hn
  rcases hb with h1 | ⟨h1, h2⟩
  all_goals
    go_enter Tryd.func15, Tryd.ntmps15
    go_wp2_with (first | ((with_reducible show wpList _ _ _ (⟨_, .box 25 _, _, _, _, _⟩ :: _) _ _); refine wpList_box_Row rfl rfl (u8s s) rfl ?_; intro w1 hr1 hc1 hs1; have HR1 := Lib.hid hr1; have HC1 := Lib.hid hc1; clear hr1 hc1 hs1))
    go_ret
    exact ⟨rfl, HC1.out⟩

set_option maxRecDepth 100000 in
set_option maxHeartbeats 4000000 in
theorem expand_ok (s info : List Nat) (n m : Nat) (hm : (n + 31) / 32 = m) (Ti : Nat → Prop) (Ai : Option Addr) (ci : Nat) (w : World) (hn : n ≤ 255) (hs : s.length = 32) (hsb : ∀ x ∈ s, x < 256) (hvi : View w Ti Ai info.length (u8s info)) (hil : info.length ≤ 900000) (hic : info.length ≤ ci) (hib : ∀ x ∈ info, x < 256) (hT : HTab w) :
    Calls Tryd.prog 15 #[.agg (u8s s).toArray, .slice Ai info.length ci, .int .i64 n] w fun e w' => GotBytes w ((allN s info m).take n) e w' := by
  have HS := Lib.hid hs
  have HSB := Lib.hid hsb
  have HIC := Lib.hid hic
  have HIB := Lib.hid hib
  have HTX : Hid (∀ w', Chg none_ w w' → HTab w') := Lib.hid (fun w' hc => hT.chg hc (fun h => h) (fun h => h))
  have HVI : Hid (∀ w', Chg none_ w w' → View w' (fun b => b < w.heap.size) Ai info.length (u8s info)) := Lib.hid (fun w' hc => (hvi.mono (T' := fun b => b < w.heap.size) (fun _ h _ => h)).chg hc (fun _ _ h => h))
  obtain ⟨i0, hi, hz0, hz1, hz2⟩ := info_parts info5
  clear hs hsb hic hib hT hvi
  go_enter Tryd.func15, Tryd.ntmps15
  go_wp2_with (first | ((with_reducible show wpList _ _ _ (⟨_, .box 25 _, _, _, _, _⟩ :: _) _ _); refine wpList_box_Row rfl rfl (u8s s) rfl ?_; intro w1 hr1 hc1 hs1; have HR1 := Lib.hid hr1; have HC1 := Lib.hid hc1; clear hr1 hc1 hs1) | (at_make; refine wpList_make_full _ rfl _ _ _ rfl w1.heap.size 5 i0 _ 1 Tryd.underlying22 hi hz0 hz1 _ _ _ _ n rfl rfl rfl rfl (by rw [hz2]; omega) (by unfold maxLen; omega) (Nat.le_refl _) ?_; intro w2 hown hgrow))
  have HR2 : Hid (Row w2 w1.heap.size 5 (u8s (List.replicate n 0))) := Lib.hid (by
    have := Row.of_made hown
    rw [show (Value.int .u8 0).cells = #[.int .u8 0] from rfl, toList_madeCells_one] at this
    simpa [u8s] using this)
  have HC2 : Hid (Chg none_ w1 w2) := Lib.hid ((Chg.refl none_ w1).grown hgrow (by intro k hk; cases hk))
  clear hown hgrow
  have e22 : (((n : Int) + 32 - 1) / 32) = (m : Int) := by omega
  have hd1 : decide ((n : Int) < 0) = false := by simp
  have hd2 : decide ((255 : Int) < (n : Int)) = false := by simp; omega
  have hm8 : m ≤ 8 := by omega
  have HM := Lib.hid hm
  clear hm
  simp only [e22, hd1, hd2, Bool.or_self]
  clear e22 hd1 hd2
  have HG := Lib.hid (show w.heap.size < w1.heap.size ∧ w1.heap.size < w2.heap.size from ⟨HR1.out.lt, HR2.out.lt⟩)
  have HR1x := Lib.hid (HR1.out.chg HC2.out (fun h => h))
  have HCH := Lib.hid (HC1.out.trans HC2.out)
  have HTY : Hid (∀ w', Chg (· = w1.heap.size) w2 w' → HTab w') := Lib.hid (fun w' hc => HTX.out _ (HCH.out.andThen hc (fun b h e => by have := HG.out; omega)))
  have HVY : Hid (∀ w', Chg (· = w1.heap.size) w2 w' → View w' (fun b => b < w.heap.size) Ai info.length (u8s info)) := Lib.hid (fun w' hc => HVI.out _ (HCH.out.andThen hc (fun b h e => by have := HG.out; omega)))
  have HRY : Hid (∀ w', Chg (· = w1.heap.size) w2 w' → Row w' w.heap.size 25 (u8s s)) := Lib.hid (fun w' hc => HR1x.out.chg hc (by have := HG.out; omega))
  clear HTX HVI HR1 HC1 HC2 HR1x
  go_loopw [8, 23] (fun a i wr => ∃ (k : Nat) (Aa : Option Addr) (ca : Nat), k ≤ m ∧ i = .int .i64 k ∧ a = .slice Aa (chainN s info k).length ca ∧ View wr (fun b => w2.heap.size ≤ b) Aa (chainN s info k).length (u8s (chainN s info k)) ∧ Row wr w1.heap.size 5 (u8s (outP s info n k)) ∧ Chg (· = w1.heap.size) w2 wr) (fun _ i _ => m - (intOf i).toNat)
  case atStart => exact ⟨0, none, 0, Nat.zero_le _, rfl, rfl, View.none_ _ _ _, by rw [outP_0]; exact HR2.out, Chg.refl _ _⟩
  case round =>
    obtain ⟨k, Aa, ca, hk, rfl, rfl, hva, hrow, hch⟩ := hrel
    have HVA := Lib.hid hva
    have HROW := Lib.hid hrow
    have HC := Lib.hid hch
    by_cases hlt : k < m
    · have hkn : 32 * k < n := by have := HM.out; omega
      have HCL := Lib.hid (chainN_le s info k)
      have HCB := Lib.hid (chainN_lt s info k)
      clear hva hrow hch
      have HNX : Hid (chainN s info (k + 1) = tagN s (chainN s info k ++ (info ++ [k + 1]))) := Lib.hid (by rw [chainN, Nat.mod_eq_of_lt (by omega), List.append_assoc])
      have HOS := Lib.hid (outP_split s info n k (by omega))
      have HON := Lib.hid (outP_next s info n k (by omega))
      have HAL := Lib.hid (allN_len s info k)
      rw [HNX.out] at HON
      generalize chainN s info k = C at HVA HCL HCB HNX HON ⊢
      generalize hLLe : C ++ (info ++ [k + 1]) = LL at HNX HON
      have HLLL : Hid (LL.length ≤ 1000000) := Lib.hid (by rw [← hLLe]; have := HCL.out; simp; omega)
      have HLLB : Hid (∀ x ∈ LL, x < 256) := Lib.hid (by rw [← hLLe]; intro x hx; simp only [List.mem_append, List.mem_singleton] at hx; rcases hx with h | h | rfl; exact HCB.out x h; exact HIB.out x h; omega)
      have HLLe := Lib.hid hLLe
      clear hLLe
      have HTAG : Hid (∀ w' Ac cc, Chg none_ wr w' → View w' (fun _ => True) Ac LL.length (u8s LL) → LL.length ≤ cc → Calls Tryd.prog 11 #[.slice (some ⟨w.heap.size, 0, none⟩) 32 32, .slice Ac LL.length cc] w' fun e w'' => e = .returned (.agg (u8s (tagN s LL)).toArray) ∧ Chg none_ w' w'') := Lib.hid (fun w' Ac cc hc hv hcc => by
        have hc2 : Chg (· = w1.heap.size) w2 w' := HC.out.trans (hc.mono (fun _ _ h => h.elim))
        have hvs := View.row (T := fun _ => True) (HRY.out _ hc2) (n := s.length) (by simp) trivial
        rw [List.take_of_length_le (by simp)] at hvs
        have hh := tag_any _ _ (some ⟨w.heap.size, 0, none⟩) Ac 32 cc s LL w' hvs hv (by rw [HS.out]; omega) HLLL.out (by rw [HS.out]; omega) hcc HSB.out HLLB.out (HTY.out _ hc2)
        rw [HS.out] at hh
        exact hh)
      have HCAT : Hid (∀ w' g6 g7, Chg none_ wr w' → Row w' g6 5 [.int .u8 ((k : Int) + 1)] → Row w' g7 22 [.slice Aa C.length ca, .slice Ai info.length ci, .slice (some ⟨g6, 0, none⟩) 1 1] → Calls Tryd.prog 22 #[.slice (some ⟨g7, 0, none⟩) 3 3] w' (GotBytes w' LL)) := Lib.hid (fun w' g6 g7 hc h6 h7 => by
        have hc2 : Chg (· = w1.heap.size) w2 w' := HC.out.trans (hc.mono (fun _ _ h => h.elim))
        have h6' : Row w' g6 5 (u8s [k + 1]) := h6
        have hv6 := View.row (T := fun _ => True) h6' (n := 1) (by simp) trivial
        have hh := cat3 w' g7 _ Aa Ai (some ⟨g6, 0, none⟩) ca ci 1 C info [k + 1] _ _ _ h7 (HVA.out.chg hc (fun _ _ h => h)) (HVY.out _ hc2) hv6 (by have := HCL.out; simp; omega)
        rw [HLLe.out] at hh
        exact hh)
      generalize tagN s LL = TG at HNX HON HTAG
      have HTGL : Hid (TG.length = 32) := Lib.hid (by rw [← HNX.out]; exact chainN_len _ _ _)
      have Q1 : Hid (IntKind.i64.wrap ((k : Int) + 1) = (k : Int) + 1) := Lib.hid (IntWalk.i64_in _ (by omega))
      have Q2 : Hid (IntKind.u8.wrap ((k : Int) + 1) = (k : Int) + 1) := Lib.hid (by show ((k : Int) + 1) % 256 = _; omega)
      go_wp2
      refine Code.wp_mono (Q := fun e a w' => e = .normal ∧ ∃ (g10 : Nat) (x32 x33 x34 : Value), a = ⟨#[.agg (u8s s).toArray, .slice Ai info.length ci, .int .i64 n, .pointer (some ⟨w.heap.size, 0, none⟩), undef, undef, .slice none 0 0, .slice (some ⟨w1.heap.size, 0, none⟩) n n, .slice Aa C.length ca, .int .i64 k, .pointer (some ⟨g10, 0, none⟩), .int .i64 n, .bool false, .bool false, .int .i64 n, .bool false, .bool false, .int .i64 n, .slice (some ⟨w1.heap.size, 0, none⟩) n n, .int .i64 n, .int .i64 ((n : Int) + 32), .int .i64 ((n : Int) + 32 - 1), .int .i64 m, .int .i64 k, .bool true, .int .i64 k, .slice (some ⟨w.heap.size, 0, none⟩) 32 32, .slice Aa C.length ca, .slice Ai info.length ci, .int .i64 k, .int .i64 ((k : Int) + 1), .int .u8 ((k : Int) + 1), x32, x33, x34, .agg (u8s TG).toArray, u36, u37, u38, u39, u40, u41, u42, u43, undef], []⟩ ∧ Row w' g10 25 (u8s TG) ∧ wr.heap.size ≤ g10 ∧ Chg none_ wr w') ?hq ?_
      case hq =>
        rintro e a w3 ⟨rfl, g10, x32, x33, x34, rfl, hr10, hg10, hc3⟩
        have HR10 := Lib.hid hr10
        have HC3 : Hid (Chg (· = w1.heap.size) w2 w3) := Lib.hid (HC.out.trans (hc3.mono (fun _ _ h => h.elim)))
        have HROW3 := Lib.hid (HROW.out.chg hc3 (fun h => h))
        have HG10 := Lib.hid (Nat.le_trans HC.out.size hg10)
        clear hr10 hg10 hc3
        have Q3 : Hid (IntKind.i64.wrap ((k : Int) * 32) = ((32 * k : Nat) : Int)) := Lib.hid (by rw [IntWalk.i64_in _ (by omega)]; omega)
        have HDA : Hid (dropA (some ⟨w1.heap.size, 0, none⟩) n (32 * k) = some ⟨w1.heap.size, (u8s (allN s info k)).length, none⟩) := Lib.hid (by unfold dropA; rw [if_neg (by omega), u8s_length, HAL.out]; simp [addr_add])
        have HROW4 : Hid (Row w3.drew w1.heap.size 5 (u8s (allN s info k) ++ u8s (List.replicate (n - 32 * k) 0) ++ [])) := Lib.hid (by
          rw [List.append_nil]
          have hh := HROW3.out
          rw [HOS.out, ← u8s_append'] at hh
          exact hh.drew)
        have HV10 : Hid (View w3 (fun b => b ≠ w1.heap.size) (some ⟨g10, 0, none⟩) 32 (u8s TG)) := Lib.hid (by
          have hh := View.row (T := fun b => b ≠ w1.heap.size) HR10.out (n := 32) (by rw [u8s_length, HTGL.out]; omega) (by have := HG.out; have := HG10.out; omega)
          rw [List.take_of_length_le (by rw [u8s_length, HTGL.out]; omega)] at hh
          exact hh)
        go_wp2
        refine wp_region_held_drew (S := fun w' => Chg (· = w1.heap.size) w3 w') (by kernel_rfl) ((Chg.refl _ w3).drew) (fun hch0 => ?_)
        refine wpAnyH_take (i := 0) (v := .slice (some ⟨w1.heap.size, 0, none⟩) n n) rfl (by kernel_rfl) (by kernel_rfl) (by kernel_rfl) (by first | exact fun _ _ _ h => h | exact fun _ _ _ h => nomatch h.1) (Or.inl ⟨by rfl, fun w_ hw_ => by go_simp⟩) hch0 ?_
        refine wpAnyH_take (i := 1) (v := .int .i64 (k : Nat)) rfl (by kernel_rfl) (by kernel_rfl) (by kernel_rfl) (by first | exact fun _ _ _ h => h | exact fun _ _ _ h => nomatch h.1) (Or.inl ⟨by rfl, fun w_ hw_ => by go_simp⟩) hch0 ?_
        refine wpAnyH_take (i := 2) (v := .int .i64 ((32 * k : Nat) : Int)) rfl (by kernel_rfl) (by kernel_rfl) (by kernel_rfl) (by first | exact fun _ _ _ h => h | exact fun _ _ _ h => nomatch h.1) (Or.inl ⟨by rfl, fun w_ hw_ => by go_simp; exact Q3.out⟩) hch0 ?_
        refine wpAnyH_take (i := 3) (v := .slice (some ⟨w1.heap.size, (u8s (allN s info k)).length, none⟩) (n - 32 * k) (n - 32 * k)) rfl (by kernel_rfl) (by kernel_rfl) (by kernel_rfl) (by first | exact fun _ _ _ h => h | exact fun _ _ _ h => nomatch h.1) (yieldsIf_slice_low (by rfl) 22 5 _ _ rfl (some ⟨w1.heap.size, 0, none⟩) n n (32 * k) rfl rfl Tryd.underlying22 size5 (by omega) HDA.out) hch0 ?_
        refine wpAnyH_take (i := 4) (v := .slice (some ⟨g10, 0, none⟩) 32 32) rfl (by kernel_rfl) (by kernel_rfl) (by kernel_rfl) (by first | exact fun _ _ _ h => h | exact fun _ _ _ h => nomatch h.1) (Or.inl ⟨by rfl, fun w_ hw_ => by go_simp⟩) hch0 ?_
        refine wpAnyH_ready (rs := [5]) (by kernel_rfl) (by simp) ?_
        refine AllReadyH.cons rfl (fun K hK => ?_) AllReadyH.nil
        rw [if_pos (by rfl)]
        try simp only [Act.put, List.setIfInBounds_toArray, List.set_cons_zero, List.set_cons_succ, List.getElem_toArray, List.getElem_cons_succ, List.getElem_cons_zero]
        refine wp_copy_min _ _ _ _ rfl (pre := u8s (allN s info k)) (ys := u8s (List.replicate (n - 32 * k) 0)) (post := []) (xs := u8s TG) (D := some ⟨w1.heap.size, (u8s (allN s info k)).length, none⟩) rfl rfl (fun _ => rfl) Tryd.underlying22 size5 HROW4.out (by simp) (HV10.out.chg hch0 (fun _ h => h)) (u8s_one _) ?_
        intro w4 hr4 hc4
        refine hK.out _ _ (hch0.trans hc4) (fun hch1 => ?_)
        clear hK K
        try simp only [Act.put, List.setIfInBounds_toArray, List.set_cons_zero, List.set_cons_succ, List.getElem_toArray, List.getElem_cons_succ, List.getElem_cons_zero]
        refine wpAnyH_done (by kernel_rfl) ?_ _
        go_wp2
        go_roundw
        case rel =>
          refine ⟨k + 1, some ⟨g10, 0, none⟩, 32, by omega, by go_num, by rw [HNX.out, HTGL.out], ?_, ?_, HC3.out.trans hch1⟩
          · rw [HNX.out, HTGL.out]
            exact (HV10.out.chg hch1 (fun _ h => h)).mono' HG10.out
          · have e1 : u8s (allN s info k) ++ ((u8s TG).take (n - 32 * k) ++ (u8s (List.replicate (n - 32 * k) 0)).drop 32) ++ [] = u8s (outP s info n (k + 1)) := by
              rw [List.append_nil, ← HON.out]
              simp only [u8s, List.map_take, List.map_drop, List.map_append]
            rw [← e1]
            exact hr4
        case measure => simp [intOf]; omega
      refine wp_region_held_drew (S := fun w' => Chg none_ wr w') (by kernel_rfl) ((Chg.refl none_ wr).drew) (fun hch0 => ?_)
      generalize wr.drew = wd at hch0 ⊢
      refine wpAnyH_take (i := 0) (v := .slice (some ⟨w.heap.size, 0, none⟩) 32 32) rfl (by kernel_rfl) (by kernel_rfl) (by kernel_rfl) (by first | exact fun _ _ _ h => h | exact fun _ _ _ h => nomatch h.1) (Or.inl ⟨by rfl, fun w_ hw_ => by go_simp⟩) hch0 ?_
      refine wpAnyH_take (i := 1) (v := .slice Aa C.length ca) rfl (by kernel_rfl) (by kernel_rfl) (by kernel_rfl) (by first | exact fun _ _ _ h => h | exact fun _ _ _ h => nomatch h.1) (Or.inl ⟨by rfl, fun w_ hw_ => by go_simp⟩) hch0 ?_
      refine wpAnyH_take (i := 2) (v := .slice Ai info.length ci) rfl (by kernel_rfl) (by kernel_rfl) (by kernel_rfl) (by first | exact fun _ _ _ h => h | exact fun _ _ _ h => nomatch h.1) (Or.inl ⟨by rfl, fun w_ hw_ => by go_simp⟩) hch0 ?_
      refine wpAnyH_take (i := 3) (v := .int .i64 (k : Nat)) rfl (by kernel_rfl) (by kernel_rfl) (by kernel_rfl) (by first | exact fun _ _ _ h => h | exact fun _ _ _ h => nomatch h.1) (Or.inl ⟨by rfl, fun w_ hw_ => by go_simp⟩) hch0 ?_
      refine wpAnyH_take (i := 4) (v := .int .i64 ((k : Int) + 1)) rfl (by kernel_rfl) (by kernel_rfl) (by kernel_rfl) (by first | exact fun _ _ _ h => h | exact fun _ _ _ h => nomatch h.1) (Or.inl ⟨by rfl, fun w_ hw_ => by go_simp; exact Q1.out⟩) hch0 ?_
      refine wpAnyH_take (i := 5) (v := .int .u8 ((k : Int) + 1)) rfl (by kernel_rfl) (by kernel_rfl) (by kernel_rfl) (by first | exact fun _ _ _ h => h | exact fun _ _ _ h => nomatch h.1) (Or.inl ⟨by rfl, fun w_ hw_ => by go_simp; exact Q2.out⟩) hch0 ?_
      refine wpAnyH_ready (rs := [6, 10]) (by kernel_rfl) (by simp) ?_
      refine AllReadyH.cons rfl (fun K hK => ?_) (AllReadyH.cons rfl (fun K hK => ?_) AllReadyH.nil)
      · rw [if_pos (by rfl)]
        try simp only [Act.put, List.setIfInBounds_toArray, List.set_cons_zero, List.set_cons_succ, List.getElem_toArray, List.getElem_cons_succ, List.getElem_cons_zero]
        refine wp_new_row (v := fun g => .slice (some ⟨g, 0, none⟩) 1 1) (e := 5) (cs := [.int .u8 ((k : Int) + 1)]) (fun w_ => by go_simp) ?_
        intro v0 hro0 hst0 hsz0
        clear hsz0
        have hcu0 : Chg none_ wr v0 := hch0.trans hst0
        refine hK.out _ _ hcu0 (fun _ => ?_)
        clear hK K
        try simp only [Act.put, List.setIfInBounds_toArray, List.set_cons_zero, List.set_cons_succ, List.getElem_toArray, List.getElem_cons_succ, List.getElem_cons_zero]
        refine wpAnyH_ready (rs := [7, 10]) (by kernel_rfl) (by simp) ?_
        refine AllReadyH.cons rfl (fun K hK => ?_) (AllReadyH.cons rfl (fun K hK => ?_) AllReadyH.nil)
        · rw [if_pos (by rfl)]
          try simp only [Act.put, List.setIfInBounds_toArray, List.set_cons_zero, List.set_cons_succ, List.getElem_toArray, List.getElem_cons_succ, List.getElem_cons_zero]
          refine wp_new_row (v := fun g => .slice (some ⟨g, 0, none⟩) 3 3) (e := 22) (cs := [.slice Aa C.length ca, .slice Ai info.length ci, .slice (some ⟨wd.heap.size, 0, none⟩) 1 1]) (fun w_ => by go_simp) ?_
          intro v1 hro1 hst1 hsz1
          clear hsz1
          have hcu1 : Chg none_ wr v1 := hcu0.trans hst1
          refine hK.out _ _ hcu1 (fun _ => ?_)
          clear hK K
          try simp only [Act.put, List.setIfInBounds_toArray, List.set_cons_zero, List.set_cons_succ, List.getElem_toArray, List.getElem_cons_succ, List.getElem_cons_zero]
          refine wpAnyH_ready (rs := [8, 10]) (by kernel_rfl) (by simp) ?_
          refine AllReadyH.cons rfl (fun K hK => ?_) (AllReadyH.cons rfl (fun K hK => ?_) AllReadyH.nil)
          · rw [if_pos (by rfl)]
            try simp only [Act.put, List.setIfInBounds_toArray, List.set_cons_zero, List.set_cons_succ, List.getElem_toArray, List.getElem_cons_succ, List.getElem_cons_zero]
            go_simp
            refine (HCAT.out _ _ _ hcu1 ((hro0.chg hst1 (fun h => h))) (hro1)).mono ?_
            rintro e v2 ⟨Ac, cc, rfl, hfr, hst2⟩
            have hcu2 : Chg none_ wr v2 := hcu1.trans hst2
            refine hK.out _ _ hcu2 (fun _ => ?_)
            clear hK K
            try simp only [Act.put, List.setIfInBounds_toArray, List.set_cons_zero, List.set_cons_succ, List.getElem_toArray, List.getElem_cons_succ, List.getElem_cons_zero]
            refine wpAnyH_ready (rs := [9, 10]) (by kernel_rfl) (by simp) ?_
            refine AllReadyH.cons rfl (fun K hK => ?_) (AllReadyH.cons rfl (fun K hK => ?_) AllReadyH.nil)
            · rw [if_pos (by rfl)]
              try simp only [Act.put, List.setIfInBounds_toArray, List.set_cons_zero, List.set_cons_succ, List.getElem_toArray, List.getElem_cons_succ, List.getElem_cons_zero]
              go_simp
              refine (HTAG.out _ _ _ hcu2 ((hfr.view).mono (fun _ _ _ => trivial)) (hfr.le)).mono ?_
              rintro e v3 ⟨rfl, hst3⟩
              have hcu3 : Chg none_ wr v3 := hcu2.trans hst3
              refine hK.out _ _ hcu3 (fun _ => ?_)
              clear hK K
              try simp only [Act.put, List.setIfInBounds_toArray, List.set_cons_zero, List.set_cons_succ, List.getElem_toArray, List.getElem_cons_succ, List.getElem_cons_zero]
              refine wpAnyH_ready (rs := [10]) (by kernel_rfl) (by simp) ?_
              refine AllReadyH.cons rfl (fun K hK => ?_) AllReadyH.nil
              rw [if_pos (by rfl)]
              try simp only [Act.put, List.setIfInBounds_toArray, List.set_cons_zero, List.set_cons_succ, List.getElem_toArray, List.getElem_cons_succ, List.getElem_cons_zero]
              refine wp_alloc_row rfl (u8s (List.replicate 32 0)) zero25 ?_
              intro v4 hro4 hst4 hsz4
              clear hsz4
              have hcu4 : Chg none_ wr v4 := hcu3.trans hst4
              refine hK.out _ _ hcu4 (fun _ => ?_)
              clear hK K
              try simp only [Act.put, List.setIfInBounds_toArray, List.set_cons_zero, List.set_cons_succ, List.getElem_toArray, List.getElem_cons_succ, List.getElem_cons_zero]
              refine wpAnyH_ready (rs := [11]) (by kernel_rfl) (by simp) ?_
              refine AllReadyH.cons rfl (fun K hK => ?_) AllReadyH.nil
              rw [if_pos (by rfl)]
              try simp only [Act.put, List.setIfInBounds_toArray, List.set_cons_zero, List.set_cons_succ, List.getElem_toArray, List.getElem_cons_succ, List.getElem_cons_zero]
              refine wp_store_row (ty := 25) (xs := u8s TG) rfl rfl (hro4) rfl (by rw [u8s_length, HTGL.out, u8s_length]; rfl) (by rw [u8s_length, HTGL.out]; exact size25) (u8s_oneA _) ?_
              intro wz hrz hcz hsz
              have hge := hcu4.size
              refine hK.out _ _ (hcz none_ wr (hcu4) (fun h => absurd h (by have := hcu3.size; omega))) (fun hchz => ?_)
              clear hK K
              try simp only [Act.put, List.setIfInBounds_toArray, List.set_cons_zero, List.set_cons_succ, List.getElem_toArray, List.getElem_cons_succ, List.getElem_cons_zero]
              refine wpAnyH_done (by kernel_rfl) ?_ _
              exact ⟨rfl, _, _, _, _, rfl, hrz, hcu3.size, hchz⟩
            · rw [if_pos (by rfl)]
              try simp only [Act.put, List.setIfInBounds_toArray, List.set_cons_zero, List.set_cons_succ, List.getElem_toArray, List.getElem_cons_succ, List.getElem_cons_zero]
              refine wp_alloc_row rfl (u8s (List.replicate 32 0)) zero25 ?_
              intro v3 hro3 hst3 hsz3
              clear hsz3
              have hcu3 : Chg none_ wr v3 := hcu2.trans hst3
              refine hK.out _ _ hcu3 (fun _ => ?_)
              clear hK K
              try simp only [Act.put, List.setIfInBounds_toArray, List.set_cons_zero, List.set_cons_succ, List.getElem_toArray, List.getElem_cons_succ, List.getElem_cons_zero]
              refine wpAnyH_ready (rs := [9]) (by kernel_rfl) (by simp) ?_
              refine AllReadyH.cons rfl (fun K hK => ?_) AllReadyH.nil
              rw [if_pos (by rfl)]
              try simp only [Act.put, List.setIfInBounds_toArray, List.set_cons_zero, List.set_cons_succ, List.getElem_toArray, List.getElem_cons_succ, List.getElem_cons_zero]
              go_simp
              refine (HTAG.out _ _ _ hcu3 (((hfr.view.chg hst3 (fun _ _ h => h))).mono (fun _ _ _ => trivial)) (hfr.le)).mono ?_
              rintro e v4 ⟨rfl, hst4⟩
              have hcu4 : Chg none_ wr v4 := hcu3.trans hst4
              refine hK.out _ _ hcu4 (fun _ => ?_)
              clear hK K
              try simp only [Act.put, List.setIfInBounds_toArray, List.set_cons_zero, List.set_cons_succ, List.getElem_toArray, List.getElem_cons_succ, List.getElem_cons_zero]
              refine wpAnyH_ready (rs := [11]) (by kernel_rfl) (by simp) ?_
              refine AllReadyH.cons rfl (fun K hK => ?_) AllReadyH.nil
              rw [if_pos (by rfl)]
              try simp only [Act.put, List.setIfInBounds_toArray, List.set_cons_zero, List.set_cons_succ, List.getElem_toArray, List.getElem_cons_succ, List.getElem_cons_zero]
              refine wp_store_row (ty := 25) (xs := u8s TG) rfl rfl ((hro3.chg hst4 (fun h => h))) rfl (by rw [u8s_length, HTGL.out, u8s_length]; rfl) (by rw [u8s_length, HTGL.out]; exact size25) (u8s_oneA _) ?_
              intro wz hrz hcz hsz
              have hge := hcu4.size
              refine hK.out _ _ (hcz none_ wr (hcu4) (fun h => absurd h (by have := hcu2.size; omega))) (fun hchz => ?_)
              clear hK K
              try simp only [Act.put, List.setIfInBounds_toArray, List.set_cons_zero, List.set_cons_succ, List.getElem_toArray, List.getElem_cons_succ, List.getElem_cons_zero]
              refine wpAnyH_done (by kernel_rfl) ?_ _
              exact ⟨rfl, _, _, _, _, rfl, hrz, hcu2.size, hchz⟩
          · rw [if_pos (by rfl)]
            try simp only [Act.put, List.setIfInBounds_toArray, List.set_cons_zero, List.set_cons_succ, List.getElem_toArray, List.getElem_cons_succ, List.getElem_cons_zero]
            refine wp_alloc_row rfl (u8s (List.replicate 32 0)) zero25 ?_
            intro v2 hro2 hst2 hsz2
            clear hsz2
            have hcu2 : Chg none_ wr v2 := hcu1.trans hst2
            refine hK.out _ _ hcu2 (fun _ => ?_)
            clear hK K
            try simp only [Act.put, List.setIfInBounds_toArray, List.set_cons_zero, List.set_cons_succ, List.getElem_toArray, List.getElem_cons_succ, List.getElem_cons_zero]
            refine wpAnyH_ready (rs := [8]) (by kernel_rfl) (by simp) ?_
            refine AllReadyH.cons rfl (fun K hK => ?_) AllReadyH.nil
            rw [if_pos (by rfl)]
            try simp only [Act.put, List.setIfInBounds_toArray, List.set_cons_zero, List.set_cons_succ, List.getElem_toArray, List.getElem_cons_succ, List.getElem_cons_zero]
            go_simp
            refine (HCAT.out _ _ _ hcu2 (((hro0.chg hst1 (fun h => h)).chg hst2 (fun h => h))) ((hro1.chg hst2 (fun h => h)))).mono ?_
            rintro e v3 ⟨Ac, cc, rfl, hfr, hst3⟩
            have hcu3 : Chg none_ wr v3 := hcu2.trans hst3
            refine hK.out _ _ hcu3 (fun _ => ?_)
            clear hK K
            try simp only [Act.put, List.setIfInBounds_toArray, List.set_cons_zero, List.set_cons_succ, List.getElem_toArray, List.getElem_cons_succ, List.getElem_cons_zero]
            refine wpAnyH_ready (rs := [9]) (by kernel_rfl) (by simp) ?_
            refine AllReadyH.cons rfl (fun K hK => ?_) AllReadyH.nil
            rw [if_pos (by rfl)]
            try simp only [Act.put, List.setIfInBounds_toArray, List.set_cons_zero, List.set_cons_succ, List.getElem_toArray, List.getElem_cons_succ, List.getElem_cons_zero]
            go_simp
            refine (HTAG.out _ _ _ hcu3 ((hfr.view).mono (fun _ _ _ => trivial)) (hfr.le)).mono ?_
            rintro e v4 ⟨rfl, hst4⟩
            have hcu4 : Chg none_ wr v4 := hcu3.trans hst4
            refine hK.out _ _ hcu4 (fun _ => ?_)
            clear hK K
            try simp only [Act.put, List.setIfInBounds_toArray, List.set_cons_zero, List.set_cons_succ, List.getElem_toArray, List.getElem_cons_succ, List.getElem_cons_zero]
            refine wpAnyH_ready (rs := [11]) (by kernel_rfl) (by simp) ?_
            refine AllReadyH.cons rfl (fun K hK => ?_) AllReadyH.nil
            rw [if_pos (by rfl)]
            try simp only [Act.put, List.setIfInBounds_toArray, List.set_cons_zero, List.set_cons_succ, List.getElem_toArray, List.getElem_cons_succ, List.getElem_cons_zero]
            refine wp_store_row (ty := 25) (xs := u8s TG) rfl rfl (((hro2.chg hst3 (fun h => h)).chg hst4 (fun h => h))) rfl (by rw [u8s_length, HTGL.out, u8s_length]; rfl) (by rw [u8s_length, HTGL.out]; exact size25) (u8s_oneA _) ?_
            intro wz hrz hcz hsz
            have hge := hcu4.size
            refine hK.out _ _ (hcz none_ wr (hcu4) (fun h => absurd h (by have := hcu1.size; omega))) (fun hchz => ?_)
            clear hK K
            try simp only [Act.put, List.setIfInBounds_toArray, List.set_cons_zero, List.set_cons_succ, List.getElem_toArray, List.getElem_cons_succ, List.getElem_cons_zero]
            refine wpAnyH_done (by kernel_rfl) ?_ _
            exact ⟨rfl, _, _, _, _, rfl, hrz, hcu1.size, hchz⟩
        · rw [if_pos (by rfl)]
          try simp only [Act.put, List.setIfInBounds_toArray, List.set_cons_zero, List.set_cons_succ, List.getElem_toArray, List.getElem_cons_succ, List.getElem_cons_zero]
          refine wp_alloc_row rfl (u8s (List.replicate 32 0)) zero25 ?_
          intro v1 hro1 hst1 hsz1
          clear hsz1
          have hcu1 : Chg none_ wr v1 := hcu0.trans hst1
          refine hK.out _ _ hcu1 (fun _ => ?_)
          clear hK K
          try simp only [Act.put, List.setIfInBounds_toArray, List.set_cons_zero, List.set_cons_succ, List.getElem_toArray, List.getElem_cons_succ, List.getElem_cons_zero]
          refine wpAnyH_ready (rs := [7]) (by kernel_rfl) (by simp) ?_
          refine AllReadyH.cons rfl (fun K hK => ?_) AllReadyH.nil
          rw [if_pos (by rfl)]
          try simp only [Act.put, List.setIfInBounds_toArray, List.set_cons_zero, List.set_cons_succ, List.getElem_toArray, List.getElem_cons_succ, List.getElem_cons_zero]
          refine wp_new_row (v := fun g => .slice (some ⟨g, 0, none⟩) 3 3) (e := 22) (cs := [.slice Aa C.length ca, .slice Ai info.length ci, .slice (some ⟨wd.heap.size, 0, none⟩) 1 1]) (fun w_ => by go_simp) ?_
          intro v2 hro2 hst2 hsz2
          clear hsz2
          have hcu2 : Chg none_ wr v2 := hcu1.trans hst2
          refine hK.out _ _ hcu2 (fun _ => ?_)
          clear hK K
          try simp only [Act.put, List.setIfInBounds_toArray, List.set_cons_zero, List.set_cons_succ, List.getElem_toArray, List.getElem_cons_succ, List.getElem_cons_zero]
          refine wpAnyH_ready (rs := [8]) (by kernel_rfl) (by simp) ?_
          refine AllReadyH.cons rfl (fun K hK => ?_) AllReadyH.nil
          rw [if_pos (by rfl)]
          try simp only [Act.put, List.setIfInBounds_toArray, List.set_cons_zero, List.set_cons_succ, List.getElem_toArray, List.getElem_cons_succ, List.getElem_cons_zero]
          go_simp
          refine (HCAT.out _ _ _ hcu2 (((hro0.chg hst1 (fun h => h)).chg hst2 (fun h => h))) (hro2)).mono ?_
          rintro e v3 ⟨Ac, cc, rfl, hfr, hst3⟩
          have hcu3 : Chg none_ wr v3 := hcu2.trans hst3
          refine hK.out _ _ hcu3 (fun _ => ?_)
          clear hK K
          try simp only [Act.put, List.setIfInBounds_toArray, List.set_cons_zero, List.set_cons_succ, List.getElem_toArray, List.getElem_cons_succ, List.getElem_cons_zero]
          refine wpAnyH_ready (rs := [9]) (by kernel_rfl) (by simp) ?_
          refine AllReadyH.cons rfl (fun K hK => ?_) AllReadyH.nil
          rw [if_pos (by rfl)]
          try simp only [Act.put, List.setIfInBounds_toArray, List.set_cons_zero, List.set_cons_succ, List.getElem_toArray, List.getElem_cons_succ, List.getElem_cons_zero]
          go_simp
          refine (HTAG.out _ _ _ hcu3 ((hfr.view).mono (fun _ _ _ => trivial)) (hfr.le)).mono ?_
          rintro e v4 ⟨rfl, hst4⟩
          have hcu4 : Chg none_ wr v4 := hcu3.trans hst4
          refine hK.out _ _ hcu4 (fun _ => ?_)
          clear hK K
          try simp only [Act.put, List.setIfInBounds_toArray, List.set_cons_zero, List.set_cons_succ, List.getElem_toArray, List.getElem_cons_succ, List.getElem_cons_zero]
          refine wpAnyH_ready (rs := [11]) (by kernel_rfl) (by simp) ?_
          refine AllReadyH.cons rfl (fun K hK => ?_) AllReadyH.nil
          rw [if_pos (by rfl)]
          try simp only [Act.put, List.setIfInBounds_toArray, List.set_cons_zero, List.set_cons_succ, List.getElem_toArray, List.getElem_cons_succ, List.getElem_cons_zero]
          refine wp_store_row (ty := 25) (xs := u8s TG) rfl rfl ((((hro1.chg hst2 (fun h => h)).chg hst3 (fun h => h)).chg hst4 (fun h => h))) rfl (by rw [u8s_length, HTGL.out, u8s_length]; rfl) (by rw [u8s_length, HTGL.out]; exact size25) (u8s_oneA _) ?_
          intro wz hrz hcz hsz
          have hge := hcu4.size
          refine hK.out _ _ (hcz none_ wr (hcu4) (fun h => absurd h (by have := hcu0.size; omega))) (fun hchz => ?_)
          clear hK K
          try simp only [Act.put, List.setIfInBounds_toArray, List.set_cons_zero, List.set_cons_succ, List.getElem_toArray, List.getElem_cons_succ, List.getElem_cons_zero]
          refine wpAnyH_done (by kernel_rfl) ?_ _
          exact ⟨rfl, _, _, _, _, rfl, hrz, hcu0.size, hchz⟩
      · rw [if_pos (by rfl)]
        try simp only [Act.put, List.setIfInBounds_toArray, List.set_cons_zero, List.set_cons_succ, List.getElem_toArray, List.getElem_cons_succ, List.getElem_cons_zero]
        refine wp_alloc_row rfl (u8s (List.replicate 32 0)) zero25 ?_
        intro v0 hro0 hst0 hsz0
        clear hsz0
        have hcu0 : Chg none_ wr v0 := hch0.trans hst0
        refine hK.out _ _ hcu0 (fun _ => ?_)
        clear hK K
        try simp only [Act.put, List.setIfInBounds_toArray, List.set_cons_zero, List.set_cons_succ, List.getElem_toArray, List.getElem_cons_succ, List.getElem_cons_zero]
        refine wpAnyH_ready (rs := [6]) (by kernel_rfl) (by simp) ?_
        refine AllReadyH.cons rfl (fun K hK => ?_) AllReadyH.nil
        rw [if_pos (by rfl)]
        try simp only [Act.put, List.setIfInBounds_toArray, List.set_cons_zero, List.set_cons_succ, List.getElem_toArray, List.getElem_cons_succ, List.getElem_cons_zero]
        refine wp_new_row (v := fun g => .slice (some ⟨g, 0, none⟩) 1 1) (e := 5) (cs := [.int .u8 ((k : Int) + 1)]) (fun w_ => by go_simp) ?_
        intro v1 hro1 hst1 hsz1
        clear hsz1
        have hcu1 : Chg none_ wr v1 := hcu0.trans hst1
        refine hK.out _ _ hcu1 (fun _ => ?_)
        clear hK K
        try simp only [Act.put, List.setIfInBounds_toArray, List.set_cons_zero, List.set_cons_succ, List.getElem_toArray, List.getElem_cons_succ, List.getElem_cons_zero]
        refine wpAnyH_ready (rs := [7]) (by kernel_rfl) (by simp) ?_
        refine AllReadyH.cons rfl (fun K hK => ?_) AllReadyH.nil
        rw [if_pos (by rfl)]
        try simp only [Act.put, List.setIfInBounds_toArray, List.set_cons_zero, List.set_cons_succ, List.getElem_toArray, List.getElem_cons_succ, List.getElem_cons_zero]
        refine wp_new_row (v := fun g => .slice (some ⟨g, 0, none⟩) 3 3) (e := 22) (cs := [.slice Aa C.length ca, .slice Ai info.length ci, .slice (some ⟨v0.heap.size, 0, none⟩) 1 1]) (fun w_ => by go_simp) ?_
        intro v2 hro2 hst2 hsz2
        clear hsz2
        have hcu2 : Chg none_ wr v2 := hcu1.trans hst2
        refine hK.out _ _ hcu2 (fun _ => ?_)
        clear hK K
        try simp only [Act.put, List.setIfInBounds_toArray, List.set_cons_zero, List.set_cons_succ, List.getElem_toArray, List.getElem_cons_succ, List.getElem_cons_zero]
        refine wpAnyH_ready (rs := [8]) (by kernel_rfl) (by simp) ?_
        refine AllReadyH.cons rfl (fun K hK => ?_) AllReadyH.nil
        rw [if_pos (by rfl)]
        try simp only [Act.put, List.setIfInBounds_toArray, List.set_cons_zero, List.set_cons_succ, List.getElem_toArray, List.getElem_cons_succ, List.getElem_cons_zero]
        go_simp
        refine (HCAT.out _ _ _ hcu2 ((hro1.chg hst2 (fun h => h))) (hro2)).mono ?_
        rintro e v3 ⟨Ac, cc, rfl, hfr, hst3⟩
        have hcu3 : Chg none_ wr v3 := hcu2.trans hst3
        refine hK.out _ _ hcu3 (fun _ => ?_)
        clear hK K
        try simp only [Act.put, List.setIfInBounds_toArray, List.set_cons_zero, List.set_cons_succ, List.getElem_toArray, List.getElem_cons_succ, List.getElem_cons_zero]
        refine wpAnyH_ready (rs := [9]) (by kernel_rfl) (by simp) ?_
        refine AllReadyH.cons rfl (fun K hK => ?_) AllReadyH.nil
        rw [if_pos (by rfl)]
        try simp only [Act.put, List.setIfInBounds_toArray, List.set_cons_zero, List.set_cons_succ, List.getElem_toArray, List.getElem_cons_succ, List.getElem_cons_zero]
        go_simp
        refine (HTAG.out _ _ _ hcu3 ((hfr.view).mono (fun _ _ _ => trivial)) (hfr.le)).mono ?_
        rintro e v4 ⟨rfl, hst4⟩
        have hcu4 : Chg none_ wr v4 := hcu3.trans hst4
        refine hK.out _ _ hcu4 (fun _ => ?_)
        clear hK K
        try simp only [Act.put, List.setIfInBounds_toArray, List.set_cons_zero, List.set_cons_succ, List.getElem_toArray, List.getElem_cons_succ, List.getElem_cons_zero]
        refine wpAnyH_ready (rs := [11]) (by kernel_rfl) (by simp) ?_
        refine AllReadyH.cons rfl (fun K hK => ?_) AllReadyH.nil
        rw [if_pos (by rfl)]
        try simp only [Act.put, List.setIfInBounds_toArray, List.set_cons_zero, List.set_cons_succ, List.getElem_toArray, List.getElem_cons_succ, List.getElem_cons_zero]
        refine wp_store_row (ty := 25) (xs := u8s TG) rfl rfl (((((hro0.chg hst1 (fun h => h)).chg hst2 (fun h => h)).chg hst3 (fun h => h)).chg hst4 (fun h => h))) rfl (by rw [u8s_length, HTGL.out, u8s_length]; rfl) (by rw [u8s_length, HTGL.out]; exact size25) (u8s_oneA _) ?_
        intro wz hrz hcz hsz
        have hge := hcu4.size
        refine hK.out _ _ (hcz none_ wr (hcu4) (fun h => absurd h (by have := hch0.size; omega))) (fun hchz => ?_)
        clear hK K
        try simp only [Act.put, List.setIfInBounds_toArray, List.set_cons_zero, List.set_cons_succ, List.getElem_toArray, List.getElem_cons_succ, List.getElem_cons_zero]
        refine wpAnyH_done (by kernel_rfl) ?_ _
        exact ⟨rfl, _, _, _, _, rfl, hrz, hch0.size, hchz⟩
    · have hkm : k = m := by omega
      subst hkm
      clear hva hlt hk
      go_wp2
      go_ret
      have hle : n ≤ 32 * k := by have := HM.out; omega
      rw [outP_end s info n k hle] at hrow
      exact got_row (HCH.out.andThen hch (fun b h e => by have := HG.out; omega)) hrow (by have := HG.out; omega) (by rw [List.length_take, allN_len]; omega) (by unfold maxLen; omega)

theorem expand_any (s info : List Nat) (n : Int) (Ti : Nat → Prop) (Ai : Option Addr) (ci : Nat) (w : World) (hs : s.length = 32) (hsb : ∀ x ∈ s, x < 256) (hvi : View w Ti Ai info.length (u8s info)) (hil : info.length ≤ 900000) (hic : info.length ≤ ci) (hib : ∀ x ∈ info, x < 256) (hT : HTab w) :
    Calls Tryd.prog 15 #[.agg (u8s s).toArray, .slice Ai info.length ci, .int .i64 n] w fun e w' => GotBytes w (expandN s info n) e w' := by
  by_cases hn : n < 0 ∨ 255 < n
  · refine (expand_none s n _ w hn).mono fun e w' ⟨h1, h2⟩ => ?_
    unfold expandN
    rw [if_pos hn]
    exact ⟨none, 0, h1, Fresh.nil _ _, h2⟩
  · obtain ⟨N, rfl⟩ : ∃ N : Nat, n = (N : Int) := ⟨n.toNat, by omega⟩
    unfold expandN
    rw [if_neg hn]
    exact expand_ok s info N _ rfl Ti Ai ci w (by omega) hs hsb hvi hil hic hib hT
end Go.Proofs.YtodcjcpbigggfaaDoor
