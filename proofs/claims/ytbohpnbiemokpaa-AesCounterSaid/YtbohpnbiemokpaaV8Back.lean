/- Layer 8 (aes): the walk of the law AesBack. -/
import Derived.Test.YtbohpnbiemokpaaV8Open
import Derived.Test.YtbohpnbiemokpaaV8Apart
import Derived.Test.YtbohpnbiemokpaaHigh
import Derived.Test.YtbohpnbiemokpaaSame
namespace Go.Proofs.Ytbohpnbiemokpaa
open Go.RowKit

theorem eq_of_get {s t : List Nat} (n : Nat) (hs : s.length = n) (ht : t.length = n) (h : ∀ i, i < n → s.getD i 0 = t.getD i 0) : s = t := by
  rw [← list_eta s n hs, ← list_eta t n ht]
  apply List.map_congr_left
  intro i hi
  exact h i (List.mem_range.1 hi)
theorem streamN_get (key first text : List Nat) (i : Nat) (hi : i < text.length) : (streamN key first text).getD i 0 = text.getD i 0 ^^^ padAt key first i := map_range_get _ _ i hi
/-- Enciphered twice. -/
theorem stream_back (key first text : List Nat) : streamN key first (streamN key first text) = text :=
  eq_of_get text.length (by rw [streamN_len, streamN_len]) rfl fun i hi => by
    rw [streamN_get _ _ _ i (by rw [streamN_len]; exact hi), streamN_get _ _ _ i hi, xor_back]
theorem take_get (l : List Nat) (k i : Nat) (h : i < k) : (l.take k).getD i 0 = l.getD i 0 := by
  rw [List.getD_eq_getElem?_getD, List.getD_eq_getElem?_getD, List.getElem?_take, if_pos h]
theorem stream_take (key first text : List Nat) (k : Nat) (hk : k ≤ text.length) : streamN key first (text.take k) = (streamN key first text).take k :=
  eq_of_get k (by rw [streamN_len, List.length_take]; omega) (by rw [List.length_take, streamN_len]; omega) fun i hi => by
    rw [streamN_get _ _ _ i (by rw [List.length_take]; omega), take_get _ _ _ hi, take_get _ _ _ hi, streamN_get _ _ _ i (by omega)]

set_option maxRecDepth 100000 in
set_option maxHeartbeats 2000000 in
theorem walk_AesBack (key first : List Nat) (A : Option Addr) (len cap : Nat) (zs : List Int) (n0 : Int) (W : World) (hk : key.length = 16) (hkb : ∀ x ∈ key, x < 256) (hf : first.length = 16) (hfb : ∀ x ∈ first, x < 256) (x0 : IsRow .u8 W A len cap zs) (hn0 : (Lit.int .u8 n0).wf = true) :
    Calls Try.prog 6 #[.agg (u8s key).toArray, .agg (u8s first).toArray, .slice A len cap, .int .u8 n0] W fun e w' => e = .returned (.bool true) ∧ Chg none_ W w' := by
  obtain ⟨text, rfl, hcap, hmax, htb, hv⟩ := x0.u8
  obtain ⟨n, rfl, hn⟩ := u8_nat hn0
  clear x0 hn0
  have HKL := Lib.hid hk
  have HFL := Lib.hid hf
  have hmx : text.length ≤ 9223372036854775807 := by unfold maxLen at hmax; omega
  by_cases hlong : 300 < text.length
  · have hd : decide ((300 : Int) < (text.length : Int)) = true := by simp; omega
    clear hk hkb hf hfb hv htb hcap hmax
    go_enter Try.func6, Try.ntmps6
    go_wp2_with (first | ((with_reducible show wpList _ _ _ (⟨some 4, .box 26 _, _, _, _, _⟩ :: _) _ _); refine wpList_box_Row rfl rfl (u8s key) rfl ?_; intro w1 hr1 hc1 hs1; have HR1 := Lib.hid hr1; have HC1 := Lib.hid hc1; clear hr1 hc1 hs1) | ((with_reducible show wpList _ _ _ (⟨some 5, .box 26 _, _, _, _, _⟩ :: _) _ _); refine wpList_box_Row rfl rfl (u8s first) rfl ?_; intro w2 hr2 hc2 hs2; have HR2 := Lib.hid hr2; have HC2 := Lib.hid (HC1.out.trans hc2); have HR1b := Lib.hid (HR1.out.chg hc2 (fun h => h)); clear hr2 hc2 hs2) | (go_at_call 10; refine (alive_any _).mono ?_; rintro e w3 ⟨rfl, hc3⟩; have HC3 := Lib.hid (HC2.out.trans hc3); have HRK := Lib.hid (HR1b.out.chg hc3 (fun h => h)); have HRF := Lib.hid (HR2.out.chg hc3 (fun h => h)); clear hc3))
    go_ret
    exact ⟨rfl, HC3.out⟩
  have hd : decide ((300 : Int) < (text.length : Int)) = false := by simp; omega
  have hsl := streamN_len key first text
  have hsb := streamN_lt hkb hfb htb
  have hbk := stream_back key first text
  obtain ⟨k, hkk, hke⟩ : ∃ k : Nat, k ≤ text.length ∧ n % (text.length + 1) = k := ⟨n % (text.length + 1), Nat.le_of_lt_succ (Nat.mod_lt n (Nat.succ_pos text.length)), rfl⟩
  have htk := stream_take key first text k hkk
  have HS1 := Lib.hid (fun w (hc : Chg none_ W w) => Stream_any key first _ A cap text w hk hkb hf hfb (hv.chg hc (fun _ _ h => h)) (by omega) htb)
  have HKK := Lib.hid hkk
  have HCAP := Lib.hid hcap
  have htl : (text.take k).length = k := by rw [List.length_take]; omega
  have HS3 : Hid (∀ w, Chg none_ W w → Calls Try.prog 21 #[.agg (u8s key).toArray, .agg (u8s first).toArray, .slice (highA A cap) k cap] w fun e w' => ∃ g, e = .returned (.slice (some ⟨g, 0, none⟩) k k) ∧ w.heap.size ≤ g ∧ Row w' g 5 (u8s ((streamN key first text).take k)) ∧ Chg none_ w w') := Lib.hid (fun w hc => by
    have := Stream_any key first (fun _ => True) (highA A cap) cap (text.take k) w hk hkb hf hfb (by rw [htl]; exact (hv.chg hc (fun _ _ h => h)).upto cap hkk) (by rw [htl]; omega) (fun x hx => htb x (List.mem_of_mem_take hx))
    rw [htl, htk] at this
    exact this)
  have HM1 : Hid (∀ w g, Row w g 5 (u8s text) → Chg none_ W w → Calls Try.prog 20 #[.slice (some ⟨g, 0, none⟩) text.length text.length, .slice A text.length cap] w fun e w' => e = .returned (.bool true) ∧ ∃ k, w' = w.drewN k) := Lib.hid (fun w g hr hc => by
    have := same_any w (fun _ => True) _ (some ⟨g, 0, none⟩) A text.length cap text text (View.all hr (by rw [u8s_length]) trivial) (hv.chg hc (fun _ _ h => h)) (by omega)
    rwa [decide_eq_true rfl] at this)
  generalize streamN key first text = ST at *
  have HS2 : Hid (∀ w g, Row w g 5 (u8s ST) → Chg none_ W w → Calls Try.prog 21 #[.agg (u8s key).toArray, .agg (u8s first).toArray, .slice (some ⟨g, 0, none⟩) text.length text.length] w fun e w' => ∃ g, e = .returned (.slice (some ⟨g, 0, none⟩) text.length text.length) ∧ w.heap.size ≤ g ∧ Row w' g 5 (u8s text) ∧ Chg none_ w w') := Lib.hid (fun w g hr hc => by
    have := Stream_any key first (fun _ => True) (some ⟨g, 0, none⟩) text.length ST w hk hkb hf hfb (View.all hr (by rw [u8s_length]) trivial) (by omega) hsb
    rw [hsl, hbk] at this
    exact this)
  have hstk : (ST.take k).length = k := by rw [List.length_take]; omega
  have HM2 : Hid (∀ w g g', Row w g 5 (u8s (ST.take k)) → Row w g' 5 (u8s ST) → Calls Try.prog 20 #[.slice (some ⟨g, 0, none⟩) k k, .slice (highA (some ⟨g', 0, none⟩) text.length) k text.length] w fun e w' => e = .returned (.bool true) ∧ ∃ k, w' = w.drewN k) := Lib.hid (fun w g g' hr hr' => by
    have := same_any w (fun _ => True) (fun _ => True) (some ⟨g, 0, none⟩) (highA (some ⟨g', 0, none⟩) text.length) k text.length (ST.take k) (ST.take k) (View.all hr (by rw [u8s_length]) trivial) (by rw [hstk]; exact (View.all hr' (n := text.length) (by rw [u8s_length, hsl]) trivial).upto _ hkk) (by omega)
    rw [hstk, decide_eq_true rfl] at this
    exact this)
  have hkz : (n : Int) % ((text.length : Int) + 1) = (k : Int) := by rw [← hke]; simp
  clear hk hkb hf hfb hv htb hcap hmax hsl hsb hbk htk htl hstk hke hkk
  go_enter Try.func6, Try.ntmps6
  go_wp2_with (first | ((with_reducible show wpList _ _ _ (⟨some 4, .box 26 _, _, _, _, _⟩ :: _) _ _); refine wpList_box_Row rfl rfl (u8s key) rfl ?_; intro w1 hr1 hc1 hs1; have HR1 := Lib.hid hr1; have HC1 := Lib.hid hc1; clear hr1 hc1 hs1) | ((with_reducible show wpList _ _ _ (⟨some 5, .box 26 _, _, _, _, _⟩ :: _) _ _); refine wpList_box_Row rfl rfl (u8s first) rfl ?_; intro w2 hr2 hc2 hs2; have HR2 := Lib.hid hr2; have HC2 := Lib.hid (HC1.out.trans hc2); have HR1b := Lib.hid (HR1.out.chg hc2 (fun h => h)); clear hr2 hc2 hs2) | (go_at_call 10; refine (alive_any _).mono ?_; rintro e w3 ⟨rfl, hc3⟩; have HC3 := Lib.hid (HC2.out.trans hc3); have HRK := Lib.hid (HR1b.out.chg hc3 (fun h => h)); have HRF := Lib.hid (HR2.out.chg hc3 (fun h => h)); clear hc3) | ((with_reducible show wpList _ _ _ (⟨some 16, .load 26 _, _, _, _, _⟩ :: _) _ _); refine wpList_load_Row rfl rfl rfl (HRK.out) Try.underlying26 rfl (by rw [u8s_length, HKL.out]; exact size26) ?_) | ((with_reducible show wpList _ _ _ (⟨some 17, .load 26 _, _, _, _, _⟩ :: _) _ _); refine wpList_load_Row rfl rfl rfl (HRF.out) Try.underlying26 rfl (by rw [u8s_length, HFL.out]; exact size26) ?_) | (go_at_call 21; refine (HS1.out _ HC3.out).mono ?_; rintro e w4 ⟨g4, rfl, hge, hr4, hc4⟩; have HR4 := Lib.hid hr4; have HC4 := Lib.hid (HC3.out.trans hc4); have HRK4 := Lib.hid (HRK.out.chg hc4 (fun h => h)); have HRF4 := Lib.hid (HRF.out.chg hc4 (fun h => h)); clear hge hr4 hc4))
  refine wp_region_held_drew (S := fun w' => Chg none_ w4 w') (by kernel_rfl) ((Chg.refl none_ w4).drew) (fun hch0 => ?_)
  generalize w4.drew = wd at hch0 ⊢
  refine wpAnyH_take (i := 0) (v := .slice (some ⟨g4, 0, none⟩) text.length text.length) rfl (by kernel_rfl) (by kernel_rfl) (by kernel_rfl) (by first | exact fun _ _ _ h => h | exact fun _ _ _ h => nomatch h.1) (Or.inl ⟨by rfl, fun w_ hw_ => by go_simp⟩) hch0 ?_
  refine wpAnyH_take (i := 1) (v := .int .i64 text.length) rfl (by kernel_rfl) (by kernel_rfl) (by kernel_rfl) (by first | exact fun _ _ _ h => h | exact fun _ _ _ h => nomatch h.1) (Or.inl ⟨by rfl, fun w_ hw_ => by go_simp⟩) hch0 ?_
  refine wpAnyH_take (i := 2) (v := .slice A text.length cap) rfl (by kernel_rfl) (by kernel_rfl) (by kernel_rfl) (by first | exact fun _ _ _ h => h | exact fun _ _ _ h => nomatch h.1) (Or.inl ⟨by rfl, fun w_ hw_ => by go_simp⟩) hch0 ?_
  refine wpAnyH_take (i := 3) (v := .int .i64 text.length) rfl (by kernel_rfl) (by kernel_rfl) (by kernel_rfl) (by first | exact fun _ _ _ h => h | exact fun _ _ _ h => nomatch h.1) (Or.inl ⟨by rfl, fun w_ hw_ => by go_simp⟩) hch0 ?_
  try simp only [Act.put, List.setIfInBounds_toArray, List.set_cons_zero, List.set_cons_succ, List.getElem_toArray, List.getElem_cons_succ, List.getElem_cons_zero]
  refine wpAnyH_take (i := 4) (v := .bool true) rfl (by kernel_rfl) (by kernel_rfl) (by kernel_rfl) (by first | exact fun _ _ _ h => h | exact fun _ _ _ h => nomatch h.1) (Or.inl ⟨by rfl, fun w_ hw_ => by go_simp⟩) hch0 ?_
  refine wpAnyH_take (i := 5) (v := .bool true) rfl (by kernel_rfl) (by kernel_rfl) (by kernel_rfl) (by first | exact fun _ _ _ h => h | exact fun _ _ _ h => nomatch h.1) (Or.inl ⟨by rfl, fun w_ hw_ => by go_simp⟩) hch0 ?_
  try simp only [Act.put, List.setIfInBounds_toArray, List.set_cons_zero, List.set_cons_succ, List.getElem_toArray, List.getElem_cons_succ, List.getElem_cons_zero]
  refine wpAnyH_take (i := 6) (v := .agg (u8s key).toArray) rfl (by kernel_rfl) (by kernel_rfl) (by kernel_rfl) (by first | exact fun _ _ _ h => h | exact fun _ _ _ h => nomatch h.1) (yieldsIf_load_mid (by rfl) 26 _ rfl W.heap.size 0 rfl (u8s key) _ (fun w' hw' => (HRK4.out.chg hw' (fun h => h)).range) Try.underlying26 rfl (by rw [u8s_length, HKL.out]; exact size26)) hch0 ?_
  refine wpAnyH_take (i := 7) (v := .agg (u8s first).toArray) rfl (by kernel_rfl) (by kernel_rfl) (by kernel_rfl) (by first | exact fun _ _ _ h => h | exact fun _ _ _ h => nomatch h.1) (yieldsIf_load_mid (by rfl) 26 _ rfl w1.heap.size 0 rfl (u8s first) _ (fun w' hw' => (HRF4.out.chg hw' (fun h => h)).range) Try.underlying26 rfl (by rw [u8s_length, HFL.out]; exact size26)) hch0 ?_
  refine wpAnyH_take (i := 8) (v := .slice (some ⟨g4, 0, none⟩) text.length text.length) rfl (by kernel_rfl) (by kernel_rfl) (by kernel_rfl) (by first | exact fun _ _ _ h => h | exact fun _ _ _ h => nomatch h.1) (Or.inl ⟨by rfl, fun w_ hw_ => by go_simp⟩) hch0 ?_
  refine wpAnyH_take (i := 10) (v := .slice A text.length cap) rfl (by kernel_rfl) (by kernel_rfl) (by kernel_rfl) (by first | exact fun _ _ _ h => h | exact fun _ _ _ h => nomatch h.1) (Or.inl ⟨by rfl, fun w_ hw_ => by go_simp⟩) hch0 ?_
  try simp only [Act.put, List.setIfInBounds_toArray, List.set_cons_zero, List.set_cons_succ, List.getElem_toArray, List.getElem_cons_succ, List.getElem_cons_zero]
  refine wpAnyH_ready (rs := [9]) (by kernel_rfl) (by simp) ?_
  refine AllReadyH.cons rfl (fun K hK => ?_) AllReadyH.nil
  rw [if_pos (by rfl)]
  try simp only [Act.put, List.setIfInBounds_toArray, List.set_cons_zero, List.set_cons_succ, List.getElem_toArray, List.getElem_cons_succ, List.getElem_cons_zero]
  go_simp
  refine (HS2.out _ g4 (HR4.out.chg hch0 (fun h => h)) (HC4.out.trans hch0)).mono ?_
  rintro e x1 ⟨g5, rfl, hge5, hr5, hcx1⟩
  have hch1 : Chg none_ w4 x1 := hch0.trans hcx1
  refine hK.out _ _ (hch1) (fun _ => ?_)
  clear hK K
  try simp only [Act.put, List.setIfInBounds_toArray, List.set_cons_zero, List.set_cons_succ, List.getElem_toArray, List.getElem_cons_succ, List.getElem_cons_zero]
  refine wpAnyH_ready (rs := [11]) (by kernel_rfl) (by simp) ?_
  refine AllReadyH.cons rfl (fun K hK => ?_) AllReadyH.nil
  rw [if_pos (by rfl)]
  try simp only [Act.put, List.setIfInBounds_toArray, List.set_cons_zero, List.set_cons_succ, List.getElem_toArray, List.getElem_cons_succ, List.getElem_cons_zero]
  go_simp
  refine (HM1.out x1 g5 hr5 (HC4.out.trans hch1)).mono ?_
  rintro e x2 ⟨rfl, nk, rfl⟩
  have hch2 : Chg none_ w4 (x1.drewN nk) := hch1.drewN nk
  generalize x1.drewN nk = x2 at hch2 ⊢
  refine hK.out _ _ (hch2) (fun _ => ?_)
  clear hK K
  try simp only [Act.put, List.setIfInBounds_toArray, List.set_cons_zero, List.set_cons_succ, List.getElem_toArray, List.getElem_cons_succ, List.getElem_cons_zero]
  refine wpAnyH_take (i := 12) (v := .bool true) rfl (by kernel_rfl) (by kernel_rfl) (by kernel_rfl) (by first | exact fun _ _ _ h => h | exact fun _ _ _ h => nomatch h.1) (Or.inl ⟨by rfl, fun w_ hw_ => by go_simp⟩) hch2 ?_
  refine wpAnyH_take (i := 13) (v := .bool true) rfl (by kernel_rfl) (by kernel_rfl) (by kernel_rfl) (by first | exact fun _ _ _ h => h | exact fun _ _ _ h => nomatch h.1) (Or.inl ⟨by rfl, fun w_ hw_ => by go_simp⟩) hch2 ?_
  try simp only [Act.put, List.setIfInBounds_toArray, List.set_cons_zero, List.set_cons_succ, List.getElem_toArray, List.getElem_cons_succ, List.getElem_cons_zero]
  refine wpAnyH_take (i := 14) (v := .agg (u8s key).toArray) rfl (by kernel_rfl) (by kernel_rfl) (by kernel_rfl) (by first | exact fun _ _ _ h => h | exact fun _ _ _ h => nomatch h.1) (yieldsIf_load_mid (by rfl) 26 _ rfl W.heap.size 0 rfl (u8s key) _ (fun w' hw' => (HRK4.out.chg hw' (fun h => h)).range) Try.underlying26 rfl (by rw [u8s_length, HKL.out]; exact size26)) hch2 ?_
  refine wpAnyH_take (i := 15) (v := .agg (u8s first).toArray) rfl (by kernel_rfl) (by kernel_rfl) (by kernel_rfl) (by first | exact fun _ _ _ h => h | exact fun _ _ _ h => nomatch h.1) (yieldsIf_load_mid (by rfl) 26 _ rfl w1.heap.size 0 rfl (u8s first) _ (fun w' hw' => (HRF4.out.chg hw' (fun h => h)).range) Try.underlying26 rfl (by rw [u8s_length, HFL.out]; exact size26)) hch2 ?_
  refine wpAnyH_take (i := 16) (v := .slice A text.length cap) rfl (by kernel_rfl) (by kernel_rfl) (by kernel_rfl) (by first | exact fun _ _ _ h => h | exact fun _ _ _ h => nomatch h.1) (Or.inl ⟨by rfl, fun w_ hw_ => by go_simp⟩) hch2 ?_
  refine wpAnyH_take (i := 17) (v := .int .i64 k) rfl (by kernel_rfl) (by kernel_rfl) (by kernel_rfl) (by first | exact fun _ _ _ h => h | exact fun _ _ _ h => nomatch h.1) (Or.inl ⟨by rfl, fun w_ hw_ => by go_simp⟩) hch2 ?_
  try simp only [Act.put, List.setIfInBounds_toArray, List.set_cons_zero, List.set_cons_succ, List.getElem_toArray, List.getElem_cons_succ, List.getElem_cons_zero]
  refine wpAnyH_take (i := 18) (v := .slice (highA A cap) k cap) rfl (by kernel_rfl) (by kernel_rfl) (by kernel_rfl) (by first | exact fun _ _ _ h => h | exact fun _ _ _ h => nomatch h.1) (yieldsIf_slice_high (by rfl) 35 5 _ _ rfl A text.length cap k rfl rfl Try.underlying35 size5 (by have := HKK.out; have := HCAP.out; omega)) hch2 ?_
  refine wpAnyH_take (i := 20) (v := .slice (some ⟨g4, 0, none⟩) text.length text.length) rfl (by kernel_rfl) (by kernel_rfl) (by kernel_rfl) (by first | exact fun _ _ _ h => h | exact fun _ _ _ h => nomatch h.1) (Or.inl ⟨by rfl, fun w_ hw_ => by go_simp⟩) hch2 ?_
  refine wpAnyH_take (i := 21) (v := .int .i64 k) rfl (by kernel_rfl) (by kernel_rfl) (by kernel_rfl) (by first | exact fun _ _ _ h => h | exact fun _ _ _ h => nomatch h.1) (Or.inl ⟨by rfl, fun w_ hw_ => by go_simp⟩) hch2 ?_
  try simp only [Act.put, List.setIfInBounds_toArray, List.set_cons_zero, List.set_cons_succ, List.getElem_toArray, List.getElem_cons_succ, List.getElem_cons_zero]
  refine wpAnyH_take (i := 22) (v := .slice (highA (some ⟨g4, 0, none⟩) text.length) k text.length) rfl (by kernel_rfl) (by kernel_rfl) (by kernel_rfl) (by first | exact fun _ _ _ h => h | exact fun _ _ _ h => nomatch h.1) (yieldsIf_slice_high (by rfl) 35 5 _ _ rfl (some ⟨g4, 0, none⟩) text.length text.length k rfl rfl Try.underlying35 size5 (by have := HKK.out; have := HCAP.out; omega)) hch2 ?_
  refine wpAnyH_ready (rs := [19]) (by kernel_rfl) (by simp) ?_
  refine AllReadyH.cons rfl (fun K hK => ?_) AllReadyH.nil
  rw [if_pos (by rfl)]
  try simp only [Act.put, List.setIfInBounds_toArray, List.set_cons_zero, List.set_cons_succ, List.getElem_toArray, List.getElem_cons_succ, List.getElem_cons_zero]
  go_simp
  refine (HS3.out _ (HC4.out.trans hch2)).mono ?_
  rintro e x3 ⟨g6, rfl, hge6, hr6, hcx3⟩
  have hch3 : Chg none_ w4 x3 := hch2.trans hcx3
  refine hK.out _ _ (hch3) (fun _ => ?_)
  clear hK K
  try simp only [Act.put, List.setIfInBounds_toArray, List.set_cons_zero, List.set_cons_succ, List.getElem_toArray, List.getElem_cons_succ, List.getElem_cons_zero]
  refine wpAnyH_ready (rs := [23]) (by kernel_rfl) (by simp) ?_
  refine AllReadyH.cons rfl (fun K hK => ?_) AllReadyH.nil
  rw [if_pos (by rfl)]
  try simp only [Act.put, List.setIfInBounds_toArray, List.set_cons_zero, List.set_cons_succ, List.getElem_toArray, List.getElem_cons_succ, List.getElem_cons_zero]
  go_simp
  refine (HM2.out x3 g6 g4 hr6 (HR4.out.chg hch3 (fun h => h))).mono ?_
  rintro e x4 ⟨rfl, nk2, rfl⟩
  have hch4 : Chg none_ w4 (x3.drewN nk2) := hch3.drewN nk2
  generalize x3.drewN nk2 = x4 at hch4 ⊢
  refine hK.out _ _ (hch4) (fun _ => ?_)
  clear hK K
  try simp only [Act.put, List.setIfInBounds_toArray, List.set_cons_zero, List.set_cons_succ, List.getElem_toArray, List.getElem_cons_succ, List.getElem_cons_zero]
  refine wpAnyH_take (i := 24) (v := .bool true) rfl (by kernel_rfl) (by kernel_rfl) (by kernel_rfl) (by first | exact fun _ _ _ h => h | exact fun _ _ _ h => nomatch h.1) (Or.inl ⟨by rfl, fun w_ hw_ => by go_simp⟩) hch4 ?_
  refine wpAnyH_take (i := 25) (v := .bool true) rfl (by kernel_rfl) (by kernel_rfl) (by kernel_rfl) (by first | exact fun _ _ _ h => h | exact fun _ _ _ h => nomatch h.1) (Or.inl ⟨by rfl, fun w_ hw_ => by go_simp⟩) hch4 ?_
  try simp only [Act.put, List.setIfInBounds_toArray, List.set_cons_zero, List.set_cons_succ, List.getElem_toArray, List.getElem_cons_succ, List.getElem_cons_zero]
  refine wpAnyH_done (by kernel_rfl) ?_ _
  go_wp2
  go_ret
  exact ⟨rfl, HC4.out.trans hch4⟩
end Go.Proofs.Ytbohpnbiemokpaa
