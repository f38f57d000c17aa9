/- Layer 9 (gcm): a sum, the document's. -/
import Derived.Test.YtidafbpiipjnlaaDoorV9RTimes
import Derived.Test.YtidafbpiipjnlaaDoorKA2
import Derived.Test.YtidafbpiipjnlaaDoorKM
namespace Go.Proofs.YtidafbpiipjnlaaDoor
open Go.RowKit
theorem Chg.ofNone {S : Nat → Prop} {w w' : World} (h : Chg none_ w w') : Chg S w w' := h.mono (fun _ _ h => h.elim)


set_option maxRecDepth 100000 in
set_option maxHeartbeats 1000000 in
theorem number_any (n : Nat) (w : World) (hn : n < 2 ^ 62) : Calls Tryd.prog 71 #[.int .i64 (n : Int)] w fun e w' => ∃ g, e = .returned (.slice (some ⟨g, 0, none⟩) 8 8) ∧ w.heap.size ≤ g ∧ Row w' g 5 (u8s (len8 n)) ∧ Chg none_ w w' := by
  have HN := Lib.hid hn
  clear hn
  go_enter Tryd.func71, Tryd.ntmps71
  go_wp2_with (at_make; refine wpList_make_bytes rfl _ _ _ rfl 5 Tryd.underlying24 info5' 8 rfl rfl (by decide) ?_; intro w1 hr1 hc1; have HR1 := Lib.hid hr1; have HC1 := Lib.hid hc1; clear hr1 hc1)
  go_loopw [0, 4] (fun v i wr => ∃ k : Nat, k ≤ 8 ∧ i = .int .i64 (7 - (k : Int)) ∧ v = .int .i64 ((n / 256 ^ k : Nat) : Int) ∧ Row wr w.heap.size 5 (u8s (arr n 8 k)) ∧ Chg (· = w.heap.size) w1 wr) (fun _ i _ => (intOf i + 1).toNat)
  case atStart => exact ⟨0, Nat.zero_le _, rfl, by rw [Nat.pow_zero, Nat.div_one], by rw [arr_0]; exact HR1.out, Chg.refl _ _⟩
  case round =>
    obtain ⟨k, hk, rfl, rfl, hrow, hch⟩ := hrel
    have HC := Lib.hid hch
    by_cases hlt : k < 8
    · obtain ⟨i, hi⟩ : ∃ i, i = 7 - k := ⟨_, rfl⟩
      have c0 := Row.u8 hrow (i := i) (by rw [arr_len]; omega)
      have f0 := hrow.frozen i
      have HSET := Lib.hid (hrow.set i (.int .u8 ((n / 256 ^ k % 256 : Nat) : Int)))
      have HAS : Hid ((arr n 8 k).set i (n / 256 ^ k % 256) = arr n 8 (k + 1)) := Lib.hid (by
        have := arr_set n 8 k hlt
        rw [show 8 - 1 - k = i from by omega, Nat.pow_mul, show (2 : Nat) ^ 8 = 256 from rfl] at this
        exact this)
      have HND : Hid (n / 256 ^ (k + 1) = n / 256 ^ k / 256) := Lib.hid (by rw [Nat.pow_succ, ← Nat.div_div_eq_div_mul])
      have hle : n / 256 ^ k < 2 ^ 62 := Nat.lt_of_le_of_lt (Nat.div_le_self _ _) HN.out
      generalize (arr n 8 k).getD i 0 = z at c0
      generalize n / 256 ^ k = y at HSET HAS HND hle ⊢
      have e1 : (7 : Int) - (k : Int) = (i : Int) := by omega
      have HE1 := Lib.hid e1
      rw [e1]
      have q0 : (0 : Int) ≤ (i : Int) := by omega
      have q1 : (i : Int) < 8 := by omega
      have HE2 : Hid ((i : Int) - 1 = 7 - ((k + 1 : Nat) : Int)) := Lib.hid (by omega)
      have HI : Hid (i < 8) := Lib.hid (by omega)
      have HLT := Lib.hid hlt
      have HV : Hid ((y : Int) % 256 = ((y % 256 : Nat) : Int)) := Lib.hid (by omega)
      have HV2 : Hid ((y : Int) / 256 = ((y / 256 : Nat) : Int)) := Lib.hid (by omega)
      clear hrow hch hk hlt hi e1
      go_wp2
      go_roundw
      case rel => exact ⟨k + 1, by have := HLT.out; omega, congrArg (Value.int .i64) HE2.out, by first | (rw [HND.out, HV2.out]; done) | rw [HND.out], by rw [HV.out, ← HAS.out, ← u8s_set]; exact HSET.out, HC.out.setCell (fun _ => rfl) _⟩
      case measure => simp [intOf] <;> omega
    · have hk8 : k = 8 := by omega
      subst hk8
      have HL : Hid (arr n 8 8 = len8 n) := Lib.hid (by
        unfold arr len8
        apply List.map_congr_left
        intro j hj
        have := List.mem_range.1 hj
        rw [if_pos (by omega), Nat.pow_mul])
      rw [HL.out] at hrow
      have HROW := Lib.hid hrow
      have q0 : ¬ (0 : Int) ≤ 7 - ((8 : Nat) : Int) := by decide
      clear hrow hch hk hlt
      simp only [show (7 : Int) - ((8 : Nat) : Int) = -1 from by decide]
      go_wp2
      go_ret
      exact ⟨_, rfl, Nat.le_refl _, HROW.out, HC1.out.andThen HC.out (fun b h e => by omega)⟩

set_option maxRecDepth 100000 in
set_option maxHeartbeats 2000000 in
theorem full_any (b : List Nat) (T : Nat → Prop) (A : Option Addr) (cap : Nat) (w : World) (hv : View w T A b.length (u8s b)) (hl : b.length ≤ 100000) : Calls Tryd.prog 70 #[.slice A b.length cap] w fun e w' => ∃ v, e = .returned v ∧ Owned w' w.heap.size v (padB b) ∧ Chg none_ w w' := by
  have HV := Lib.hid hv
  clear hv
  go_enter Tryd.func70, Tryd.ntmps70
  go_wp2_with (first | ((with_reducible show wpList _ _ _ (⟨some 4, _, _, _, _, _⟩ :: _) _ _); refine wpList_new_row (v := fun g => .slice (some ⟨g, 0, none⟩) 0 0) (e := 5) (cs := []) rfl (fun w_ => by go_simp) ?_; intro w1 hr1 hc1 hs1; have HC1 := Lib.hid hc1; have HO1 : Hid (Owned w1 w.heap.size (.slice (some ⟨w.heap.size, 0, none⟩) 0 0) []) := Lib.hid (Owned.row hr1 (Nat.le_refl _) rfl (by decide)); clear hr1 hc1 hs1) | ((with_reducible show wpList _ _ _ (⟨some 6, _, _, _, _, _⟩ :: _) _ _); refine wpList_append_bytes rfl _ _ _ rfl Tryd.underlying24 (base := w.heap.size) (L := []) (M := b) (A := A) (m := b.length) (c := cap) (w0 := w) rfl HO1.out rfl (HV.out.chg HC1.out (fun _ _ h => h)) (by simp; omega) HC1.out.size HC1.out (Nat.le_refl _) ?_; intro v2 w2 ho2 hc2; have HO2 := Lib.hid ho2; have HC2 := Lib.hid hc2; clear ho2 hc2))
  obtain ⟨A2, c2, hv2, _, _, _⟩ := HO2.out.view
  rw [List.nil_append] at hv2
  have HO2b : Hid (Owned w2 w.heap.size (.slice A2 b.length c2) b) := Lib.hid (by have := HO2.out; rw [hv2, List.nil_append] at this; exact this)
  subst hv2
  clear HO1 HO2
  go_loopw [3] (fun v wr => ∃ (m : Nat) (A3 : Option Addr) (c3 : Nat), m ≤ (16 - b.length % 16) % 16 ∧ v = .slice A3 (b.length + m) c3 ∧ Owned wr w.heap.size v (b ++ List.replicate m 0) ∧ Chg none_ w wr) (fun v _ => 200000 - (match v with | .slice _ n _ => n | _ => 0))
  case atStart => exact ⟨0, A2, c2, Nat.zero_le _, rfl, by rw [List.replicate_zero, List.append_nil]; exact HO2b.out, HC2.out⟩
  case round =>
    obtain ⟨m, A3, c3, hm, rfl, hown, hch⟩ := hrel
    have HO := Lib.hid hown
    have HC := Lib.hid hch
    clear hown hch
    by_cases hz : (b.length + m) % 16 = 0
    · have hmf : m = (16 - b.length % 16) % 16 := by omega
      have HP : Hid (b ++ List.replicate m 0 = padB b) := Lib.hid (by unfold padB; rw [hmf])
      have hzi : ((b.length : Int) + (m : Int)) % 16 = 0 := by omega
      rw [HP.out] at HO
      clear hm hmf
      go_wp2
      go_ret
      exact ⟨_, rfl, HO.out, HC.out⟩
    · have hzi : ((((b.length : Int) + (m : Int)) % 16) != 0) = true := by simp; omega
      have HM : Hid (m + 1 ≤ (16 - b.length % 16) % 16) := Lib.hid (by omega)
      have HRP : Hid (b ++ List.replicate (m + 1) 0 = b ++ List.replicate m 0 ++ [0]) := Lib.hid (by rw [List.replicate_succ', List.append_assoc])
      have HLN : Hid ((b ++ List.replicate m 0).length = b.length + m) := Lib.hid (by simp)
      have hm16 : m < 16 := by omega
      clear hz hm
      go_wp2_with (first | ((with_reducible show wpList _ _ _ (⟨some 12, _, _, _, _, _⟩ :: _) _ _); refine wpList_new_row (v := fun g => .slice (some ⟨g, 0, none⟩) 1 1) (e := 5) (cs := [.int .u8 0]) rfl (fun w_ => by go_simp) ?_; intro w5 hr5 hc5 hs5; have HC5 := Lib.hid (HC.out.trans hc5); have HO5 := Lib.hid (HO.out.chg hc5 (fun _ _ h => h)); have HV5 : Hid (View w5 (fun _ => True) (some ⟨wr.heap.size, 0, none⟩) 1 (u8s [0])) := Lib.hid (View.all hr5 rfl trivial); clear hr5 hc5 hs5) | ((with_reducible show wpList _ _ _ (⟨some 13, _, _, _, _, _⟩ :: _) _ _); refine wpList_append_bytes rfl _ _ _ rfl Tryd.underlying24 (base := w.heap.size) (L := b ++ List.replicate m 0) (M := [0]) (A := some ⟨wr.heap.size, 0, none⟩) (m := 1) (c := 1) (w0 := w) rfl HO5.out rfl HV5.out (by rw [HLN.out]; omega) HC5.out.size HC5.out (Nat.le_refl _) ?_; intro v6 w6 ho6 hc6; have HO6 : Hid (Owned w6 w.heap.size v6 (b ++ List.replicate (m + 1) 0)) := Lib.hid (by rw [HRP.out]; exact ho6); have HC6 := Lib.hid hc6; clear ho6 hc6))
      obtain ⟨A6, c6, hv6, _, _, _⟩ := HO6.out.view
      have hl6 : (b ++ List.replicate (m + 1) 0).length = b.length + (m + 1) := by simp
      rw [hl6] at hv6
      subst hv6
      go_roundw
      case rel => exact ⟨m + 1, A6, c6, HM.out, rfl, HO6.out, HC6.out⟩
      case measure => simp; omega

set_option maxRecDepth 100000 in
set_option maxHeartbeats 8000000 in
theorem rsum_any9 (h more text : List Nat) (T T' : Nat → Prop) (A A' : Option Addr) (cap cap' : Nat) (w : World) (hh : h.length = 16) (hhb : ∀ x ∈ h, x < 256) (hm : View w T A more.length (u8s more)) (hml : more.length ≤ 10000) (hmb : ∀ x ∈ more, x < 256) (ht : View w T' A' text.length (u8s text)) (htl : text.length ≤ 10000) (htb : ∀ x ∈ text, x < 256) :
    Calls Tryd.prog 52 #[.agg (u8s h).toArray, .slice A more.length cap, .slice A' text.length cap'] w fun e w' => e = .returned (.agg (u8s (sumG h more text)).toArray) ∧ Chg none_ w w' := by
  have HHL := Lib.hid hh
  have hfull : ∀ (b : List Nat) (T : Nat → Prop) (A : Option Addr) (cap : Nat), b.length ≤ 10000 → View w T A b.length (u8s b) → ∀ w', Chg none_ w w' → Calls Tryd.prog 70 #[.slice A b.length cap] w' fun e w'' => ∃ A2 c2, e = .returned (.slice A2 (padB b).length c2) ∧ Owned w'' w'.heap.size (.slice A2 (padB b).length c2) (padB b) ∧ Chg none_ w' w'' := fun b T A cap hl hv w' hc => by
    refine (full_any b T A cap w' (hv.chg hc (fun _ _ h => h)) (by omega)).mono ?_
    rintro e w'' ⟨v, rfl, ho, hc2⟩
    obtain ⟨A2, c2, rfl, _, _, _⟩ := ho.view
    exact ⟨A2, c2, rfl, ho, hc2⟩
  have HF1 := Lib.hid (hfull more T A cap hml hm)
  have HF2 := Lib.hid (hfull text T' A' cap' htl ht)
  have HN1 : Hid (∀ w', Calls Tryd.prog 71 #[.int .i64 (8 * (more.length : Int))] w' fun e w'' => ∃ g, e = .returned (.slice (some ⟨g, 0, none⟩) 8 8) ∧ Row w'' g 5 (u8s (len8 (8 * more.length))) ∧ Chg none_ w' w'') := Lib.hid (fun w' => by
    have := number_any (8 * more.length) w' (by omega)
    rw [show ((8 * more.length : Nat) : Int) = 8 * (more.length : Int) from by omega] at this
    exact this.mono fun e w'' ⟨g, h1, _, h2, h3⟩ => ⟨g, h1, h2, h3⟩)
  have HN2 : Hid (∀ w', Calls Tryd.prog 71 #[.int .i64 (8 * (text.length : Int))] w' fun e w'' => ∃ g, e = .returned (.slice (some ⟨g, 0, none⟩) 8 8) ∧ Row w'' g 5 (u8s (len8 (8 * text.length))) ∧ Chg none_ w' w'') := Lib.hid (fun w' => by
    have := number_any (8 * text.length) w' (by omega)
    rw [show ((8 * text.length : Nat) : Int) = 8 * (text.length : Int) from by omega] at this
    exact this.mono fun e w'' ⟨g, h1, _, h2, h3⟩ => ⟨g, h1, h2, h3⟩)
  obtain ⟨ALL, hALL⟩ : ∃ ALL, ALL = allG more text := ⟨_, rfl⟩
  obtain ⟨N, hN⟩ : ∃ N, N = blocksG more text := ⟨_, rfl⟩
  have hall2 : padB more ++ padB text ++ len8 (8 * more.length) ++ len8 (8 * text.length) = ALL := by rw [hALL]; unfold allG; rw [List.append_assoc (padB more ++ padB text)]
  have halen : ALL.length = 16 * N := by rw [hALL, hN]; exact allG_len more text
  have halb : ∀ x ∈ ALL, x < 256 := by rw [hALL]; exact allG_lt hmb htb
  have hN2 : N ≤ 2000 := by rw [hN]; unfold blocksG; omega
  have hsum : sumG h more text = ghS h ALL N := by rw [hALL, hN]; rfl
  have hp1 := padB_len more
  have hp2 := padB_len text
  have hp1b : (padB more).length ≤ 20000 := by rw [hp1]; omega
  have hp2b : (padB text).length ≤ 20000 := by rw [hp2]; omega
  have HE1 := Lib.hid (len8_len (8 * more.length))
  have HE2 := Lib.hid (len8_len (8 * text.length))
  have HSL := Lib.hid (sumG_len h more text)
  rw [hsum] at HSL ⊢
  clear hp1 hp2 hfull hALL hN hsum
  generalize len8 (8 * more.length) = E1 at *
  generalize len8 (8 * text.length) = E2 at *
  obtain ⟨n1, hn1⟩ : ∃ n1, n1 = (padB more).length := ⟨_, rfl⟩
  obtain ⟨n2, hn2⟩ : ∃ n2, n2 = (padB text).length := ⟨_, rfl⟩
  rw [← hn1] at HF1 hp1b
  rw [← hn2] at HF2 hp2b
  have HP1 : Hid ((padB more).length = n1) := Lib.hid hn1.symm
  have HP2 : Hid ((padB text).length = n2) := Lib.hid hn2.symm
  clear hn1 hn2
  generalize padB more = P1 at *
  generalize padB text = P2 at *
  have HALL := Lib.hid hall2
  have HAL := Lib.hid halen
  have HALB := Lib.hid (fun i => getD_lt halb i (by decide))
  have HAB := Lib.hid halb
  have HTI : Hid (∀ (y : List Nat) w', y.length = 16 → (∀ x ∈ y, x < 256) → Calls Tryd.prog 72 #[.agg (u8s y).toArray, .agg (u8s h).toArray] w' fun e w'' => e = .returned (.agg (u8s (tmsB y h)).toArray) ∧ Chg none_ w' w'') := Lib.hid (fun y w' hy hyb => by
    have := rtimes_any9 y h w' hy hyb hh hhb
    rwa [gM_comm (polB_lt h) (polB_lt y)] at this)
  have hml2 : more.length ≤ 10000 := hml
  have htl2 : text.length ≤ 10000 := htl
  clear hh hhb hm hmb ht htb hall2 halen halb
  go_enter Tryd.func52, Tryd.ntmps52
  go_wp2_with (first | ((with_reducible show wpList _ _ _ (⟨some 3, .box 26 _, _, _, _, _⟩ :: _) _ _); refine wpList_box_Row rfl rfl (u8s h) rfl ?_; intro w1 hr1 hc1 hs1; have HR1 := Lib.hid hr1; have HC1 := Lib.hid hc1; clear hr1 hc1 hs1) | ((with_reducible show wpList _ _ _ (⟨some 6, .alloc 26, _, _, _, _⟩ :: _) _ _); refine wpList_alloc_Row rfl rfl (u8s (List.replicate 16 0)) zero22 ?_; intro w2 hr2 hc2 hs2; have HR2 := Lib.hid hr2; have HC2 := Lib.hid (HC1.out.trans hc2); have HR1b := Lib.hid (HR1.out.chg hc2 (fun h => h)); have HG1 := Lib.hid (show w.heap.size < w1.heap.size from HR1.out.lt); have HB2 := Lib.hid (show w.heap.size ≤ w2.heap.size from HC2.out.size); clear hr2 hc2 hs2) | (go_at_call 70; with_reducible refine (HF1.out _ HC2.out).mono ?_; rintro e w3 ⟨A3, c3, rfl, ho3, hc3⟩; have HC3 := Lib.hid (HC2.out.trans hc3); have HD3 := Lib.hid hc3; have HO3 := Lib.hid ho3; clear ho3 hc3 HF1) | (go_at_call 70; with_reducible refine (HF2.out _ HC3.out).mono ?_; rintro e w4 ⟨A4, c4, rfl, ho4, hc4⟩; have HC4 := Lib.hid (HC3.out.trans hc4); have HD4 := Lib.hid (HD3.out.trans hc4); have HO3b := Lib.hid (HO3.out.chg hc4 (fun _ _ h => h)); have HO4 := Lib.hid ho4; clear ho4 hc4 HF2) | ((with_reducible show wpList _ _ _ (⟨some 15, _, _, _, _, _⟩ :: _) _ _); refine wpList_append_bytes rfl _ _ _ rfl Tryd.underlying24 (base := w2.heap.size) (L := P1) (M := P2) (A := A4) (m := n2) (c := c4) (w0 := w2) rfl HO3b.out rfl (by rw [← HP2.out]; exact (HO4.out.slice).2.2) (by rw [HP1.out]; omega) HD4.out.size HD4.out (Nat.le_refl _) ?_; intro v5 w5 ho5 hc5; have HO5 := Lib.hid ho5; have HD5 := Lib.hid hc5; clear ho5 hc5) | (go_at_call 71; with_reducible refine (HN1.out _).mono ?_; rintro e w6 ⟨g6, rfl, hr6, hc6⟩; have HD6 := Lib.hid (HD5.out.trans hc6); have HO6 := Lib.hid (HO5.out.chg hc6 (fun _ _ h => h)); have HR6 := Lib.hid hr6; clear hr6 hc6 HN1) | ((with_reducible show wpList _ _ _ (⟨some 21, _, _, _, _, _⟩ :: _) _ _); refine wpList_append_bytes rfl _ _ _ rfl Tryd.underlying24 (base := w2.heap.size) (v := v5) (L := P1 ++ P2) (M := E1) (A := some ⟨g6, 0, none⟩) (m := 8) (c := 8) (w0 := w2) rfl HO6.out rfl (View.all (T := fun _ => True) HR6.out (by rw [u8s_length, HE1.out]) trivial) (by rw [List.length_append, HP1.out, HP2.out]; omega) HD6.out.size HD6.out (Nat.le_refl _) ?_; intro v7 w7 ho7 hc7; have HO7 := Lib.hid ho7; have HD7 := Lib.hid hc7; clear ho7 hc7) | (go_at_call 71; with_reducible refine (HN2.out _).mono ?_; rintro e w8 ⟨g8, rfl, hr8, hc8⟩; have HD8 := Lib.hid (HD7.out.trans hc8); have HO8 := Lib.hid (HO7.out.chg hc8 (fun _ _ h => h)); have HR8 := Lib.hid hr8; clear hr8 hc8 HN2) | ((with_reducible show wpList _ _ _ (⟨some 26, _, _, _, _, _⟩ :: _) _ _); refine wpList_append_bytes rfl _ _ _ rfl Tryd.underlying24 (base := w2.heap.size) (v := v7) (L := P1 ++ P2 ++ E1) (M := E2) (A := some ⟨g8, 0, none⟩) (m := 8) (c := 8) (w0 := w2) rfl HO8.out rfl (View.all (T := fun _ => True) HR8.out (by rw [u8s_length, HE2.out]) trivial) (by rw [List.length_append, List.length_append, HP1.out, HP2.out, HE1.out]; omega) HD8.out.size HD8.out (Nat.le_refl _) ?_; intro v9 w9 ho9 hc9; have HO9 := Lib.hid ho9; have HD9 := Lib.hid hc9; clear ho9 hc9) | ((with_reducible show wpList _ _ _ (⟨some 8, .alloc 26, _, _, _, _⟩ :: _) _ _); refine wpList_alloc_Row rfl rfl (u8s (List.replicate 16 0)) zero22 ?_; intro w10 hr10 hc10 hs10; have HR10 := Lib.hid hr10; have HN10 := Lib.hid hc10; have HD10 := Lib.hid (HD9.out.trans hc10); clear hr10 hc10 hs10))
  try simp only [Act.put, List.setIfInBounds_toArray, List.set_cons_zero, List.set_cons_succ]
  obtain ⟨A9, c9, hv9, _, _, hvo0⟩ := HO9.out.view
  have hvo : View w9 (fun b => b < w9.heap.size) A9 (P1 ++ P2 ++ E1 ++ E2).length (u8s (P1 ++ P2 ++ E1 ++ E2)) := hvo0.mono (fun b hb _ => hb)
  clear hvo0
  obtain ⟨L, hL⟩ : ∃ L, L = ALL.length := ⟨_, rfl⟩
  rw [HALL.out, ← hL] at hvo hv9
  have HLN : Hid (L = 16 * N) := Lib.hid (hL.trans HAL.out)
  subst hv9
  have HV9 := Lib.hid (hvo.chg HN10.out (fun _ _ h => h))
  have HRH := Lib.hid (HR1b.out.chg HD10.out (fun h => h))
  have HRZ := Lib.hid (HR2.out.chg HD10.out (fun h => h))
  have HC10 := Lib.hid (HC2.out.trans HD10.out)
  have HS1 : Hid (w.heap.size < w9.heap.size) := Lib.hid (Nat.lt_of_lt_of_le HR1b.out.lt HD9.out.size)
  have HS2 : Hid (w1.heap.size < w9.heap.size) := Lib.hid (Nat.lt_of_lt_of_le HR2.out.lt HD9.out.size)
  obtain ⟨gy, hgy⟩ : ∃ gy, gy = w9.heap.size := ⟨_, rfl⟩
  rw [← hgy] at HS1 HS2 HR10 HV9
  rw [← hgy]
  clear hgy hvo HR1 HC1 HR2 HC2 HR1b HB2 HC3 HD3 HO3 HC4 HD4 HO3b HO4 HO5 HD5 HD6 HO6 HR6 HO7 HD7 HD8 HO8 HR8 HO9 HD9 HN10 HD10 HALL HAL HP1 HP2 HE1 HE2 hp1b hp2b hL
  go_loopw [9, 10] (fun t _ wr => ∃ n : Nat, n ≤ N ∧ t = .int .i64 ((16 * n : Nat) : Int) ∧ Row wr gy 26 (u8s (ghS h ALL n)) ∧ Chg (· = gy) w10 wr) (fun t _ _ => 40000 - (intOf t).toNat)
  case atStart => exact ⟨0, Nat.zero_le _, rfl, HR10.out, Chg.refl _ _⟩
  case round =>
    obtain ⟨n, hn, rfl, hrow, hch⟩ := hrel
    obtain ⟨m, hm⟩ : ∃ m, m = 16 * n := ⟨_, rfl⟩
    rw [← hm]
    have HM := Lib.hid hm
    have HNN := Lib.hid hn
    by_cases hlt : n < N
    · have HLT := Lib.hid hlt
      have q0 : (m : Int) < (L : Int) := by have := HLN.out; omega
      have HML : Hid (m + 16 ≤ L) := Lib.hid (by have := HLN.out; omega)
      have HGH : Hid (tmsB (xorB (ghS h ALL n) (ALL.drop m)) h = ghS h ALL (n + 1)) := Lib.hid (by rw [hm]; rfl)
      have HYL := Lib.hid (ghS_len h ALL n)
      have HYB := Lib.hid (fun i => getD_lt (ghS_lt h ALL n) i (by decide))
      have HZL := Lib.hid (xorB_len (ghS h ALL n) (ALL.drop m))
      have HZB := Lib.hid (xorB_lt (k := ALL.drop m) (ghS_lt h ALL n) (fun x hx => HAB.out x (List.mem_of_mem_drop hx)))
      have HXB : Hid ((List.range 16).map (fun i => (ghS h ALL n).getD i 0 ^^^ ALL.getD (m + i) 0) = xorB (ghS h ALL n) (ALL.drop m)) := Lib.hid (by unfold xorB; simp only [drop_get])
      generalize xorB (ghS h ALL n) (ALL.drop m) = Z at HGH HZL HZB HXB
      generalize ghS h ALL n = Y at *
      have HROW0 := Lib.hid hrow
      have HC0 := Lib.hid hch
      have hmb : m < 40000 := by omega
      clear hrow hch hlt hn hm
      go_wp2
      try simp only [Act.put, List.setIfInBounds_toArray, List.set_cons_zero, List.set_cons_succ]
      go_loopw [10] (fun j wr => ∃ k : Nat, k ≤ 16 ∧ j = .int .i64 k ∧ Row wr gy 26 (u8s (partF (fun i => Y.getD i 0 ^^^ ALL.getD (m + i) 0) Y 16 k)) ∧ Chg (· = gy) w10 wr) (fun j _ => 16 - (intOf j).toNat)
      case atStart => exact ⟨0, Nat.zero_le _, rfl, by rw [partF_0 _ _ _ HYL.out]; exact HROW0.out, HC0.out⟩
      case round =>
        obtain ⟨k, hk, rfl, hrow, hch⟩ := hrel
        have HC := Lib.hid hch
        by_cases hlt : k < 16
        · have c1 := Row.u8 hrow (i := k) (by rw [partF_len]; exact hlt)
          rw [partF_get _ _ _ _ _ hlt (Nat.le_refl _)] at c1
          have hf := hrow.frozen k
          obtain ⟨b, o, hA, _, hbx, c2⟩ := (HV9.out.chg hch (fun b hb e => by omega)).at_ (i := m + k) (by have := HML.out; omega)
          have HX := Lib.hid (u8_xor_nat (Y.getD k 0) (ALL.getD (m + k) 0) (HYB.out k) (HALB.out (m + k)))
          have HSET := Lib.hid (hrow.set k (.int .u8 ((Y.getD k 0 ^^^ ALL.getD (m + k) 0 : Nat) : Int)))
          have HPS := Lib.hid (partF_set (fun i => Y.getD i 0 ^^^ ALL.getD (m + i) 0) Y 16 k)
          generalize Y.getD k 0 = x at c1 HX HSET HPS
          generalize ALL.getD (m + k) 0 = y at c2 HX HSET HPS
          subst hA
          have q1 : (0 : Int) ≤ (k : Int) := by omega
          have q2 : (k : Int) < 16 := by omega
          have q3 : (0 : Int) ≤ (m : Int) + (k : Int) := by omega
          have q4 : (m : Int) + (k : Int) < (L : Int) := by have := HML.out; omega
          have HLK := Lib.hid hlt
          clear hrow hch hk hlt hbx
          go_wp2
          go_region
          go_wp2
          go_roundw
          case rel => exact ⟨k + 1, by have := HLK.out; omega, by go_num, by rw [HX.out, ← HPS.out, ← u8s_set]; exact HSET.out, (by first | exact (HC.out.setCell (fun _ => rfl) _).drew | exact (HC.out.drew.setCell (fun _ => rfl) _).drew)⟩
          case measure => have := HLK.out; simp [intOf]; omega
        · have hk6 : k = 16 := by omega
          subst hk6
          rw [partF_all, HXB.out] at hrow
          have HROW := Lib.hid hrow
          have HRHr := Lib.hid (HRH.out.chg hch (fun e => by have := HS1.out; omega))
          clear hrow hch hk hlt
          go_wp2_with (first | ((with_reducible show wpList _ _ _ (⟨some 49, .load 26 _, _, _, _, _⟩ :: _) _ _); refine wpList_load_Row rfl rfl rfl (HROW.out) Tryd.underlying26 rfl (by rw [u8s_length, HZL.out]; exact size22) ?_) | ((with_reducible show wpList _ _ _ (⟨some 50, .load 26 _, _, _, _, _⟩ :: _) _ _); refine wpList_load_Row rfl rfl rfl (HRHr.out) Tryd.underlying26 rfl (by rw [u8s_length, HHL.out]; exact size22) ?_) | (go_at_call 72; with_reducible refine (HTI.out Z _ HZL.out HZB.out).mono ?_; rintro e wT ⟨rfl, hcT⟩; have HCT := Lib.hid (HC.out.trans hcT.ofNone); have HROWT := Lib.hid (HROW.out.chg hcT (fun h => h)); clear hcT) | ((with_reducible show wpList _ _ _ (⟨none, .store 26 (.tmp 8) (.tmp 51), _, _, _, _⟩ :: _) _ _); refine wpList_store_Row (xs := u8s (tmsB Z h)) rfl rfl rfl HROWT.out rfl (by rw [u8s_length, u8s_length, tmsB_len, HZL.out]) (by rw [u8s_length, tmsB_len]; exact size22) (u8s_oneA _) ?_; intro wS hrS hcS hsS; have HRS := Lib.hid hrS; have HCS := Lib.hid (hcS (· = gy) w10 HCT.out (fun _ => rfl)); clear hrS hcS hsS))
          go_roundw
          case rel => exact ⟨n + 1, HLT.out, congrArg (Value.int .i64) (by have := HM.out; omega), by rw [← HGH.out]; exact HRS.out, HCS.out⟩
          case measure => simp [intOf]; omega
    · have hnN : n = N := by have := HNN.out; omega
      subst hnN
      have q0 : ¬ (m : Int) < (L : Int) := by have := HLN.out; omega
      have HROW := Lib.hid hrow
      have HRZr := Lib.hid (HRZ.out.chg hch (fun e => by have := HS2.out; omega))
      have HCE := Lib.hid (HC10.out.andThen hch (fun b h e => by have := HS1.out; omega))
      clear hrow hch hlt hn
      go_wp2_with (first | ((with_reducible show wpList _ _ _ (⟨some 52, .load 26 _, _, _, _, _⟩ :: _) _ _); refine wpList_load_Row rfl rfl rfl (HROW.out) Tryd.underlying26 rfl (by rw [u8s_length, HSL.out]; exact size22) ?_) | ((with_reducible show wpList _ _ _ (⟨none, .store 26 (.tmp 6) (.tmp 52), _, _, _, _⟩ :: _) _ _); refine wpList_store_Row (xs := u8s (ghS h ALL n)) rfl rfl rfl HRZr.out rfl (by rw [u8s_length, u8s_length, HSL.out, List.length_replicate]) (by rw [u8s_length, HSL.out]; exact size22) (u8s_oneA _) ?_; intro wE hrE hcE hsE; have HRE := Lib.hid hrE; have HCF := Lib.hid (hcE none_ w HCE.out (fun h => by have := HG1.out; omega)); clear hrE hcE hsE))
      refine ret_row rfl rfl HRE.out Tryd.underlying26 rfl (by rw [u8s_length, HSL.out]; exact size22) rfl ?_
      exact ⟨rfl, HCF.out⟩

end Go.Proofs.YtidafbpiipjnlaaDoor
