/- Layer 7 (hash): the document's tags. -/
import Derived.Test.YtodcjcpbigggfaaDoorV7RSum
import Derived.Test.YtodcjcpbigggfaaDoorV7Tag
namespace Go.Proofs.YtodcjcpbigggfaaDoor
open Go.RowKit

theorem padZ_64 (n : Nat) : padZ (64 + n) = padZ n := by unfold padZ; rw [show (64 + n) % 64 = n % 64 from by omega]
theorem padN_key (K l : List Nat) (hK : K.length = 64) : padN 0 (K ++ l) = K ++ padN 64 l := by
  unfold padN
  rw [List.length_append, hK, padZ_64, Nat.zero_add, List.append_assoc]
theorem blkN_key (K P : List Nat) (hK : K.length = 64) (i : Nat) : blkN (K ++ P) (i + 1) = blkN P i := by
  unfold blkN
  rw [show 64 * (i + 1) = K.length + 64 * i from by omega, List.drop_append, List.drop_of_length_le (by omega), show K.length + 64 * i - K.length = 64 * i from by omega, List.nil_append]
theorem runN_key (s : St8) (K P : List Nat) (hK : K.length = 64) : ∀ m, runN s (K ++ P) (m + 1) = runN (turnN s K) P m
  | 0 => by
    have e : blkN (K ++ P) 0 = K := by
      unfold blkN
      rw [Nat.mul_zero, List.drop_zero, List.take_append_of_le_length (by omega), List.take_of_length_le (by omega)]
    rw [runN, runN, runN, e]
  | m + 1 => by rw [runN, runN_key s K P hK m, blkN_key K P hK, runN]
/-- A digest of a key and a text is that of the text behind the key. -/
theorem sum_key (K l : List Nat) (hK : K.length = 64) : sumN (K ++ l) = digN (turnN first8 K) 64 l := by
  unfold sumN digN
  rw [padN_key K l hK, List.length_append, hK, show (64 + (padN 64 l).length) / 64 = (padN 64 l).length / 64 + 1 from by omega, runN_key first8 K _ hK]
theorem xorT_len (K : List Nat) (m i : Nat) : (xorK (K.take i) m).length = min i K.length := by simp [xorK]
theorem xorT_snoc (K : List Nat) (m i : Nat) (hi : i < K.length) : xorK (K.take i) m ++ [K.getD i 0 ^^^ m] = xorK (K.take (i + 1)) m := by
  rw [List.take_succ_eq_append_getElem hi, show K.getD i 0 = K[i] from by simp [List.getD_eq_getElem?_getD, hi]]
  unfold xorK
  rw [List.map_append]
  rfl
theorem keyN_get (k : List Nat) (i : Nat) (h : i < k.length) : (keyN k).getD i 0 = k.getD i 0 := by
  rw [List.getD_eq_getElem?_getD, List.getD_eq_getElem?_getD, keyN, List.getElem?_append_left h]
theorem keyN_get0 (k : List Nat) (i : Nat) (h : k.length ≤ i) : (keyN k).getD i 0 = 0 := by
  rw [List.getD_eq_getElem?_getD, keyN, List.getElem?_append_right h, List.getElem?_replicate]
  split <;> rfl

set_option maxRecDepth 100000 in
set_option maxHeartbeats 1000000 in
theorem rtag_short (T T' : Nat → Prop) (A A' : Option Addr) (cap cap' : Nat) (k l : List Nat) (w : World) (hvk : View w T A k.length (u8s k)) (hv : View w T' A' l.length (u8s l)) (hl : l.length ≤ 400000) (hkb : ∀ x ∈ k, x < 256) (hb : ∀ x ∈ l, x < 256) (hT : HTab w) (h64 : k.length ≤ 64) :
    Calls Tryd.prog 12 #[.slice A k.length cap, .slice A' l.length cap'] w fun e w' => e = .returned (.agg (u8s (tagN k l)).toArray) ∧ Chg none_ w w' := by
  have HTX : Hid (∀ w', Chg none_ w w' → HTab w') := Lib.hid (fun w' hc => hT.chg hc (fun h => h) (fun h => h))
  have HLB := Lib.hid hb
  have HKB := Lib.hid hkb
  have HVL : Hid (∀ w', Chg none_ w w' → View w' (fun b => b < w.heap.size) A' l.length (u8s l)) := Lib.hid (fun w' hc => (hv.mono (T' := fun b => b < w.heap.size) (fun _ h _ => h)).chg hc (fun _ _ h => h))
  have HVK : Hid (∀ w', Chg none_ w w' → View w' (fun b => b < w.heap.size) A k.length (u8s k)) := Lib.hid (fun w' hc => (hvk.mono (T' := fun b => b < w.heap.size) (fun _ h _ => h)).chg hc (fun _ _ h => h))
  have HK64 := Lib.hid h64
  have HE : Hid (tagN k l = tagS k l) := Lib.hid (by unfold tagN; rw [if_neg (by omega)])
  clear hT hb hkb hv hvk
  go_enter Tryd.func12, Tryd.ntmps12
  go_wp2_with (first | ((with_reducible show wpList _ _ _ (⟨_, .alloc 25, _, _, _, _⟩ :: _) _ _); refine wpList_alloc_Row rfl rfl (u8s (List.replicate 32 0)) zero25 ?_; intro w1 hr1 hc1 hs1; have HR1 := Lib.hid hr1; have HC1 := Lib.hid hc1; clear hr1 hc1 hs1))
  have HW := HC1
  have hd13 : decide ((64 : Int) < (k.length : Int)) = false := by simp; omega
  simp only [hd13]
  clear hd13
  have HVKW : Hid (∀ w', Chg none_ w1 w' → View w' (fun b => b < w1.heap.size) A k.length (u8s k)) := Lib.hid (fun w' hc => (HVK.out _ (HC1.out.trans hc)).mono (fun b _ h => Nat.lt_of_lt_of_le h HC1.out.size))
  have HKL := HK64
  have HKBX := HKB
  have HR1W := HR1
  have HG1 := Lib.hid HR1.out.lt
  have HKN : Hid ((keyN (k)).length = 64) := Lib.hid (keyN_len _ HKL.out)
  obtain ⟨DG, hDG⟩ : ∃ DG, digN (turnN first8 (xorK (keyN (k)) 54)) 64 l = DG := ⟨_, rfl⟩
  obtain ⟨LL1, hLL1⟩ : ∃ LL, xorK (keyN (k)) 54 ++ l = LL := ⟨_, rfl⟩
  obtain ⟨LL2, hLL2⟩ : ∃ LL, xorK (keyN (k)) 92 ++ DG = LL := ⟨_, rfl⟩
  obtain ⟨TG, hTG⟩ : ∃ TG, tagS (k) l = TG := ⟨_, rfl⟩
  have HDGL : Hid (DG.length = 32) := Lib.hid (by rw [← hDG]; exact digN_len _ _ _)
  have HTGL : Hid (TG.length = 32) := Lib.hid (by rw [← hTG]; exact digN_len _ _ _)
  have HTGE : Hid (tagS (k) l = TG) := Lib.hid hTG
  have HLL1 := Lib.hid hLL1
  have HLL2 := Lib.hid hLL2
  have HSUM1 : Hid (∀ (T0 : Nat → Prop) A0 c0 w', View w' T0 A0 LL1.length (u8s LL1) → Chg none_ w1 w' → Calls Tryd.prog 10 #[.slice A0 LL1.length c0] w' fun e w'' => e = .returned (.agg (u8s DG).toArray) ∧ Chg none_ w' w'') := Lib.hid (fun T0 A0 c0 w' hv hc => by
    have hh := rsum_any T0 A0 c0 LL1 w' hv (by rw [← hLL1, List.length_append, xorK_len, HKN.out]; omega) (by
      intro x hx
      rw [← hLL1] at hx
      rcases List.mem_append.1 hx with h | h
      · exact xorK_lt (keyN_lt HKBX.out) (by decide) x h
      · exact HLB.out x h) (HTX.out _ (HW.out.trans hc))
    have e : sumN LL1 = DG := by rw [← hLL1, sum_key _ l (by rw [xorK_len]; exact HKN.out), hDG]
    rw [e] at hh
    exact hh)
  have HSUM2 : Hid (∀ (T0 : Nat → Prop) A0 c0 w', View w' T0 A0 LL2.length (u8s LL2) → Chg none_ w1 w' → Calls Tryd.prog 10 #[.slice A0 LL2.length c0] w' fun e w'' => e = .returned (.agg (u8s TG).toArray) ∧ Chg none_ w' w'') := Lib.hid (fun T0 A0 c0 w' hv hc => by
    have hh := rsum_any T0 A0 c0 LL2 w' hv (by rw [← hLL2, List.length_append, xorK_len, HKN.out, HDGL.out]; omega) (by
      intro x hx
      rw [← hLL2, ← hDG] at hx
      rcases List.mem_append.1 hx with h | h
      · exact xorK_lt (keyN_lt HKBX.out) (by decide) x h
      · exact digN_lt _ _ _ x h) (HTX.out _ (HW.out.trans hc))
    have e : sumN LL2 = TG := by rw [← hLL2, ← hDG, sum_key _ _ (by rw [xorK_len]; exact HKN.out), ← hTG]; rfl
    rw [e] at hh
    exact hh)
  clear hDG hLL1 hLL2 hTG
  have HVLX : Hid (∀ w', Chg none_ w1 w' → View w' (fun b => b < w.heap.size) A' l.length (u8s l)) := Lib.hid (fun w' hc => HVL.out _ (HW.out.trans hc))
  have HKG : Hid (∀ i, (keyN (k)).getD i 0 < 256) := Lib.hid (fun i => getD_lt (keyN_lt HKBX.out) i (by decide))
  go_loopw [6, 7, 8] (fun vi vo i wr => ∃ j : Nat, j ≤ 64 ∧ i = .int .i64 j ∧ Owned wr w1.heap.size vi (xorK ((keyN (k)).take j) 54) ∧ Owned wr w1.heap.size vo (xorK ((keyN (k)).take j) 92) ∧ Hid (∀ b, vi.ownBlock = some b → vo.ownBlock ≠ some b) ∧ Chg none_ w1 wr) (fun _ _ i _ => 64 - (intOf i).toNat)
  case atStart => exact ⟨0, Nat.zero_le _, rfl, Owned.nil _ _, Owned.nil _ _, Lib.hid (fun b h => by simp [Value.ownBlock] at h), Chg.refl _ _⟩
  case round =>
    obtain ⟨j, hj, rfl, hvi, hvo, HAP, hcr⟩ := hrel
    have HVI := Lib.hid hvi
    have HVO := Lib.hid hvo
    have HCR := Lib.hid hcr
    clear hvi hvo
    by_cases hlt : j < 64
    · have HT54 : Hid (xorK ((keyN (k)).take j) 54 ++ [(keyN (k)).getD j 0 ^^^ 54] = xorK ((keyN (k)).take (j + 1)) 54) := Lib.hid (xorT_snoc _ _ _ (by rw [HKN.out]; exact hlt))
      have HT92 : Hid (xorK ((keyN (k)).take j) 92 ++ [(keyN (k)).getD j 0 ^^^ 92] = xorK ((keyN (k)).take (j + 1)) 92) := Lib.hid (xorT_snoc _ _ _ (by rw [HKN.out]; exact hlt))
      have hx := HKG.out j
      by_cases hjk : j < (k).length
      · have HGE := Lib.hid (keyN_get (k) j (by omega))
        obtain ⟨bk, ok, hA, _, _, hck⟩ := (HVKW.out _ hcr).at_ hjk
        rw [← HGE.out] at hck
        generalize (keyN (k)).getD j 0 = x at HT54 HT92 hck hx
        first | subst hA | (injection hA with hA; injection hA with hA1 hA2; subst hA1; subst hA2; rw [Nat.zero_add] at hck)
        clear hcr
        have X54 : Hid ([.int .u8 (bits .xor .u8 (x : Int) 54)] = u8s [x ^^^ 54]) := Lib.hid (by show _ = [Value.int .u8 ((x ^^^ 54 : Nat) : Int)]; rw [← u8_xor_nat x 54 (by omega) (by omega)]; rfl)
        have X92 : Hid ([.int .u8 (bits .xor .u8 (x : Int) 92)] = u8s [x ^^^ 92]) := Lib.hid (by show _ = [Value.int .u8 ((x ^^^ 92 : Nat) : Int)]; rw [← u8_xor_nat x 92 (by omega) (by omega)]; rfl)
        go_wp2_with (first | ((with_reducible show wpList _ _ _ (⟨some 32, _, _, _, _, _⟩ :: _) _ _); refine wpList_new_row (v := fun g => .slice (some ⟨g, 0, none⟩) 1 1) (e := 5) (cs := [.int .u8 (bits .xor .u8 (x : Int) 54)]) rfl (fun w_ => by go_simp) ?_; intro w20 hr20 hc20 hs20; have HR20 := Lib.hid hr20; have HC20 := Lib.hid hc20; clear hr20 hc20 hs20) | ((with_reducible show wpList _ _ _ (⟨some 33, _, _, _, _, _⟩ :: _) _ _); refine wpList_append_own2 (v := u6) rfl _ _ 22 rfl Tryd.underlying22 rfl (Owned.chg' HVI.out HC20.out (fun _ _ h => h)) rfl (View.all (T := fun _ => True) (cs := u8s [x ^^^ 54]) (X54.out ▸ HR20.out) rfl trivial) (by rw [xorT_len, HKN.out]; omega) ((HCR.out.trans HC20.out).size) ?_; intro v21 w21 hown21 hc21 ho21; have HOWN21 := Lib.hid hown21; have HC21 := Lib.hid hc21; have HO21 := Lib.hid ho21; clear hown21 hc21 ho21) | ((with_reducible show wpList _ _ _ (⟨some 37, _, _, _, _, _⟩ :: _) _ _); refine wpList_new_row (v := fun g => .slice (some ⟨g, 0, none⟩) 1 1) (e := 5) (cs := [.int .u8 (bits .xor .u8 (x : Int) 92)]) rfl (fun w_ => by go_simp) ?_; intro w22 hr22 hc22 hs22; have HR22 := Lib.hid hr22; have HC22 := Lib.hid hc22; clear hr22 hc22 hs22) | ((with_reducible show wpList _ _ _ (⟨some 38, _, _, _, _, _⟩ :: _) _ _); refine wpList_append_own2 (v := u7) rfl _ _ 22 rfl Tryd.underlying22 rfl (Owned.chg' (Owned.chg' (Owned.chg' HVO.out HC20.out (fun _ _ h => h)) HC21.out (fun b hb h => HAP.out b h hb)) HC22.out (fun _ _ h => h)) rfl (View.all (T := fun _ => True) (cs := u8s [x ^^^ 92]) (X92.out ▸ HR22.out) rfl trivial) (by rw [xorT_len, HKN.out]; omega) (Nat.le_trans (Nat.le_trans (HCR.out.trans HC20.out).size HC21.out.size) HC22.out.size) ?_; intro v23 w23 hown23 hc23 ho23; have HOWN23 := Lib.hid hown23; have HC23 := Lib.hid hc23; have HO23 := Lib.hid ho23; clear hown23 hc23 ho23))
        have HD1 : Hid (∀ b, v21.ownBlock = some b → ¬ u7.ownBlock = some b) := Lib.hid (fun b h1 h2 => by
          rcases HO21.out with h | h
          · exact HAP.out b (h ▸ h1) h2
          · rw [h] at h1
            injection h1 with h1
            have := (HVO.out.lt h2).1
            have := HC20.out.size
            omega)
        have HD2 : Hid (∀ b, v21.ownBlock = some b → v23.ownBlock ≠ some b) := Lib.hid (fun b h1 h2 => by
          rcases HO23.out with h | h
          · exact HD1.out b h1 (h ▸ h2)
          · rw [h] at h2
            injection h2 with h2
            have := (HOWN21.out.lt h1).1
            have := HC22.out.size
            omega)
        have HCN : Hid (Chg none_ w1 w23) := Lib.hid ((((HCR.out.trans HC20.out).andThen HC21.out (fun b hb h => by have := (HVI.out.lt h).2; omega)).trans HC22.out).andThen HC23.out (fun b hb h => by have := (HVO.out.lt h).2; omega))
        go_roundw
        case rel =>
          refine ⟨j + 1, by omega, by go_num, ?_, ?_, HD2, HCN.out⟩
          · have hh := Owned.chg' (Owned.chg' HOWN21.out HC22.out (fun _ _ h => h)) HC23.out HD1.out
            rw [HT54.out] at hh
            exact hh
          · have hh := HOWN23.out
            rw [HT92.out] at hh
            exact hh
        case measure => simp [intOf]; omega
      · have HGE := keyN_get0 (k) j (by omega)
        rw [HGE] at HT54 HT92
        clear HGE hcr
        have X54 : Hid ([.int .u8 (bits .xor .u8 0 54)] = u8s [0 ^^^ 54]) := Lib.hid (by show _ = [Value.int .u8 ((0 ^^^ 54 : Nat) : Int)]; rw [← u8_xor_nat 0 54 (by omega) (by omega)]; rfl)
        have X92 : Hid ([.int .u8 (bits .xor .u8 0 92)] = u8s [0 ^^^ 92]) := Lib.hid (by show _ = [Value.int .u8 ((0 ^^^ 92 : Nat) : Int)]; rw [← u8_xor_nat 0 92 (by omega) (by omega)]; rfl)
        go_wp2_with (first | ((with_reducible show wpList _ _ _ (⟨some 32, _, _, _, _, _⟩ :: _) _ _); refine wpList_new_row (v := fun g => .slice (some ⟨g, 0, none⟩) 1 1) (e := 5) (cs := [.int .u8 (bits .xor .u8 0 54)]) rfl (fun w_ => by go_simp) ?_; intro w20 hr20 hc20 hs20; have HR20 := Lib.hid hr20; have HC20 := Lib.hid hc20; clear hr20 hc20 hs20) | ((with_reducible show wpList _ _ _ (⟨some 33, _, _, _, _, _⟩ :: _) _ _); refine wpList_append_own2 (v := u6) rfl _ _ 22 rfl Tryd.underlying22 rfl (Owned.chg' HVI.out HC20.out (fun _ _ h => h)) rfl (View.all (T := fun _ => True) (cs := u8s [0 ^^^ 54]) (X54.out ▸ HR20.out) rfl trivial) (by rw [xorT_len, HKN.out]; omega) ((HCR.out.trans HC20.out).size) ?_; intro v21 w21 hown21 hc21 ho21; have HOWN21 := Lib.hid hown21; have HC21 := Lib.hid hc21; have HO21 := Lib.hid ho21; clear hown21 hc21 ho21) | ((with_reducible show wpList _ _ _ (⟨some 37, _, _, _, _, _⟩ :: _) _ _); refine wpList_new_row (v := fun g => .slice (some ⟨g, 0, none⟩) 1 1) (e := 5) (cs := [.int .u8 (bits .xor .u8 0 92)]) rfl (fun w_ => by go_simp) ?_; intro w22 hr22 hc22 hs22; have HR22 := Lib.hid hr22; have HC22 := Lib.hid hc22; clear hr22 hc22 hs22) | ((with_reducible show wpList _ _ _ (⟨some 38, _, _, _, _, _⟩ :: _) _ _); refine wpList_append_own2 (v := u7) rfl _ _ 22 rfl Tryd.underlying22 rfl (Owned.chg' (Owned.chg' (Owned.chg' HVO.out HC20.out (fun _ _ h => h)) HC21.out (fun b hb h => HAP.out b h hb)) HC22.out (fun _ _ h => h)) rfl (View.all (T := fun _ => True) (cs := u8s [0 ^^^ 92]) (X92.out ▸ HR22.out) rfl trivial) (by rw [xorT_len, HKN.out]; omega) (Nat.le_trans (Nat.le_trans (HCR.out.trans HC20.out).size HC21.out.size) HC22.out.size) ?_; intro v23 w23 hown23 hc23 ho23; have HOWN23 := Lib.hid hown23; have HC23 := Lib.hid hc23; have HO23 := Lib.hid ho23; clear hown23 hc23 ho23))
        have HD1 : Hid (∀ b, v21.ownBlock = some b → ¬ u7.ownBlock = some b) := Lib.hid (fun b h1 h2 => by
          rcases HO21.out with h | h
          · exact HAP.out b (h ▸ h1) h2
          · rw [h] at h1
            injection h1 with h1
            have := (HVO.out.lt h2).1
            have := HC20.out.size
            omega)
        have HD2 : Hid (∀ b, v21.ownBlock = some b → v23.ownBlock ≠ some b) := Lib.hid (fun b h1 h2 => by
          rcases HO23.out with h | h
          · exact HD1.out b h1 (h ▸ h2)
          · rw [h] at h2
            injection h2 with h2
            have := (HOWN21.out.lt h1).1
            have := HC22.out.size
            omega)
        have HCN : Hid (Chg none_ w1 w23) := Lib.hid ((((HCR.out.trans HC20.out).andThen HC21.out (fun b hb h => by have := (HVI.out.lt h).2; omega)).trans HC22.out).andThen HC23.out (fun b hb h => by have := (HVO.out.lt h).2; omega))
        go_roundw
        case rel =>
          refine ⟨j + 1, by omega, by go_num, ?_, ?_, HD2, HCN.out⟩
          · have hh := Owned.chg' (Owned.chg' HOWN21.out HC22.out (fun _ _ h => h)) HC23.out HD1.out
            rw [HT54.out] at hh
            exact hh
          · have hh := HOWN23.out
            rw [HT92.out] at hh
            exact hh
        case measure => simp [intOf]; omega
    · have hj64 : j = 64 := by omega
      subst hj64
      rw [show (keyN (k)).take 64 = (keyN (k)) from List.take_of_length_le (by rw [HKN.out]; omega)] at HVI HVO
      clear hcr hj hlt
      go_wp2_with (first | ((with_reducible show wpList _ _ _ (⟨some 41, _, _, _, _, _⟩ :: _) _ _); refine wpList_append_own2 (v := u6) rfl _ _ 22 rfl Tryd.underlying22 rfl (HVI.out) rfl (HVLX.out _ HCR.out) (by rw [xorK_len, HKN.out]; omega) (HCR.out.size) ?_; intro v24 w24 hown24 hc24 ho24; have HOWN24 := Lib.hid hown24; have HC24 := Lib.hid hc24; have HO24 := Lib.hid ho24; rw [HLL1.out] at hown24; obtain ⟨A24, c24, e24, hcap24, hv24⟩ := hown24.viewIn; subst e24; have HV24 := Lib.hid hv24; have HC24W : Hid (Chg none_ w1 w24) := Lib.hid (HCR.out.andThen hc24 (fun b hb h => by have := (HVI.out.lt h).2; omega)); clear hown24 hc24 ho24 hcap24 hv24 HOWN24) | (go_at_call 10; first | ((with_reducible refine (HSUM1.out _ A24 c24 _ HV24.out HC24W.out).mono ?_); rintro e w25 ⟨rfl, hc25⟩; have HC25 := Lib.hid hc25; clear hc25) | ((with_reducible refine (HSUM2.out _ A28 c28 _ HV28.out HC28W.out).mono ?_); rintro e w29 ⟨rfl, hc29⟩; have HC29 := Lib.hid hc29; clear hc29)) | ((with_reducible show wpList _ _ _ (⟨some 10, .alloc 25, _, _, _, _⟩ :: _) _ _); refine wpList_alloc_Row rfl rfl (u8s (List.replicate 32 0)) zero25 ?_; intro w26 hr26 hc26 hs26; have HR26 := Lib.hid hr26; have HC26 := Lib.hid hc26; clear hr26 hc26 hs26) | ((with_reducible show wpList _ _ _ (⟨_, .store 25 (.tmp 10) _, _, _, _, _⟩ :: _) _ _); refine wpList_store_Row (xs := u8s DG) rfl rfl rfl (HR26.out) (rfl) (by rw [u8s_length, HDGL.out, u8s_length]; rfl) (by rw [u8s_length, HDGL.out]; exact size25) (u8s_oneA _) ?_; intro w27 hr27 hc27 hs27; have HR27 := Lib.hid hr27; have HC27 := Lib.hid hc27; have HC2427 : Hid (Chg none_ w24 w27) := Lib.hid (hc27 none_ w24 (HC25.out.trans HC26.out) (fun h => by have := HC25.out.size; omega)); clear hr27 hc27 hs27) | ((with_reducible show wpList _ _ _ (⟨some 45, _, _, _, _, _⟩ :: _) _ _); refine wpList_append_own2 (v := u7) rfl _ _ 22 rfl Tryd.underlying22 rfl (Owned.chg' (Owned.chg' HVO.out HC24.out (fun b hb h => HAP.out b h hb)) HC2427.out (fun _ _ h => h)) rfl (View.all (T := fun _ => True) (cs := u8s DG) HR27.out (by rw [u8s_length, HDGL.out]) trivial) (by rw [xorK_len, HKN.out]; omega) (Nat.le_trans (Nat.le_trans HCR.out.size HC24.out.size) HC2427.out.size) ?_; intro v28 w28 hown28 hc28 ho28; have HOWN28 := Lib.hid hown28; have HC28 := Lib.hid hc28; have HO28 := Lib.hid ho28; rw [HLL2.out] at hown28; obtain ⟨A28, c28, e28, hcap28, hv28⟩ := hown28.viewIn; subst e28; have HV28 := Lib.hid hv28; have HC28W : Hid (Chg none_ w1 w28) := Lib.hid ((HC24W.out.trans HC2427.out).andThen hc28 (fun b hb h => by have := (HVO.out.lt h).2; omega)); clear hown28 hc28 ho28 hcap28 hv28 HOWN28) | ((with_reducible show wpList _ _ _ (⟨_, .store 25 (.tmp 4) _, _, _, _, _⟩ :: _) _ _); refine wpList_store_Row (xs := u8s TG) rfl rfl rfl ((HR1W.out.chg HC28W.out (fun h => h)).chg HC29.out (fun h => h)) (rfl) (by rw [u8s_length, HTGL.out, u8s_length]; rfl) (by rw [u8s_length, HTGL.out]; exact size25) (u8s_oneA _) ?_; intro w30 hr30 hc30 hs30; have HR30 := Lib.hid hr30; have HC30 := Lib.hid hc30; clear hr30 hc30 hs30))
      refine ret_row rfl rfl HR30.out Tryd.underlying25 rfl (by rw [u8s_length, HTGL.out]; exact size25) rfl ?_
      exact ⟨by rw [HE.out, HTGE.out], HC30.out none_ w ((HW.out.trans HC28W.out).trans HC29.out) (fun h => absurd h (by omega))⟩

set_option maxRecDepth 100000 in
set_option maxHeartbeats 1000000 in
theorem rtag_long (T T' : Nat → Prop) (A A' : Option Addr) (cap cap' : Nat) (k0 l : List Nat) (w : World) (hvk : View w T A k0.length (u8s k0)) (hv : View w T' A' l.length (u8s l)) (hk : k0.length ≤ 400000) (hl : l.length ≤ 400000) (hkb : ∀ x ∈ k0, x < 256) (hb : ∀ x ∈ l, x < 256) (hT : HTab w) (h64 : 64 < k0.length) :
    Calls Tryd.prog 12 #[.slice A k0.length cap, .slice A' l.length cap'] w fun e w' => e = .returned (.agg (u8s (tagN k0 l)).toArray) ∧ Chg none_ w w' := by
  have HTX : Hid (∀ w', Chg none_ w w' → HTab w') := Lib.hid (fun w' hc => hT.chg hc (fun h => h) (fun h => h))
  have HLB := Lib.hid hb
  have HVL : Hid (∀ w', Chg none_ w w' → View w' (fun b => b < w.heap.size) A' l.length (u8s l)) := Lib.hid (fun w' hc => (hv.mono (T' := fun b => b < w.heap.size) (fun _ h _ => h)).chg hc (fun _ _ h => h))
  have HE : Hid (tagN k0 l = tagS (sumN k0) l) := Lib.hid (by unfold tagN; rw [if_pos h64])
  have HS0 := Lib.hid (fun w' (hc : Chg none_ w w') => rsum_any (fun b => b < w.heap.size) A cap k0 w' ((hvk.mono (T' := fun b => b < w.heap.size) (fun _ h _ => h)).chg hc (fun _ _ h => h)) (by omega) hkb (hT.chg hc (fun h => h) (fun h => h)))
  obtain ⟨k, hkk⟩ : ∃ k, sumN k0 = k := ⟨_, rfl⟩
  rw [hkk] at HE HS0
  have hk32 : k.length = 32 := by rw [← hkk]; exact sumN_len _
  have HK32 := Lib.hid hk32
  have HKBX : Hid (∀ x ∈ k, x < 256) := Lib.hid (by rw [← hkk]; exact sumN_lt _)
  have HKL : Hid (k.length ≤ 64) := Lib.hid (by omega)
  have hd13 : decide ((64 : Int) < (k0.length : Int)) = true := by simp; omega
  clear hT hb hkb hv hvk hkk hk32
  go_enter Tryd.func12, Tryd.ntmps12
  go_wp2_with (first | ((with_reducible show wpList _ _ _ (⟨some 4, .alloc 25, _, _, _, _⟩ :: _) _ _); refine wpList_alloc_Row rfl rfl (u8s (List.replicate 32 0)) zero25 ?_; intro w1 hr1 hc1 hs1; have HR1 := Lib.hid hr1; have HC1 := Lib.hid hc1; clear hr1 hc1 hs1) | (go_at_call 10; refine (HS0.out _ HC1.out).mono ?_; rintro e w2 ⟨rfl, hc2⟩; have HC2 := Lib.hid hc2; clear hc2) | ((with_reducible show wpList _ _ _ (⟨some 5, .alloc 25, _, _, _, _⟩ :: _) _ _); refine wpList_alloc_Row rfl rfl (u8s (List.replicate 32 0)) zero25 ?_; intro w3 hr3 hc3 hs3; have HR3 := Lib.hid hr3; have HC3 := Lib.hid hc3; clear hr3 hc3 hs3) | ((with_reducible show wpList _ _ _ (⟨_, .store 25 (.tmp 5) _, _, _, _, _⟩ :: _) _ _); refine wpList_store_Row (xs := u8s k) rfl rfl rfl (HR3.out) (rfl) (by rw [u8s_length, HK32.out, u8s_length]; rfl) (by rw [u8s_length, HK32.out]; exact size25) (u8s_oneA _) ?_; intro w4 hr4 hc4 hs4; have HR4 := Lib.hid hr4; have HC4 := Lib.hid hc4; clear hr4 hc4 hs4))
  have hsz2 := HC2.out.size
  have HW : Hid (Chg none_ w w4) := Lib.hid (HC4.out none_ w ((HC1.out.trans HC2.out).trans HC3.out) (fun h => by have := HC1.out.size; omega))
  have HR1W := Lib.hid ((HR1.out.chg HC2.out (fun h => h)).chg (HC4.out (· = w2.heap.size) w2 (HC3.out.mono (fun _ _ h => h.elim)) (fun _ => rfl)) (by have := HR1.out.lt; omega))
  have HVKW : Hid (∀ w', Chg none_ w4 w' → View w' (fun b => b < w4.heap.size) (some ⟨w2.heap.size, 0, none⟩) 32 (u8s k)) := Lib.hid (fun w' hc => (View.all (T := fun b => b < w4.heap.size) HR4.out (by rw [u8s_length, HK32.out]) HR4.out.lt).chg hc (fun _ _ h => h))
  have HG1 : Hid (w.heap.size < w4.heap.size) := Lib.hid (by have := HR1W.out.lt; omega)
  clear hsz2 HC1 HC2 HC3 HC4 HR1 HR4 HS0 hd13
  have HKN : Hid ((keyN (k)).length = 64) := Lib.hid (keyN_len _ HKL.out)
  obtain ⟨DG, hDG⟩ : ∃ DG, digN (turnN first8 (xorK (keyN (k)) 54)) 64 l = DG := ⟨_, rfl⟩
  obtain ⟨LL1, hLL1⟩ : ∃ LL, xorK (keyN (k)) 54 ++ l = LL := ⟨_, rfl⟩
  obtain ⟨LL2, hLL2⟩ : ∃ LL, xorK (keyN (k)) 92 ++ DG = LL := ⟨_, rfl⟩
  obtain ⟨TG, hTG⟩ : ∃ TG, tagS (k) l = TG := ⟨_, rfl⟩
  have HDGL : Hid (DG.length = 32) := Lib.hid (by rw [← hDG]; exact digN_len _ _ _)
  have HTGL : Hid (TG.length = 32) := Lib.hid (by rw [← hTG]; exact digN_len _ _ _)
  have HTGE : Hid (tagS (k) l = TG) := Lib.hid hTG
  have HLL1 := Lib.hid hLL1
  have HLL2 := Lib.hid hLL2
  have HSUM1 : Hid (∀ (T0 : Nat → Prop) A0 c0 w', View w' T0 A0 LL1.length (u8s LL1) → Chg none_ w4 w' → Calls Tryd.prog 10 #[.slice A0 LL1.length c0] w' fun e w'' => e = .returned (.agg (u8s DG).toArray) ∧ Chg none_ w' w'') := Lib.hid (fun T0 A0 c0 w' hv hc => by
    have hh := rsum_any T0 A0 c0 LL1 w' hv (by rw [← hLL1, List.length_append, xorK_len, HKN.out]; omega) (by
      intro x hx
      rw [← hLL1] at hx
      rcases List.mem_append.1 hx with h | h
      · exact xorK_lt (keyN_lt HKBX.out) (by decide) x h
      · exact HLB.out x h) (HTX.out _ (HW.out.trans hc))
    have e : sumN LL1 = DG := by rw [← hLL1, sum_key _ l (by rw [xorK_len]; exact HKN.out), hDG]
    rw [e] at hh
    exact hh)
  have HSUM2 : Hid (∀ (T0 : Nat → Prop) A0 c0 w', View w' T0 A0 LL2.length (u8s LL2) → Chg none_ w4 w' → Calls Tryd.prog 10 #[.slice A0 LL2.length c0] w' fun e w'' => e = .returned (.agg (u8s TG).toArray) ∧ Chg none_ w' w'') := Lib.hid (fun T0 A0 c0 w' hv hc => by
    have hh := rsum_any T0 A0 c0 LL2 w' hv (by rw [← hLL2, List.length_append, xorK_len, HKN.out, HDGL.out]; omega) (by
      intro x hx
      rw [← hLL2, ← hDG] at hx
      rcases List.mem_append.1 hx with h | h
      · exact xorK_lt (keyN_lt HKBX.out) (by decide) x h
      · exact digN_lt _ _ _ x h) (HTX.out _ (HW.out.trans hc))
    have e : sumN LL2 = TG := by rw [← hLL2, ← hDG, sum_key _ _ (by rw [xorK_len]; exact HKN.out), ← hTG]; rfl
    rw [e] at hh
    exact hh)
  clear hDG hLL1 hLL2 hTG
  have HVLX : Hid (∀ w', Chg none_ w4 w' → View w' (fun b => b < w.heap.size) A' l.length (u8s l)) := Lib.hid (fun w' hc => HVL.out _ (HW.out.trans hc))
  have HKG : Hid (∀ i, (keyN (k)).getD i 0 < 256) := Lib.hid (fun i => getD_lt (keyN_lt HKBX.out) i (by decide))
  go_loopw [6, 7, 8] (fun vi vo i wr => ∃ j : Nat, j ≤ 64 ∧ i = .int .i64 j ∧ Owned wr w4.heap.size vi (xorK ((keyN (k)).take j) 54) ∧ Owned wr w4.heap.size vo (xorK ((keyN (k)).take j) 92) ∧ Hid (∀ b, vi.ownBlock = some b → vo.ownBlock ≠ some b) ∧ Chg none_ w4 wr) (fun _ _ i _ => 64 - (intOf i).toNat)
  case atStart => exact ⟨0, Nat.zero_le _, rfl, Owned.nil _ _, Owned.nil _ _, Lib.hid (fun b h => by simp [Value.ownBlock] at h), Chg.refl _ _⟩
  case round =>
    obtain ⟨j, hj, rfl, hvi, hvo, HAP, hcr⟩ := hrel
    have HVI := Lib.hid hvi
    have HVO := Lib.hid hvo
    have HCR := Lib.hid hcr
    clear hvi hvo
    by_cases hlt : j < 64
    · have HT54 : Hid (xorK ((keyN (k)).take j) 54 ++ [(keyN (k)).getD j 0 ^^^ 54] = xorK ((keyN (k)).take (j + 1)) 54) := Lib.hid (xorT_snoc _ _ _ (by rw [HKN.out]; exact hlt))
      have HT92 : Hid (xorK ((keyN (k)).take j) 92 ++ [(keyN (k)).getD j 0 ^^^ 92] = xorK ((keyN (k)).take (j + 1)) 92) := Lib.hid (xorT_snoc _ _ _ (by rw [HKN.out]; exact hlt))
      have hx := HKG.out j
      by_cases hjk : j < 32
      · have HGE := Lib.hid (keyN_get (k) j (by rw [HK32.out]; omega))
        obtain ⟨bk, ok, hA, _, _, hck⟩ := (HVKW.out _ hcr).at_ hjk
        rw [← HGE.out] at hck
        generalize (keyN (k)).getD j 0 = x at HT54 HT92 hck hx
        first | subst hA | (injection hA with hA; injection hA with hA1 hA2; subst hA1; subst hA2; rw [Nat.zero_add] at hck)
        clear hcr
        have X54 : Hid ([.int .u8 (bits .xor .u8 (x : Int) 54)] = u8s [x ^^^ 54]) := Lib.hid (by show _ = [Value.int .u8 ((x ^^^ 54 : Nat) : Int)]; rw [← u8_xor_nat x 54 (by omega) (by omega)]; rfl)
        have X92 : Hid ([.int .u8 (bits .xor .u8 (x : Int) 92)] = u8s [x ^^^ 92]) := Lib.hid (by show _ = [Value.int .u8 ((x ^^^ 92 : Nat) : Int)]; rw [← u8_xor_nat x 92 (by omega) (by omega)]; rfl)
        go_wp2_with (first | ((with_reducible show wpList _ _ _ (⟨some 32, _, _, _, _, _⟩ :: _) _ _); refine wpList_new_row (v := fun g => .slice (some ⟨g, 0, none⟩) 1 1) (e := 5) (cs := [.int .u8 (bits .xor .u8 (x : Int) 54)]) rfl (fun w_ => by go_simp) ?_; intro w20 hr20 hc20 hs20; have HR20 := Lib.hid hr20; have HC20 := Lib.hid hc20; clear hr20 hc20 hs20) | ((with_reducible show wpList _ _ _ (⟨some 33, _, _, _, _, _⟩ :: _) _ _); refine wpList_append_own2 (v := u6) rfl _ _ 22 rfl Tryd.underlying22 rfl (Owned.chg' HVI.out HC20.out (fun _ _ h => h)) rfl (View.all (T := fun _ => True) (cs := u8s [x ^^^ 54]) (X54.out ▸ HR20.out) rfl trivial) (by rw [xorT_len, HKN.out]; omega) ((HCR.out.trans HC20.out).size) ?_; intro v21 w21 hown21 hc21 ho21; have HOWN21 := Lib.hid hown21; have HC21 := Lib.hid hc21; have HO21 := Lib.hid ho21; clear hown21 hc21 ho21) | ((with_reducible show wpList _ _ _ (⟨some 37, _, _, _, _, _⟩ :: _) _ _); refine wpList_new_row (v := fun g => .slice (some ⟨g, 0, none⟩) 1 1) (e := 5) (cs := [.int .u8 (bits .xor .u8 (x : Int) 92)]) rfl (fun w_ => by go_simp) ?_; intro w22 hr22 hc22 hs22; have HR22 := Lib.hid hr22; have HC22 := Lib.hid hc22; clear hr22 hc22 hs22) | ((with_reducible show wpList _ _ _ (⟨some 38, _, _, _, _, _⟩ :: _) _ _); refine wpList_append_own2 (v := u7) rfl _ _ 22 rfl Tryd.underlying22 rfl (Owned.chg' (Owned.chg' (Owned.chg' HVO.out HC20.out (fun _ _ h => h)) HC21.out (fun b hb h => HAP.out b h hb)) HC22.out (fun _ _ h => h)) rfl (View.all (T := fun _ => True) (cs := u8s [x ^^^ 92]) (X92.out ▸ HR22.out) rfl trivial) (by rw [xorT_len, HKN.out]; omega) (Nat.le_trans (Nat.le_trans (HCR.out.trans HC20.out).size HC21.out.size) HC22.out.size) ?_; intro v23 w23 hown23 hc23 ho23; have HOWN23 := Lib.hid hown23; have HC23 := Lib.hid hc23; have HO23 := Lib.hid ho23; clear hown23 hc23 ho23))
        have HD1 : Hid (∀ b, v21.ownBlock = some b → ¬ u7.ownBlock = some b) := Lib.hid (fun b h1 h2 => by
          rcases HO21.out with h | h
          · exact HAP.out b (h ▸ h1) h2
          · rw [h] at h1
            injection h1 with h1
            have := (HVO.out.lt h2).1
            have := HC20.out.size
            omega)
        have HD2 : Hid (∀ b, v21.ownBlock = some b → v23.ownBlock ≠ some b) := Lib.hid (fun b h1 h2 => by
          rcases HO23.out with h | h
          · exact HD1.out b h1 (h ▸ h2)
          · rw [h] at h2
            injection h2 with h2
            have := (HOWN21.out.lt h1).1
            have := HC22.out.size
            omega)
        have HCN : Hid (Chg none_ w4 w23) := Lib.hid ((((HCR.out.trans HC20.out).andThen HC21.out (fun b hb h => by have := (HVI.out.lt h).2; omega)).trans HC22.out).andThen HC23.out (fun b hb h => by have := (HVO.out.lt h).2; omega))
        go_roundw
        case rel =>
          refine ⟨j + 1, by omega, by go_num, ?_, ?_, HD2, HCN.out⟩
          · have hh := Owned.chg' (Owned.chg' HOWN21.out HC22.out (fun _ _ h => h)) HC23.out HD1.out
            rw [HT54.out] at hh
            exact hh
          · have hh := HOWN23.out
            rw [HT92.out] at hh
            exact hh
        case measure => simp [intOf]; omega
      · have HGE := keyN_get0 (k) j (by rw [HK32.out]; omega)
        rw [HGE] at HT54 HT92
        clear HGE hcr
        have X54 : Hid ([.int .u8 (bits .xor .u8 0 54)] = u8s [0 ^^^ 54]) := Lib.hid (by show _ = [Value.int .u8 ((0 ^^^ 54 : Nat) : Int)]; rw [← u8_xor_nat 0 54 (by omega) (by omega)]; rfl)
        have X92 : Hid ([.int .u8 (bits .xor .u8 0 92)] = u8s [0 ^^^ 92]) := Lib.hid (by show _ = [Value.int .u8 ((0 ^^^ 92 : Nat) : Int)]; rw [← u8_xor_nat 0 92 (by omega) (by omega)]; rfl)
        go_wp2_with (first | ((with_reducible show wpList _ _ _ (⟨some 32, _, _, _, _, _⟩ :: _) _ _); refine wpList_new_row (v := fun g => .slice (some ⟨g, 0, none⟩) 1 1) (e := 5) (cs := [.int .u8 (bits .xor .u8 0 54)]) rfl (fun w_ => by go_simp) ?_; intro w20 hr20 hc20 hs20; have HR20 := Lib.hid hr20; have HC20 := Lib.hid hc20; clear hr20 hc20 hs20) | ((with_reducible show wpList _ _ _ (⟨some 33, _, _, _, _, _⟩ :: _) _ _); refine wpList_append_own2 (v := u6) rfl _ _ 22 rfl Tryd.underlying22 rfl (Owned.chg' HVI.out HC20.out (fun _ _ h => h)) rfl (View.all (T := fun _ => True) (cs := u8s [0 ^^^ 54]) (X54.out ▸ HR20.out) rfl trivial) (by rw [xorT_len, HKN.out]; omega) ((HCR.out.trans HC20.out).size) ?_; intro v21 w21 hown21 hc21 ho21; have HOWN21 := Lib.hid hown21; have HC21 := Lib.hid hc21; have HO21 := Lib.hid ho21; clear hown21 hc21 ho21) | ((with_reducible show wpList _ _ _ (⟨some 37, _, _, _, _, _⟩ :: _) _ _); refine wpList_new_row (v := fun g => .slice (some ⟨g, 0, none⟩) 1 1) (e := 5) (cs := [.int .u8 (bits .xor .u8 0 92)]) rfl (fun w_ => by go_simp) ?_; intro w22 hr22 hc22 hs22; have HR22 := Lib.hid hr22; have HC22 := Lib.hid hc22; clear hr22 hc22 hs22) | ((with_reducible show wpList _ _ _ (⟨some 38, _, _, _, _, _⟩ :: _) _ _); refine wpList_append_own2 (v := u7) rfl _ _ 22 rfl Tryd.underlying22 rfl (Owned.chg' (Owned.chg' (Owned.chg' HVO.out HC20.out (fun _ _ h => h)) HC21.out (fun b hb h => HAP.out b h hb)) HC22.out (fun _ _ h => h)) rfl (View.all (T := fun _ => True) (cs := u8s [0 ^^^ 92]) (X92.out ▸ HR22.out) rfl trivial) (by rw [xorT_len, HKN.out]; omega) (Nat.le_trans (Nat.le_trans (HCR.out.trans HC20.out).size HC21.out.size) HC22.out.size) ?_; intro v23 w23 hown23 hc23 ho23; have HOWN23 := Lib.hid hown23; have HC23 := Lib.hid hc23; have HO23 := Lib.hid ho23; clear hown23 hc23 ho23))
        have HD1 : Hid (∀ b, v21.ownBlock = some b → ¬ u7.ownBlock = some b) := Lib.hid (fun b h1 h2 => by
          rcases HO21.out with h | h
          · exact HAP.out b (h ▸ h1) h2
          · rw [h] at h1
            injection h1 with h1
            have := (HVO.out.lt h2).1
            have := HC20.out.size
            omega)
        have HD2 : Hid (∀ b, v21.ownBlock = some b → v23.ownBlock ≠ some b) := Lib.hid (fun b h1 h2 => by
          rcases HO23.out with h | h
          · exact HD1.out b h1 (h ▸ h2)
          · rw [h] at h2
            injection h2 with h2
            have := (HOWN21.out.lt h1).1
            have := HC22.out.size
            omega)
        have HCN : Hid (Chg none_ w4 w23) := Lib.hid ((((HCR.out.trans HC20.out).andThen HC21.out (fun b hb h => by have := (HVI.out.lt h).2; omega)).trans HC22.out).andThen HC23.out (fun b hb h => by have := (HVO.out.lt h).2; omega))
        go_roundw
        case rel =>
          refine ⟨j + 1, by omega, by go_num, ?_, ?_, HD2, HCN.out⟩
          · have hh := Owned.chg' (Owned.chg' HOWN21.out HC22.out (fun _ _ h => h)) HC23.out HD1.out
            rw [HT54.out] at hh
            exact hh
          · have hh := HOWN23.out
            rw [HT92.out] at hh
            exact hh
        case measure => simp [intOf]; omega
    · have hj64 : j = 64 := by omega
      subst hj64
      rw [show (keyN (k)).take 64 = (keyN (k)) from List.take_of_length_le (by rw [HKN.out]; omega)] at HVI HVO
      clear hcr hj hlt
      go_wp2_with (first | ((with_reducible show wpList _ _ _ (⟨some 41, _, _, _, _, _⟩ :: _) _ _); refine wpList_append_own2 (v := u6) rfl _ _ 22 rfl Tryd.underlying22 rfl (HVI.out) rfl (HVLX.out _ HCR.out) (by rw [xorK_len, HKN.out]; omega) (HCR.out.size) ?_; intro v24 w24 hown24 hc24 ho24; have HOWN24 := Lib.hid hown24; have HC24 := Lib.hid hc24; have HO24 := Lib.hid ho24; rw [HLL1.out] at hown24; obtain ⟨A24, c24, e24, hcap24, hv24⟩ := hown24.viewIn; subst e24; have HV24 := Lib.hid hv24; have HC24W : Hid (Chg none_ w4 w24) := Lib.hid (HCR.out.andThen hc24 (fun b hb h => by have := (HVI.out.lt h).2; omega)); clear hown24 hc24 ho24 hcap24 hv24 HOWN24) | (go_at_call 10; first | ((with_reducible refine (HSUM1.out _ A24 c24 _ HV24.out HC24W.out).mono ?_); rintro e w25 ⟨rfl, hc25⟩; have HC25 := Lib.hid hc25; clear hc25) | ((with_reducible refine (HSUM2.out _ A28 c28 _ HV28.out HC28W.out).mono ?_); rintro e w29 ⟨rfl, hc29⟩; have HC29 := Lib.hid hc29; clear hc29)) | ((with_reducible show wpList _ _ _ (⟨some 10, .alloc 25, _, _, _, _⟩ :: _) _ _); refine wpList_alloc_Row rfl rfl (u8s (List.replicate 32 0)) zero25 ?_; intro w26 hr26 hc26 hs26; have HR26 := Lib.hid hr26; have HC26 := Lib.hid hc26; clear hr26 hc26 hs26) | ((with_reducible show wpList _ _ _ (⟨_, .store 25 (.tmp 10) _, _, _, _, _⟩ :: _) _ _); refine wpList_store_Row (xs := u8s DG) rfl rfl rfl (HR26.out) (rfl) (by rw [u8s_length, HDGL.out, u8s_length]; rfl) (by rw [u8s_length, HDGL.out]; exact size25) (u8s_oneA _) ?_; intro w27 hr27 hc27 hs27; have HR27 := Lib.hid hr27; have HC27 := Lib.hid hc27; have HC2427 : Hid (Chg none_ w24 w27) := Lib.hid (hc27 none_ w24 (HC25.out.trans HC26.out) (fun h => by have := HC25.out.size; omega)); clear hr27 hc27 hs27) | ((with_reducible show wpList _ _ _ (⟨some 45, _, _, _, _, _⟩ :: _) _ _); refine wpList_append_own2 (v := u7) rfl _ _ 22 rfl Tryd.underlying22 rfl (Owned.chg' (Owned.chg' HVO.out HC24.out (fun b hb h => HAP.out b h hb)) HC2427.out (fun _ _ h => h)) rfl (View.all (T := fun _ => True) (cs := u8s DG) HR27.out (by rw [u8s_length, HDGL.out]) trivial) (by rw [xorK_len, HKN.out]; omega) (Nat.le_trans (Nat.le_trans HCR.out.size HC24.out.size) HC2427.out.size) ?_; intro v28 w28 hown28 hc28 ho28; have HOWN28 := Lib.hid hown28; have HC28 := Lib.hid hc28; have HO28 := Lib.hid ho28; rw [HLL2.out] at hown28; obtain ⟨A28, c28, e28, hcap28, hv28⟩ := hown28.viewIn; subst e28; have HV28 := Lib.hid hv28; have HC28W : Hid (Chg none_ w4 w28) := Lib.hid ((HC24W.out.trans HC2427.out).andThen hc28 (fun b hb h => by have := (HVO.out.lt h).2; omega)); clear hown28 hc28 ho28 hcap28 hv28 HOWN28) | ((with_reducible show wpList _ _ _ (⟨_, .store 25 (.tmp 4) _, _, _, _, _⟩ :: _) _ _); refine wpList_store_Row (xs := u8s TG) rfl rfl rfl ((HR1W.out.chg HC28W.out (fun h => h)).chg HC29.out (fun h => h)) (rfl) (by rw [u8s_length, HTGL.out, u8s_length]; rfl) (by rw [u8s_length, HTGL.out]; exact size25) (u8s_oneA _) ?_; intro w30 hr30 hc30 hs30; have HR30 := Lib.hid hr30; have HC30 := Lib.hid hc30; clear hr30 hc30 hs30))
      refine ret_row rfl rfl HR30.out Tryd.underlying25 rfl (by rw [u8s_length, HTGL.out]; exact size25) rfl ?_
      exact ⟨by rw [HE.out, HTGE.out], HC30.out none_ w ((HW.out.trans HC28W.out).trans HC29.out) (fun h => absurd h (by omega))⟩

theorem rtag_any (T T' : Nat → Prop) (A A' : Option Addr) (cap cap' : Nat) (k l : List Nat) (w : World) (hvk : View w T A k.length (u8s k)) (hv : View w T' A' l.length (u8s l)) (hk : k.length ≤ 400000) (hl : l.length ≤ 400000) (hkb : ∀ x ∈ k, x < 256) (hb : ∀ x ∈ l, x < 256) (hT : HTab w) :
    Calls Tryd.prog 12 #[.slice A k.length cap, .slice A' l.length cap'] w fun e w' => e = .returned (.agg (u8s (tagN k l)).toArray) ∧ Chg none_ w w' := by
  rcases Nat.lt_or_ge 64 k.length with h | h
  · exact rtag_long T T' A A' cap cap' k l w hvk hv hk hl hkb hb hT h
  · exact rtag_short T T' A A' cap cap' k l w hvk hv hl hkb hb hT h
end Go.Proofs.YtodcjcpbigggfaaDoor
