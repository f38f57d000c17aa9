/- Layer 8 (aes): a block enciphered, the program's. -/
import Derived.Test.YtmimpodbmfmeiaaV8Mix
namespace Go.Proofs.Ytmimpodbmfmeiaa
open Go.RowKit

theorem xorB_len (s k : List Nat) : (xorB s k).length = 16 := by simp [xorB]
theorem subB_len (s : List Nat) : (subB s).length = 16 := by simp [subB]
theorem shiftB_len (s : List Nat) : (shiftB s).length = 16 := by simp [shiftB]
theorem mixB_len (s : List Nat) : (mixB s).length = 16 := by simp [mixB]
theorem xorB_lt {s k : List Nat} (hs : ∀ x ∈ s, x < 256) (hk : ∀ x ∈ k, x < 256) : ∀ x ∈ xorB s k, x < 256 := by
  intro x hx
  simp only [xorB, List.mem_map] at hx
  obtain ⟨i, _, rfl⟩ := hx
  exact xor8_lt (getD_lt hs i (by decide)) (getD_lt hk i (by decide))
theorem subB_lt (s : List Nat) : ∀ x ∈ subB s, x < 256 := by
  intro x hx
  simp only [subB, List.mem_map] at hx
  obtain ⟨i, _, rfl⟩ := hx
  exact sbox_lt _
theorem shiftB_lt {s : List Nat} (hs : ∀ x ∈ s, x < 256) : ∀ x ∈ shiftB s, x < 256 := by
  intro x hx
  simp only [shiftB, List.mem_map] at hx
  obtain ⟨i, _, rfl⟩ := hx
  exact getD_lt hs _ (by decide)
theorem mixC_lt {p q r s : Nat} (hp : p < 256) (hq : q < 256) (hr : r < 256) (hs : s < 256) : mixC p q r s < 256 := xor8_lt (xor8_lt (xor8_lt (dbl_lt (xor8_lt hp hq)) hq) hr) hs
theorem mixB_lt {s : List Nat} (hs : ∀ x ∈ s, x < 256) : ∀ x ∈ mixB s, x < 256 := by
  intro x hx
  simp only [mixB, List.mem_map] at hx
  obtain ⟨i, _, rfl⟩ := hx
  exact mixC_lt (getD_lt hs _ (by decide)) (getD_lt hs _ (by decide)) (getD_lt hs _ (by decide)) (getD_lt hs _ (by decide))
theorem stepB_len (ks s : List Nat) (r : Nat) : (stepB ks s r).length = 16 := xorB_len _ _
theorem stepB_lt {ks s : List Nat} (hk : ∀ x ∈ ks, x < 256) (r : Nat) : ∀ x ∈ stepB ks s r, x < 256 :=
  xorB_lt (by split; exact mixB_lt (shiftB_lt (subB_lt _)); exact shiftB_lt (subB_lt _)) (fun x hx => hk x (List.mem_of_mem_drop hx))
theorem roundsB_len (ks s : List Nat) : ∀ r, (roundsB ks s r).length = 16
  | 0 => xorB_len _ _
  | _ + 1 => stepB_len _ _ _
theorem roundsB_lt {ks s : List Nat} (hs : ∀ x ∈ s, x < 256) (hk : ∀ x ∈ ks, x < 256) : ∀ r, ∀ x ∈ roundsB ks s r, x < 256
  | 0 => xorB_lt hs hk
  | _ + 1 => stepB_lt hk _
theorem encN_len (ks s : List Nat) : (encN ks s).length = 16 := roundsB_len _ _ _
theorem encN_lt {ks s : List Nat} (hs : ∀ x ∈ s, x < 256) (hk : ∀ x ∈ ks, x < 256) : ∀ x ∈ encN ks s, x < 256 := roundsB_lt hs hk _

/-- A cipher lies there: where the boxes are, and the round keys. -/
structure CiphAt (w : World) (cb tb : Nat) (ks : List Nat) : Prop where
  row : Row w cb 84 (.pointer (some ⟨tb, 0, none⟩) :: u8s ks)
  box : Row w tb 92 (u8s sboxL)
theorem CiphAt.chg {w w' : World} {S : Nat → Prop} {cb tb : Nat} {ks : List Nat} (h : CiphAt w cb tb ks) (hc : Chg S w w') (h1 : ¬ S cb) (h2 : ¬ S tb) : CiphAt w' cb tb ks := ⟨h.row.chg hc h1, h.box.chg hc h2⟩
theorem CiphAt.keys {w : World} {cb tb : Nat} {ks : List Nat} (h : CiphAt w cb tb ks) (hk : ks.length = 176) (r : Nat) (hr : r ≤ 10) : KeysAt w cb (1 + 16 * r) (ks.drop (16 * r)) := by
  refine ⟨h.row.lt, fun j hj => ?_⟩
  rw [h.row.cell, show 1 + 16 * r + j = (16 * r + j) + 1 from by omega, List.getElem?_cons_succ, u8s_get, List.getElem?_eq_getElem (by omega)]
  rw [List.getD_eq_getElem?_getD, List.getElem?_drop, List.getElem?_eq_getElem (by omega)]
  rfl
theorem size4 : (Try.prog.info? 73).map (·.size) = some 4 := by kernel_rfl

set_option maxRecDepth 100000 in
set_option maxHeartbeats 1000000 in
theorem encipher_any (cb tb : Nat) (ks s : List Nat) (w : World) (hs : s.length = 16) (hsb : ∀ x ∈ s, x < 256) (hk : ks.length = 176) (hkb : ∀ x ∈ ks, x < 256) (hci : CiphAt w cb tb ks) : Calls Try.prog 38 #[.pointer (some ⟨cb, 0, none⟩), .agg (u8s s).toArray] w fun e w' => e = .returned (.agg (u8s (encN ks s)).toArray) ∧ Chg none_ w w' := by
  have HS := Lib.hid hs
  have HSB := Lib.hid hsb
  have HK := Lib.hid hk
  have HKB := Lib.hid hkb
  have HKD : Hid (∀ r, ∀ x ∈ ks.drop (16 * r), x < 256) := Lib.hid (fun r x hx => hkb x (List.mem_of_mem_drop hx))
  have HCI := Lib.hid hci
  have HL1 := Lib.hid hci.row.lt
  have HL2 := Lib.hid hci.box.lt
  clear hs hsb hk hkb hci
  go_enter Try.func38, Try.ntmps38
  go_wp2_with (first | ((with_reducible show wpList _ _ _ (⟨_, .box 68 _, _, _, _, _⟩ :: _) _ _); refine wpList_box_Row rfl rfl (u8s s) rfl ?_; intro w1 hr1 hc1 hs1; have HR1 := Lib.hid hr1; have HC1 := Lib.hid hc1; clear hr1 hc1 hs1) | ((with_reducible show wpList _ _ _ (⟨_, .alloc 68, _, _, _, _⟩ :: _) _ _); refine wpList_alloc_Row rfl rfl (u8s (List.replicate 16 0)) zero47 ?_; intro w2 hr2 hc2 hs2; have HR2 := Lib.hid hr2; have HC2 := Lib.hid hc2; have HCI2 := Lib.hid ((HCI.out.chg HC1.out (fun h => h) (fun h => h)).chg hc2 (fun h => h) (fun h => h)); have HRG := Lib.hid (HR1.out.chg hc2 (fun h => h)); clear hr2 hc2 hs2) | ((with_reducible show wpList _ _ _ (⟨some 9, _, _, _, _, _⟩ :: _) _ _); refine wpList_slice_arr_high rfl 74 73 _ _ rfl 44 4 4 cb 1 rfl rfl Try.underlying74 size4 (by decide) ?_) | (go_at_call 47; refine (xor_any w.heap.size cb 1 4 44 s ks w2 HS.out HSB.out HKB.out HRG.out (HCI2.out.keys HK.out 0 (by decide)) (Nat.le_refl _) (by have := HL1.out; omega)).mono ?_; rintro e w3 ⟨rfl, hr3, hc3⟩; have HR3 := Lib.hid hr3; have HC3 := Lib.hid hc3; clear hr3 hc3))
  have HG := Lib.hid (show w.heap.size < w1.heap.size from HR1.out.lt)
  have HR2x := Lib.hid (HR2.out.chg HC3.out (by have := HG.out; omega))
  have HCW := Lib.hid ((HC1.out.trans HC2.out).andThen HC3.out (fun b h e => by omega))
  have HCI3 := Lib.hid (HCI2.out.chg HC3.out (by have := HL1.out; omega) (by have := HL2.out; omega))
  have HRB := Lib.hid (fun k => roundsB_lt (s := s) (ks := ks) HSB.out HKB.out k)
  have HTG := Lib.hid (show ¬ tb = w.heap.size by have := HL2.out; omega)
  have HCG := Lib.hid (show ¬ cb = w.heap.size by have := HL1.out; omega)
  clear HR1 HC1 HC2 HC3 HRG HCI2 HR2 HCI
  go_loopw [5, 11] (fun i _ wr => ∃ k : Nat, k ≤ 10 ∧ i = .int .i64 (k + 1 : Nat) ∧ Row wr w.heap.size 68 (u8s (roundsB ks s k)) ∧ Chg (· = w.heap.size) w3 wr) (fun i _ _ => 11 - (intOf i).toNat)
  case atStart => exact ⟨0, Nat.zero_le _, rfl, HR3.out, Chg.refl _ _⟩
  case round =>
    obtain ⟨k, hk, rfl, hrow, hch⟩ := hrel
    have HROW := Lib.hid hrow
    have HC := Lib.hid hch
    clear hrow
    by_cases hlt : k < 10
    · have HCR := Lib.hid (HCI3.out.chg hch HCG.out HTG.out)
      have c1 : wr.cell? ⟨cb, 0, none⟩ = some (.pointer (some ⟨tb, 0, none⟩)) := by rw [HCR.out.row.cell]; rfl
      have Q1 : Hid (Value.int .i64 (4 * ((k + 1 : Nat) : Int)) = .int .i64 ((4 * (k + 1) : Nat) : Int)) := Lib.hid (by congr 1)
      have Q2 : Hid (1 + 4 * (k + 1) * 4 = 1 + 16 * (k + 1)) := Lib.hid (by omega)
      clear hch
      by_cases h9 : k < 9
      · have HST : Hid (roundsB ks s (k + 1) = xorB (mixB (shiftB (subB (roundsB ks s k)))) (ks.drop (16 * (k + 1)))) := Lib.hid (by rw [roundsB, stepB, if_pos (by omega)])
        have HCa9 := Lib.hid h9
        go_wp2_with (first | (go_at_call 48; refine (sub_any w.heap.size tb (roundsB ks s k) wr (roundsB_len _ _ _) (HRB.out _) HROW.out HCR.out.box HTG.out).mono ?_; rintro e wa ⟨rfl, hra, hca⟩; have HRa := Lib.hid hra; have HCa := Lib.hid hca; clear hra hca) | (go_at_call 49; refine (turn_any w.heap.size (subB (roundsB ks s k)) wa (subB_len _) HRa.out).mono ?_; rintro e wb ⟨rfl, hrb, hcb⟩; have HRb := Lib.hid hrb; have HCb := Lib.hid (HCa.out.trans hcb); clear hrb hcb) | (go_at_call 50; refine (mul_any w.heap.size (shiftB (subB (roundsB ks s k))) wb (shiftB_len _) (shiftB_lt (subB_lt _)) HRb.out).mono ?_; rintro e wc ⟨rfl, hrc, hcc⟩; have HRc := Lib.hid hrc; have HCc := Lib.hid (HCb.out.trans hcc); clear hrc hcc) | ((with_reducible show wpList _ _ _ (⟨some 29, _, _, _, _, _⟩ :: _) _ _); refine wpList_slice_arr_low rfl 74 73 _ _ rfl 44 4 (4 * (k + 1)) cb 1 rfl (by show Value.int .i64 _ = _; first | exact Q1.out | rfl) Try.underlying74 size4 (by omega) ?_; rw [Q2.out]) | (go_at_call 47; refine (xor_any w.heap.size cb (1 + 16 * (k + 1)) (44 - 4 * (k + 1)) (44 - 4 * (k + 1)) (mixB (shiftB (subB (roundsB ks s k)))) (ks.drop (16 * (k + 1))) wc (mixB_len _) (mixB_lt (shiftB_lt (subB_lt _))) (HKD.out _) HRc.out ((HCR.out.chg HCc.out HCG.out HTG.out).keys HK.out (k + 1) (by omega)) (by omega) HCG.out).mono ?_; rintro e wd ⟨rfl, hrd, hcd⟩; have HRd := Lib.hid hrd; have HCd := Lib.hid (HCc.out.trans hcd); clear hrd hcd))
        go_roundw
        case rel => exact ⟨k + 1, by omega, by go_num, by rw [HST.out]; exact HRd.out, HC.out.trans HCd.out⟩
        case measure => simp [intOf]; omega
      · have HST : Hid (roundsB ks s (k + 1) = xorB (shiftB (subB (roundsB ks s k))) (ks.drop (16 * (k + 1)))) := Lib.hid (by rw [roundsB, stepB, if_neg (by omega)])
        go_wp2_with (first | (go_at_call 48; refine (sub_any w.heap.size tb (roundsB ks s k) wr (roundsB_len _ _ _) (HRB.out _) HROW.out HCR.out.box HTG.out).mono ?_; rintro e wa ⟨rfl, hra, hca⟩; have HRa := Lib.hid hra; have HCa := Lib.hid hca; clear hra hca) | (go_at_call 49; refine (turn_any w.heap.size (subB (roundsB ks s k)) wa (subB_len _) HRa.out).mono ?_; rintro e wb ⟨rfl, hrb, hcb⟩; have HRb := Lib.hid hrb; have HCb := Lib.hid (HCa.out.trans hcb); clear hrb hcb) | ((with_reducible show wpList _ _ _ (⟨some 29, _, _, _, _, _⟩ :: _) _ _); refine wpList_slice_arr_low rfl 74 73 _ _ rfl 44 4 (4 * (k + 1)) cb 1 rfl (by show Value.int .i64 _ = _; first | exact Q1.out | rfl) Try.underlying74 size4 (by omega) ?_; rw [Q2.out]) | (go_at_call 47; refine (xor_any w.heap.size cb (1 + 16 * (k + 1)) (44 - 4 * (k + 1)) (44 - 4 * (k + 1)) (shiftB (subB (roundsB ks s k))) (ks.drop (16 * (k + 1))) wb (shiftB_len _) (shiftB_lt (subB_lt _)) (HKD.out _) HRb.out ((HCR.out.chg HCb.out HCG.out HTG.out).keys HK.out (k + 1) (by omega)) (by omega) HCG.out).mono ?_; rintro e wd ⟨rfl, hrd, hcd⟩; have HRd := Lib.hid hrd; have HCd := Lib.hid (HCb.out.trans hcd); clear hrd hcd))
        go_roundw
        case rel => exact ⟨k + 1, by omega, by go_num, by rw [HST.out]; exact HRd.out, HC.out.trans HCd.out⟩
        case measure => simp [intOf]; omega
    · have hk10 : k = 10 := by omega
      subst hk10
      clear hch hk hlt
      go_wp2_with (first | ((with_reducible show wpList _ _ _ (⟨some 31, .load 68 _, _, _, _, _⟩ :: _) _ _); refine wpList_load_Row rfl rfl rfl HROW.out Try.underlying68 rfl (by rw [u8s_length, roundsB_len]; exact size47) ?_) | ((with_reducible show wpList _ _ _ (⟨_, .store 68 _ _, _, _, _, _⟩ :: _) _ _); refine wpList_store_Row (xs := u8s (encN ks s)) rfl rfl rfl (HR2x.out.chg HC.out (by have := HG.out; omega)) rfl (by rw [u8s_length, u8s_length, encN_len, List.length_replicate]) (by rw [u8s_length, encN_len]; exact size47) (u8s_oneA _) ?_; intro w9 hr9 hc9 hs9; have HR9 := Lib.hid hr9; have HC9 := Lib.hid hc9; clear hr9 hc9 hs9))
      refine ret_row rfl rfl HR9.out Try.underlying68 rfl (by rw [u8s_length, encN_len]; exact size47) rfl ?_
      exact ⟨rfl, HC9.out none_ w (HCW.out.andThen HC.out (fun b h e => by omega)) (fun h => by have := HG.out; omega)⟩
end Go.Proofs.Ytmimpodbmfmeiaa
