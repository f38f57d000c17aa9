/- Layer 12 (timers): the law of a connection's timers that go, walked. -/
import Derived.Test.YtblpgpolhibfgaaV12RSame
import Derived.Test.YtblpgpolhibfgaaStr
namespace Go.Proofs.Ytblpgpolhibfgaa
open Go.RowKit

set_option maxRecDepth 100000 in
set_option maxHeartbeats 4000000 in
theorem walk_TimersDrops (l : List Tm) (A : Option Addr) (cap : Nat) (c : Int) (w : World) (_hb : l.length ≤ cap ∧ cap ≤ maxLen) (hv : View w (fun _ => True) A (l.length * 3) (tcells l)) (ho : ∀ t ∈ l, TOk t) (hc0 : (Lit.int .i64 c).wf = true) :
    Calls Try.prog 6 #[.slice A l.length cap, .int .i64 c] w fun e w' => e = .returned (.bool true) ∧ Chg none_ w w' := by
  by_cases hbig : 150 < l.length
  · have h1 : (150 : Int) < (l.length : Int) := by omega
    clear hv
    go_enter Try.func6, Try.ntmps6
    go_wp2_with (go_at_call 9; refine (alive_any _).mono ?_; rintro e w1 ⟨rfl, hc⟩; have HC := Lib.hid hc; clear hc)
    go_ret
    exact ⟨rfl, HC.out⟩
  have h1 : ¬ (150 : Int) < (l.length : Int) := by omega
  have HV := Lib.hid (fun w' (hc : Chg none_ w w') => hv.chg hc (fun _ _ h => h))
  have HO := Lib.hid (fun k (hk : k < l.length) => ho _ (tm_mem hk))
  clear hv ho
  go_enter Try.func6, Try.ntmps6
  go_wp2_with (first | (go_at_call 9; refine (alive_any _).mono ?_; rintro e w1 ⟨rfl, hc⟩; have HC1 := Lib.hid hc; clear hc) | (go_at_call 18; refine (New_own w1).mono ?_; rintro e w2 ⟨rfl, hqo, hc⟩; have HQ2 := Lib.hid hqo; have HC2 := Lib.hid (HC1.out.trans hc); clear hqo hc))
  have H0 := Lib.hid HC1.out.size
  clear HC1
  generalize w1.heap.size = q at *
  go_loopw [6] (fun i wr => ∃ (k : Nat) (S : List Tm), i = .int .i64 (k : Int) ∧ k ≤ l.length ∧ QO wr q q S ∧ S.length ≤ k ∧ Chg none_ w wr) (fun i _ => l.length - (intOf i).toNat)
  case atStart => exact ⟨0, [], rfl, Nat.zero_le _, HQ2.out, Nat.le_refl _, HC2.out⟩
  case round =>
    obtain ⟨k, S, rfl, hk, hq, hS, hc⟩ := hrel
    have HQ := Lib.hid hq
    have HC := Lib.hid hc
    by_cases hlt : k < l.length
    · have k1 : (k : Int) < (l.length : Int) := by omega
      obtain ⟨b, o, rfl, hbl, _, hr⟩ := (HV.out wr hc).tmAt hlt
      have HR := Lib.hid (hr k hlt)
      have HT := Lib.hid (HO.out k hlt)
      have HSL := Lib.hid (setS_len (tm l k) S)
      clear hq hc hr
      go_wp2_with (first | ((with_reducible show wpList _ _ _ (⟨some 26, .load _ _, _, _, _, _⟩ :: _) _ _); refine wpList_load_Mid (cs := tcell (tm l k)) rfl rfl rfl HR.out Try.underlying27 rfl sizeTm ?_) | (go_at_call 11; refine (Set_own q q S (tm l k) HT.out w wr H0.out HQ.out.base HC.out HQ.out).mono ?_; rintro e w3 ⟨rfl, hqo, hc⟩; have HQ3 := Lib.hid hqo; have HC3 := Lib.hid hc; clear hqo hc))
      go_roundw
      case rel => exact ⟨k + 1, _, by go_num, by omega, HQ3.out, by have := HSL.out; omega, HC3.out⟩
      case measure => simp [intOf]; omega
    · have hke : k = l.length := by omega
      subst hke
      clear hq hc hlt hk
      obtain ⟨mp, hq0, hB0⟩ := HQ.out
      have HQI := Lib.hid hq0
      have HBB := Lib.hid hB0
      have HLT := Lib.hid (fun b hb => hq0.lt b hb)
      have hsl : S.length ≤ 200 := hq0.ok.2.2.1
      have HOK := Lib.hid hq0.ok.1
      clear hq0 hB0
      have HLI := Lib.hid (List_any q mp S wr HQI.out)
      go_wp2_with (go_at_call 15; refine HLI.out.mono ?_; rintro e w3 ⟨v3, rfl, ho3, hc3⟩; obtain ⟨A3, cap3, rfl, _, _, hv3⟩ := ho3.view; have HV3 := Lib.hid hv3; have HC3 := Lib.hid (HC.out.trans hc3); have HN3 := Lib.hid hc3; have HQ3 := Lib.hid (HQI.out.quiet hc3); clear ho3 hc3 hv3)
      have HSZ := Lib.hid HN3.out.size
      have HTS : Hid (∀ k, k < S.length → S.take (k + 1) = S.take k ++ [tm S k]) := Lib.hid (fun k hk => by
        rw [List.take_add_one]
        unfold tm
        rw [List.getD_eq_getElem?_getD, List.getElem?_eq_getElem hk]
        rfl)
      have HDL : Hid (∀ k, (dropS c (S.take k)).length ≤ 200) := Lib.hid (fun k => by
        have h1 : (dropS c (S.take k)).length ≤ (S.take k).length := List.length_filter_le _ _
        rw [List.length_take] at h1
        omega)
      clear HLI HQ2 HC2 hS
      go_loopw [8, 9] (fun v i wr => ∃ (k : Nat), i = .int .i64 (k : Int) ∧ k ≤ S.length ∧ OwnedT wr w3.heap.size v (dropS c (S.take k)) ∧ Chg none_ w3 wr) (fun _ i _ => S.length - (intOf i).toNat)
      case atStart => exact ⟨0, rfl, Nat.zero_le _, by rw [take_zero']; exact OwnedT.nil _ _, Chg.refl _ _⟩
      case round =>
        obtain ⟨k, rfl, hk, ho, hc⟩ := hrel
        obtain ⟨AL, capL, rfl, _, _, _⟩ := ho.view
        have HL := Lib.hid ho
        have HC4 := Lib.hid hc
        by_cases hlt : k < S.length
        · have k1 : (k : Int) < (S.length : Int) := by omega
          have k0 : 0 ≤ (k : Int) := by omega
          obtain ⟨b, o, rfl, hbl, _, hr⟩ := (HV3.out.chg hc (fun _ _ h => h)).tmAt hlt
          have a1 := hr k hlt 1 _ rfl
          have HR := Lib.hid (hr k hlt)
          have HTK := Lib.hid (HTS.out k hlt)
          have HDK := Lib.hid (HDL.out k)
          clear ho hc hr
          by_cases hcn : (tm S k).conn = c
          · have c1 : ((tm S k).conn == c) = true := by simpa using hcn
            have HE : Hid (dropS c (S.take (k + 1)) = dropS c (S.take k)) := Lib.hid (by
              rw [HTK.out]
              unfold dropS
              rw [List.filter_append, List.filter_cons_of_neg (by simpa using hcn)]
              simp)
            clear hcn
            go_wp2
            go_roundw
            case rel => exact ⟨k + 1, by go_num, by omega, by rw [HE.out]; exact HL.out, HC4.out⟩
            case measure => simp [intOf]; omega
          · have c1 : ((tm S k).conn == c) = false := by simpa using hcn
            have HE : Hid (dropS c (S.take (k + 1)) = dropS c (S.take k) ++ [tm S k]) := Lib.hid (by
              rw [HTK.out]
              unfold dropS
              rw [List.filter_append, List.filter_cons_of_pos (by simpa using hcn)]
              simp)
            clear hcn
            generalize dropS c (S.take k) = L at *
            go_wp2_with (first | ((with_reducible show wpList _ _ _ (⟨some 47, .load _ _, _, _, _, _⟩ :: _) _ _); refine wpList_load_Mid (cs := tcell (tm S k)) rfl rfl rfl HR.out Try.underlying27 rfl sizeTm ?_) | ((with_reducible show wpList _ _ _ (⟨some 48, _, _, _, _, _⟩ :: _) _ _); refine wpList_new_row (v := fun g => .slice (some ⟨g, 0, none⟩) 1 1) (e := 27) (cs := tcell (tm S k)) rfl (fun w_ => by go_simp; rfl) ?_; intro w5 hr5 hc5 hs5; have HC5 := Lib.hid (HC4.out.trans hc5); have HL5 := Lib.hid (HL.out.chg hc5 (fun _ _ _ h => h)); have HV5 : Hid (View w5 (fun _ => True) (some ⟨wr.heap.size, 0, none⟩) (1 * 3) (tcells [tm S k])) := Lib.hid (View.row (cs := tcell (tm S k)) hr5 (n := 3) (by rw [tcell_len]; exact Nat.le_refl _) trivial); clear hr5 hc5 hs5) | ((with_reducible show wpList _ _ _ (⟨some 49, _, _, _, _, _⟩ :: _) _ _); refine wpList_append_T rfl _ _ _ rfl Try.underlying34 (base := w3.heap.size) (L := L) (M := [tm S k]) (A := some ⟨wr.heap.size, 0, none⟩) (m := 1) (c := 1) (w0 := w3) rfl HL5.out rfl HV5.out (by have := HDK.out; omega) HC5.out.size HC5.out (Nat.le_refl _) ?_; intro v6 w6 ho6 hc6; have HL6 := Lib.hid ho6; have HC6 := Lib.hid hc6; clear ho6 hc6))
            go_roundw
            case rel => exact ⟨k + 1, by go_num, by omega, by rw [HE.out]; exact HL6.out, HC6.out⟩
            case measure => simp [intOf]; omega
        · have hke : k = S.length := by omega
          have e : dropS c (S.take k) = dropS c S := by rw [hke, List.take_length]
          generalize hL : dropS c (S.take k) = L at *
          have e2 : L = dropS c S := e
          clear hL e
          subst e2
          subst hke
          have HDS : (dropS c S).length ≤ S.length := List.length_filter_le _ _
          have HQ4 := Lib.hid (HQ3.out.quiet hc)
          have HCW := Lib.hid (HC3.out.trans hc)
          have HDR : Hid (∀ w1, QIs w1 q mp S → Calls Try.prog 13 #[.pointer (some ⟨q, 0, none⟩), .int .i64 c] w1 fun e w' => e = .returned (.int .i64 ((S.length : Int) - ((dropS c S).length : Int))) ∧ QIs w' q mp (dropS c S) ∧ Chg (QB q mp) w1 w') := Lib.hid (fun w1 h => by
            have := Drop_any q mp S c hc0 w1 h
            rwa [Int.ofNat_sub HDS] at this)
          have HSM : Hid (∀ w1 A1 c1 A2 c2 T1 T2, View w1 T1 A1 ((dropS c S).length * 3) (tcells (dropS c S)) → View w1 T2 A2 ((dropS c S).length * 3) (tcells (dropS c S)) → Calls Try.prog 25 #[.slice A1 (dropS c S).length c1, .slice A2 (dropS c S).length c2] w1 fun e w' => e = .returned (.bool true) ∧ Chg none_ w1 w') := Lib.hid (fun w1 A1 c1 A2 c2 T1 T2 h1 h2 => by
            have hok : ∀ t ∈ dropS c S, TOk t := fun t ht => HOK.out t (List.mem_filter.1 ht).1
            have := Same_any (dropS c S) (dropS c S) A1 A2 c1 c2 T1 T2 w1 h1 h2 (by omega) hok hok
            rwa [decide_eq_true rfl] at this)
          have HLI2 := Lib.hid (fun w1 (h : QIs w1 q mp (dropS c S)) => List_any q mp (dropS c S) w1 h)
          have hdb : (dropS c S).length ≤ 200 := by omega
          clear ho hc hlt hk HDS
          generalize hD : dropS c S = D at *
          clear hD
          go_wp2_with (first | (go_at_call 13; refine (HDR.out _ HQ4.out).mono ?_; rintro e w6 ⟨rfl, hq6, hc6⟩; have HQ6 := Lib.hid hq6; have HL6 := Lib.hid (HL.out.chg hc6 (fun b hb _ hs => by have := HLT.out b hs; have := HSZ.out; omega)); have HC6 := Lib.hid (chg_past HBB.out H0.out HCW.out hc6); clear hq6 hc6) | (go_at_call 15; refine (HLI2.out _ HQ6.out).mono ?_; rintro e w7 ⟨v7, rfl, ho7, hc7⟩; obtain ⟨A7, cap7, rfl, _, _, hv7⟩ := ho7.view; have HV7 := Lib.hid hv7; have HL7 := Lib.hid (HL6.out.chg hc7 (fun _ _ _ h => h)); have HC7 := Lib.hid (HC6.out.trans hc7); obtain ⟨A8, cap8, hv8e, _, _, hv8⟩ := HL7.out.view; injection hv8e with q1 _ q3; subst q1 q3; have HV8 := Lib.hid hv8; clear ho7 hc7 hv7 hv8) | (go_at_call 25; refine (HSM.out _ _ _ _ _ _ _ HV7.out HV8.out).mono ?_; rintro e w9 ⟨rfl, hc9⟩; have HC9 := Lib.hid (HC7.out.trans hc9); clear hc9))
          go_ret
          exact ⟨rfl, HC9.out⟩
end Go.Proofs.Ytblpgpolhibfgaa
