/- Layer 1 (varint), the document's answer: what its reader reads: Byte, Int. -/
import Derived.Test.YtfecmloaopbogaaDoorV1RRead
namespace Go.Proofs.YtfecmloaopbogaaDoor
open Go.RowKit

theorem mul_add (m y : Nat) (hm : m * 256 + y < 64 * 256 ^ 7) (hy : y < 256) : IntKind.u64.wrap (IntKind.u64.wrap ((m : Int) * 256) + IntKind.u64.wrap (y : Int)) = ((m * 256 + y : Nat) : Int) := by
  have h7 : m * 256 + y < 4611686018427387904 := hm
  clear hm
  have w1 : IntKind.u64.wrap ((m : Int) * 256) = (m : Int) * 256 := IntWalk.u64_in _ (by omega)
  have w2 : IntKind.u64.wrap (y : Int) = (y : Int) := IntWalk.u64_in _ (by omega)
  have w3 : IntKind.u64.wrap ((m : Int) * 256 + (y : Int)) = (m : Int) * 256 + (y : Int) := IntWalk.u64_in _ (by omega)
  rw [w1, w2, w3]
  omega

theorem rint_no1 (w : World) (g : Nat) (T : Nat → Prop) (bs : List Nat) (at_ : Nat) (bad : Int) (h : RR w g T bs at_ bad) (hT : ¬ T g) (hn : bad ≠ 0 ∨ bs.length - at_ < 1) :
    Calls Tryd.prog 44 #[.pointer (some ⟨g, 0, none⟩)] w fun e w' => e = .returned (.int .u64 0) ∧ RR w' g T bs at_ (badOf bad) ∧ Chg (· = g) w w' := by
  have hl0 : rleft bs at_ bad = 0 := by
    unfold rleft
    split
    · rcases hn with h | h
      · contradiction
      · omega
    · rfl
  have hL := rleft_any w g T bs at_ bad h
  rw [hl0] at hL
  have HL := Lib.hid hL
  have HF := fun k => Lib.hid (rfail_any (w.drewN k) g T bs at_ bad 2 (h.chg ((Chg.refl none_ w).drewN k) (fun h => h) (fun _ _ h => h)) hT)
  clear h hn hl0 hL
  go_enter Tryd.func44, Tryd.ntmps44
  go_wp2_with (first | (go_at_call 43; refine HL.out.mono ?_; rintro e w' ⟨rfl, k, rfl⟩) | (go_at_call 54; refine (HF k).out.mono ?_; rintro e w' ⟨rfl, hr, hc⟩))
  go_ret
  exact ⟨rfl, hr, hc.undrewN⟩

set_option maxHeartbeats 1000000 in
/-- At least one byte is left. -/
theorem rint_any (w : World) (g : Nat) (T : Nat → Prop) (bs : List Nat) (at_ f : Nat) (h : RR w g T bs at_ 0) (hT : ¬ T g) (hn : 1 ≤ bs.length - at_) (hf : bs.getD at_ 0 = f) (hf' : f < 256) (hbs : ∀ x ∈ bs, x < 256) :
    Calls Tryd.prog 44 #[.pointer (some ⟨g, 0, none⟩)] w fun e w' =>
      (needs f + 1 ≤ bs.length - at_ → e = .returned (.int .u64 (foldB (f % 64) ((bs.drop (at_ + 1)).take (needs f)) : Nat)) ∧ RR w' g T bs (at_ + (needs f + 1)) 0) ∧
      (¬ needs f + 1 ≤ bs.length - at_ → e = .returned (.int .u64 0) ∧ RR w' g T bs at_ 2) ∧ Chg (· = g) w w' := by
  have hl0 : rleft bs at_ 0 = bs.length - at_ := by simp [rleft]
  have hL := rleft_any w g T bs at_ 0 h
  rw [hl0] at hL
  have HL := Lib.hid hL
  have H := Lib.hid h
  obtain ⟨A, cap, h1, h2, h3, h4, h5⟩ := h
  have hc0 := h1.cell 0
  have hc1 := h1.cell 1
  simp at hc0 hc1
  obtain ⟨b, o, rfl, _, _, hcell⟩ := h5.at_ (i := at_) (by omega)
  rw [hf] at hcell
  have b1 : (0 : Int) ≤ (at_ : Int) := by omega
  have b2 : (at_ : Int) < (bs.length : Int) := by omega
  have HF := Lib.hid hf
  have HBS := Lib.hid hbs
  have hq : f / 64 < 4 := by omega
  have HM := Lib.hid (needs_cases f hf')
  have hpos : (((bs.length - at_ : Nat) : Int) == 0) = false := by simp; omega
  have hsm : bs.length - at_ ≤ 1000000 := by omega
  have HN := Lib.hid hn
  generalize hmm : bs.length - at_ = m at HL hpos hsm ⊢
  have HMM := Lib.hid hmm
  clear hl0 hL h1 h5 hf hbs hn hmm
  go_enter Tryd.func44, Tryd.ntmps44
  go_wp2_with (go_at_call 43; refine HL.out.mono ?_; rintro e w' ⟨rfl, k, rfl⟩)
  go_loopw [3, 4] (fun t i wr => ∃ j l : Nat, j ≤ f / 64 ∧ i = .int .i64 j ∧ t = .int .i64 ((2 ^ j : Nat) : Int) ∧ wr = w.drewN l) (fun _ i _ => f / 64 - (intOf i).toNat)
  case atStart => exact ⟨0, k, Nat.zero_le _, rfl, rfl, rfl⟩
  case round =>
    obtain ⟨j, l, hj, rfl, rfl, rfl⟩ := hrel
    by_cases hlt : j < f / 64
    · have hp : 2 ^ j < 8 := Nat.lt_of_lt_of_le (Nat.pow_lt_pow_right (by omega) (show j < 3 by omega)) (by omega)
      have hlt2 : (j : Int) < (f : Int) / 64 := by omega
      generalize hpp : 2 ^ j = pw at hp ⊢
      have HP := Lib.hid hpp
      clear hpp
      go_wp2
      go_quiet (fail)
      go_wp2
      go_roundw
      case rel => exact ⟨j + 1, l + nq, by omega, by go_num, by rw [Nat.pow_succ, HP.out]; go_num, rfl⟩
      case measure => simp [intOf]; omega
    · have hlt2 : ¬ (j : Int) < (f : Int) / 64 := by omega
      have hjf : j = f / 64 := by omega
      have hpw : 2 ^ j = needs f + 1 := by
        rw [hjf]
        rcases HM.out with ⟨a, b⟩ | ⟨a, b⟩ | ⟨a, b⟩ | ⟨a, b⟩ <;> rw [a, b]
      rw [hpw]
      clear hpw hjf
      have hn7 : needs f ≤ 7 := by rcases HM.out with h | h | h | h <;> omega
      have hRR := fun l => H.out.chg ((Chg.refl none_ w).drewN l) (fun h => h) (fun _ _ h => h)
      by_cases hen : needs f + 1 ≤ m
      · have HB := Lib.hid (fun l => rbytes_ok (w.drewN l) g T bs at_ (needs f + 1) (hRR l) hT (by rw [HMM.out]; exact hen))
        clear hRR
        have hys : ((bs.drop at_).take (needs f + 1)) = f :: ((bs.drop (at_ + 1)).take (needs f)) := by
          have hl : at_ < bs.length := by have := HN.out; omega
          rw [List.drop_eq_getElem_cons hl, List.take_succ_cons]
          congr 1
          have := HF.out
          rw [← this]; simp [List.getD_eq_getElem?_getD, hl]
        have hl : ((bs.drop (at_ + 1)).take (needs f)).length = needs f := by rw [List.length_take, List.length_drop]; have := HMM.out; omega
        have hlt : ∀ x ∈ (bs.drop (at_ + 1)).take (needs f), x < 256 := fun x h => HBS.out x (List.mem_of_mem_drop (List.mem_of_mem_take h))
        rw [hys] at HB
        generalize hys2 : (bs.drop (at_ + 1)).take (needs f) = ys at HB hl hlt
        have HYS := Lib.hid hys2
        clear hys2
        have hbd : ∀ k, k ≤ ys.length → foldB (f % 64) (ys.take k) < 64 * 256 ^ 7 := fun k hk => by
          have h1 := foldB_lt (ys.take k) (fun x hx => hlt x (List.mem_of_mem_take hx)) (f % 64) 64 (by omega)
          have h2 : (ys.take k).length ≤ 7 := by rw [List.length_take]; omega
          exact Nat.lt_of_lt_of_le h1 (Nat.mul_le_mul_left _ (Nat.pow_le_pow_right (by omega) h2))
        have HBD := Lib.hid hbd
        have HLL := Lib.hid hl
        have HLT := Lib.hid hlt
        clear hbd hl hlt hys
        have c1 : IntKind.u64.wrap ((needs f + 1 : Nat) : Int) = ((needs f + 1 : Nat) : Int) := IntWalk.u64_in _ (by omega)
        generalize hnn : needs f + 1 = nn at HB hen c1 ⊢
        have HNN := Lib.hid hnn
        have hnn8 : nn ≤ 8 := by omega
        have hnn1 : 1 ≤ nn := by omega
        clear hnn
        go_wp2
        go_quiet (fail)
        go_wp2_with fail
        refine (HB.out _).mono ?_
        clear hcell hc0 hc1
        rintro e w2 ⟨A2, cap2, rfl, hc2, hv2, hr2, hch2⟩
        have HV2 := Lib.hid hv2
        have HR2 := Lib.hid hr2
        have HC2 := Lib.hid hch2
        clear hv2 hr2 hch2
        go_wp2
        go_loop [6, 7] (fun t i => ∃ k : Nat, k ≤ nn ∧ i = .int .i64 k ∧ t = .int .u64 ((if k = 0 then 0 else foldB (f % 64) (ys.take (k - 1)) : Nat) : Int)) (fun _ i => nn - (intOf i).toNat)
        case atStart => exact ⟨0, Nat.zero_le _, rfl, rfl⟩
        case round =>
          obtain ⟨k, hk, rfl, rfl⟩ := hrel
          by_cases hlt : k < nn
          · by_cases hk0 : k = 0
            · subst hk0
              obtain ⟨b2, o2, rfl, _, _, hc3⟩ := HV2.out.at_ hlt
              simp only [Nat.add_zero, List.getD_cons_zero] at hc3
              go_wp2
              go_round
              case rel => exact ⟨1, by omega, by go_num, by simp [foldB]⟩
              case measure => simp [intOf]; omega
            · obtain ⟨b2, o2, rfl, _, _, hc3⟩ := HV2.out.at_ hlt
              have hk1 : ((k : Int) == 0) = false := by simp; omega
              have hyk : k - 1 < ys.length := by have := HLL.out; have := HNN.out; omega
              have hfold : foldB (f % 64) (ys.take (k - 1 + 1)) = foldB (f % 64) (ys.take (k - 1)) * 256 + ys.getD (k - 1) 0 := by
                rw [List.take_succ_eq_append_getElem hyk, foldB_snoc]
                simp [List.getD_eq_getElem?_getD, hyk]
              have hb2 := HBD.out (k - 1 + 1) (by omega)
              have hy : ys.getD (k - 1) 0 < 256 := by
                have := HLT.out (ys[k - 1]) (List.getElem_mem hyk)
                simpa [List.getD_eq_getElem?_getD, hyk] using this
              have hg : (f :: ys).getD k 0 = ys.getD (k - 1) 0 := by
                obtain ⟨j, rfl⟩ : ∃ j, k = j + 1 := ⟨k - 1, by omega⟩
                simp
              rw [hg] at hc3
              have hml := mul_add (foldB (f % 64) (ys.take (k - 1))) (ys.getD (k - 1) 0) (hfold ▸ hb2) hy
              rw [← hfold] at hml
              have e0 : (if k = 0 then 0 else foldB (f % 64) (ys.take (k - 1))) = foldB (f % 64) (ys.take (k - 1)) := if_neg hk0
              have e1 : (if k + 1 = 0 then 0 else foldB (f % 64) (ys.take (k + 1 - 1))) = foldB (f % 64) (ys.take (k - 1 + 1)) := by rw [if_neg (by omega), show k + 1 - 1 = k - 1 + 1 from by omega]
              rw [e0]
              have HE := Lib.hid e1
              have HO := Lib.hid hml
              clear e0 e1 hml hb2 hfold hg
              generalize ys.getD (k - 1) 0 = y at hc3 hy HO
              generalize foldB (f % 64) (ys.take (k - 1)) = q at HO ⊢
              clear hy hyk hk0
              go_wp2
              go_round
              case rel => exact ⟨k + 1, by omega, by go_num, by rw [HE.out]; exact congrArg (Value.int .u64) HO.out⟩
              case measure => simp [intOf]; omega
          · have hkn : k = nn := by omega
            subst hkn
            have e0 : (if k = 0 then 0 else foldB (f % 64) (ys.take (k - 1))) = foldB (f % 64) ys := by
              rw [if_neg (by omega), List.take_of_length_le (by have := HLL.out; have := HNN.out; omega)]
            rw [e0]
            clear e0
            go_wp2
            go_ret
            refine ⟨fun _ => ⟨ret_u64 (by rw [HYS.out]), ?_⟩, fun hno => absurd (show needs f + 1 ≤ m from by rw [HNN.out]; exact hen) (Nat.not_le.2 hno), HC2.out.undrewN⟩
            rw [HNN.out]
            exact HR2.out
      · have HB := Lib.hid (fun l => rbytes_no (w.drewN l) g T bs at_ 0 (needs f + 1) (hRR l) hT (.inr (by rw [HMM.out]; omega)))
        clear hRR
        have c1 : IntKind.u64.wrap ((needs f + 1 : Nat) : Int) = ((needs f + 1 : Nat) : Int) := IntWalk.u64_in _ (by omega)
        have HEN := Lib.hid hen
        generalize hnn : needs f + 1 = nn at HB c1 ⊢
        have hnn8 : nn ≤ 8 := by omega
        clear hnn hen
        go_wp2
        go_quiet (fail)
        go_wp2_with fail
        refine (HB.out _).mono ?_
        clear hcell hc0 hc1
        rintro e w2 ⟨rfl, hr2, hch2⟩
        have HR2 := Lib.hid hr2
        have HC2 := Lib.hid hch2
        clear hr2 hch2
        go_wp2
        refine wp_loop_rounds 1 ?_
        rw [rounds_succ]
        go_wp2
        go_ret
        exact ⟨fun h => absurd h HEN.out, fun _ => ⟨rfl, HR2.out⟩, HC2.out.undrewN⟩
end Go.Proofs.YtfecmloaopbogaaDoor
