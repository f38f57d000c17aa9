/- Layer 5 (params): the law ParamsOrder. -/
import Derived.Test.YtgdkfeifijkknaaDoorV5OrderMath
import Derived.Test.YtgdkfeifijkknaaDoorV5Twice
import Derived.Test.YtgdkfeifijkknaaDoorV5PutG
namespace Go.Proofs.YtgdkfeifijkknaaDoor
open Go.RowKit

theorem infoS : (Tryd.prog.info? 29).map (fun i => (i.zero, i.size, i.bytes)) = some (some (.slice none 0 0), 1, 24) := by kernel_rfl
theorem drop_flat {P : List (List Nat)} {k : Nat} (hk : k < P.length) : (P.drop k).flatten = P.getD k [] ++ (P.drop (k + 1)).flatten := by
  rw [List.drop_eq_getElem_cons hk]
  simp only [List.flatten_cons, List.getD_eq_getElem?_getD, List.getElem?_eq_getElem hk, Option.getD_some]

/-- The parts, one by one, from the k-th on, and round. -/
theorem rot_get (P : List (List Nat)) (i k : Nat) (hi : i < P.length) : (P.drop (k % P.length) ++ P.take (k % P.length)).getD i [] = P.getD ((i + k) % P.length) [] := by
  have hj : k % P.length < P.length := Nat.mod_lt _ (by omega)
  have hm : (i + k) % P.length = (i + k % P.length) % P.length := by simp [Nat.add_mod]
  rw [hm]
  generalize k % P.length = j at *
  simp only [List.getD_eq_getElem?_getD]
  by_cases h : i < P.length - j
  · rw [List.getElem?_append_left (by rw [List.length_drop]; exact h), List.getElem?_drop, Nat.mod_eq_of_lt (by omega), Nat.add_comm j i]
  · rw [List.getElem?_append_right (by rw [List.length_drop]; omega), List.length_drop, List.getElem?_take, if_pos (by omega)]
    have : (i + j) % P.length = i - (P.length - j) := by
      rw [Nat.mod_eq_sub_mod (by omega), Nat.mod_eq_of_lt (by omega)]; omega
    rw [this]
theorem take_flat {Q : List (List Nat)} {i : Nat} (hi : i < Q.length) : (Q.take (i + 1)).flatten = (Q.take i).flatten ++ Q.getD i [] := by
  rw [List.take_succ_eq_append_getElem hi, List.flatten_append]
  simp only [List.flatten_cons, List.flatten_nil, List.append_nil, List.getD_eq_getElem?_getD, List.getElem?_eq_getElem hi, Option.getD_some]
theorem flat_le {P : List (List Nat)} {i : Nat} (h : ∀ q ∈ P, ∃ c v, q = c :: List.length v :: v ∧ v.length ≤ 16) : (P.getD i []).length ≤ 18 := by
  rcases Nat.lt_or_ge i P.length with hlt | hge
  · obtain ⟨c, v, e, hv⟩ := h (P.getD i []) (by simp [List.getD_eq_getElem?_getD, hlt])
    rw [e]; simp; omega
  · simp [List.getD_eq_getElem?_getD, hge]

/-- The parts, as slices that lie in w. -/
def PartsIn (w : World) (P : List (List Nat)) (vs : List Value) : Prop := ∀ i, i < vs.length → ∃ A c, vs[i]? = some (.slice A (P.getD i []).length c) ∧ View w (fun _ => True) A (P.getD i []).length (u8s (P.getD i []))
theorem PartsIn.snoc {w : World} {P : List (List Nat)} {vs : List Value} (h : PartsIn w P vs) {A : Option Addr} {c : Nat} (hv : View w (fun _ => True) A (P.getD vs.length []).length (u8s (P.getD vs.length []))) : PartsIn w P (vs ++ [.slice A (P.getD vs.length []).length c]) := by
  intro i hi
  rw [List.length_append, List.length_singleton] at hi
  rcases Nat.lt_or_ge i vs.length with hlt | hge
  · obtain ⟨A', c', h1, h2⟩ := h i hlt
    exact ⟨A', c', by rw [List.getElem?_append_left hlt]; exact h1, h2⟩
  · obtain rfl : i = vs.length := by omega
    exact ⟨A, c, by rw [List.getElem?_append_right (Nat.le_refl _)]; simp, hv⟩

set_option maxRecDepth 100000 in
set_option maxHeartbeats 2000000 in
theorem order_yes (p : Pm) (k : Nat) (hk256 : k < 256) (W : World) (o : p.Ok) (hT : Tab W) (hmay : mayB p = true) (hne : partsP p ≠ []) : Calls Tryd.prog 6 #[aggP p, .int .u8 k] W fun e w' => e = .returned (.bool true) ∧ Chg none_ W w' := by
  have HLp := Lib.hid (cP_len p o.tok)
  have HC0 := Lib.hid ((Chg.refl none_ W).alloc (.cells (cellsP p).toArray 25))
  have HXp := Lib.hid (fun w' (hc : Chg none_ (W.alloc (.cells (cellsP p).toArray 25)) w') => (Row.new W 25 (cellsP p)).chg hc (fun h => h))
  have HAL := Lib.hid (alive_any _ (hT.chg HC0.out (fun h => h)))
  have HTX := Lib.hid (fun w' (hc : Chg none_ (W.alloc (.cells (cellsP p).toArray 25)) w') => (hT.chg HC0.out (fun h => h)).chg hc (fun h => h))
  have HMp := Lib.hid (fun w => may_any p o.tok w)
  simp only [hmay] at HMp
  have HPp := Lib.hid (fun w hT => putP_got p w o.tok hT)
  have eL : putP p = (partsP p).flatten := by unfold putP; rw [hmay, if_pos rfl, bytes_parts]
  rw [eL] at HPp
  have hlt := putP_lt p o
  have hll := putP_len p o.tok
  rw [eL] at hlt hll
  have HLT := Lib.hid hlt
  have HLL := Lib.hid hll
  have HSH := Lib.hid (part_shape p o.tok)
  have HROT := Lib.hid (parts_rot p hmay o.tok)
  have hn5 := parts_len p
  have hn0 : 0 < (partsP p).length := List.length_pos_iff.2 hne
  have HPE := Lib.hid (pm_eql p p o o)
  rw [decide_eq_true rfl] at HPE
  clear o hT hmay hne eL hlt hll
  unfold aggP at *
  generalize partsP p = P at *
  obtain ⟨L, hL⟩ : ∃ L, P.flatten = L := ⟨_, rfl⟩
  rw [hL] at HPp HLT HLL
  have hLpos : 0 < L.length := by
    rw [← hL]
    cases P with
    | nil => simp at hn0
    | cons q r =>
      obtain ⟨c, v, e, _⟩ := HSH.out q (by simp)
      rw [List.flatten_cons, e]; simp
  have hl0 : ((L.length : Int) == 0) = false := by simp; intro e; rw [e] at hLpos; simp at hLpos
  have HLE := Lib.hid hL
  clear hL
  have hl200 := HLL.out
  obtain ⟨i0, hi, hz0, hz1, hz2⟩ := info_parts infoS
  go_enter Tryd.func6, Tryd.ntmps6
  go_wp2_with (first | ((with_reducible show wpList _ _ _ (⟨_, .load 25 (.tmp 2), _, _, _, _⟩ :: _) _ _); refine wlP rfl rfl rfl (HXp.out _ (by assumption)) HLp.out ?_) | (go_at_call 9; refine HAL.out.mono ?_; rintro e w1 ⟨rfl, hc1⟩) | (go_at_call 13; refine (HPp.out _ (HTX.out _ hc1)).mono ?_; rintro e w2 ⟨A2, k2, rfl, hf2, hm2⟩; have hc2 := hc1.trans hm2) | (go_at_call 10; refine (HMp.out _).mono ?_; rintro e w3 ⟨rfl, hm3⟩; have hc3 := hc2.trans hm3))
  have HC3 := Lib.hid hc3
  have HV3 := Lib.hid ((hf2.view.chg hm3 (fun _ _ h => h)).mono (T' := fun _ => True) (fun _ _ _ => trivial))
  have hk2 : L.length ≤ k2 := by
    obtain ⟨A', c', e, h1, _⟩ := View.own (T := fun _ => True) hf2.own (fun _ _ => trivial)
    injection e with _ _ e3
    omega
  clear hc1 hc2 hc3 hm2 hm3 hf2
  go_loopw [5, 6] (fun b ps wr => ∃ (kk : Nat) (A : Option Addr) (c : Nat) (vs : List Value), kk ≤ P.length ∧ vs.length = kk ∧ b = .slice A (P.drop kk).flatten.length c ∧ (P.drop kk).flatten.length ≤ c ∧ View w3 (fun _ => True) A (P.drop kk).flatten.length (u8s (P.drop kk).flatten) ∧ wr.ownsRow w3.heap.size 29 1 ps kk vs ∧ Hid (PartsIn w3 P vs) ∧ Chg none_ w3 wr) (fun b _ _ => match b with | .slice _ n _ => n | _ => 0)
  case atStart =>
    refine ⟨0, A2, k2, [], Nat.zero_le _, rfl, by rw [List.drop_zero, HLE.out], by rw [List.drop_zero, HLE.out]; exact hk2, by rw [List.drop_zero, HLE.out]; exact HV3.out, World.ownsRow_nil _ _ _ _, fun i hi => absurd hi (by simp), Chg.refl _ _⟩
  case round =>
    obtain ⟨kk, A, c, vs, hkk, hvs, rfl, hcap, hv, hown, hpi, hch⟩ := hrel
    by_cases hlt : kk < P.length
    · have hdf := drop_flat hlt
      obtain ⟨c1, v, hq, hv16⟩ := HSH.out (P.getD kk []) (by simp [List.getD_eq_getElem?_getD, hlt])
      have hql : (P.getD kk []).length = 2 + v.length := by rw [hq]; simp; omega
      have hrl : (P.drop kk).flatten.length = 2 + v.length + (P.drop (kk + 1)).flatten.length := by rw [hdf, List.length_append, hql]
      obtain ⟨b, o, rfl, hbl, _, hbc⟩ := hv.2 (by omega)
      have h1 := (hch.cell (o + 1) hbl (fun h => h)).trans (hbc 1 (by omega))
      have h2 : (u8s (P.drop kk).flatten)[1]? = some (.int .u8 ((v.length : Nat) : Int)) := by
        rw [hdf, hq]; rfl
      rw [h2] at h1
      have HV := Lib.hid hv
      have HPI := hpi
      have HOWN := Lib.hid hown
      have HCH := Lib.hid hch
      have HDF := Lib.hid hdf
      have HQL := Lib.hid hql
      have HVS := Lib.hid hvs
      have hpos2 : 0 < (P.drop kk).flatten.length := by omega
      have hrl2 : 2 + v.length ≤ (P.drop kk).flatten.length := by omega
      have HRL := Lib.hid hrl
      clear hv hpi hown hch hdf hq hql hvs hbc h2 hrl
      generalize v.length = vl at *
      generalize (P.drop kk).flatten = rest at *
      obtain ⟨rl, hrlen⟩ : ∃ rl, rest.length = rl := ⟨_, rfl⟩
      have HRN := Lib.hid hrlen
      rw [hrlen] at hcap hpos2 hrl2 ⊢
      clear hrlen
      have ha1 : (0 : Int) ≤ 2 + (vl : Int) := by omega
      have ha2 : (2 : Int) + (vl : Int) ≤ (c : Int) := by omega
      have ha3 : (2 : Int) + (vl : Int) ≤ (rl : Int) := by omega
      have hb1 : (1 : Int) < (rl : Int) := by omega
      have hl' : (P.drop (kk + 1)).flatten.length = rl - (2 + vl) := by have := HRL.out; have := HRN.out; omega
      have hVq : View w3 (fun _ => True) (some ⟨b, o, none⟩) (P.getD kk []).length (u8s (P.getD kk [])) := by
        have := HV.out.take (k := 2 + vl) (by have := HRN.out; omega)
        rw [u8s_take, HDF.out, ← HQL.out, List.take_left] at this
        exact this
      have hVr : View w3 (fun _ => True) ((some ⟨b, o, none⟩ : Option Addr).map (·.add (2 + vl))) (rl - (2 + vl)) (u8s (P.drop (kk + 1)).flatten) := by
        have := HV.out.drop (k := 2 + vl)
        rw [HRN.out, u8s_drop, HDF.out, ← HQL.out, List.drop_left, HQL.out] at this
        exact this
      have HVQ := Lib.hid hVq
      have HVR := Lib.hid hVr
      have HL2 := Lib.hid hl'
      clear hl' hVq hVr
      have hch1 : Chg none_ wr (wr.alloc (.cells [Value.slice (some ⟨b, o, none⟩) (2 + vl) c].toArray 29)) := (Chg.refl none_ wr).alloc _
      have HO1 := Lib.hid (own_chg HOWN.out hch1 (fun _ _ h => h))
      have HC1 := Lib.hid (HCH.out.trans hch1)
      have HVW := Lib.hid (View.row (T := fun _ => True) (Row.new wr 29 [Value.slice (some ⟨b, o, none⟩) (2 + vl) c]) (n := 1) (Nat.le_refl _) trivial)
      clear hch1
      have hkk5 : kk ≤ 5 := by omega
      go_wp2_with (at_builtin; refine wpList_append_view rfl _ _ 40 rfl 29 i0 _ 24 Tryd.underlying40 hi hz0 hz1 hz2 rfl w3.heap.size _ kk vs rfl HO1.out (fun _ => True) (some ⟨wr.heap.size, 0, none⟩) 1 1 [Value.slice (some ⟨b, o, none⟩) (2 + vl) c] rfl HVW.out (by intro u hu; simp at hu; subst hu; rfl) (by unfold maxLen; omega) (by omega) HC1.out.size ?_; intro v6 w6 hown6 hgrow6 hob6; have hc6 := HC1.out.append (Nat.le_refl _) HO1.out hgrow6; have HOWN6 := Lib.hid hown6; have HC6 := Lib.hid hc6; clear hown6 hc6 hgrow6 hob6)
      go_roundw
      case rel =>
        refine ⟨kk + 1, _, c - (2 + vl), vs ++ [Value.slice (some ⟨b, o, none⟩) (2 + vl) c], by omega, by rw [List.length_append, HVS.out]; rfl, by rw [HL2.out], by rw [HL2.out]; omega, ?_, HOWN6.out, ?_, HC6.out⟩
        · by_cases he : c = 2 + vl
          · have h0 : (P.drop (kk + 1)).flatten.length = 0 := by rw [HL2.out]; omega
            exact ⟨by simp, fun h => absurd h (by omega)⟩
          · rw [if_neg he, HL2.out]
            have := HVR.out
            simpa [addr_add] using this
        · have hq2 := HQL.out
          have hq3 := HVQ.out
          have := HPI.out.snoc (A := some ⟨b, o, none⟩) (c := c) (by rw [HVS.out]; exact hq3)
          rw [HVS.out, hq2] at this
          exact this
      case measure =>
        show rl - (2 + vl) < rl
        omega
    · have hke : kk = P.length := by omega
      subst hke
      rw [List.drop_length] at hv ⊢
      simp only [List.flatten_nil, List.length_nil]
      have HPI := hpi
      have HCH := Lib.hid hch
      have HVS := Lib.hid hvs
      obtain ⟨Ap, cp, rfl, hcp, _, hvp⟩ := View.own (T := fun _ => True) hown (fun _ _ => trivial)
      have hvp0 := hvp
      clear hv hown hch hvs hcap hvp
      have HFL : Hid (∀ i, (P.getD i []).length ≤ 18) := fun i => flat_le (i := i) HSH.out
      obtain ⟨bp, op, rfl, hbp, _, hcpp⟩ := hvp0.2 (by omega)
      have HBP := Lib.hid hbp
      have HCPP := Lib.hid hcpp
      clear hbp hcpp hvp0
      have HC4 := Lib.hid (HC3.out.trans HCH.out)
      obtain ⟨Q, hQ⟩ : ∃ Q, P.drop (k % P.length) ++ P.take (k % P.length) = Q := ⟨_, rfl⟩
      have hQl : Q.length = P.length := by rw [← hQ, List.length_append, List.length_drop, List.length_take]; have : k % P.length < P.length := Nat.mod_lt _ hn0; omega
      have HQ := Lib.hid hQ
      have HQL := Lib.hid hQl
      have hnz : ((P.length : Int) == 0) = false := by simp; intro e; rw [e] at hn0; simp at hn0
      clear hQ hQl
      obtain ⟨j0, hi', hz0', hz1', hz2'⟩ := info_parts info5
      go_wp2
      generalize wr = W4 at *
      go_loopw [8, 9] (fun al ii wq => ∃ i : Nat, i ≤ P.length ∧ ii = .int .i64 i ∧ wq.ownsRow W4.heap.size 5 1 al (Q.take i).flatten.length (u8s (Q.take i).flatten) ∧ Hid ((Q.take i).flatten.length ≤ 18 * i) ∧ Chg none_ W4 wq) (fun _ ii _ => P.length - (intOf ii).toNat)
      case atStart => exact ⟨0, Nat.zero_le _, rfl, World.ownsRow_nil _ _ _ _, Nat.zero_le _, Chg.refl _ _⟩
      case round =>
        obtain ⟨i, hi5, rfl, hown, hbd, hch⟩ := hrel
        by_cases hlt : i < P.length
        · have hr : (i + k) % P.length < P.length := Nat.mod_lt _ hn0
          obtain ⟨A', c', hval, hvw⟩ := HPI.out ((i + k) % P.length) (by rw [HVS.out]; exact hr)
          have hcell := ((hch.cell (op + (i + k) % P.length) HBP.out (fun h => h)).trans (HCPP.out _ hr)).trans hval
          have HQ2 : Hid ((Q.take (i + 1)).flatten = (Q.take i).flatten ++ P.getD ((i + k) % P.length) []) := by
            show _ = _
            rw [take_flat (Q := Q) (i := i) (by rw [HQL.out]; exact hlt), ← rot_get P i k hlt, HQ.out]
          have h18 := HFL.out ((i + k) % P.length)
          have HB := hbd
          have hbd2 := hbd.out
          have HOWN := Lib.hid hown
          have HCQ := Lib.hid hch
          have HVW := Lib.hid ((hvw.chg (HCH.out.trans hch) (fun _ _ h => h)))
          have HR := Lib.hid hr
          have hsz := hch.size
          clear hval hvw hown hch hbd
          generalize P.getD ((i + k) % P.length) [] = q at *
          obtain ⟨r, hrr⟩ : ∃ r, (i + k) % P.length = r := ⟨_, rfl⟩
          have HRR := Lib.hid hrr
          rw [hrr] at hcell hr
          have hmod : ((i : Int) + (k : Int)) % (P.length : Int) = (r : Int) := by rw [← hrr]; simp
          clear hrr
          have hr0 : (0 : Int) ≤ (r : Int) := by omega
          have hr1 : (r : Int) < (P.length : Int) := by omega
          have hi5' : (Q.take i).flatten.length ≤ 90 := by omega
          have HBD := Lib.hid hbd2
          clear hbd2
          generalize hal : (Q.take i).flatten = al at *
          have HAL2 := Lib.hid hal
          clear hal
          go_wp2_with (at_builtin; refine wpList_append_view rfl _ _ 29 rfl 5 j0 _ 1 Tryd.underlying29 hi' hz0' hz1' hz2' rfl W4.heap.size _ al.length (u8s al) rfl HOWN.out (fun _ => True) A' q.length c' (u8s q) rfl HVW.out (u8s_one _) (by unfold maxLen; omega) (by omega) hsz ?_; intro v6 w6 hown6 hgrow6 hob6; have hc6 := HCQ.out.append (Nat.le_refl _) HOWN.out hgrow6; rw [u8s_append] at hown6; have HOWN6 := Lib.hid hown6; have HC6 := Lib.hid hc6; clear hown6 hc6 hgrow6 hob6)
          go_roundw
          case rel =>
            refine ⟨i + 1, by omega, by go_num, ?_, ?_, HC6.out⟩
            · rw [HQ2.out, List.length_append]; exact HOWN6.out
            · show _ ≤ _
              rw [HQ2.out, List.length_append]
              have := HBD.out
              omega
          case measure => simp [intOf]; omega
        · have hie : i = P.length := by omega
          have HB := hbd
          have HOWN := Lib.hid hown
          have HCQ := Lib.hid hch
          have HIE := Lib.hid hie
          have hnl : ¬ (i : Int) < (P.length : Int) := by omega
          have hbd2 : (Q.take i).flatten.length ≤ 90 := by have := hbd.out; omega
          clear hown hch hbd hie
          obtain ⟨At, ct, rfl, _, _, hvt⟩ := View.own (T := fun _ => True) HOWN.out (fun _ _ => trivial)
          have hQt : (Q.take i).flatten = (P.drop (k % P.length) ++ P.take (k % P.length)).flatten := by rw [HIE.out, List.take_of_length_le (by rw [HQL.out]; exact Nat.le_refl _), HQ.out]
          have HRD := Lib.hid (pread_any wr (fun _ => True) At ct (Q.take i).flatten hvt (by omega) (fun x hx => by
            rw [hQt] at hx
            obtain ⟨q, hq, hxq⟩ := List.mem_flatten.1 hx
            have hqP : q ∈ P := by
              rcases List.mem_append.1 hq with h | h
              · exact List.mem_of_mem_drop h
              · exact List.mem_of_mem_take h
            exact HLT.out x (by rw [← HLE.out]; exact List.mem_flatten.2 ⟨q, hqP, hxq⟩)))
          rw [hQt, HROT.out, ← hQt] at HRD
          clear hQt hvt
          generalize hT8 : (Q.take i).flatten = T8 at *
          go_wp2_with fail
          refine HRD.out.mono ?_
          rintro e w8 ⟨rfl, _, hc8⟩
          have HC8 := Lib.hid hc8
          clear hc8 HRD
          unfold aggP
          simp only
          have HX4 := Lib.hid (fun w' (hc : Chg none_ w8 w') => HXp.out w' (((HC4.out.trans HCQ.out).trans HC8.out).trans hc))
          have hpe := HPE.out
          go_wp2_with (first | ((with_reducible show wpList _ _ _ (⟨_, .store 25 _ _, _, _, _, _⟩ :: _) _ _); refine wpList_store_Row (xs := cellsP p) rfl rfl rfl (Row.new w8 25 (cellsP {})) rfl HLp.out (by rw [HLp.out]; exact sizeP) (cellsA_one _) ?_; intro w9 hr9 hch9 hs9; have hc9 := hch9 none_ w8 ((Chg.refl none_ w8).alloc _) (fun h => absurd h (by omega)); clear hch9 hs9) | ((with_reducible show wpList _ _ _ (⟨_, .load 25 (.tmp 10), _, _, _, _⟩ :: _) _ _); refine wlP rfl rfl rfl hr9 HLp.out ?_) | ((with_reducible show wpList _ _ _ (⟨_, .load 25 (.tmp 2), _, _, _, _⟩ :: _) _ _); refine wlP rfl rfl rfl (HX4.out _ (by assumption)) HLp.out ?_))
          go_ret
          exact ⟨rfl, (((HC0.out.trans HC4.out).trans HCQ.out).trans HC8.out).trans hc9⟩

set_option maxRecDepth 100000 in
set_option maxHeartbeats 2000000 in
theorem order_no (p : Pm) (k : Nat) (W : World) (o : p.Ok) (hT : Tab W) (hL : putP p = []) : Calls Tryd.prog 6 #[aggP p, .int .u8 k] W fun e w' => e = .returned (.bool true) ∧ Chg none_ W w' := by
  have HLp := Lib.hid (cP_len p o.tok)
  have HC0 := Lib.hid ((Chg.refl none_ W).alloc (.cells (cellsP p).toArray 25))
  have HXp := Lib.hid (fun w' (hc : Chg none_ (W.alloc (.cells (cellsP p).toArray 25)) w') => (Row.new W 25 (cellsP p)).chg hc (fun h => h))
  have HAL := Lib.hid (alive_any _ (hT.chg HC0.out (fun h => h)))
  have HTX := Lib.hid (fun w' (hc : Chg none_ (W.alloc (.cells (cellsP p).toArray 25)) w') => (hT.chg HC0.out (fun h => h)).chg hc (fun h => h))
  have HMp := Lib.hid (fun w => may_any p o.tok w)
  have HPp := Lib.hid (fun w hT => putP_any p w o.tok hT)
  rw [hL] at HPp
  clear o hT hL
  unfold aggP at *
  generalize mayB p = m at *
  generalize cellsP p = cs at *
  cases m
  all_goals
    go_enter Tryd.func6, Tryd.ntmps6
    go_wp2_with (first | ((with_reducible show wpList _ _ _ (⟨_, .load 25 (.tmp 2), _, _, _, _⟩ :: _) _ _); refine wlP rfl rfl rfl (HXp.out _ (by assumption)) HLp.out ?_) | (go_at_call 9; refine HAL.out.mono ?_; rintro e w1 ⟨rfl, hc1⟩) | (go_at_call 13; refine (HPp.out _ (HTX.out _ hc1)).mono ?_; rintro e w2 ⟨A2, k2, rfl, hv2, hm2⟩; have hc2 := hc1.trans hm2) | (go_at_call 10; refine (HMp.out _).mono ?_; rintro e w3 ⟨rfl, hm3⟩; have hc3 := hc2.trans hm3))
    go_ret
    exact ⟨rfl, HC0.out.trans hc3⟩

theorem order_walk (p : Pm) (k : Int) (W : World) (o : p.Ok) (wk : (Lit.int .u8 k).wf = true) (hT : Tab W) : Calls Tryd.prog 6 #[aggP p, .int .u8 k] W fun e w' => e = .returned (.bool true) ∧ Chg none_ W w' := by
  obtain ⟨n, rfl, hn⟩ := nat_u8 wk
  by_cases hL : putP p = []
  · exact order_no p n W o hT hL
  · have hm : mayB p = true := by
      cases hm : mayB p
      · exact absurd (by unfold putP; rw [hm]; rfl) hL
      · rfl
    refine order_yes p n hn W o hT hm ?_
    intro h
    apply hL
    unfold putP
    rw [hm, if_pos rfl, bytes_parts, h]
    rfl
end Go.Proofs.YtgdkfeifijkknaaDoor
