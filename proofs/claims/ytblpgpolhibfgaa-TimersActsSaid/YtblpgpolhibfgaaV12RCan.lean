/- Layer 12 (timers): the document's Cancel. -/
import Derived.Test.YtblpgpolhibfgaaV12RDue
import Derived.Test.YtblpgpolhibfgaaRegionLate
import Derived.Test.YtblpgpolhibfgaaAloc
namespace Go.Proofs.Ytblpgpolhibfgaa
open Go.RowKit

theorem OwnedT.lit0 {w1 : World} {g base : Nat} (h : Row w1 g 27 []) (hb : base ≤ g) : OwnedT w1 base (.slice (some ⟨g, 0, none⟩) 0 0) [] := ⟨rfl, .inr ⟨g, 0, #[], rfl, hb, h, Nat.le_refl _, Nat.zero_le _, by simp, by simp [tcells]⟩⟩

section
variable {o : Oper} {a : Act} {w w0 : World} {K : Act → World → Prop} {Q : Exit → Act → World → Prop}
theorem wp_append_T (s x : Operand) (ho : o.op = .call { callee := .builtin .append, args := #[s, x], argTypes := #[34, 34] }) {base : Nat} {v : Value} {L M : List Tm} {T : Nat → Prop} {A : Option Addr} {m c : Nat}
    (hs : a.eval s = v) (hown : OwnedT w base v L) (hx : a.eval x = .slice A m c) (hv : View w T A (m * 3) (tcells M)) (hlen : L.length + m ≤ 1000000) (hbase : base ≤ w.heap.size) (hc0 : Chg none_ w0 w) (hb0 : w0.heap.size ≤ base)
    (k : ∀ v' w', OwnedT w' base v' (L ++ M) → Chg none_ w0 w' → K (a.put o.dst v') w') : Oper.wp Try.prog o a w K Q := by
  obtain ⟨i0, hi, hz0, hz1, hz2⟩ := infoTm_parts
  have hm : M.length = m := by have := hv.1; rw [tcells_len] at this; omega
  obtain ⟨v', w', hr, h2, h3⟩ := run_append_viewN (P := Try.prog) w 34 o.type 27 i0 _ 3 24 Try.underlying34 hi hz0 hz1 hz2 rfl (by decide) base v L.length (tcells L) hown T A m c (tcells M) hv (tcells_one _) (by unfold maxLen; omega) (by omega) hbase
  unfold Oper.wp execOp
  simp only [ho, resolve, invoke, builtin, Sem.run_bind, Sem.run_pure, Result.andThen_ok, List.map_toArray, List.map_cons, List.map_nil, hs, hx, hr]
  refine k v' w' ?_ (hc0.appendN hb0 hown h3)
  unfold OwnedT
  rw [List.length_append, hm, show tcells (L ++ M) = tcells L ++ tcells M by simp [tcells]]
  exact h2
end

theorem rem_at {k : Int × Int} : ∀ {S : List Tm} {i : Nat}, (S.map Tm.key).Nodup → i < S.length → (tm S i).key = k → remS k S = S.take i ++ S.drop (i + 1)
  | [], _, _, h, _ => by cases h
  | a :: S, 0, hn, _, hk => by
    have hk' : a.key = k := hk
    rw [List.map_cons, List.nodup_cons] at hn
    have h2 : remS k S = S := rem_self (fun x hx e => hn.1 (by rw [hk', ← e]; exact List.mem_map_of_mem hx))
    unfold remS at h2 ⊢
    rw [List.filter_cons_of_neg (by simpa using hk'), h2]
    rfl
  | a :: S, i + 1, hn, hi, hk => by
    rw [List.map_cons, List.nodup_cons] at hn
    have hi' : i < S.length := by simpa using hi
    have hk' : (tm S i).key = k := hk
    have ha : a.key ≠ k := fun e => hn.1 (by rw [e, ← hk']; exact List.mem_map_of_mem (tm_mem hi'))
    have h2 := rem_at hn.2 hi' hk'
    unfold remS at h2 ⊢
    rw [List.filter_cons_of_pos (by simpa using ha), h2]
    rfl

set_option maxRecDepth 100000 in
set_option maxHeartbeats 4000000 in
theorem RCancel_any (r : Nat) (T : Nat → Prop) (S : List Tm) (k : Int × Int) (w : World) (h : RQ w T r S) (hs : S.length ≤ 200) (hn : (S.map Tm.key).Nodup) :
    Calls Try.prog 20 #[.pointer (some ⟨r, 0, none⟩), .int .i64 k.1, .int .i64 k.2] w fun e w' => e = .returned (.bool (findS k S).isSome) ∧ RQ w' (fun b => T b ∨ w.heap.size ≤ b) r (remS k S) ∧ Chg (· = r) w w' := by
  have HH := Lib.hid h
  obtain ⟨A, cap, hr, hcap, hmx, hv⟩ := h
  have c0 : w.cell? ⟨r, 0, none⟩ = some (.slice A S.length cap) := hr.cell 0
  have HRW := Lib.hid hr
  have HRL := Lib.hid hr.lt
  have HV := Lib.hid hv
  clear hv hr
  go_enter Try.func20, Try.ntmps20
  go_wp2
  go_loopw [7] (fun i wr => ∃ j : Nat, i = .int .i64 (j : Int) ∧ j ≤ S.length ∧ (∀ m, m < j → (tm S m).key ≠ k) ∧ w = wr) (fun i _ => S.length - (intOf i).toNat)
  case atStart => exact ⟨0, rfl, Nat.zero_le _, fun m hm => absurd hm (by omega), rfl⟩
  case round =>
    obtain ⟨j, rfl, hj, hm, rfl⟩ := hrel
    by_cases hlt : j < S.length
    · have k1 : (j : Int) < (S.length : Int) := by omega
      have k0 : 0 ≤ (j : Int) := by omega
      obtain ⟨b, o, rfl, _, _, hk⟩ := HV.out.tmAt hlt
      have a1 := hk j hlt 1 _ rfl
      have a2 := hk j hlt 2 _ rfl
      clear hk
      by_cases h1 : (tm S j).conn = k.1
      · have q1 : ((tm S j).conn == k.1) = true := by simpa using h1
        by_cases h2 : (tm S j).kind = k.2
        · have q2 : ((tm S j).kind == k.2) = true := by simpa using h2
          have hkk : (tm S j).key = k := by unfold Tm.key; rw [h1, h2]
          have hfs : (findS k S).isSome = true := by rw [find_at hlt hkk hm]; rfl
          obtain ⟨j1, hj1⟩ : ∃ j1, j1 = j + 1 := ⟨_, rfl⟩
          have hj2 : j1 ≤ S.length := by omega
          have HW1 : Hid (IntKind.i64.wrap ((j : Int) + 1) = (j1 : Int)) := Lib.hid (by rw [hj1]; simp [IntKind.wrap, IntKind.bits, IntKind.signed]; omega)
          have HV1 : Hid (View w T (highN (some ⟨b, o, none⟩) cap) (j * 3) (tcells (S.take j))) := Lib.hid (by
            rw [tcells_take]
            exact (HV.out.highN cap).take (Nat.mul_le_mul_right 3 hj))
          have HV2 : Hid (View w T (dropN (some ⟨b, o, none⟩) cap j1 3) ((S.length - j1) * 3) (tcells (S.drop j1))) := Lib.hid (by
            rw [tcells_drop]
            exact HV.out.dropN hcap)
          obtain ⟨D, hD⟩ : ∃ D, D = [] ++ S.take j ++ S.drop j1 := ⟨_, rfl⟩
          have HDD := Lib.hid hD
          have HFIN : Hid (∀ (x : World) A3 cap3, Chg none_ w x → D.length ≤ cap3 → cap3 ≤ maxLen → View x (fun b => w.heap.size ≤ b) A3 (D.length * 3) (tcells D) →
              RQ (x.setCell ⟨r, 0, none⟩ (.slice A3 D.length cap3)) (fun b => T b ∨ w.heap.size ≤ b) r (remS k S) ∧ Chg (· = r) w (x.setCell ⟨r, 0, none⟩ (.slice A3 D.length cap3))) := Lib.hid (fun x A3 cap3 hc g1 g2 g3 => by
            rw [hD, hj1, List.nil_append, ← rem_at hn hlt hkk] at g1 g3 ⊢
            have hlt' := HRL.out
            exact ⟨⟨A3, cap3, (HRW.out.chg hc (fun h => h)).set 0 _, g1, g2, (g3.setCell ⟨r, 0, none⟩ (fun (h : w.heap.size ≤ r) => by omega) _).mono (fun _ _ h => Or.inr h)⟩, (show Chg (· = r) w x from hc.mono (fun _ _ h => h.elim)).setCell (p := ⟨r, 0, none⟩) (fun _ => rfl) _⟩)
          have HFS := Lib.hid hfs
          clear hj1 hD
          clear h1 h2 hm hkk hfs
          go_wp2
          refine wp_region_late (fun x => Chg none_ w x) 19 (by kernel_rfl) ?_
          have hz : Chg none_ w w.drew := (Chg.refl none_ w).drew
          generalize w.drew = wz at hz ⊢
          refine late_take (i := 0) (v := .pointer (some ⟨r, 0, none⟩)) [17, 18, 19] rfl (by kernel_rfl) (by kernel_rfl) (by kernel_rfl) (by kernel_rfl) (by first | exact fun _ _ _ h => h | exact fun _ _ _ h => nomatch h.1) (Or.inl ⟨by rfl, fun w_ hw_ => by go_simp⟩) hz ?_
          try simp only [Act.put, List.setIfInBounds_toArray, List.set_cons_zero, List.set_cons_succ, List.getElem_toArray, List.getElem_cons_zero]
          refine late_take (i := 2) (v := .pointer (some ⟨r, 0, none⟩)) [3, 4, 5, 7, 8, 16, 19] rfl (by kernel_rfl) (by kernel_rfl) (by kernel_rfl) (by kernel_rfl) (by first | exact fun _ _ _ h => h | exact fun _ _ _ h => nomatch h.1) (Or.inl ⟨by rfl, fun w_ hw_ => by go_simp⟩) hz ?_
          try simp only [Act.put, List.setIfInBounds_toArray, List.set_cons_zero, List.set_cons_succ, List.getElem_toArray, List.getElem_cons_succ, List.getElem_cons_zero]
          refine late_take (i := 3) (v := .pointer (some ⟨r, 0, none⟩)) [4, 5, 7, 8, 16, 19] rfl (by kernel_rfl) (by kernel_rfl) (by kernel_rfl) (by kernel_rfl) (by first | exact fun _ _ _ h => h | exact fun _ _ _ h => nomatch h.1) (Or.inl ⟨by rfl, fun w_ hw_ => by go_simp⟩) hz ?_
          try simp only [Act.put, List.setIfInBounds_toArray, List.set_cons_zero, List.set_cons_succ, List.getElem_toArray, List.getElem_cons_succ, List.getElem_cons_zero]
          refine late_take (i := 4) (v := .pointer (some ⟨r, 0, none⟩)) [5, 7, 8, 16, 19] rfl (by kernel_rfl) (by kernel_rfl) (by kernel_rfl) (by kernel_rfl) (by first | exact fun _ _ _ h => h | exact fun _ _ _ h => nomatch h.1) (Or.inl ⟨by rfl, fun w_ hw_ => by go_simp⟩) hz ?_
          try simp only [Act.put, List.setIfInBounds_toArray, List.set_cons_zero, List.set_cons_succ, List.getElem_toArray, List.getElem_cons_succ, List.getElem_cons_zero]
          refine late_take (i := 5) (v := .slice (some ⟨b, o, none⟩) S.length cap) [7, 8, 16, 19] rfl (by kernel_rfl) (by kernel_rfl) (by kernel_rfl) (by kernel_rfl) (by first | exact fun _ _ _ h => h | exact fun _ _ _ h => nomatch h.1) (Or.inl ⟨by rfl, fun w_ hw_ => by have c0_ := (Chg.cell hw_ 0 HRL.out (fun h => h)).trans c0; go_simp⟩) hz ?_
          try simp only [Act.put, List.setIfInBounds_toArray, List.set_cons_zero, List.set_cons_succ, List.getElem_toArray, List.getElem_cons_succ, List.getElem_cons_zero]
          refine late_take (i := 6) (v := .int .i64 (j : Int)) [7, 8, 16, 19] rfl (by kernel_rfl) (by kernel_rfl) (by kernel_rfl) (by kernel_rfl) (by first | exact fun _ _ _ h => h | exact fun _ _ _ h => nomatch h.1) (Or.inl ⟨by rfl, fun w_ hw_ => by go_simp⟩) hz ?_
          try simp only [Act.put, List.setIfInBounds_toArray, List.set_cons_zero, List.set_cons_succ, List.getElem_toArray, List.getElem_cons_succ, List.getElem_cons_zero]
          refine late_take (i := 7) (v := .slice (highN (some ⟨b, o, none⟩) cap) j cap) [8, 16, 19] rfl (by kernel_rfl) (by kernel_rfl) (by kernel_rfl) (by kernel_rfl) (by first | exact fun _ _ _ h => h | exact fun _ _ _ h => nomatch h.1) (yieldsIf_slice_highN (by rfl) 34 27 _ _ rfl (some ⟨b, o, none⟩) S.length cap j 3 rfl rfl Try.underlying34 sizeTm (by omega)) hz ?_
          try simp only [Act.put, List.setIfInBounds_toArray, List.set_cons_zero, List.set_cons_succ, List.getElem_toArray, List.getElem_cons_succ, List.getElem_cons_zero]
          refine late_take (i := 9) (v := .pointer (some ⟨r, 0, none⟩)) [10, 11, 12, 15, 16, 19] rfl (by kernel_rfl) (by kernel_rfl) (by kernel_rfl) (by kernel_rfl) (by first | exact fun _ _ _ h => h | exact fun _ _ _ h => nomatch h.1) (Or.inl ⟨by rfl, fun w_ hw_ => by go_simp⟩) hz ?_
          try simp only [Act.put, List.setIfInBounds_toArray, List.set_cons_zero, List.set_cons_succ, List.getElem_toArray, List.getElem_cons_succ, List.getElem_cons_zero]
          refine late_take (i := 10) (v := .pointer (some ⟨r, 0, none⟩)) [11, 12, 15, 16, 19] rfl (by kernel_rfl) (by kernel_rfl) (by kernel_rfl) (by kernel_rfl) (by first | exact fun _ _ _ h => h | exact fun _ _ _ h => nomatch h.1) (Or.inl ⟨by rfl, fun w_ hw_ => by go_simp⟩) hz ?_
          try simp only [Act.put, List.setIfInBounds_toArray, List.set_cons_zero, List.set_cons_succ, List.getElem_toArray, List.getElem_cons_succ, List.getElem_cons_zero]
          refine late_take (i := 11) (v := .pointer (some ⟨r, 0, none⟩)) [12, 15, 16, 19] rfl (by kernel_rfl) (by kernel_rfl) (by kernel_rfl) (by kernel_rfl) (by first | exact fun _ _ _ h => h | exact fun _ _ _ h => nomatch h.1) (Or.inl ⟨by rfl, fun w_ hw_ => by go_simp⟩) hz ?_
          try simp only [Act.put, List.setIfInBounds_toArray, List.set_cons_zero, List.set_cons_succ, List.getElem_toArray, List.getElem_cons_succ, List.getElem_cons_zero]
          refine late_take (i := 12) (v := .slice (some ⟨b, o, none⟩) S.length cap) [15, 16, 19] rfl (by kernel_rfl) (by kernel_rfl) (by kernel_rfl) (by kernel_rfl) (by first | exact fun _ _ _ h => h | exact fun _ _ _ h => nomatch h.1) (Or.inl ⟨by rfl, fun w_ hw_ => by have c0_ := (Chg.cell hw_ 0 HRL.out (fun h => h)).trans c0; go_simp⟩) hz ?_
          try simp only [Act.put, List.setIfInBounds_toArray, List.set_cons_zero, List.set_cons_succ, List.getElem_toArray, List.getElem_cons_succ, List.getElem_cons_zero]
          refine late_take (i := 13) (v := .int .i64 (j : Int)) [14, 15, 16, 19] rfl (by kernel_rfl) (by kernel_rfl) (by kernel_rfl) (by kernel_rfl) (by first | exact fun _ _ _ h => h | exact fun _ _ _ h => nomatch h.1) (Or.inl ⟨by rfl, fun w_ hw_ => by go_simp⟩) hz ?_
          try simp only [Act.put, List.setIfInBounds_toArray, List.set_cons_zero, List.set_cons_succ, List.getElem_toArray, List.getElem_cons_succ, List.getElem_cons_zero]
          refine late_take (i := 14) (v := .int .i64 (j1 : Int)) [15, 16, 19] rfl (by kernel_rfl) (by kernel_rfl) (by kernel_rfl) (by kernel_rfl) (by first | exact fun _ _ _ h => h | exact fun _ _ _ h => nomatch h.1) (Or.inl ⟨by rfl, fun w_ hw_ => by have hw1 := HW1.out; go_simp⟩) hz ?_
          try simp only [Act.put, List.setIfInBounds_toArray, List.set_cons_zero, List.set_cons_succ, List.getElem_toArray, List.getElem_cons_succ, List.getElem_cons_zero]
          refine late_take (i := 15) (v := .slice (dropN (some ⟨b, o, none⟩) cap j1 3) (S.length - j1) (cap - j1)) [16, 19] rfl (by kernel_rfl) (by kernel_rfl) (by kernel_rfl) (by kernel_rfl) (by first | exact fun _ _ _ h => h | exact fun _ _ _ h => nomatch h.1) (yieldsIf_slice_lowN (by rfl) 34 27 _ _ rfl (some ⟨b, o, none⟩) S.length cap j1 3 rfl rfl Try.underlying34 sizeTm (by omega)) hz ?_
          try simp only [Act.put, List.setIfInBounds_toArray, List.set_cons_zero, List.set_cons_succ, List.getElem_toArray, List.getElem_cons_succ, List.getElem_cons_zero]
          refine late_one (i := 1) (by kernel_rfl) rfl (fun K hK => ?_)
          rw [if_pos (by rfl)]
          try simp only [List.getElem_toArray, List.getElem_cons_succ, List.getElem_cons_zero]
          refine wp_new_row (v := fun g => .slice (some ⟨g, 0, none⟩) 0 0) (e := 27) (cs := []) (fun w_ => by go_simp) ?_
          intro x1 hr_x1 hc_x1 hs_x1
          have h1 : Chg none_ w x1 := hz.trans hc_x1
          have o1 : OwnedT x1 w.heap.size (.slice (some ⟨wz.heap.size, 0, none⟩) 0 0) [] := OwnedT.lit0 hr_x1 hz.size
          clear hr_x1 hc_x1 hs_x1
          refine hK.out _ _ h1 ?_
          clear hK K
          try simp only [Act.put, List.setIfInBounds_toArray, List.set_cons_zero, List.set_cons_succ]
          refine late_one (i := 8) (by kernel_rfl) rfl (fun K hK => ?_)
          rw [if_pos (by rfl)]
          try simp only [List.getElem_toArray, List.getElem_cons_succ, List.getElem_cons_zero]
          refine wp_append_T (.tmp 40) (.tmp 46) rfl (base := w.heap.size) (L := []) (M := S.take j) (T := T) (A := highN (some ⟨b, o, none⟩) cap) (m := j) (c := cap) (w0 := w) rfl o1 rfl ((HV1.out.chg h1 (fun _ _ h => h))) (by simp; omega) h1.size h1 (Nat.le_refl _) ?_
          intro v2 x2 o2 h2
          refine hK.out _ _ h2 ?_
          clear hK K
          try simp only [Act.put, List.setIfInBounds_toArray, List.set_cons_zero, List.set_cons_succ]
          refine late_one (i := 16) (by kernel_rfl) rfl (fun K hK => ?_)
          rw [if_pos (by rfl)]
          try simp only [List.getElem_toArray, List.getElem_cons_succ, List.getElem_cons_zero]
          refine wp_append_T (.tmp 47) (.tmp 54) rfl (base := w.heap.size) (L := [] ++ S.take j) (M := S.drop j1) (T := T) (A := dropN (some ⟨b, o, none⟩) cap j1 3) (m := (S.length - j1)) (c := (cap - j1)) (w0 := w) rfl o2 rfl ((HV2.out.chg h2 (fun _ _ h => h))) (by simp; omega) h2.size h2 (Nat.le_refl _) ?_
          intro v3 x3 o3 h3
          refine hK.out _ _ h3 ?_
          clear hK K
          try simp only [Act.put, List.setIfInBounds_toArray, List.set_cons_zero, List.set_cons_succ]
          rw [← HDD.out] at o3
          refine late_take (i := 17) (v := .pointer (some ⟨r, 0, none⟩)) [18, 19] rfl (by kernel_rfl) (by kernel_rfl) (by kernel_rfl) (by kernel_rfl) (by first | exact fun _ _ _ h => h | exact fun _ _ _ h => nomatch h.1) (Or.inl ⟨by rfl, fun w_ hw_ => by go_simp⟩) h3 ?_
          try simp only [Act.put, List.setIfInBounds_toArray, List.set_cons_zero, List.set_cons_succ, List.getElem_toArray, List.getElem_cons_succ, List.getElem_cons_zero]
          refine late_take (i := 18) (v := .pointer (some ⟨r, 0, none⟩)) [19] rfl (by kernel_rfl) (by kernel_rfl) (by kernel_rfl) (by kernel_rfl) (by first | exact fun _ _ _ h => h | exact fun _ _ _ h => nomatch h.1) (Or.inl ⟨by rfl, fun w_ hw_ => by go_simp⟩) h3 ?_
          try simp only [Act.put, List.setIfInBounds_toArray, List.set_cons_zero, List.set_cons_succ, List.getElem_toArray, List.getElem_cons_succ, List.getElem_cons_zero]
          obtain ⟨A3, cap3, rfl, g1, g2, g3⟩ := OwnedT.view o3
          have cr := (h3.cell 0 HRL.out (fun h => h)).trans c0
          have fr := (HRW.out.chg h3 (fun h => h)).frozen 0
          have HFX := Lib.hid (HFIN.out _ _ _ h3 g1 g2 g3)
          clear o1 o2 o3 g1 g2 g3 hz h1 h2
          refine late_last (by kernel_rfl) rfl (by kernel_rfl) (fun K hK => ?_)
          rw [if_pos (by rfl)]
          try simp only [List.getElem_toArray, List.getElem_cons_succ, List.getElem_cons_zero]
          go_simp
          refine hK.out _ _ ?_
          clear hK K
          try simp only [Act.put, List.setIfInBounds_toArray, List.set_cons_zero, List.set_cons_succ, List.getElem_toArray, List.getElem_cons_succ, List.getElem_cons_zero]
          clear cr fr c0
          go_wp2
          go_ret
          exact ⟨ret_bool HFS.out.symm, HFX.out.1, HFX.out.2⟩
        · have q2 : ((tm S j).kind == k.2) = false := by simpa using h2
          have HM : Hid (∀ m, m < j + 1 → (tm S m).key ≠ k) := Lib.hid (fun m hm' => by
            rcases Nat.lt_or_ge m j with h | h
            · exact hm m h
            · rw [show m = j from by omega]; exact fun e => h2 (congrArg Prod.snd e))
          clear h1 h2 hm
          go_wp2
          go_roundw
          case rel => exact ⟨j + 1, by go_num, by omega, HM.out, trivial⟩
          case measure => simp [intOf]; omega
      · have q1 : ((tm S j).conn == k.1) = false := by simpa using h1
        have HM : Hid (∀ m, m < j + 1 → (tm S m).key ≠ k) := Lib.hid (fun m hm' => by
          rcases Nat.lt_or_ge m j with h | h
          · exact hm m h
          · rw [show m = j from by omega]; exact fun e => h1 (congrArg Prod.fst e))
        clear h1 hm
        go_wp2
        go_roundw
        case rel => exact ⟨j + 1, by go_num, by omega, HM.out, trivial⟩
        case measure => simp [intOf]; omega
    · have hje : j = S.length := by omega
      subst hje
      have HE : Hid (findS k S = none) := Lib.hid (find_out hm)
      have HS : Hid (remS k S = S) := Lib.hid (rem_self (fun x hx e => by
        obtain ⟨i, hi, e2⟩ := List.mem_iff_getElem.1 hx
        refine hm i hi ?_
        unfold tm
        rw [List.getD_eq_getElem?_getD, List.getElem?_eq_getElem hi]
        show (S[i]).key = k
        rw [e2]; exact e))
      clear hm hj hlt
      go_wp2
      go_ret
      exact ⟨ret_bool (by rw [HE.out]; rfl), by rw [HS.out]; exact HH.out.mono (fun _ _ h => Or.inl h), Chg.refl _ _⟩
end Go.Proofs.Ytblpgpolhibfgaa
