/- Layer 12 (timers): the document's Due and Drop. -/
import Derived.Test.YtblpgpolhibfgaaV12RQ
import Derived.Test.YtblpgpolhibfgaaSliceN
import Derived.Test.YtblpgpolhibfgaaRes
namespace Go.Proofs.Ytblpgpolhibfgaa
open Go.RowKit

theorem tcells_drop (S : List Tm) (k : Nat) : tcells (S.drop k) = (tcells S).drop (k * 3) := by
  induction S generalizing k with
  | nil => simp [tcells]
  | cons a S ih =>
    cases k with
    | zero => simp
    | succ k =>
      rw [List.drop_succ_cons, ih, show tcells (a :: S) = tcell a ++ tcells S by simp [tcells], show (k + 1) * 3 = (tcell a).length + k * 3 by rw [tcell_len]; omega, List.drop_append]
      simp
theorem tcells_take (S : List Tm) (k : Nat) : tcells (S.take k) = (tcells S).take (k * 3) := by
  induction S generalizing k with
  | nil => simp [tcells]
  | cons a S ih =>
    cases k with
    | zero => simp [tcells]
    | succ k =>
      rw [List.take_succ_cons, show tcells (a :: S.take k) = tcell a ++ tcells (S.take k) by simp [tcells], ih, show tcells (a :: S) = tcell a ++ tcells S by simp [tcells], show (k + 1) * 3 = (tcell a).length + k * 3 by rw [tcell_len]; omega, List.take_length_add_append]

set_option maxRecDepth 100000 in
set_option maxHeartbeats 2000000 in
theorem RDue_any (r : Nat) (T : Nat → Prop) (S : List Tm) (now : Nat) (w : World) (h : RQ w T r S) (hT : ¬ T r) :
    Calls Try.prog 22 #[.pointer (some ⟨r, 0, none⟩), .int .u64 (now : Int)] w fun e w' => e = .returned (.tuple #[.agg (tcell ((dueS now S).elim zT (·.1))).toArray, .bool (dueS now S).isSome]) ∧ RQ w' T r ((dueS now S).elim S (·.2)) ∧ Chg (· = r) w w' := by
  have HH := Lib.hid h
  obtain ⟨A, cap, hr, hcap, hmx, hv⟩ := h
  have HRW := Lib.hid hr
  have HV := Lib.hid hv
  clear hr hv
  rcases S with _ | ⟨t, S⟩
  · have hP : ∀ w', Chg none_ w w' → RQ w' T r ((dueS now []).elim [] (·.2)) ∧ Chg (· = r) w w' := fun w' hc => ⟨HH.out.quiet hc, hc.mono (fun _ _ h => h.elim)⟩
    have HP := Lib.hid hP
    show Calls _ _ _ _ fun e w' => e = .returned (.tuple #[.agg (tcell zT).toArray, .bool false]) ∧ _
    clear hP
    go_enter Try.func22, Try.ntmps22
    go_wp2_with (first | ((with_reducible show wpList _ _ _ (⟨some 4, .alloc _, _, _, _, _⟩ :: _) _ _); refine wpList_alloc_Row rfl rfl (tcell zT) zeroTm ?_; intro w1 hr1 hc1 hs1; have HR1 := Lib.hid hr1; have HC1 := Lib.hid hc1; have c0 := (HRW.out.chg hc1 (fun h => h)).cell 0; have f0 := (HRW.out.chg hc1 (fun h => h)).frozen 0; simp only [List.getElem?_cons_zero] at c0;  clear hr1 hc1 hs1) | ((with_reducible show wpList _ _ _ (⟨none, .store _ (.tmp 4) _, _, _, _, _⟩ :: _) _ _); refine wpList_store_Row (xs := tcell zT) rfl rfl rfl HR1.out rfl rfl sizeTm rfl ?_; intro w5 hr5 hcs5 hs5; have HR5 := Lib.hid hr5; have HC5 := Lib.hid (hcs5 none_ w HC1.out (fun h => by omega)); clear hr5 hcs5 hs5))
    refine ret_row2 rfl rfl HR5.out Try.underlying27 rfl sizeTm rfl ?_
    exact ⟨rfl, (HP.out _ HC5.out).1, (HP.out _ HC5.out).2⟩
  · have n1 : (((t :: S).length : Int) == 0) = false := by rw [beq_eq_false_iff_ne, List.length_cons]; omega
    have n2 : (0 : Int) < ((t :: S).length : Int) := by rw [List.length_cons]; omega
    have n3 : 0 < (t :: S).length := by rw [List.length_cons]; omega
    have e : dueS now (t :: S) = if t.at_ ≤ now then some (t, S) else none := rfl
    obtain ⟨b, o, rfl, hbl, hTb, hk⟩ := HV.out.tmAt (k := 0) (by simp)
    have HRT := Lib.hid (hk 0 (by simp))
    have HLB := Lib.hid hbl
    clear hk hbl
    by_cases hd : t.at_ ≤ now
    · rw [e, if_pos hd]
      have d1 : decide ((now : Int) < (t.at_ : Int)) = false := by simp; omega
      have d2 : ¬ (now : Int) < (t.at_ : Int) := by omega
      have HNR := Lib.hid (show ¬ T r from hT)
      have HFIN : Hid (∀ w', Row w' r 40 [.slice (dropN (some ⟨b, o, none⟩) cap 1 3) ((t :: S).length - 1) (cap - 1)] → Chg (· = r) w w' → RQ w' T r S) := Lib.hid (fun w' h1 h2 => by
        refine ⟨_, cap - 1, h1, by simp at hcap ⊢; omega, by omega, ?_⟩
        have := ((HV.out.chg h2 (fun b hb e => HNR.out (e ▸ hb))).dropN (k := 1) hcap)
        rw [← tcells_drop] at this
        exact this)
      show Calls _ _ _ _ fun e w' => e = .returned (.tuple #[.agg (tcell t).toArray, .bool true]) ∧ RQ w' T r S ∧ _
      clear hd e hT
      obtain ⟨m, hm⟩ : ∃ m, m = (t :: S).length := ⟨_, rfl⟩
      rw [← hm] at n1 n2 n3 HFIN HRW hcap
      clear hm
      go_enter Try.func22, Try.ntmps22
      go_wp2_with (first | ((with_reducible show wpList _ _ _ (⟨some 4, .alloc _, _, _, _, _⟩ :: _) _ _); refine wpList_alloc_Row rfl rfl (tcell zT) zeroTm ?_; intro w1 hr1 hc1 hs1; have HR1 := Lib.hid hr1; have HC1 := Lib.hid hc1; have c0 := (HRW.out.chg hc1 (fun h => h)).cell 0; have f0 := (HRW.out.chg hc1 (fun h => h)).frozen 0; simp only [List.getElem?_cons_zero] at c0; have a0 := (show w1.rangeAt b (o + 0 * 3) (tcell t) from fun j v hv => (World.cell?_of_block (hc1.block b HLB.out (fun h => h))).trans (HRT.out j v hv)) 0 _ rfl; simp only [Nat.zero_mul, Nat.add_zero] at a0; have HR0 := Lib.hid (show w1.rangeAt b o (tcell t) from fun j v hv => by have := (World.cell?_of_block (hc1.block b HLB.out (fun h => h))).trans (HRT.out j v hv); rwa [Nat.zero_mul, Nat.add_zero] at this); have HG1 := Lib.hid hr1.lt; clear hr1 hc1 hs1) | ((with_reducible show wpList _ _ _ (⟨some 30, .load _ _, _, _, _, _⟩ :: _) _ _); refine wpList_load_Mid (cs := tcell t) rfl rfl rfl HR0.out Try.underlying27 rfl sizeTm ?_) | ((with_reducible show wpList _ _ _ (⟨some 6, .alloc _, _, _, _, _⟩ :: _) _ _); refine wpList_alloc_Row rfl rfl (tcell zT) zeroTm ?_; intro w2 hr2 hc2 hs2; have HR2 := Lib.hid hr2; have HC2 := Lib.hid (HC1.out.trans hc2); have HR12 := Lib.hid (HR1.out.chg hc2 (fun h => h)); clear hr2 hc2 hs2) | ((with_reducible show wpList _ _ _ (⟨none, .store _ (.tmp 6) _, _, _, _, _⟩ :: _) _ _); refine wpList_store_Row (xs := tcell t) rfl rfl rfl HR2.out rfl rfl sizeTm rfl ?_; intro w3 hr3 hcs3 hs3; clear c0 f0 a0; have HR3 := Lib.hid hr3; have hx3 := hcs3 (· = w1.heap.size) w2 (Chg.refl _ _) (fun _ => rfl); have HC3 := Lib.hid (hcs3 none_ w HC2.out (fun h => by have := HC1.out.size; omega)); have HR13 := Lib.hid (HR12.out.chg hx3 (fun e => by have := HG1.out; omega)); have c3 := (HRW.out.chg HC3.out (fun h => h)).cell 0; have f3 := (HRW.out.chg HC3.out (fun h => h)).frozen 0; simp only [List.getElem?_cons_zero] at c3; clear hr3 hcs3 hs3 hx3) | ((with_reducible show wpList _ _ _ (⟨some 36, _, _, _, _, _⟩ :: _) _ _); refine wpList_slice_lowN rfl 34 27 _ _ rfl (some ⟨b, o, none⟩) m cap 1 3 rfl rfl Try.underlying34 sizeTm (by omega) ?_) | ((with_reducible show wpList _ _ _ (⟨some 39, _, _, _, _, _⟩ :: _) _ _); refine wpList_load_Row (cs := tcell t) rfl rfl rfl (HR3.out.far (by have := HRW.out.lt; have := HC1.out.size; show w1.heap.size ≠ r; omega) _) Try.underlying27 rfl sizeTm ?_) | ((with_reducible show wpList _ _ _ (⟨none, .store _ (.tmp 4) _, _, _, _, _⟩ :: _) _ _); clear c3 f3; refine wpList_store_Row (xs := tcell t) rfl rfl rfl (HR13.out.far (by have := HRW.out.lt; show w.heap.size ≠ r; omega) _) rfl rfl sizeTm rfl ?_; intro w5 hr5 hcs5 hs5; have HR5 := Lib.hid hr5; have HRR := Lib.hid (((HRW.out.chg HC3.out (fun h => h)).set 0 (.slice (dropN (some ⟨b, o, none⟩) cap 1 3) (m - 1) (cap - 1))).chg (hcs5 (· = w.heap.size) _ (Chg.refl _ _) (fun _ => rfl)) (fun (e : r = w.heap.size) => by have := HRW.out.lt; omega)); have HC5 := Lib.hid (hcs5 (· = r) w ((show Chg (· = r) w w3 from HC3.out.mono (fun _ _ h => h.elim)).setCell (p := ⟨r, 0, none⟩) (fun _ => rfl) _) (fun h => absurd h (Nat.lt_irrefl _))); clear hr5 hcs5 hs5))
      refine ret_row2 rfl rfl HR5.out Try.underlying27 rfl sizeTm rfl ?_
      exact ⟨rfl, HFIN.out _ HRR.out HC5.out, HC5.out⟩
    · rw [e, if_neg hd]
      have d1 : (now : Int) < (t.at_ : Int) := by omega
      have hP : ∀ w', Chg none_ w w' → RQ w' T r (t :: S) ∧ Chg (· = r) w w' := fun w' hc => ⟨HH.out.quiet hc, hc.mono (fun _ _ h => h.elim)⟩
      have HP := Lib.hid hP
      show Calls _ _ _ _ fun e w' => e = .returned (.tuple #[.agg (tcell zT).toArray, .bool false]) ∧ RQ w' T r (t :: S) ∧ _
      clear hP hd e
      generalize (t :: S).length = m at *
      go_enter Try.func22, Try.ntmps22
      go_wp2_with (first | ((with_reducible show wpList _ _ _ (⟨some 4, .alloc _, _, _, _, _⟩ :: _) _ _); refine wpList_alloc_Row rfl rfl (tcell zT) zeroTm ?_; intro w1 hr1 hc1 hs1; have HR1 := Lib.hid hr1; have HC1 := Lib.hid hc1; have c0 := (HRW.out.chg hc1 (fun h => h)).cell 0; have f0 := (HRW.out.chg hc1 (fun h => h)).frozen 0; simp only [List.getElem?_cons_zero] at c0; have a0 := (show w1.rangeAt b (o + 0 * 3) (tcell t) from fun j v hv => (World.cell?_of_block (hc1.block b HLB.out (fun h => h))).trans (HRT.out j v hv)) 0 _ rfl; simp only [Nat.zero_mul, Nat.add_zero] at a0; clear hr1 hc1 hs1) | ((with_reducible show wpList _ _ _ (⟨none, .store _ (.tmp 4) _, _, _, _, _⟩ :: _) _ _); refine wpList_store_Row (xs := tcell zT) rfl rfl rfl HR1.out rfl rfl sizeTm rfl ?_; intro w5 hr5 hcs5 hs5; have HR5 := Lib.hid hr5; have HC5 := Lib.hid (hcs5 none_ w HC1.out (fun h => by omega)); clear hr5 hcs5 hs5))
      refine ret_row2 rfl rfl HR5.out Try.underlying27 rfl sizeTm rfl ?_
      exact ⟨rfl, (HP.out _ HC5.out).1, (HP.out _ HC5.out).2⟩

set_option maxRecDepth 100000 in
set_option maxHeartbeats 4000000 in
theorem RDrop_any (r : Nat) (T : Nat → Prop) (S : List Tm) (c : Int) (w : World) (h : RQ w T r S) (hs : S.length ≤ 200) :
    Calls Try.prog 21 #[.pointer (some ⟨r, 0, none⟩), .int .i64 c] w fun e w' => e = .returned (.int .i64 ((S.length : Int) - ((dropS c S).length : Int))) ∧ RQ w' (fun b => T b ∨ w.heap.size ≤ b) r (dropS c S) ∧ Chg (· = r) w w' := by
  obtain ⟨A, cap, hr, hcap, hmx, hv⟩ := h
  have HRW := Lib.hid hr
  have HV := Lib.hid hv
  have HTS : Hid (∀ k, k < S.length → S.take (k + 1) = S.take k ++ [tm S k]) := Lib.hid (fun k hk => by
    rw [List.take_add_one]
    unfold tm
    rw [List.getD_eq_getElem?_getD, List.getElem?_eq_getElem hk]
    rfl)
  have HDL : Hid (∀ k, (dropS c (S.take k)).length ≤ 200) := Lib.hid (fun k => by
    have h1 : (dropS c (S.take k)).length ≤ (S.take k).length := List.length_filter_le _ _
    rw [List.length_take] at h1
    omega)
  have HDS : Hid ((dropS c S).length ≤ S.length) := Lib.hid (List.length_filter_le _ _)
  have hrl := hr.lt
  clear hr hv
  go_enter Try.func21, Try.ntmps21
  go_wp2
  go_loopw [5, 6] (fun v i wr => ∃ (k : Nat), i = .int .i64 (k : Int) ∧ k ≤ S.length ∧ OwnedT wr w.heap.size v (dropS c (S.take k)) ∧ Chg none_ w wr) (fun _ i _ => S.length - (intOf i).toNat)
  case atStart => exact ⟨0, rfl, Nat.zero_le _, by rw [take_zero']; exact OwnedT.nil _ _, Chg.refl _ _⟩
  case round =>
    obtain ⟨k, rfl, hk, ho, hc⟩ := hrel
    obtain ⟨AL, capL, rfl, _, _, _⟩ := ho.view
    have HL := Lib.hid ho
    have HC4 := Lib.hid hc
    have c0 := (HRW.out.chg hc (fun h => h)).cell 0
    have f0 := (HRW.out.chg hc (fun h => h)).frozen 0
    simp only [List.getElem?_cons_zero] at c0
    by_cases hlt : k < S.length
    · have k1 : (k : Int) < (S.length : Int) := by omega
      have k0 : 0 ≤ (k : Int) := by omega
      obtain ⟨b, o, rfl, hbl, _, hr⟩ := (HV.out.chg hc (fun _ _ h => h)).tmAt hlt
      have a1 := hr k hlt 1 _ rfl
      have HR := Lib.hid (hr k hlt)
      have HTK := Lib.hid (HTS.out k hlt)
      have HDK := Lib.hid (HDL.out k)
      clear ho hc hr
      by_cases hcn : (tm S k).conn = c
      · have c1 : ((tm S k).conn == c) = true := by simpa using hcn
        have HE : Hid (dropS c (S.take (k + 1)) = dropS c (S.take k)) := Lib.hid (by
          rw [HTK.out]
          unfold dropS
          rw [List.filter_append, List.filter_cons_of_neg (by simpa using hcn)]
          simp)
        clear hcn
        go_wp2
        go_roundw
        case rel => exact ⟨k + 1, by go_num, by omega, by rw [HE.out]; exact HL.out, HC4.out⟩
        case measure => simp [intOf]; omega
      · have c1 : ((tm S k).conn == c) = false := by simpa using hcn
        have HE : Hid (dropS c (S.take (k + 1)) = dropS c (S.take k) ++ [tm S k]) := Lib.hid (by
          rw [HTK.out]
          unfold dropS
          rw [List.filter_append, List.filter_cons_of_pos (by simpa using hcn)]
          simp)
        clear hcn
        generalize dropS c (S.take k) = L at *
        go_wp2_with (first | ((with_reducible show wpList _ _ _ (⟨some 34, .load _ _, _, _, _, _⟩ :: _) _ _); refine wpList_load_Mid (cs := tcell (tm S k)) rfl rfl rfl HR.out Try.underlying27 rfl sizeTm ?_) | ((with_reducible show wpList _ _ _ (⟨some 35, _, _, _, _, _⟩ :: _) _ _); clear c0 f0 a1; refine wpList_new_row (v := fun g => .slice (some ⟨g, 0, none⟩) 1 1) (e := 27) (cs := tcell (tm S k)) rfl (fun w_ => by go_simp; rfl) ?_; intro w5 hr5 hc5 hs5; have HC5 := Lib.hid (HC4.out.trans hc5); have HL5 := Lib.hid (HL.out.chg hc5 (fun _ _ _ h => h)); have HV5 : Hid (View w5 (fun _ => True) (some ⟨wr.heap.size, 0, none⟩) (1 * 3) (tcells [tm S k])) := Lib.hid (View.row (cs := tcell (tm S k)) hr5 (n := 3) (by rw [tcell_len]; exact Nat.le_refl _) trivial); clear hr5 hc5 hs5) | ((with_reducible show wpList _ _ _ (⟨some 36, _, _, _, _, _⟩ :: _) _ _); refine wpList_append_T rfl _ _ _ rfl Try.underlying34 (base := w.heap.size) (L := L) (M := [tm S k]) (A := some ⟨wr.heap.size, 0, none⟩) (m := 1) (c := 1) (w0 := w) rfl HL5.out rfl HV5.out (by have := HDK.out; omega) HC5.out.size HC5.out (Nat.le_refl _) ?_; intro v6 w6 ho6 hc6; have HL6 := Lib.hid ho6; have HC6 := Lib.hid hc6; clear ho6 hc6))
        go_roundw
        case rel => exact ⟨k + 1, by go_num, by omega, by rw [HE.out]; exact HL6.out, HC6.out⟩
        case measure => simp [intOf]; omega
    · have hke : k = S.length := by omega
      have e : dropS c (S.take k) = dropS c S := by rw [hke, List.take_length]
      have hL : (dropS c (S.take k)).length = (dropS c S).length := by rw [e]
      have HRQ : Hid (∀ w', Row w' r 40 [.slice AL (dropS c (S.take k)).length capL] → Chg (· = r) wr w' → RQ w' (fun b => T b ∨ w.heap.size ≤ b) r (dropS c S)) := Lib.hid (fun w' h1 h2 => by
        obtain ⟨A9, cap9, e9, g1, g2, g3⟩ := HL.out.view
        injection e9 with q1 _ q3
        subst q1 q3
        rw [e] at h1 g1 g3
        exact ⟨_, _, h1, g1, g2, (g3.chg h2 (fun b (hb : w.heap.size ≤ b) (e : b = r) => by omega)).mono (fun _ _ h => Or.inr h)⟩)
      rw [hL] at HRQ ⊢
      have HWR : Hid (wrap64 ((S.length : Int) - ((dropS c S).length : Int)) = (S.length : Int) - ((dropS c S).length : Int)) := Lib.hid (by have := HDS.out; unfold wrap64; omega)
      clear ho hc hlt hL e HDL HTS
      have d0 : ¬ (k : Int) < (S.length : Int) := by omega
      clear hk hke
      go_wp2
      go_ret
      exact ⟨ret_i64 HWR.out, HRQ.out _ (((HRW.out.chg HC4.out (fun h => h)).set 0 _)) ((Chg.refl (· = r) wr).setCell (p := ⟨r, 0, none⟩) (fun _ => rfl) _), (show Chg (· = r) w wr from HC4.out.mono (fun _ _ h => h.elim)).setCell (p := ⟨r, 0, none⟩) (fun _ => rfl) _⟩
end Go.Proofs.Ytblpgpolhibfgaa
