/- Layer 13 (ranges): the document's set: Ranges. -/
import Derived.Test.YtlakhfbhbebojaaV13RSet
import Derived.Test.YtlakhfbhbebojaaV13Forget
namespace Go.Proofs.Ytlakhfbhbebojaa
open Go.RowKit Go.Shelf Go.Sort

/-- The last range of a row of the call's own, and its beginning written anew. -/
theorem OwnedR.last {w : World} {base : Nat} {v : Value} {A : List (Nat × Nat)} {q : Nat × Nat} (h : OwnedR w base v (A ++ [q])) :
    ∃ go cap, v = .slice (some ⟨go, 0, none⟩) (A.length + 1) cap ∧ base ≤ go ∧ go < w.heap.size ∧ w.cell? ⟨go, A.length * 2, none⟩ = some (.int .u64 (q.1 : Int)) ∧ w.frozen? ⟨go, A.length * 2, none⟩ = false ∧
      ∀ n : Nat, OwnedR (w.setCell ⟨go, A.length * 2, none⟩ (.int .u64 (n : Int))) base v (A ++ [(n, q.2)]) := by
  have hlen : (A ++ [q]).length = A.length + 1 := by simp
  rcases h.2 with ⟨rfl, hn⟩ | ⟨go, cap, cur, rfl, hb, hg, hn, hc, hs, ht⟩
  · rw [hlen] at hn; omega
  · have hR : Row w go 41 cur.toList := by unfold Row; rw [hg]
    have hcl : cur.toList.length = cap * 2 := by rw [Array.length_toList]; exact hs
    rw [hlen] at hn ht
    have hcur : cur.toList = rcells A ++ rcell q ++ cur.toList.drop ((A.length + 1) * 2) := by
      conv => lhs; rw [← List.take_append_drop ((A.length + 1) * 2) cur.toList, ht, rcells_append]
      simp [rcells]
    have hal : (rcells A).length = A.length * 2 := rcells_len A
    have hget : cur.toList[A.length * 2]? = some (.int .u64 (q.1 : Int)) := by
      rw [hcur, List.append_assoc, List.getElem?_append_right (by omega), hal, Nat.sub_self]
      rfl
    refine ⟨go, cap, by rw [hlen], hb, hR.lt, by rw [hR.cell]; exact hget, hR.frozen _, fun n => ?_⟩
    have hset := hR.set (A.length * 2) (.int .u64 (n : Int))
    have hnew : (cur.toList.set (A.length * 2) (.int .u64 (n : Int))).take ((A.length + 1) * 2) = rcells (A ++ [(n, q.2)]) := by
      rw [hcur, List.append_assoc, List.set_append_right _ _ (by omega), hal, Nat.sub_self]
      have h2 : (rcell q ++ cur.toList.drop ((A.length + 1) * 2)).set 0 (Value.int .u64 (n : Int)) = rcell (n, q.2) ++ cur.toList.drop ((A.length + 1) * 2) := rfl
      rw [h2, ← List.append_assoc, List.take_append_of_le_length (by rw [List.length_append, hal, rcell_len]; omega), List.take_of_length_le (by rw [List.length_append, hal, rcell_len]; omega), rcells_append]
      simp [rcells]
    refine ⟨by rw [rcells_len], Or.inr ⟨go, cap, (cur.toList.set (A.length * 2) (.int .u64 (n : Int))).toArray, by simp, hb, ?_, by simp; omega, hc, by simp [hs], ?_⟩⟩
    · exact hset
    · rw [List.toList_toArray, show (A ++ [(n, q.2)]).length = A.length + 1 by simp]
      exact hnew

theorem rstep_nil (n : Nat) : rstep [] n = [] ++ [(n, n)] := rfl
theorem rstep_yes (A : List (Nat × Nat)) (q : Nat × Nat) (n : Nat) (h : q.1 = n + 1) : rstep (A ++ [q]) n = A ++ [(n, q.2)] := by
  unfold rstep
  rw [List.getLast?_append, List.getLast?_singleton, Option.some_or]
  dsimp only
  rw [if_pos h, List.dropLast_concat]
theorem rstep_no (A : List (Nat × Nat)) (q : Nat × Nat) (n : Nat) (h : q.1 ≠ n + 1) : rstep (A ++ [q]) n = (A ++ [q]) ++ [(n, n)] := by
  unfold rstep
  rw [List.getLast?_append, List.getLast?_singleton, Option.some_or]
  dsimp only
  rw [if_neg h]
theorem back_step (L : List Nat) (k : Nat) (hk : k < L.length) : (L.drop k).reverse.foldl rstep [] = rstep ((L.drop (k + 1)).reverse.foldl rstep []) (nm L k) := by
  rw [List.drop_eq_getElem_cons hk, List.reverse_cons, List.foldl_append]
  unfold nm
  rw [List.getD_eq_getElem?_getD, List.getElem?_eq_getElem hk]
  rfl
theorem fold_len : ∀ (M : List Nat) (out : List (Nat × Nat)), (M.foldl rstep out).length ≤ out.length + M.length
  | [], out => by simp
  | n :: M, out => by
    have := fold_len M (rstep out n)
    have := rstep_len out n
    rw [List.foldl_cons, List.length_cons]
    omega

set_option maxRecDepth 100000 in
set_option maxHeartbeats 2000000 in
theorem RRanges_any (g B y : Nat) (L : List Nat) (w : World) (h : RAt w B g L y) (hl : L.length ≤ 100000) (hx : ∀ x ∈ L, x ≤ MX) :
    Calls Try.prog 20 #[.pointer (some ⟨g, 0, none⟩)] w fun e w' => ∃ v, e = .returned v ∧ OwnedR w' w.heap.size v (rangesR L) ∧ Chg none_ w w' := by
  obtain ⟨A, cap, hr, _, _, hv, _⟩ := h
  have HC0 := Lib.hid (show ∀ w', Chg none_ w w' → w'.cell? ⟨g, 0, none⟩ = some (.slice A L.length cap) from fun w' hc => (hr.chg hc (fun h => h)).cell 0)
  have c0 := hr.cell 0
  simp only [List.getElem?_cons_zero] at c0
  have HV := Lib.hid (fun w' (hc : Chg none_ w w') => hv.chg hc (fun _ _ h => h))
  have HX := Lib.hid (fun k (hk : k < L.length) => hx _ (nm_mem hk))
  have HFL := Lib.hid (show ∀ k, ((L.drop k).reverse.foldl rstep []).length ≤ 100000 from fun k => by
    have := fold_len (L.drop k).reverse []
    rw [List.length_reverse, List.length_drop] at this
    simp only [List.length_nil] at this
    omega)
  clear hr hv hx
  go_enter Try.func20, Try.ntmps20
  go_wp2
  go_loopw [3, 4] (fun v i wr => ∃ (k : Nat) (z : Int), i = .int .i64 z ∧ z = (k : Int) - 1 ∧ k ≤ L.length ∧ OwnedR wr w.heap.size v ((L.drop k).reverse.foldl rstep []) ∧ Chg none_ w wr) (fun _ i _ => (intOf i + 1).toNat)
  case atStart => exact ⟨L.length, _, rfl, rfl, Nat.le_refl _, by rw [List.drop_length]; exact OwnedR.nil _ _, Chg.refl _ _⟩
  case round =>
    obtain ⟨k, z, rfl, hz, hk, ho, hc⟩ := hrel
    have HC := Lib.hid hc
    have HO := Lib.hid ho
    rcases k with _ | k
    · have hz' : z = -1 := by omega
      subst hz'
      have HFIN : Hid (OwnedR wr w.heap.size _ (rangesR L)) := Lib.hid ho
      clear ho hc hz
      go_wp2
      go_ret
      exact ⟨_, rfl, HFIN.out, HC.out⟩
    · have hz' : z = (k : Int) := by omega
      subst hz'
      clear hz
      have k0 : 0 ≤ (k : Int) := by omega
      have k0' : decide (0 ≤ (k : Int)) = true := by simp
      have k1 : (k : Int) < (L.length : Int) := by omega
      have hkl : k < L.length := by omega
      have HST := Lib.hid (back_step L k hkl)
      have HLN := Lib.hid (HFL.out (k + 1))
      have c1 := HC0.out wr hc
      obtain ⟨b, o, rfl, hb, hkk⟩ := (HV.out wr hc).u64At (by omega)
      have a1 := hkk k hkl
      have hmx := HX.out k hkl
      obtain ⟨n1, hn1⟩ : ∃ n1, n1 = nm L k + 1 := ⟨_, rfl⟩
      have kw : IntKind.u64.wrap ((nm L k : Int) + 1) = (n1 : Int) := by rw [wrap_small (by omega) (by unfold MX at hmx; omega)]; omega
      have HN1 := Lib.hid hn1
      generalize (L.drop (k + 1)).reverse.foldl rstep [] = out at *
      generalize hnx : (L.drop k).reverse.foldl rstep [] = nxt at *
      have HNX := Lib.hid hnx
      clear hnx
      generalize nm L k = n at *
      clear hkk hmx hn1 hc c0
      rcases List.eq_nil_or_concat out with rfl | ⟨M, q, rfl⟩
      · obtain ⟨AO, cO, rfl, _, _, _⟩ := ho.view
        have HE : Hid (nxt = [] ++ [(n, n)]) := HST
        clear ho
        go_wp2_with (first | ((with_reducible show wpList _ _ _ (⟨some 49, _, _, _, _, _⟩ :: _) _ _); clear a1 c1 kw; refine wpList_new_row (v := fun g => .slice (some ⟨g, 0, none⟩) 1 1) (e := 41) (cs := rcell (n, n)) rfl (fun w_ => by go_simp; rfl) ?_; intro w7 hr7 hc7 hs7; have HC7 := Lib.hid (HC.out.trans hc7); have HL7 := Lib.hid (HO.out.chg hc7 (fun _ _ h => h)); have HV7 : Hid (View w7 (fun _ => True) (some ⟨wr.heap.size, 0, none⟩) (1 * 2) (rcells [(n, n)])) := Lib.hid (View.row (cs := rcell (n, n)) hr7 (n := 2) (Nat.le_refl _) trivial); clear hr7 hc7 hs7) | ((with_reducible show wpList _ _ _ (⟨some 50, _, _, _, _, _⟩ :: _) _ _); refine wpList_append_R rfl _ _ rfl (base := w.heap.size) (L := []) (M := [(n, n)]) (A := some ⟨wr.heap.size, 0, none⟩) (m := 1) (c := 1) (w0 := w) rfl HL7.out rfl HV7.out (by have := HLN.out; simp only [List.length_nil] at this ⊢; omega) HC7.out.size HC7.out (Nat.le_refl _) ?_; intro v8 w8 ho8 hc8; have HL8 := Lib.hid ho8; have HC8 := Lib.hid hc8; clear ho8 hc8))
        go_roundw
        case rel => exact ⟨k, _, rfl, by go_num, by omega, by rw [HNX.out, HE.out]; exact HL8.out, HC8.out⟩
        case measure => simp [intOf] <;> omega
      · rw [List.concat_eq_append] at ho HST HLN HO
        obtain ⟨go, cO, rfl, hgb, hgl, hq1, hqf, hset⟩ := ho.last
        have HSET := Lib.hid hset
        have HGB := Lib.hid hgb
        have m1 : ((M.length : Int) + 1 - 1) = (M.length : Int) := by omega
        by_cases hq : q.1 = n1
        · have HE : Hid (nxt = M ++ [(n, q.2)]) := Lib.hid (by rw [HST.out]; exact rstep_yes M q n (by rw [hq, HN1.out]))
          have q1 : ((q.1 : Int) == (n1 : Int)) = true := by rw [beq_iff_eq]; omega
          have HSG := Lib.hid (chg_own hgb HC.out ((Chg.refl (· = go) wr).setCell (p := ⟨go, M.length * 2, none⟩) (fun _ => rfl) (.int .u64 (n : Int))))
          clear ho hset hq hgb
          have HB := Lib.hid (show M.length + 1 ≤ 100000 from by have := HLN.out; simpa using this)
          generalize M.length = m at *
          have mb : (m : Int) ≤ 99999 := by have := HB.out; omega
          have mb2 : (m : Int) < (m : Int) + 1 := by omega
          have mb3 : 0 ≤ (m : Int) := by omega
          have mb4 : decide ((0 : Int) < (m : Int) + 1) = true := by simp
          have mb5 : (0 : Int) < (m : Int) + 1 := by omega
          go_wp2
          go_roundw
          case rel => exact ⟨k, _, rfl, by go_num, by omega, by rw [HNX.out, HE.out]; exact HSET.out n, HSG.out⟩
          case measure => simp [intOf] <;> omega
        · have HE : Hid (nxt = (M ++ [q]) ++ [(n, n)]) := Lib.hid (by rw [HST.out]; exact rstep_no M q n (by rw [← HN1.out]; exact hq))
          have q1 : ((q.1 : Int) == (n1 : Int)) = false := by rw [beq_eq_false_iff_ne]; omega
          have HB := Lib.hid (show M.length + 1 ≤ 100000 from by have := HLN.out; simpa using this)
          have HML := Lib.hid (show (M ++ [q]).length = M.length + 1 from by simp)
          clear ho hset hq hgb HSET
          generalize M.length = m at *
          have mb : (m : Int) ≤ 99999 := by have := HB.out; omega
          have mb2 : (m : Int) < (m : Int) + 1 := by omega
          have mb3 : 0 ≤ (m : Int) := by omega
          have mb4 : decide ((0 : Int) < (m : Int) + 1) = true := by simp
          have mb5 : (0 : Int) < (m : Int) + 1 := by omega
          go_wp2_with (first | ((with_reducible show wpList _ _ _ (⟨some 49, _, _, _, _, _⟩ :: _) _ _); clear a1 c1 kw hq1 hqf; refine wpList_new_row (v := fun g => .slice (some ⟨g, 0, none⟩) 1 1) (e := 41) (cs := rcell (n, n)) rfl (fun w_ => by go_simp; rfl) ?_; intro w7 hr7 hc7 hs7; have HC7 := Lib.hid (HC.out.trans hc7); have HL7 := Lib.hid (HO.out.chg hc7 (fun _ _ h => h)); have HV7 : Hid (View w7 (fun _ => True) (some ⟨wr.heap.size, 0, none⟩) (1 * 2) (rcells [(n, n)])) := Lib.hid (View.row (cs := rcell (n, n)) hr7 (n := 2) (Nat.le_refl _) trivial); clear hr7 hc7 hs7) | ((with_reducible show wpList _ _ _ (⟨some 50, _, _, _, _, _⟩ :: _) _ _); refine wpList_append_R rfl _ _ rfl (base := w.heap.size) (L := M ++ [q]) (M := [(n, n)]) (A := some ⟨wr.heap.size, 0, none⟩) (m := 1) (c := 1) (w0 := w) rfl HL7.out rfl HV7.out (by have := HB.out; have := HML.out; simp only [List.length_append, List.length_cons, List.length_nil] at this ⊢; omega) HC7.out.size HC7.out (Nat.le_refl _) ?_; intro v8 w8 ho8 hc8; have HL8 := Lib.hid ho8; have HC8 := Lib.hid hc8; clear ho8 hc8))
          go_roundw
          case rel => exact ⟨k, _, rfl, by go_num, by omega, by rw [HNX.out, HE.out]; exact HL8.out, HC8.out⟩
          case measure => simp [intOf] <;> omega
end Go.Proofs.Ytlakhfbhbebojaa
