/- Layer 8 (aes): the walk of the law AesCounter. -/
import Derived.Test.YtbohpnbiemokpaaV8Back
namespace Go.Proofs.Ytbohpnbiemokpaa
open Go.RowKit

section
variable {P : Program} {o : Oper} {a : Act} {w : World} {K : Act → World → Prop} {Q : Exit → Act → World → Prop}
/-- make of bytes, at a bare operation. -/
theorem wp_make_bytes (l c : Operand) (t : TypeId) (hop : o.op = Op.makeSlice t l c)
    (e : TypeId) (ht : P.underlying t = some (.slice e)) (hinfo : (P.info? e).map (fun i => (i.zero, i.size, i.bytes)) = some (some (.int .u8 0), 1, 1))
    (n : Nat) (hl : a.eval l = .int .i64 (n : Int)) (hc : a.eval c = .int .i64 (n : Int)) (hn : n ≤ 1000000)
    (k : ∀ w', Row w' w.heap.size e (u8s (List.replicate n 0)) → Chg none_ w w' → K (a.put o.dst (.slice (some ⟨w.heap.size, 0, none⟩) n n)) w') :
    Oper.wp P o a w K Q := by
  have hrun := run_make_row' (P := P) t e (.int .u8 0) 1 ht hinfo rfl .i64 .i64 n (by omega) (by omega) w
  unfold Oper.wp
  simp [execOp, hop, hl, hc, hrun, Result.andThen]
  refine k _ ?_ ((Chg.refl _ _).alloc _)
  have := Row.new w e (u8s (List.replicate n 0))
  have e2 : (u8s (List.replicate n 0)).toArray = madeCells #[.int .u8 0] n := by
    apply Array.toList_inj.1
    rw [toList_madeCells_one]
    simp [u8s]
  rw [e2] at this
  exact this
end
theorem stream_zeros (key first : List Nat) (m : Nat) : (streamN key first (List.replicate (16 * m + 16) 0)).drop (16 * m) = cipherN key (ctrN first m) :=
  eq_of_get 16 (by rw [List.length_drop, streamN_len, List.length_replicate]; omega) (cipherN_len _ _) fun i hi => by
    have h : ((streamN key first (List.replicate (16 * m + 16) 0)).drop (16 * m)).getD i 0 = (streamN key first (List.replicate (16 * m + 16) 0)).getD (16 * m + i) 0 := by
      rw [List.getD_eq_getElem?_getD, List.getD_eq_getElem?_getD, List.getElem?_drop]
    rw [h, streamN_get _ _ _ _ (by rw [List.length_replicate]; omega), padAt, show (16 * m + i) / 16 = m from by omega, show (16 * m + i) % 16 = i from by omega]
    have : (List.replicate (16 * m + 16) 0).getD (16 * m + i) 0 = 0 := by
      rw [List.getD_eq_getElem?_getD, List.getElem?_replicate]; split <;> rfl
    rw [this, Nat.zero_xor]

set_option maxRecDepth 100000 in
set_option maxHeartbeats 2000000 in
theorem walk_AesCounter (key first : List Nat) (n0 : Int) (W : World) (hk : key.length = 16) (hkb : ∀ x ∈ key, x < 256) (hf : first.length = 16) (hfb : ∀ x ∈ first, x < 256) (hn0 : (Lit.int .u8 n0).wf = true) :
    Calls Try.prog 8 #[.agg (u8s key).toArray, .agg (u8s first).toArray, .int .u8 n0] W fun e w' => e = .returned (.bool true) ∧ Chg none_ W w' := by
  obtain ⟨n, rfl, hn⟩ := u8_nat hn0
  clear hn0
  have HKL := Lib.hid hk
  have HFL := Lib.hid hf
  obtain ⟨M, hM⟩ : ∃ M, n % 6 = M := ⟨_, rfl⟩
  obtain ⟨kk, hkk⟩ : ∃ kk, 16 * M = kk := ⟨_, rfl⟩
  obtain ⟨N, hN⟩ : ∃ N, kk + 16 = N := ⟨_, rfl⟩
  have hM6 : M < 6 := by omega
  have e1 : 16 * ((n : Int) % 6) = (kk : Int) := by omega
  have e2 : (kk : Int) + 16 = (N : Int) := by omega
  have e3 : (kk : Int) / 16 = (M : Int) := by omega
  have hkb0 : kk ≤ 80 := by omega
  have HN : Hid (kk + 16 = N ∧ kk ≤ 80) := Lib.hid ⟨hN, hkb0⟩
  have QN : Hid (IntKind.i64.wrap (N : Int) = (N : Int)) := Lib.hid (IntWalk.i64_in _ (by omega))
  have HN16 : Hid (N - kk = 16) := Lib.hid (by omega)
  have hsz : (streamN key first (List.replicate N 0)).drop kk = cipherN key (ctrN first M) := by rw [← hN, ← hkk]; exact stream_zeros key first M
  have hsl : (streamN key first (List.replicate N 0)).length = N := by rw [streamN_len, List.length_replicate]
  have HS1 : Hid (∀ w g, Row w g 5 (u8s (List.replicate N 0)) → Calls Try.prog 21 #[.agg (u8s key).toArray, .agg (u8s first).toArray, .slice (some ⟨g, 0, none⟩) N N] w fun e w' => ∃ g, e = .returned (.slice (some ⟨g, 0, none⟩) N N) ∧ w.heap.size ≤ g ∧ Row w' g 5 (u8s (streamN key first (List.replicate N 0))) ∧ Chg none_ w w') := Lib.hid (fun w g hr => by
    have := Stream_any key first (fun _ => True) (some ⟨g, 0, none⟩) N (List.replicate N 0) w hk hkb hf hfb (View.all hr (by rw [u8s_length]) trivial) (by rw [List.length_replicate]; omega) (fun x hx => by rw [List.eq_of_mem_replicate hx]; decide)
    rw [List.length_replicate] at this
    exact this)
  generalize streamN key first (List.replicate N 0) = ST at HS1 hsz hsl
  have HE := Lib.hid (fun w => Encipher_any key (ctrN first M) w hk hkb (ctrN_len first hf M) (ctrN_lt hfb M))
  have HCLA := Lib.hid (ctrN_len first hf)
  have HCBA := Lib.hid (ctrN_lt hfb)
  have HEL := Lib.hid (cipherN_len key (ctrN first M))
  generalize cipherN key (ctrN first M) = E at HE hsz HEL
  have HM : Hid (∀ w g g5, Row w g 26 (u8s E) → Row w g5 5 (u8s ST) → Calls Try.prog 20 #[.slice (dropA (some ⟨g5, 0, none⟩) N kk) (N - kk) (N - kk), .slice (some ⟨g, 0, none⟩) 16 16] w fun e w' => e = .returned (.bool true) ∧ ∃ k, w' = w.drewN k) := Lib.hid (fun w g g5 hr hr5 => by
    have hv := (View.all hr5 (T := fun _ => True) (n := N) (by rw [u8s_length, hsl]) trivial).dropA (k := kk) (cap := N) (Nat.le_refl _)
    have ed : (u8s ST).drop kk = u8s E := by rw [← hsz]; simp [u8s]
    rw [ed, HN16.out] at hv
    have := same_any w (fun _ => True) (fun _ => True) (dropA (some ⟨g5, 0, none⟩) N kk) (some ⟨g, 0, none⟩) (N - kk) 16 E E (by rw [HEL.out]; exact hv) (View.all hr (by rw [u8s_length]) trivial) (by rw [HEL.out]; decide)
    rw [HEL.out, decide_eq_true rfl] at this
    rw [HN16.out] at this ⊢
    exact this)
  clear hsz hsl
  clear hk hkb hf hfb hN hkk hM
  go_enter Try.func8, Try.ntmps8
  go_wp2_with (first | ((with_reducible show wpList _ _ _ (⟨some 3, .box 26 _, _, _, _, _⟩ :: _) _ _); refine wpList_box_Row rfl rfl (u8s key) rfl ?_; intro w1 hr1 hc1 hs1; have HR1 := Lib.hid hr1; have HC1 := Lib.hid hc1; clear hr1 hc1 hs1) | ((with_reducible show wpList _ _ _ (⟨some 4, .box 26 _, _, _, _, _⟩ :: _) _ _); refine wpList_box_Row rfl rfl (u8s first) rfl ?_; intro w2 hr2 hc2 hs2; have HR2 := Lib.hid hr2; have HC2 := Lib.hid (HC1.out.trans hc2); have HR1b := Lib.hid (HR1.out.chg hc2 (fun h => h)); clear hr2 hc2 hs2) | (go_at_call 10; refine (alive_any _).mono ?_; rintro e w3 ⟨rfl, hc3⟩; have HC3 := Lib.hid (HC2.out.trans hc3); have HRK := Lib.hid (HR1b.out.chg hc3 (fun h => h)); have HRF := Lib.hid (HR2.out.chg hc3 (fun h => h)); clear hc3))
  refine wp_region_held_drew (S := fun w' => Chg none_ w3 w') (by kernel_rfl) ((Chg.refl none_ w3).drew) (fun hch0 => ?_)
  generalize w3.drew = wd at hch0 ⊢
  refine wpAnyH_take (i := 0) (v := .agg (u8s key).toArray) rfl (by kernel_rfl) (by kernel_rfl) (by kernel_rfl) (by first | exact fun _ _ _ h => h | exact fun _ _ _ h => nomatch h.1) (yieldsIf_load_mid (by rfl) 26 _ rfl W.heap.size 0 rfl (u8s key) _ (fun w' hw' => (HRK.out.chg hw' (fun h => h)).range) Try.underlying26 rfl (by rw [u8s_length, HKL.out]; exact size26)) hch0 ?_
  refine wpAnyH_take (i := 1) (v := .agg (u8s first).toArray) rfl (by kernel_rfl) (by kernel_rfl) (by kernel_rfl) (by first | exact fun _ _ _ h => h | exact fun _ _ _ h => nomatch h.1) (yieldsIf_load_mid (by rfl) 26 _ rfl w1.heap.size 0 rfl (u8s first) _ (fun w' hw' => (HRF.out.chg hw' (fun h => h)).range) Try.underlying26 rfl (by rw [u8s_length, HFL.out]; exact size26)) hch0 ?_
  refine wpAnyH_take (i := 2) (v := .int .i64 kk) rfl (by kernel_rfl) (by kernel_rfl) (by kernel_rfl) (by first | exact fun _ _ _ h => h | exact fun _ _ _ h => nomatch h.1) (Or.inl ⟨by rfl, fun w_ hw_ => by go_simp⟩) hch0 ?_
  refine wpAnyH_take (i := 3) (v := .int .i64 N) rfl (by kernel_rfl) (by kernel_rfl) (by kernel_rfl) (by first | exact fun _ _ _ h => h | exact fun _ _ _ h => nomatch h.1) (Or.inl ⟨by rfl, fun w_ hw_ => by go_simp; exact QN.out⟩) hch0 ?_
  try simp only [Act.put, List.setIfInBounds_toArray, List.set_cons_zero, List.set_cons_succ, List.getElem_toArray, List.getElem_cons_succ, List.getElem_cons_zero]
  refine wpAnyH_ready (rs := [4]) (by kernel_rfl) (by simp) ?_
  refine AllReadyH.cons rfl (fun K hK => ?_) AllReadyH.nil
  rw [if_pos (by rfl)]
  try simp only [Act.put, List.setIfInBounds_toArray, List.set_cons_zero, List.set_cons_succ, List.getElem_toArray, List.getElem_cons_succ, List.getElem_cons_zero]
  refine wp_make_bytes _ _ _ rfl 5 Try.underlying35 info5' N rfl rfl (by have := HN.out; omega) ?_
  intro x1 hrx1 hcx1
  have hch1 : Chg none_ w3 x1 := hch0.trans hcx1
  refine hK.out _ _ hch1 (fun _ => ?_)
  clear hK K
  try simp only [Act.put, List.setIfInBounds_toArray, List.set_cons_zero, List.set_cons_succ, List.getElem_toArray, List.getElem_cons_succ, List.getElem_cons_zero]
  refine wpAnyH_ready (rs := [5]) (by kernel_rfl) (by simp) ?_
  refine AllReadyH.cons rfl (fun K hK => ?_) AllReadyH.nil
  rw [if_pos (by rfl)]
  try simp only [Act.put, List.setIfInBounds_toArray, List.set_cons_zero, List.set_cons_succ, List.getElem_toArray, List.getElem_cons_succ, List.getElem_cons_zero]
  go_simp
  refine (HS1.out _ wd.heap.size hrx1).mono ?_
  rintro e x2 ⟨g5, rfl, hge5, hr5, hcx2⟩
  have hch2 : Chg none_ w3 x2 := hch1.trans hcx2
  refine hK.out _ _ (hch2) (fun _ => ?_)
  clear hK K
  try simp only [Act.put, List.setIfInBounds_toArray, List.set_cons_zero, List.set_cons_succ, List.getElem_toArray, List.getElem_cons_succ, List.getElem_cons_zero]
  refine wpAnyH_take (i := 6) (v := .slice (some ⟨g5, 0, none⟩) N N) rfl (by kernel_rfl) (by kernel_rfl) (by kernel_rfl) (by first | exact fun _ _ _ h => h | exact fun _ _ _ h => nomatch h.1) (Or.inl ⟨by rfl, fun w_ hw_ => by go_simp⟩) hch2 ?_
  try simp only [Act.put, List.setIfInBounds_toArray, List.set_cons_zero, List.set_cons_succ, List.getElem_toArray, List.getElem_cons_succ, List.getElem_cons_zero]
  refine wpAnyH_done (by kernel_rfl) ?_ _
  have HR5 := Lib.hid hr5
  have HC5 := Lib.hid (HC3.out.trans hch2)
  have HRF5 := Lib.hid (HRF.out.chg hch2 (fun h => h))
  have HRK5 := Lib.hid (HRK.out.chg hch2 (fun h => h))
  clear hr5 hge5 hch1 hch0 hch2 hrx1 hcx1 hcx2 HRF HRK HR1 HR1b HR2 HC1 HC2
  go_wp2_with (first | ((with_reducible show wpList _ _ _ (⟨some 25, .load 26 _, _, _, _, _⟩ :: _) _ _); refine wpList_load_Row rfl rfl rfl (HRF5.out) Try.underlying26 rfl (by rw [u8s_length, HFL.out]; exact size26) ?_) | ((with_reducible show wpList _ _ _ (⟨some 9, .alloc 26, _, _, _, _⟩ :: _) _ _); refine wpList_alloc_Row rfl rfl (u8s (List.replicate 16 0)) zero26 ?_; intro w6 hr6 hc6 hs6; have HR6 := Lib.hid hr6; have HC6 := Lib.hid hc6; clear hr6 hc6 hs6) | ((with_reducible show wpList _ _ _ (⟨_, .store 26 (.tmp 9) _, _, _, _, _⟩ :: _) _ _); refine wpList_store_Row (xs := u8s first) rfl rfl rfl (HR6.out) (rfl) (by rw [u8s_length, u8s_length, HFL.out, List.length_replicate]) (by rw [u8s_length, HFL.out]; exact size26) (u8s_oneA _) ?_; intro w7 hr7 hc7 hs7; have HR7 := Lib.hid hr7; have HC7 := Lib.hid (hc7 none_ x2 HC6.out (fun h => absurd h (Nat.lt_irrefl _))); clear hr7 hc7 hs7))
  have HRK7 := Lib.hid (HRK5.out.chg HC7.out (fun h => h))
  have HR57 := Lib.hid (HR5.out.chg HC7.out (fun h => h))
  have HCW7 := Lib.hid (HC5.out.trans HC7.out)
  have HLT := Lib.hid (show W.heap.size < x2.heap.size ∧ g5 < x2.heap.size ∧ W.heap.size ≤ x2.heap.size from ⟨HRK5.out.lt, HR5.out.lt, HC5.out.size⟩)
  clear HRF5 HRK5 HR5 HC5 HC7 HR6 HC6 HC3
  obtain ⟨gb, hgb⟩ : ∃ gb, x2.heap.size = gb := ⟨_, rfl⟩
  rw [hgb] at HLT HR7 ⊢
  clear hgb
  go_loopw [10, 11] (fun i _ wr => ∃ m : Nat, m ≤ M ∧ i = .int .i64 m ∧ Row wr gb 26 (u8s (ctrN first m)) ∧ Chg (· = gb) w7 wr) (fun i _ _ => M - (intOf i).toNat)
  case atStart => exact ⟨0, Nat.zero_le _, rfl, HR7.out, Chg.refl _ _⟩
  case round =>
    obtain ⟨m, hm, rfl, hrow, hch⟩ := hrel
    have HROW := Lib.hid hrow
    have HC := Lib.hid hch
    by_cases hlt : m < M
    · have HCN : Hid (ctrN first (m + 1) = oneMore (ctrN first m)) := Lib.hid rfl
      have HS0 : Hid ((ctrN first m).length = 16) := Lib.hid (HCLA.out m)
      have HB0 : Hid (∀ x ∈ ctrN first m, x < 256) := Lib.hid (HCBA.out m)
      generalize ctrN first m = s at HROW HCN HS0 HB0
      obtain ⟨wA, hwA⟩ : ∃ x, x = wr := ⟨_, rfl⟩
      subst hwA
      clear hrow hch
      have q9 : (m : Int) < (M : Int) := by omega
      go_wp2
      go_loopw [11] (fun j wr => ∃ (n : Nat) (s' : List Nat), n ≤ 4 ∧ j = .int .i64 (11 + n : Nat) ∧ s'.length = 16 ∧ Hid (∀ x ∈ s', x < 256) ∧ Hid (incF s' n (11 + n) = oneMore s) ∧ Row wr gb 26 (u8s s') ∧ Chg (· = gb) w7 wr) (fun j _ => (intOf j).toNat)
      case atStart => exact ⟨4, s, Nat.le_refl _, rfl, HS0.out, HB0, Lib.hid rfl, HROW.out, HC.out⟩
      case round =>
        obtain ⟨n, s', hn, rfl, hl, HB, HI, hrow, hch⟩ := hrel
        have HROW := Lib.hid hrow
        have HC := Lib.hid hch
        clear hch
        rcases n with _ | n
        · have HE : Hid (s' = oneMore s) := Lib.hid HI.out
          clear hrow
          go_wp2
          go_roundw
          case rel => exact ⟨m + 1, by omega, by go_num, by rw [HCN.out, ← HE.out]; exact HROW.out, HC.out⟩
          case measure => simp [intOf]; omega
        · obtain ⟨i, hi⟩ : ∃ i, i = 11 + (n + 1) := ⟨_, rfl⟩
          have HI2 : Hid ((if (s'.getD i 0 + 1) % 256 = 0 then incF (s'.set i ((s'.getD i 0 + 1) % 256)) n (i - 1) else s'.set i ((s'.getD i 0 + 1) % 256)) = oneMore s) := Lib.hid (by rw [← HI.out, incF, hi])
          rw [← hi]
          have hi16 : i < 16 := by omega
          have hi12 : 12 ≤ i := by omega
          have HIN := Lib.hid hi
          clear hi HI
          have c1 := Row.u8 hrow (i := i) (by rw [hl]; exact hi16)
          have hf := hrow.frozen i
          have HV : Hid (((s'.getD i 0 + 1) % 256) < 256) := Lib.hid (Nat.mod_lt _ (by decide))
          have hx : s'.getD i 0 < 256 := getD_lt HB.out i (by decide)
          have HSET := Lib.hid (hrow.set i (.int .u8 (((s'.getD i 0 + 1) % 256 : Nat) : Int)))
          generalize s'.getD i 0 = x at c1 HI2 HSET HV hx
          clear hrow
          have HXV : Hid (((x : Int) + 1) % 256 = (((x + 1) % 256 : Nat) : Int)) := Lib.hid (by omega)
          have q0 : (0 : Int) ≤ (i : Int) := by omega
          have q1 : (i : Int) < 16 := by omega
          have q2 : (12 : Int) ≤ (i : Int) := by omega
          by_cases hz : (x + 1) % 256 = 0
          · rw [if_pos hz] at HI2
            have hz2 : ((x : Int) + 1) % 256 = 0 := by omega
            rw [hz] at HI2 HSET
            clear hz hx
            go_wp2
            go_roundw
            case rel => exact ⟨n, s'.set i 0, by omega, by congr 1; have := HIN.out; omega, by rw [List.length_set]; exact hl, Lib.hid (mem_set_lt HB.out i 0 (by decide)), Lib.hid (by rw [← HI2.out, HIN.out]; rfl), by rw [← u8s_set]; exact HSET.out, HC.out.setCell (fun _ => rfl) _⟩
            case measure => simp [intOf]; omega
          · rw [if_neg hz] at HI2
            have hz2 : (((x : Int) + 1) % 256 != 0) = true := by simp; omega
            have HE := HI2
            have HR8 : Hid (Row (wr.setCell ⟨gb, i, none⟩ (.int .u8 (((x : Int) + 1) % 256))) gb 26 (u8s (s'.set i ((x + 1) % 256)))) := Lib.hid (by rw [HXV.out, ← u8s_set]; exact HSET.out)
            clear hx hz
            go_wp2
            go_roundw
            case rel => exact ⟨m + 1, by omega, by go_num, by rw [HCN.out, ← HE.out]; exact HR8.out, HC.out.setCell (fun _ => rfl) _⟩
            case measure => simp [intOf]; omega
    · have hmM : m = M := by omega
      subst hmM
      have HCL : Hid ((ctrN first m).length = 16) := Lib.hid (HCLA.out m)
      have HRKz := Lib.hid (HRK7.out.chg hch (by have := HLT.out; omega))
      have HR5y := Lib.hid (HR57.out.chg hch (by have := HLT.out; omega))
      have HCZ := Lib.hid (HCW7.out.andThen hch (fun b h e => by have := HLT.out; omega))
      have q9 : ¬ (m : Int) < (m : Int) := by omega
      clear hrow hch hm hlt
      go_wp2_with (first | ((with_reducible show wpList _ _ _ (⟨some 45, .load 26 _, _, _, _, _⟩ :: _) _ _); refine wpList_load_Row rfl rfl rfl (HRKz.out) Try.underlying26 rfl (by rw [u8s_length, HKL.out]; exact size26) ?_) | ((with_reducible show wpList _ _ _ (⟨some 46, .load 26 _, _, _, _, _⟩ :: _) _ _); refine wpList_load_Row rfl rfl rfl (HROW.out) Try.underlying26 rfl (by rw [u8s_length, HCL.out]; exact size26) ?_) | (go_at_call 18; refine (HE.out _).mono ?_; rintro e w10 ⟨rfl, hc10⟩; have HC10 := Lib.hid (HCZ.out.trans hc10); have HR5z := Lib.hid (HR5y.out.chg hc10 (fun h => h)); clear hc10) | ((with_reducible show wpList _ _ _ (⟨some 12, .alloc 26, _, _, _, _⟩ :: _) _ _); refine wpList_alloc_Row rfl rfl (u8s (List.replicate 16 0)) zero26 ?_; intro w11 hr11 hc11 hs11; have HR11 := Lib.hid hr11; have HC11 := Lib.hid hc11; clear hr11 hc11 hs11) | ((with_reducible show wpList _ _ _ (⟨_, .store 26 (.tmp 12) _, _, _, _, _⟩ :: _) _ _); refine wpList_store_Row (xs := u8s E) rfl rfl rfl (HR11.out) (rfl) (by rw [u8s_length, u8s_length, HEL.out, List.length_replicate]) (by rw [u8s_length, HEL.out]; exact size26) (u8s_oneA _) ?_; intro w12 hr12 hc12 hs12; have HR12 := Lib.hid hr12; have HC12 := Lib.hid (hc12 none_ W (HC10.out.trans HC11.out) (fun h => by have := HC10.out.size; omega)); have HC12b := Lib.hid (hc12 none_ w10 HC11.out (fun h => absurd h (Nat.lt_irrefl _))); clear hr12 hc12 hs12))
      have HR5w := Lib.hid (HR5z.out.chg HC12b.out (fun h => h))
      refine wp_region_held_drew (S := fun w' => Chg none_ w12 w') (by kernel_rfl) ((Chg.refl none_ w12).drew) (fun hch0 => ?_)
      generalize w12.drew = wd2 at hch0 ⊢
      refine wpAnyH_take (i := 0) (v := .slice (some ⟨g5, 0, none⟩) N N) rfl (by kernel_rfl) (by kernel_rfl) (by kernel_rfl) (by first | exact fun _ _ _ h => h | exact fun _ _ _ h => nomatch h.1) (Or.inl ⟨by rfl, fun w_ hw_ => by go_simp⟩) hch0 ?_
      refine wpAnyH_take (i := 1) (v := .int .i64 kk) rfl (by kernel_rfl) (by kernel_rfl) (by kernel_rfl) (by first | exact fun _ _ _ h => h | exact fun _ _ _ h => nomatch h.1) (Or.inl ⟨by rfl, fun w_ hw_ => by go_simp⟩) hch0 ?_
      try simp only [Act.put, List.setIfInBounds_toArray, List.set_cons_zero, List.set_cons_succ, List.getElem_toArray, List.getElem_cons_succ, List.getElem_cons_zero]
      refine wpAnyH_take (i := 2) (v := .slice (dropA (some ⟨g5, 0, none⟩) N kk) (N - kk) (N - kk)) rfl (by kernel_rfl) (by kernel_rfl) (by kernel_rfl) (by first | exact fun _ _ _ h => h | exact fun _ _ _ h => nomatch h.1) (yieldsIf_slice_low (by rfl) 35 5 _ _ rfl (some ⟨g5, 0, none⟩) N N kk rfl rfl Try.underlying35 size5 (by have := HN.out; omega) rfl) hch0 ?_
      refine wpAnyH_take (i := 3) (v := .slice (some ⟨w10.heap.size, 0, none⟩) 16 16) rfl (by kernel_rfl) (by kernel_rfl) (by kernel_rfl) (by first | exact fun _ _ _ h => h | exact fun _ _ _ h => nomatch h.1) (Or.inl ⟨by rfl, fun w_ hw_ => by go_simp⟩) hch0 ?_
      try simp only [Act.put, List.setIfInBounds_toArray, List.set_cons_zero, List.set_cons_succ, List.getElem_toArray, List.getElem_cons_succ, List.getElem_cons_zero]
      refine wpAnyH_ready (rs := [4]) (by kernel_rfl) (by simp) ?_
      refine AllReadyH.cons rfl (fun K hK => ?_) AllReadyH.nil
      rw [if_pos (by rfl)]
      try simp only [Act.put, List.setIfInBounds_toArray, List.set_cons_zero, List.set_cons_succ, List.getElem_toArray, List.getElem_cons_succ, List.getElem_cons_zero]
      go_simp
      refine (HM.out _ _ _ (HR12.out.chg hch0 (fun h => h)) (HR5w.out.chg hch0 (fun h => h))).mono ?_
      rintro e x4 ⟨rfl, nk, rfl⟩
      have hch4 : Chg none_ w12 (wd2.drewN nk) := hch0.drewN nk
      generalize wd2.drewN nk = x5 at hch4 ⊢
      refine hK.out _ _ (hch4) (fun _ => ?_)
      clear hK K
      try simp only [Act.put, List.setIfInBounds_toArray, List.set_cons_zero, List.set_cons_succ, List.getElem_toArray, List.getElem_cons_succ, List.getElem_cons_zero]
      refine wpAnyH_take (i := 5) (v := .bool true) rfl (by kernel_rfl) (by kernel_rfl) (by kernel_rfl) (by first | exact fun _ _ _ h => h | exact fun _ _ _ h => nomatch h.1) (Or.inl ⟨by rfl, fun w_ hw_ => by go_simp⟩) hch4 ?_
      try simp only [Act.put, List.setIfInBounds_toArray, List.set_cons_zero, List.set_cons_succ, List.getElem_toArray, List.getElem_cons_succ, List.getElem_cons_zero]
      refine wpAnyH_done (by kernel_rfl) ?_ _
      go_wp2
      go_ret
      exact ⟨rfl, HC12.out.trans hch4⟩
end Go.Proofs.Ytbohpnbiemokpaa
