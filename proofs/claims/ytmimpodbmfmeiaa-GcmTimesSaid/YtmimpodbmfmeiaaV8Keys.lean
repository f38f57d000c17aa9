/- Layer 8 (aes): a key's round keys, the program's. -/
import Derived.Test.YtmimpodbmfmeiaaV8Enc
import Derived.Test.YtmimpodbmfmeiaaV8KeyMath
namespace Go.Proofs.Ytmimpodbmfmeiaa
open Go.RowKit

section
variable {P : Program} {ops : Array Oper} {rest : List Oper} {o : Oper} {a : Act} {w : World} {Q : Exit → Act → World → Prop}
/-- A part of a row is stored. -/
theorem wpList_store_Mid {ty : TypeId} {x y : Operand} (ho : o.op = .store ty x y) (hw : Region.wanted o (yielded ops a.tmps) = true) {g n : Nat} {e : TypeId} {pre ys post xs : List Value} (hn : n = pre.length) (hx : a.eval x = .pointer (some ⟨g, n, none⟩)) (h : Row w g e (pre ++ ys ++ post))
    (hy : a.eval y = .agg xs.toArray) (hl : xs.length = ys.length) (hi : (P.info? ty).map (·.size) = some xs.length) (h1 : xs.all (·.oneCell') = true)
    (k : ∀ w', Row w' g e (pre ++ xs ++ post) → (∀ S w0, Chg S w0 w → (g < w0.heap.size → S g) → Chg S w0 w') → w'.heap.size = w.heap.size → wpList P ops Q rest (a.put o.dst undef) w') : wpList P ops Q (o :: rest) a w := by
  subst hn
  exact BigFrame.wpList_want hw fun _ hK => wp_store_mid ty x y ho g pre.length xs.toArray hx hy (h.there pre.length _ (by simp; omega)) (by simpa using hi) (by simpa using h1)
    (hK _ _ (k _ (by simpa using h.storeMid hl) (fun S w0 hc hg => by simpa using hc.setCells xs pre.length hg) (setCells_size _ _ _ _)))
end
theorem u8s_app (a b : List Nat) : u8s (a ++ b) = u8s a ++ u8s b := by simp [u8s]
theorem zero28 : (Try.prog.info? 74).map (·.zero) = some (some (.agg (u8s (List.replicate 176 0)).toArray)) := by kernel_rfl
theorem size28 : (Try.prog.info? 74).map (·.size) = some 176 := by kernel_rfl
theorem size26 : (Try.prog.info? 22).map (·.size) = some 16 := by kernel_rfl
theorem zero27 : (Try.prog.info? 73).map (·.zero) = some (some (.agg (u8s (List.replicate 4 0)).toArray)) := by kernel_rfl
theorem range_sub {w : World} {g : Nat} {e : TypeId} {l : List Nat} (h : Row w g e (u8s l)) (o : Nat) (xs : List Nat) (hx : ∀ j, j < xs.length → o + j < l.length ∧ l.getD (o + j) 0 = xs.getD j 0) : w.rangeAt g o (u8s xs) := h.rangeMid o _ (fun j v hv => by
  rw [u8s_get] at hv ⊢
  have hj : j < xs.length := by
    rcases Nat.lt_or_ge j xs.length with h | h
    · exact h
    · rw [List.getElem?_eq_none h] at hv; cases hv
  obtain ⟨h1, h2⟩ := hx j hj
  rw [← hv, List.getElem?_eq_getElem h1, List.getElem?_eq_getElem hj]
  simp only [List.getD_eq_getElem?_getD, List.getElem?_eq_getElem h1, List.getElem?_eq_getElem hj] at h2
  rw [show l[o + j] = xs[j] from by simpa using h2])
theorem prevW_len (l : List Nat) (i : Nat) : (prevW l i).length = 4 := rfl
theorem prev_range {w : World} {g : Nat} {e : TypeId} (key : List Nat) (i : Nat) (h : Row w g e (u8s (kP key (4 * i)))) (hi : 4 ≤ i) (h44 : i ≤ 44) : w.rangeAt g (4 * (i - 1)) (u8s (prevW (keysN key (4 * i)) i)) :=
  range_sub h _ _ (fun j hj => by
    rw [prevW_len] at hj
    refine ⟨by rw [kP_len _ _ (by omega)]; omega, ?_⟩
    rw [kP_get _ _ _ (by omega)]
    rcases (by omega : j = 0 ∨ j = 1 ∨ j = 2 ∨ j = 3) with rfl | rfl | rfl | rfl <;> rfl)

theorem nextW_lt {l : List Nat} (hl : ∀ j, l.getD j 0 < 256) (i : Nat) : ∀ x ∈ nextW l i, x < 256 := by
  intro x hx
  unfold nextW at hx
  split at hx
  · simp only [turnW, List.mem_cons, List.not_mem_nil, or_false] at hx
    rcases hx with rfl | rfl | rfl | rfl <;> first | exact xor8_lt (sbox_lt _) (rcon_lt _) | exact sbox_lt _
  · simp only [prevW, List.mem_cons, List.not_mem_nil, or_false] at hx
    rcases hx with rfl | rfl | rfl | rfl <;> exact hl _

set_option maxRecDepth 100000 in
set_option maxHeartbeats 3000000 in
theorem keys_any (tb : Nat) (key : List Nat) (w : World) (hk : key.length = 16) (hkb : ∀ x ∈ key, x < 256) (ht : Row w tb 92 (u8s sboxL)) : Calls Try.prog 46 #[.agg (u8s key).toArray, .pointer (some ⟨tb, 0, none⟩)] w fun e w' => e = .returned (.agg (u8s (keysN key 176)).toArray) ∧ Chg none_ w w' := by
  have HK := Lib.hid hk
  have HKB := Lib.hid hkb
  have HT := Lib.hid ht
  have HTL := Lib.hid ht.lt
  clear hk hkb ht
  go_enter Try.func46, Try.ntmps46
  go_wp2_with (first | ((with_reducible show wpList _ _ _ (⟨_, .box 22 _, _, _, _, _⟩ :: _) _ _); refine wpList_box_Row rfl rfl (u8s key) rfl ?_; intro w1 hr1 hc1 hs1; have HR1 := Lib.hid hr1; have HC1 := Lib.hid hc1; clear hr1 hc1 hs1) | ((with_reducible show wpList _ _ _ (⟨some 4, .alloc 74, _, _, _, _⟩ :: _) _ _); refine wpList_alloc_Row rfl rfl (u8s (List.replicate 176 0)) zero28 ?_; intro w2 hr2 hc2 hs2; have HR2 := Lib.hid hr2; have HC2 := Lib.hid (HC1.out.trans hc2); have HR1b := Lib.hid (HR1.out.chg hc2 (fun h => h)); clear hr2 hc2 hs2) | ((with_reducible show wpList _ _ _ (⟨some 5, .alloc 74, _, _, _, _⟩ :: _) _ _); refine wpList_alloc_Row rfl rfl (u8s (List.replicate 176 0)) zero28 ?_; intro w3 hr3 hc3 hs3; have HR3 := Lib.hid hr3; have HC3 := Lib.hid (HC2.out.trans hc3); have HR1c := Lib.hid (HR1b.out.chg hc3 (fun h => h)); have HR2c := Lib.hid (HR2.out.chg hc3 (fun h => h)); clear hr3 hc3 hs3))
  have HG1 := Lib.hid (show w.heap.size < w1.heap.size from HR1.out.lt)
  have HG2 := Lib.hid (show w1.heap.size < w2.heap.size from HR2.out.lt)
  have HG3 := Lib.hid (show w2.heap.size < w3.heap.size from HR3.out.lt)
  have HT3 := Lib.hid (HT.out.chg HC3.out (fun h => h))
  clear HR1 HR1b HR2 HC1 HC2
  go_loopw [6, 11, 13] (fun _ i _ wr => ∃ k : Nat, k ≤ 4 ∧ i = .int .i64 k ∧ Row wr w2.heap.size 74 (u8s (kP key (4 * k))) ∧ Chg (· = w2.heap.size) w3 wr) (fun _ i _ _ => 4 - (intOf i).toNat)
  case atStart => exact ⟨0, Nat.zero_le _, rfl, HR3.out, Chg.refl _ _⟩
  case round =>
    obtain ⟨k, hk, rfl, hrow, hch⟩ := hrel
    have HROW := Lib.hid hrow
    have HC := Lib.hid hch
    by_cases hlt : k < 4
    · have HSP := Lib.hid (kP_split key HK.out k hlt)
      have HROWs : Hid (Row wr w2.heap.size 74 (u8s (key.take (4 * k)) ++ u8s (List.replicate 4 0) ++ u8s (List.replicate (172 - 4 * k) 0))) := Lib.hid (by rw [← u8s_app, ← u8s_app, ← HSP.out.1]; exact hrow)
      have HRG : Hid (wr.rangeAt w.heap.size (4 * k) (u8s ((key.drop (4 * k)).take 4))) := Lib.hid (range_sub (HR1c.out.chg hch (by have := HG1.out; have := HG2.out; omega)) _ _ (fun j hj => by
        have hj4 : j < 4 := by simp at hj; omega
        refine ⟨by have := HK.out; omega, ?_⟩
        simp only [List.getD_eq_getElem?_getD, List.getElem?_take, if_pos hj4, List.getElem?_drop]))
      have HDL : Hid (((key.drop (4 * k)).take 4).length = 4) := Lib.hid (by have := HK.out; simp; omega)
      have Q1 : Hid (Value.int .i64 ((k : Int) * 4) = .int .i64 ((4 * k : Nat) : Int)) := Lib.hid (by congr 1; omega)
      have HTK : Hid ((u8s (key.take (4 * k))).length = 4 * k) := Lib.hid (by have := HK.out; simp; omega)
      have HW4 : Hid (4 * k * 1 = 4 * k) := Lib.hid (by omega)
      clear hrow hch
      have q0 : (0 : Int) ≤ (k : Int) := by omega
      have q1 : (k : Int) < 44 := by omega
      go_wp2_with (first | ((with_reducible show wpList _ _ _ (⟨some 17, _, _, _, _, _⟩ :: _) _ _); refine wpList_slice_arr_low rfl 22 5 _ _ rfl 16 1 (4 * k) w.heap.size 0 rfl (by show Value.int .i64 _ = _; first | exact Q1.out | rfl) Try.underlying22 size5 (by omega) ?_; rw [HW4.out, Nat.zero_add]) | ((with_reducible show wpList _ _ _ (⟨some 18, _, _, _, _, _⟩ :: _) _ _); refine wpList_arrayAt rfl 73 5 4 _ rfl (some ⟨w.heap.size, 4 * k, none⟩) (16 - 4 * k) (16 - 4 * k) rfl Try.underlying73 (by omega) ?_) | ((with_reducible show wpList _ _ _ (⟨some 19, .load 73 _, _, _, _, _⟩ :: _) _ _); refine wpList_load_Mid rfl rfl rfl HRG.out Try.underlying73 rfl (by rw [u8s_length, HDL.out]; exact size4) ?_) | ((with_reducible show wpList _ _ _ (⟨_, .store 73 _ _, _, _, _, _⟩ :: _) _ _); refine wpList_store_Mid (xs := u8s ((key.drop (4 * k)).take 4)) rfl rfl HTK.out.symm (by show Value.pointer _ = _; congr 3; omega) HROWs.out rfl (by rw [u8s_length, u8s_length, HDL.out]; rfl) (by rw [u8s_length, HDL.out]; exact size4) (u8s_oneA _) ?_; intro w5 hr5 hc5 hs5; have HR5 := Lib.hid hr5; have HC5 := Lib.hid hc5; clear hr5 hc5 hs5))
      go_roundw
      case rel => exact ⟨k + 1, by omega, by go_num, by rw [← HSP.out.2, u8s_app, u8s_app]; exact HR5.out, HC5.out (· = w2.heap.size) w3 HC.out (fun _ => rfl)⟩
      case measure => simp [intOf]; omega
    · have hk4 : k = 4 := by omega
      subst hk4
      clear hrow hk hlt
      have HLB : Hid (∀ i j, (keysN key i).getD j 0 < 256) := Lib.hid (fun i j => getD_lt (keysN_lt HKB.out i) j (by decide))
      have HNT := Lib.hid (show ¬ tb = w2.heap.size by have := HTL.out; have := HG1.out; have := HG2.out; omega)
      have HT4 := Lib.hid (HT3.out.chg hch HNT.out)
      have HR2d := Lib.hid (HR2c.out.chg hch (by have := HG2.out; omega))
      have HCW := Lib.hid (HC3.out.andThen hch (fun b h e => by have := HG1.out; have := HG2.out; omega))
      have HSZ := Lib.hid (show w3.heap.size ≤ wr.heap.size from hch.size)
      clear hch HC HR1c HR3 HC3 HT3
      obtain ⟨wA, hwA⟩ : ∃ x, x = wr := ⟨_, rfl⟩
      subst hwA
      try simp only [show ((4 : Nat) : Int) = 4 from rfl]
      go_wp2
      go_loopw [7, 8, 9, 10] (fun p i _ _ wr2 => ∃ i' : Nat, 4 ≤ i' ∧ i' ≤ 44 ∧ i = .int .i64 i' ∧ p = .int .u8 (rcon ((i' - 1) / 4) : Nat) ∧ Row wr2 w2.heap.size 74 (u8s (kP key (4 * i'))) ∧ Chg (· = w2.heap.size) wA wr2) (fun _ i _ _ _ => 44 - (intOf i).toNat)
      case atStart => exact ⟨4, by omega, by omega, rfl, rfl, HROW.out, Chg.refl _ _⟩
      case round =>
        obtain ⟨i, h4, h44, rfl, rfl, hrow, hch⟩ := hrel
        obtain ⟨wB, hwB⟩ : ∃ x, x = wr := ⟨_, rfl⟩
        subst hwB
        have HROWi := Lib.hid hrow
        have HCi := Lib.hid hch
        by_cases hlt : i < 44
        · have HPR : Hid (wB.rangeAt w2.heap.size (4 * (i - 1)) (u8s (prevW (keysN key (4 * i)) i))) := Lib.hid (prev_range key i hrow h4 h44)
          have HTB := Lib.hid (HT4.out.chg hch HNT.out)
          have Q5 : Hid ((some (⟨w2.heap.size, (i - 1) * 4, none⟩ : Addr)) = some ⟨w2.heap.size, 4 * (i - 1), none⟩) := Lib.hid (by rw [Nat.mul_comm])
          have s0 : (0 : Int) ≤ (i : Int) - 1 := by omega
          have s1 : (i : Int) - 1 < 44 := by omega
          have s2 : ((i : Int) - 1).toNat = i - 1 := by omega
          have HGB := Lib.hid (show w2.heap.size < wB.heap.size from hrow.lt)
          have HTBL := Lib.hid HTB.out.lt
          clear hrow hch
          by_cases hm4 : i % 4 = 0
          · have hmi : (i : Int) % 4 = 0 := by omega
            have HNW : Hid (nextW (keysN key (4 * i)) i = turnW (prevW (keysN key (4 * i)) i) (rcon ((i - 1) / 4))) := Lib.hid (by rw [nextW, if_pos hm4, show (i - 1) / 4 = i / 4 - 1 from by omega])
            have HPW : Hid (Value.int .u8 ((dbl (rcon ((i - 1) / 4)) : Nat) : Int) = .int .u8 ((rcon ((i + 1 - 1) / 4) : Nat) : Int)) := Lib.hid (by rw [show (i + 1 - 1) / 4 = (i - 1) / 4 + 1 from by omega, rcon])
            have HM4 := Lib.hid hm4
            clear hm4
            go_wp2_with (first | ((with_reducible show wpList _ _ _ (⟨some 29, .load 73 _, _, _, _, _⟩ :: _) _ _); refine wpList_load_Mid rfl rfl (by show Value.pointer _ = _; rw [Q5.out]) HPR.out Try.underlying73 rfl (by rw [u8s_length, prevW_len]; exact size4) ?_) | ((with_reducible show wpList _ _ _ (⟨_, .alloc 73, _, _, _, _⟩ :: _) _ _); refine wpList_alloc_Row rfl rfl (u8s (List.replicate 4 0)) zero27 ?_; intro w5 hr5 hc5 hs5; have HR5 := Lib.hid hr5; have HC5 := Lib.hid hc5; clear hr5 hc5 hs5) | ((with_reducible show wpList _ _ _ (⟨_, .store 73 _ _, _, _, _, _⟩ :: _) _ _); refine wpList_store_Row (xs := u8s (prevW (keysN key (4 * i)) i)) rfl rfl rfl HR5.out rfl (by rw [u8s_length, u8s_length, prevW_len]; rfl) (by rw [u8s_length, prevW_len]; exact size4) (u8s_oneA _) ?_; intro w6 hr6 hc6 hs6; have HR6 := Lib.hid hr6; have HC6 := Lib.hid (hc6 none_ wB HC5.out (fun h => absurd h (Nat.lt_irrefl _))); clear hr6 hc6 hs6))
            have d0 := Row.u8 HR6.out (i := 0) (by rw [prevW_len]; decide)
            have d1 := Row.u8 HR6.out (i := 1) (by rw [prevW_len]; decide)
            have d2 := Row.u8 HR6.out (i := 2) (by rw [prevW_len]; decide)
            have d3 := Row.u8 HR6.out (i := 3) (by rw [prevW_len]; decide)
            have HPB : Hid (∀ j, (prevW (keysN key (4 * i)) i).getD j 0 < 256) := Lib.hid (fun j => getD_lt (fun x hx => by simp only [prevW, List.mem_cons, List.not_mem_nil, or_false] at hx; rcases hx with rfl | rfl | rfl | rfl <;> exact HLB.out _ _) j (by decide))
            have HTB6 := Lib.hid (HTB.out.chg HC6.out (fun h => h))
            have b0 := Row.u8 HTB6.out (i := (prevW (keysN key (4 * i)) i).getD 0 0) (by rw [show sboxL.length = 256 by decide +kernel]; exact HPB.out 0)
            have b1 := Row.u8 HTB6.out (i := (prevW (keysN key (4 * i)) i).getD 1 0) (by rw [show sboxL.length = 256 by decide +kernel]; exact HPB.out 1)
            have b2 := Row.u8 HTB6.out (i := (prevW (keysN key (4 * i)) i).getD 2 0) (by rw [show sboxL.length = 256 by decide +kernel]; exact HPB.out 2)
            have b3 := Row.u8 HTB6.out (i := (prevW (keysN key (4 * i)) i).getD 3 0) (by rw [show sboxL.length = 256 by decide +kernel]; exact HPB.out 3)
            have hp0 : (((prevW (keysN key (4 * i)) i).getD 0 0 : Nat) : Int) < 256 := by have := HPB.out 0; omega
            have hp1 : (((prevW (keysN key (4 * i)) i).getD 1 0 : Nat) : Int) < 256 := by have := HPB.out 1; omega
            have hp2 : (((prevW (keysN key (4 * i)) i).getD 2 0 : Nat) : Int) < 256 := by have := HPB.out 2; omega
            have hp3 : (((prevW (keysN key (4 * i)) i).getD 3 0 : Nat) : Int) < 256 := by have := HPB.out 3; omega
            have HTW : Hid (u8s (turnW (prevW (keysN key (4 * i)) i) (rcon ((i - 1) / 4))) = [.int .u8 (bits .xor .u8 ((sbox ((prevW (keysN key (4 * i)) i).getD 1 0) : Nat) : Int) ((rcon ((i - 1) / 4) : Nat) : Int)), .int .u8 ((sbox ((prevW (keysN key (4 * i)) i).getD 2 0) : Nat) : Int), .int .u8 ((sbox ((prevW (keysN key (4 * i)) i).getD 3 0) : Nat) : Int), .int .u8 ((sbox ((prevW (keysN key (4 * i)) i).getD 0 0) : Nat) : Int)]) := Lib.hid (by rw [u8_xor_nat _ _ (sbox_lt _) (rcon_lt _)]; rfl)
            have sb : ∀ a, sboxL.getD a 0 = sbox a := fun _ => rfl
            rw [sb] at b0 b1 b2 b3
            generalize (prevW (keysN key (4 * i)) i).getD 0 0 = p0 at d0 b0 hp0 HTW
            generalize (prevW (keysN key (4 * i)) i).getD 1 0 = p1 at d1 b1 hp1 HTW
            generalize (prevW (keysN key (4 * i)) i).getD 2 0 = p2 at d2 b2 hp2 HTW
            generalize (prevW (keysN key (4 * i)) i).getD 3 0 = p3 at d3 b3 hp3 HTW
            generalize sbox p0 = t0 at b0 HTW
            generalize sbox p1 = t1 at b1 HTW
            generalize sbox p2 = t2 at b2 HTW
            generalize sbox p3 = t3 at b3 HTW
            have z0 : (0 : Int) ≤ (p0 : Int) := by omega
            have z1 : (0 : Int) ≤ (p1 : Int) := by omega
            have z2 : (0 : Int) ≤ (p2 : Int) := by omega
            have z3 : (0 : Int) ≤ (p3 : Int) := by omega
            have HRC := Lib.hid (rcon_lt ((i - 1) / 4))
            clear sb
            refine wp_region_still_tail 27 (by kernel_rfl) (by kernel_rfl) ?_
            simp only [List.take_succ_cons, List.take_zero, List.drop_succ_cons, List.drop_zero]
            iterate 27 still_step
            refine wpStill_nil ?_
            change wpList _ _ _ _ _ (World.drew _)
            go_wp2_with (first | ((with_reducible show wpList _ _ _ (⟨_, .store 73 _ _, _, _, _, _⟩ :: _) _ _); refine wpList_store_Row (xs := u8s (turnW (prevW (keysN key (4 * i)) i) (rcon ((i - 1) / 4)))) rfl rfl rfl HR6.out.drew (by rw [HTW.out]; rfl) (by rw [u8s_length, u8s_length, prevW_len]; rfl) (by rw [u8s_length]; exact size4) (u8s_oneA _) ?_; intro w7 hr7 hc7 hs7; have HR7 := Lib.hid hr7; have HC7 := Lib.hid (hc7 none_ wB HC6.out.drew (fun h => absurd h (Nat.lt_irrefl _))); clear hr7 hc7 hs7) | (go_at_call 53; refine (double_any (rcon ((i - 1) / 4)) HRC.out _).mono ?_; rintro e w' ⟨rfl, rfl⟩))
            have HXR : Hid (Row w7 wB.heap.size 73 (u8s (nextW (keysN key (4 * i)) i))) := Lib.hid (by rw [HNW.out]; exact HR7.out)
            have HXB : Hid (∀ j, (nextW (keysN key (4 * i)) i).getD j 0 < 256) := Lib.hid (fun j => getD_lt (nextW_lt (HLB.out _) i) j (by decide))
            have HXN := Lib.hid (show ¬ wB.heap.size = w2.heap.size by have := HGB.out; omega)
            have HROWx := Lib.hid (HROWi.out.chg HC7.out (fun h => h))
            have HCx := Lib.hid (HCi.out.trans (HC7.out.mono (fun _ _ h => h.elim)))
            clear HR5 HC5 HR6 HC6 HR7 HC7 HTB6 HTW d0 d1 d2 d3 b0 b1 b2 b3 hp0 hp1 hp2 hp3 z0 z1 z2 z3 HPR Q5 s0 s1 s2 hmi
            obtain ⟨wx, hwx⟩ : ∃ x, x = w7 := ⟨_, rfl⟩
            subst hwx
            go_loopw [10, 62, 64] (fun _ j _ w' => ∃ m : Nat, m ≤ 4 ∧ j = .int .i64 m ∧ Row w' w2.heap.size 74 (u8s (kP key (4 * i + m))) ∧ Chg (· = w2.heap.size) wx w') (fun _ j _ _ => 4 - (intOf j).toNat)
            case atStart => exact ⟨0, Nat.zero_le _, rfl, HROWx.out, Chg.refl _ _⟩
            case round =>
              obtain ⟨m, hm, rfl, hrow, hch⟩ := hrel
              have HROWm := Lib.hid hrow
              have HCm := Lib.hid hch
              by_cases hlm : m < 4
              · have c1 := Row.u8 hrow (i := 4 * (i - 4) + m) (by rw [kP_len _ _ (by omega)]; omega)
                rw [kP_get _ _ _ (by omega), keysN_pre key (4 * i) _ (by omega) m] at c1
                have c2 := Row.u8 hrow (i := 4 * i + m) (by rw [kP_len _ _ (by omega)]; omega)
                have c3 := Row.u8 (HXR.out.chg hch HXN.out) (i := m) (by rw [nextW_len]; exact hlm)
                have hf := hrow.frozen (4 * i + m)
                have HB1 : Hid ((keysN key (4 * i)).getD (4 * (i - 4) + m) 0 < 256) := Lib.hid (HLB.out _ _)
                have HB2 : Hid ((nextW (keysN key (4 * i)) i).getD m 0 < 256) := Lib.hid (HXB.out _)
                have HXX := Lib.hid (u8_xor_nat _ _ HB1.out HB2.out)
                have HSET := Lib.hid (hrow.set (4 * i + m) (.int .u8 ((((keysN key (4 * i)).getD (4 * (i - 4) + m) 0 ^^^ (nextW (keysN key (4 * i)) i).getD m 0 : Nat)) : Int)))
                have HKS := Lib.hid (kP_set key (4 * i + m) (by omega))
                have HKW := Lib.hid (keyAt_word key i m h4 hlm)
                rw [HKW.out] at HKS
                generalize (keysN key (4 * i)).getD (4 * (i - 4) + m) 0 = x at c1 HXX HSET HKS HB1
                generalize (nextW (keysN key (4 * i)) i).getD m 0 = y at c3 HXX HSET HKS HB2
                generalize (kP key (4 * i + m)).getD (4 * i + m) 0 = z at c2
                have c1' : wr.cell? ⟨w2.heap.size, (i - 4) * 4 + m, none⟩ = some (.int .u8 (x : Int)) := by rw [Nat.mul_comm]; exact c1
                have c2' : wr.cell? ⟨w2.heap.size, i * 4 + m, none⟩ = some (.int .u8 (z : Int)) := by rw [Nat.mul_comm]; exact c2
                have hf' : wr.frozen? ⟨w2.heap.size, i * 4 + m, none⟩ = false := by rw [Nat.mul_comm]; exact hf
                clear hrow hch HKW c1 c2 hf
                have r0 : (0 : Int) ≤ (m : Int) := by omega
                have r1 : (m : Int) < 4 := by omega
                have r2 : (0 : Int) ≤ (i : Int) - 4 := by omega
                have r3 : (i : Int) - 4 < 44 := by omega
                have r4 : ((i : Int) - 4).toNat = i - 4 := by omega
                have r5 : (0 : Int) ≤ (i : Int) := by omega
                have r6 : (i : Int) < 44 := by omega
                go_wp2
                go_region
                go_wp2
                go_roundw
                case rel => exact ⟨m + 1, by omega, by go_num, by rw [HXX.out, ← Nat.add_assoc, ← HKS.out, ← u8s_set, Nat.mul_comm i 4]; exact HSET.out, (HCm.out.setCell (fun _ => rfl) _).drew⟩
                case measure => simp [intOf]; omega
              · have hm4 : m = 4 := by omega
                subst hm4
                try simp only [show ((4 : Nat) : Int) = 4 from rfl]
                clear hrow hch hm hlm
                go_wp2
                go_roundw
                case rel => exact ⟨i + 1, by omega, by omega, by go_num, HPW.out, HROWm.out, HCx.out.trans HCm.out⟩
                case measure => simp [intOf]; omega
          · have hmi : ¬ (i : Int) % 4 = 0 := by omega
            have HNW : Hid (nextW (keysN key (4 * i)) i = prevW (keysN key (4 * i)) i) := Lib.hid (by rw [nextW, if_neg hm4])
            have HPW : Hid (Value.int .u8 ((rcon ((i - 1) / 4) : Nat) : Int) = .int .u8 ((rcon ((i + 1 - 1) / 4) : Nat) : Int)) := Lib.hid (by rw [show (i + 1 - 1) / 4 = (i - 1) / 4 from by omega])
            clear hm4
            go_wp2_with (first | ((with_reducible show wpList _ _ _ (⟨some 29, .load 73 _, _, _, _, _⟩ :: _) _ _); refine wpList_load_Mid rfl rfl (by show Value.pointer _ = _; rw [Q5.out]) HPR.out Try.underlying73 rfl (by rw [u8s_length, prevW_len]; exact size4) ?_) | ((with_reducible show wpList _ _ _ (⟨_, .alloc 73, _, _, _, _⟩ :: _) _ _); refine wpList_alloc_Row rfl rfl (u8s (List.replicate 4 0)) zero27 ?_; intro w5 hr5 hc5 hs5; have HR5 := Lib.hid hr5; have HC5 := Lib.hid hc5; clear hr5 hc5 hs5) | ((with_reducible show wpList _ _ _ (⟨_, .store 73 _ _, _, _, _, _⟩ :: _) _ _); refine wpList_store_Row (xs := u8s (prevW (keysN key (4 * i)) i)) rfl rfl rfl HR5.out rfl (by rw [u8s_length, u8s_length, prevW_len]; rfl) (by rw [u8s_length, prevW_len]; exact size4) (u8s_oneA _) ?_; intro w6 hr6 hc6 hs6; have HR6 := Lib.hid hr6; have HC6 := Lib.hid (hc6 none_ wB HC5.out (fun h => absurd h (Nat.lt_irrefl _))); clear hr6 hc6 hs6))
            have HXR : Hid (Row w6 wB.heap.size 73 (u8s (nextW (keysN key (4 * i)) i))) := Lib.hid (by rw [HNW.out]; exact HR6.out)
            have HXB : Hid (∀ j, (nextW (keysN key (4 * i)) i).getD j 0 < 256) := Lib.hid (fun j => getD_lt (nextW_lt (HLB.out _) i) j (by decide))
            have HXN := Lib.hid (show ¬ wB.heap.size = w2.heap.size by have := HGB.out; omega)
            have HROWx := Lib.hid (HROWi.out.chg HC6.out (fun h => h))
            have HCx := Lib.hid (HCi.out.trans (HC6.out.mono (fun _ _ h => h.elim)))
            clear HR5 HC5 HR6 HC6 HPR Q5 s0 s1 s2 hmi
            obtain ⟨wx, hwx⟩ : ∃ x, x = w6 := ⟨_, rfl⟩
            subst hwx
            go_loopw [10, 62, 64] (fun _ j _ w' => ∃ m : Nat, m ≤ 4 ∧ j = .int .i64 m ∧ Row w' w2.heap.size 74 (u8s (kP key (4 * i + m))) ∧ Chg (· = w2.heap.size) wx w') (fun _ j _ _ => 4 - (intOf j).toNat)
            case atStart => exact ⟨0, Nat.zero_le _, rfl, HROWx.out, Chg.refl _ _⟩
            case round =>
              obtain ⟨m, hm, rfl, hrow, hch⟩ := hrel
              have HROWm := Lib.hid hrow
              have HCm := Lib.hid hch
              by_cases hlm : m < 4
              · have c1 := Row.u8 hrow (i := 4 * (i - 4) + m) (by rw [kP_len _ _ (by omega)]; omega)
                rw [kP_get _ _ _ (by omega), keysN_pre key (4 * i) _ (by omega) m] at c1
                have c2 := Row.u8 hrow (i := 4 * i + m) (by rw [kP_len _ _ (by omega)]; omega)
                have c3 := Row.u8 (HXR.out.chg hch HXN.out) (i := m) (by rw [nextW_len]; exact hlm)
                have hf := hrow.frozen (4 * i + m)
                have HB1 : Hid ((keysN key (4 * i)).getD (4 * (i - 4) + m) 0 < 256) := Lib.hid (HLB.out _ _)
                have HB2 : Hid ((nextW (keysN key (4 * i)) i).getD m 0 < 256) := Lib.hid (HXB.out _)
                have HXX := Lib.hid (u8_xor_nat _ _ HB1.out HB2.out)
                have HSET := Lib.hid (hrow.set (4 * i + m) (.int .u8 ((((keysN key (4 * i)).getD (4 * (i - 4) + m) 0 ^^^ (nextW (keysN key (4 * i)) i).getD m 0 : Nat)) : Int)))
                have HKS := Lib.hid (kP_set key (4 * i + m) (by omega))
                have HKW := Lib.hid (keyAt_word key i m h4 hlm)
                rw [HKW.out] at HKS
                generalize (keysN key (4 * i)).getD (4 * (i - 4) + m) 0 = x at c1 HXX HSET HKS HB1
                generalize (nextW (keysN key (4 * i)) i).getD m 0 = y at c3 HXX HSET HKS HB2
                generalize (kP key (4 * i + m)).getD (4 * i + m) 0 = z at c2
                have c1' : wr.cell? ⟨w2.heap.size, (i - 4) * 4 + m, none⟩ = some (.int .u8 (x : Int)) := by rw [Nat.mul_comm]; exact c1
                have c2' : wr.cell? ⟨w2.heap.size, i * 4 + m, none⟩ = some (.int .u8 (z : Int)) := by rw [Nat.mul_comm]; exact c2
                have hf' : wr.frozen? ⟨w2.heap.size, i * 4 + m, none⟩ = false := by rw [Nat.mul_comm]; exact hf
                clear hrow hch HKW c1 c2 hf
                have r0 : (0 : Int) ≤ (m : Int) := by omega
                have r1 : (m : Int) < 4 := by omega
                have r2 : (0 : Int) ≤ (i : Int) - 4 := by omega
                have r3 : (i : Int) - 4 < 44 := by omega
                have r4 : ((i : Int) - 4).toNat = i - 4 := by omega
                have r5 : (0 : Int) ≤ (i : Int) := by omega
                have r6 : (i : Int) < 44 := by omega
                go_wp2
                go_region
                go_wp2
                go_roundw
                case rel => exact ⟨m + 1, by omega, by go_num, by rw [HXX.out, ← Nat.add_assoc, ← HKS.out, ← u8s_set, Nat.mul_comm i 4]; exact HSET.out, (HCm.out.setCell (fun _ => rfl) _).drew⟩
                case measure => simp [intOf]; omega
              · have hm4 : m = 4 := by omega
                subst hm4
                try simp only [show ((4 : Nat) : Int) = 4 from rfl]
                clear hrow hch hm hlm
                go_wp2
                go_roundw
                case rel => exact ⟨i + 1, by omega, by omega, by go_num, HPW.out, HROWm.out, HCx.out.trans HCm.out⟩
                case measure => simp [intOf]; omega
        · have hi44 : i = 44 := by omega
          subst hi44
          clear hrow hch hlt h4 h44
          rw [show 4 * 44 = 176 from rfl, kP_all] at HROWi
          have HKL := Lib.hid (keysN_len key 176)
          go_wp2_with (first | ((with_reducible show wpList _ _ _ (⟨some 80, .load 74 _, _, _, _, _⟩ :: _) _ _); refine wpList_load_Row rfl rfl rfl HROWi.out Try.underlying74 rfl (by rw [u8s_length, HKL.out]; exact size28) ?_) | ((with_reducible show wpList _ _ _ (⟨_, .store 74 _ _, _, _, _, _⟩ :: _) _ _); refine wpList_store_Row (xs := u8s (keysN key 176)) rfl rfl rfl (HR2d.out.chg HCi.out (by have := HG2.out; omega)) rfl (by rw [u8s_length, u8s_length, HKL.out, List.length_replicate]) (by rw [u8s_length, HKL.out]; exact size28) (u8s_oneA _) ?_; intro w9 hr9 hc9 hs9; have HR9 := Lib.hid hr9; have HC9 := Lib.hid hc9; clear hr9 hc9 hs9))
          refine ret_row rfl rfl HR9.out Try.underlying74 rfl (by rw [u8s_length, HKL.out]; exact size28) rfl ?_
          exact ⟨rfl, HC9.out none_ w (HCW.out.andThen HCi.out (fun b h e => by have := HG1.out; have := HG2.out; omega)) (fun h => by have := HG1.out; omega)⟩
end Go.Proofs.Ytmimpodbmfmeiaa
