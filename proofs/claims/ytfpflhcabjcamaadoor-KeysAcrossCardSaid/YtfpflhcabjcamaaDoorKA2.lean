/- Texts joined: V8Keys, V8Cipher, V8Eq, V8Stream. -/
import Derived.ChangeKeysEq
import Derived.Deep.OwnRows
import Derived.Test.YtfpflhcabjcamaaDoorKA1
import Derived.Test.YtfpflhcabjcamaaDoorKM
import Derived.Test.YtfpflhcabjcamaaDoorK0

namespace Go.Proofs.YtfpflhcabjcamaaDoor
open Go.RowKit

section
variable {P : Program} {ops : Array Oper} {rest : List Oper} {o : Oper} {a : Act} {w : World} {Q : Exit → Act → World → Prop}
/-- A part of a row is stored. -/
theorem wpList_store_Mid {ty : TypeId} {x y : Operand} (ho : o.op = .store ty x y) (hw : Region.wanted o (yielded ops a.tmps) = true) {g n : Nat} {e : TypeId} {pre ys post xs : List Value} (hn : n = pre.length) (hx : a.eval x = .pointer (some ⟨g, n, none⟩)) (h : Row w g e (pre ++ ys ++ post))
    (hy : a.eval y = .agg xs.toArray) (hl : xs.length = ys.length) (hi : (P.info? ty).map (·.size) = some xs.length) (h1 : xs.all (·.oneCell') = true)
    (k : ∀ w', Row w' g e (pre ++ xs ++ post) → (∀ S w0, Chg S w0 w → (g < w0.heap.size → S g) → Chg S w0 w') → w'.heap.size = w.heap.size → wpList P ops Q rest (a.put o.dst undef) w') : wpList P ops Q (o :: rest) a w := by
  subst hn
  exact BigFrame.wpList_want hw fun _ hK => wp_store_mid ty x y ho g pre.length xs.toArray hx hy (h.there pre.length _ (by simp; omega)) (by simpa using hi) (by simpa using h1)
    (hK _ _ (k _ (by simpa using h.storeMid hl) (fun S w0 hc hg => by simpa using hc.setCells xs pre.length hg) (setCells_size _ _ _ _)))
end
theorem u8s_app (a b : List Nat) : u8s (a ++ b) = u8s a ++ u8s b := by simp [u8s]
theorem zero28 : (Tryd.prog.info? 105).map (·.zero) = some (some (.agg (u8s (List.replicate 176 0)).toArray)) := by kernel_rfl
theorem size28 : (Tryd.prog.info? 105).map (·.size) = some 176 := by kernel_rfl
theorem size26 : (Tryd.prog.info? 33).map (·.size) = some 16 := by kernel_rfl
theorem zero27 : (Tryd.prog.info? 104).map (·.zero) = some (some (.agg (u8s (List.replicate 4 0)).toArray)) := by kernel_rfl
theorem range_sub {w : World} {g : Nat} {e : TypeId} {l : List Nat} (h : Row w g e (u8s l)) (o : Nat) (xs : List Nat) (hx : ∀ j, j < xs.length → o + j < l.length ∧ l.getD (o + j) 0 = xs.getD j 0) : w.rangeAt g o (u8s xs) := h.rangeMid o _ (fun j v hv => by
  rw [u8s_get] at hv ⊢
  have hj : j < xs.length := by
    rcases Nat.lt_or_ge j xs.length with h | h
    · exact h
    · rw [List.getElem?_eq_none h] at hv; cases hv
  obtain ⟨h1, h2⟩ := hx j hj
  rw [← hv, List.getElem?_eq_getElem h1, List.getElem?_eq_getElem hj]
  simp only [List.getD_eq_getElem?_getD, List.getElem?_eq_getElem h1, List.getElem?_eq_getElem hj] at h2
  rw [show l[o + j] = xs[j] from by simpa using h2])
theorem prevW_len (l : List Nat) (i : Nat) : (prevW l i).length = 4 := rfl
theorem prev_range {w : World} {g : Nat} {e : TypeId} (key : List Nat) (i : Nat) (h : Row w g e (u8s (kP key (4 * i)))) (hi : 4 ≤ i) (h44 : i ≤ 44) : w.rangeAt g (4 * (i - 1)) (u8s (prevW (keysN key (4 * i)) i)) :=
  range_sub h _ _ (fun j hj => by
    rw [prevW_len] at hj
    refine ⟨by rw [kP_len _ _ (by omega)]; omega, ?_⟩
    rw [kP_get _ _ _ (by omega)]
    rcases (by omega : j = 0 ∨ j = 1 ∨ j = 2 ∨ j = 3) with rfl | rfl | rfl | rfl <;> rfl)

theorem nextW_lt {l : List Nat} (hl : ∀ j, l.getD j 0 < 256) (i : Nat) : ∀ x ∈ nextW l i, x < 256 := by
  intro x hx
  unfold nextW at hx
  split at hx
  · simp only [turnW, List.mem_cons, List.not_mem_nil, or_false] at hx
    rcases hx with rfl | rfl | rfl | rfl <;> first | exact xor8_lt (sbox_lt _) (rcon_lt _) | exact sbox_lt _
  · simp only [prevW, List.mem_cons, List.not_mem_nil, or_false] at hx
    rcases hx with rfl | rfl | rfl | rfl <;> exact hl _

set_option maxRecDepth 100000 in
set_option maxHeartbeats 3000000 in
theorem keys_any (tb : Nat) (key : List Nat) (w : World) (hk : key.length = 16) (hkb : ∀ x ∈ key, x < 256) (ht : Row w tb 124 (u8s sboxL)) : Calls Tryd.prog 53 #[.agg (u8s key).toArray, .pointer (some ⟨tb, 0, none⟩)] w fun e w' => e = .returned (.agg (u8s (keysN key 176)).toArray) ∧ Chg none_ w w' := by
  have HK := Lib.hid hk
  have HKB := Lib.hid hkb
  have HT := Lib.hid ht
  have HTL := Lib.hid ht.lt
  clear hk hkb ht
  go_enter Tryd.func53, Tryd.ntmps53
  go_wp2_with (first | ((with_reducible show wpList _ _ _ (⟨_, .box 33 _, _, _, _, _⟩ :: _) _ _); refine wpList_box_Row rfl rfl (u8s key) rfl ?_; intro w1 hr1 hc1 hs1; have HR1 := Lib.hid hr1; have HC1 := Lib.hid hc1; clear hr1 hc1 hs1) | ((with_reducible show wpList _ _ _ (⟨some 4, .alloc 105, _, _, _, _⟩ :: _) _ _); refine wpList_alloc_Row rfl rfl (u8s (List.replicate 176 0)) zero28 ?_; intro w2 hr2 hc2 hs2; have HR2 := Lib.hid hr2; have HC2 := Lib.hid (HC1.out.trans hc2); have HR1b := Lib.hid (HR1.out.chg hc2 (fun h => h)); clear hr2 hc2 hs2) | ((with_reducible show wpList _ _ _ (⟨some 5, .alloc 105, _, _, _, _⟩ :: _) _ _); refine wpList_alloc_Row rfl rfl (u8s (List.replicate 176 0)) zero28 ?_; intro w3 hr3 hc3 hs3; have HR3 := Lib.hid hr3; have HC3 := Lib.hid (HC2.out.trans hc3); have HR1c := Lib.hid (HR1b.out.chg hc3 (fun h => h)); have HR2c := Lib.hid (HR2.out.chg hc3 (fun h => h)); clear hr3 hc3 hs3))
  have HG1 := Lib.hid (show w.heap.size < w1.heap.size from HR1.out.lt)
  have HG2 := Lib.hid (show w1.heap.size < w2.heap.size from HR2.out.lt)
  have HG3 := Lib.hid (show w2.heap.size < w3.heap.size from HR3.out.lt)
  have HT3 := Lib.hid (HT.out.chg HC3.out (fun h => h))
  clear HR1 HR1b HR2 HC1 HC2
  go_loopw [6, 11, 13] (fun _ i _ wr => ∃ k : Nat, k ≤ 4 ∧ i = .int .i64 k ∧ Row wr w2.heap.size 105 (u8s (kP key (4 * k))) ∧ Chg (· = w2.heap.size) w3 wr) (fun _ i _ _ => 4 - (intOf i).toNat)
  case atStart => exact ⟨0, Nat.zero_le _, rfl, HR3.out, Chg.refl _ _⟩
  case round =>
    obtain ⟨k, hk, rfl, hrow, hch⟩ := hrel
    have HROW := Lib.hid hrow
    have HC := Lib.hid hch
    by_cases hlt : k < 4
    · have HSP := Lib.hid (kP_split key HK.out k hlt)
      have HROWs : Hid (Row wr w2.heap.size 105 (u8s (key.take (4 * k)) ++ u8s (List.replicate 4 0) ++ u8s (List.replicate (172 - 4 * k) 0))) := Lib.hid (by rw [← u8s_app, ← u8s_app, ← HSP.out.1]; exact hrow)
      have HRG : Hid (wr.rangeAt w.heap.size (4 * k) (u8s ((key.drop (4 * k)).take 4))) := Lib.hid (range_sub (HR1c.out.chg hch (by have := HG1.out; have := HG2.out; omega)) _ _ (fun j hj => by
        have hj4 : j < 4 := by simp at hj; omega
        refine ⟨by have := HK.out; omega, ?_⟩
        simp only [List.getD_eq_getElem?_getD, List.getElem?_take, if_pos hj4, List.getElem?_drop]))
      have HDL : Hid (((key.drop (4 * k)).take 4).length = 4) := Lib.hid (by have := HK.out; simp; omega)
      have Q1 : Hid (Value.int .i64 ((k : Int) * 4) = .int .i64 ((4 * k : Nat) : Int)) := Lib.hid (by congr 1; omega)
      have HTK : Hid ((u8s (key.take (4 * k))).length = 4 * k) := Lib.hid (by have := HK.out; simp; omega)
      have HW4 : Hid (4 * k * 1 = 4 * k) := Lib.hid (by omega)
      clear hrow hch
      have q0 : (0 : Int) ≤ (k : Int) := by omega
      have q1 : (k : Int) < 44 := by omega
      go_wp2_with (first | ((with_reducible show wpList _ _ _ (⟨some 17, _, _, _, _, _⟩ :: _) _ _); refine wpList_slice_arr_low rfl 33 5 _ _ rfl 16 1 (4 * k) w.heap.size 0 rfl (by show Value.int .i64 _ = _; first | exact Q1.out | rfl) Tryd.underlying33 size5 (by omega) ?_; rw [HW4.out, Nat.zero_add]) | ((with_reducible show wpList _ _ _ (⟨some 18, _, _, _, _, _⟩ :: _) _ _); refine wpList_arrayAt rfl 104 5 4 _ rfl (some ⟨w.heap.size, 4 * k, none⟩) (16 - 4 * k) (16 - 4 * k) rfl Tryd.underlying104 (by omega) ?_) | ((with_reducible show wpList _ _ _ (⟨some 19, .load 104 _, _, _, _, _⟩ :: _) _ _); refine wpList_load_Mid rfl rfl rfl HRG.out Tryd.underlying104 rfl (by rw [u8s_length, HDL.out]; exact size4) ?_) | ((with_reducible show wpList _ _ _ (⟨_, .store 104 _ _, _, _, _, _⟩ :: _) _ _); refine wpList_store_Mid (xs := u8s ((key.drop (4 * k)).take 4)) rfl rfl HTK.out.symm (by show Value.pointer _ = _; congr 3; omega) HROWs.out rfl (by rw [u8s_length, u8s_length, HDL.out]; rfl) (by rw [u8s_length, HDL.out]; exact size4) (u8s_oneA _) ?_; intro w5 hr5 hc5 hs5; have HR5 := Lib.hid hr5; have HC5 := Lib.hid hc5; clear hr5 hc5 hs5))
      go_roundw
      case rel => exact ⟨k + 1, by omega, by go_num, by rw [← HSP.out.2, u8s_app, u8s_app]; exact HR5.out, HC5.out (· = w2.heap.size) w3 HC.out (fun _ => rfl)⟩
      case measure => simp [intOf]; omega
    · have hk4 : k = 4 := by omega
      subst hk4
      clear hrow hk hlt
      have HLB : Hid (∀ i j, (keysN key i).getD j 0 < 256) := Lib.hid (fun i j => getD_lt (keysN_lt HKB.out i) j (by decide))
      have HNT := Lib.hid (show ¬ tb = w2.heap.size by have := HTL.out; have := HG1.out; have := HG2.out; omega)
      have HT4 := Lib.hid (HT3.out.chg hch HNT.out)
      have HR2d := Lib.hid (HR2c.out.chg hch (by have := HG2.out; omega))
      have HCW := Lib.hid (HC3.out.andThen hch (fun b h e => by have := HG1.out; have := HG2.out; omega))
      have HSZ := Lib.hid (show w3.heap.size ≤ wr.heap.size from hch.size)
      clear hch HC HR1c HR3 HC3 HT3
      obtain ⟨wA, hwA⟩ : ∃ x, x = wr := ⟨_, rfl⟩
      subst hwA
      try simp only [show ((4 : Nat) : Int) = 4 from rfl]
      go_wp2
      go_loopw [7, 8, 9, 10] (fun p i _ _ wr2 => ∃ i' : Nat, 4 ≤ i' ∧ i' ≤ 44 ∧ i = .int .i64 i' ∧ p = .int .u8 (rcon ((i' - 1) / 4) : Nat) ∧ Row wr2 w2.heap.size 105 (u8s (kP key (4 * i'))) ∧ Chg (· = w2.heap.size) wA wr2) (fun _ i _ _ _ => 44 - (intOf i).toNat)
      case atStart => exact ⟨4, by omega, by omega, rfl, rfl, HROW.out, Chg.refl _ _⟩
      case round =>
        obtain ⟨i, h4, h44, rfl, rfl, hrow, hch⟩ := hrel
        obtain ⟨wB, hwB⟩ : ∃ x, x = wr := ⟨_, rfl⟩
        subst hwB
        have HROWi := Lib.hid hrow
        have HCi := Lib.hid hch
        by_cases hlt : i < 44
        · have HPR : Hid (wB.rangeAt w2.heap.size (4 * (i - 1)) (u8s (prevW (keysN key (4 * i)) i))) := Lib.hid (prev_range key i hrow h4 h44)
          have HTB := Lib.hid (HT4.out.chg hch HNT.out)
          have Q5 : Hid ((some (⟨w2.heap.size, (i - 1) * 4, none⟩ : Addr)) = some ⟨w2.heap.size, 4 * (i - 1), none⟩) := Lib.hid (by rw [Nat.mul_comm])
          have s0 : (0 : Int) ≤ (i : Int) - 1 := by omega
          have s1 : (i : Int) - 1 < 44 := by omega
          have s2 : ((i : Int) - 1).toNat = i - 1 := by omega
          have HGB := Lib.hid (show w2.heap.size < wB.heap.size from hrow.lt)
          have HTBL := Lib.hid HTB.out.lt
          clear hrow hch
          by_cases hm4 : i % 4 = 0
          · have hmi : (i : Int) % 4 = 0 := by omega
            have HNW : Hid (nextW (keysN key (4 * i)) i = turnW (prevW (keysN key (4 * i)) i) (rcon ((i - 1) / 4))) := Lib.hid (by rw [nextW, if_pos hm4, show (i - 1) / 4 = i / 4 - 1 from by omega])
            have HPW : Hid (Value.int .u8 ((dbl (rcon ((i - 1) / 4)) : Nat) : Int) = .int .u8 ((rcon ((i + 1 - 1) / 4) : Nat) : Int)) := Lib.hid (by rw [show (i + 1 - 1) / 4 = (i - 1) / 4 + 1 from by omega, rcon])
            have HM4 := Lib.hid hm4
            clear hm4
            go_wp2_with (first | ((with_reducible show wpList _ _ _ (⟨some 29, .load 104 _, _, _, _, _⟩ :: _) _ _); refine wpList_load_Mid rfl rfl (by show Value.pointer _ = _; rw [Q5.out]) HPR.out Tryd.underlying104 rfl (by rw [u8s_length, prevW_len]; exact size4) ?_) | ((with_reducible show wpList _ _ _ (⟨_, .alloc 104, _, _, _, _⟩ :: _) _ _); refine wpList_alloc_Row rfl rfl (u8s (List.replicate 4 0)) zero27 ?_; intro w5 hr5 hc5 hs5; have HR5 := Lib.hid hr5; have HC5 := Lib.hid hc5; clear hr5 hc5 hs5) | ((with_reducible show wpList _ _ _ (⟨_, .store 104 _ _, _, _, _, _⟩ :: _) _ _); refine wpList_store_Row (xs := u8s (prevW (keysN key (4 * i)) i)) rfl rfl rfl HR5.out rfl (by rw [u8s_length, u8s_length, prevW_len]; rfl) (by rw [u8s_length, prevW_len]; exact size4) (u8s_oneA _) ?_; intro w6 hr6 hc6 hs6; have HR6 := Lib.hid hr6; have HC6 := Lib.hid (hc6 none_ wB HC5.out (fun h => absurd h (Nat.lt_irrefl _))); clear hr6 hc6 hs6))
            have d0 := Row.u8 HR6.out (i := 0) (by rw [prevW_len]; decide)
            have d1 := Row.u8 HR6.out (i := 1) (by rw [prevW_len]; decide)
            have d2 := Row.u8 HR6.out (i := 2) (by rw [prevW_len]; decide)
            have d3 := Row.u8 HR6.out (i := 3) (by rw [prevW_len]; decide)
            have HPB : Hid (∀ j, (prevW (keysN key (4 * i)) i).getD j 0 < 256) := Lib.hid (fun j => getD_lt (fun x hx => by simp only [prevW, List.mem_cons, List.not_mem_nil, or_false] at hx; rcases hx with rfl | rfl | rfl | rfl <;> exact HLB.out _ _) j (by decide))
            have HTB6 := Lib.hid (HTB.out.chg HC6.out (fun h => h))
            have b0 := Row.u8 HTB6.out (i := (prevW (keysN key (4 * i)) i).getD 0 0) (by rw [show sboxL.length = 256 by decide +kernel]; exact HPB.out 0)
            have b1 := Row.u8 HTB6.out (i := (prevW (keysN key (4 * i)) i).getD 1 0) (by rw [show sboxL.length = 256 by decide +kernel]; exact HPB.out 1)
            have b2 := Row.u8 HTB6.out (i := (prevW (keysN key (4 * i)) i).getD 2 0) (by rw [show sboxL.length = 256 by decide +kernel]; exact HPB.out 2)
            have b3 := Row.u8 HTB6.out (i := (prevW (keysN key (4 * i)) i).getD 3 0) (by rw [show sboxL.length = 256 by decide +kernel]; exact HPB.out 3)
            have hp0 : (((prevW (keysN key (4 * i)) i).getD 0 0 : Nat) : Int) < 256 := by have := HPB.out 0; omega
            have hp1 : (((prevW (keysN key (4 * i)) i).getD 1 0 : Nat) : Int) < 256 := by have := HPB.out 1; omega
            have hp2 : (((prevW (keysN key (4 * i)) i).getD 2 0 : Nat) : Int) < 256 := by have := HPB.out 2; omega
            have hp3 : (((prevW (keysN key (4 * i)) i).getD 3 0 : Nat) : Int) < 256 := by have := HPB.out 3; omega
            have HTW : Hid (u8s (turnW (prevW (keysN key (4 * i)) i) (rcon ((i - 1) / 4))) = [.int .u8 (bits .xor .u8 ((sbox ((prevW (keysN key (4 * i)) i).getD 1 0) : Nat) : Int) ((rcon ((i - 1) / 4) : Nat) : Int)), .int .u8 ((sbox ((prevW (keysN key (4 * i)) i).getD 2 0) : Nat) : Int), .int .u8 ((sbox ((prevW (keysN key (4 * i)) i).getD 3 0) : Nat) : Int), .int .u8 ((sbox ((prevW (keysN key (4 * i)) i).getD 0 0) : Nat) : Int)]) := Lib.hid (by rw [u8_xor_nat _ _ (sbox_lt _) (rcon_lt _)]; rfl)
            have sb : ∀ a, sboxL.getD a 0 = sbox a := fun _ => rfl
            rw [sb] at b0 b1 b2 b3
            generalize (prevW (keysN key (4 * i)) i).getD 0 0 = p0 at d0 b0 hp0 HTW
            generalize (prevW (keysN key (4 * i)) i).getD 1 0 = p1 at d1 b1 hp1 HTW
            generalize (prevW (keysN key (4 * i)) i).getD 2 0 = p2 at d2 b2 hp2 HTW
            generalize (prevW (keysN key (4 * i)) i).getD 3 0 = p3 at d3 b3 hp3 HTW
            generalize sbox p0 = t0 at b0 HTW
            generalize sbox p1 = t1 at b1 HTW
            generalize sbox p2 = t2 at b2 HTW
            generalize sbox p3 = t3 at b3 HTW
            have z0 : (0 : Int) ≤ (p0 : Int) := by omega
            have z1 : (0 : Int) ≤ (p1 : Int) := by omega
            have z2 : (0 : Int) ≤ (p2 : Int) := by omega
            have z3 : (0 : Int) ≤ (p3 : Int) := by omega
            have HRC := Lib.hid (rcon_lt ((i - 1) / 4))
            clear sb
            refine wp_region_still_tail 27 (by kernel_rfl) (by kernel_rfl) ?_
            simp only [List.take_succ_cons, List.take_zero, List.drop_succ_cons, List.drop_zero]
            iterate 27 still_step
            refine wpStill_nil ?_
            change wpList _ _ _ _ _ (World.drew _)
            go_wp2_with (first | ((with_reducible show wpList _ _ _ (⟨_, .store 104 _ _, _, _, _, _⟩ :: _) _ _); refine wpList_store_Row (xs := u8s (turnW (prevW (keysN key (4 * i)) i) (rcon ((i - 1) / 4)))) rfl rfl rfl HR6.out.drew (by rw [HTW.out]; rfl) (by rw [u8s_length, u8s_length, prevW_len]; rfl) (by rw [u8s_length]; exact size4) (u8s_oneA _) ?_; intro w7 hr7 hc7 hs7; have HR7 := Lib.hid hr7; have HC7 := Lib.hid (hc7 none_ wB HC6.out.drew (fun h => absurd h (Nat.lt_irrefl _))); clear hr7 hc7 hs7) | (go_at_call 62; refine (double_any (rcon ((i - 1) / 4)) HRC.out _).mono ?_; rintro e w' ⟨rfl, rfl⟩))
            have HXR : Hid (Row w7 wB.heap.size 104 (u8s (nextW (keysN key (4 * i)) i))) := Lib.hid (by rw [HNW.out]; exact HR7.out)
            have HXB : Hid (∀ j, (nextW (keysN key (4 * i)) i).getD j 0 < 256) := Lib.hid (fun j => getD_lt (nextW_lt (HLB.out _) i) j (by decide))
            have HXN := Lib.hid (show ¬ wB.heap.size = w2.heap.size by have := HGB.out; omega)
            have HROWx := Lib.hid (HROWi.out.chg HC7.out (fun h => h))
            have HCx := Lib.hid (HCi.out.trans (HC7.out.mono (fun _ _ h => h.elim)))
            clear HR5 HC5 HR6 HC6 HR7 HC7 HTB6 HTW d0 d1 d2 d3 b0 b1 b2 b3 hp0 hp1 hp2 hp3 z0 z1 z2 z3 HPR Q5 s0 s1 s2 hmi
            obtain ⟨wx, hwx⟩ : ∃ x, x = w7 := ⟨_, rfl⟩
            subst hwx
            go_loopw [10, 62, 64] (fun _ j _ w' => ∃ m : Nat, m ≤ 4 ∧ j = .int .i64 m ∧ Row w' w2.heap.size 105 (u8s (kP key (4 * i + m))) ∧ Chg (· = w2.heap.size) wx w') (fun _ j _ _ => 4 - (intOf j).toNat)
            case atStart => exact ⟨0, Nat.zero_le _, rfl, HROWx.out, Chg.refl _ _⟩
            case round =>
              obtain ⟨m, hm, rfl, hrow, hch⟩ := hrel
              have HROWm := Lib.hid hrow
              have HCm := Lib.hid hch
              by_cases hlm : m < 4
              · have c1 := Row.u8 hrow (i := 4 * (i - 4) + m) (by rw [kP_len _ _ (by omega)]; omega)
                rw [kP_get _ _ _ (by omega), keysN_pre key (4 * i) _ (by omega) m] at c1
                have c2 := Row.u8 hrow (i := 4 * i + m) (by rw [kP_len _ _ (by omega)]; omega)
                have c3 := Row.u8 (HXR.out.chg hch HXN.out) (i := m) (by rw [nextW_len]; exact hlm)
                have hf := hrow.frozen (4 * i + m)
                have HB1 : Hid ((keysN key (4 * i)).getD (4 * (i - 4) + m) 0 < 256) := Lib.hid (HLB.out _ _)
                have HB2 : Hid ((nextW (keysN key (4 * i)) i).getD m 0 < 256) := Lib.hid (HXB.out _)
                have HXX := Lib.hid (u8_xor_nat _ _ HB1.out HB2.out)
                have HSET := Lib.hid (hrow.set (4 * i + m) (.int .u8 ((((keysN key (4 * i)).getD (4 * (i - 4) + m) 0 ^^^ (nextW (keysN key (4 * i)) i).getD m 0 : Nat)) : Int)))
                have HKS := Lib.hid (kP_set key (4 * i + m) (by omega))
                have HKW := Lib.hid (keyAt_word key i m h4 hlm)
                rw [HKW.out] at HKS
                generalize (keysN key (4 * i)).getD (4 * (i - 4) + m) 0 = x at c1 HXX HSET HKS HB1
                generalize (nextW (keysN key (4 * i)) i).getD m 0 = y at c3 HXX HSET HKS HB2
                generalize (kP key (4 * i + m)).getD (4 * i + m) 0 = z at c2
                have c1' : wr.cell? ⟨w2.heap.size, (i - 4) * 4 + m, none⟩ = some (.int .u8 (x : Int)) := by rw [Nat.mul_comm]; exact c1
                have c2' : wr.cell? ⟨w2.heap.size, i * 4 + m, none⟩ = some (.int .u8 (z : Int)) := by rw [Nat.mul_comm]; exact c2
                have hf' : wr.frozen? ⟨w2.heap.size, i * 4 + m, none⟩ = false := by rw [Nat.mul_comm]; exact hf
                clear hrow hch HKW c1 c2 hf
                have r0 : (0 : Int) ≤ (m : Int) := by omega
                have r1 : (m : Int) < 4 := by omega
                have r2 : (0 : Int) ≤ (i : Int) - 4 := by omega
                have r3 : (i : Int) - 4 < 44 := by omega
                have r4 : ((i : Int) - 4).toNat = i - 4 := by omega
                have r5 : (0 : Int) ≤ (i : Int) := by omega
                have r6 : (i : Int) < 44 := by omega
                go_wp2
                go_region
                go_wp2
                go_roundw
                case rel => exact ⟨m + 1, by omega, by go_num, by rw [HXX.out, ← Nat.add_assoc, ← HKS.out, ← u8s_set, Nat.mul_comm i 4]; exact HSET.out, (HCm.out.setCell (fun _ => rfl) _).drew⟩
                case measure => simp [intOf]; omega
              · have hm4 : m = 4 := by omega
                subst hm4
                try simp only [show ((4 : Nat) : Int) = 4 from rfl]
                clear hrow hch hm hlm
                go_wp2
                go_roundw
                case rel => exact ⟨i + 1, by omega, by omega, by go_num, HPW.out, HROWm.out, HCx.out.trans HCm.out⟩
                case measure => simp [intOf]; omega
          · have hmi : ¬ (i : Int) % 4 = 0 := by omega
            have HNW : Hid (nextW (keysN key (4 * i)) i = prevW (keysN key (4 * i)) i) := Lib.hid (by rw [nextW, if_neg hm4])
            have HPW : Hid (Value.int .u8 ((rcon ((i - 1) / 4) : Nat) : Int) = .int .u8 ((rcon ((i + 1 - 1) / 4) : Nat) : Int)) := Lib.hid (by rw [show (i + 1 - 1) / 4 = (i - 1) / 4 from by omega])
            clear hm4
            go_wp2_with (first | ((with_reducible show wpList _ _ _ (⟨some 29, .load 104 _, _, _, _, _⟩ :: _) _ _); refine wpList_load_Mid rfl rfl (by show Value.pointer _ = _; rw [Q5.out]) HPR.out Tryd.underlying104 rfl (by rw [u8s_length, prevW_len]; exact size4) ?_) | ((with_reducible show wpList _ _ _ (⟨_, .alloc 104, _, _, _, _⟩ :: _) _ _); refine wpList_alloc_Row rfl rfl (u8s (List.replicate 4 0)) zero27 ?_; intro w5 hr5 hc5 hs5; have HR5 := Lib.hid hr5; have HC5 := Lib.hid hc5; clear hr5 hc5 hs5) | ((with_reducible show wpList _ _ _ (⟨_, .store 104 _ _, _, _, _, _⟩ :: _) _ _); refine wpList_store_Row (xs := u8s (prevW (keysN key (4 * i)) i)) rfl rfl rfl HR5.out rfl (by rw [u8s_length, u8s_length, prevW_len]; rfl) (by rw [u8s_length, prevW_len]; exact size4) (u8s_oneA _) ?_; intro w6 hr6 hc6 hs6; have HR6 := Lib.hid hr6; have HC6 := Lib.hid (hc6 none_ wB HC5.out (fun h => absurd h (Nat.lt_irrefl _))); clear hr6 hc6 hs6))
            have HXR : Hid (Row w6 wB.heap.size 104 (u8s (nextW (keysN key (4 * i)) i))) := Lib.hid (by rw [HNW.out]; exact HR6.out)
            have HXB : Hid (∀ j, (nextW (keysN key (4 * i)) i).getD j 0 < 256) := Lib.hid (fun j => getD_lt (nextW_lt (HLB.out _) i) j (by decide))
            have HXN := Lib.hid (show ¬ wB.heap.size = w2.heap.size by have := HGB.out; omega)
            have HROWx := Lib.hid (HROWi.out.chg HC6.out (fun h => h))
            have HCx := Lib.hid (HCi.out.trans (HC6.out.mono (fun _ _ h => h.elim)))
            clear HR5 HC5 HR6 HC6 HPR Q5 s0 s1 s2 hmi
            obtain ⟨wx, hwx⟩ : ∃ x, x = w6 := ⟨_, rfl⟩
            subst hwx
            go_loopw [10, 62, 64] (fun _ j _ w' => ∃ m : Nat, m ≤ 4 ∧ j = .int .i64 m ∧ Row w' w2.heap.size 105 (u8s (kP key (4 * i + m))) ∧ Chg (· = w2.heap.size) wx w') (fun _ j _ _ => 4 - (intOf j).toNat)
            case atStart => exact ⟨0, Nat.zero_le _, rfl, HROWx.out, Chg.refl _ _⟩
            case round =>
              obtain ⟨m, hm, rfl, hrow, hch⟩ := hrel
              have HROWm := Lib.hid hrow
              have HCm := Lib.hid hch
              by_cases hlm : m < 4
              · have c1 := Row.u8 hrow (i := 4 * (i - 4) + m) (by rw [kP_len _ _ (by omega)]; omega)
                rw [kP_get _ _ _ (by omega), keysN_pre key (4 * i) _ (by omega) m] at c1
                have c2 := Row.u8 hrow (i := 4 * i + m) (by rw [kP_len _ _ (by omega)]; omega)
                have c3 := Row.u8 (HXR.out.chg hch HXN.out) (i := m) (by rw [nextW_len]; exact hlm)
                have hf := hrow.frozen (4 * i + m)
                have HB1 : Hid ((keysN key (4 * i)).getD (4 * (i - 4) + m) 0 < 256) := Lib.hid (HLB.out _ _)
                have HB2 : Hid ((nextW (keysN key (4 * i)) i).getD m 0 < 256) := Lib.hid (HXB.out _)
                have HXX := Lib.hid (u8_xor_nat _ _ HB1.out HB2.out)
                have HSET := Lib.hid (hrow.set (4 * i + m) (.int .u8 ((((keysN key (4 * i)).getD (4 * (i - 4) + m) 0 ^^^ (nextW (keysN key (4 * i)) i).getD m 0 : Nat)) : Int)))
                have HKS := Lib.hid (kP_set key (4 * i + m) (by omega))
                have HKW := Lib.hid (keyAt_word key i m h4 hlm)
                rw [HKW.out] at HKS
                generalize (keysN key (4 * i)).getD (4 * (i - 4) + m) 0 = x at c1 HXX HSET HKS HB1
                generalize (nextW (keysN key (4 * i)) i).getD m 0 = y at c3 HXX HSET HKS HB2
                generalize (kP key (4 * i + m)).getD (4 * i + m) 0 = z at c2
                have c1' : wr.cell? ⟨w2.heap.size, (i - 4) * 4 + m, none⟩ = some (.int .u8 (x : Int)) := by rw [Nat.mul_comm]; exact c1
                have c2' : wr.cell? ⟨w2.heap.size, i * 4 + m, none⟩ = some (.int .u8 (z : Int)) := by rw [Nat.mul_comm]; exact c2
                have hf' : wr.frozen? ⟨w2.heap.size, i * 4 + m, none⟩ = false := by rw [Nat.mul_comm]; exact hf
                clear hrow hch HKW c1 c2 hf
                have r0 : (0 : Int) ≤ (m : Int) := by omega
                have r1 : (m : Int) < 4 := by omega
                have r2 : (0 : Int) ≤ (i : Int) - 4 := by omega
                have r3 : (i : Int) - 4 < 44 := by omega
                have r4 : ((i : Int) - 4).toNat = i - 4 := by omega
                have r5 : (0 : Int) ≤ (i : Int) := by omega
                have r6 : (i : Int) < 44 := by omega
                go_wp2
                go_region
                go_wp2
                go_roundw
                case rel => exact ⟨m + 1, by omega, by go_num, by rw [HXX.out, ← Nat.add_assoc, ← HKS.out, ← u8s_set, Nat.mul_comm i 4]; exact HSET.out, (HCm.out.setCell (fun _ => rfl) _).drew⟩
                case measure => simp [intOf]; omega
              · have hm4 : m = 4 := by omega
                subst hm4
                try simp only [show ((4 : Nat) : Int) = 4 from rfl]
                clear hrow hch hm hlm
                go_wp2
                go_roundw
                case rel => exact ⟨i + 1, by omega, by omega, by go_num, HPW.out, HROWm.out, HCx.out.trans HCm.out⟩
                case measure => simp [intOf]; omega
        · have hi44 : i = 44 := by omega
          subst hi44
          clear hrow hch hlt h4 h44
          rw [show 4 * 44 = 176 from rfl, kP_all] at HROWi
          have HKL := Lib.hid (keysN_len key 176)
          go_wp2_with (first | ((with_reducible show wpList _ _ _ (⟨some 80, .load 105 _, _, _, _, _⟩ :: _) _ _); refine wpList_load_Row rfl rfl rfl HROWi.out Tryd.underlying105 rfl (by rw [u8s_length, HKL.out]; exact size28) ?_) | ((with_reducible show wpList _ _ _ (⟨_, .store 105 _ _, _, _, _, _⟩ :: _) _ _); refine wpList_store_Row (xs := u8s (keysN key 176)) rfl rfl rfl (HR2d.out.chg HCi.out (by have := HG2.out; omega)) rfl (by rw [u8s_length, u8s_length, HKL.out, List.length_replicate]) (by rw [u8s_length, HKL.out]; exact size28) (u8s_oneA _) ?_; intro w9 hr9 hc9 hs9; have HR9 := Lib.hid hr9; have HC9 := Lib.hid hc9; clear hr9 hc9 hs9))
          refine ret_row rfl rfl HR9.out Tryd.underlying105 rfl (by rw [u8s_length, HKL.out]; exact size28) rfl ?_
          exact ⟨rfl, HC9.out none_ w (HCW.out.andThen HCi.out (fun b h e => by have := HG1.out; have := HG2.out; omega)) (fun h => by have := HG1.out; omega)⟩
end Go.Proofs.YtfpflhcabjcamaaDoor

namespace Go.Proofs.YtfpflhcabjcamaaDoor
open Go.RowKit

theorem fill_run (g : Nat) (xs : List Value) (hx : xs.length = 176) (zs : List Value) (hz : zs.length = 177) :
    Instr.fill (fun i => (#[(0, 1), (1, 176)] : Array (Nat × Nat))[i]?) zs.toArray [(0, .pointer (some ⟨g, 0, none⟩)), (1, .agg xs.toArray)] = some (.pointer (some ⟨g, 0, none⟩) :: xs).toArray := by
  cases zs with
  | nil => cases hz
  | cons z zs =>
    have hzl : zs.length = 176 := by simp at hz; omega
    have h := setList_all xs zs [.pointer (some ⟨g, 0, none⟩)] (by omega)
    have e : ∀ (l : List (Value × Nat)) (cs : List Value), (l.foldl (fun (cs : Array Value) (x : Value × Nat) => cs.setIfInBounds (1 + x.2) x.1) cs.toArray) = (l.foldl (fun (cs : List Value) (x : Value × Nat) => cs.set (1 + x.2) x.1) cs).toArray := by
      intro l
      induction l with
      | nil => intro cs; rfl
      | cons a l ih => intro cs; simp only [List.foldl_cons, List.setIfInBounds_toArray]; exact ih _
    simp [Instr.fill, Value.cells, hx]
    refine ⟨by omega, ?_⟩
    rw [e]
    simp at h
    rw [h]
theorem built57 (parts : List (Nat × Value)) : Tryd.prog.built 108 parts = Instr.fill (fun i => (#[(0, 1), (1, 176)] : Array (Nat × Nat))[i]?) (Value.pointer none :: u8s (List.replicate 176 0)).toArray parts := by kernel_rfl
theorem run_build57 (g : Nat) (l : List Nat) (hl : l.length = 176) (w : World) : (Instr.build 108 #[(0, .pointer (some ⟨g, 0, none⟩)), (1, .agg (u8s l).toArray)]).run Tryd.prog w = .ok (.agg (.pointer (some ⟨g, 0, none⟩) :: u8s l).toArray) w :=
  run_build w _ _ _ (by rw [built57]; exact fill_run g (u8s l) (by rw [u8s_length]; exact hl) _ (by rw [List.length_cons, u8s_length, List.length_replicate]))
theorem cipherN_len (key s : List Nat) : (cipherN key s).length = 16 := encN_len _ _
theorem cipherN_lt {key s : List Nat} (hk : ∀ x ∈ key, x < 256) (hs : ∀ x ∈ s, x < 256) : ∀ x ∈ cipherN key s, x < 256 := encN_lt hs (keysN_lt hk _)
theorem zero26 : (Tryd.prog.info? 33).map (·.zero) = some (some (.agg (u8s (List.replicate 16 0)).toArray)) := by kernel_rfl

set_option maxRecDepth 100000 in
set_option maxHeartbeats 1000000 in
theorem cipherOf_any (key : List Nat) (w : World) (hk : key.length = 16) (hkb : ∀ x ∈ key, x < 256) : Calls Tryd.prog 43 #[.agg (u8s key).toArray] w fun e w' => ∃ cb tb, e = .returned (.pointer (some ⟨cb, 0, none⟩)) ∧ (w.heap.size ≤ cb ∧ w.heap.size ≤ tb) ∧ CiphAt w' cb tb (keysN key 176) ∧ Chg none_ w w' := by
  have HK := Lib.hid hk
  have HKB := Lib.hid hkb
  clear hk hkb
  go_enter Tryd.func43, Tryd.ntmps43
  go_wp2_with (first | ((with_reducible show wpList _ _ _ (⟨_, .box 33 _, _, _, _, _⟩ :: _) _ _); refine wpList_box_Row rfl rfl (u8s key) rfl ?_; intro w1 hr1 hc1 hs1; have HR1 := Lib.hid hr1; have HC1 := Lib.hid hc1; clear hr1 hc1 hs1) | (go_at_call 52; refine (allBoxes_any _).mono ?_; rintro e w2 ⟨t, rfl, hge, hbx, hc2⟩; have HBX := Lib.hid hbx; have HC2 := Lib.hid (HC1.out.trans hc2); have HR2 := Lib.hid (HR1.out.chg hc2 (fun h => h)); have HGE := Lib.hid (Nat.le_trans HC1.out.size hge); clear hbx hc2 hge) | ((with_reducible show wpList _ _ _ (⟨_, .load 33 _, _, _, _, _⟩ :: _) _ _); refine wpList_load_Row rfl rfl rfl HR2.out Tryd.underlying33 rfl (by rw [u8s_length, HK.out]; exact size26) ?_) | (go_at_call 53; refine (keys_any t key _ HK.out HKB.out HBX.out).mono ?_; rintro e w3 ⟨rfl, hc3⟩; have HC3 := Lib.hid (HC2.out.trans hc3); have HB3 := Lib.hid (HBX.out.chg hc3 (fun h => h)); clear hc3) | ((with_reducible show wpList _ _ _ (⟨_, .build 108 _, _, _, _, _⟩ :: _) _ _); refine wpList_val rfl (.agg (.pointer (some ⟨t, 0, none⟩) :: u8s (keysN key 176)).toArray) (fun w => by unfold execOp; simp [Act.eval, run_build57 t _ (keysN_len key 176)]) ?_) | ((with_reducible show wpList _ _ _ (⟨_, .box 108 _, _, _, _, _⟩ :: _) _ _); refine wpList_box_Row rfl rfl (.pointer (some ⟨t, 0, none⟩) :: u8s (keysN key 176)) rfl ?_; intro w4 hr4 hc4 hs4; have HR4 := Lib.hid hr4; have HC4 := Lib.hid (HC3.out.trans hc4); have HB4 := Lib.hid (HB3.out.chg hc4 (fun h => h)); clear hr4 hc4 hs4))
  go_ret
  exact ⟨_, t, rfl, ⟨HC3.out.size, HGE.out⟩, ⟨HR4.out, HB4.out⟩, HC4.out⟩

set_option maxRecDepth 100000 in
set_option maxHeartbeats 1000000 in
theorem Encipher_any (key s : List Nat) (w : World) (hk : key.length = 16) (hkb : ∀ x ∈ key, x < 256) (hs : s.length = 16) (hsb : ∀ x ∈ s, x < 256) : Calls Tryd.prog 38 #[.agg (u8s key).toArray, .agg (u8s s).toArray] w fun e w' => e = .returned (.agg (u8s (cipherN key s)).toArray) ∧ Chg none_ w w' := by
  have HK := Lib.hid hk
  have HKB := Lib.hid hkb
  have HS := Lib.hid hs
  have HSB := Lib.hid hsb
  clear hk hkb hs hsb
  go_enter Tryd.func38, Tryd.ntmps38
  go_wp2_with (first | ((with_reducible show wpList _ _ _ (⟨some 2, .box 33 _, _, _, _, _⟩ :: _) _ _); refine wpList_box_Row rfl rfl (u8s key) rfl ?_; intro w0 hr0 hc0 hs0; have HR0 := Lib.hid hr0; have HC0 := Lib.hid hc0; clear hr0 hc0 hs0) | ((with_reducible show wpList _ _ _ (⟨some 3, .box 33 _, _, _, _, _⟩ :: _) _ _); refine wpList_box_Row rfl rfl (u8s s) rfl ?_; intro w1 hr1 hc1 hs1; have HR1 := Lib.hid hr1; have HC1 := Lib.hid (HC0.out.trans hc1); have HR0b := Lib.hid (HR0.out.chg hc1 (fun h => h)); clear hr1 hc1 hs1) | ((with_reducible show wpList _ _ _ (⟨some 4, .alloc 33, _, _, _, _⟩ :: _) _ _); refine wpList_alloc_Row rfl rfl (u8s (List.replicate 16 0)) zero26 ?_; intro w2 hr2 hc2 hs2; have HR2 := Lib.hid hr2; have HC2 := Lib.hid (HC1.out.trans hc2); have HR1b := Lib.hid (HR1.out.chg hc2 (fun h => h)); have HR0c := Lib.hid (HR0b.out.chg hc2 (fun h => h)); clear hr2 hc2 hs2))
  have HG0 := Lib.hid (show w.heap.size < w0.heap.size from HR0.out.lt)
  have HG1 := Lib.hid (show w0.heap.size < w1.heap.size from HR1.out.lt)
  have HRK : Hid (∀ w', Chg (· = w1.heap.size) w2 w' → Row w' w.heap.size 33 (u8s key)) := Lib.hid (fun w' hc => HR0c.out.chg hc (by have := HG0.out; have := HG1.out; omega))
  have HRS : Hid (∀ w', Chg (· = w1.heap.size) w2 w' → Row w' w0.heap.size 33 (u8s s)) := Lib.hid (fun w' hc => HR1b.out.chg hc (by have := HG1.out; omega))
  simp only [Act.put, List.setIfInBounds_toArray, List.set_cons_zero, List.set_cons_succ]
  refine wp_region_held_drew (S := fun w' => Chg (· = w1.heap.size) w2 w') (by kernel_rfl) ((Chg.refl _ _).drew) (fun hch0 => ?_)
  refine wpAnyH_take (i := 0) (v := .agg (u8s key).toArray) rfl (by kernel_rfl) (by kernel_rfl) (by kernel_rfl) (by first | exact fun _ _ _ h => h | exact fun _ _ _ h => nomatch h.1) (yieldsIf_load_mid (by rfl) 33 _ rfl w.heap.size 0 rfl (u8s key) _ (fun w' hw' => (HRK.out w' hw').range) Tryd.underlying33 rfl (by rw [u8s_length, HK.out]; exact size26)) hch0 ?_
  refine wpAnyH_take (i := 2) (v := .agg (u8s s).toArray) rfl (by kernel_rfl) (by kernel_rfl) (by kernel_rfl) (by first | exact fun _ _ _ h => h | exact fun _ _ _ h => nomatch h.1) (yieldsIf_load_mid (by rfl) 33 _ rfl w0.heap.size 0 rfl (u8s s) _ (fun w' hw' => (HRS.out w' hw').range) Tryd.underlying33 rfl (by rw [u8s_length, HS.out]; exact size26)) hch0 ?_
  refine wpAnyH_ready (rs := [1]) (by kernel_rfl) (by simp) ?_
  refine AllReadyH.cons rfl (fun K hK => ?_) AllReadyH.nil
  rw [if_pos (by rfl)]
  try simp only [Act.put, List.setIfInBounds_toArray, List.set_cons_zero, List.set_cons_succ, List.getElem_toArray, List.getElem_cons_succ, List.getElem_cons_zero]
  go_simp
  refine (cipherOf_any key _ HK.out HKB.out).mono ?_
  rintro e w4 ⟨cb, tb, rfl, hcge, hci, hc4⟩
  have hch1 : Chg (· = w1.heap.size) w2 w4 := hch0.trans (hc4.mono (fun _ _ h => h.elim))
  refine hK.out _ _ (hch1) (fun _ => ?_)
  clear hK K
  try simp only [Act.put, List.setIfInBounds_toArray, List.set_cons_zero, List.set_cons_succ, List.getElem_toArray, List.getElem_cons_succ, List.getElem_cons_zero]
  refine wpAnyH_ready (rs := [3]) (by kernel_rfl) (by simp) ?_
  refine AllReadyH.cons rfl (fun K hK => ?_) AllReadyH.nil
  rw [if_pos (by rfl)]
  try simp only [List.getElem_toArray, List.getElem_cons_succ, List.getElem_cons_zero]
  go_simp
  refine (encipher_any cb tb (keysN key 176) s _ HS.out HSB.out (keysN_len _ _) (keysN_lt HKB.out _) hci).mono ?_
  rintro e w5 ⟨rfl, hc5⟩
  have hch2 : Chg (· = w1.heap.size) w2 w5 := hch1.trans (hc5.mono (fun _ _ h => h.elim))
  have hrow5 := (HR2.out.drew.chg hc4 (fun h => h)).chg hc5 (fun h => h)
  refine hK.out _ _ (hch2) (fun _ => ?_)
  clear hK K
  try simp only [Act.put, List.setIfInBounds_toArray, List.set_cons_zero, List.set_cons_succ, List.getElem_toArray, List.getElem_cons_succ, List.getElem_cons_zero]
  refine wpAnyH_ready (rs := [4]) (by kernel_rfl) (by simp) ?_
  refine AllReadyH.cons rfl (fun K hK => ?_) AllReadyH.nil
  rw [if_pos (by rfl)]
  try simp only [List.getElem_toArray, List.getElem_cons_succ, List.getElem_cons_zero]
  refine wp_store_row (ty := 33) (xs := u8s (cipherN key s)) rfl rfl (hrow5) rfl (by rw [u8s_length, u8s_length, cipherN_len, List.length_replicate]) (by rw [u8s_length, cipherN_len]; exact size26) (u8s_oneA _) ?_
  intro w6 hr_w6 hc_w6 hs_w6
  refine hK.out _ _ (hc_w6 _ w2 hch2 (fun _ => rfl)) (fun _ => ?_)
  clear hK K
  try simp only [Act.put]
  refine wpAnyH_done (by kernel_rfl) ?_ _
  go_wp2
  refine ret_row rfl rfl hr_w6 Tryd.underlying33 rfl (by rw [u8s_length, cipherN_len]; exact size26) rfl ?_
  exact ⟨rfl, HC2.out.andThen (hc_w6 (· = w1.heap.size) w2 hch2 (fun _ => rfl)) (fun b h e => by have := HG0.out; have := HG1.out; omega)⟩
end Go.Proofs.YtfpflhcabjcamaaDoor

namespace Go.Proofs.YtfpflhcabjcamaaDoor
open Go.RowKit

theorem cellsRow4 : Tryd.prog.cellsOf 104 = 4 := by kernel_rfl

theorem blk_eql (xs ys : List Nat) (hx : xs.length = 16) (hy : ys.length = 16) (w : World) : (Op.equalIn 10000 33 (.agg (u8s xs).toArray) (.agg (u8s ys).toArray)).run Tryd.prog w = .ok (decide (xs = ys)) w :=
  arr_eql _ 16 9998 Tryd.underlying33 xs ys hx hy w
end Go.Proofs.YtfpflhcabjcamaaDoor

namespace Go.Proofs.YtfpflhcabjcamaaDoor
open Go.RowKit

theorem incF_len : ∀ n (s : List Nat) i, (incF s n i).length = s.length
  | 0, _, _ => rfl
  | n + 1, s, i => by
    rw [incF]
    split
    · rw [incF_len n, List.length_set]
    · rw [List.length_set]
theorem mem_set_lt {s : List Nat} (hs : ∀ x ∈ s, x < 256) (i v : Nat) (hv : v < 256) : ∀ x ∈ s.set i v, x < 256 := by
  intro x hx
  rcases List.mem_or_eq_of_mem_set hx with h | h
  · exact hs x h
  · rw [h]; exact hv
theorem incF_lt : ∀ n {s : List Nat} (_ : ∀ x ∈ s, x < 256) i, ∀ x ∈ incF s n i, x < 256
  | 0, _, hs, _ => hs
  | n + 1, s, hs, i => by
    rw [incF]
    have h := mem_set_lt hs i ((s.getD i 0 + 1) % 256) (Nat.mod_lt _ (by decide))
    split
    · exact incF_lt n h _
    · exact h
theorem ctrN_len (s : List Nat) (hs : s.length = 16) : ∀ j, (ctrN s j).length = 16
  | 0 => hs
  | j + 1 => by rw [ctrN, oneMore, incF_len, ctrN_len s hs j]
theorem ctrN_lt {s : List Nat} (hs : ∀ x ∈ s, x < 256) : ∀ j, ∀ x ∈ ctrN s j, x < 256
  | 0 => hs
  | j + 1 => incF_lt 4 (ctrN_lt hs j) 15

set_option maxRecDepth 100000 in
set_option maxHeartbeats 1000000 in
theorem oneMore_any (s : List Nat) (w : World) (hs : s.length = 16) (hsb : ∀ x ∈ s, x < 256) : Calls Tryd.prog 45 #[.agg (u8s s).toArray] w fun e w' => e = .returned (.agg (u8s (oneMore s)).toArray) ∧ Chg none_ w w' := by
  have HS := Lib.hid hs
  have HSB := Lib.hid hsb
  have HOL : Hid ((oneMore s).length = 16) := Lib.hid (by rw [oneMore, incF_len]; exact hs)
  clear hs hsb
  go_enter Tryd.func45, Tryd.ntmps45
  go_wp2_with (first | ((with_reducible show wpList _ _ _ (⟨_, .box 93 _, _, _, _, _⟩ :: _) _ _); refine wpList_box_Row rfl rfl (u8s s) rfl ?_; intro w1 hr1 hc1 hs1; have HR1 := Lib.hid hr1; have HC1 := Lib.hid hc1; clear hr1 hc1 hs1) | ((with_reducible show wpList _ _ _ (⟨_, .alloc 93, _, _, _, _⟩ :: _) _ _); refine wpList_alloc_Row rfl rfl (u8s (List.replicate 16 0)) zero47 ?_; intro w2 hr2 hc2 hs2; have HR2 := Lib.hid hr2; have HC2 := Lib.hid (HC1.out.trans hc2); have HRG := Lib.hid (HR1.out.chg hc2 (fun h => h)); clear hr2 hc2 hs2))
  have HG := Lib.hid (show w.heap.size < w1.heap.size from HR1.out.lt)
  clear HR1 HC1
  go_loopw [3] (fun i wr => ∃ (n : Nat) (s' : List Nat), n ≤ 4 ∧ i = .int .i64 (11 + n : Nat) ∧ s'.length = 16 ∧ Hid (∀ x ∈ s', x < 256) ∧ Hid (incF s' n (11 + n) = oneMore s) ∧ Row wr w.heap.size 93 (u8s s') ∧ Chg (· = w.heap.size) w2 wr) (fun i _ => (intOf i).toNat)
  case atStart => exact ⟨4, s, Nat.le_refl _, rfl, HS.out, HSB, Lib.hid rfl, HRG.out, Chg.refl _ _⟩
  case round =>
    obtain ⟨n, s', hn, rfl, hl, HB, HI, hrow, hch⟩ := hrel
    have HROW := Lib.hid hrow
    have HC := Lib.hid hch
    clear hch
    rcases n with _ | n
    · have HE : Hid (s' = oneMore s) := Lib.hid HI.out
      clear hrow
      go_wp2_with (first | ((with_reducible show wpList _ _ _ (⟨some 17, .load 93 _, _, _, _, _⟩ :: _) _ _); refine wpList_load_Row rfl rfl rfl HROW.out Tryd.underlying93 rfl (by rw [u8s_length, hl]; exact size47) ?_) | ((with_reducible show wpList _ _ _ (⟨_, .store 93 _ _, _, _, _, _⟩ :: _) _ _); refine wpList_store_Row (xs := u8s s') rfl rfl rfl (HR2.out.chg HC.out (by have := HG.out; omega)) rfl (by rw [u8s_length, u8s_length, hl, List.length_replicate]) (by rw [u8s_length, hl]; exact size47) (u8s_oneA _) ?_; intro w9 hr9 hc9 hs9; have HR9 := Lib.hid hr9; have HC9 := Lib.hid hc9; clear hr9 hc9 hs9))
      refine ret_row rfl rfl HR9.out Tryd.underlying93 rfl (by rw [u8s_length, hl]; exact size47) rfl ?_
      exact ⟨by rw [HE.out], HC9.out none_ w (HC2.out.andThen HC.out (fun b h e => by omega)) (fun h => by have := HG.out; omega)⟩
    · obtain ⟨i, hi⟩ : ∃ i, i = 11 + (n + 1) := ⟨_, rfl⟩
      have HI2 : Hid ((if (s'.getD i 0 + 1) % 256 = 0 then incF (s'.set i ((s'.getD i 0 + 1) % 256)) n (i - 1) else s'.set i ((s'.getD i 0 + 1) % 256)) = oneMore s) := Lib.hid (by rw [← HI.out, incF, hi])
      rw [← hi]
      have hi16 : i < 16 := by omega
      have hi12 : 12 ≤ i := by omega
      have HIN := Lib.hid hi
      clear hi HI
      have c1 := Row.u8 hrow (i := i) (by rw [hl]; exact hi16)
      have hf := hrow.frozen i
      have HV : Hid (((s'.getD i 0 + 1) % 256) < 256) := Lib.hid (Nat.mod_lt _ (by decide))
      have hx : s'.getD i 0 < 256 := getD_lt HB.out i (by decide)
      have HSET := Lib.hid (hrow.set i (.int .u8 (((s'.getD i 0 + 1) % 256 : Nat) : Int)))
      generalize s'.getD i 0 = x at c1 HI2 HSET HV hx
      clear hrow
      have HXV : Hid (((x : Int) + 1) % 256 = (((x + 1) % 256 : Nat) : Int)) := Lib.hid (by omega)
      have q0 : (0 : Int) ≤ (i : Int) := by omega
      have q1 : (i : Int) < 16 := by omega
      have q2 : (12 : Int) ≤ (i : Int) := by omega
      by_cases hz : (x + 1) % 256 = 0
      · rw [if_pos hz] at HI2
        have hz2 : ((x : Int) + 1) % 256 = 0 := by omega
        rw [hz] at HI2 HSET
        clear hz hx
        go_wp2
        go_roundw
        case rel => exact ⟨n, s'.set i 0, by omega, by congr 1; have := HIN.out; omega, by rw [List.length_set]; exact hl, Lib.hid (mem_set_lt HB.out i 0 (by decide)), Lib.hid (by rw [← HI2.out, HIN.out]; rfl), by rw [← u8s_set]; exact HSET.out, HC.out.setCell (fun _ => rfl) _⟩
        case measure => simp [intOf]; omega
      · rw [if_neg hz] at HI2
        have hz2 : (((x : Int) + 1) % 256 != 0) = true := by simp; omega
        have HE := HI2
        have HLO : Hid ((s'.set i ((x + 1) % 256)).length = 16) := Lib.hid (by rw [List.length_set]; exact hl)
        have HR8 : Hid (Row (wr.setCell ⟨w.heap.size, i, none⟩ (.int .u8 (((x : Int) + 1) % 256))) w.heap.size 93 (u8s (s'.set i ((x + 1) % 256)))) := Lib.hid (by rw [HXV.out, ← u8s_set]; exact HSET.out)
        have HC8 : Hid (Chg (· = w.heap.size) w2 (wr.setCell ⟨w.heap.size, i, none⟩ (.int .u8 (((x : Int) + 1) % 256)))) := Lib.hid (HC.out.setCell (fun _ => rfl) _)
        clear hx hz
        go_wp2_with (first | ((with_reducible show wpList _ _ _ (⟨some 17, .load 93 _, _, _, _, _⟩ :: _) _ _); refine wpList_load_Row rfl rfl rfl HR8.out Tryd.underlying93 rfl (by rw [u8s_length, HLO.out]; exact size47) ?_) | ((with_reducible show wpList _ _ _ (⟨_, .store 93 _ _, _, _, _, _⟩ :: _) _ _); refine wpList_store_Row (xs := u8s (s'.set i ((x + 1) % 256))) rfl rfl rfl (HR2.out.chg HC8.out (by have := HG.out; omega)) rfl (by rw [u8s_length, u8s_length, HLO.out, List.length_replicate]) (by rw [u8s_length, HLO.out]; exact size47) (u8s_oneA _) ?_; intro w9 hr9 hc9 hs9; have HR9 := Lib.hid hr9; have HC9 := Lib.hid hc9; clear hr9 hc9 hs9))
        refine ret_row rfl rfl HR9.out Tryd.underlying93 rfl (by rw [u8s_length, HLO.out]; exact size47) rfl ?_
        exact ⟨by rw [HE.out], HC9.out none_ w (HC2.out.andThen HC8.out (fun b h e => by omega)) (fun h => by have := HG.out; omega)⟩

theorem streamN_len (key first text : List Nat) : (streamN key first text).length = text.length := by simp [streamN]
theorem streamN_lt {key first text : List Nat} (hk : ∀ x ∈ key, x < 256) (hf : ∀ x ∈ first, x < 256) (ht : ∀ x ∈ text, x < 256) : ∀ x ∈ streamN key first text, x < 256 := by
  intro x hx
  simp only [streamN, List.mem_map] at hx
  obtain ⟨i, _, rfl⟩ := hx
  exact xor8_lt (getD_lt ht i (by decide)) (getD_lt (cipherN_lt hk (ctrN_lt hf _)) _ (by decide))

section
variable {P : Program} {ops : Array Oper} {rest : List Oper} {o : Oper} {a : Act} {w : World} {Q : Exit → Act → World → Prop}
/-- make of bytes: a row of zeros. -/
theorem wpList_make_bytes (hg : o.guard = none) (l c : Operand) (t : TypeId) (hop : o.op = Op.makeSlice t l c)
    (e : TypeId) (ht : P.underlying t = some (.slice e)) (hinfo : (P.info? e).map (fun i => (i.zero, i.size, i.bytes)) = some (some (.int .u8 0), 1, 1))
    (n : Nat) (hl : a.eval l = .int .i64 (n : Int)) (hc : a.eval c = .int .i64 (n : Int)) (hn : n ≤ 1000000)
    (k : ∀ w', Row w' w.heap.size e (u8s (List.replicate n 0)) → Chg none_ w w' → wpList P ops Q rest (a.put o.dst (.slice (some ⟨w.heap.size, 0, none⟩) n n)) w') :
    wpList P ops Q (o :: rest) a w := by
  refine wpList_plain hg fun K hK' => ?_
  have hrun := run_make_row' (P := P) t e (.int .u8 0) 1 ht hinfo rfl .i64 .i64 n (by omega) (by omega) w
  unfold Oper.wp
  simp [execOp, hop, hl, hc, hrun, Result.andThen]
  refine hK' _ _ (k _ ?_ ((Chg.refl _ _).alloc _))
  have := Row.new w e (u8s (List.replicate n 0))
  have e2 : (u8s (List.replicate n 0)).toArray = madeCells #[.int .u8 0] n := by
    apply Array.toList_inj.1
    rw [toList_madeCells_one]
    simp [u8s]
  rw [e2] at this
  exact this
end
theorem info5' : (Tryd.prog.info? 5).map (fun i => (i.zero, i.size, i.bytes)) = some (some (.int .u8 0), 1, 1) := by kernel_rfl

set_option maxRecDepth 100000 in
set_option maxHeartbeats 1500000 in
theorem Stream_any (key first : List Nat) (T : Nat → Prop) (A : Option Addr) (cap : Nat) (text : List Nat) (w : World) (hk : key.length = 16) (hkb : ∀ x ∈ key, x < 256) (hf : first.length = 16) (hfb : ∀ x ∈ first, x < 256) (hv : View w T A text.length (u8s text)) (hl : text.length ≤ 1000000) (ht : ∀ x ∈ text, x < 256) :
    Calls Tryd.prog 32 #[.agg (u8s key).toArray, .agg (u8s first).toArray, .slice A text.length cap] w fun e w' => ∃ g, e = .returned (.slice (some ⟨g, 0, none⟩) text.length text.length) ∧ w.heap.size ≤ g ∧ Row w' g 5 (u8s (streamN key first text)) ∧ Chg none_ w w' := by
  have HK := Lib.hid hk
  have HKB := Lib.hid hkb
  have HF := Lib.hid hf
  have HFB := Lib.hid hfb
  have HV := Lib.hid hv
  have HTB := Lib.hid (fun i => getD_lt ht i (by decide))
  clear hk hkb hf hfb hv ht
  go_enter Tryd.func32, Tryd.ntmps32
  go_wp2_with (first | ((with_reducible show wpList _ _ _ (⟨some 3, .box 33 _, _, _, _, _⟩ :: _) _ _); refine wpList_box_Row rfl rfl (u8s key) rfl ?_; intro w0 hr0 hc0 hs0; have HR0 := Lib.hid hr0; have HC0 := Lib.hid hc0; clear hr0 hc0 hs0) | ((with_reducible show wpList _ _ _ (⟨some 4, .box 33 _, _, _, _, _⟩ :: _) _ _); refine wpList_box_Row rfl rfl (u8s first) rfl ?_; intro w1 hr1 hc1 hs1; have HR1 := Lib.hid hr1; have HC1 := Lib.hid (HC0.out.trans hc1); have HR0b := Lib.hid (HR0.out.chg hc1 (fun h => h)); clear hr1 hc1 hs1) | (at_make; refine wpList_make_bytes rfl _ _ _ rfl 5 Tryd.underlying22 info5' text.length rfl rfl hl ?_; intro w2 hr2 hc2; have HR2 := Lib.hid hr2; have HC2 := Lib.hid (HC1.out.trans hc2); have HR0c := Lib.hid (HR0b.out.chg hc2 (fun h => h)); have HR1c := Lib.hid (HR1.out.chg hc2 (fun h => h)); clear hr2 hc2) | ((with_reducible show wpList _ _ _ (⟨some 16, .load 33 _, _, _, _, _⟩ :: _) _ _); refine wpList_load_Row rfl rfl rfl HR0c.out Tryd.underlying33 rfl (by rw [u8s_length, HK.out]; exact size26) ?_) | (go_at_call 43; refine (cipherOf_any key w2 HK.out HKB.out).mono ?_; rintro e w3 ⟨cb, tb, rfl, hge, hci, hc3⟩; have HCI := Lib.hid hci; have HGE := Lib.hid hge; have HC3 := Lib.hid (HC2.out.trans hc3); have HR2d := Lib.hid (HR2.out.chg hc3 (fun h => h)); have HR1d := Lib.hid (HR1c.out.chg hc3 (fun h => h)); clear hge hci hc3) | ((with_reducible show wpList _ _ _ (⟨some 18, .load 33 _, _, _, _, _⟩ :: _) _ _); refine wpList_load_Row rfl rfl rfl HR1d.out Tryd.underlying33 rfl (by rw [u8s_length, HF.out]; exact size26) ?_) | ((with_reducible show wpList _ _ _ (⟨some 9, .alloc 93, _, _, _, _⟩ :: _) _ _); refine wpList_alloc_Row rfl rfl (u8s (List.replicate 16 0)) zero47 ?_; intro w4 hr4 hc4 hs4; have HR4 := Lib.hid hr4; have HC4 := Lib.hid hc4; clear hr4 hc4 hs4) | ((with_reducible show wpList _ _ _ (⟨_, .store 93 _ _, _, _, _, _⟩ :: _) _ _); refine wpList_store_Row (xs := u8s first) rfl rfl rfl HR4.out rfl (by rw [u8s_length, u8s_length, HF.out, List.length_replicate]) (by rw [u8s_length, HF.out]; exact size47) (u8s_oneA _) ?_; intro w5 hr5 hc5 hs5; have HR5 := Lib.hid hr5; have HC5 := Lib.hid (hc5 none_ w3 HC4.out (fun h => absurd h (Nat.lt_irrefl _))); clear hr5 hc5 hs5) | ((with_reducible show wpList _ _ _ (⟨some 10, .alloc 93, _, _, _, _⟩ :: _) _ _); refine wpList_alloc_Row rfl rfl (u8s (List.replicate 16 0)) zero47 ?_; intro w6 hr6 hc6 hs6; have HR6 := Lib.hid hr6; have HC6 := Lib.hid (HC5.out.trans hc6); have HR5b := Lib.hid (HR5.out.chg hc6 (fun h => h)); clear hr6 hc6 hs6))
  have HG0 := Lib.hid (show w.heap.size < w0.heap.size from HR0.out.lt)
  have HG1 := Lib.hid (show w0.heap.size < w1.heap.size from HR1.out.lt)
  have HG2 := Lib.hid (show w1.heap.size < w2.heap.size from HR2.out.lt)
  have HG3 := Lib.hid (show w2.heap.size ≤ w3.heap.size ∧ cb < w3.heap.size ∧ tb < w3.heap.size from ⟨by have := HGE.out.1; have := HCI.out.row.lt; omega, HCI.out.row.lt, HCI.out.box.lt⟩)
  have HG5 := Lib.hid (show w3.heap.size < w5.heap.size from Nat.lt_of_lt_of_le HR5.out.lt (Nat.le_refl _))
  have HCW := Lib.hid (HC3.out.trans HC6.out)
  have HCI6 := Lib.hid (HCI.out.chg HC6.out (fun h => h) (fun h => h))
  have HR2e := Lib.hid (HR2d.out.chg HC6.out (fun h => h))
  have HVX := Lib.hid ((HV.out.mono (T' := fun b => b < w.heap.size) (fun _ h _ => h)).chg HCW.out (fun _ _ h => h))
  clear HR0 HR0b HR0c HR1 HR1c HR1d HR2 HR2d HC0 HC1 HC2 HC3 HC4 HC5 HC6 HR4 HR5 HCI HV
  go_loopw [11, 12, 21] (fun _ _ i wr => ∃ (k : Nat) (E : List Nat), k ≤ text.length ∧ i = .int .i64 k ∧ E.length = 16 ∧ Hid (0 < k → E = cipherN key (ctrN first ((k - 1) / 16))) ∧ Row wr w1.heap.size 5 (u8s (fillN (fun i => text.getD i 0 ^^^ padAt key first i) text.length k)) ∧ Row wr w3.heap.size 93 (u8s (ctrN first ((k + 15) / 16))) ∧ Row wr w5.heap.size 93 (u8s E) ∧ Chg (fun b => b = w1.heap.size ∨ b = w3.heap.size ∨ b = w5.heap.size) w6 wr) (fun _ _ i _ => text.length - (intOf i).toNat)
  case atStart => exact ⟨0, List.replicate 16 0, Nat.zero_le _, rfl, by simp, Lib.hid (fun h => absurd h (Nat.lt_irrefl _)), by rw [fillN_0]; exact HR2e.out, HR5b.out, HR6.out, Chg.refl _ _⟩
  case round =>
    obtain ⟨k, E, hk, rfl, hEl, HE, hrowO, hrowC, hrowE, hch⟩ := hrel
    have HRO := Lib.hid hrowO
    have HRC := Lib.hid hrowC
    have HRE := Lib.hid hrowE
    have HC := Lib.hid hch
    clear hrowO hrowC hrowE hch
    by_cases hlt : k < text.length
    · obtain ⟨b, o, rfl, hb, hbT, c1⟩ := (HVX.out.chg (S := fun b => b = w1.heap.size ∨ b = w3.heap.size ∨ b = w5.heap.size) HC.out (fun b hb h => by have := HG0.out; have := HG1.out; have := HG2.out; have := HG3.out; have := HG5.out; omega)).at_ hlt
      obtain ⟨x, hx⟩ : ∃ x, text.getD k 0 = x := ⟨_, rfl⟩
      have HN3 := Lib.hid (show w3.heap.size ≠ w1.heap.size by have := HG2.out; have := HG3.out; omega)
      have HN5 := Lib.hid (show w5.heap.size ≠ w1.heap.size by have := HG2.out; have := HG3.out; have := HG5.out; omega)
      have HFS : Hid ((fillN (fun i => text.getD i 0 ^^^ padAt key first i) text.length k).set k (x ^^^ padAt key first k) = fillN (fun i => text.getD i 0 ^^^ padAt key first i) text.length (k + 1)) := Lib.hid (by rw [← hx]; exact fillN_set (fun i => text.getD i 0 ^^^ padAt key first i) text.length k hlt)
      have HPL : Hid (∀ j, (cipherN key (ctrN first j)).length = 16) := Lib.hid (fun j => cipherN_len _ _)
      have HPB : Hid (∀ i, padAt key first i < 256) := Lib.hid (fun i => getD_lt (cipherN_lt HKB.out (ctrN_lt HFB.out _)) _ (by decide))
      have HXV := Lib.hid (u8_xor_nat x (padAt key first k) (by rw [← hx]; exact HTB.out k) (HPB.out k))
      rw [hx] at c1
      clear hx
      have q0 : (0 : Int) ≤ (k : Int) := by omega
      have q1 : (k : Int) < (text.length : Int) := by omega
      have q2 : (0 : Int) ≤ (k : Int) % 16 := by omega
      have q3 : (k : Int) % 16 < 16 := by omega
      by_cases hm : k % 16 = 0
      · have hmi : (k : Int) % 16 = 0 := by omega
        have HEQ : Hid (cipherN key (ctrN first (k / 16)) = cipherN key (ctrN first ((k + 1 - 1) / 16))) := Lib.hid (by rw [Nat.add_sub_cancel])
        have HC0 : Hid (ctrN first ((k + 15) / 16) = ctrN first (k / 16)) := Lib.hid (by rw [show (k + 15) / 16 = k / 16 from by omega])
        have HCT : Hid (ctrN first ((k + 1 + 15) / 16) = oneMore (ctrN first (k / 16))) := Lib.hid (by rw [show (k + 1 + 15) / 16 = k / 16 + 1 from by omega, ctrN])
        have HPA : Hid ((cipherN key (ctrN first (k / 16))).getD 0 0 = padAt key first k) := Lib.hid (by rw [padAt, hm])
        have HCL := Lib.hid (ctrN_len first HF.out (k / 16))
        have HCB := Lib.hid (ctrN_lt HFB.out (k / 16))
        have HOL : Hid ((oneMore (ctrN first (k / 16))).length = 16) := Lib.hid (by rw [oneMore, incF_len]; exact HCL.out)
        rw [HC0.out] at HRC
        have HCIr := Lib.hid (HCI6.out.chg HC.out (by have := HG0.out; have := HG1.out; have := HG2.out; have := HG3.out; have := HG5.out; have := HGE.out; omega) (by have := HG0.out; have := HG1.out; have := HG2.out; have := HG3.out; have := HG5.out; have := HGE.out; omega))
        clear hm HC0 HE
        go_wp2_with (first | ((with_reducible show wpList _ _ _ (⟨some 30, .load 93 _, _, _, _, _⟩ :: _) _ _); refine wpList_load_Row rfl rfl rfl HRC.out Tryd.underlying93 rfl (by rw [u8s_length, HCL.out]; exact size47) ?_) | (go_at_call 44; refine (encipher_any cb tb (keysN key 176) (ctrN first (k / 16)) _ HCL.out HCB.out (keysN_len _ _) (keysN_lt HKB.out _) HCIr.out).mono ?_; rintro e w7 ⟨rfl, hc7⟩; have HC7 := Lib.hid (HC.out.trans (hc7.mono (fun _ _ h => h.elim))); have HRE7 := Lib.hid (HRE.out.chg hc7 (fun h => h)); have HRC7 := Lib.hid (HRC.out.chg hc7 (fun h => h)); have HRO7 := Lib.hid (HRO.out.chg hc7 (fun h => h)); clear hc7) | ((with_reducible show wpList _ _ _ (⟨_, .store 93 _ (.tmp 31), _, _, _, _⟩ :: _) _ _); refine wpList_store_Row (xs := u8s (cipherN key (ctrN first (k / 16)))) rfl rfl rfl HRE7.out rfl (by rw [u8s_length, u8s_length, HPL.out, hEl]) (by rw [u8s_length, HPL.out]; exact size47) (u8s_oneA _) ?_; intro w8 hr8 hc8 hs8; have HRE8 := Lib.hid hr8; have HC8 := Lib.hid (hc8 _ _ HC7.out (fun _ => Or.inr (Or.inr rfl))); have HCx := Lib.hid (hc8 (· = w5.heap.size) w7 (Chg.refl _ _) (fun _ => rfl)); have HRC8 := Lib.hid (HRC7.out.chg HCx.out (by have := HG5.out; omega)); have HRO8 := Lib.hid (HRO7.out.chg HCx.out (by have := HG5.out; have := HG3.out; have := HG2.out; omega)); clear hr8 hc8 hs8) | ((with_reducible show wpList _ _ _ (⟨some 32, .load 93 _, _, _, _, _⟩ :: _) _ _); refine wpList_load_Row rfl rfl rfl HRC8.out Tryd.underlying93 rfl (by rw [u8s_length, HCL.out]; exact size47) ?_) | (go_at_call 45; refine (oneMore_any (ctrN first (k / 16)) _ HCL.out HCB.out).mono ?_; rintro e w9 ⟨rfl, hc9⟩; have HC9 := Lib.hid (HC8.out.trans (hc9.mono (fun _ _ h => h.elim))); have HRE9 := Lib.hid (HRE8.out.chg hc9 (fun h => h)); have HRC9 := Lib.hid (HRC8.out.chg hc9 (fun h => h)); have HRO9 := Lib.hid (HRO8.out.chg hc9 (fun h => h)); clear hc9) | ((with_reducible show wpList _ _ _ (⟨_, .store 93 _ (.tmp 33), _, _, _, _⟩ :: _) _ _); refine wpList_store_Row (xs := u8s (oneMore (ctrN first (k / 16)))) rfl rfl rfl HRC9.out rfl (by rw [u8s_length, u8s_length, HOL.out, HCL.out]) (by rw [u8s_length, HOL.out]; exact size47) (u8s_oneA _) ?_; intro w10 hr10 hc10 hs10; have HRC10 := Lib.hid hr10; have HC10 := Lib.hid (hc10 _ _ HC9.out (fun _ => Or.inr (Or.inl rfl))); have HCy := Lib.hid (hc10 (· = w3.heap.size) w9 (Chg.refl _ _) (fun _ => rfl)); have HRE10 := Lib.hid (HRE9.out.chg HCy.out (by have := HG5.out; omega)); have HRO10 := Lib.hid (HRO9.out.chg HCy.out (by have := HG3.out; have := HG2.out; omega)); have cE := Row.u8 HRE10.out (i := 0) (by rw [HPL.out]; decide); have cO := Row.u8 HRO10.out (i := k) (by rw [fillN_len _ _ _ hk]; exact hlt); have fO := HRO10.out.frozen k; rw [HPA.out] at cE; clear hr10 hc10 hs10))
        go_roundw
        case rel =>
          refine ⟨k + 1, cipherN key (ctrN first (k / 16)), by omega, by go_num, HPL.out _, ?_, ?_, ?_, ?_, ?_⟩
          · exact Lib.hid (fun _ => HEQ.out)
          · rw [HXV.out, ← HFS.out, ← u8s_set]; exact (HRO10.out).set k _
          · rw [HCT.out]; exact (HRC10.out).far HN3.out _
          · exact (HRE10.out).far HN5.out _
          · exact (HC10.out).setCell (fun _ => Or.inl rfl) _
        case measure => simp [intOf]; omega
      · have hmi : ¬ (k : Int) % 16 = 0 := by omega
        have HEk : Hid (E = cipherN key (ctrN first (k / 16))) := Lib.hid (by rw [HE.out (by omega), show (k - 1) / 16 = k / 16 from by omega])
        have HEQ : Hid (E = cipherN key (ctrN first ((k + 1 - 1) / 16))) := Lib.hid (by rw [Nat.add_sub_cancel]; exact HEk.out)
        have HCT : Hid (ctrN first ((k + 1 + 15) / 16) = ctrN first ((k + 15) / 16)) := Lib.hid (by rw [show (k + 1 + 15) / 16 = (k + 15) / 16 from by omega])
        have cE := Row.u8 HRE.out (i := k % 16) (by rw [hEl]; omega)
        have cO := Row.u8 HRO.out (i := k) (by rw [fillN_len _ _ _ hk]; exact hlt)
        have fO := HRO.out.frozen k
        have HPA : Hid (E.getD (k % 16) 0 = padAt key first k) := Lib.hid (by rw [HEk.out, padAt])
        rw [HPA.out] at cE
        clear hm HE
        go_wp2
        go_roundw
        case rel =>
          refine ⟨k + 1, E, by omega, by go_num, hEl, ?_, ?_, ?_, ?_, ?_⟩
          · exact Lib.hid (fun _ => HEQ.out)
          · rw [HXV.out, ← HFS.out, ← u8s_set]; exact (HRO.out).set k _
          · rw [HCT.out]; exact (HRC.out).far HN3.out _
          · exact (HRE.out).far HN5.out _
          · exact (HC.out).setCell (fun _ => Or.inl rfl) _
        case measure => simp [intOf]; omega
    · have hkl : k = text.length := by omega
      have HEND : Hid (fillN (fun i => text.getD i 0 ^^^ padAt key first i) text.length k = streamN key first text) := Lib.hid (by rw [hkl, fillN_all, streamN])
      have hnl : ¬ (k : Int) < (text.length : Int) := by omega
      rw [HEND.out] at HRO
      clear hk hkl hlt HEND
      go_wp2
      go_ret
      exact ⟨_, rfl, by have := HG0.out; have := HG1.out; omega, HRO.out, HCW.out.andThen HC.out (fun b h e => by have := HG0.out; have := HG1.out; have := HG2.out; have := HG3.out; have := HG5.out; omega)⟩
end Go.Proofs.YtfpflhcabjcamaaDoor
