/- Texts joined: V7Turn, V7RSum, V7RTag. -/
import Derived.Test.YtidafbpiipjnlaaDoorKH1
import Derived.Test.YtidafbpiipjnlaaDoorK0
import Derived.Test.YtidafbpiipjnlaaDoorKH2

namespace Go.Proofs.YtidafbpiipjnlaaDoor
open Go.RowKit

/-- Long words as values. -/
def u64s (l : List Nat) : List Value := l.map fun (x : Nat) => Value.int .u64 (x : Int)
@[simp] theorem u64s_length (l : List Nat) : (u64s l).length = l.length := by simp [u64s]
theorem u64s_get (l : List Nat) (i : Nat) : (u64s l)[i]? = l[i]?.map fun (x : Nat) => Value.int .u64 (x : Int) := by simp [u64s]
theorem u64s_set (l : List Nat) (i v : Nat) : (u64s l).set i (.int .u64 (v : Int)) = u64s (l.set i v) := by simp [u64s, List.map_set]
theorem u64s_one (l : List Nat) : (u64s l).all (·.oneCell') = true := by
  rw [List.all_eq_true]; intro u hu
  simp only [u64s, List.mem_map] at hu
  obtain ⟨x, _, rfl⟩ := hu
  rfl
theorem Row.u64 {w : World} {g : Nat} {e : TypeId} {l : List Nat} (h : Row w g e (u64s l)) {i : Nat} (hi : i < l.length) : w.cell? ⟨g, i, none⟩ = some (.int .u64 ((l.getD i 0 : Nat) : Int)) := by
  rw [h.cell, u64s_get, List.getElem?_eq_getElem hi]
  simp [List.getD_eq_getElem?_getD, hi]
theorem zero36 : (Tryd.prog.info? 90).map (·.zero) = some (some (.agg (u32s (List.replicate 8 0)).toArray)) := by kernel_rfl
theorem zero48 : (Tryd.prog.info? 115).map (·.zero) = some (some (.agg (u64s (List.replicate 64 0)).toArray)) := by kernel_rfl
theorem zero50 : (Tryd.prog.info? 117).map (·.zero) = some (some (.agg (u64s (List.replicate 8 0)).toArray)) := by kernel_rfl
theorem size50 : (Tryd.prog.info? 117).map (·.size) = some 8 := by kernel_rfl

/-- The words, as far as they are there. -/
def upN (b : List Nat) (t : Nat) : List Nat := wordsN b t ++ List.replicate (64 - t) 0
theorem upN_len (b : List Nat) (t : Nat) (ht : t ≤ 64) : (upN b t).length = 64 := by simp [upN, wordsN_len]; omega
theorem upN_get (b : List Nat) (t i : Nat) (h : i < t) : (upN b t).getD i 0 = (wordsN b t).getD i 0 := by
  rw [List.getD_eq_getElem?_getD, List.getD_eq_getElem?_getD, upN, List.getElem?_append_left (by rw [wordsN_len]; exact h)]
theorem upN_set (b : List Nat) (t v : Nat) (ht : t < 64) (hv : v = if t < 16 then wordOf b t else wordNext (wordsN b t) t) : (upN b t).set t v = upN b (t + 1) := by
  subst hv
  unfold upN
  rw [List.set_append_right _ _ (by rw [wordsN_len]; omega), wordsN_len, Nat.sub_self, show 64 - t = (64 - (t + 1)) + 1 from by omega, List.replicate_succ, List.set_cons_zero, wordsN]
  simp

theorem word_val (y0 y1 y2 y3 : Nat) (h0 : y0 < 256) (h1 : y1 < 256) (h2 : y2 < 256) (h3 : y3 < 256) :
    IntKind.u64.wrap (IntKind.u64.wrap (IntKind.u64.wrap (IntKind.u64.wrap (IntKind.u64.wrap (IntKind.u64.wrap (IntKind.u64.wrap (y0 : Int) * 256) + IntKind.u64.wrap (y1 : Int)) * 256) + IntKind.u64.wrap (y2 : Int)) * 256) + IntKind.u64.wrap (y3 : Int)) = ((((y0 * 256 + y1) * 256 + y2) * 256 + y3 : Nat) : Int) := by
  have e : ∀ x : Int, IntKind.u64.wrap x = x % 18446744073709551616 := fun _ => rfl
  simp only [e]
  omega

theorem sg1V (x : Nat) (hx : x < 4294967296) : bits .xor .u64 (bits .xor .u64 ((rotr x 17 : Nat) : Int) ((rotr x 19 : Nat) : Int)) ((x : Int) / 1024) = ((sg1 x : Nat) : Int) := by
  have l1 := rotr_lt x 17; have l2 := rotr_lt x 19
  rw [u64_xor_nat _ _ (by omega) (by omega)]
  have := u64_xor_nat (rotr x 17 ^^^ rotr x 19) (x >>> 10) (by have := xor_lt l1 l2; omega) (by have := shr_lt 10 hx; omega)
  rw [Nat.shiftRight_eq_div_pow] at this
  unfold sg1
  rw [Nat.shiftRight_eq_div_pow]
  exact this
theorem sg0V (x : Nat) (hx : x < 4294967296) : bits .xor .u64 (bits .xor .u64 ((rotr x 7 : Nat) : Int) ((rotr x 18 : Nat) : Int)) ((x : Int) / 8) = ((sg0 x : Nat) : Int) := by
  have l1 := rotr_lt x 7; have l2 := rotr_lt x 18
  rw [u64_xor_nat _ _ (by omega) (by omega)]
  have := u64_xor_nat (rotr x 7 ^^^ rotr x 18) (x >>> 3) (by have := xor_lt l1 l2; omega) (by have := shr_lt 3 hx; omega)
  rw [Nat.shiftRight_eq_div_pow] at this
  unfold sg0
  rw [Nat.shiftRight_eq_div_pow]
  exact this
theorem u64w (x : Int) : IntKind.u64.wrap x = x % 18446744073709551616 := rfl
theorem next_val (x1 x2 x3 x4 : Nat) (h1 : x1 < 4294967296) (h2 : x2 < 4294967296) (_h3 : x3 < 4294967296) (_h4 : x4 < 4294967296) :
    (IntKind.u64.wrap (IntKind.u64.wrap (IntKind.u64.wrap (bits .xor .u64 (bits .xor .u64 ((rotr x2 17 : Nat) : Int) ((rotr x2 19 : Nat) : Int)) ((x2 : Int) / 1024) + (x3 : Int)) + bits .xor .u64 (bits .xor .u64 ((rotr x1 7 : Nat) : Int) ((rotr x1 18 : Nat) : Int)) ((x1 : Int) / 8)) + (x4 : Int))).tmod 4294967296 = (((sg1 x2 + x3 + sg0 x1 + x4) % 4294967296 : Nat) : Int) := by
  have l1 := sg1_lt h2; have l2 := sg0_lt h1
  rw [sg1V x2 h2, sg0V x1 h1]
  simp only [u64w]
  rw [Int.tmod_eq_emod_of_nonneg (by omega)]
  omega

theorem fill_set (l : List Nat) (k : Nat) (hk : k < l.length) (n : Nat) (hn : k < n) : (l.take k ++ List.replicate (n - k) 0).set k (l.getD k 0) = l.take (k + 1) ++ List.replicate (n - (k + 1)) 0 := by
  rw [List.set_append_right _ _ (by rw [List.length_take]; omega), show k - (l.take k).length = 0 from by rw [List.length_take]; omega, show n - k = (n - (k + 1)) + 1 from by omega, List.replicate_succ, List.set_cons_zero, List.take_succ_eq_append_getElem hk, show l.getD k 0 = l[k] from by simp [List.getD_eq_getElem?_getD, hk], List.append_assoc]
  rfl

theorem list_lt' {s : St8} (h : s.Ok) : ∀ x ∈ s.list, x < 4294967296 := by
  intro x hx
  simp only [St8.list, List.mem_cons, List.not_mem_nil, or_false] at hx
  rcases hx with rfl | rfl | rfl | rfl | rfl | rfl | rfl | rfl
  · exact h.a
  · exact h.b
  · exact h.c
  · exact h.d
  · exact h.e
  · exact h.f
  · exact h.g
  · exact h.h
theorem bs1W (e : Nat) : bits .xor .u64 (bits .xor .u64 ((rotr e 6 : Nat) : Int) ((rotr e 11 : Nat) : Int)) ((rotr e 25 : Nat) : Int) = ((bs1 e : Nat) : Int) := by
  have l1 := rotr_lt e 6; have l2 := rotr_lt e 11; have l3 := rotr_lt e 25; have l4 := xor_lt l1 l2
  rw [u64_xor_nat _ _ (by omega) (by omega), u64_xor_nat _ _ (by omega) (by omega)]
  rfl
theorem bs0W (e : Nat) : bits .xor .u64 (bits .xor .u64 ((rotr e 2 : Nat) : Int) ((rotr e 13 : Nat) : Int)) ((rotr e 22 : Nat) : Int) = ((bs0 e : Nat) : Int) := by
  have l1 := rotr_lt e 2; have l2 := rotr_lt e 13; have l3 := rotr_lt e 22; have l4 := xor_lt l1 l2
  rw [u64_xor_nat _ _ (by omega) (by omega), u64_xor_nat _ _ (by omega) (by omega)]
  rfl
theorem chW (e f g : Nat) (he : e < 4294967296) (hf : f < 4294967296) (hg : g < 4294967296) : bits .xor .u64 (bits .and .u64 (e : Int) (f : Int)) (bits .and .u64 (4294967295 - (e : Int)) (g : Int)) = ((chN e f g : Nat) : Int) := by
  have l1 := and_lt f he; have l2 : (4294967295 - e) &&& g < 4294967296 := and_lt g (by omega)
  rw [show (4294967295 - (e : Int)) = ((4294967295 - e : Nat) : Int) from by omega, u64_and_nat _ _ (by omega) (by omega), u64_and_nat _ _ (by omega) (by omega), u64_xor_nat _ _ (by omega) (by omega)]
  rfl
theorem majW (a b c : Nat) (ha : a < 4294967296) (hb : b < 4294967296) (hc : c < 4294967296) : bits .xor .u64 (bits .xor .u64 (bits .and .u64 (a : Int) (b : Int)) (bits .and .u64 (a : Int) (c : Int))) (bits .and .u64 (b : Int) (c : Int)) = ((majN a b c : Nat) : Int) := by
  have l1 := and_lt b ha; have l2 := and_lt c ha; have l3 := and_lt c hb; have l4 := xor_lt l1 l2
  rw [u64_and_nat _ _ (by omega) (by omega), u64_and_nat _ _ (by omega) (by omega), u64_and_nat _ _ (by omega) (by omega), u64_xor_nat _ _ (by omega) (by omega), u64_xor_nat _ _ (by omega) (by omega)]
  rfl
theorem one_val (ra rb rc rd re rf rg rh kk ww : Nat) (_ha : ra < 4294967296) (he : re < 4294967296) (hf : rf < 4294967296) (hg : rg < 4294967296) (_hh : rh < 4294967296) (_hk : kk < 4294967296) (_hw : ww < 4294967296) :
    (IntKind.u64.wrap (IntKind.u64.wrap (IntKind.u64.wrap (IntKind.u64.wrap ((rh : Int) + bits .xor .u64 (bits .xor .u64 ((rotr re 6 : Nat) : Int) ((rotr re 11 : Nat) : Int)) ((rotr re 25 : Nat) : Int)) + bits .xor .u64 (bits .and .u64 (re : Int) (rf : Int)) (bits .and .u64 (4294967295 - (re : Int)) (rg : Int))) + IntKind.u64.wrap (kk : Int)) + (ww : Int))).tmod 4294967296 = ((t1N ⟨ra, rb, rc, rd, re, rf, rg, rh⟩ kk ww : Nat) : Int) := by
  have l1 := bs1_lt re; have l2 := chN_lt rf rg he
  rw [bs1W, chW re rf rg he hf hg]
  simp only [u64w, t1N]
  rw [Int.tmod_eq_emod_of_nonneg (by omega)]
  omega
theorem two_val (ra rb rc rd re rf rg rh : Nat) (ha : ra < 4294967296) (hb : rb < 4294967296) (hc : rc < 4294967296) :
    (IntKind.u64.wrap (bits .xor .u64 (bits .xor .u64 ((rotr ra 2 : Nat) : Int) ((rotr ra 13 : Nat) : Int)) ((rotr ra 22 : Nat) : Int) + bits .xor .u64 (bits .xor .u64 (bits .and .u64 (ra : Int) (rb : Int)) (bits .and .u64 (ra : Int) (rc : Int))) (bits .and .u64 (rb : Int) (rc : Int)))).tmod 4294967296 = ((t2N ⟨ra, rb, rc, rd, re, rf, rg, rh⟩ : Nat) : Int) := by
  have l1 := bs0_lt ra; have l2 := majN_lt rc ha hb
  rw [bs0W, majW ra rb rc ha hb hc]
  simp only [u64w, t2N]
  rw [Int.tmod_eq_emod_of_nonneg (by omega)]
  omega

theorem addN_get (s r : St8) : ∀ i, i < 8 → (addN s r).list.getD i 0 = (s.list.getD i 0 + r.list.getD i 0) % 4294967296
  | 0, _ => rfl | 1, _ => rfl | 2, _ => rfl | 3, _ => rfl | 4, _ => rfl | 5, _ => rfl | 6, _ => rfl | 7, _ => rfl
  | n + 8, h => absurd h (by omega)
theorem add_val (x y : Nat) (_hx : x < 4294967296) (_hy : y < 4294967296) : IntKind.u32.wrap ((IntKind.u64.wrap (IntKind.u64.wrap (x : Int) + (y : Int))).tmod 4294967296) = (((x + y) % 4294967296 : Nat) : Int) := by
  simp only [u64w]
  rw [Int.tmod_eq_emod_of_nonneg (by omega)]
  show (_ % 4294967296) % 4294967296 = _
  omega
theorem half_get (l m : List Nat) (k : Nat) (hl : k < l.length) : (l.take k ++ m.drop k).getD k 0 = m.getD k 0 := by
  rw [List.getD_eq_getElem?_getD, List.getElem?_append_right (by rw [List.length_take]; omega), List.length_take, Nat.min_eq_left (by omega), Nat.sub_self, List.getElem?_drop, List.getD_eq_getElem?_getD, Nat.add_zero]
theorem half_set (l m : List Nat) (k : Nat) (hl : k < l.length) (hm : k < m.length) : (l.take k ++ m.drop k).set k (l.getD k 0) = l.take (k + 1) ++ m.drop (k + 1) := by
  rw [List.set_append_right _ _ (by rw [List.length_take]; omega), show k - (l.take k).length = 0 from by rw [List.length_take]; omega, List.drop_eq_getElem_cons hm, List.set_cons_zero, List.take_succ_eq_append_getElem hl, show l.getD k 0 = l[k] from by simp [List.getD_eq_getElem?_getD, hl], List.append_assoc]
  rfl
theorem size36t : (Tryd.prog.info? 90).map (·.size) = some 8 := by kernel_rfl

set_option maxRecDepth 100000 in
set_option maxHeartbeats 8000000 in
theorem turnH_any (s : St8) (b : List Nat) (T : Nat → Prop) (A : Option Addr) (cap : Nat) (w : World) (hs : s.Ok) (hl : b.length = 64) (hv : View w T A 64 (u8s b)) (hb : ∀ x ∈ b, x < 256) (hT : HTab w) : Calls Tryd.prog 58 #[.agg (u32s s.list).toArray, .slice A 64 cap] w fun e w' => e = .returned (.agg (u32s (turnN s b).list).toArray) ∧ Chg none_ w w' := by
  have HT := Lib.hid hT
  have HS := Lib.hid hs
  have HL := Lib.hid hl
  have HBB := Lib.hid hb
  have HB := Lib.hid (fun i => getD_lt hb i (by decide))
  obtain ⟨ab, ao, rfl, hab, _, hcell⟩ := hv.2 (by decide)
  have HCL : Hid (∀ j, j < 64 → w.cell? ⟨ab, ao + j, none⟩ = some (.int .u8 ((b.getD j 0 : Nat) : Int))) := Lib.hid (fun j hj => by rw [hcell j hj, u8s_get]; simp [List.getD, hl, hj])
  have HAB := Lib.hid hab
  clear hT hs hl hb hv hcell hab
  go_enter Tryd.func58, Tryd.ntmps58
  go_wp2_with (first | ((with_reducible show wpList _ _ _ (⟨_, .box 90 _, _, _, _, _⟩ :: _) _ _); refine wpList_box_Row rfl rfl (u32s s.list) rfl ?_; intro w1 hr1 hc1 hs1; have HR1 := Lib.hid hr1; have HC1 := Lib.hid hc1; clear hr1 hc1 hs1) | ((with_reducible show wpList _ _ _ (⟨_, .alloc 90, _, _, _, _⟩ :: _) _ _); refine wpList_alloc_Row rfl rfl (u32s (List.replicate 8 0)) zero36 ?_; intro w2 hr2 hc2 hs2; have HR2 := Lib.hid hr2; have HC2 := Lib.hid hc2; clear hr2 hc2 hs2) | ((with_reducible show wpList _ _ _ (⟨_, .alloc 115, _, _, _, _⟩ :: _) _ _); refine wpList_alloc_Row rfl rfl (u64s (List.replicate 64 0)) zero48 ?_; intro w3 hr3 hc3 hs3; have HR3 := Lib.hid hr3; have HC3 := Lib.hid hc3; clear hr3 hc3 hs3))
  have HG := Lib.hid (show w.heap.size < w1.heap.size ∧ w1.heap.size < w2.heap.size ∧ w2.heap.size < w3.heap.size from ⟨HR1.out.lt, HR2.out.lt, HR3.out.lt⟩)
  have HR1x := Lib.hid ((HR1.out.chg HC2.out (fun h => h)).chg HC3.out (fun h => h))
  have HR2x := Lib.hid (HR2.out.chg HC3.out (fun h => h))
  have HCH := Lib.hid ((HC1.out.trans HC2.out).trans HC3.out)
  clear HR1 HR2 HC1 HC2 HC3
  generalize hg5 : w2.heap.size = g5 at HG HR3 ⊢
  clear hg5
  go_loopw [6] (fun i wr => ∃ k : Nat, k ≤ 64 ∧ i = .int .i64 k ∧ Row wr g5 115 (u64s (upN b k)) ∧ Chg (· = g5) w3 wr) (fun i _ => 64 - (intOf i).toNat)
  case atStart => exact ⟨0, Nat.zero_le _, rfl, HR3.out, Chg.refl _ _⟩
  case round =>
    obtain ⟨k, hk, rfl, hrow, hch⟩ := hrel
    have HROW := Lib.hid hrow
    have HC := Lib.hid hch
    by_cases hlt : k < 64
    · by_cases h16 : k < 16
      · have hab2 : ab ≠ g5 := by have := HAB.out; have := HG.out; omega
        have cb := fun j hj => (hch.cell (ao + j) (Nat.lt_of_lt_of_le HAB.out HCH.out.size) hab2).trans ((HCH.out.cell (ao + j) HAB.out (fun h => h)).trans (HCL.out j hj))
        have c0 := cb (4 * k) (by omega)
        have c1 := cb (4 * k + 1) (by omega)
        have c2 := cb (4 * k + 2) (by omega)
        have c3 := cb (4 * k + 3) (by omega)
        have c4 := Row.u64 hrow (i := k) (by rw [upN_len b k hk]; exact hlt)
        have hf := hrow.frozen k
        have HSET := Lib.hid (upN_set b k (wordOf b k) hlt (by rw [if_pos h16]))
        have HSR := Lib.hid (hrow.set k)
        have b0 := HB.out (4 * k)
        have b1 := HB.out (4 * k + 1)
        have b2 := HB.out (4 * k + 2)
        have b3 := HB.out (4 * k + 3)
        have HWO : Hid (wordOf b k = ((b.getD (4 * k) 0 * 256 + b.getD (4 * k + 1) 0) * 256 + b.getD (4 * k + 2) 0) * 256 + b.getD (4 * k + 3) 0) := Lib.hid rfl
        clear hrow hch cb
        generalize b.getD (4 * k) 0 = y0 at c0 b0 HWO
        generalize b.getD (4 * k + 1) 0 = y1 at c1 b1 HWO
        generalize b.getD (4 * k + 2) 0 = y2 at c2 b2 HWO
        generalize b.getD (4 * k + 3) 0 = y3 at c3 b3 HWO
        generalize (upN b k).getD k 0 = y4 at c4
        go_wp2
        have q1 : IntKind.i64.wrap (4 * (k : Int)) = 4 * (k : Int) := IntWalk.i64_in _ (by omega)
        have q2 : IntKind.i64.wrap (4 * (k : Int) + 1) = 4 * (k : Int) + 1 := IntWalk.i64_in _ (by omega)
        have q3 : IntKind.i64.wrap (4 * (k : Int) + 2) = 4 * (k : Int) + 2 := IntWalk.i64_in _ (by omega)
        have q4 : IntKind.i64.wrap (4 * (k : Int) + 3) = 4 * (k : Int) + 3 := IntWalk.i64_in _ (by omega)
        have p0 : (0 : Int) ≤ (k : Int) := by omega
        have p1 : (0 : Int) ≤ 4 * (k : Int) := by omega
        have p2 : (0 : Int) ≤ 4 * (k : Int) + 1 := by omega
        have p3 : (0 : Int) ≤ 4 * (k : Int) + 2 := by omega
        have p4 : (0 : Int) ≤ 4 * (k : Int) + 3 := by omega
        have r0 : (k : Int) < 64 := by omega
        have r1 : 4 * (k : Int) < 64 := by omega
        have r2 : 4 * (k : Int) + 1 < 64 := by omega
        have r3 : 4 * (k : Int) + 2 < 64 := by omega
        have r4 : 4 * (k : Int) + 3 < 64 := by omega
        have t1 : (4 * (k : Int)).toNat = 4 * k := by omega
        have t2 : (4 * (k : Int) + 1).toNat = 4 * k + 1 := by omega
        have t3 : (4 * (k : Int) + 2).toNat = 4 * k + 2 := by omega
        have t4 : (4 * (k : Int) + 3).toNat = 4 * k + 3 := by omega
        go_still_tail 35, (by kernel_rfl)
        clear q1 q2 q3 q4 p0 p1 p2 p3 p4 r0 r1 r2 r3 r4 t1 t2 t3 t4
        rw [word_val y0 y1 y2 y3 b0 b1 b2 b3, ← HWO.out]
        generalize wordOf b k = nx at HSET ⊢
        change wpList _ _ _ _ _ wr.drew
        go_wp2
        go_roundw
        case rel =>
          refine ⟨k + 1, by omega, by go_num, ?_, HC.out.drew.setCell (fun _ => rfl) _⟩
          rw [← HSET.out, ← u64s_set]
          exact HSR.out _
        case measure => simp [intOf]; omega
      · have hwl := wordsN_lt HBB.out k
        have c0 := Row.u64 hrow (i := k - 15) (by rw [upN_len b k hk]; omega)
        rw [upN_get b k (k - 15) (by omega)] at c0
        have b0 := getD_lt hwl (k - 15) (by decide)
        have c1 := Row.u64 hrow (i := k - 2) (by rw [upN_len b k hk]; omega)
        rw [upN_get b k (k - 2) (by omega)] at c1
        have b1 := getD_lt hwl (k - 2) (by decide)
        have c2 := Row.u64 hrow (i := k - 7) (by rw [upN_len b k hk]; omega)
        rw [upN_get b k (k - 7) (by omega)] at c2
        have b2 := getD_lt hwl (k - 7) (by decide)
        have c3 := Row.u64 hrow (i := k - 16) (by rw [upN_len b k hk]; omega)
        rw [upN_get b k (k - 16) (by omega)] at c3
        have b3 := getD_lt hwl (k - 16) (by decide)
        have c4 := Row.u64 hrow (i := k) (by rw [upN_len b k hk]; exact hlt)
        have hf := hrow.frozen k
        have HSET := Lib.hid (upN_set b k (wordNext (wordsN b k) k) hlt (by rw [if_neg h16]))
        have HSR := Lib.hid (hrow.set k)
        have HWO : Hid (wordNext (wordsN b k) k = (sg1 ((wordsN b k).getD (k - 2) 0) + (wordsN b k).getD (k - 7) 0 + sg0 ((wordsN b k).getD (k - 15) 0) + (wordsN b k).getD (k - 16) 0) % 4294967296) := Lib.hid rfl
        clear hrow hch hwl
        generalize (wordsN b k).getD (k - 15) 0 = x1 at c0 b0 HWO
        generalize (wordsN b k).getD (k - 2) 0 = x2 at c1 b1 HWO
        generalize (wordsN b k).getD (k - 7) 0 = x3 at c2 b2 HWO
        generalize (wordsN b k).getD (k - 16) 0 = x4 at c3 b3 HWO
        generalize (upN b k).getD k 0 = y4 at c4
        go_wp2
        have q0 : IntKind.i64.wrap ((k : Int) - 15) = (k : Int) - 15 := IntWalk.i64_in _ (by omega)
        have p0 : (0 : Int) ≤ (k : Int) - 15 := by omega
        have pp0 : (15 : Int) ≤ (k : Int) := by omega
        have r0 : (k : Int) - 15 < 64 := by omega
        have t0 : ((k : Int) - 15).toNat = k - 15 := by omega
        have q1 : IntKind.i64.wrap ((k : Int) - 2) = (k : Int) - 2 := IntWalk.i64_in _ (by omega)
        have p1 : (0 : Int) ≤ (k : Int) - 2 := by omega
        have pp1 : (2 : Int) ≤ (k : Int) := by omega
        have r1 : (k : Int) - 2 < 64 := by omega
        have t1 : ((k : Int) - 2).toNat = k - 2 := by omega
        have q2 : IntKind.i64.wrap ((k : Int) - 7) = (k : Int) - 7 := IntWalk.i64_in _ (by omega)
        have p2 : (0 : Int) ≤ (k : Int) - 7 := by omega
        have pp2 : (7 : Int) ≤ (k : Int) := by omega
        have r2 : (k : Int) - 7 < 64 := by omega
        have t2 : ((k : Int) - 7).toNat = k - 7 := by omega
        have q3 : IntKind.i64.wrap ((k : Int) - 16) = (k : Int) - 16 := IntWalk.i64_in _ (by omega)
        have p3 : (0 : Int) ≤ (k : Int) - 16 := by omega
        have pp3 : (16 : Int) ≤ (k : Int) := by omega
        have r3 : (k : Int) - 16 < 64 := by omega
        have t3 : ((k : Int) - 16).toNat = k - 16 := by omega
        have p9 : (0 : Int) ≤ (k : Int) := by omega
        have r9 : (k : Int) < 64 := by omega
        go_quiet (fail)
        go_wp2
        have d2 : (wr.drewN nq).cell? ⟨g5, k - 7, none⟩ = _ := c2
        have d3 : (wr.drewN nq).cell? ⟨g5, k - 16, none⟩ = _ := c3
        have d4 : (wr.drewN nq).cell? ⟨g5, k, none⟩ = _ := c4
        have hfq : (wr.drewN nq).frozen? ⟨g5, k, none⟩ = false := hf
        have HSQ := Lib.hid (fun u => (HROW.out.drewN nq).set k u)
        have HCQ := Lib.hid (HC.out.drewN nq)
        clear c0 c1 c2 c3 c4 hf HSR
        generalize wr.drewN nq = wq at d2 d3 d4 hfq HSQ HCQ ⊢
        refine wp_region_still_tail 30 (by kernel_rfl) (by kernel_rfl) ?_
        simp only [List.take_succ_cons, List.take_zero, List.drop_succ_cons, List.drop_zero]
        repeat still_step
        still_call ((rright_17 x2 b1 _).mono fun _ _ h => ⟨h.1, h.2.symm⟩)
        repeat still_step
        still_call ((rright_19 x2 b1 _).mono fun _ _ h => ⟨h.1, h.2.symm⟩)
        repeat still_step
        still_call ((rright_7 x1 b0 _).mono fun _ _ h => ⟨h.1, h.2.symm⟩)
        repeat still_step
        still_call ((rright_18 x1 b0 _).mono fun _ _ h => ⟨h.1, h.2.symm⟩)
        repeat still_step
        try refine wpStill_nil ?_
        rw [next_val x1 x2 x3 x4 b0 b1 b2 b3, ← HWO.out]
        clear q0 q1 q2 q3 p0 p1 p2 p3 pp0 pp1 pp2 pp3 r0 r1 r2 r3 t0 t1 t2 t3 p9 r9
        generalize wordNext (wordsN b k) k = nx at HSET ⊢
        change wpList _ _ _ _ _ wq.drew
        go_wp2
        go_roundw
        case rel =>
          refine ⟨k + 1, by omega, by go_num, ?_, HCQ.out.drew.setCell (fun _ => rfl) _⟩
          rw [← HSET.out, ← u64s_set]
          exact HSQ.out _
        case measure => simp [intOf]; omega
    · have hk64 : k = 64 := by omega
      subst hk64
      rw [show ((64 : Nat) : Int) = 64 from rfl]
      have HROW4 : Hid (Row wr g5 115 (u64s (wordsN b 64))) := Lib.hid (by have hh := hrow; rw [show upN b 64 = wordsN b 64 from by simp [upN]] at hh; exact hh)
      clear hrow hch hk hlt HROW
      go_wp2_with (first | ((with_reducible show wpList _ _ _ (⟨_, .alloc 117, _, _, _, _⟩ :: _) _ _); refine wpList_alloc_Row rfl rfl (u64s (List.replicate 8 0)) zero50 ?_; intro w4 hr4 hc4 hs4; have HR4 := Lib.hid hr4; have HC4 := Lib.hid hc4; clear hr4 hc4 hs4))
      have HG9 := Lib.hid (show w.heap.size < wr.heap.size ∧ w1.heap.size < wr.heap.size ∧ g5 < wr.heap.size by have := HG.out; have := HC.out.size; omega)
      have HC34 := Lib.hid (HC.out.trans (HC4.out.mono (fun _ _ h => h.elim)))
      have HR1y := Lib.hid (HR1x.out.chg HC34.out (by have := HG.out; omega))
      have HR2y := Lib.hid (HR2x.out.chg HC34.out (by have := HG.out; omega))
      have HR5y := Lib.hid (HROW4.out.chg HC4.out (fun h => h))
      have HCW := Lib.hid (HCH.out.andThen HC34.out (fun b h e => by have := HG.out; omega))
      generalize hg9 : wr.heap.size = g9 at HG9 HR4 ⊢
      clear hg9
      go_loopw [10] (fun i wr' => ∃ k : Nat, k ≤ 8 ∧ i = .int .i64 k ∧ Row wr' g9 117 (u64s (s.list.take k ++ List.replicate (8 - k) 0)) ∧ Chg (· = g9) w4 wr') (fun i _ => 8 - (intOf i).toNat)
      case atStart => exact ⟨0, Nat.zero_le _, rfl, HR4.out, Chg.refl _ _⟩
      case round =>
        obtain ⟨k, hk, rfl, hrow, hch⟩ := hrel
        have HROW := Lib.hid hrow
        have HC9 := Lib.hid hch
        have HSL := Lib.hid (St8.len s)
        by_cases hlt : k < 8
        · have hlen : (s.list.take k ++ List.replicate (8 - k) 0).length = 8 := by simp [St8.len]; omega
          have c1 := Row.u32 (HR1y.out.chg hch (by have := HG9.out; omega)) (i := k) (by rw [HSL.out]; exact hlt)
          have c2 := Row.u64 hrow (i := k) (by rw [hlen]; exact hlt)
          have hf := hrow.frozen k
          have HSET : Hid ((s.list.take k ++ List.replicate (8 - k) 0).set k (s.list.getD k 0) = s.list.take (k + 1) ++ List.replicate (8 - (k + 1)) 0) := Lib.hid (fill_set s.list k (by rw [HSL.out]; exact hlt) 8 (by omega))
          have HSR := Lib.hid (hrow.set k)
          have hxl := getD_lt (list_lt' HS.out) k (by decide)
          clear hrow hch hlen
          generalize s.list.getD k 0 = x at c1 HSET hxl
          generalize (s.list.take k ++ List.replicate (8 - k) 0).getD k 0 = y at c2
          go_wp2
          go_roundw
          case rel =>
            refine ⟨k + 1, by omega, by go_num, ?_, HC9.out.setCell (fun _ => rfl) _⟩
            rw [← HSET.out, ← u64s_set]
            exact HSR.out _
          case measure => simp [intOf]; omega
        · have hk8 : k = 8 := by omega
          subst hk8
          rw [show ((8 : Nat) : Int) = 8 from rfl]
          have HROW5 : Hid (Row wr g9 117 (u64s s.list)) := Lib.hid (by have hh := hrow; rw [show s.list.take 8 ++ List.replicate (8 - 8) 0 = s.list from by simp [St8.list]] at hh; exact hh)
          clear hrow hch hk hlt HROW HR4
          go_wp2
          have HWL := Lib.hid (wordsN_len b 64)
          have HLT : Hid (∀ i, kN.getD i 0 < 4294967296 ∧ (wordsN b 64).getD i 0 < 4294967296) := Lib.hid (fun i => ⟨getD_lt kN_lt i (by decide), getD_lt (wordsN_lt HBB.out 64) i (by decide)⟩)
          have HRO := Lib.hid (fun k => roundsN_ok (wordsN b 64) HS.out k)
          have HTX := Lib.hid (HT.out.chg HCW.out (fun h => h) (fun h => h))
          have HTU : Hid (turnN s b = addN s (roundsN s (wordsN b 64) 64)) := Lib.hid rfl
          generalize wordsN b 64 = W at HR5y HWL HLT HRO HTU
          go_loopw [11] (fun i wr' => ∃ (k : Nat) (r : St8), k ≤ 64 ∧ i = .int .i64 k ∧ Hid (r = roundsN s W k) ∧ Row wr' g9 117 (u64s r.list) ∧ Chg (· = g9) w4 wr') (fun i _ => 64 - (intOf i).toNat)
          case atStart => exact ⟨0, s, Nat.zero_le _, rfl, Lib.hid rfl, HROW5.out, HC9.out⟩
          case round =>
            obtain ⟨k, r, hk, rfl, HR, hrow, hch⟩ := hrel
            have HRW0 := Lib.hid hrow
            have HCW0 := Lib.hid hch
            have hro := HRO.out k
            rw [← HR.out] at hro
            have HROK := Lib.hid hro
            clear hro
            obtain ⟨ra, rb, rc, rd, re, rf, rg, rh⟩ := r
            by_cases hlt : k < 64
            · have hgK : 2 ≠ g9 := by have := HT.out.k; have := HG9.out; omega
              have dk0 : wr.cell? ⟨2, k, none⟩ = some (.int .u32 ((kN.getD k 0 : Nat) : Int)) := (hch.cell k (Nat.lt_of_lt_of_le HTX.out.k (Nat.le_refl _)) hgK).trans (HTX.out.ks k hlt)
              have dw0 := Row.u64 (HR5y.out.chg hch (by have := HG9.out; omega)) (i := k) (by rw [HWL.out]; exact hlt)
              have e0_0 := Row.u64 hrow (i := 0) (by rw [St8.len]; decide)
              have e1_0 := Row.u64 hrow (i := 1) (by rw [St8.len]; decide)
              have e2_0 := Row.u64 hrow (i := 2) (by rw [St8.len]; decide)
              have e3_0 := Row.u64 hrow (i := 3) (by rw [St8.len]; decide)
              have e4_0 := Row.u64 hrow (i := 4) (by rw [St8.len]; decide)
              have e5_0 := Row.u64 hrow (i := 5) (by rw [St8.len]; decide)
              have e6_0 := Row.u64 hrow (i := 6) (by rw [St8.len]; decide)
              have e7_0 := Row.u64 hrow (i := 7) (by rw [St8.len]; decide)
              simp only [St8.list, List.getD_cons_zero, List.getD_cons_succ] at e0_0 e1_0 e2_0 e3_0 e4_0 e5_0 e6_0 e7_0
              have HST : Hid (roundsN s W (k + 1) = stepN ⟨ra, rb, rc, rd, re, rf, rg, rh⟩ (kN.getD k 0) (W.getD k 0)) := Lib.hid (by rw [roundsN, HR.out])
              have hA : ra < 4294967296 := HROK.out.a
              have hE : re < 4294967296 := HROK.out.e
              have HLK := Lib.hid (HLT.out k)
              generalize kN.getD k 0 = kk at dk0 HST HLK
              generalize W.getD k 0 = ww at dw0 HST HLK
              have q5 : (0 : Int) ≤ (k : Int) := by omega
              have q6 : (k : Int) < 64 := by omega
              clear hrow hch hgK
              go_wp2
              go_quiet (fail)
              have dk1 : (wr.drewN nq).cell? ⟨2, k, none⟩ = _ := dk0
              have dw1 : (wr.drewN nq).cell? ⟨g5, k, none⟩ = _ := dw0
              have e0_1 : (wr.drewN nq).cell? ⟨g9, 0, none⟩ = _ := e0_0
              have e1_1 : (wr.drewN nq).cell? ⟨g9, 1, none⟩ = _ := e1_0
              have e2_1 : (wr.drewN nq).cell? ⟨g9, 2, none⟩ = _ := e2_0
              have e3_1 : (wr.drewN nq).cell? ⟨g9, 3, none⟩ = _ := e3_0
              have e4_1 : (wr.drewN nq).cell? ⟨g9, 4, none⟩ = _ := e4_0
              have e5_1 : (wr.drewN nq).cell? ⟨g9, 5, none⟩ = _ := e5_0
              have e6_1 : (wr.drewN nq).cell? ⟨g9, 6, none⟩ = _ := e6_0
              have e7_1 : (wr.drewN nq).cell? ⟨g9, 7, none⟩ = _ := e7_0
              have HRW1 := Lib.hid (HRW0.out.drewN nq)
              have HCW1 := Lib.hid (HCW0.out.drewN nq)
              clear dk0 dw0 e0_0 e1_0 e2_0 e3_0 e4_0 e5_0 e6_0 e7_0 HRW0 HCW0
              generalize wr.drewN nq = wa at dk1 dw1 e0_1 e1_1 e2_1 e3_1 e4_1 e5_1 e6_1 e7_1 HRW1 HCW1 ⊢
              go_wp2
              go_quiet ((go_at_call 75; first | (with_reducible exact Calls.quiet_of_same ((rright_6 re hE _).mono fun _ _ h => ⟨h.1, h.2.symm⟩)) | (with_reducible exact Calls.quiet_of_same ((rright_11 re hE _).mono fun _ _ h => ⟨h.1, h.2.symm⟩)) | (with_reducible exact Calls.quiet_of_same ((rright_25 re hE _).mono fun _ _ h => ⟨h.1, h.2.symm⟩))))
              have dk2 : (wa.drewN nq).cell? ⟨2, k, none⟩ = _ := dk1
              have dw2 : (wa.drewN nq).cell? ⟨g5, k, none⟩ = _ := dw1
              have e0_2 : (wa.drewN nq).cell? ⟨g9, 0, none⟩ = _ := e0_1
              have e1_2 : (wa.drewN nq).cell? ⟨g9, 1, none⟩ = _ := e1_1
              have e2_2 : (wa.drewN nq).cell? ⟨g9, 2, none⟩ = _ := e2_1
              have e3_2 : (wa.drewN nq).cell? ⟨g9, 3, none⟩ = _ := e3_1
              have e4_2 : (wa.drewN nq).cell? ⟨g9, 4, none⟩ = _ := e4_1
              have e5_2 : (wa.drewN nq).cell? ⟨g9, 5, none⟩ = _ := e5_1
              have e6_2 : (wa.drewN nq).cell? ⟨g9, 6, none⟩ = _ := e6_1
              have e7_2 : (wa.drewN nq).cell? ⟨g9, 7, none⟩ = _ := e7_1
              have HRW2 := Lib.hid (HRW1.out.drewN nq)
              have HCW2 := Lib.hid (HCW1.out.drewN nq)
              clear dk1 dw1 e0_1 e1_1 e2_1 e3_1 e4_1 e5_1 e6_1 e7_1 HRW1 HCW1
              generalize wa.drewN nq = wb at dk2 dw2 e0_2 e1_2 e2_2 e3_2 e4_2 e5_2 e6_2 e7_2 HRW2 HCW2 ⊢
              go_wp2
              go_quiet ((go_at_call 75; first | (with_reducible exact Calls.quiet_of_same ((rright_2 ra hA _).mono fun _ _ h => ⟨h.1, h.2.symm⟩)) | (with_reducible exact Calls.quiet_of_same ((rright_13 ra hA _).mono fun _ _ h => ⟨h.1, h.2.symm⟩)) | (with_reducible exact Calls.quiet_of_same ((rright_22 ra hA _).mono fun _ _ h => ⟨h.1, h.2.symm⟩))))
              have dk3 : (wb.drewN nq).cell? ⟨2, k, none⟩ = _ := dk2
              have dw3 : (wb.drewN nq).cell? ⟨g5, k, none⟩ = _ := dw2
              have e0_3 : (wb.drewN nq).cell? ⟨g9, 0, none⟩ = _ := e0_2
              have e1_3 : (wb.drewN nq).cell? ⟨g9, 1, none⟩ = _ := e1_2
              have e2_3 : (wb.drewN nq).cell? ⟨g9, 2, none⟩ = _ := e2_2
              have e3_3 : (wb.drewN nq).cell? ⟨g9, 3, none⟩ = _ := e3_2
              have e4_3 : (wb.drewN nq).cell? ⟨g9, 4, none⟩ = _ := e4_2
              have e5_3 : (wb.drewN nq).cell? ⟨g9, 5, none⟩ = _ := e5_2
              have e6_3 : (wb.drewN nq).cell? ⟨g9, 6, none⟩ = _ := e6_2
              have e7_3 : (wb.drewN nq).cell? ⟨g9, 7, none⟩ = _ := e7_2
              have HRW3 := Lib.hid (HRW2.out.drewN nq)
              have HCW3 := Lib.hid (HCW2.out.drewN nq)
              clear dk2 dw2 e0_2 e1_2 e2_2 e3_2 e4_2 e5_2 e6_2 e7_2 HRW2 HCW2
              generalize wb.drewN nq = wc at dk3 dw3 e0_3 e1_3 e2_3 e3_3 e4_3 e5_3 e6_3 e7_3 HRW3 HCW3 ⊢
              rw [one_val ra rb rc rd re rf rg rh kk ww hA hE HROK.out.f HROK.out.g HROK.out.h (HLK.out).1 (HLK.out).2, two_val ra rb rc rd re rf rg rh hA HROK.out.b HROK.out.c]
              have h1 : t1N ⟨ra, rb, rc, rd, re, rf, rg, rh⟩ kk ww < 4294967296 := Nat.mod_lt _ (by decide)
              have h2 : t2N ⟨ra, rb, rc, rd, re, rf, rg, rh⟩ < 4294967296 := Nat.mod_lt _ (by decide)
              have HSN : Hid (stepN ⟨ra, rb, rc, rd, re, rf, rg, rh⟩ kk ww = ⟨(t1N ⟨ra, rb, rc, rd, re, rf, rg, rh⟩ kk ww + t2N ⟨ra, rb, rc, rd, re, rf, rg, rh⟩) % 4294967296, ra, rb, rc, (rd + t1N ⟨ra, rb, rc, rd, re, rf, rg, rh⟩ kk ww) % 4294967296, re, rf, rg⟩) := Lib.hid rfl
              generalize t1N ⟨ra, rb, rc, rd, re, rf, rg, rh⟩ kk ww = one at h1 HSN ⊢
              generalize t2N ⟨ra, rb, rc, rd, re, rf, rg, rh⟩ = two at h2 HSN ⊢
              have hD := HROK.out.d
              simp only at hD
              have HVAL : Hid (u64s (stepN ⟨ra, rb, rc, rd, re, rf, rg, rh⟩ kk ww).list = [.int .u64 (((one : Int) + (two : Int)) % 4294967296), .int .u64 ra, .int .u64 rb, .int .u64 rc, .int .u64 (((rd : Int) + (one : Int)) % 4294967296), .int .u64 re, .int .u64 rf, .int .u64 rg]) := Lib.hid (by rw [HSN.out]; rfl)
              go_wp2_with ((with_reducible show wpList _ _ _ (⟨_, .store 117 _ _, _, _, _, _⟩ :: _) _ _); refine wpList_store_Row (xs := u64s (stepN ⟨ra, rb, rc, rd, re, rf, rg, rh⟩ kk ww).list) rfl rfl rfl (HRW3.out) (by rw [HVAL.out]; rfl) (by rw [u64s_length, St8.len, u64s_length, St8.len]) (by rw [u64s_length, St8.len]; exact size50) (u64s_one _) ?_; intro w6 hr6 hc6 hs6; have HR6 := Lib.hid hr6; have HC6 := Lib.hid hc6; clear hr6 hc6 hs6)
              go_roundw
              case rel => exact ⟨k + 1, stepN ⟨ra, rb, rc, rd, re, rf, rg, rh⟩ kk ww, by omega, by go_num, Lib.hid HST.out.symm, HR6.out, HC6.out _ w4 HCW3.out (fun _ => rfl)⟩
              case measure => simp [intOf]; omega
            · have hk64 : k = 64 := by omega
              subst hk64
              rw [show ((64 : Nat) : Int) = 64 from rfl]
              have HTU2 : Hid (turnN s b = addN s ⟨ra, rb, rc, rd, re, rf, rg, rh⟩) := Lib.hid (by rw [HTU.out, ← HR.out])
              have HROW9 := Lib.hid hrow
              have HR1z := Lib.hid (HR1y.out.chg hch (by have := HG9.out; omega))
              have HR2z := Lib.hid (HR2y.out.chg hch (by have := HG9.out; omega))
              have HN1 := Lib.hid (show ¬ w1.heap.size < w.heap.size ∧ ¬ g9 < w.heap.size ∧ g9 ≠ w.heap.size ∧ w1.heap.size ≠ w.heap.size by have := HG9.out; have := HG.out; omega)
              have HCY := Lib.hid (HCW.out.andThen hch (fun b h e => HN1.out.2.1 (e ▸ h)))
              generalize (⟨ra, rb, rc, rd, re, rf, rg, rh⟩ : St8) = r at HTU2 HROW9 HROK
              have HRL := Lib.hid (list_lt' HROK.out)
              have HSLT := Lib.hid (list_lt' HS.out)
              have HADD := Lib.hid (addN_get s r)
              have HTL := Lib.hid (St8.len (addN s r))
              generalize hAL : (addN s r).list = AL at HADD HTL
              have HAL := Lib.hid hAL
              clear hAL
              clear hrow hch hk hlt HR HRW0 HCW0
              go_wp2
              go_loopw [16] (fun i wr' => ∃ k : Nat, k ≤ 8 ∧ i = .int .i64 k ∧ Row wr' w.heap.size 90 (u32s (AL.take k ++ s.list.drop k)) ∧ Chg (· = w.heap.size) wr wr') (fun i _ => 8 - (intOf i).toNat)
              case atStart => exact ⟨0, Nat.zero_le _, rfl, HR1z.out, Chg.refl _ _⟩
              case round =>
                obtain ⟨k, hk, rfl, hrow, hch⟩ := hrel
                have HROW := Lib.hid hrow
                have HCV := Lib.hid hch
                by_cases hlt : k < 8
                · have c1 := Row.u32 hrow (i := k) (by simp [St8.len, HTL.out]; omega)
                  rw [half_get AL s.list k (by rw [HTL.out]; exact hlt)] at c1
                  have c2 := Row.u64 (HROW9.out.chg hch HN1.out.2.2.1) (i := k) (by rw [St8.len]; exact hlt)
                  have hf := hrow.frozen k
                  have HSET := Lib.hid (half_set AL s.list k (by rw [HTL.out]; exact hlt) (by rw [St8.len]; exact hlt))
                  have HSR := Lib.hid (hrow.set k)
                  have b1 := getD_lt HSLT.out k (by decide)
                  have b2 := getD_lt HRL.out k (by decide)
                  rw [HADD.out k hlt] at HSET
                  clear hrow hch
                  generalize s.list.getD k 0 = x at c1 b1 HSET
                  generalize r.list.getD k 0 = y at c2 b2 HSET
                  go_wp2
                  have q5 : (0 : Int) ≤ (k : Int) := by omega
                  have q6 : (k : Int) < 8 := by omega
                  go_still_tail 12, (by kernel_rfl)
                  rw [add_val x y b1 b2]
                  change wpList _ _ _ _ _ wr.drew
                  clear q5 q6
                  go_wp2
                  go_roundw
                  case rel =>
                    refine ⟨k + 1, by omega, by go_num, ?_, HCV.out.drew.setCell (fun _ => rfl) _⟩
                    rw [← HSET.out, ← u32s_set]
                    exact HSR.out _
                  case measure => simp [intOf]; omega
                · have hk8 : k = 8 := by omega
                  subst hk8
                  have HROWA : Hid (Row wr w.heap.size 90 (u32s AL)) := Lib.hid (by have hh := hrow; rw [show AL.take 8 ++ s.list.drop 8 = AL from by rw [List.take_of_length_le (by rw [HTL.out]; omega), List.drop_of_length_le (by rw [St8.len]; omega), List.append_nil]] at hh; exact hh)
                  clear hrow hch hk hlt HROW
                  go_wp2_with (first | ((with_reducible show wpList _ _ _ (⟨_, .load 90 _, _, _, _, _⟩ :: _) _ _); refine wpList_load_Row rfl rfl rfl (HROWA.out) Tryd.underlying90 rfl (by rw [u32s_length, HTL.out]; exact size36t) ?_) | ((with_reducible show wpList _ _ _ (⟨_, .store 90 _ _, _, _, _, _⟩ :: _) _ _); refine wpList_store_Row (xs := u32s AL) rfl rfl rfl (HR2z.out.chg HCV.out HN1.out.2.2.2) (rfl) (by rw [u32s_length, HTL.out, u32s_length]; rfl) (by rw [u32s_length, HTL.out]; exact size36t) (u32s_one _) ?_; intro w7 hr7 hc7 hs7; have HR7 := Lib.hid hr7; have HC7 := Lib.hid hc7; clear hr7 hc7 hs7))
                  refine ret_row rfl rfl HR7.out Tryd.underlying90 rfl (by rw [u32s_length, HTL.out]; exact size36t) rfl ?_
                  exact ⟨by rw [HTU2.out, HAL.out], HC7.out none_ w (HCY.out.andThen HCV.out (fun b h e => by omega)) (fun h => absurd h HN1.out.1)⟩

end Go.Proofs.YtidafbpiipjnlaaDoor

namespace Go.Proofs.YtidafbpiipjnlaaDoor
open Go.RowKit

/-- A text, the byte 128, and so many zeros. -/
def fillH (l : List Nat) (k : Nat) : List Nat := l ++ 128 :: List.replicate k 0
theorem fillH_len (l : List Nat) (k : Nat) : (fillH l k).length = l.length + 1 + k := by simp [fillH]; omega
theorem fillH_snoc (l : List Nat) (k : Nat) : fillH l k ++ [0] = fillH l (k + 1) := by
  have e : List.replicate k 0 ++ [0] = List.replicate (k + 1) 0 := by rw [List.replicate_succ']
  simp [fillH, ← e]
theorem fillH_lt {l : List Nat} (hl : ∀ x ∈ l, x < 256) (k : Nat) : ∀ x ∈ fillH l k, x < 256 := by
  intro x hx
  simp only [fillH, List.mem_append, List.mem_cons, List.mem_replicate] at hx
  rcases hx with h | rfl | ⟨_, rfl⟩
  · exact hl x h
  · decide
  · decide
theorem padN_fill (l : List Nat) : padN 0 l = fillH l (padZ l.length) ++ be8 (8 * l.length) := by simp [padN, fillH]
theorem be8_small (n : Nat) (h : n < 4294967296) : be8 n = [0, 0, 0, 0, n / 16777216, n / 65536 % 256, n / 256 % 256, n % 256] := by
  simp only [be8, show List.range 8 = [0, 1, 2, 3, 4, 5, 6, 7] from rfl, List.map_cons, List.map_nil]
  congr 1; omega
  congr 1; omega
  congr 1; omega
  congr 1; omega
  congr 1; omega
  congr 1
  congr 1
  congr 1; omega

theorem cnt_row (n : Nat) (h : n ≤ 500000) : ([.int .u8 0, .int .u8 0, .int .u8 0, .int .u8 0, .int .u8 ((n : Int) * 8 / 16777216), .int .u8 ((n : Int) * 8 / 65536 % 256), .int .u8 ((n : Int) * 8 / 256 % 256), .int .u8 ((n : Int) * 8 % 256)] : List Value) = u8s (be8 (8 * n)) := by
  rw [be8_small _ (by omega)]
  simp only [u8s, List.map_cons, List.map_nil, Nat.mul_comm 8 n]
  rfl
/-- A slice's length. -/
def lenV : Value → Nat | .slice _ n _ => n | _ => 0

set_option maxRecDepth 100000 in
set_option maxHeartbeats 4000000 in
theorem rsum_any (T : Nat → Prop) (A : Option Addr) (cap : Nat) (l : List Nat) (w : World) (hv : View w T A l.length (u8s l)) (hl : l.length ≤ 500000) (hb : ∀ x ∈ l, x < 256) (hT : HTab w) :
    Calls Tryd.prog 46 #[.slice A l.length cap] w fun e w' => e = .returned (.agg (u8s (sumN l)).toArray) ∧ Chg none_ w w' := by
  have HTX : Hid (∀ w', Chg none_ w w' → HTab w') := Lib.hid (fun w' hc => hT.chg hc (fun h => h) (fun h => h))
  have HLB := Lib.hid hb
  have HVX : Hid (∀ w', Chg none_ w w' → View w' (fun b => b < w.heap.size) A l.length (u8s l)) := Lib.hid (fun w' hc => (hv.mono (T' := fun b => b < w.heap.size) (fun _ h _ => h)).chg hc (fun _ _ h => h))
  clear hT hb hv
  go_enter Tryd.func46, Tryd.ntmps46
  go_wp2_with (first | ((with_reducible show wpList _ _ _ (⟨_, .alloc 23, _, _, _, _⟩ :: _) _ _); refine wpList_alloc_Row rfl rfl (u8s (List.replicate 32 0)) zero25 ?_; intro w1 hr1 hc1 hs1; have HR1 := Lib.hid hr1; have HC1 := Lib.hid hc1; clear hr1 hc1 hs1) | ((with_reducible show wpList _ _ _ (⟨some 11, _, _, _, _, _⟩ :: _) _ _); refine wpList_new_row (v := fun g => .slice (some ⟨g, 0, none⟩) 0 0) (e := 5) (cs := []) rfl (fun w_ => by go_simp) ?_; intro w2 hr2 hc2 hs2; have HR2 := Lib.hid hr2; have HC2 := Lib.hid hc2; clear hr2 hc2 hs2) | ((with_reducible show wpList _ _ _ (⟨some 13, _, _, _, _, _⟩ :: _) _ _); refine wpList_append_bytes rfl _ _ 24 rfl Tryd.underlying24 rfl (Owned.row (l := []) HR2.out (Nat.le_refl _) rfl (by simp [maxLen])) rfl (HVX.out _ (HC1.out.trans HC2.out)) (by simp; omega) (HC2.out.size) (HC2.out) (Nat.le_refl _) ?_; intro v3 w3 hown3 hc3; have HOWN3 := Lib.hid hown3; have HC3 := Lib.hid hc3; clear hown3 hc3) | ((with_reducible show wpList _ _ _ (⟨some 14, _, _, _, _, _⟩ :: _) _ _); refine wpList_new_row (v := fun g => .slice (some ⟨g, 0, none⟩) 1 1) (e := 5) (cs := [.int .u8 128]) rfl (fun w_ => by go_simp) ?_; intro w4 hr4 hc4 hs4; have HR4 := Lib.hid hr4; have HC4 := Lib.hid hc4; clear hr4 hc4 hs4) | ((with_reducible show wpList _ _ _ (⟨some 15, _, _, _, _, _⟩ :: _) _ _); refine wpList_append_bytes rfl _ _ 24 rfl Tryd.underlying24 rfl (HOWN3.out.chg HC4.out (fun _ _ h => h)) rfl (View.all (T := fun _ => True) (cs := u8s [128]) HR4.out rfl trivial) (by simp; omega) ((HC3.out.trans HC4.out).size) (HC3.out.trans HC4.out) (Nat.le_refl _) ?_; intro v5 w5 hown5 hc5; have HOWN5 := Lib.hid hown5; have HC5 := Lib.hid hc5; clear hown5 hc5))
  have HO5 : Hid (Owned w5 w1.heap.size v5 (fillH l 0)) := Lib.hid (by
    have hh := HOWN5.out
    rw [show [] ++ l ++ [128] = fillH l 0 from by simp [fillH]] at hh
    exact hh)
  have HC15 := HC5
  clear HOWN5 HOWN3 HR2 HR4 HC2 HC3 HC4 HC5
  have hpz : padZ l.length ≤ 63 := by unfold padZ; split <;> omega
  go_loopw [3] (fun v wr => ∃ k : Nat, k ≤ padZ l.length ∧ Owned wr w1.heap.size v (fillH l k) ∧ Chg none_ w1 wr ∧ ∃ A n c, v = .slice A n c) (fun v _ => padZ l.length + l.length + 1 - lenV v)
  case atStart => 
    obtain ⟨A5, c5, e5, _⟩ := HO5.out.view
    exact ⟨0, Nat.zero_le _, HO5.out, HC15.out, A5, _, c5, e5⟩
  case round =>
    obtain ⟨k, hk, hown, hch, Ab, nb, cb, rfl⟩ := hrel
    obtain ⟨rfl, hcap, hvb⟩ := hown.slice
    rw [fillH_len] at hown hcap ⊢
    have HOW := Lib.hid hown
    have HCH := Lib.hid hch
    have HVB := Lib.hid hvb
    clear hown hch hvb
    by_cases hlt : k < padZ l.length
    · have hne : ((((l.length + 1 + k : Nat) : Int) % 64) != 56) = true := by rw [bne_iff_ne]; unfold padZ at hlt; split at hlt <;> omega
      have HPN : Hid (padZ l.length + l.length + 1 - (l.length + 1 + k + 1) < padZ l.length + l.length + 1 - (l.length + 1 + k)) := Lib.hid (by omega)
      generalize hN1 : l.length + 1 + k = N1 at hne HOW hcap HPN ⊢
      have hN2 : N1 ≤ 600000 := by omega
      have HN1 := Lib.hid hN1
      clear hN1
      go_wp2_with (first | ((with_reducible show wpList _ _ _ (⟨some 21, _, _, _, _, _⟩ :: _) _ _); refine wpList_new_row (v := fun g => .slice (some ⟨g, 0, none⟩) 1 1) (e := 5) (cs := [.int .u8 0]) rfl (fun w_ => by go_simp) ?_; intro w6 hr6 hc6 hs6; have HR6 := Lib.hid hr6; have HC6 := Lib.hid hc6; clear hr6 hc6 hs6) | ((with_reducible show wpList _ _ _ (⟨some 22, _, _, _, _, _⟩ :: _) _ _); refine wpList_append_bytes rfl _ _ 24 rfl Tryd.underlying24 rfl (Owned.chg (v := .slice Ab N1 cb) HOW.out HC6.out (fun _ _ h => h)) rfl (View.all (T := fun _ => True) (cs := u8s [0]) HR6.out rfl trivial) (by rw [fillH_len]; omega) ((HCH.out.trans HC6.out).size) (HCH.out.trans HC6.out) (Nat.le_refl _) ?_; intro v7 w7 hown7 hc7; have HOWN7 := Lib.hid hown7; have HC7 := Lib.hid hc7; clear hown7 hc7))
      obtain ⟨A7, c7, e7, hc7, _⟩ := HOWN7.out.view
      subst e7
      go_roundw
      case rel => exact ⟨k + 1, by omega, by rw [← fillH_snoc]; exact HOWN7.out, HC7.out, _, _, _, rfl⟩
      case measure => 
        simp only [lenV]
        rw [List.length_append, fillH_len, HN1.out]
        exact HPN.out
    · have hkp : k = padZ l.length := by omega
      subst hkp
      have hne : ((((l.length + 1 + padZ l.length : Nat) : Int) % 64) != 56) = false := by rw [bne_eq_false_iff_eq]; unfold padZ; split <;> omega
      generalize hN1 : l.length + 1 + padZ l.length = N1 at hne HOW hcap ⊢
      have hN2 : N1 ≤ 600000 := by omega
      have HN1 := Lib.hid hN1
      clear hN1 hlt hk
      go_wp2_with (first | ((with_reducible show wpList _ _ _ (⟨some 41, _, _, _, _, _⟩ :: _) _ _); refine wpList_new_row (v := fun g => .slice (some ⟨g, 0, none⟩) 8 8) (e := 5) (cs := [.int .u8 0, .int .u8 0, .int .u8 0, .int .u8 0, .int .u8 ((l.length : Int) * 8 / 16777216), .int .u8 ((l.length : Int) * 8 / 65536 % 256), .int .u8 ((l.length : Int) * 8 / 256 % 256), .int .u8 ((l.length : Int) * 8 % 256)]) rfl (fun w_ => by go_simp) ?_; intro w8 hr8 hc8 hs8; have HR8 := Lib.hid hr8; have HC8 := Lib.hid hc8; clear hr8 hc8 hs8) | ((with_reducible show wpList _ _ _ (⟨some 42, _, _, _, _, _⟩ :: _) _ _); refine wpList_append_bytes rfl _ _ 24 rfl Tryd.underlying24 rfl (Owned.chg (v := .slice Ab N1 cb) HOW.out HC8.out (fun _ _ h => h)) rfl (View.all (T := fun _ => True) (cs := u8s (be8 (8 * l.length))) (by rw [cnt_row l.length (by omega)] at HR8; exact HR8.out) (by simp [be8_len]) trivial) (by rw [fillH_len]; omega) ((HCH.out.trans HC8.out).size) (HCH.out.trans HC8.out) (Nat.le_refl _) ?_; intro v9 w9 hown9 hc9; have HOWN9 := Lib.hid hown9; have HC9 := Lib.hid hc9; clear hown9 hc9) | ((with_reducible show wpList _ _ _ (⟨some 43, .load 90 _, _, _, _, _⟩ :: _) _ _); refine wpList_load_Mid (cs := u32s first8.list) rfl rfl rfl ((HTX.out _ (HC1.out.trans HC9.out)).fs) Tryd.underlying90 rfl (size36) ?_) | ((with_reducible show wpList _ _ _ (⟨_, .alloc 90, _, _, _, _⟩ :: _) _ _); refine wpList_alloc_Row rfl rfl (u32s (List.replicate 8 0)) zero36 ?_; intro w10 hr10 hc10 hs10; have HR10 := Lib.hid hr10; have HC10 := Lib.hid hc10; clear hr10 hc10 hs10) | ((with_reducible show wpList _ _ _ (⟨_, .store 90 _ _, _, _, _, _⟩ :: _) _ _); refine wpList_store_Row (xs := u32s first8.list) rfl rfl rfl (HR10.out) (rfl) (by rw [u32s_length, St8.len, u32s_length]; rfl) (by rw [u32s_length, St8.len]; exact size36) (u32s_one _) ?_; intro w11 hr11 hc11 hs11; have HR11 := Lib.hid hr11; have HC11 := Lib.hid hc11; clear hr11 hc11 hs11))
      have HCb := Lib.hid (HC1.out.trans HC9.out)
      have HB : Hid (Owned w9 w1.heap.size v9 (padN 0 l)) := Lib.hid (by rw [padN_fill]; exact HOWN9.out)
      obtain ⟨AB, cB, eB, hcB, _, hvB⟩ := HB.out.view
      have HNB : Hid ((padN 0 l).length = 64 * ((padN 0 l).length / 64)) := Lib.hid (by rw [padN_fill, List.length_append, fillH_len, be8_len]; unfold padZ; split <;> omega)
      have HBB : Hid (∀ x ∈ padN 0 l, x < 256) := Lib.hid (by
        intro x hx
        rw [padN_fill] at hx
        rcases List.mem_append.1 hx with h | h
        · exact fillH_lt HLB.out _ x h
        · exact be8_lt _ x h)
      have HBL : Hid ((padN 0 l).length ≤ 600000) := Lib.hid (by rw [padN_fill, List.length_append, fillH_len, be8_len]; omega)
      have HSUM : Hid (bytesN (runN first8 (padN 0 l) ((padN 0 l).length / 64)) = sumN l) := Lib.hid rfl
      have HVB := Lib.hid hvB
      have HCB := Lib.hid hcB
      have e9 : v9 = .slice AB (padN 0 l).length cB := eB
      subst e9
      have HG := Lib.hid (show w.heap.size < w9.heap.size ∧ w9.heap.size < w10.heap.size ∧ w1.heap.size ≤ w9.heap.size by have h1 := HR1.out.lt; have h2 := HC9.out.size; have h3 := HR10.out.lt; omega)
      have HCG := Lib.hid (HC11.out (· = w9.heap.size) w9 (HC10.out.mono (fun _ _ h => h.elim)) (fun _ => rfl))
      have HCg := Lib.hid (HCb.out.andThen HCG.out (fun b h e => by have := HG.out; omega))
      have HR1y := Lib.hid ((HR1.out.chg HC9.out (fun h => h)).chg HCG.out (by have := HG.out; omega))
      have HVB11 : Hid (View w11 (fun b => w1.heap.size ≤ b ∧ b ≠ w9.heap.size) AB (padN 0 l).length (u8s (padN 0 l))) := Lib.hid ((HVB.out.mono (T' := fun b => w1.heap.size ≤ b ∧ b ≠ w9.heap.size) (fun b hb h => ⟨h, by omega⟩)).chg HCG.out (fun b hb h => hb.2 h))
      clear eB hvB hcB HB HOWN9 HOW HCH HVB hne hN2 HC9 HC8 HC10 HC11 HCG HR10 HR1 HR8 HO5 HC15 hcap HN1 hpz
      generalize w9.heap.size = g5 at HR11 HG HVB11 ⊢
      have HNBe := Lib.hid (rfl : (padN 0 l).length / 64 = (padN 0 l).length / 64)
      generalize hnb : (padN 0 l).length / 64 = nb at HNB HSUM
      clear hnb HNBe
      generalize padN 0 l = B at HNB HBB HBL HSUM HVB11 HCB ⊢
      have hBL := HBL.out
      have hNB := HNB.out
      have HTURN : Hid (∀ (j : Nat) wr, j < nb → Chg (· = g5) w11 wr → Calls Tryd.prog 58 #[.agg (u32s (runN first8 B j).list).toArray, .slice (dropA AB cB (64 * j)) 64 (cB - 64 * j)] wr fun e w' => e = .returned (.agg (u32s (turnN (runN first8 B j) (blkN B j)).list).toArray) ∧ Chg none_ wr w') := Lib.hid (fun j wr hj hc => by
        have h1 := (HVB11.out.chg hc (fun b hb h => hb.2 h)).dropA (k := 64 * j) HCB.out
        have h2 := h1.take (k := 64) (by omega)
        have e1 : ((u8s B).drop (64 * j)).take 64 = u8s (blkN B j) := by simp [u8s, blkN]
        rw [e1] at h2
        exact turnH_any (runN first8 B j) (blkN B j) _ _ _ wr (runN_ok B first8_ok j) (blkN_len B j (by omega)) h2 (blkN_lt HBB.out j) ((HTX.out _ HCg.out).chg hc (by have := (HTX.out w (Chg.refl _ _)).k; have := HG.out; omega) (by have := (HTX.out w (Chg.refl _ _)).f; have := HG.out; omega)))
      clear hNB hBL
      go_loopw [6] (fun i wr => ∃ j : Nat, j ≤ nb ∧ i = .int .i64 ((64 * j : Nat) : Int) ∧ Row wr g5 90 (u32s (runN first8 B j).list) ∧ Chg (· = g5) w11 wr) (fun i _ => 64 * nb - (intOf i).toNat)
      case atStart => exact ⟨0, Nat.zero_le _, rfl, HR11.out, Chg.refl _ _⟩
      case round =>
        obtain ⟨j, hj, rfl, hrow, hch⟩ := hrel
        have HROW := Lib.hid hrow
        have HC := Lib.hid hch
        have hNB := HNB.out
        have hBL := HBL.out
        by_cases hlt : j < nb
        · have hl1 : 64 * j < B.length := by omega
          have HTURN := Lib.hid (fun wr hc => HTURN.out j wr hlt hc)
          have Q1 : Hid (IntKind.i64.wrap (64 * (j : Int) + 64) = ((64 * j + 64 : Nat) : Int)) := Lib.hid (by rw [IntWalk.i64_in _ (by omega)]; omega)
          have hfit : 64 * j + 64 ≤ cB := by have := HCB.out; omega
          have HLT2 : Hid (64 * nb - (64 * j + 64) < 64 * nb - 64 * j) := Lib.hid (by omega)
          clear hrow hch hNB
          go_wp2
          refine wp_region_held_drew (S := fun w' => Chg (· = g5) w11 w') (by kernel_rfl) (HC.out.drew) (fun hch0 => ?_)
          refine wpAnyH_take (i := 1) (v := .slice AB B.length cB) rfl (by kernel_rfl) (by kernel_rfl) (by kernel_rfl) (by first | exact fun _ _ _ h => h | exact fun _ _ _ h => nomatch h.1) (Or.inl ⟨by rfl, fun w_ hw_ => by go_simp⟩) hch0 ?_
          refine wpAnyH_take (i := 2) (v := .int .i64 ((64 * j : Nat) : Int)) rfl (by kernel_rfl) (by kernel_rfl) (by kernel_rfl) (by first | exact fun _ _ _ h => h | exact fun _ _ _ h => nomatch h.1) (Or.inl ⟨by rfl, fun w_ hw_ => by go_simp⟩) hch0 ?_
          refine wpAnyH_take (i := 3) (v := .int .i64 ((64 * j : Nat) : Int)) rfl (by kernel_rfl) (by kernel_rfl) (by kernel_rfl) (by first | exact fun _ _ _ h => h | exact fun _ _ _ h => nomatch h.1) (Or.inl ⟨by rfl, fun w_ hw_ => by go_simp⟩) hch0 ?_
          refine wpAnyH_take (i := 4) (v := .int .i64 ((64 * j + 64 : Nat) : Int)) rfl (by kernel_rfl) (by kernel_rfl) (by kernel_rfl) (by first | exact fun _ _ _ h => h | exact fun _ _ _ h => nomatch h.1) (Or.inl ⟨by rfl, fun w_ hw_ => by go_simp; exact Q1.out⟩) hch0 ?_
          refine wpAnyH_take (i := 5) (v := .slice (dropA AB cB (64 * j)) (64 * j + 64 - 64 * j) (cB - 64 * j)) rfl (by kernel_rfl) (by kernel_rfl) (by kernel_rfl) (by first | exact fun _ _ _ h => h | exact fun _ _ _ h => nomatch h.1) (yieldsIf_slice_both (by rfl) 24 5 _ _ _ rfl AB B.length cB (64 * j) (64 * j + 64) rfl rfl rfl Tryd.underlying24 size5h (by omega) hfit rfl) hch0 ?_
          refine wpAnyH_ready (rs := [0]) (by kernel_rfl) (by simp) ?_
          refine AllReadyH.cons rfl (fun K hK => ?_) AllReadyH.nil
          rw [if_pos (by rfl)]
          try simp only [Act.put, List.setIfInBounds_toArray, List.set_cons_zero, List.set_cons_succ, List.getElem_toArray, List.getElem_cons_succ, List.getElem_cons_zero]
          refine wp_load_row (ty := 90) rfl rfl (HROW.out.drew) Tryd.underlying90 rfl (by rw [u32s_length, St8.len]; exact size36) ?_
          refine hK.out _ _ (hch0) (fun _ => ?_)
          clear hK K
          try simp only [Act.put, List.setIfInBounds_toArray, List.set_cons_zero, List.set_cons_succ]
          refine wpAnyH_ready (rs := [6]) (by kernel_rfl) (by simp) ?_
          refine AllReadyH.cons rfl (fun K hK => ?_) AllReadyH.nil
          rw [if_pos (by rfl)]
          try simp only [List.getElem_toArray, List.getElem_cons_succ, List.getElem_cons_zero]
          go_simp
          refine (HTURN.out _ hch0).mono ?_
          rintro e w12 ⟨rfl, hc12⟩
          have hch1 : Chg (· = g5) w11 w12 := hch0.trans (hc12.mono (fun _ _ h => h.elim))
          have hrow4 := HROW.out.drew.chg hc12 (fun h => h)
          refine hK.out _ _ (hch1) (fun _ => ?_)
          clear hK K
          try simp only [Act.put, List.setIfInBounds_toArray, List.set_cons_zero, List.set_cons_succ, List.getElem_toArray, List.getElem_cons_succ, List.getElem_cons_zero]
          refine wpAnyH_ready (rs := [7]) (by kernel_rfl) (by simp) ?_
          refine AllReadyH.cons rfl (fun K hK => ?_) AllReadyH.nil
          rw [if_pos (by rfl)]
          try simp only [List.getElem_toArray, List.getElem_cons_succ, List.getElem_cons_zero]
          refine wp_store_row (ty := 90) (xs := u32s (turnN (runN first8 B j) (blkN B j)).list) rfl rfl (hrow4) rfl (by rw [u32s_length, St8.len, u32s_length, St8.len]) (by rw [u32s_length, St8.len]; exact size36) (u32s_one _) ?_
          intro w13 hr_w13 hc_w13 hs_w13
          refine hK.out _ _ (hc_w13 _ w11 hch1 (fun _ => rfl)) (fun _ => ?_)
          clear hK K
          try simp only [Act.put]
          refine wpAnyH_done (by kernel_rfl) ?_ _
          go_wp2
          go_roundw
          case rel => exact ⟨j + 1, by omega, by go_num, by rw [runN]; exact hr_w13, hc_w13 _ w11 hch1 (fun _ => rfl)⟩
          case measure => 
            have := HLT2.out
            simp [intOf]; omega
        · have hjn : j = nb := by omega
          subst hjn
          have HCw : Hid (Chg none_ w wr) := Lib.hid (HCg.out.andThen HC.out (fun b h e => by have := HG.out; omega))
          have HR1w := Lib.hid (HR1y.out.chg HC.out (by have := HG.out; omega))
          have HST8 := Lib.hid (runN_ok B first8_ok j)
          generalize runN first8 B j = ST at HROW HSUM HST8
          clear hrow hch hj hlt HTURN
          rw [← hNB]
          have hdd : decide ((B.length : Int) < (B.length : Int)) = false := by simp
          have hdx : ¬ (B.length : Int) < (B.length : Int) := by omega
          clear hNB
          go_wp2_with (first | ((with_reducible show wpList _ _ _ (⟨some 7, .alloc 23, _, _, _, _⟩ :: _) _ _); refine wpList_alloc_Row rfl rfl (u8s (List.replicate 32 0)) zero25 ?_; intro w14 hr14 hc14 hs14; have HR14 := Lib.hid hr14; have HC14 := Lib.hid hc14; clear hr14 hc14 hs14))
          have HG7 := Lib.hid (show g5 < wr.heap.size ∧ w.heap.size < wr.heap.size by have h1 := HROW.out.lt; have h2 := HR1w.out.lt; exact ⟨h1, h2⟩)
          have HROWx := Lib.hid (HROW.out.chg HC14.out (fun h => h))
          have HR1z := Lib.hid (HR1w.out.chg HC14.out (fun h => h))
          have HCz := Lib.hid (HCw.out.trans HC14.out)
          clear HROW HR1w HCw HC14 HC HVB11 HCB HNB HBB HBL HR11
          generalize wr.heap.size = g7 at HR14 HG7 ⊢
          have HSL := Lib.hid (St8.len ST)
          have HSX := Lib.hid (fun i => getD_lt (list_lt' HST8.out) i (by decide))
          go_loopw [8] (fun i wr => ∃ j : Nat, j ≤ 32 ∧ i = .int .i64 j ∧ Row wr g7 23 (u8s (bytesP ST j)) ∧ Chg (· = g7) w14 wr) (fun i _ => 32 - (intOf i).toNat)
          case atStart => exact ⟨0, Nat.zero_le _, rfl, HR14.out, Chg.refl _ _⟩
          case round =>
            obtain ⟨j, hj, rfl, hrow, hch⟩ := hrel
            have HROW := Lib.hid hrow
            have HC := Lib.hid hch
            by_cases hlt : j < 32
            · have c1 := Row.u32 (HROWx.out.chg hch (by have := HG7.out; omega)) (i := j / 4) (by rw [HSL.out]; omega)
              have c2 := Row.u8 hrow (i := j) (by rw [bytesP_len ST j hj]; exact hlt)
              have hf := hrow.frozen j
              have hy := HSX.out (j / 4)
              have HSET := Lib.hid (bytesP_set ST j hlt)
              have HSR := Lib.hid (hrow.set j)
              clear hrow hch
              generalize ST.list.getD (j / 4) 0 = x at c1 hy HSET
              generalize (bytesP ST j).getD j 0 = y at c2
              go_wp2
              go_loop [9, 10] (fun v k => ∃ q : Nat, q ≤ 3 ∧ j % 4 ≤ q ∧ k = .int .i64 q ∧ v = .int .u32 ((x / 2 ^ (8 * (q - j % 4)) : Nat) : Int)) (fun _ k => 3 - (intOf k).toNat)
              case atStart => exact ⟨j % 4, by omega, Nat.le_refl _, rfl, by simp⟩
              case round =>
                obtain ⟨q, hq, hq2, rfl, rfl⟩ := hrel
                by_cases hlq : q < 3
                · have HDV : Hid (x / 2 ^ (8 * (q - j % 4)) / 256 = x / 2 ^ (8 * (q + 1 - j % 4))) := Lib.hid (by rw [Nat.div_div_eq_div_mul, show (256 : Nat) = 2 ^ 8 from rfl, ← Nat.pow_add]; congr 2; omega)
                  have hz : x / 2 ^ (8 * (q - j % 4)) < 4294967296 := Nat.lt_of_le_of_lt (Nat.div_le_self _ _) hy
                  generalize x / 2 ^ (8 * (q - j % 4)) = z at HDV hz ⊢
                  go_wp2
                  go_round
                  case rel => exact ⟨q + 1, by omega, by omega, by go_num, by rw [← HDV.out]; rfl⟩
                  case measure => simp [intOf]; omega
                · have hq3 : q = 3 := by omega
                  subst hq3
                  have hz : x / 2 ^ (8 * (3 - j % 4)) < 4294967296 := Nat.lt_of_le_of_lt (Nat.div_le_self _ _) hy
                  generalize x / 2 ^ (8 * (3 - j % 4)) = z at HSET hz ⊢
                  rw [show ((3 : Nat) : Int) = 3 from rfl]
                  go_wp2
                  go_roundw
                  case rel =>
                    refine ⟨j + 1, by omega, by go_num, ?_, HC.out.setCell (fun _ => rfl) _⟩
                    rw [← HSET.out, ← u8s_set]
                    exact HSR.out _
                  case measure => simp [intOf]; omega
            · have hj32 : j = 32 := by omega
              subst hj32
              have HROWy : Hid (Row wr g7 23 (u8s (bytesN ST))) := Lib.hid (by have hh := hrow; rw [show bytesP ST 32 = bytesN ST from by rw [bytesP, List.take_of_length_le (by rw [bytesN_len]; omega)]; simp] at hh; exact hh)
              clear hrow hch hj hlt HROW
              have HN := Lib.hid (show w.heap.size ≠ g7 ∧ ¬ g7 < w.heap.size by have := HG7.out; omega)
              go_wp2_with (first | ((with_reducible show wpList _ _ _ (⟨_, .load 23 _, _, _, _, _⟩ :: _) _ _); refine wpList_load_Row rfl rfl rfl (HROWy.out) Tryd.underlying23 rfl (by rw [u8s_length, bytesN_len]; exact size25) ?_) | ((with_reducible show wpList _ _ _ (⟨_, .store 23 _ _, _, _, _, _⟩ :: _) _ _); refine wpList_store_Row (xs := u8s (bytesN ST)) rfl rfl rfl (HR1z.out.chg HC.out HN.out.1) (rfl) (by rw [u8s_length, bytesN_len, u8s_length]; rfl) (by rw [u8s_length, bytesN_len]; exact size25) (u8s_oneA _) ?_; intro w15 hr15 hc15 hs15; have HR15 := Lib.hid hr15; have HC15 := Lib.hid hc15; clear hr15 hc15 hs15))
              refine ret_row rfl rfl HR15.out Tryd.underlying23 rfl (by rw [u8s_length, bytesN_len]; exact size25) rfl ?_
              exact ⟨by rw [HSUM.out], HC15.out none_ w (HCz.out.andThen HC.out (fun b h e => HN.out.2 (e ▸ h))) (fun h => absurd h (by omega))⟩
end Go.Proofs.YtidafbpiipjnlaaDoor

namespace Go.Proofs.YtidafbpiipjnlaaDoor
open Go.RowKit

theorem padZ_64 (n : Nat) : padZ (64 + n) = padZ n := by unfold padZ; rw [show (64 + n) % 64 = n % 64 from by omega]
theorem padN_key (K l : List Nat) (hK : K.length = 64) : padN 0 (K ++ l) = K ++ padN 64 l := by
  unfold padN
  rw [List.length_append, hK, padZ_64, Nat.zero_add, List.append_assoc]
theorem blkN_key (K P : List Nat) (hK : K.length = 64) (i : Nat) : blkN (K ++ P) (i + 1) = blkN P i := by
  unfold blkN
  rw [show 64 * (i + 1) = K.length + 64 * i from by omega, List.drop_append, List.drop_of_length_le (by omega), show K.length + 64 * i - K.length = 64 * i from by omega, List.nil_append]
theorem runN_key (s : St8) (K P : List Nat) (hK : K.length = 64) : ∀ m, runN s (K ++ P) (m + 1) = runN (turnN s K) P m
  | 0 => by
    have e : blkN (K ++ P) 0 = K := by
      unfold blkN
      rw [Nat.mul_zero, List.drop_zero, List.take_append_of_le_length (by omega), List.take_of_length_le (by omega)]
    rw [runN, runN, runN, e]
  | m + 1 => by rw [runN, runN_key s K P hK m, blkN_key K P hK, runN]
/-- A digest of a key and a text is that of the text behind the key. -/
theorem sum_key (K l : List Nat) (hK : K.length = 64) : sumN (K ++ l) = digN (turnN first8 K) 64 l := by
  unfold sumN digN
  rw [padN_key K l hK, List.length_append, hK, show (64 + (padN 64 l).length) / 64 = (padN 64 l).length / 64 + 1 from by omega, runN_key first8 K _ hK]
theorem xorT_len (K : List Nat) (m i : Nat) : (xorK (K.take i) m).length = min i K.length := by simp [xorK]
theorem xorT_snoc (K : List Nat) (m i : Nat) (hi : i < K.length) : xorK (K.take i) m ++ [K.getD i 0 ^^^ m] = xorK (K.take (i + 1)) m := by
  rw [List.take_succ_eq_append_getElem hi, show K.getD i 0 = K[i] from by simp [List.getD_eq_getElem?_getD, hi]]
  unfold xorK
  rw [List.map_append]
  rfl
theorem keyN_get (k : List Nat) (i : Nat) (h : i < k.length) : (keyN k).getD i 0 = k.getD i 0 := by
  rw [List.getD_eq_getElem?_getD, List.getD_eq_getElem?_getD, keyN, List.getElem?_append_left h]
theorem keyN_get0 (k : List Nat) (i : Nat) (h : k.length ≤ i) : (keyN k).getD i 0 = 0 := by
  rw [List.getD_eq_getElem?_getD, keyN, List.getElem?_append_right h, List.getElem?_replicate]
  split <;> rfl

set_option maxRecDepth 100000 in
set_option maxHeartbeats 1000000 in
theorem rtag_short (T T' : Nat → Prop) (A A' : Option Addr) (cap cap' : Nat) (k l : List Nat) (w : World) (hvk : View w T A k.length (u8s k)) (hv : View w T' A' l.length (u8s l)) (hl : l.length ≤ 400000) (hkb : ∀ x ∈ k, x < 256) (hb : ∀ x ∈ l, x < 256) (hT : HTab w) (h64 : k.length ≤ 64) :
    Calls Tryd.prog 32 #[.slice A k.length cap, .slice A' l.length cap'] w fun e w' => e = .returned (.agg (u8s (tagN k l)).toArray) ∧ Chg none_ w w' := by
  have HTX : Hid (∀ w', Chg none_ w w' → HTab w') := Lib.hid (fun w' hc => hT.chg hc (fun h => h) (fun h => h))
  have HLB := Lib.hid hb
  have HKB := Lib.hid hkb
  have HVL : Hid (∀ w', Chg none_ w w' → View w' (fun b => b < w.heap.size) A' l.length (u8s l)) := Lib.hid (fun w' hc => (hv.mono (T' := fun b => b < w.heap.size) (fun _ h _ => h)).chg hc (fun _ _ h => h))
  have HVK : Hid (∀ w', Chg none_ w w' → View w' (fun b => b < w.heap.size) A k.length (u8s k)) := Lib.hid (fun w' hc => (hvk.mono (T' := fun b => b < w.heap.size) (fun _ h _ => h)).chg hc (fun _ _ h => h))
  have HK64 := Lib.hid h64
  have HE : Hid (tagN k l = tagS k l) := Lib.hid (by unfold tagN; rw [if_neg (by omega)])
  clear hT hb hkb hv hvk
  go_enter Tryd.func32, Tryd.ntmps32
  go_wp2_with (first | ((with_reducible show wpList _ _ _ (⟨_, .alloc 23, _, _, _, _⟩ :: _) _ _); refine wpList_alloc_Row rfl rfl (u8s (List.replicate 32 0)) zero25 ?_; intro w1 hr1 hc1 hs1; have HR1 := Lib.hid hr1; have HC1 := Lib.hid hc1; clear hr1 hc1 hs1))
  have HW := HC1
  have hd13 : decide ((64 : Int) < (k.length : Int)) = false := by simp; omega
  simp only [hd13]
  clear hd13
  have HVKW : Hid (∀ w', Chg none_ w1 w' → View w' (fun b => b < w1.heap.size) A k.length (u8s k)) := Lib.hid (fun w' hc => (HVK.out _ (HC1.out.trans hc)).mono (fun b _ h => Nat.lt_of_lt_of_le h HC1.out.size))
  have HKL := HK64
  have HKBX := HKB
  have HR1W := HR1
  have HG1 := Lib.hid HR1.out.lt
  have HKN : Hid ((keyN (k)).length = 64) := Lib.hid (keyN_len _ HKL.out)
  obtain ⟨DG, hDG⟩ : ∃ DG, digN (turnN first8 (xorK (keyN (k)) 54)) 64 l = DG := ⟨_, rfl⟩
  obtain ⟨LL1, hLL1⟩ : ∃ LL, xorK (keyN (k)) 54 ++ l = LL := ⟨_, rfl⟩
  obtain ⟨LL2, hLL2⟩ : ∃ LL, xorK (keyN (k)) 92 ++ DG = LL := ⟨_, rfl⟩
  obtain ⟨TG, hTG⟩ : ∃ TG, tagS (k) l = TG := ⟨_, rfl⟩
  have HDGL : Hid (DG.length = 32) := Lib.hid (by rw [← hDG]; exact digN_len _ _ _)
  have HTGL : Hid (TG.length = 32) := Lib.hid (by rw [← hTG]; exact digN_len _ _ _)
  have HTGE : Hid (tagS (k) l = TG) := Lib.hid hTG
  have HLL1 := Lib.hid hLL1
  have HLL2 := Lib.hid hLL2
  have HSUM1 : Hid (∀ (T0 : Nat → Prop) A0 c0 w', View w' T0 A0 LL1.length (u8s LL1) → Chg none_ w1 w' → Calls Tryd.prog 46 #[.slice A0 LL1.length c0] w' fun e w'' => e = .returned (.agg (u8s DG).toArray) ∧ Chg none_ w' w'') := Lib.hid (fun T0 A0 c0 w' hv hc => by
    have hh := rsum_any T0 A0 c0 LL1 w' hv (by rw [← hLL1, List.length_append, xorK_len, HKN.out]; omega) (by
      intro x hx
      rw [← hLL1] at hx
      rcases List.mem_append.1 hx with h | h
      · exact xorK_lt (keyN_lt HKBX.out) (by decide) x h
      · exact HLB.out x h) (HTX.out _ (HW.out.trans hc))
    have e : sumN LL1 = DG := by rw [← hLL1, sum_key _ l (by rw [xorK_len]; exact HKN.out), hDG]
    rw [e] at hh
    exact hh)
  have HSUM2 : Hid (∀ (T0 : Nat → Prop) A0 c0 w', View w' T0 A0 LL2.length (u8s LL2) → Chg none_ w1 w' → Calls Tryd.prog 46 #[.slice A0 LL2.length c0] w' fun e w'' => e = .returned (.agg (u8s TG).toArray) ∧ Chg none_ w' w'') := Lib.hid (fun T0 A0 c0 w' hv hc => by
    have hh := rsum_any T0 A0 c0 LL2 w' hv (by rw [← hLL2, List.length_append, xorK_len, HKN.out, HDGL.out]; omega) (by
      intro x hx
      rw [← hLL2, ← hDG] at hx
      rcases List.mem_append.1 hx with h | h
      · exact xorK_lt (keyN_lt HKBX.out) (by decide) x h
      · exact digN_lt _ _ _ x h) (HTX.out _ (HW.out.trans hc))
    have e : sumN LL2 = TG := by rw [← hLL2, ← hDG, sum_key _ _ (by rw [xorK_len]; exact HKN.out), ← hTG]; rfl
    rw [e] at hh
    exact hh)
  clear hDG hLL1 hLL2 hTG
  have HVLX : Hid (∀ w', Chg none_ w1 w' → View w' (fun b => b < w.heap.size) A' l.length (u8s l)) := Lib.hid (fun w' hc => HVL.out _ (HW.out.trans hc))
  have HKG : Hid (∀ i, (keyN (k)).getD i 0 < 256) := Lib.hid (fun i => getD_lt (keyN_lt HKBX.out) i (by decide))
  go_loopw [6, 7, 8] (fun vi vo i wr => ∃ j : Nat, j ≤ 64 ∧ i = .int .i64 j ∧ Owned wr w1.heap.size vi (xorK ((keyN (k)).take j) 54) ∧ Owned wr w1.heap.size vo (xorK ((keyN (k)).take j) 92) ∧ Hid (∀ b, vi.ownBlock = some b → vo.ownBlock ≠ some b) ∧ Chg none_ w1 wr) (fun _ _ i _ => 64 - (intOf i).toNat)
  case atStart => exact ⟨0, Nat.zero_le _, rfl, Owned.nil _ _, Owned.nil _ _, Lib.hid (fun b h => by simp [Value.ownBlock] at h), Chg.refl _ _⟩
  case round =>
    obtain ⟨j, hj, rfl, hvi, hvo, HAP, hcr⟩ := hrel
    have HVI := Lib.hid hvi
    have HVO := Lib.hid hvo
    have HCR := Lib.hid hcr
    clear hvi hvo
    by_cases hlt : j < 64
    · have HT54 : Hid (xorK ((keyN (k)).take j) 54 ++ [(keyN (k)).getD j 0 ^^^ 54] = xorK ((keyN (k)).take (j + 1)) 54) := Lib.hid (xorT_snoc _ _ _ (by rw [HKN.out]; exact hlt))
      have HT92 : Hid (xorK ((keyN (k)).take j) 92 ++ [(keyN (k)).getD j 0 ^^^ 92] = xorK ((keyN (k)).take (j + 1)) 92) := Lib.hid (xorT_snoc _ _ _ (by rw [HKN.out]; exact hlt))
      have hx := HKG.out j
      by_cases hjk : j < (k).length
      · have HGE := Lib.hid (keyN_get (k) j (by omega))
        obtain ⟨bk, ok, hA, _, _, hck⟩ := (HVKW.out _ hcr).at_ hjk
        rw [← HGE.out] at hck
        generalize (keyN (k)).getD j 0 = x at HT54 HT92 hck hx
        first | subst hA | (injection hA with hA; injection hA with hA1 hA2; subst hA1; subst hA2; rw [Nat.zero_add] at hck)
        clear hcr
        have X54 : Hid ([.int .u8 (bits .xor .u8 (x : Int) 54)] = u8s [x ^^^ 54]) := Lib.hid (by show _ = [Value.int .u8 ((x ^^^ 54 : Nat) : Int)]; rw [← u8_xor_nat x 54 (by omega) (by omega)]; rfl)
        have X92 : Hid ([.int .u8 (bits .xor .u8 (x : Int) 92)] = u8s [x ^^^ 92]) := Lib.hid (by show _ = [Value.int .u8 ((x ^^^ 92 : Nat) : Int)]; rw [← u8_xor_nat x 92 (by omega) (by omega)]; rfl)
        go_wp2_with (first | ((with_reducible show wpList _ _ _ (⟨some 32, _, _, _, _, _⟩ :: _) _ _); refine wpList_new_row (v := fun g => .slice (some ⟨g, 0, none⟩) 1 1) (e := 5) (cs := [.int .u8 (bits .xor .u8 (x : Int) 54)]) rfl (fun w_ => by go_simp) ?_; intro w20 hr20 hc20 hs20; have HR20 := Lib.hid hr20; have HC20 := Lib.hid hc20; clear hr20 hc20 hs20) | ((with_reducible show wpList _ _ _ (⟨some 33, _, _, _, _, _⟩ :: _) _ _); refine wpList_append_own2 (v := u6) rfl _ _ 24 rfl Tryd.underlying24 rfl (Owned.chg' HVI.out HC20.out (fun _ _ h => h)) rfl (View.all (T := fun _ => True) (cs := u8s [x ^^^ 54]) (X54.out ▸ HR20.out) rfl trivial) (by rw [xorT_len, HKN.out]; omega) ((HCR.out.trans HC20.out).size) ?_; intro v21 w21 hown21 hc21 ho21; have HOWN21 := Lib.hid hown21; have HC21 := Lib.hid hc21; have HO21 := Lib.hid ho21; clear hown21 hc21 ho21) | ((with_reducible show wpList _ _ _ (⟨some 37, _, _, _, _, _⟩ :: _) _ _); refine wpList_new_row (v := fun g => .slice (some ⟨g, 0, none⟩) 1 1) (e := 5) (cs := [.int .u8 (bits .xor .u8 (x : Int) 92)]) rfl (fun w_ => by go_simp) ?_; intro w22 hr22 hc22 hs22; have HR22 := Lib.hid hr22; have HC22 := Lib.hid hc22; clear hr22 hc22 hs22) | ((with_reducible show wpList _ _ _ (⟨some 38, _, _, _, _, _⟩ :: _) _ _); refine wpList_append_own2 (v := u7) rfl _ _ 24 rfl Tryd.underlying24 rfl (Owned.chg' (Owned.chg' (Owned.chg' HVO.out HC20.out (fun _ _ h => h)) HC21.out (fun b hb h => HAP.out b h hb)) HC22.out (fun _ _ h => h)) rfl (View.all (T := fun _ => True) (cs := u8s [x ^^^ 92]) (X92.out ▸ HR22.out) rfl trivial) (by rw [xorT_len, HKN.out]; omega) (Nat.le_trans (Nat.le_trans (HCR.out.trans HC20.out).size HC21.out.size) HC22.out.size) ?_; intro v23 w23 hown23 hc23 ho23; have HOWN23 := Lib.hid hown23; have HC23 := Lib.hid hc23; have HO23 := Lib.hid ho23; clear hown23 hc23 ho23))
        have HD1 : Hid (∀ b, v21.ownBlock = some b → ¬ u7.ownBlock = some b) := Lib.hid (fun b h1 h2 => by
          rcases HO21.out with h | h
          · exact HAP.out b (h ▸ h1) h2
          · rw [h] at h1
            injection h1 with h1
            have := (HVO.out.lt h2).1
            have := HC20.out.size
            omega)
        have HD2 : Hid (∀ b, v21.ownBlock = some b → v23.ownBlock ≠ some b) := Lib.hid (fun b h1 h2 => by
          rcases HO23.out with h | h
          · exact HD1.out b h1 (h ▸ h2)
          · rw [h] at h2
            injection h2 with h2
            have := (HOWN21.out.lt h1).1
            have := HC22.out.size
            omega)
        have HCN : Hid (Chg none_ w1 w23) := Lib.hid ((((HCR.out.trans HC20.out).andThen HC21.out (fun b hb h => by have := (HVI.out.lt h).2; omega)).trans HC22.out).andThen HC23.out (fun b hb h => by have := (HVO.out.lt h).2; omega))
        go_roundw
        case rel =>
          refine ⟨j + 1, by omega, by go_num, ?_, ?_, HD2, HCN.out⟩
          · have hh := Owned.chg' (Owned.chg' HOWN21.out HC22.out (fun _ _ h => h)) HC23.out HD1.out
            rw [HT54.out] at hh
            exact hh
          · have hh := HOWN23.out
            rw [HT92.out] at hh
            exact hh
        case measure => simp [intOf]; omega
      · have HGE := keyN_get0 (k) j (by omega)
        rw [HGE] at HT54 HT92
        clear HGE hcr
        have X54 : Hid ([.int .u8 (bits .xor .u8 0 54)] = u8s [0 ^^^ 54]) := Lib.hid (by show _ = [Value.int .u8 ((0 ^^^ 54 : Nat) : Int)]; rw [← u8_xor_nat 0 54 (by omega) (by omega)]; rfl)
        have X92 : Hid ([.int .u8 (bits .xor .u8 0 92)] = u8s [0 ^^^ 92]) := Lib.hid (by show _ = [Value.int .u8 ((0 ^^^ 92 : Nat) : Int)]; rw [← u8_xor_nat 0 92 (by omega) (by omega)]; rfl)
        go_wp2_with (first | ((with_reducible show wpList _ _ _ (⟨some 32, _, _, _, _, _⟩ :: _) _ _); refine wpList_new_row (v := fun g => .slice (some ⟨g, 0, none⟩) 1 1) (e := 5) (cs := [.int .u8 (bits .xor .u8 0 54)]) rfl (fun w_ => by go_simp) ?_; intro w20 hr20 hc20 hs20; have HR20 := Lib.hid hr20; have HC20 := Lib.hid hc20; clear hr20 hc20 hs20) | ((with_reducible show wpList _ _ _ (⟨some 33, _, _, _, _, _⟩ :: _) _ _); refine wpList_append_own2 (v := u6) rfl _ _ 24 rfl Tryd.underlying24 rfl (Owned.chg' HVI.out HC20.out (fun _ _ h => h)) rfl (View.all (T := fun _ => True) (cs := u8s [0 ^^^ 54]) (X54.out ▸ HR20.out) rfl trivial) (by rw [xorT_len, HKN.out]; omega) ((HCR.out.trans HC20.out).size) ?_; intro v21 w21 hown21 hc21 ho21; have HOWN21 := Lib.hid hown21; have HC21 := Lib.hid hc21; have HO21 := Lib.hid ho21; clear hown21 hc21 ho21) | ((with_reducible show wpList _ _ _ (⟨some 37, _, _, _, _, _⟩ :: _) _ _); refine wpList_new_row (v := fun g => .slice (some ⟨g, 0, none⟩) 1 1) (e := 5) (cs := [.int .u8 (bits .xor .u8 0 92)]) rfl (fun w_ => by go_simp) ?_; intro w22 hr22 hc22 hs22; have HR22 := Lib.hid hr22; have HC22 := Lib.hid hc22; clear hr22 hc22 hs22) | ((with_reducible show wpList _ _ _ (⟨some 38, _, _, _, _, _⟩ :: _) _ _); refine wpList_append_own2 (v := u7) rfl _ _ 24 rfl Tryd.underlying24 rfl (Owned.chg' (Owned.chg' (Owned.chg' HVO.out HC20.out (fun _ _ h => h)) HC21.out (fun b hb h => HAP.out b h hb)) HC22.out (fun _ _ h => h)) rfl (View.all (T := fun _ => True) (cs := u8s [0 ^^^ 92]) (X92.out ▸ HR22.out) rfl trivial) (by rw [xorT_len, HKN.out]; omega) (Nat.le_trans (Nat.le_trans (HCR.out.trans HC20.out).size HC21.out.size) HC22.out.size) ?_; intro v23 w23 hown23 hc23 ho23; have HOWN23 := Lib.hid hown23; have HC23 := Lib.hid hc23; have HO23 := Lib.hid ho23; clear hown23 hc23 ho23))
        have HD1 : Hid (∀ b, v21.ownBlock = some b → ¬ u7.ownBlock = some b) := Lib.hid (fun b h1 h2 => by
          rcases HO21.out with h | h
          · exact HAP.out b (h ▸ h1) h2
          · rw [h] at h1
            injection h1 with h1
            have := (HVO.out.lt h2).1
            have := HC20.out.size
            omega)
        have HD2 : Hid (∀ b, v21.ownBlock = some b → v23.ownBlock ≠ some b) := Lib.hid (fun b h1 h2 => by
          rcases HO23.out with h | h
          · exact HD1.out b h1 (h ▸ h2)
          · rw [h] at h2
            injection h2 with h2
            have := (HOWN21.out.lt h1).1
            have := HC22.out.size
            omega)
        have HCN : Hid (Chg none_ w1 w23) := Lib.hid ((((HCR.out.trans HC20.out).andThen HC21.out (fun b hb h => by have := (HVI.out.lt h).2; omega)).trans HC22.out).andThen HC23.out (fun b hb h => by have := (HVO.out.lt h).2; omega))
        go_roundw
        case rel =>
          refine ⟨j + 1, by omega, by go_num, ?_, ?_, HD2, HCN.out⟩
          · have hh := Owned.chg' (Owned.chg' HOWN21.out HC22.out (fun _ _ h => h)) HC23.out HD1.out
            rw [HT54.out] at hh
            exact hh
          · have hh := HOWN23.out
            rw [HT92.out] at hh
            exact hh
        case measure => simp [intOf]; omega
    · have hj64 : j = 64 := by omega
      subst hj64
      rw [show (keyN (k)).take 64 = (keyN (k)) from List.take_of_length_le (by rw [HKN.out]; omega)] at HVI HVO
      clear hcr hj hlt
      go_wp2_with (first | ((with_reducible show wpList _ _ _ (⟨some 41, _, _, _, _, _⟩ :: _) _ _); refine wpList_append_own2 (v := u6) rfl _ _ 24 rfl Tryd.underlying24 rfl (HVI.out) rfl (HVLX.out _ HCR.out) (by rw [xorK_len, HKN.out]; omega) (HCR.out.size) ?_; intro v24 w24 hown24 hc24 ho24; have HOWN24 := Lib.hid hown24; have HC24 := Lib.hid hc24; have HO24 := Lib.hid ho24; rw [HLL1.out] at hown24; obtain ⟨A24, c24, e24, hcap24, hv24⟩ := hown24.viewIn; subst e24; have HV24 := Lib.hid hv24; have HC24W : Hid (Chg none_ w1 w24) := Lib.hid (HCR.out.andThen hc24 (fun b hb h => by have := (HVI.out.lt h).2; omega)); clear hown24 hc24 ho24 hcap24 hv24 HOWN24) | (go_at_call 46; first | ((with_reducible refine (HSUM1.out _ A24 c24 _ HV24.out HC24W.out).mono ?_); rintro e w25 ⟨rfl, hc25⟩; have HC25 := Lib.hid hc25; clear hc25) | ((with_reducible refine (HSUM2.out _ A28 c28 _ HV28.out HC28W.out).mono ?_); rintro e w29 ⟨rfl, hc29⟩; have HC29 := Lib.hid hc29; clear hc29)) | ((with_reducible show wpList _ _ _ (⟨some 10, .alloc 23, _, _, _, _⟩ :: _) _ _); refine wpList_alloc_Row rfl rfl (u8s (List.replicate 32 0)) zero25 ?_; intro w26 hr26 hc26 hs26; have HR26 := Lib.hid hr26; have HC26 := Lib.hid hc26; clear hr26 hc26 hs26) | ((with_reducible show wpList _ _ _ (⟨_, .store 23 (.tmp 10) _, _, _, _, _⟩ :: _) _ _); refine wpList_store_Row (xs := u8s DG) rfl rfl rfl (HR26.out) (rfl) (by rw [u8s_length, HDGL.out, u8s_length]; rfl) (by rw [u8s_length, HDGL.out]; exact size25) (u8s_oneA _) ?_; intro w27 hr27 hc27 hs27; have HR27 := Lib.hid hr27; have HC27 := Lib.hid hc27; have HC2427 : Hid (Chg none_ w24 w27) := Lib.hid (hc27 none_ w24 (HC25.out.trans HC26.out) (fun h => by have := HC25.out.size; omega)); clear hr27 hc27 hs27) | ((with_reducible show wpList _ _ _ (⟨some 45, _, _, _, _, _⟩ :: _) _ _); refine wpList_append_own2 (v := u7) rfl _ _ 24 rfl Tryd.underlying24 rfl (Owned.chg' (Owned.chg' HVO.out HC24.out (fun b hb h => HAP.out b h hb)) HC2427.out (fun _ _ h => h)) rfl (View.all (T := fun _ => True) (cs := u8s DG) HR27.out (by rw [u8s_length, HDGL.out]) trivial) (by rw [xorK_len, HKN.out]; omega) (Nat.le_trans (Nat.le_trans HCR.out.size HC24.out.size) HC2427.out.size) ?_; intro v28 w28 hown28 hc28 ho28; have HOWN28 := Lib.hid hown28; have HC28 := Lib.hid hc28; have HO28 := Lib.hid ho28; rw [HLL2.out] at hown28; obtain ⟨A28, c28, e28, hcap28, hv28⟩ := hown28.viewIn; subst e28; have HV28 := Lib.hid hv28; have HC28W : Hid (Chg none_ w1 w28) := Lib.hid ((HC24W.out.trans HC2427.out).andThen hc28 (fun b hb h => by have := (HVO.out.lt h).2; omega)); clear hown28 hc28 ho28 hcap28 hv28 HOWN28) | ((with_reducible show wpList _ _ _ (⟨_, .store 23 (.tmp 4) _, _, _, _, _⟩ :: _) _ _); refine wpList_store_Row (xs := u8s TG) rfl rfl rfl ((HR1W.out.chg HC28W.out (fun h => h)).chg HC29.out (fun h => h)) (rfl) (by rw [u8s_length, HTGL.out, u8s_length]; rfl) (by rw [u8s_length, HTGL.out]; exact size25) (u8s_oneA _) ?_; intro w30 hr30 hc30 hs30; have HR30 := Lib.hid hr30; have HC30 := Lib.hid hc30; clear hr30 hc30 hs30))
      refine ret_row rfl rfl HR30.out Tryd.underlying23 rfl (by rw [u8s_length, HTGL.out]; exact size25) rfl ?_
      exact ⟨by rw [HE.out, HTGE.out], HC30.out none_ w ((HW.out.trans HC28W.out).trans HC29.out) (fun h => absurd h (by omega))⟩

set_option maxRecDepth 100000 in
set_option maxHeartbeats 1000000 in
theorem rtag_long (T T' : Nat → Prop) (A A' : Option Addr) (cap cap' : Nat) (k0 l : List Nat) (w : World) (hvk : View w T A k0.length (u8s k0)) (hv : View w T' A' l.length (u8s l)) (hk : k0.length ≤ 400000) (hl : l.length ≤ 400000) (hkb : ∀ x ∈ k0, x < 256) (hb : ∀ x ∈ l, x < 256) (hT : HTab w) (h64 : 64 < k0.length) :
    Calls Tryd.prog 32 #[.slice A k0.length cap, .slice A' l.length cap'] w fun e w' => e = .returned (.agg (u8s (tagN k0 l)).toArray) ∧ Chg none_ w w' := by
  have HTX : Hid (∀ w', Chg none_ w w' → HTab w') := Lib.hid (fun w' hc => hT.chg hc (fun h => h) (fun h => h))
  have HLB := Lib.hid hb
  have HVL : Hid (∀ w', Chg none_ w w' → View w' (fun b => b < w.heap.size) A' l.length (u8s l)) := Lib.hid (fun w' hc => (hv.mono (T' := fun b => b < w.heap.size) (fun _ h _ => h)).chg hc (fun _ _ h => h))
  have HE : Hid (tagN k0 l = tagS (sumN k0) l) := Lib.hid (by unfold tagN; rw [if_pos h64])
  have HS0 := Lib.hid (fun w' (hc : Chg none_ w w') => rsum_any (fun b => b < w.heap.size) A cap k0 w' ((hvk.mono (T' := fun b => b < w.heap.size) (fun _ h _ => h)).chg hc (fun _ _ h => h)) (by omega) hkb (hT.chg hc (fun h => h) (fun h => h)))
  obtain ⟨k, hkk⟩ : ∃ k, sumN k0 = k := ⟨_, rfl⟩
  rw [hkk] at HE HS0
  have hk32 : k.length = 32 := by rw [← hkk]; exact sumN_len _
  have HK32 := Lib.hid hk32
  have HKBX : Hid (∀ x ∈ k, x < 256) := Lib.hid (by rw [← hkk]; exact sumN_lt _)
  have HKL : Hid (k.length ≤ 64) := Lib.hid (by omega)
  have hd13 : decide ((64 : Int) < (k0.length : Int)) = true := by simp; omega
  clear hT hb hkb hv hvk hkk hk32
  go_enter Tryd.func32, Tryd.ntmps32
  go_wp2_with (first | ((with_reducible show wpList _ _ _ (⟨some 4, .alloc 23, _, _, _, _⟩ :: _) _ _); refine wpList_alloc_Row rfl rfl (u8s (List.replicate 32 0)) zero25 ?_; intro w1 hr1 hc1 hs1; have HR1 := Lib.hid hr1; have HC1 := Lib.hid hc1; clear hr1 hc1 hs1) | (go_at_call 46; refine (HS0.out _ HC1.out).mono ?_; rintro e w2 ⟨rfl, hc2⟩; have HC2 := Lib.hid hc2; clear hc2) | ((with_reducible show wpList _ _ _ (⟨some 5, .alloc 23, _, _, _, _⟩ :: _) _ _); refine wpList_alloc_Row rfl rfl (u8s (List.replicate 32 0)) zero25 ?_; intro w3 hr3 hc3 hs3; have HR3 := Lib.hid hr3; have HC3 := Lib.hid hc3; clear hr3 hc3 hs3) | ((with_reducible show wpList _ _ _ (⟨_, .store 23 (.tmp 5) _, _, _, _, _⟩ :: _) _ _); refine wpList_store_Row (xs := u8s k) rfl rfl rfl (HR3.out) (rfl) (by rw [u8s_length, HK32.out, u8s_length]; rfl) (by rw [u8s_length, HK32.out]; exact size25) (u8s_oneA _) ?_; intro w4 hr4 hc4 hs4; have HR4 := Lib.hid hr4; have HC4 := Lib.hid hc4; clear hr4 hc4 hs4))
  have hsz2 := HC2.out.size
  have HW : Hid (Chg none_ w w4) := Lib.hid (HC4.out none_ w ((HC1.out.trans HC2.out).trans HC3.out) (fun h => by have := HC1.out.size; omega))
  have HR1W := Lib.hid ((HR1.out.chg HC2.out (fun h => h)).chg (HC4.out (· = w2.heap.size) w2 (HC3.out.mono (fun _ _ h => h.elim)) (fun _ => rfl)) (by have := HR1.out.lt; omega))
  have HVKW : Hid (∀ w', Chg none_ w4 w' → View w' (fun b => b < w4.heap.size) (some ⟨w2.heap.size, 0, none⟩) 32 (u8s k)) := Lib.hid (fun w' hc => (View.all (T := fun b => b < w4.heap.size) HR4.out (by rw [u8s_length, HK32.out]) HR4.out.lt).chg hc (fun _ _ h => h))
  have HG1 : Hid (w.heap.size < w4.heap.size) := Lib.hid (by have := HR1W.out.lt; omega)
  clear hsz2 HC1 HC2 HC3 HC4 HR1 HR4 HS0 hd13
  have HKN : Hid ((keyN (k)).length = 64) := Lib.hid (keyN_len _ HKL.out)
  obtain ⟨DG, hDG⟩ : ∃ DG, digN (turnN first8 (xorK (keyN (k)) 54)) 64 l = DG := ⟨_, rfl⟩
  obtain ⟨LL1, hLL1⟩ : ∃ LL, xorK (keyN (k)) 54 ++ l = LL := ⟨_, rfl⟩
  obtain ⟨LL2, hLL2⟩ : ∃ LL, xorK (keyN (k)) 92 ++ DG = LL := ⟨_, rfl⟩
  obtain ⟨TG, hTG⟩ : ∃ TG, tagS (k) l = TG := ⟨_, rfl⟩
  have HDGL : Hid (DG.length = 32) := Lib.hid (by rw [← hDG]; exact digN_len _ _ _)
  have HTGL : Hid (TG.length = 32) := Lib.hid (by rw [← hTG]; exact digN_len _ _ _)
  have HTGE : Hid (tagS (k) l = TG) := Lib.hid hTG
  have HLL1 := Lib.hid hLL1
  have HLL2 := Lib.hid hLL2
  have HSUM1 : Hid (∀ (T0 : Nat → Prop) A0 c0 w', View w' T0 A0 LL1.length (u8s LL1) → Chg none_ w4 w' → Calls Tryd.prog 46 #[.slice A0 LL1.length c0] w' fun e w'' => e = .returned (.agg (u8s DG).toArray) ∧ Chg none_ w' w'') := Lib.hid (fun T0 A0 c0 w' hv hc => by
    have hh := rsum_any T0 A0 c0 LL1 w' hv (by rw [← hLL1, List.length_append, xorK_len, HKN.out]; omega) (by
      intro x hx
      rw [← hLL1] at hx
      rcases List.mem_append.1 hx with h | h
      · exact xorK_lt (keyN_lt HKBX.out) (by decide) x h
      · exact HLB.out x h) (HTX.out _ (HW.out.trans hc))
    have e : sumN LL1 = DG := by rw [← hLL1, sum_key _ l (by rw [xorK_len]; exact HKN.out), hDG]
    rw [e] at hh
    exact hh)
  have HSUM2 : Hid (∀ (T0 : Nat → Prop) A0 c0 w', View w' T0 A0 LL2.length (u8s LL2) → Chg none_ w4 w' → Calls Tryd.prog 46 #[.slice A0 LL2.length c0] w' fun e w'' => e = .returned (.agg (u8s TG).toArray) ∧ Chg none_ w' w'') := Lib.hid (fun T0 A0 c0 w' hv hc => by
    have hh := rsum_any T0 A0 c0 LL2 w' hv (by rw [← hLL2, List.length_append, xorK_len, HKN.out, HDGL.out]; omega) (by
      intro x hx
      rw [← hLL2, ← hDG] at hx
      rcases List.mem_append.1 hx with h | h
      · exact xorK_lt (keyN_lt HKBX.out) (by decide) x h
      · exact digN_lt _ _ _ x h) (HTX.out _ (HW.out.trans hc))
    have e : sumN LL2 = TG := by rw [← hLL2, ← hDG, sum_key _ _ (by rw [xorK_len]; exact HKN.out), ← hTG]; rfl
    rw [e] at hh
    exact hh)
  clear hDG hLL1 hLL2 hTG
  have HVLX : Hid (∀ w', Chg none_ w4 w' → View w' (fun b => b < w.heap.size) A' l.length (u8s l)) := Lib.hid (fun w' hc => HVL.out _ (HW.out.trans hc))
  have HKG : Hid (∀ i, (keyN (k)).getD i 0 < 256) := Lib.hid (fun i => getD_lt (keyN_lt HKBX.out) i (by decide))
  go_loopw [6, 7, 8] (fun vi vo i wr => ∃ j : Nat, j ≤ 64 ∧ i = .int .i64 j ∧ Owned wr w4.heap.size vi (xorK ((keyN (k)).take j) 54) ∧ Owned wr w4.heap.size vo (xorK ((keyN (k)).take j) 92) ∧ Hid (∀ b, vi.ownBlock = some b → vo.ownBlock ≠ some b) ∧ Chg none_ w4 wr) (fun _ _ i _ => 64 - (intOf i).toNat)
  case atStart => exact ⟨0, Nat.zero_le _, rfl, Owned.nil _ _, Owned.nil _ _, Lib.hid (fun b h => by simp [Value.ownBlock] at h), Chg.refl _ _⟩
  case round =>
    obtain ⟨j, hj, rfl, hvi, hvo, HAP, hcr⟩ := hrel
    have HVI := Lib.hid hvi
    have HVO := Lib.hid hvo
    have HCR := Lib.hid hcr
    clear hvi hvo
    by_cases hlt : j < 64
    · have HT54 : Hid (xorK ((keyN (k)).take j) 54 ++ [(keyN (k)).getD j 0 ^^^ 54] = xorK ((keyN (k)).take (j + 1)) 54) := Lib.hid (xorT_snoc _ _ _ (by rw [HKN.out]; exact hlt))
      have HT92 : Hid (xorK ((keyN (k)).take j) 92 ++ [(keyN (k)).getD j 0 ^^^ 92] = xorK ((keyN (k)).take (j + 1)) 92) := Lib.hid (xorT_snoc _ _ _ (by rw [HKN.out]; exact hlt))
      have hx := HKG.out j
      by_cases hjk : j < 32
      · have HGE := Lib.hid (keyN_get (k) j (by rw [HK32.out]; omega))
        obtain ⟨bk, ok, hA, _, _, hck⟩ := (HVKW.out _ hcr).at_ hjk
        rw [← HGE.out] at hck
        generalize (keyN (k)).getD j 0 = x at HT54 HT92 hck hx
        first | subst hA | (injection hA with hA; injection hA with hA1 hA2; subst hA1; subst hA2; rw [Nat.zero_add] at hck)
        clear hcr
        have X54 : Hid ([.int .u8 (bits .xor .u8 (x : Int) 54)] = u8s [x ^^^ 54]) := Lib.hid (by show _ = [Value.int .u8 ((x ^^^ 54 : Nat) : Int)]; rw [← u8_xor_nat x 54 (by omega) (by omega)]; rfl)
        have X92 : Hid ([.int .u8 (bits .xor .u8 (x : Int) 92)] = u8s [x ^^^ 92]) := Lib.hid (by show _ = [Value.int .u8 ((x ^^^ 92 : Nat) : Int)]; rw [← u8_xor_nat x 92 (by omega) (by omega)]; rfl)
        go_wp2_with (first | ((with_reducible show wpList _ _ _ (⟨some 32, _, _, _, _, _⟩ :: _) _ _); refine wpList_new_row (v := fun g => .slice (some ⟨g, 0, none⟩) 1 1) (e := 5) (cs := [.int .u8 (bits .xor .u8 (x : Int) 54)]) rfl (fun w_ => by go_simp) ?_; intro w20 hr20 hc20 hs20; have HR20 := Lib.hid hr20; have HC20 := Lib.hid hc20; clear hr20 hc20 hs20) | ((with_reducible show wpList _ _ _ (⟨some 33, _, _, _, _, _⟩ :: _) _ _); refine wpList_append_own2 (v := u6) rfl _ _ 24 rfl Tryd.underlying24 rfl (Owned.chg' HVI.out HC20.out (fun _ _ h => h)) rfl (View.all (T := fun _ => True) (cs := u8s [x ^^^ 54]) (X54.out ▸ HR20.out) rfl trivial) (by rw [xorT_len, HKN.out]; omega) ((HCR.out.trans HC20.out).size) ?_; intro v21 w21 hown21 hc21 ho21; have HOWN21 := Lib.hid hown21; have HC21 := Lib.hid hc21; have HO21 := Lib.hid ho21; clear hown21 hc21 ho21) | ((with_reducible show wpList _ _ _ (⟨some 37, _, _, _, _, _⟩ :: _) _ _); refine wpList_new_row (v := fun g => .slice (some ⟨g, 0, none⟩) 1 1) (e := 5) (cs := [.int .u8 (bits .xor .u8 (x : Int) 92)]) rfl (fun w_ => by go_simp) ?_; intro w22 hr22 hc22 hs22; have HR22 := Lib.hid hr22; have HC22 := Lib.hid hc22; clear hr22 hc22 hs22) | ((with_reducible show wpList _ _ _ (⟨some 38, _, _, _, _, _⟩ :: _) _ _); refine wpList_append_own2 (v := u7) rfl _ _ 24 rfl Tryd.underlying24 rfl (Owned.chg' (Owned.chg' (Owned.chg' HVO.out HC20.out (fun _ _ h => h)) HC21.out (fun b hb h => HAP.out b h hb)) HC22.out (fun _ _ h => h)) rfl (View.all (T := fun _ => True) (cs := u8s [x ^^^ 92]) (X92.out ▸ HR22.out) rfl trivial) (by rw [xorT_len, HKN.out]; omega) (Nat.le_trans (Nat.le_trans (HCR.out.trans HC20.out).size HC21.out.size) HC22.out.size) ?_; intro v23 w23 hown23 hc23 ho23; have HOWN23 := Lib.hid hown23; have HC23 := Lib.hid hc23; have HO23 := Lib.hid ho23; clear hown23 hc23 ho23))
        have HD1 : Hid (∀ b, v21.ownBlock = some b → ¬ u7.ownBlock = some b) := Lib.hid (fun b h1 h2 => by
          rcases HO21.out with h | h
          · exact HAP.out b (h ▸ h1) h2
          · rw [h] at h1
            injection h1 with h1
            have := (HVO.out.lt h2).1
            have := HC20.out.size
            omega)
        have HD2 : Hid (∀ b, v21.ownBlock = some b → v23.ownBlock ≠ some b) := Lib.hid (fun b h1 h2 => by
          rcases HO23.out with h | h
          · exact HD1.out b h1 (h ▸ h2)
          · rw [h] at h2
            injection h2 with h2
            have := (HOWN21.out.lt h1).1
            have := HC22.out.size
            omega)
        have HCN : Hid (Chg none_ w4 w23) := Lib.hid ((((HCR.out.trans HC20.out).andThen HC21.out (fun b hb h => by have := (HVI.out.lt h).2; omega)).trans HC22.out).andThen HC23.out (fun b hb h => by have := (HVO.out.lt h).2; omega))
        go_roundw
        case rel =>
          refine ⟨j + 1, by omega, by go_num, ?_, ?_, HD2, HCN.out⟩
          · have hh := Owned.chg' (Owned.chg' HOWN21.out HC22.out (fun _ _ h => h)) HC23.out HD1.out
            rw [HT54.out] at hh
            exact hh
          · have hh := HOWN23.out
            rw [HT92.out] at hh
            exact hh
        case measure => simp [intOf]; omega
      · have HGE := keyN_get0 (k) j (by rw [HK32.out]; omega)
        rw [HGE] at HT54 HT92
        clear HGE hcr
        have X54 : Hid ([.int .u8 (bits .xor .u8 0 54)] = u8s [0 ^^^ 54]) := Lib.hid (by show _ = [Value.int .u8 ((0 ^^^ 54 : Nat) : Int)]; rw [← u8_xor_nat 0 54 (by omega) (by omega)]; rfl)
        have X92 : Hid ([.int .u8 (bits .xor .u8 0 92)] = u8s [0 ^^^ 92]) := Lib.hid (by show _ = [Value.int .u8 ((0 ^^^ 92 : Nat) : Int)]; rw [← u8_xor_nat 0 92 (by omega) (by omega)]; rfl)
        go_wp2_with (first | ((with_reducible show wpList _ _ _ (⟨some 32, _, _, _, _, _⟩ :: _) _ _); refine wpList_new_row (v := fun g => .slice (some ⟨g, 0, none⟩) 1 1) (e := 5) (cs := [.int .u8 (bits .xor .u8 0 54)]) rfl (fun w_ => by go_simp) ?_; intro w20 hr20 hc20 hs20; have HR20 := Lib.hid hr20; have HC20 := Lib.hid hc20; clear hr20 hc20 hs20) | ((with_reducible show wpList _ _ _ (⟨some 33, _, _, _, _, _⟩ :: _) _ _); refine wpList_append_own2 (v := u6) rfl _ _ 24 rfl Tryd.underlying24 rfl (Owned.chg' HVI.out HC20.out (fun _ _ h => h)) rfl (View.all (T := fun _ => True) (cs := u8s [0 ^^^ 54]) (X54.out ▸ HR20.out) rfl trivial) (by rw [xorT_len, HKN.out]; omega) ((HCR.out.trans HC20.out).size) ?_; intro v21 w21 hown21 hc21 ho21; have HOWN21 := Lib.hid hown21; have HC21 := Lib.hid hc21; have HO21 := Lib.hid ho21; clear hown21 hc21 ho21) | ((with_reducible show wpList _ _ _ (⟨some 37, _, _, _, _, _⟩ :: _) _ _); refine wpList_new_row (v := fun g => .slice (some ⟨g, 0, none⟩) 1 1) (e := 5) (cs := [.int .u8 (bits .xor .u8 0 92)]) rfl (fun w_ => by go_simp) ?_; intro w22 hr22 hc22 hs22; have HR22 := Lib.hid hr22; have HC22 := Lib.hid hc22; clear hr22 hc22 hs22) | ((with_reducible show wpList _ _ _ (⟨some 38, _, _, _, _, _⟩ :: _) _ _); refine wpList_append_own2 (v := u7) rfl _ _ 24 rfl Tryd.underlying24 rfl (Owned.chg' (Owned.chg' (Owned.chg' HVO.out HC20.out (fun _ _ h => h)) HC21.out (fun b hb h => HAP.out b h hb)) HC22.out (fun _ _ h => h)) rfl (View.all (T := fun _ => True) (cs := u8s [0 ^^^ 92]) (X92.out ▸ HR22.out) rfl trivial) (by rw [xorT_len, HKN.out]; omega) (Nat.le_trans (Nat.le_trans (HCR.out.trans HC20.out).size HC21.out.size) HC22.out.size) ?_; intro v23 w23 hown23 hc23 ho23; have HOWN23 := Lib.hid hown23; have HC23 := Lib.hid hc23; have HO23 := Lib.hid ho23; clear hown23 hc23 ho23))
        have HD1 : Hid (∀ b, v21.ownBlock = some b → ¬ u7.ownBlock = some b) := Lib.hid (fun b h1 h2 => by
          rcases HO21.out with h | h
          · exact HAP.out b (h ▸ h1) h2
          · rw [h] at h1
            injection h1 with h1
            have := (HVO.out.lt h2).1
            have := HC20.out.size
            omega)
        have HD2 : Hid (∀ b, v21.ownBlock = some b → v23.ownBlock ≠ some b) := Lib.hid (fun b h1 h2 => by
          rcases HO23.out with h | h
          · exact HD1.out b h1 (h ▸ h2)
          · rw [h] at h2
            injection h2 with h2
            have := (HOWN21.out.lt h1).1
            have := HC22.out.size
            omega)
        have HCN : Hid (Chg none_ w4 w23) := Lib.hid ((((HCR.out.trans HC20.out).andThen HC21.out (fun b hb h => by have := (HVI.out.lt h).2; omega)).trans HC22.out).andThen HC23.out (fun b hb h => by have := (HVO.out.lt h).2; omega))
        go_roundw
        case rel =>
          refine ⟨j + 1, by omega, by go_num, ?_, ?_, HD2, HCN.out⟩
          · have hh := Owned.chg' (Owned.chg' HOWN21.out HC22.out (fun _ _ h => h)) HC23.out HD1.out
            rw [HT54.out] at hh
            exact hh
          · have hh := HOWN23.out
            rw [HT92.out] at hh
            exact hh
        case measure => simp [intOf]; omega
    · have hj64 : j = 64 := by omega
      subst hj64
      rw [show (keyN (k)).take 64 = (keyN (k)) from List.take_of_length_le (by rw [HKN.out]; omega)] at HVI HVO
      clear hcr hj hlt
      go_wp2_with (first | ((with_reducible show wpList _ _ _ (⟨some 41, _, _, _, _, _⟩ :: _) _ _); refine wpList_append_own2 (v := u6) rfl _ _ 24 rfl Tryd.underlying24 rfl (HVI.out) rfl (HVLX.out _ HCR.out) (by rw [xorK_len, HKN.out]; omega) (HCR.out.size) ?_; intro v24 w24 hown24 hc24 ho24; have HOWN24 := Lib.hid hown24; have HC24 := Lib.hid hc24; have HO24 := Lib.hid ho24; rw [HLL1.out] at hown24; obtain ⟨A24, c24, e24, hcap24, hv24⟩ := hown24.viewIn; subst e24; have HV24 := Lib.hid hv24; have HC24W : Hid (Chg none_ w4 w24) := Lib.hid (HCR.out.andThen hc24 (fun b hb h => by have := (HVI.out.lt h).2; omega)); clear hown24 hc24 ho24 hcap24 hv24 HOWN24) | (go_at_call 46; first | ((with_reducible refine (HSUM1.out _ A24 c24 _ HV24.out HC24W.out).mono ?_); rintro e w25 ⟨rfl, hc25⟩; have HC25 := Lib.hid hc25; clear hc25) | ((with_reducible refine (HSUM2.out _ A28 c28 _ HV28.out HC28W.out).mono ?_); rintro e w29 ⟨rfl, hc29⟩; have HC29 := Lib.hid hc29; clear hc29)) | ((with_reducible show wpList _ _ _ (⟨some 10, .alloc 23, _, _, _, _⟩ :: _) _ _); refine wpList_alloc_Row rfl rfl (u8s (List.replicate 32 0)) zero25 ?_; intro w26 hr26 hc26 hs26; have HR26 := Lib.hid hr26; have HC26 := Lib.hid hc26; clear hr26 hc26 hs26) | ((with_reducible show wpList _ _ _ (⟨_, .store 23 (.tmp 10) _, _, _, _, _⟩ :: _) _ _); refine wpList_store_Row (xs := u8s DG) rfl rfl rfl (HR26.out) (rfl) (by rw [u8s_length, HDGL.out, u8s_length]; rfl) (by rw [u8s_length, HDGL.out]; exact size25) (u8s_oneA _) ?_; intro w27 hr27 hc27 hs27; have HR27 := Lib.hid hr27; have HC27 := Lib.hid hc27; have HC2427 : Hid (Chg none_ w24 w27) := Lib.hid (hc27 none_ w24 (HC25.out.trans HC26.out) (fun h => by have := HC25.out.size; omega)); clear hr27 hc27 hs27) | ((with_reducible show wpList _ _ _ (⟨some 45, _, _, _, _, _⟩ :: _) _ _); refine wpList_append_own2 (v := u7) rfl _ _ 24 rfl Tryd.underlying24 rfl (Owned.chg' (Owned.chg' HVO.out HC24.out (fun b hb h => HAP.out b h hb)) HC2427.out (fun _ _ h => h)) rfl (View.all (T := fun _ => True) (cs := u8s DG) HR27.out (by rw [u8s_length, HDGL.out]) trivial) (by rw [xorK_len, HKN.out]; omega) (Nat.le_trans (Nat.le_trans HCR.out.size HC24.out.size) HC2427.out.size) ?_; intro v28 w28 hown28 hc28 ho28; have HOWN28 := Lib.hid hown28; have HC28 := Lib.hid hc28; have HO28 := Lib.hid ho28; rw [HLL2.out] at hown28; obtain ⟨A28, c28, e28, hcap28, hv28⟩ := hown28.viewIn; subst e28; have HV28 := Lib.hid hv28; have HC28W : Hid (Chg none_ w4 w28) := Lib.hid ((HC24W.out.trans HC2427.out).andThen hc28 (fun b hb h => by have := (HVO.out.lt h).2; omega)); clear hown28 hc28 ho28 hcap28 hv28 HOWN28) | ((with_reducible show wpList _ _ _ (⟨_, .store 23 (.tmp 4) _, _, _, _, _⟩ :: _) _ _); refine wpList_store_Row (xs := u8s TG) rfl rfl rfl ((HR1W.out.chg HC28W.out (fun h => h)).chg HC29.out (fun h => h)) (rfl) (by rw [u8s_length, HTGL.out, u8s_length]; rfl) (by rw [u8s_length, HTGL.out]; exact size25) (u8s_oneA _) ?_; intro w30 hr30 hc30 hs30; have HR30 := Lib.hid hr30; have HC30 := Lib.hid hc30; clear hr30 hc30 hs30))
      refine ret_row rfl rfl HR30.out Tryd.underlying23 rfl (by rw [u8s_length, HTGL.out]; exact size25) rfl ?_
      exact ⟨by rw [HE.out, HTGE.out], HC30.out none_ w ((HW.out.trans HC28W.out).trans HC29.out) (fun h => absurd h (by omega))⟩

theorem rtag_any (T T' : Nat → Prop) (A A' : Option Addr) (cap cap' : Nat) (k l : List Nat) (w : World) (hvk : View w T A k.length (u8s k)) (hv : View w T' A' l.length (u8s l)) (hk : k.length ≤ 400000) (hl : l.length ≤ 400000) (hkb : ∀ x ∈ k, x < 256) (hb : ∀ x ∈ l, x < 256) (hT : HTab w) :
    Calls Tryd.prog 32 #[.slice A k.length cap, .slice A' l.length cap'] w fun e w' => e = .returned (.agg (u8s (tagN k l)).toArray) ∧ Chg none_ w w' := by
  rcases Nat.lt_or_ge 64 k.length with h | h
  · exact rtag_long T T' A A' cap cap' k l w hvk hv hk hl hkb hb hT h
  · exact rtag_short T T' A A' cap cap' k l w hvk hv hl hkb hb hT h
end Go.Proofs.YtidafbpiipjnlaaDoor
