/- Layer 7 (hash): the document's Turn. -/
import Derived.Test.YtodcjcpbigggfaaDoorV7Behind
namespace Go.Proofs.YtodcjcpbigggfaaDoor
open Go.RowKit

/-- Long words as values. -/
def u64s (l : List Nat) : List Value := l.map fun (x : Nat) => Value.int .u64 (x : Int)
@[simp] theorem u64s_length (l : List Nat) : (u64s l).length = l.length := by simp [u64s]
theorem u64s_get (l : List Nat) (i : Nat) : (u64s l)[i]? = l[i]?.map fun (x : Nat) => Value.int .u64 (x : Int) := by simp [u64s]
theorem u64s_set (l : List Nat) (i v : Nat) : (u64s l).set i (.int .u64 (v : Int)) = u64s (l.set i v) := by simp [u64s, List.map_set]
theorem u64s_one (l : List Nat) : (u64s l).all (·.oneCell') = true := by
  rw [List.all_eq_true]; intro u hu
  simp only [u64s, List.mem_map] at hu
  obtain ⟨x, _, rfl⟩ := hu
  rfl
theorem Row.u64 {w : World} {g : Nat} {e : TypeId} {l : List Nat} (h : Row w g e (u64s l)) {i : Nat} (hi : i < l.length) : w.cell? ⟨g, i, none⟩ = some (.int .u64 ((l.getD i 0 : Nat) : Int)) := by
  rw [h.cell, u64s_get, List.getElem?_eq_getElem hi]
  simp [List.getD_eq_getElem?_getD, hi]
theorem zero36 : (Tryd.prog.info? 36).map (·.zero) = some (some (.agg (u32s (List.replicate 8 0)).toArray)) := by kernel_rfl
theorem zero48 : (Tryd.prog.info? 48).map (·.zero) = some (some (.agg (u64s (List.replicate 64 0)).toArray)) := by kernel_rfl
theorem zero50 : (Tryd.prog.info? 50).map (·.zero) = some (some (.agg (u64s (List.replicate 8 0)).toArray)) := by kernel_rfl
theorem size50 : (Tryd.prog.info? 50).map (·.size) = some 8 := by kernel_rfl

/-- The words, as far as they are there. -/
def upN (b : List Nat) (t : Nat) : List Nat := wordsN b t ++ List.replicate (64 - t) 0
theorem upN_len (b : List Nat) (t : Nat) (ht : t ≤ 64) : (upN b t).length = 64 := by simp [upN, wordsN_len]; omega
theorem upN_get (b : List Nat) (t i : Nat) (h : i < t) : (upN b t).getD i 0 = (wordsN b t).getD i 0 := by
  rw [List.getD_eq_getElem?_getD, List.getD_eq_getElem?_getD, upN, List.getElem?_append_left (by rw [wordsN_len]; exact h)]
theorem upN_set (b : List Nat) (t v : Nat) (ht : t < 64) (hv : v = if t < 16 then wordOf b t else wordNext (wordsN b t) t) : (upN b t).set t v = upN b (t + 1) := by
  subst hv
  unfold upN
  rw [List.set_append_right _ _ (by rw [wordsN_len]; omega), wordsN_len, Nat.sub_self, show 64 - t = (64 - (t + 1)) + 1 from by omega, List.replicate_succ, List.set_cons_zero, wordsN]
  simp

theorem word_val (y0 y1 y2 y3 : Nat) (h0 : y0 < 256) (h1 : y1 < 256) (h2 : y2 < 256) (h3 : y3 < 256) :
    IntKind.u64.wrap (IntKind.u64.wrap (IntKind.u64.wrap (IntKind.u64.wrap (IntKind.u64.wrap (IntKind.u64.wrap (IntKind.u64.wrap (y0 : Int) * 256) + IntKind.u64.wrap (y1 : Int)) * 256) + IntKind.u64.wrap (y2 : Int)) * 256) + IntKind.u64.wrap (y3 : Int)) = ((((y0 * 256 + y1) * 256 + y2) * 256 + y3 : Nat) : Int) := by
  have e : ∀ x : Int, IntKind.u64.wrap x = x % 18446744073709551616 := fun _ => rfl
  simp only [e]
  omega

theorem sg1V (x : Nat) (hx : x < 4294967296) : bits .xor .u64 (bits .xor .u64 ((rotr x 17 : Nat) : Int) ((rotr x 19 : Nat) : Int)) ((x : Int) / 1024) = ((sg1 x : Nat) : Int) := by
  have l1 := rotr_lt x 17; have l2 := rotr_lt x 19
  rw [u64_xor_nat _ _ (by omega) (by omega)]
  have := u64_xor_nat (rotr x 17 ^^^ rotr x 19) (x >>> 10) (by have := xor_lt l1 l2; omega) (by have := shr_lt 10 hx; omega)
  rw [Nat.shiftRight_eq_div_pow] at this
  unfold sg1
  rw [Nat.shiftRight_eq_div_pow]
  exact this
theorem sg0V (x : Nat) (hx : x < 4294967296) : bits .xor .u64 (bits .xor .u64 ((rotr x 7 : Nat) : Int) ((rotr x 18 : Nat) : Int)) ((x : Int) / 8) = ((sg0 x : Nat) : Int) := by
  have l1 := rotr_lt x 7; have l2 := rotr_lt x 18
  rw [u64_xor_nat _ _ (by omega) (by omega)]
  have := u64_xor_nat (rotr x 7 ^^^ rotr x 18) (x >>> 3) (by have := xor_lt l1 l2; omega) (by have := shr_lt 3 hx; omega)
  rw [Nat.shiftRight_eq_div_pow] at this
  unfold sg0
  rw [Nat.shiftRight_eq_div_pow]
  exact this
theorem u64w (x : Int) : IntKind.u64.wrap x = x % 18446744073709551616 := rfl
theorem next_val (x1 x2 x3 x4 : Nat) (h1 : x1 < 4294967296) (h2 : x2 < 4294967296) (h3 : x3 < 4294967296) (h4 : x4 < 4294967296) :
    (IntKind.u64.wrap (IntKind.u64.wrap (IntKind.u64.wrap (bits .xor .u64 (bits .xor .u64 ((rotr x2 17 : Nat) : Int) ((rotr x2 19 : Nat) : Int)) ((x2 : Int) / 1024) + (x3 : Int)) + bits .xor .u64 (bits .xor .u64 ((rotr x1 7 : Nat) : Int) ((rotr x1 18 : Nat) : Int)) ((x1 : Int) / 8)) + (x4 : Int))).tmod 4294967296 = (((sg1 x2 + x3 + sg0 x1 + x4) % 4294967296 : Nat) : Int) := by
  have l1 := sg1_lt h2; have l2 := sg0_lt h1
  rw [sg1V x2 h2, sg0V x1 h1]
  simp only [u64w]
  rw [Int.tmod_eq_emod_of_nonneg (by omega)]
  omega

theorem fill_set (l : List Nat) (k : Nat) (hk : k < l.length) (n : Nat) (hn : k < n) : (l.take k ++ List.replicate (n - k) 0).set k (l.getD k 0) = l.take (k + 1) ++ List.replicate (n - (k + 1)) 0 := by
  rw [List.set_append_right _ _ (by rw [List.length_take]; omega), show k - (l.take k).length = 0 from by rw [List.length_take]; omega, show n - k = (n - (k + 1)) + 1 from by omega, List.replicate_succ, List.set_cons_zero, List.take_succ_eq_append_getElem hk, show l.getD k 0 = l[k] from by simp [List.getD_eq_getElem?_getD, hk], List.append_assoc]
  rfl

theorem list_lt' {s : St8} (h : s.Ok) : ∀ x ∈ s.list, x < 4294967296 := by
  intro x hx
  simp only [St8.list, List.mem_cons, List.not_mem_nil, or_false] at hx
  rcases hx with rfl | rfl | rfl | rfl | rfl | rfl | rfl | rfl
  · exact h.a
  · exact h.b
  · exact h.c
  · exact h.d
  · exact h.e
  · exact h.f
  · exact h.g
  · exact h.h
theorem bs1W (e : Nat) : bits .xor .u64 (bits .xor .u64 ((rotr e 6 : Nat) : Int) ((rotr e 11 : Nat) : Int)) ((rotr e 25 : Nat) : Int) = ((bs1 e : Nat) : Int) := by
  have l1 := rotr_lt e 6; have l2 := rotr_lt e 11; have l3 := rotr_lt e 25; have l4 := xor_lt l1 l2
  rw [u64_xor_nat _ _ (by omega) (by omega), u64_xor_nat _ _ (by omega) (by omega)]
  rfl
theorem bs0W (e : Nat) : bits .xor .u64 (bits .xor .u64 ((rotr e 2 : Nat) : Int) ((rotr e 13 : Nat) : Int)) ((rotr e 22 : Nat) : Int) = ((bs0 e : Nat) : Int) := by
  have l1 := rotr_lt e 2; have l2 := rotr_lt e 13; have l3 := rotr_lt e 22; have l4 := xor_lt l1 l2
  rw [u64_xor_nat _ _ (by omega) (by omega), u64_xor_nat _ _ (by omega) (by omega)]
  rfl
theorem chW (e f g : Nat) (he : e < 4294967296) (hf : f < 4294967296) (hg : g < 4294967296) : bits .xor .u64 (bits .and .u64 (e : Int) (f : Int)) (bits .and .u64 (4294967295 - (e : Int)) (g : Int)) = ((chN e f g : Nat) : Int) := by
  have l1 := and_lt f he; have l2 : (4294967295 - e) &&& g < 4294967296 := and_lt g (by omega)
  rw [show (4294967295 - (e : Int)) = ((4294967295 - e : Nat) : Int) from by omega, u64_and_nat _ _ (by omega) (by omega), u64_and_nat _ _ (by omega) (by omega), u64_xor_nat _ _ (by omega) (by omega)]
  rfl
theorem majW (a b c : Nat) (ha : a < 4294967296) (hb : b < 4294967296) (hc : c < 4294967296) : bits .xor .u64 (bits .xor .u64 (bits .and .u64 (a : Int) (b : Int)) (bits .and .u64 (a : Int) (c : Int))) (bits .and .u64 (b : Int) (c : Int)) = ((majN a b c : Nat) : Int) := by
  have l1 := and_lt b ha; have l2 := and_lt c ha; have l3 := and_lt c hb; have l4 := xor_lt l1 l2
  rw [u64_and_nat _ _ (by omega) (by omega), u64_and_nat _ _ (by omega) (by omega), u64_and_nat _ _ (by omega) (by omega), u64_xor_nat _ _ (by omega) (by omega), u64_xor_nat _ _ (by omega) (by omega)]
  rfl
theorem one_val (ra rb rc rd re rf rg rh kk ww : Nat) (_ha : ra < 4294967296) (he : re < 4294967296) (hf : rf < 4294967296) (hg : rg < 4294967296) (hh : rh < 4294967296) (hk : kk < 4294967296) (hw : ww < 4294967296) :
    (IntKind.u64.wrap (IntKind.u64.wrap (IntKind.u64.wrap (IntKind.u64.wrap ((rh : Int) + bits .xor .u64 (bits .xor .u64 ((rotr re 6 : Nat) : Int) ((rotr re 11 : Nat) : Int)) ((rotr re 25 : Nat) : Int)) + bits .xor .u64 (bits .and .u64 (re : Int) (rf : Int)) (bits .and .u64 (4294967295 - (re : Int)) (rg : Int))) + IntKind.u64.wrap (kk : Int)) + (ww : Int))).tmod 4294967296 = ((t1N ⟨ra, rb, rc, rd, re, rf, rg, rh⟩ kk ww : Nat) : Int) := by
  have l1 := bs1_lt re; have l2 := chN_lt rf rg he
  rw [bs1W, chW re rf rg he hf hg]
  simp only [u64w, t1N]
  rw [Int.tmod_eq_emod_of_nonneg (by omega)]
  omega
theorem two_val (ra rb rc rd re rf rg rh : Nat) (ha : ra < 4294967296) (hb : rb < 4294967296) (hc : rc < 4294967296) :
    (IntKind.u64.wrap (bits .xor .u64 (bits .xor .u64 ((rotr ra 2 : Nat) : Int) ((rotr ra 13 : Nat) : Int)) ((rotr ra 22 : Nat) : Int) + bits .xor .u64 (bits .xor .u64 (bits .and .u64 (ra : Int) (rb : Int)) (bits .and .u64 (ra : Int) (rc : Int))) (bits .and .u64 (rb : Int) (rc : Int)))).tmod 4294967296 = ((t2N ⟨ra, rb, rc, rd, re, rf, rg, rh⟩ : Nat) : Int) := by
  have l1 := bs0_lt ra; have l2 := majN_lt rc ha hb
  rw [bs0W, majW ra rb rc ha hb hc]
  simp only [u64w, t2N]
  rw [Int.tmod_eq_emod_of_nonneg (by omega)]
  omega

theorem addN_get (s r : St8) : ∀ i, i < 8 → (addN s r).list.getD i 0 = (s.list.getD i 0 + r.list.getD i 0) % 4294967296
  | 0, _ => rfl | 1, _ => rfl | 2, _ => rfl | 3, _ => rfl | 4, _ => rfl | 5, _ => rfl | 6, _ => rfl | 7, _ => rfl
  | n + 8, h => absurd h (by omega)
theorem add_val (x y : Nat) (hx : x < 4294967296) (hy : y < 4294967296) : IntKind.u32.wrap ((IntKind.u64.wrap (IntKind.u64.wrap (x : Int) + (y : Int))).tmod 4294967296) = (((x + y) % 4294967296 : Nat) : Int) := by
  simp only [u64w]
  rw [Int.tmod_eq_emod_of_nonneg (by omega)]
  show (_ % 4294967296) % 4294967296 = _
  omega
theorem half_get (l m : List Nat) (k : Nat) (hl : k < l.length) : (l.take k ++ m.drop k).getD k 0 = m.getD k 0 := by
  rw [List.getD_eq_getElem?_getD, List.getElem?_append_right (by rw [List.length_take]; omega), List.length_take, Nat.min_eq_left (by omega), Nat.sub_self, List.getElem?_drop, List.getD_eq_getElem?_getD, Nat.add_zero]
theorem half_set (l m : List Nat) (k : Nat) (hl : k < l.length) (hm : k < m.length) : (l.take k ++ m.drop k).set k (l.getD k 0) = l.take (k + 1) ++ m.drop (k + 1) := by
  rw [List.set_append_right _ _ (by rw [List.length_take]; omega), show k - (l.take k).length = 0 from by rw [List.length_take]; omega, List.drop_eq_getElem_cons hm, List.set_cons_zero, List.take_succ_eq_append_getElem hl, show l.getD k 0 = l[k] from by simp [List.getD_eq_getElem?_getD, hl], List.append_assoc]
  rfl
theorem size36 : (Tryd.prog.info? 36).map (·.size) = some 8 := by kernel_rfl

set_option maxRecDepth 100000 in
set_option maxHeartbeats 8000000 in
theorem turn_any (s : St8) (b : List Nat) (T : Nat → Prop) (A : Option Addr) (cap : Nat) (w : World) (hs : s.Ok) (hl : b.length = 64) (hv : View w T A 64 (u8s b)) (hb : ∀ x ∈ b, x < 256) (hT : HTab w) : Calls Tryd.prog 20 #[.agg (u32s s.list).toArray, .slice A 64 cap] w fun e w' => e = .returned (.agg (u32s (turnN s b).list).toArray) ∧ Chg none_ w w' := by
  have HT := Lib.hid hT
  have HS := Lib.hid hs
  have HL := Lib.hid hl
  have HBB := Lib.hid hb
  have HB := Lib.hid (fun i => getD_lt hb i (by decide))
  obtain ⟨ab, ao, rfl, hab, _, hcell⟩ := hv.2 (by decide)
  have HCL : Hid (∀ j, j < 64 → w.cell? ⟨ab, ao + j, none⟩ = some (.int .u8 ((b.getD j 0 : Nat) : Int))) := Lib.hid (fun j hj => by rw [hcell j hj, u8s_get]; simp [List.getD, hl, hj])
  have HAB := Lib.hid hab
  clear hT hs hl hb hv hcell hab
  go_enter Tryd.func20, Tryd.ntmps20
  go_wp2_with (first | ((with_reducible show wpList _ _ _ (⟨_, .box 36 _, _, _, _, _⟩ :: _) _ _); refine wpList_box_Row rfl rfl (u32s s.list) rfl ?_; intro w1 hr1 hc1 hs1; have HR1 := Lib.hid hr1; have HC1 := Lib.hid hc1; clear hr1 hc1 hs1) | ((with_reducible show wpList _ _ _ (⟨_, .alloc 36, _, _, _, _⟩ :: _) _ _); refine wpList_alloc_Row rfl rfl (u32s (List.replicate 8 0)) zero36 ?_; intro w2 hr2 hc2 hs2; have HR2 := Lib.hid hr2; have HC2 := Lib.hid hc2; clear hr2 hc2 hs2) | ((with_reducible show wpList _ _ _ (⟨_, .alloc 48, _, _, _, _⟩ :: _) _ _); refine wpList_alloc_Row rfl rfl (u64s (List.replicate 64 0)) zero48 ?_; intro w3 hr3 hc3 hs3; have HR3 := Lib.hid hr3; have HC3 := Lib.hid hc3; clear hr3 hc3 hs3))
  have HG := Lib.hid (show w.heap.size < w1.heap.size ∧ w1.heap.size < w2.heap.size ∧ w2.heap.size < w3.heap.size from ⟨HR1.out.lt, HR2.out.lt, HR3.out.lt⟩)
  have HR1x := Lib.hid ((HR1.out.chg HC2.out (fun h => h)).chg HC3.out (fun h => h))
  have HR2x := Lib.hid (HR2.out.chg HC3.out (fun h => h))
  have HCH := Lib.hid ((HC1.out.trans HC2.out).trans HC3.out)
  clear HR1 HR2 HC1 HC2 HC3
  generalize hg5 : w2.heap.size = g5 at HG HR3 ⊢
  clear hg5
  go_loopw [6] (fun i wr => ∃ k : Nat, k ≤ 64 ∧ i = .int .i64 k ∧ Row wr g5 48 (u64s (upN b k)) ∧ Chg (· = g5) w3 wr) (fun i _ => 64 - (intOf i).toNat)
  case atStart => exact ⟨0, Nat.zero_le _, rfl, HR3.out, Chg.refl _ _⟩
  case round =>
    obtain ⟨k, hk, rfl, hrow, hch⟩ := hrel
    have HROW := Lib.hid hrow
    have HC := Lib.hid hch
    by_cases hlt : k < 64
    · by_cases h16 : k < 16
      · have hab2 : ab ≠ g5 := by have := HAB.out; have := HG.out; omega
        have cb := fun j hj => (hch.cell (ao + j) (Nat.lt_of_lt_of_le HAB.out HCH.out.size) hab2).trans ((HCH.out.cell (ao + j) HAB.out (fun h => h)).trans (HCL.out j hj))
        have c0 := cb (4 * k) (by omega)
        have c1 := cb (4 * k + 1) (by omega)
        have c2 := cb (4 * k + 2) (by omega)
        have c3 := cb (4 * k + 3) (by omega)
        have c4 := Row.u64 hrow (i := k) (by rw [upN_len b k hk]; exact hlt)
        have hf := hrow.frozen k
        have HSET := Lib.hid (upN_set b k (wordOf b k) hlt (by rw [if_pos h16]))
        have HSR := Lib.hid (hrow.set k)
        have b0 := HB.out (4 * k)
        have b1 := HB.out (4 * k + 1)
        have b2 := HB.out (4 * k + 2)
        have b3 := HB.out (4 * k + 3)
        have HWO : Hid (wordOf b k = ((b.getD (4 * k) 0 * 256 + b.getD (4 * k + 1) 0) * 256 + b.getD (4 * k + 2) 0) * 256 + b.getD (4 * k + 3) 0) := Lib.hid rfl
        clear hrow hch cb
        generalize b.getD (4 * k) 0 = y0 at c0 b0 HWO
        generalize b.getD (4 * k + 1) 0 = y1 at c1 b1 HWO
        generalize b.getD (4 * k + 2) 0 = y2 at c2 b2 HWO
        generalize b.getD (4 * k + 3) 0 = y3 at c3 b3 HWO
        generalize (upN b k).getD k 0 = y4 at c4
        go_wp2
        have q1 : IntKind.i64.wrap (4 * (k : Int)) = 4 * (k : Int) := IntWalk.i64_in _ (by omega)
        have q2 : IntKind.i64.wrap (4 * (k : Int) + 1) = 4 * (k : Int) + 1 := IntWalk.i64_in _ (by omega)
        have q3 : IntKind.i64.wrap (4 * (k : Int) + 2) = 4 * (k : Int) + 2 := IntWalk.i64_in _ (by omega)
        have q4 : IntKind.i64.wrap (4 * (k : Int) + 3) = 4 * (k : Int) + 3 := IntWalk.i64_in _ (by omega)
        have p0 : (0 : Int) ≤ (k : Int) := by omega
        have p1 : (0 : Int) ≤ 4 * (k : Int) := by omega
        have p2 : (0 : Int) ≤ 4 * (k : Int) + 1 := by omega
        have p3 : (0 : Int) ≤ 4 * (k : Int) + 2 := by omega
        have p4 : (0 : Int) ≤ 4 * (k : Int) + 3 := by omega
        have r0 : (k : Int) < 64 := by omega
        have r1 : 4 * (k : Int) < 64 := by omega
        have r2 : 4 * (k : Int) + 1 < 64 := by omega
        have r3 : 4 * (k : Int) + 2 < 64 := by omega
        have r4 : 4 * (k : Int) + 3 < 64 := by omega
        have t1 : (4 * (k : Int)).toNat = 4 * k := by omega
        have t2 : (4 * (k : Int) + 1).toNat = 4 * k + 1 := by omega
        have t3 : (4 * (k : Int) + 2).toNat = 4 * k + 2 := by omega
        have t4 : (4 * (k : Int) + 3).toNat = 4 * k + 3 := by omega
        go_still_tail 35, (by kernel_rfl)
        clear q1 q2 q3 q4 p0 p1 p2 p3 p4 r0 r1 r2 r3 r4 t1 t2 t3 t4
        rw [word_val y0 y1 y2 y3 b0 b1 b2 b3, ← HWO.out]
        generalize wordOf b k = nx at HSET ⊢
        change wpList _ _ _ _ _ wr.drew
        go_wp2
        go_roundw
        case rel =>
          refine ⟨k + 1, by omega, by go_num, ?_, HC.out.drew.setCell (fun _ => rfl) _⟩
          rw [← HSET.out, ← u64s_set]
          exact HSR.out _
        case measure => simp [intOf]; omega
      · have hwl := wordsN_lt HBB.out k
        have c0 := Row.u64 hrow (i := k - 15) (by rw [upN_len b k hk]; omega)
        rw [upN_get b k (k - 15) (by omega)] at c0
        have b0 := getD_lt hwl (k - 15) (by decide)
        have c1 := Row.u64 hrow (i := k - 2) (by rw [upN_len b k hk]; omega)
        rw [upN_get b k (k - 2) (by omega)] at c1
        have b1 := getD_lt hwl (k - 2) (by decide)
        have c2 := Row.u64 hrow (i := k - 7) (by rw [upN_len b k hk]; omega)
        rw [upN_get b k (k - 7) (by omega)] at c2
        have b2 := getD_lt hwl (k - 7) (by decide)
        have c3 := Row.u64 hrow (i := k - 16) (by rw [upN_len b k hk]; omega)
        rw [upN_get b k (k - 16) (by omega)] at c3
        have b3 := getD_lt hwl (k - 16) (by decide)
        have c4 := Row.u64 hrow (i := k) (by rw [upN_len b k hk]; exact hlt)
        have hf := hrow.frozen k
        have HSET := Lib.hid (upN_set b k (wordNext (wordsN b k) k) hlt (by rw [if_neg h16]))
        have HSR := Lib.hid (hrow.set k)
        have HWO : Hid (wordNext (wordsN b k) k = (sg1 ((wordsN b k).getD (k - 2) 0) + (wordsN b k).getD (k - 7) 0 + sg0 ((wordsN b k).getD (k - 15) 0) + (wordsN b k).getD (k - 16) 0) % 4294967296) := Lib.hid rfl
        clear hrow hch hwl
        generalize (wordsN b k).getD (k - 15) 0 = x1 at c0 b0 HWO
        generalize (wordsN b k).getD (k - 2) 0 = x2 at c1 b1 HWO
        generalize (wordsN b k).getD (k - 7) 0 = x3 at c2 b2 HWO
        generalize (wordsN b k).getD (k - 16) 0 = x4 at c3 b3 HWO
        generalize (upN b k).getD k 0 = y4 at c4
        go_wp2
        have q0 : IntKind.i64.wrap ((k : Int) - 15) = (k : Int) - 15 := IntWalk.i64_in _ (by omega)
        have p0 : (0 : Int) ≤ (k : Int) - 15 := by omega
        have pp0 : (15 : Int) ≤ (k : Int) := by omega
        have r0 : (k : Int) - 15 < 64 := by omega
        have t0 : ((k : Int) - 15).toNat = k - 15 := by omega
        have q1 : IntKind.i64.wrap ((k : Int) - 2) = (k : Int) - 2 := IntWalk.i64_in _ (by omega)
        have p1 : (0 : Int) ≤ (k : Int) - 2 := by omega
        have pp1 : (2 : Int) ≤ (k : Int) := by omega
        have r1 : (k : Int) - 2 < 64 := by omega
        have t1 : ((k : Int) - 2).toNat = k - 2 := by omega
        have q2 : IntKind.i64.wrap ((k : Int) - 7) = (k : Int) - 7 := IntWalk.i64_in _ (by omega)
        have p2 : (0 : Int) ≤ (k : Int) - 7 := by omega
        have pp2 : (7 : Int) ≤ (k : Int) := by omega
        have r2 : (k : Int) - 7 < 64 := by omega
        have t2 : ((k : Int) - 7).toNat = k - 7 := by omega
        have q3 : IntKind.i64.wrap ((k : Int) - 16) = (k : Int) - 16 := IntWalk.i64_in _ (by omega)
        have p3 : (0 : Int) ≤ (k : Int) - 16 := by omega
        have pp3 : (16 : Int) ≤ (k : Int) := by omega
        have r3 : (k : Int) - 16 < 64 := by omega
        have t3 : ((k : Int) - 16).toNat = k - 16 := by omega
        have p9 : (0 : Int) ≤ (k : Int) := by omega
        have r9 : (k : Int) < 64 := by omega
        go_quiet (fail)
        go_wp2
        have d2 : (wr.drewN nq).cell? ⟨g5, k - 7, none⟩ = _ := c2
        have d3 : (wr.drewN nq).cell? ⟨g5, k - 16, none⟩ = _ := c3
        have d4 : (wr.drewN nq).cell? ⟨g5, k, none⟩ = _ := c4
        have hfq : (wr.drewN nq).frozen? ⟨g5, k, none⟩ = false := hf
        have HSQ := Lib.hid (fun u => (HROW.out.drewN nq).set k u)
        have HCQ := Lib.hid (HC.out.drewN nq)
        clear c0 c1 c2 c3 c4 hf HSR
        generalize wr.drewN nq = wq at d2 d3 d4 hfq HSQ HCQ ⊢
        refine wp_region_still_tail 30 (by kernel_rfl) (by kernel_rfl) ?_
        simp only [List.take_succ_cons, List.take_zero, List.drop_succ_cons, List.drop_zero]
        repeat still_step
        still_call ((rright_17 x2 b1 _).mono fun _ _ h => ⟨h.1, h.2.symm⟩)
        repeat still_step
        still_call ((rright_19 x2 b1 _).mono fun _ _ h => ⟨h.1, h.2.symm⟩)
        repeat still_step
        still_call ((rright_7 x1 b0 _).mono fun _ _ h => ⟨h.1, h.2.symm⟩)
        repeat still_step
        still_call ((rright_18 x1 b0 _).mono fun _ _ h => ⟨h.1, h.2.symm⟩)
        repeat still_step
        try refine wpStill_nil ?_
        rw [next_val x1 x2 x3 x4 b0 b1 b2 b3, ← HWO.out]
        clear q0 q1 q2 q3 p0 p1 p2 p3 pp0 pp1 pp2 pp3 r0 r1 r2 r3 t0 t1 t2 t3 p9 r9
        generalize wordNext (wordsN b k) k = nx at HSET ⊢
        change wpList _ _ _ _ _ wq.drew
        go_wp2
        go_roundw
        case rel =>
          refine ⟨k + 1, by omega, by go_num, ?_, HCQ.out.drew.setCell (fun _ => rfl) _⟩
          rw [← HSET.out, ← u64s_set]
          exact HSQ.out _
        case measure => simp [intOf]; omega
    · have hk64 : k = 64 := by omega
      subst hk64
      rw [show ((64 : Nat) : Int) = 64 from rfl]
      have HROW4 : Hid (Row wr g5 48 (u64s (wordsN b 64))) := Lib.hid (by have hh := hrow; rw [show upN b 64 = wordsN b 64 from by simp [upN]] at hh; exact hh)
      clear hrow hch hk hlt HROW
      go_wp2_with (first | ((with_reducible show wpList _ _ _ (⟨_, .alloc 50, _, _, _, _⟩ :: _) _ _); refine wpList_alloc_Row rfl rfl (u64s (List.replicate 8 0)) zero50 ?_; intro w4 hr4 hc4 hs4; have HR4 := Lib.hid hr4; have HC4 := Lib.hid hc4; clear hr4 hc4 hs4))
      have HG9 := Lib.hid (show w.heap.size < wr.heap.size ∧ w1.heap.size < wr.heap.size ∧ g5 < wr.heap.size by have := HG.out; have := HC.out.size; omega)
      have HC34 := Lib.hid (HC.out.trans (HC4.out.mono (fun _ _ h => h.elim)))
      have HR1y := Lib.hid (HR1x.out.chg HC34.out (by have := HG.out; omega))
      have HR2y := Lib.hid (HR2x.out.chg HC34.out (by have := HG.out; omega))
      have HR5y := Lib.hid (HROW4.out.chg HC4.out (fun h => h))
      have HCW := Lib.hid (HCH.out.andThen HC34.out (fun b h e => by have := HG.out; omega))
      generalize hg9 : wr.heap.size = g9 at HG9 HR4 ⊢
      clear hg9
      go_loopw [10] (fun i wr' => ∃ k : Nat, k ≤ 8 ∧ i = .int .i64 k ∧ Row wr' g9 50 (u64s (s.list.take k ++ List.replicate (8 - k) 0)) ∧ Chg (· = g9) w4 wr') (fun i _ => 8 - (intOf i).toNat)
      case atStart => exact ⟨0, Nat.zero_le _, rfl, HR4.out, Chg.refl _ _⟩
      case round =>
        obtain ⟨k, hk, rfl, hrow, hch⟩ := hrel
        have HROW := Lib.hid hrow
        have HC9 := Lib.hid hch
        have HSL := Lib.hid (St8.len s)
        by_cases hlt : k < 8
        · have hlen : (s.list.take k ++ List.replicate (8 - k) 0).length = 8 := by simp [St8.len]; omega
          have c1 := Row.u32 (HR1y.out.chg hch (by have := HG9.out; omega)) (i := k) (by rw [HSL.out]; exact hlt)
          have c2 := Row.u64 hrow (i := k) (by rw [hlen]; exact hlt)
          have hf := hrow.frozen k
          have HSET : Hid ((s.list.take k ++ List.replicate (8 - k) 0).set k (s.list.getD k 0) = s.list.take (k + 1) ++ List.replicate (8 - (k + 1)) 0) := Lib.hid (fill_set s.list k (by rw [HSL.out]; exact hlt) 8 (by omega))
          have HSR := Lib.hid (hrow.set k)
          have hxl := getD_lt (list_lt' HS.out) k (by decide)
          clear hrow hch hlen
          generalize s.list.getD k 0 = x at c1 HSET hxl
          generalize (s.list.take k ++ List.replicate (8 - k) 0).getD k 0 = y at c2
          go_wp2
          go_roundw
          case rel =>
            refine ⟨k + 1, by omega, by go_num, ?_, HC9.out.setCell (fun _ => rfl) _⟩
            rw [← HSET.out, ← u64s_set]
            exact HSR.out _
          case measure => simp [intOf]; omega
        · have hk8 : k = 8 := by omega
          subst hk8
          rw [show ((8 : Nat) : Int) = 8 from rfl]
          have HROW5 : Hid (Row wr g9 50 (u64s s.list)) := Lib.hid (by have hh := hrow; rw [show s.list.take 8 ++ List.replicate (8 - 8) 0 = s.list from by simp [St8.list]] at hh; exact hh)
          clear hrow hch hk hlt HROW HR4
          go_wp2
          have HWL := Lib.hid (wordsN_len b 64)
          have HLT : Hid (∀ i, kN.getD i 0 < 4294967296 ∧ (wordsN b 64).getD i 0 < 4294967296) := Lib.hid (fun i => ⟨getD_lt kN_lt i (by decide), getD_lt (wordsN_lt HBB.out 64) i (by decide)⟩)
          have HRO := Lib.hid (fun k => roundsN_ok (wordsN b 64) HS.out k)
          have HTX := Lib.hid (HT.out.chg HCW.out (fun h => h) (fun h => h))
          have HTU : Hid (turnN s b = addN s (roundsN s (wordsN b 64) 64)) := Lib.hid rfl
          generalize wordsN b 64 = W at HR5y HWL HLT HRO HTU
          go_loopw [11] (fun i wr' => ∃ (k : Nat) (r : St8), k ≤ 64 ∧ i = .int .i64 k ∧ Hid (r = roundsN s W k) ∧ Row wr' g9 50 (u64s r.list) ∧ Chg (· = g9) w4 wr') (fun i _ => 64 - (intOf i).toNat)
          case atStart => exact ⟨0, s, Nat.zero_le _, rfl, Lib.hid rfl, HROW5.out, HC9.out⟩
          case round =>
            obtain ⟨k, r, hk, rfl, HR, hrow, hch⟩ := hrel
            have HRW0 := Lib.hid hrow
            have HCW0 := Lib.hid hch
            have hro := HRO.out k
            rw [← HR.out] at hro
            have HROK := Lib.hid hro
            clear hro
            obtain ⟨ra, rb, rc, rd, re, rf, rg, rh⟩ := r
            by_cases hlt : k < 64
            · have hgK : 1 ≠ g9 := by have := HT.out.k; have := HG9.out; omega
              have dk0 : wr.cell? ⟨1, k, none⟩ = some (.int .u32 ((kN.getD k 0 : Nat) : Int)) := (hch.cell k (Nat.lt_of_lt_of_le HTX.out.k (Nat.le_refl _)) hgK).trans (HTX.out.ks k hlt)
              have dw0 := Row.u64 (HR5y.out.chg hch (by have := HG9.out; omega)) (i := k) (by rw [HWL.out]; exact hlt)
              have e0_0 := Row.u64 hrow (i := 0) (by rw [St8.len]; decide)
              have e1_0 := Row.u64 hrow (i := 1) (by rw [St8.len]; decide)
              have e2_0 := Row.u64 hrow (i := 2) (by rw [St8.len]; decide)
              have e3_0 := Row.u64 hrow (i := 3) (by rw [St8.len]; decide)
              have e4_0 := Row.u64 hrow (i := 4) (by rw [St8.len]; decide)
              have e5_0 := Row.u64 hrow (i := 5) (by rw [St8.len]; decide)
              have e6_0 := Row.u64 hrow (i := 6) (by rw [St8.len]; decide)
              have e7_0 := Row.u64 hrow (i := 7) (by rw [St8.len]; decide)
              simp only [St8.list, List.getD_cons_zero, List.getD_cons_succ] at e0_0 e1_0 e2_0 e3_0 e4_0 e5_0 e6_0 e7_0
              have HST : Hid (roundsN s W (k + 1) = stepN ⟨ra, rb, rc, rd, re, rf, rg, rh⟩ (kN.getD k 0) (W.getD k 0)) := Lib.hid (by rw [roundsN, HR.out])
              have hA : ra < 4294967296 := HROK.out.a
              have hE : re < 4294967296 := HROK.out.e
              have HLK := Lib.hid (HLT.out k)
              generalize kN.getD k 0 = kk at dk0 HST HLK
              generalize W.getD k 0 = ww at dw0 HST HLK
              have q5 : (0 : Int) ≤ (k : Int) := by omega
              have q6 : (k : Int) < 64 := by omega
              clear hrow hch hgK
              go_wp2
              go_quiet (fail)
              have dk1 : (wr.drewN nq).cell? ⟨1, k, none⟩ = _ := dk0
              have dw1 : (wr.drewN nq).cell? ⟨g5, k, none⟩ = _ := dw0
              have e0_1 : (wr.drewN nq).cell? ⟨g9, 0, none⟩ = _ := e0_0
              have e1_1 : (wr.drewN nq).cell? ⟨g9, 1, none⟩ = _ := e1_0
              have e2_1 : (wr.drewN nq).cell? ⟨g9, 2, none⟩ = _ := e2_0
              have e3_1 : (wr.drewN nq).cell? ⟨g9, 3, none⟩ = _ := e3_0
              have e4_1 : (wr.drewN nq).cell? ⟨g9, 4, none⟩ = _ := e4_0
              have e5_1 : (wr.drewN nq).cell? ⟨g9, 5, none⟩ = _ := e5_0
              have e6_1 : (wr.drewN nq).cell? ⟨g9, 6, none⟩ = _ := e6_0
              have e7_1 : (wr.drewN nq).cell? ⟨g9, 7, none⟩ = _ := e7_0
              have HRW1 := Lib.hid (HRW0.out.drewN nq)
              have HCW1 := Lib.hid (HCW0.out.drewN nq)
              clear dk0 dw0 e0_0 e1_0 e2_0 e3_0 e4_0 e5_0 e6_0 e7_0 HRW0 HCW0
              generalize wr.drewN nq = wa at dk1 dw1 e0_1 e1_1 e2_1 e3_1 e4_1 e5_1 e6_1 e7_1 HRW1 HCW1 ⊢
              go_wp2
              go_quiet ((go_at_call 25; first | (with_reducible exact Calls.quiet_of_same ((rright_6 re hE _).mono fun _ _ h => ⟨h.1, h.2.symm⟩)) | (with_reducible exact Calls.quiet_of_same ((rright_11 re hE _).mono fun _ _ h => ⟨h.1, h.2.symm⟩)) | (with_reducible exact Calls.quiet_of_same ((rright_25 re hE _).mono fun _ _ h => ⟨h.1, h.2.symm⟩))))
              have dk2 : (wa.drewN nq).cell? ⟨1, k, none⟩ = _ := dk1
              have dw2 : (wa.drewN nq).cell? ⟨g5, k, none⟩ = _ := dw1
              have e0_2 : (wa.drewN nq).cell? ⟨g9, 0, none⟩ = _ := e0_1
              have e1_2 : (wa.drewN nq).cell? ⟨g9, 1, none⟩ = _ := e1_1
              have e2_2 : (wa.drewN nq).cell? ⟨g9, 2, none⟩ = _ := e2_1
              have e3_2 : (wa.drewN nq).cell? ⟨g9, 3, none⟩ = _ := e3_1
              have e4_2 : (wa.drewN nq).cell? ⟨g9, 4, none⟩ = _ := e4_1
              have e5_2 : (wa.drewN nq).cell? ⟨g9, 5, none⟩ = _ := e5_1
              have e6_2 : (wa.drewN nq).cell? ⟨g9, 6, none⟩ = _ := e6_1
              have e7_2 : (wa.drewN nq).cell? ⟨g9, 7, none⟩ = _ := e7_1
              have HRW2 := Lib.hid (HRW1.out.drewN nq)
              have HCW2 := Lib.hid (HCW1.out.drewN nq)
              clear dk1 dw1 e0_1 e1_1 e2_1 e3_1 e4_1 e5_1 e6_1 e7_1 HRW1 HCW1
              generalize wa.drewN nq = wb at dk2 dw2 e0_2 e1_2 e2_2 e3_2 e4_2 e5_2 e6_2 e7_2 HRW2 HCW2 ⊢
              go_wp2
              go_quiet ((go_at_call 25; first | (with_reducible exact Calls.quiet_of_same ((rright_2 ra hA _).mono fun _ _ h => ⟨h.1, h.2.symm⟩)) | (with_reducible exact Calls.quiet_of_same ((rright_13 ra hA _).mono fun _ _ h => ⟨h.1, h.2.symm⟩)) | (with_reducible exact Calls.quiet_of_same ((rright_22 ra hA _).mono fun _ _ h => ⟨h.1, h.2.symm⟩))))
              have dk3 : (wb.drewN nq).cell? ⟨1, k, none⟩ = _ := dk2
              have dw3 : (wb.drewN nq).cell? ⟨g5, k, none⟩ = _ := dw2
              have e0_3 : (wb.drewN nq).cell? ⟨g9, 0, none⟩ = _ := e0_2
              have e1_3 : (wb.drewN nq).cell? ⟨g9, 1, none⟩ = _ := e1_2
              have e2_3 : (wb.drewN nq).cell? ⟨g9, 2, none⟩ = _ := e2_2
              have e3_3 : (wb.drewN nq).cell? ⟨g9, 3, none⟩ = _ := e3_2
              have e4_3 : (wb.drewN nq).cell? ⟨g9, 4, none⟩ = _ := e4_2
              have e5_3 : (wb.drewN nq).cell? ⟨g9, 5, none⟩ = _ := e5_2
              have e6_3 : (wb.drewN nq).cell? ⟨g9, 6, none⟩ = _ := e6_2
              have e7_3 : (wb.drewN nq).cell? ⟨g9, 7, none⟩ = _ := e7_2
              have HRW3 := Lib.hid (HRW2.out.drewN nq)
              have HCW3 := Lib.hid (HCW2.out.drewN nq)
              clear dk2 dw2 e0_2 e1_2 e2_2 e3_2 e4_2 e5_2 e6_2 e7_2 HRW2 HCW2
              generalize wb.drewN nq = wc at dk3 dw3 e0_3 e1_3 e2_3 e3_3 e4_3 e5_3 e6_3 e7_3 HRW3 HCW3 ⊢
              rw [one_val ra rb rc rd re rf rg rh kk ww hA hE HROK.out.f HROK.out.g HROK.out.h (HLK.out).1 (HLK.out).2, two_val ra rb rc rd re rf rg rh hA HROK.out.b HROK.out.c]
              have h1 : t1N ⟨ra, rb, rc, rd, re, rf, rg, rh⟩ kk ww < 4294967296 := Nat.mod_lt _ (by decide)
              have h2 : t2N ⟨ra, rb, rc, rd, re, rf, rg, rh⟩ < 4294967296 := Nat.mod_lt _ (by decide)
              have HSN : Hid (stepN ⟨ra, rb, rc, rd, re, rf, rg, rh⟩ kk ww = ⟨(t1N ⟨ra, rb, rc, rd, re, rf, rg, rh⟩ kk ww + t2N ⟨ra, rb, rc, rd, re, rf, rg, rh⟩) % 4294967296, ra, rb, rc, (rd + t1N ⟨ra, rb, rc, rd, re, rf, rg, rh⟩ kk ww) % 4294967296, re, rf, rg⟩) := Lib.hid rfl
              generalize t1N ⟨ra, rb, rc, rd, re, rf, rg, rh⟩ kk ww = one at h1 HSN ⊢
              generalize t2N ⟨ra, rb, rc, rd, re, rf, rg, rh⟩ = two at h2 HSN ⊢
              have hD := HROK.out.d
              simp only at hD
              have HVAL : Hid (u64s (stepN ⟨ra, rb, rc, rd, re, rf, rg, rh⟩ kk ww).list = [.int .u64 (((one : Int) + (two : Int)) % 4294967296), .int .u64 ra, .int .u64 rb, .int .u64 rc, .int .u64 (((rd : Int) + (one : Int)) % 4294967296), .int .u64 re, .int .u64 rf, .int .u64 rg]) := Lib.hid (by rw [HSN.out]; rfl)
              go_wp2_with ((with_reducible show wpList _ _ _ (⟨_, .store 50 _ _, _, _, _, _⟩ :: _) _ _); refine wpList_store_Row (xs := u64s (stepN ⟨ra, rb, rc, rd, re, rf, rg, rh⟩ kk ww).list) rfl rfl rfl (HRW3.out) (by rw [HVAL.out]; rfl) (by rw [u64s_length, St8.len, u64s_length, St8.len]) (by rw [u64s_length, St8.len]; exact size50) (u64s_one _) ?_; intro w6 hr6 hc6 hs6; have HR6 := Lib.hid hr6; have HC6 := Lib.hid hc6; clear hr6 hc6 hs6)
              go_roundw
              case rel => exact ⟨k + 1, stepN ⟨ra, rb, rc, rd, re, rf, rg, rh⟩ kk ww, by omega, by go_num, Lib.hid HST.out.symm, HR6.out, HC6.out _ w4 HCW3.out (fun _ => rfl)⟩
              case measure => simp [intOf]; omega
            · have hk64 : k = 64 := by omega
              subst hk64
              rw [show ((64 : Nat) : Int) = 64 from rfl]
              have HTU2 : Hid (turnN s b = addN s ⟨ra, rb, rc, rd, re, rf, rg, rh⟩) := Lib.hid (by rw [HTU.out, ← HR.out])
              have HROW9 := Lib.hid hrow
              have HR1z := Lib.hid (HR1y.out.chg hch (by have := HG9.out; omega))
              have HR2z := Lib.hid (HR2y.out.chg hch (by have := HG9.out; omega))
              have HN1 := Lib.hid (show ¬ w1.heap.size < w.heap.size ∧ ¬ g9 < w.heap.size ∧ g9 ≠ w.heap.size ∧ w1.heap.size ≠ w.heap.size by have := HG9.out; have := HG.out; omega)
              have HCY := Lib.hid (HCW.out.andThen hch (fun b h e => HN1.out.2.1 (e ▸ h)))
              generalize (⟨ra, rb, rc, rd, re, rf, rg, rh⟩ : St8) = r at HTU2 HROW9 HROK
              have HRL := Lib.hid (list_lt' HROK.out)
              have HSLT := Lib.hid (list_lt' HS.out)
              have HADD := Lib.hid (addN_get s r)
              have HTL := Lib.hid (St8.len (addN s r))
              generalize hAL : (addN s r).list = AL at HADD HTL
              have HAL := Lib.hid hAL
              clear hAL
              clear hrow hch hk hlt HR HRW0 HCW0
              go_wp2
              go_loopw [16] (fun i wr' => ∃ k : Nat, k ≤ 8 ∧ i = .int .i64 k ∧ Row wr' w.heap.size 36 (u32s (AL.take k ++ s.list.drop k)) ∧ Chg (· = w.heap.size) wr wr') (fun i _ => 8 - (intOf i).toNat)
              case atStart => exact ⟨0, Nat.zero_le _, rfl, HR1z.out, Chg.refl _ _⟩
              case round =>
                obtain ⟨k, hk, rfl, hrow, hch⟩ := hrel
                have HROW := Lib.hid hrow
                have HCV := Lib.hid hch
                by_cases hlt : k < 8
                · have c1 := Row.u32 hrow (i := k) (by simp [St8.len, HTL.out]; omega)
                  rw [half_get AL s.list k (by rw [HTL.out]; exact hlt)] at c1
                  have c2 := Row.u64 (HROW9.out.chg hch HN1.out.2.2.1) (i := k) (by rw [St8.len]; exact hlt)
                  have hf := hrow.frozen k
                  have HSET := Lib.hid (half_set AL s.list k (by rw [HTL.out]; exact hlt) (by rw [St8.len]; exact hlt))
                  have HSR := Lib.hid (hrow.set k)
                  have b1 := getD_lt HSLT.out k (by decide)
                  have b2 := getD_lt HRL.out k (by decide)
                  rw [HADD.out k hlt] at HSET
                  clear hrow hch
                  generalize s.list.getD k 0 = x at c1 b1 HSET
                  generalize r.list.getD k 0 = y at c2 b2 HSET
                  go_wp2
                  have q5 : (0 : Int) ≤ (k : Int) := by omega
                  have q6 : (k : Int) < 8 := by omega
                  go_still_tail 12, (by kernel_rfl)
                  rw [add_val x y b1 b2]
                  change wpList _ _ _ _ _ wr.drew
                  clear q5 q6
                  go_wp2
                  go_roundw
                  case rel =>
                    refine ⟨k + 1, by omega, by go_num, ?_, HCV.out.drew.setCell (fun _ => rfl) _⟩
                    rw [← HSET.out, ← u32s_set]
                    exact HSR.out _
                  case measure => simp [intOf]; omega
                · have hk8 : k = 8 := by omega
                  subst hk8
                  have HROWA : Hid (Row wr w.heap.size 36 (u32s AL)) := Lib.hid (by have hh := hrow; rw [show AL.take 8 ++ s.list.drop 8 = AL from by rw [List.take_of_length_le (by rw [HTL.out]; omega), List.drop_of_length_le (by rw [St8.len]; omega), List.append_nil]] at hh; exact hh)
                  clear hrow hch hk hlt HROW
                  go_wp2_with (first | ((with_reducible show wpList _ _ _ (⟨_, .load 36 _, _, _, _, _⟩ :: _) _ _); refine wpList_load_Row rfl rfl rfl (HROWA.out) Tryd.underlying36 rfl (by rw [u32s_length, HTL.out]; exact size36) ?_) | ((with_reducible show wpList _ _ _ (⟨_, .store 36 _ _, _, _, _, _⟩ :: _) _ _); refine wpList_store_Row (xs := u32s AL) rfl rfl rfl (HR2z.out.chg HCV.out HN1.out.2.2.2) (rfl) (by rw [u32s_length, HTL.out, u32s_length]; rfl) (by rw [u32s_length, HTL.out]; exact size36) (u32s_one _) ?_; intro w7 hr7 hc7 hs7; have HR7 := Lib.hid hr7; have HC7 := Lib.hid hc7; clear hr7 hc7 hs7))
                  refine ret_row rfl rfl HR7.out Tryd.underlying36 rfl (by rw [u32s_length, HTL.out]; exact size36) rfl ?_
                  exact ⟨by rw [HTU2.out, HAL.out], HC7.out none_ w (HCY.out.andThen HCV.out (fun b h e => by omega)) (fun h => absurd h HN1.out.1)⟩

end Go.Proofs.YtodcjcpbigggfaaDoor
