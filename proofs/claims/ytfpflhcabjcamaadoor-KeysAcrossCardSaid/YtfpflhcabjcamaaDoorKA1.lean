/- Texts joined: V8Small, V8Table, V8Block, V8Mix, V8Enc. -/
import Derived.Test.YtfpflhcabjcamaaDoorProg
import Derived.IntWalk
import Derived.Lib.Hide
import Derived.Laws.BitsAllLaws
import Derived.BigQuiet
import Derived.Deep.QuietTactic
import Derived.RegionTactic
import Derived.BigRegion
import Derived.StillTailTactics
import Derived.Test.YtfpflhcabjcamaaDoorK0
import Derived.Test.YtfpflhcabjcamaaDoorKM

namespace Go.Proofs.YtfpflhcabjcamaaDoor
open Go.RowKit

theorem dblV (a : Nat) (ha : a < 256) : bits .xor .u8 ((a : Int) * 2 % 256) ((a : Int) / 128 * 27) = ((dbl a : Nat) : Int) := by
  have := u8_xor_nat (2 * a % 256) (a / 128 * 27) (by omega) (by omega)
  unfold dbl
  rw [← this]
  congr 1
  omega
theorem double_any (a : Nat) (ha : a < 256) (w : World) : Calls Tryd.prog 62 #[.int .u8 a] w fun e w' => e = .returned (.int .u8 (dbl a : Nat)) ∧ w = w' := by
  have H := Lib.hid (dblV a ha)
  go_enter Tryd.func62, Tryd.ntmps62
  go_wp2
  go_ret
  exact ⟨ret_u8 H.out, rfl⟩

theorem and1 (b : Nat) (hb : b < 256) : bits .and .u8 (b : Int) 1 = ((b % 2 : Nat) : Int) := by
  have := u8_and_nat b 1 hb (by decide)
  rw [show ((1 : Nat) : Int) = 1 from rfl] at this
  rw [this, Nat.and_one_is_mod]
theorem rolV (x : Nat) (hx : x < 256) : bits .or .u8 ((x : Int) * 2 % 256) ((x : Int) / 128) = ((rol8 x : Nat) : Int) := by
  have h := u8_or_nat (x * 2 % 256) (x / 128) (by omega) (by omega)
  have h2 : x * 2 % 256 ||| x / 128 = x * 2 % 256 + x / 128 := by
    have e : x * 2 % 256 = 2 ^ 1 * (x % 128) := by omega
    rw [e, ← Nat.two_pow_add_eq_or_of_lt (b := x / 128) (by omega)]
  unfold rol8
  rw [h2] at h
  rw [show (2 * x % 256 + x / 128 : Nat) = x * 2 % 256 + x / 128 from by omega, ← h]
  congr 1
theorem rotl8_one (x : Nat) (hx : x < 256) (w : World) : Calls Tryd.prog 70 #[.int .u8 x, .int .i64 1] w fun e w' => e = .returned (.int .u8 (rol8 x : Nat)) ∧ w = w' := by
  have H := Lib.hid (rolV x hx)
  have c1 : bits .and .u64 1 7 = 1 := by decide +kernel
  go_enter Tryd.func70, Tryd.ntmps70
  go_wp2
  go_ret
  exact ⟨ret_u8 H.out, rfl⟩
theorem Row.byte1 {w : World} {g : Nat} {x : Nat} (h : Row w g 5 (u8s [x])) : w.cell? ⟨g, 0, none⟩ = some (.int .u8 (x : Int)) := Row.u8 h (i := 0) (by simp)
set_option maxRecDepth 100000 in
theorem turnOn_any (g h : Nat) (x y : Nat) (w : World) (hx : x < 256) (hy : y < 256) (hg : Row w g 5 (u8s [x])) (hh : Row w h 5 (u8s [y])) (hgh : ¬ g = h) : Calls Tryd.prog 69 #[.pointer (some ⟨g, 0, none⟩), .pointer (some ⟨h, 0, none⟩)] w fun e w' => e = .returned (.tuple #[]) ∧ Row w' g 5 (u8s [rol8 x]) ∧ Row w' h 5 (u8s [y ^^^ rol8 x]) ∧ Chg (fun b => b = g ∨ b = h) w w' := by
  have c1 := Row.byte1 hg
  have c2 := Row.byte1 hh
  have f1 := hg.frozen 0
  have f2 := hh.frozen 0
  have HG := Lib.hid hg
  have HH := Lib.hid hh
  have hhg : ¬ h = g := fun e => hgh e.symm
  have HX := Lib.hid (u8_xor_nat y (rol8 x) hy (rol8_lt hx))
  clear hg hh
  go_enter Tryd.func69, Tryd.ntmps69
  go_wp2_with (go_at_call 70; refine (rotl8_one x hx _).mono ?_; rintro e w' ⟨rfl, rfl⟩)
  refine bodyPost_end (results_none rfl _ _ _) rfl ?_
  refine ⟨rfl, ?_, ?_, ((Chg.refl _ _).setCell (fun _ => Or.inl rfl) _).setCell (fun _ => Or.inr rfl) _⟩
  · exact (HG.out.set 0 _).far (fun e => hgh e) _
  · rw [HX.out]
    exact (HH.out.far (fun e => hgh e.symm) _).set 0 _
set_option maxRecDepth 100000 in
theorem boxOf_any (x : Nat) (hx : x < 256) (w : World) : Calls Tryd.prog 63 #[.int .u8 x] w fun e w' => e = .returned (.int .u8 (affN x : Nat)) ∧ Chg none_ w w' := by
  have HX := Lib.hid (u8_xor_nat x 99 hx (by decide))
  go_enter Tryd.func63, Tryd.ntmps63
  go_wp2
  have e99 : bits BinOp.xor IntKind.u8 (x : Int) 99 = ((x ^^^ 99 : Nat) : Int) := HX.out
  rw [e99]
  have hr1 : Row ((w.alloc (Obj.cells #[Value.int IntKind.u8 (x : Int)] 5)).alloc (Obj.cells #[Value.int IntKind.u8 ((x ^^^ 99 : Nat) : Int)] 5)) w.heap.size 5 (u8s [x]) := Row.new1 w _ _ _
  have hr2 : Row ((w.alloc (Obj.cells #[Value.int IntKind.u8 (x : Int)] 5)).alloc (Obj.cells #[Value.int IntKind.u8 ((x ^^^ 99 : Nat) : Int)] 5)) (w.heap.size + 1) 5 (u8s [x ^^^ 99]) := Row.new2 w _ _ _
  have hc : Chg none_ w ((w.alloc (Obj.cells #[Value.int IntKind.u8 (x : Int)] 5)).alloc (Obj.cells #[Value.int IntKind.u8 ((x ^^^ 99 : Nat) : Int)] 5)) := ((Chg.refl _ _).alloc _).alloc _
  have HR1 := Lib.hid hr1
  have HR2 := Lib.hid hr2
  have HC := Lib.hid hc
  clear hr1 hr2 hc e99
  generalize ((w.alloc (Obj.cells #[Value.int IntKind.u8 (x : Int)] 5)).alloc (Obj.cells #[Value.int IntKind.u8 ((x ^^^ 99 : Nat) : Int)] 5)) = w2 at HR1 HR2 HC ⊢
  go_loopw [8] (fun i wr => ∃ k : Nat, k ≤ 4 ∧ i = .int .i64 k ∧ Row wr w.heap.size 5 (u8s [rolS x k]) ∧ Row wr (w.heap.size + 1) 5 (u8s [affS x k]) ∧ Chg none_ w wr) (fun i _ => 4 - (intOf i).toNat)
  case atStart => exact ⟨0, Nat.zero_le _, rfl, HR1.out, HR2.out, HC.out⟩
  case round =>
    obtain ⟨k, hk, rfl, hr1, hr2, hc⟩ := hrel
    have HRa := Lib.hid hr1
    have HRb := Lib.hid hr2
    have HCk := Lib.hid hc
    clear hc
    by_cases hlt : k < 4
    · clear hr1 hr2
      go_wp2_with (go_at_call 69; refine (turnOn_any w.heap.size (w.heap.size + 1) (rolS x k) (affS x k) _ (rolS_lt hx k) (affS_lt hx k) HRa.out HRb.out (by omega)).mono ?_; rintro e w' ⟨rfl, hra, hrb, hcc⟩; have HRc := Lib.hid hra; have HRd := Lib.hid hrb; have HCc := Lib.hid hcc; clear hra hrb hcc)
      go_roundw
      case rel => exact ⟨k + 1, by omega, by go_num, HRc.out, HRd.out, HCk.out.andThen HCc.out (fun b h e => by rcases e with e | e <;> omega)⟩
      case measure => simp [intOf]; omega
    · have hk4 : k = 4 := by omega
      subst hk4
      have c1 := Row.byte1 hr2
      clear hr1 hr2
      go_wp2
      go_ret
      exact ⟨rfl, HCk.out⟩
end Go.Proofs.YtfpflhcabjcamaaDoor

namespace Go.Proofs.YtfpflhcabjcamaaDoor
open Go.RowKit

/-- The powers of 3. -/
def pow3 : Nat → Nat
  | 0 => 1
  | k + 1 => pow3 k ^^^ dbl (pow3 k)
theorem pow3_lt : ∀ k, pow3 k < 256
  | 0 => by simp [pow3]
  | k + 1 => xor8_lt (pow3_lt k) (dbl_lt (pow3_lt k))
def p3L : List Nat := (List.range 255).map pow3
theorem p3L_len : p3L.length = 255 := by simp [p3L]
theorem p3L_get (i : Nat) (h : i < 255) : p3L.getD i 0 = pow3 i := map_range_get _ _ _ h
theorem p3L_fill : fillN pow3 255 255 = p3L := fillN_all _ _
def tbl2 : Nat → List Nat
  | 0 => 99 :: List.replicate 255 0
  | k + 1 => (tbl2 k).set (pow3 k) (affN (pow3 ((255 - k) % 255)))
theorem tbl2_len : ∀ k, (tbl2 k).length = 256
  | 0 => by show (99 :: List.replicate 255 0).length = 256; rw [List.length_cons, List.length_replicate]
  | k + 1 => by rw [tbl2, List.length_set]; exact tbl2_len k
theorem tbl2_all : tbl2 255 = sboxL := by decide +kernel
theorem zero54 : (Tryd.prog.info? 121).map (·.zero) = some (some (.agg (u8s (List.replicate 255 0)).toArray)) := by kernel_rfl
theorem zero55 : (Tryd.prog.info? 124).map (·.zero) = some (some (.agg (u8s (List.replicate 256 0)).toArray)) := by kernel_rfl
theorem size54 : (Tryd.prog.info? 121).map (·.size) = some 255 := by kernel_rfl
theorem size55 : (Tryd.prog.info? 124).map (·.size) = some 256 := by kernel_rfl
theorem size5 : (Tryd.prog.info? 5).map (·.size) = some 1 := by kernel_rfl
theorem isRow5 : (Tryd.prog.underlying 5).map (·.isRow) = some false := by kernel_rfl
theorem boxOf_zero (w : World) : Calls Tryd.prog 63 #[.int .u8 0] w fun e w' => e = .returned (.int .u8 99) ∧ Chg none_ w w' := boxOf_any 0 (by decide) w

set_option maxRecDepth 100000 in
set_option maxHeartbeats 1000000 in
theorem allBoxes_any (w : World) : Calls Tryd.prog 52 #[] w fun e w' => ∃ g, e = .returned (.pointer (some ⟨g, 0, none⟩)) ∧ w.heap.size ≤ g ∧ Row w' g 124 (u8s sboxL) ∧ Chg none_ w w' := by
  go_enter Tryd.func52, Tryd.ntmps52
  go_wp2_with ((with_reducible show wpList _ _ _ (⟨_, .alloc 121, _, _, _, _⟩ :: _) _ _); refine wpList_alloc_Row rfl rfl (u8s (List.replicate 255 0)) zero54 ?_; intro w1 hr1 hc1 hs1; have HR1 := Lib.hid hr1; have HC1 := Lib.hid hc1; clear hr1 hc1 hs1)
  have HG1 := Lib.hid HR1.out.lt
  go_loopw [2, 3, 7, 9] (fun p _ i _ wr => ∃ k : Nat, k ≤ 255 ∧ i = .int .i64 k ∧ p = .int .u8 (pow3 k : Nat) ∧ Row wr w.heap.size 121 (u8s (fillN pow3 255 k)) ∧ Chg none_ w wr) (fun _ _ i _ _ => 255 - (intOf i).toNat)
  case atStart => exact ⟨0, Nat.zero_le _, rfl, rfl, by rw [fillN_0]; exact HR1.out, HC1.out⟩
  case round =>
    obtain ⟨k, hk, rfl, rfl, hrow, hch⟩ := hrel
    have HROW := Lib.hid hrow
    have HC := Lib.hid hch
    have hp := pow3_lt k
    by_cases hlt : k < 255
    · have c1 := Row.u8 hrow (i := k) (by rw [fillN_len _ _ _ hk]; exact hlt)
      have hf := hrow.frozen k
      have HD := Lib.hid (u8_xor_nat (pow3 k) (dbl (pow3 k)) hp (dbl_lt hp))
      have HSET := Lib.hid (hrow.set k (.int .u8 (pow3 k : Nat)))
      generalize (fillN pow3 255 k).getD k 0 = x0 at c1
      clear hrow hch
      have q0 : (0 : Int) ≤ (k : Int) := by omega
      have q1 : (k : Int) < 255 := by omega
      go_wp2_with (go_at_call 62; refine (double_any (pow3 k) hp _).mono ?_; rintro e w' ⟨rfl, rfl⟩)
      go_roundw
      case rel => exact ⟨k + 1, by omega, by go_num, by rw [HD.out]; rfl, by rw [← fillN_set _ _ _ hlt, ← u8s_set]; exact HSET.out, HC.out.setCell (fun h => absurd h (Nat.lt_irrefl _)) _⟩
      case measure => simp [intOf]; omega
    · have hk5 : k = 255 := by omega
      subst hk5
      clear hk hlt hp
      generalize pow3 255 = pp
      go_wp2_with (first | (go_at_call 63; refine (boxOf_zero _).mono ?_; rintro e w2 ⟨rfl, hc2⟩; have HC2 := Lib.hid hc2; clear hc2) | ((with_reducible show wpList _ _ _ (⟨some 19, _, _, _, _, _⟩ :: _) _ _); refine wpList_val rfl (.agg (u8s (tbl2 0)).toArray) (fun w => by kernel_rfl) ?_) | ((with_reducible show wpList _ _ _ (⟨_, .alloc 124, _, _, _, _⟩ :: _) _ _); refine wpList_alloc_Row rfl rfl (u8s (List.replicate 256 0)) zero55 ?_; intro w3 hr3 hc3 hs3; have HR3 := Lib.hid hr3; have HC3 := Lib.hid hc3; clear hr3 hc3 hs3) | ((with_reducible show wpList _ _ _ (⟨_, .store 124 _ _, _, _, _, _⟩ :: _) _ _); refine wpList_store_Row (xs := u8s (tbl2 0)) rfl rfl rfl HR3.out rfl (by rw [u8s_length, u8s_length, tbl2_len]; rfl) (by rw [u8s_length, tbl2_len]; exact size55) (u8s_oneA _) ?_; intro w4 hr4 hc4 hs4; have HR4 := Lib.hid hr4; have HC4 := Lib.hid (hc4 none_ w2 HC3.out (fun h => absurd h (Nat.lt_irrefl _))); have HP := Lib.hid ((HROW.out.chg HC2.out (fun h => h)).chg HC4.out (fun h => h)); clear hr4 hc4 hs4) | ((with_reducible show wpList _ _ _ (⟨some 20, .load 121 _, _, _, _, _⟩ :: _) _ _); refine wpList_load_Row rfl rfl rfl HP.out Tryd.underlying121 rfl (by rw [u8s_length, fillN_len _ _ _ (Nat.le_refl _)]; exact size54) ?_))
      have HCW := Lib.hid ((HC.out.trans HC2.out).trans HC4.out)
      have HG2 := Lib.hid (show w.heap.size < w2.heap.size from Nat.lt_of_lt_of_le (HROW.out.lt) HC2.out.size)
      rw [p3L_fill]
      rw [p3L_fill] at HP
      clear HR3 HC3 HC4 HC2 HROW HC HR1 HC1
      go_loopw [5, 6, 21, 23, 24] (fun _ _ i _ _ wr => ∃ k : Nat, k ≤ 255 ∧ i = .int .i64 k ∧ Row wr w2.heap.size 124 (u8s (tbl2 k)) ∧ Chg (· = w2.heap.size) w4 wr) (fun _ _ i _ _ _ => 255 - (intOf i).toNat)
      case atStart => exact ⟨0, Nat.zero_le _, rfl, HR4.out, Chg.refl _ _⟩
      case round =>
        obtain ⟨k, hk, rfl, hrow, hch⟩ := hrel
        have HROW := Lib.hid hrow
        have HC := Lib.hid hch
        clear hch
        by_cases hlt : k < 255
        · obtain ⟨m, hm⟩ : ∃ m, m = (255 - k) % 255 := ⟨_, rfl⟩
          have hm255 : m < 255 := by omega
          have c1 := Row.u8 (HP.out.chg HC.out (by have := HG2.out; omega)) (i := m) (by rw [p3L_len]; exact hm255)
          rw [p3L_get _ hm255] at c1
          have hp := pow3_lt k
          have HST : Hid (∀ w5, Chg none_ wr w5 → (∃ x0 : Nat, w5.cell? ⟨w2.heap.size, pow3 k, none⟩ = some (.int .u8 (x0 : Int))) ∧ w5.frozen? ⟨w2.heap.size, pow3 k, none⟩ = false ∧ Row (w5.setCell ⟨w2.heap.size, pow3 k, none⟩ (.int .u8 (affN (pow3 m) : Nat))) w2.heap.size 124 (u8s ((tbl2 k).set (pow3 k) (affN (pow3 m))))) := Lib.hid (fun w5 hc => ⟨⟨_, Row.u8 (hrow.chg hc (fun h => h)) (i := pow3 k) (by rw [tbl2_len]; exact hp)⟩, (hrow.chg hc (fun h => h)).frozen _, by rw [← u8s_set]; exact (hrow.chg hc (fun h => h)).set _ _⟩)
          have HT : Hid (tbl2 (k + 1) = (tbl2 k).set (pow3 k) (affN (pow3 m))) := Lib.hid (by rw [hm, tbl2])
          have HPM := Lib.hid (pow3_lt m)
          have HIX : Hid (p3L.getD k 0 = pow3 k) := Lib.hid (p3L_get _ hlt)
          have q1 : Int.tmod (255 - (k : Int)) 255 = (m : Int) := by rw [Int.tmod_eq_emod_of_nonneg (by omega)]; omega
          have q2 : (255 - (k : Int)) % 255 = (m : Int) := by omega
          have q3 : (0 : Int) ≤ (m : Int) := by omega
          have q4 : (m : Int) < 255 := by omega
          have HGN := Lib.hid (show ¬ w.heap.size = w2.heap.size by have := HG2.out; omega)
          clear hrow hm
          go_wp2_with (first | ((with_reducible show wpList _ _ _ (⟨some 24, _, _, _, _, _⟩ :: _) _ _); refine wpList_index rfl 121 5 _ _ rfl 255 p3L k rfl rfl Tryd.underlying121 size5 isRow5 p3L_len hlt ?_; rw [HIX.out]) | (go_at_call 63; refine (boxOf_any (pow3 m) HPM.out _).mono ?_; rintro e w5 ⟨rfl, hc5⟩; have HC5 := Lib.hid hc5; obtain ⟨⟨x0, c2⟩, hf, hset⟩ := HST.out w5 hc5; have HSET := Lib.hid hset; clear hset hc5))
          go_roundw
          case rel => exact ⟨k + 1, by omega, by go_num, by rw [HT.out]; exact HSET.out, (HC.out.trans (HC5.out.mono (fun _ _ h => h.elim))).setCell (fun _ => rfl) _⟩
          case measure => simp [intOf]; omega
        · have hk5 : k = 255 := by omega
          subst hk5
          have HT := Lib.hid tbl2_all
          clear hk hlt
          go_wp2
          go_ret
          exact ⟨_, rfl, by have := HG2.out; omega, by rw [← tbl2_all]; exact HROW.out, HCW.out.andThen HC.out (fun b h e => by have := HG2.out; omega)⟩
end Go.Proofs.YtfpflhcabjcamaaDoor

namespace Go.Proofs.YtfpflhcabjcamaaDoor
open Go.RowKit

/-- A list of n numbers, the first k of which have turned. -/
def partF (f : Nat → Nat) (s : List Nat) (n k : Nat) : List Nat := (List.range n).map fun i => if i < k then f i else s.getD i 0
theorem partF_len (f : Nat → Nat) (s : List Nat) (n k : Nat) : (partF f s n k).length = n := by simp [partF]
theorem partF_0 (f : Nat → Nat) (s : List Nat) (n : Nat) (h : s.length = n) : partF f s n 0 = s := by
  unfold partF
  simp only [Nat.not_lt_zero, if_false]
  exact list_eta s n h
theorem partF_all (f : Nat → Nat) (s : List Nat) (n : Nat) : partF f s n n = (List.range n).map f := by
  apply List.map_congr_left
  intro i hi
  rw [if_pos (by simpa using hi)]
theorem partF_get (f : Nat → Nat) (s : List Nat) (n k i : Nat) (h : i < n) (hk : k ≤ i) : (partF f s n k).getD i 0 = s.getD i 0 := by
  unfold partF
  rw [map_range_get _ _ _ h, if_neg (by omega)]
theorem partF_set (f : Nat → Nat) (s : List Nat) (n k : Nat) : (partF f s n k).set k (f k) = partF f s n (k + 1) := by
  apply List.ext_getElem (by simp [partF])
  intro i h1 h2
  have hi : i < n := by simpa [partF] using h2
  rw [List.getElem_set]
  simp only [partF, List.getElem_map, List.getElem_range]
  by_cases he : k = i
  · subst he
    rw [if_pos rfl, if_pos (by omega)]
  · rw [if_neg he]
    by_cases hk : i < k
    · rw [if_pos hk, if_pos (by omega)]
    · rw [if_neg hk, if_neg (by omega)]

/-- Sixteen bytes lie there. -/
def KeysAt (w : World) (b o : Nat) (ks : List Nat) : Prop := b < w.heap.size ∧ ∀ j, j < 16 → w.cell? ⟨b, o + j, none⟩ = some (.int .u8 ((ks.getD j 0 : Nat) : Int))
theorem KeysAt.chg {w w' : World} {S : Nat → Prop} {b o : Nat} {ks : List Nat} (h : KeysAt w b o ks) (hc : Chg S w w') (hs : ¬ S b) : KeysAt w' b o ks := ⟨Nat.lt_of_lt_of_le h.1 hc.size, fun j hj => (hc.cell _ h.1 hs).trans (h.2 j hj)⟩

set_option maxRecDepth 100000 in
set_option maxHeartbeats 1000000 in
theorem xor_any (g b o n cap : Nat) (s ks : List Nat) (w : World) (hs : s.length = 16) (hsb : ∀ x ∈ s, x < 256) (hkb : ∀ x ∈ ks, x < 256) (hr : Row w g 93 (u8s s)) (hk : KeysAt w b o ks) (hn : 4 ≤ n) (hbg : ¬ b = g) : Calls Tryd.prog 54 #[.pointer (some ⟨g, 0, none⟩), .slice (some ⟨b, o, none⟩) n cap] w fun e w' => e = .returned (.tuple #[]) ∧ Row w' g 93 (u8s (xorB s ks)) ∧ Chg (· = g) w w' := by
  have HS := Lib.hid hs
  have HSB := Lib.hid (fun i => getD_lt hsb i (by decide))
  have HKB := Lib.hid (fun i => getD_lt hkb i (by decide))
  have HR := Lib.hid hr
  have HK := Lib.hid hk
  clear hs hsb hkb hr hk
  go_enter Tryd.func54, Tryd.ntmps54
  go_wp2_with ((with_reducible show wpList _ _ _ (⟨some 7, _, _, _, _, _⟩ :: _) _ _); refine wpList_arrayAt rfl 146 104 4 _ rfl (some ⟨b, o, none⟩) n cap rfl Tryd.underlying146 hn ?_)
  go_loopw [5, 8, 10] (fun _ i _ wr => ∃ k : Nat, k ≤ 16 ∧ i = .int .i64 k ∧ Row wr g 93 (u8s (partF (fun i => s.getD i 0 ^^^ ks.getD i 0) s 16 k)) ∧ Chg (· = g) w wr) (fun _ i _ _ => 16 - (intOf i).toNat)
  case atStart => exact ⟨0, Nat.zero_le _, rfl, by rw [partF_0 _ _ _ HS.out]; exact HR.out, Chg.refl _ _⟩
  case round =>
    obtain ⟨k, hk, rfl, hrow, hch⟩ := hrel
    have HC := Lib.hid hch
    by_cases hlt : k < 16
    · have c1 := Row.u8 hrow (i := k) (by rw [partF_len]; exact hlt)
      rw [partF_get _ _ _ _ _ hlt (Nat.le_refl _)] at c1
      have hf := hrow.frozen k
      have c2 := (HK.out.chg hch hbg).2 k hlt
      have c2' : wr.cell? ⟨b, o + k / 4 * 4 + k % 4, none⟩ = some (.int .u8 ((ks.getD k 0 : Nat) : Int)) := by rw [show o + k / 4 * 4 + k % 4 = o + k from by omega]; exact c2
      have HX := Lib.hid (u8_xor_nat (s.getD k 0) (ks.getD k 0) (HSB.out k) (HKB.out k))
      have HSET := Lib.hid (hrow.set k (.int .u8 ((s.getD k 0 ^^^ ks.getD k 0 : Nat) : Int)))
      have HPS := Lib.hid (partF_set (fun i => s.getD i 0 ^^^ ks.getD i 0) s 16 k)
      generalize s.getD k 0 = x at c1 HX HSET HPS
      generalize ks.getD k 0 = y at c2' HX HSET HPS
      clear hrow hch c2
      have q0 : (0 : Int) ≤ (k : Int) := by omega
      have q1 : (k : Int) < 16 := by omega
      have q2 : (0 : Int) ≤ (k : Int) / 4 := by omega
      have q3 : (k : Int) / 4 < 4 := by omega
      have q4 : (0 : Int) ≤ (k : Int) % 4 := by omega
      have q5 : (k : Int) % 4 < 4 := by omega
      go_wp2
      go_region
      go_wp2
      go_roundw
      case rel => exact ⟨k + 1, by omega, by go_num, by rw [HX.out, ← HPS.out, ← u8s_set]; exact HSET.out, (HC.out.setCell (fun _ => rfl) _).drew⟩
      case measure => simp [intOf]; omega
    · have hk6 : k = 16 := by omega
      subst hk6
      rw [partF_all] at hrow
      have HROW := Lib.hid hrow
      clear hrow hch
      go_wp2
      refine bodyPost_end (results_none rfl _ _ _) rfl ?_
      exact ⟨rfl, HROW.out, HC.out⟩

set_option maxRecDepth 100000 in
set_option maxHeartbeats 1000000 in
theorem sub_any (g t : Nat) (s : List Nat) (w : World) (hs : s.length = 16) (hsb : ∀ x ∈ s, x < 256) (hr : Row w g 93 (u8s s)) (ht : Row w t 124 (u8s sboxL)) (htg : ¬ t = g) : Calls Tryd.prog 55 #[.pointer (some ⟨g, 0, none⟩), .pointer (some ⟨t, 0, none⟩)] w fun e w' => e = .returned (.tuple #[]) ∧ Row w' g 93 (u8s (subB s)) ∧ Chg (· = g) w w' := by
  have HS := Lib.hid hs
  have HSB := Lib.hid (fun i => getD_lt hsb i (by decide))
  have HR := Lib.hid hr
  have HT := Lib.hid ht
  clear hs hsb hr ht
  go_enter Tryd.func55, Tryd.ntmps55
  go_wp2
  go_loopw [4, 5, 7] (fun _ _ i wr => ∃ k : Nat, k ≤ 16 ∧ i = .int .i64 k ∧ Row wr g 93 (u8s (partF (fun i => sbox (s.getD i 0)) s 16 k)) ∧ Chg (· = g) w wr) (fun _ _ i _ => 16 - (intOf i).toNat)
  case atStart => exact ⟨0, Nat.zero_le _, rfl, by rw [partF_0 _ _ _ HS.out]; exact HR.out, Chg.refl _ _⟩
  case round =>
    obtain ⟨k, hk, rfl, hrow, hch⟩ := hrel
    have HC := Lib.hid hch
    by_cases hlt : k < 16
    · have c1 := Row.u8 hrow (i := k) (by rw [partF_len]; exact hlt)
      rw [partF_get _ _ _ _ _ hlt (Nat.le_refl _)] at c1
      have hf := hrow.frozen k
      have hx : s.getD k 0 < 256 := HSB.out k
      have c2 : wr.cell? ⟨t, s.getD k 0, none⟩ = some (.int .u8 ((sbox (s.getD k 0) : Nat) : Int)) := Row.u8 (HT.out.chg hch htg) (i := s.getD k 0) (by rw [show sboxL.length = 256 by decide +kernel]; exact hx)
      have HSET := Lib.hid (hrow.set k (.int .u8 ((sbox (s.getD k 0) : Nat) : Int)))
      have HPS := Lib.hid (partF_set (fun i => sbox (s.getD i 0)) s 16 k)
      generalize s.getD k 0 = x at c1 c2 hx HSET HPS
      generalize sbox x = y at c2 HSET HPS
      clear hrow hch
      have q0 : (0 : Int) ≤ (k : Int) := by omega
      have q1 : (k : Int) < 16 := by omega
      have q2 : (0 : Int) ≤ (x : Int) := by omega
      have q3 : (x : Int) < 256 := by omega
      go_wp2
      go_region
      go_wp2
      go_region
      go_wp2
      go_roundw
      case rel => exact ⟨k + 1, by omega, by go_num, by rw [← HPS.out, ← u8s_set]; exact HSET.out, (by first | exact (HC.out.setCell (fun _ => rfl) _).drew | exact (HC.out.drew.setCell (fun _ => rfl) _).drew)⟩
      case measure => simp [intOf]; omega
    · have hk6 : k = 16 := by omega
      subst hk6
      rw [partF_all] at hrow
      have HROW := Lib.hid hrow
      clear hrow hch
      go_wp2
      refine bodyPost_end (results_none rfl _ _ _) rfl ?_
      exact ⟨rfl, HROW.out, HC.out⟩
theorem zero47 : (Tryd.prog.info? 93).map (·.zero) = some (some (.agg (u8s (List.replicate 16 0)).toArray)) := by kernel_rfl
theorem size47 : (Tryd.prog.info? 93).map (·.size) = some 16 := by kernel_rfl
set_option maxRecDepth 100000 in
set_option maxHeartbeats 1000000 in
theorem turn_any (g : Nat) (s : List Nat) (w : World) (hs : s.length = 16) (hr : Row w g 93 (u8s s)) : Calls Tryd.prog 56 #[.pointer (some ⟨g, 0, none⟩)] w fun e w' => e = .returned (.tuple #[]) ∧ Row w' g 93 (u8s (shiftB s)) ∧ Chg (· = g) w w' := by
  have HS := Lib.hid hs
  have HR := Lib.hid hr
  have HG := Lib.hid hr.lt
  clear hs hr
  go_enter Tryd.func56, Tryd.ntmps56
  go_wp2_with (first | ((with_reducible show wpList _ _ _ (⟨some 7, .load 93 _, _, _, _, _⟩ :: _) _ _); refine wpList_load_Row rfl rfl rfl HR.out Tryd.underlying93 rfl (by rw [u8s_length, HS.out]; exact size47) ?_) | ((with_reducible show wpList _ _ _ (⟨_, .alloc 93, _, _, _, _⟩ :: _) _ _); refine wpList_alloc_Row rfl rfl (u8s (List.replicate 16 0)) zero47 ?_; intro w1 hr1 hc1 hs1; have HR1 := Lib.hid hr1; have HC1 := Lib.hid hc1; clear hr1 hc1 hs1) | ((with_reducible show wpList _ _ _ (⟨_, .store 93 _ _, _, _, _, _⟩ :: _) _ _); refine wpList_store_Row (xs := u8s s) rfl rfl rfl HR1.out rfl (by rw [u8s_length, u8s_length, HS.out, List.length_replicate]) (by rw [u8s_length, HS.out]; exact size47) (u8s_oneA _) ?_; intro w2 hr2 hc2 hs2; have HR2 := Lib.hid hr2; have HC2 := Lib.hid (hc2 none_ w HC1.out (fun h => absurd h (Nat.lt_irrefl _))); clear hr2 hc2 hs2))
  have HRG := Lib.hid (HR.out.chg HC2.out (fun h => h))
  have HGN := Lib.hid (show ¬ w.heap.size = g by have := HG.out; omega)
  go_loopw [3, 4, 8, 10] (fun _ _ i _ wr => ∃ k : Nat, k ≤ 16 ∧ i = .int .i64 k ∧ Row wr g 93 (u8s (partF (fun i => s.getD ((i + i % 4 * 4) % 16) 0) s 16 k)) ∧ Chg (· = g) w2 wr) (fun _ _ i _ _ => 16 - (intOf i).toNat)
  case atStart => exact ⟨0, Nat.zero_le _, rfl, by rw [partF_0 _ _ _ HS.out]; exact HRG.out, Chg.refl _ _⟩
  case round =>
    obtain ⟨k, hk, rfl, hrow, hch⟩ := hrel
    have HC := Lib.hid hch
    by_cases hlt : k < 16
    · obtain ⟨m, hm⟩ : ∃ m, m = (k + k % 4 * 4) % 16 := ⟨_, rfl⟩
      have hf := hrow.frozen k
      have c0 := Row.u8 hrow (i := k) (by rw [partF_len]; exact hlt)
      have c2 := Row.u8 (HR2.out.chg hch HGN.out) (i := m) (by rw [HS.out]; omega)
      have HSET := Lib.hid (hrow.set k (.int .u8 ((s.getD m 0 : Nat) : Int)))
      have HPS : Hid ((partF (fun i => s.getD ((i + i % 4 * 4) % 16) 0) s 16 k).set k (s.getD m 0) = partF (fun i => s.getD ((i + i % 4 * 4) % 16) 0) s 16 (k + 1)) := Lib.hid (by rw [hm]; exact partF_set (fun i => s.getD ((i + i % 4 * 4) % 16) 0) s 16 k)
      generalize s.getD m 0 = y at c2 HSET HPS
      generalize (partF (fun i => s.getD ((i + i % 4 * 4) % 16) 0) s 16 k).getD k 0 = x at c0
      have q6 : ((k : Int) + (k : Int) % 4 * 4) % 16 = (m : Int) := by omega
      have hm16 : m < 16 := by omega
      clear hrow hch hm
      have q0 : (0 : Int) ≤ (k : Int) := by omega
      have q1 : (k : Int) < 16 := by omega
      have q2 : (0 : Int) ≤ (m : Int) := by omega
      have q3 : (m : Int) < 16 := by omega
      go_wp2
      go_region
      go_wp2
      go_roundw
      case rel => exact ⟨k + 1, by omega, by go_num, by rw [← HPS.out, ← u8s_set]; exact HSET.out, (by first | exact (HC.out.setCell (fun _ => rfl) _).drew | exact (HC.out.drew.setCell (fun _ => rfl) _).drew)⟩
      case measure => simp [intOf]; omega
    · have hk6 : k = 16 := by omega
      subst hk6
      rw [partF_all] at hrow
      have HROW := Lib.hid hrow
      clear hrow hch
      go_wp2
      refine bodyPost_end (results_none rfl _ _ _) rfl ?_
      exact ⟨rfl, HROW.out, (HC2.out.mono (fun _ _ h => h.elim)).trans HC.out⟩
end Go.Proofs.YtfpflhcabjcamaaDoor

namespace Go.Proofs.YtfpflhcabjcamaaDoor
open Go.RowKit

def mixF (s : List Nat) (i : Nat) : Nat := mixC (s.getD (i / 4 * 4 + i % 4) 0) (s.getD (i / 4 * 4 + (i + 1) % 4) 0) (s.getD (i / 4 * 4 + (i + 2) % 4) 0) (s.getD (i / 4 * 4 + (i + 3) % 4) 0)
theorem mixV (p q r s : Nat) (hp : p < 256) (hq : q < 256) (hr : r < 256) (hs : s < 256) : bits .xor .u8 (bits .xor .u8 (bits .xor .u8 ((dbl (p ^^^ q) : Nat) : Int) (q : Int)) (r : Int)) (s : Int) = ((mixC p q r s : Nat) : Int) := by
  have h0 := dbl_lt (xor8_lt hp hq)
  rw [u8_xor_nat _ _ h0 hq, u8_xor_nat _ _ (xor8_lt h0 hq) hr, u8_xor_nat _ _ (xor8_lt (xor8_lt h0 hq) hr) hs]
  rfl
theorem mix_four (s : List Nat) (m : Nat) (hm : m % 4 = 0) :
    ((((partF (mixF s) s 16 m).set m (mixC (s.getD m 0) (s.getD (m + 1) 0) (s.getD (m + 2) 0) (s.getD (m + 3) 0))).set (m + 1) (mixC (s.getD (m + 1) 0) (s.getD (m + 2) 0) (s.getD (m + 3) 0) (s.getD m 0))).set (m + 2) (mixC (s.getD (m + 2) 0) (s.getD (m + 3) 0) (s.getD m 0) (s.getD (m + 1) 0))).set (m + 3) (mixC (s.getD (m + 3) 0) (s.getD m 0) (s.getD (m + 1) 0) (s.getD (m + 2) 0)) = partF (mixF s) s 16 (m + 4) := by
  have e (i a b c d : Nat) (ha : i / 4 * 4 + i % 4 = a) (hb : i / 4 * 4 + (i + 1) % 4 = b) (hc : i / 4 * 4 + (i + 2) % 4 = c) (hd : i / 4 * 4 + (i + 3) % 4 = d) : mixC (s.getD a 0) (s.getD b 0) (s.getD c 0) (s.getD d 0) = mixF s i := by subst ha; subst hb; subst hc; subst hd; rfl
  rw [e m m (m + 1) (m + 2) (m + 3) (by omega) (by omega) (by omega) (by omega), e (m + 1) (m + 1) (m + 2) (m + 3) m (by omega) (by omega) (by omega) (by omega), e (m + 2) (m + 2) (m + 3) m (m + 1) (by omega) (by omega) (by omega) (by omega), e (m + 3) (m + 3) m (m + 1) (m + 2) (by omega) (by omega) (by omega) (by omega)]
  rw [partF_set, partF_set, partF_set, partF_set]

set_option maxRecDepth 100000 in
set_option maxHeartbeats 1000000 in
theorem mul_any (g : Nat) (s : List Nat) (w : World) (hs : s.length = 16) (hsb : ∀ x ∈ s, x < 256) (hr : Row w g 93 (u8s s)) : Calls Tryd.prog 57 #[.pointer (some ⟨g, 0, none⟩)] w fun e w' => e = .returned (.tuple #[]) ∧ Row w' g 93 (u8s (mixB s)) ∧ Chg (· = g) w w' := by
  have HS := Lib.hid hs
  have HSB := Lib.hid (fun i => getD_lt hsb i (by decide))
  have HR := Lib.hid hr
  clear hs hsb hr
  go_enter Tryd.func57, Tryd.ntmps57
  go_wp2
  go_loopw [2, 3, 4, 5, 6, 7, 8] (fun i _ _ _ _ _ _ wr => ∃ m : Nat, m ≤ 16 ∧ m % 4 = 0 ∧ i = .int .i64 m ∧ Row wr g 93 (u8s (partF (mixF s) s 16 m)) ∧ Chg (· = g) w wr) (fun i _ _ _ _ _ _ _ => 16 - (intOf i).toNat)
  case atStart => exact ⟨0, Nat.zero_le _, rfl, rfl, by rw [partF_0 _ _ _ HS.out]; exact HR.out, Chg.refl _ _⟩
  case round =>
    obtain ⟨m, hm, hm4, rfl, hrow, hch⟩ := hrel
    have HC := Lib.hid hch
    by_cases hlt : m < 16
    · have c0 := Row.u8 hrow (i := m) (by rw [partF_len]; omega)
      have c1 := Row.u8 hrow (i := m + 1) (by rw [partF_len]; omega)
      have c2 := Row.u8 hrow (i := m + 2) (by rw [partF_len]; omega)
      have c3 := Row.u8 hrow (i := m + 3) (by rw [partF_len]; omega)
      rw [partF_get _ _ _ _ _ (by omega) (by omega)] at c0 c1 c2 c3
      have f0 := hrow.frozen m
      have f1 := hrow.frozen (m + 1)
      have f2 := hrow.frozen (m + 2)
      have f3 := hrow.frozen (m + 3)
      have HM := Lib.hid (mix_four s m hm4)
      have hp : s.getD m 0 < 256 := HSB.out m
      have hq : s.getD (m + 1) 0 < 256 := HSB.out (m + 1)
      have hr : s.getD (m + 2) 0 < 256 := HSB.out (m + 2)
      have ht : s.getD (m + 3) 0 < 256 := HSB.out (m + 3)
      have HROW := Lib.hid hrow
      clear hrow hch
      generalize s.getD m 0 = p at c0 HM hp
      generalize s.getD (m + 1) 0 = q at c1 HM hq
      generalize s.getD (m + 2) 0 = r at c2 HM hr
      generalize s.getD (m + 3) 0 = t at c3 HM ht
      have x1 := u8_xor_nat p q hp hq
      have x2 := u8_xor_nat q r hq hr
      have x3 := u8_xor_nat r t hr ht
      have x4 := u8_xor_nat t p ht hp
      have HX1 := Lib.hid (xor8_lt hp hq)
      have HX2 := Lib.hid (xor8_lt hq hr)
      have HX3 := Lib.hid (xor8_lt hr ht)
      have HX4 := Lib.hid (xor8_lt ht hp)
      have y1 := mixV p q r t hp hq hr ht
      have y2 := mixV q r t p hq hr ht hp
      have y3 := mixV r t p q hr ht hp hq
      have y4 := mixV t p q r ht hp hq hr
      go_wp2_with (first | ((with_reducible show wpList _ _ _ (⟨some 15, _, _, _, _, _⟩ :: _) _ _); refine wpList_slice_arr_low rfl 93 5 _ _ rfl 16 1 m g 0 rfl rfl Tryd.underlying93 size5 hlt ?_) | ((with_reducible show wpList _ _ _ (⟨some 16, _, _, _, _, _⟩ :: _) _ _); refine wpList_arrayAt rfl 104 5 4 _ rfl (some ⟨g, 0 + m * 1, none⟩) (16 - m) (16 - m) rfl Tryd.underlying104 (by omega) ?_))
      go_region
      go_wp2
      refine wp_region_still_tail 13 (by kernel_rfl) (by kernel_rfl) ?_
      simp only [List.take_succ_cons, List.take_zero, List.drop_succ_cons, List.drop_zero]
      iterate 4 still_step
      still_call ((double_any (p ^^^ q) HX1.out _).mono fun _ _ h => ⟨h.1, h.2.symm⟩)
      iterate 8 still_step
      refine wpStill_nil ?_
      change wpList _ _ _ _ _ (World.drew _)
      go_wp2
      refine wp_region_still_tail 13 (by kernel_rfl) (by kernel_rfl) ?_
      simp only [List.take_succ_cons, List.take_zero, List.drop_succ_cons, List.drop_zero]
      iterate 4 still_step
      still_call ((double_any (q ^^^ r) HX2.out _).mono fun _ _ h => ⟨h.1, h.2.symm⟩)
      iterate 8 still_step
      refine wpStill_nil ?_
      change wpList _ _ _ _ _ (World.drew _)
      go_wp2
      refine wp_region_still_tail 13 (by kernel_rfl) (by kernel_rfl) ?_
      simp only [List.take_succ_cons, List.take_zero, List.drop_succ_cons, List.drop_zero]
      iterate 4 still_step
      still_call ((double_any (r ^^^ t) HX3.out _).mono fun _ _ h => ⟨h.1, h.2.symm⟩)
      iterate 8 still_step
      refine wpStill_nil ?_
      change wpList _ _ _ _ _ (World.drew _)
      go_wp2
      refine wp_region_still_tail 13 (by kernel_rfl) (by kernel_rfl) ?_
      simp only [List.take_succ_cons, List.take_zero, List.drop_succ_cons, List.drop_zero]
      iterate 4 still_step
      still_call ((double_any (t ^^^ p) HX4.out _).mono fun _ _ h => ⟨h.1, h.2.symm⟩)
      iterate 8 still_step
      refine wpStill_nil ?_
      change wpList _ _ _ _ _ (World.drew _)
      go_wp2
      go_roundw
      case rel =>
        refine ⟨m + 4, by omega, by omega, by go_num, ?_, (((((HC.out.setCell (fun _ => rfl) _).setCell (fun _ => rfl) _).setCell (fun _ => rfl) _).setCell (fun _ => rfl) _).drew.drew.drew.drew.drew)⟩
        rw [← HM.out, ← u8s_set, ← u8s_set, ← u8s_set, ← u8s_set]
        exact (((HROW.out.set m _).set (m + 1) _).set (m + 2) _).set (m + 3) _
      case measure => simp [intOf]; omega
    · have hk6 : m = 16 := by omega
      subst hk6
      rw [partF_all] at hrow
      have HROW := Lib.hid hrow
      clear hrow hch
      go_wp2
      refine bodyPost_end (results_none rfl _ _ _) rfl ?_
      exact ⟨rfl, HROW.out, HC.out⟩
end Go.Proofs.YtfpflhcabjcamaaDoor

namespace Go.Proofs.YtfpflhcabjcamaaDoor
open Go.RowKit

theorem xorB_len (s k : List Nat) : (xorB s k).length = 16 := by simp [xorB]
theorem subB_len (s : List Nat) : (subB s).length = 16 := by simp [subB]
theorem shiftB_len (s : List Nat) : (shiftB s).length = 16 := by simp [shiftB]
theorem mixB_len (s : List Nat) : (mixB s).length = 16 := by simp [mixB]
theorem xorB_lt {s k : List Nat} (hs : ∀ x ∈ s, x < 256) (hk : ∀ x ∈ k, x < 256) : ∀ x ∈ xorB s k, x < 256 := by
  intro x hx
  simp only [xorB, List.mem_map] at hx
  obtain ⟨i, _, rfl⟩ := hx
  exact xor8_lt (getD_lt hs i (by decide)) (getD_lt hk i (by decide))
theorem subB_lt (s : List Nat) : ∀ x ∈ subB s, x < 256 := by
  intro x hx
  simp only [subB, List.mem_map] at hx
  obtain ⟨i, _, rfl⟩ := hx
  exact sbox_lt _
theorem shiftB_lt {s : List Nat} (hs : ∀ x ∈ s, x < 256) : ∀ x ∈ shiftB s, x < 256 := by
  intro x hx
  simp only [shiftB, List.mem_map] at hx
  obtain ⟨i, _, rfl⟩ := hx
  exact getD_lt hs _ (by decide)
theorem mixC_lt {p q r s : Nat} (hp : p < 256) (hq : q < 256) (hr : r < 256) (hs : s < 256) : mixC p q r s < 256 := xor8_lt (xor8_lt (xor8_lt (dbl_lt (xor8_lt hp hq)) hq) hr) hs
theorem mixB_lt {s : List Nat} (hs : ∀ x ∈ s, x < 256) : ∀ x ∈ mixB s, x < 256 := by
  intro x hx
  simp only [mixB, List.mem_map] at hx
  obtain ⟨i, _, rfl⟩ := hx
  exact mixC_lt (getD_lt hs _ (by decide)) (getD_lt hs _ (by decide)) (getD_lt hs _ (by decide)) (getD_lt hs _ (by decide))
theorem stepB_len (ks s : List Nat) (r : Nat) : (stepB ks s r).length = 16 := xorB_len _ _
theorem stepB_lt {ks s : List Nat} (hk : ∀ x ∈ ks, x < 256) (r : Nat) : ∀ x ∈ stepB ks s r, x < 256 :=
  xorB_lt (by split; exact mixB_lt (shiftB_lt (subB_lt _)); exact shiftB_lt (subB_lt _)) (fun x hx => hk x (List.mem_of_mem_drop hx))
theorem roundsB_len (ks s : List Nat) : ∀ r, (roundsB ks s r).length = 16
  | 0 => xorB_len _ _
  | _ + 1 => stepB_len _ _ _
theorem roundsB_lt {ks s : List Nat} (hs : ∀ x ∈ s, x < 256) (hk : ∀ x ∈ ks, x < 256) : ∀ r, ∀ x ∈ roundsB ks s r, x < 256
  | 0 => xorB_lt hs hk
  | _ + 1 => stepB_lt hk _
theorem encN_len (ks s : List Nat) : (encN ks s).length = 16 := roundsB_len _ _ _
theorem encN_lt {ks s : List Nat} (hs : ∀ x ∈ s, x < 256) (hk : ∀ x ∈ ks, x < 256) : ∀ x ∈ encN ks s, x < 256 := roundsB_lt hs hk _

/-- A cipher lies there: where the boxes are, and the round keys. -/
structure CiphAt (w : World) (cb tb : Nat) (ks : List Nat) : Prop where
  row : Row w cb 108 (.pointer (some ⟨tb, 0, none⟩) :: u8s ks)
  box : Row w tb 124 (u8s sboxL)
theorem CiphAt.chg {w w' : World} {S : Nat → Prop} {cb tb : Nat} {ks : List Nat} (h : CiphAt w cb tb ks) (hc : Chg S w w') (h1 : ¬ S cb) (h2 : ¬ S tb) : CiphAt w' cb tb ks := ⟨h.row.chg hc h1, h.box.chg hc h2⟩
theorem CiphAt.keys {w : World} {cb tb : Nat} {ks : List Nat} (h : CiphAt w cb tb ks) (hk : ks.length = 176) (r : Nat) (hr : r ≤ 10) : KeysAt w cb (1 + 16 * r) (ks.drop (16 * r)) := by
  refine ⟨h.row.lt, fun j hj => ?_⟩
  rw [h.row.cell, show 1 + 16 * r + j = (16 * r + j) + 1 from by omega, List.getElem?_cons_succ, u8s_get, List.getElem?_eq_getElem (by omega)]
  rw [List.getD_eq_getElem?_getD, List.getElem?_drop, List.getElem?_eq_getElem (by omega)]
  rfl
theorem size4 : (Tryd.prog.info? 104).map (·.size) = some 4 := by kernel_rfl

set_option maxRecDepth 100000 in
set_option maxHeartbeats 1000000 in
theorem encipher_any (cb tb : Nat) (ks s : List Nat) (w : World) (hs : s.length = 16) (hsb : ∀ x ∈ s, x < 256) (hk : ks.length = 176) (hkb : ∀ x ∈ ks, x < 256) (hci : CiphAt w cb tb ks) : Calls Tryd.prog 44 #[.pointer (some ⟨cb, 0, none⟩), .agg (u8s s).toArray] w fun e w' => e = .returned (.agg (u8s (encN ks s)).toArray) ∧ Chg none_ w w' := by
  have HS := Lib.hid hs
  have HSB := Lib.hid hsb
  have HK := Lib.hid hk
  have HKB := Lib.hid hkb
  have HKD : Hid (∀ r, ∀ x ∈ ks.drop (16 * r), x < 256) := Lib.hid (fun r x hx => hkb x (List.mem_of_mem_drop hx))
  have HCI := Lib.hid hci
  have HL1 := Lib.hid hci.row.lt
  have HL2 := Lib.hid hci.box.lt
  clear hs hsb hk hkb hci
  go_enter Tryd.func44, Tryd.ntmps44
  go_wp2_with (first | ((with_reducible show wpList _ _ _ (⟨_, .box 93 _, _, _, _, _⟩ :: _) _ _); refine wpList_box_Row rfl rfl (u8s s) rfl ?_; intro w1 hr1 hc1 hs1; have HR1 := Lib.hid hr1; have HC1 := Lib.hid hc1; clear hr1 hc1 hs1) | ((with_reducible show wpList _ _ _ (⟨_, .alloc 93, _, _, _, _⟩ :: _) _ _); refine wpList_alloc_Row rfl rfl (u8s (List.replicate 16 0)) zero47 ?_; intro w2 hr2 hc2 hs2; have HR2 := Lib.hid hr2; have HC2 := Lib.hid hc2; have HCI2 := Lib.hid ((HCI.out.chg HC1.out (fun h => h) (fun h => h)).chg hc2 (fun h => h) (fun h => h)); have HRG := Lib.hid (HR1.out.chg hc2 (fun h => h)); clear hr2 hc2 hs2) | ((with_reducible show wpList _ _ _ (⟨some 9, _, _, _, _, _⟩ :: _) _ _); refine wpList_slice_arr_high rfl 105 104 _ _ rfl 44 4 4 cb 1 rfl rfl Tryd.underlying105 size4 (by decide) ?_) | (go_at_call 54; refine (xor_any w.heap.size cb 1 4 44 s ks w2 HS.out HSB.out HKB.out HRG.out (HCI2.out.keys HK.out 0 (by decide)) (Nat.le_refl _) (by have := HL1.out; omega)).mono ?_; rintro e w3 ⟨rfl, hr3, hc3⟩; have HR3 := Lib.hid hr3; have HC3 := Lib.hid hc3; clear hr3 hc3))
  have HG := Lib.hid (show w.heap.size < w1.heap.size from HR1.out.lt)
  have HR2x := Lib.hid (HR2.out.chg HC3.out (by have := HG.out; omega))
  have HCW := Lib.hid ((HC1.out.trans HC2.out).andThen HC3.out (fun b h e => by omega))
  have HCI3 := Lib.hid (HCI2.out.chg HC3.out (by have := HL1.out; omega) (by have := HL2.out; omega))
  have HRB := Lib.hid (fun k => roundsB_lt (s := s) (ks := ks) HSB.out HKB.out k)
  have HTG := Lib.hid (show ¬ tb = w.heap.size by have := HL2.out; omega)
  have HCG := Lib.hid (show ¬ cb = w.heap.size by have := HL1.out; omega)
  clear HR1 HC1 HC2 HC3 HRG HCI2 HR2 HCI
  go_loopw [5, 11] (fun i _ wr => ∃ k : Nat, k ≤ 10 ∧ i = .int .i64 (k + 1 : Nat) ∧ Row wr w.heap.size 93 (u8s (roundsB ks s k)) ∧ Chg (· = w.heap.size) w3 wr) (fun i _ _ => 11 - (intOf i).toNat)
  case atStart => exact ⟨0, Nat.zero_le _, rfl, HR3.out, Chg.refl _ _⟩
  case round =>
    obtain ⟨k, hk, rfl, hrow, hch⟩ := hrel
    have HROW := Lib.hid hrow
    have HC := Lib.hid hch
    clear hrow
    by_cases hlt : k < 10
    · have HCR := Lib.hid (HCI3.out.chg hch HCG.out HTG.out)
      have c1 : wr.cell? ⟨cb, 0, none⟩ = some (.pointer (some ⟨tb, 0, none⟩)) := by rw [HCR.out.row.cell]; rfl
      have Q1 : Hid (Value.int .i64 (4 * ((k + 1 : Nat) : Int)) = .int .i64 ((4 * (k + 1) : Nat) : Int)) := Lib.hid (by congr 1)
      have Q2 : Hid (1 + 4 * (k + 1) * 4 = 1 + 16 * (k + 1)) := Lib.hid (by omega)
      clear hch
      by_cases h9 : k < 9
      · have HST : Hid (roundsB ks s (k + 1) = xorB (mixB (shiftB (subB (roundsB ks s k)))) (ks.drop (16 * (k + 1)))) := Lib.hid (by rw [roundsB, stepB, if_pos (by omega)])
        have HCa9 := Lib.hid h9
        go_wp2_with (first | (go_at_call 55; refine (sub_any w.heap.size tb (roundsB ks s k) wr (roundsB_len _ _ _) (HRB.out _) HROW.out HCR.out.box HTG.out).mono ?_; rintro e wa ⟨rfl, hra, hca⟩; have HRa := Lib.hid hra; have HCa := Lib.hid hca; clear hra hca) | (go_at_call 56; refine (turn_any w.heap.size (subB (roundsB ks s k)) wa (subB_len _) HRa.out).mono ?_; rintro e wb ⟨rfl, hrb, hcb⟩; have HRb := Lib.hid hrb; have HCb := Lib.hid (HCa.out.trans hcb); clear hrb hcb) | (go_at_call 57; refine (mul_any w.heap.size (shiftB (subB (roundsB ks s k))) wb (shiftB_len _) (shiftB_lt (subB_lt _)) HRb.out).mono ?_; rintro e wc ⟨rfl, hrc, hcc⟩; have HRc := Lib.hid hrc; have HCc := Lib.hid (HCb.out.trans hcc); clear hrc hcc) | ((with_reducible show wpList _ _ _ (⟨some 29, _, _, _, _, _⟩ :: _) _ _); refine wpList_slice_arr_low rfl 105 104 _ _ rfl 44 4 (4 * (k + 1)) cb 1 rfl (by show Value.int .i64 _ = _; first | exact Q1.out | rfl) Tryd.underlying105 size4 (by omega) ?_; rw [Q2.out]) | (go_at_call 54; refine (xor_any w.heap.size cb (1 + 16 * (k + 1)) (44 - 4 * (k + 1)) (44 - 4 * (k + 1)) (mixB (shiftB (subB (roundsB ks s k)))) (ks.drop (16 * (k + 1))) wc (mixB_len _) (mixB_lt (shiftB_lt (subB_lt _))) (HKD.out _) HRc.out ((HCR.out.chg HCc.out HCG.out HTG.out).keys HK.out (k + 1) (by omega)) (by omega) HCG.out).mono ?_; rintro e wd ⟨rfl, hrd, hcd⟩; have HRd := Lib.hid hrd; have HCd := Lib.hid (HCc.out.trans hcd); clear hrd hcd))
        go_roundw
        case rel => exact ⟨k + 1, by omega, by go_num, by rw [HST.out]; exact HRd.out, HC.out.trans HCd.out⟩
        case measure => simp [intOf]; omega
      · have HST : Hid (roundsB ks s (k + 1) = xorB (shiftB (subB (roundsB ks s k))) (ks.drop (16 * (k + 1)))) := Lib.hid (by rw [roundsB, stepB, if_neg (by omega)])
        go_wp2_with (first | (go_at_call 55; refine (sub_any w.heap.size tb (roundsB ks s k) wr (roundsB_len _ _ _) (HRB.out _) HROW.out HCR.out.box HTG.out).mono ?_; rintro e wa ⟨rfl, hra, hca⟩; have HRa := Lib.hid hra; have HCa := Lib.hid hca; clear hra hca) | (go_at_call 56; refine (turn_any w.heap.size (subB (roundsB ks s k)) wa (subB_len _) HRa.out).mono ?_; rintro e wb ⟨rfl, hrb, hcb⟩; have HRb := Lib.hid hrb; have HCb := Lib.hid (HCa.out.trans hcb); clear hrb hcb) | ((with_reducible show wpList _ _ _ (⟨some 29, _, _, _, _, _⟩ :: _) _ _); refine wpList_slice_arr_low rfl 105 104 _ _ rfl 44 4 (4 * (k + 1)) cb 1 rfl (by show Value.int .i64 _ = _; first | exact Q1.out | rfl) Tryd.underlying105 size4 (by omega) ?_; rw [Q2.out]) | (go_at_call 54; refine (xor_any w.heap.size cb (1 + 16 * (k + 1)) (44 - 4 * (k + 1)) (44 - 4 * (k + 1)) (shiftB (subB (roundsB ks s k))) (ks.drop (16 * (k + 1))) wb (shiftB_len _) (shiftB_lt (subB_lt _)) (HKD.out _) HRb.out ((HCR.out.chg HCb.out HCG.out HTG.out).keys HK.out (k + 1) (by omega)) (by omega) HCG.out).mono ?_; rintro e wd ⟨rfl, hrd, hcd⟩; have HRd := Lib.hid hrd; have HCd := Lib.hid (HCb.out.trans hcd); clear hrd hcd))
        go_roundw
        case rel => exact ⟨k + 1, by omega, by go_num, by rw [HST.out]; exact HRd.out, HC.out.trans HCd.out⟩
        case measure => simp [intOf]; omega
    · have hk10 : k = 10 := by omega
      subst hk10
      clear hch hk hlt
      go_wp2_with (first | ((with_reducible show wpList _ _ _ (⟨some 31, .load 93 _, _, _, _, _⟩ :: _) _ _); refine wpList_load_Row rfl rfl rfl HROW.out Tryd.underlying93 rfl (by rw [u8s_length, roundsB_len]; exact size47) ?_) | ((with_reducible show wpList _ _ _ (⟨_, .store 93 _ _, _, _, _, _⟩ :: _) _ _); refine wpList_store_Row (xs := u8s (encN ks s)) rfl rfl rfl (HR2x.out.chg HC.out (by have := HG.out; omega)) rfl (by rw [u8s_length, u8s_length, encN_len, List.length_replicate]) (by rw [u8s_length, encN_len]; exact size47) (u8s_oneA _) ?_; intro w9 hr9 hc9 hs9; have HR9 := Lib.hid hr9; have HC9 := Lib.hid hc9; clear hr9 hc9 hs9))
      refine ret_row rfl rfl HR9.out Tryd.underlying93 rfl (by rw [u8s_length, encN_len]; exact size47) rfl ?_
      exact ⟨rfl, HC9.out none_ w (HCW.out.andThen HC.out (fun b h e => by omega)) (fun h => by have := HG.out; omega)⟩
end Go.Proofs.YtfpflhcabjcamaaDoor
