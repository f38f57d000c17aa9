/- Layer 6 (hframe): the laws' own look that the program answers at all. -/
import Derived.Test.YtcdnjeojgjakdaaDoorV6Next
import Derived.Test.YtcdnjeojgjakdaaDoorV6Put
import Derived.Test.YtcdnjeojgjakdaaDoorV6Same
import Derived.Test.YtcdnjeojgjakdaaDoorV6Pack
import Derived.Test.YtcdnjeojgjakdaaDoorV6Unpack
import Derived.Test.YtcdnjeojgjakdaaDoorSame
namespace Go.Proofs.YtcdnjeojgjakdaaDoor
open Go.RowKit

def fS : Hf := { kind := 4, sets := [(6, 100)] }
def fG : Hf := { kind := 7, id := 4 }
def sa : ByteArray := ⟨#[97]⟩
def sb_ : ByteArray := ⟨#[98]⟩
theorem rightS : rightH fS = true := by decide +kernel
theorem okS : fS.Ok := by constructor <;> decide
theorem putS : putH fS = [4, 3, 6, 64, 100] := by decide +kernel
theorem putG : putH fG = [7, 1, 4] := by decide +kernel
theorem nextS : nextH ([4, 3, 6, 64, 100] ++ [1]) = (fS, 5, 0) := by
  have := next_put fS okS rightS [1]
  rwa [putS] at this
theorem next33 : nextH [33, 1, 5] = ({}, 3, 6) := next_pass 33 [5] (by omega) (by omega) (by decide) []
theorem fieldsA : fieldsB [(sa, sb_)] = true := by decide +kernel
theorem fieldsN : fieldsB [((⟨#[65]⟩ : ByteArray), (⟨#[]⟩ : ByteArray))] = false := by decide +kernel
theorem unpackA : unpackH (packH [(sa, sb_)]) = ([(sa, sb_)], 0) := by
  unfold packH
  rw [fieldsA, if_pos rfl, unpack_pack _ (fields_all fieldsA).2, if_pos (by decide)]
theorem packA_len : (packH [(sa, sb_)]).length = 5 := by decide +kernel
theorem packA_lt : ∀ x ∈ packH [(sa, sb_)], x < 256 := by decide +kernel

set_option maxRecDepth 100000 in
set_option maxHeartbeats 4000000 in
theorem alive_any (w : World) (hT : Tab w) : Calls Tryd.prog 10 #[] w fun e w' => e = .returned (.bool true) ∧ Chg none_ w w' := by
  obtain ⟨i0, hi, hz0, hz1, hz2⟩ := info_parts info5
  have HT := Lib.hid hT
  clear hT
  have H0 := Lib.hid (Row.new w 49 [.int .u64 6, .int .u64 100])
  go_enter Tryd.func10, Tryd.ntmps10
  go_wp2_with (first | ((with_reducible show wpList _ _ _ (⟨_, .store 26 (.tmp 1) _, _, _, _, _⟩ :: _) _ _); refine wpList_store_Row (xs := cellsH fS (.slice (some ⟨w.heap.size, 0, none⟩) 1 1) (.slice none 0 0)) rfl rfl rfl (Row.new2 w (.cells [Value.int .u64 6, .int .u64 100].toArray 49) 26 zcH) rfl rfl sizeH rfl ?_; intro w1 hr1 hch1 hs1; have HC1 := Lib.hid (hch1 none_ w (((Chg.refl none_ w).alloc _).alloc _) (fun h => absurd h (by omega))); have HR1 := Lib.hid hr1; have HS1 := Lib.hid (hch1 (· = w.heap.size + 1) _ (Chg.refl _ _) (fun _ => rfl)); clear hr1 hch1 hs1) | ((with_reducible show wpList _ _ _ (⟨_, .load 26 (.tmp 1), _, _, _, _⟩ :: _) _ _); refine wpList_load_Row rfl rfl rfl HR1.out Tryd.underlying26 rfl sizeH ?_))
  have hset : Row w1 w.heap.size 49 [.int .u64 6, .int .u64 100] := (H0.out.alloc _).chg HS1.out (fun e => by have h1 : w.heap.size = w.heap.size + 1 := e; omega)
  have hd1 : HfD w1 (fun _ => True) fS (.slice (some ⟨w.heap.size, 0, none⟩) 1 1) (.slice none 0 0) := ⟨⟨_, _, rfl, ⟨by decide, by decide⟩, View.row (T := fun _ => True) hset (n := 2) (by simp) trivial⟩, ⟨none, 0, rfl, ⟨Nat.zero_le _, Nat.zero_le _⟩, View.none_ _ _ _⟩⟩
  have HD1 := Lib.hid hd1
  have HT1 := Lib.hid (HT.out.chg HC1.out (fun h => h))
  clear hset hd1 H0 HS1
  have HP1 := Lib.hid (Put_any fS _ _ w1 _ HD1.out HT1.out)
  rw [putS] at HP1
  refine HP1.out.mono ?_
  rintro e w2 ⟨A2, c2, rfl, s2, hc2⟩
  have HW2 : Hid ((w2.alloc (.cells [Value.int .u8 1].toArray 5)).ownsRow w1.heap.size 5 1 (.slice A2 5 c2) 5 (u8s [4, 3, 6, 64, 100])) := own_chg s2.own ((Chg.refl none_ w2).alloc (.cells [Value.int .u8 1].toArray 5)) (fun _ _ h => h)
  have HC2 := Lib.hid hc2
  have HZ2 := Lib.hid ((hc2.alloc (.cells [Value.int .u8 1].toArray 5)).size)
  clear s2 hc2 HP1
  simp only [List.length_cons, List.length_nil]
  go_wp2_with (at_builtin; refine wpList_append_view rfl _ _ 24 rfl 5 i0 _ 1 Tryd.underlying24 hi hz0 hz1 hz2 rfl w1.heap.size (.slice A2 5 c2) 5 (u8s [4, 3, 6, 64, 100]) rfl HW2.out (fun _ => True) _ 1 _ (u8s [1]) rfl (View.row (cs := u8s [1]) (Row.new w2 _ (u8s [1])) (by simp) trivial) (u8s_one _) (by unfold maxLen; omega) (by omega) HZ2.out ?_; intro v3 w3 hown3 hgrow3 _)
  have hc3 := (HC2.out.alloc (.cells [Value.int .u8 1].toArray 5)).append (Nat.le_refl _) HW2.out hgrow3
  obtain ⟨A3, c3, rfl, hnc3, _, hv3⟩ := View.own (T := fun _ => True) hown3 (fun _ _ => trivial)
  have HN3 := Lib.hid (next_any w3 (fun _ => True) A3 c3 ([4, 3, 6, 64, 100] ++ [1]) (by rw [← u8s_append]; exact hv3) (by decide) (by simpa using hnc3) (by decide))
  rw [nextS] at HN3
  have HC3 := Lib.hid hc3
  clear hc3 hgrow3 hown3 hv3 hnc3 HW2 HZ2
  go_wp2_with fail
  refine HN3.out.mono ?_
  rintro e w4 ⟨ss4, sd4, rfl, hd4, hc4⟩
  have HC4 := Lib.hid hc4
  have HD4 := Lib.hid hd4
  have h1s4 : Hid ((cellsH fS ss4 sd4).all (·.oneCell') = true) := by
    obtain ⟨⟨_, _, rfl, _⟩, ⟨_, _, rfl, _⟩⟩ := hd4; rfl
  clear hc4 hd4 HN3
  unfold aggH
  simp only
  go_wp2_with (first | ((with_reducible show wpList _ _ _ (⟨_, .store 26 (.tmp 2) _, _, _, _, _⟩ :: _) _ _); refine wpList_store_Row (xs := cellsH fS ss4 sd4) rfl rfl rfl (Row.new w4 26 zcH) rfl rfl sizeH h1s4.out ?_; intro w5 hr5 hch5 hs5; have HC5 := Lib.hid (hch5 none_ w4 ((Chg.refl none_ w4).alloc _) (fun h => absurd h (by omega))); have HR5 := Lib.hid hr5; have HN5 := Lib.hid (next_any (w5.alloc (.cells [Value.int .u8 33, .int .u8 1, .int .u8 5].toArray 5)) (fun _ => True) (some ⟨w5.heap.size, 0, none⟩) 3 [33, 1, 5] (View.row (cs := u8s [33, 1, 5]) (Row.new w5 _ (u8s [33, 1, 5])) (by simp) trivial) (by decide) (by decide) (by decide)); clear hr5 hch5 hs5))
  rw [next33] at HN5
  refine HN5.out.mono ?_
  rintro e w6 ⟨ss6, sd6, rfl, hd6, hc6⟩
  have HC6 := Lib.hid (((Chg.refl none_ w5).alloc _).trans hc6)
  have HD6 := Lib.hid hd6
  have h1s6 : Hid ((cellsH {} ss6 sd6).all (·.oneCell') = true) := by
    obtain ⟨⟨_, _, rfl, _⟩, ⟨_, _, rfl, _⟩⟩ := hd6; rfl
  clear hc6 hd6 HN5
  unfold aggH
  simp only
  have HT6 := Lib.hid ((((HT1.out.chg (HC3.out.trans HC4.out) (fun h => h))).chg HC5.out (fun h => h)).chg HC6.out (fun h => h))
  go_wp2_with (first | ((with_reducible show wpList _ _ _ (⟨_, .store 26 (.tmp 5) _, _, _, _, _⟩ :: _) _ _); refine wpList_store_Row (xs := cellsH {} ss6 sd6) rfl rfl rfl (Row.new w6 26 zcH) rfl rfl sizeH h1s6.out ?_; intro w7 hr7 hch7 hs7; have HC7 := Lib.hid (hch7 none_ w6 ((Chg.refl none_ w6).alloc _) (fun h => absurd h (by omega))); clear hr7 hch7 hs7))
  have hca := (Chg.refl none_ w7).alloc (.cells [Value.string sa, .string sb_].toArray 52)
  have HPK := Lib.hid (pack_any [(sa, sb_)] (w7.alloc (.cells [Value.string sa, .string sb_].toArray 52)) (fun _ => True) (some ⟨w7.heap.size, 0, none⟩) 1 (View.row (cs := fcells [(sa, sb_)]) (Row.new w7 _ _) (n := 2) (by decide) trivial) ((HT6.out.chg HC7.out (fun h => h)).chg hca (fun h => h)))
  refine HPK.out.mono ?_
  rintro e w8 ⟨A8, c8, rfl, s8, hc8⟩
  have HC8 := Lib.hid (hca.trans hc8)
  have HUP := Lib.hid (unpack_any w8 _ A8 c8 _ s8.view (by rw [packA_len]; omega) packA_lt)
  rw [unpackA] at HUP
  clear hca hc8 s8 HPK
  go_wp2_with fail
  refine HUP.out.mono ?_
  rintro e w9 ⟨A9, c9, rfl, hv9, hc9⟩
  have HC9 := Lib.hid (HC8.out.trans hc9)
  have HV9 : Hid (View w9 (fun _ => True) A9 (2 * [(sa, sb_)].length) (fcells [(sa, sb_)])) := hv9.mono (fun _ _ _ => trivial)
  have HT9 := Lib.hid ((HT6.out.chg HC7.out (fun h => h)).chg HC9.out (fun h => h))
  have HPG := Lib.hid (Put_any fG (.slice none 0 0) (.slice none 0 0) w9 (fun _ => True) ⟨⟨none, 0, rfl, ⟨Nat.zero_le _, Nat.zero_le _⟩, View.none_ _ _ _⟩, ⟨none, 0, rfl, ⟨Nat.zero_le _, Nat.zero_le _⟩, View.none_ _ _ _⟩⟩ HT9.out)
  rw [putG] at HPG
  clear hc9 hv9 HUP
  simp only [List.length_cons, List.length_nil]
  go_wp2_with fail
  refine HPG.out.mono ?_
  rintro e w10 ⟨A10, c10, rfl, s10, hc10⟩
  have hca := (Chg.refl none_ w10).alloc (.cells [Value.int .u8 7, .int .u8 1, .int .u8 4].toArray 5)
  have HSM := Lib.hid (same_any (w10.alloc (.cells [Value.int .u8 7, .int .u8 1, .int .u8 4].toArray 5)) _ (fun _ => True) A10 (some ⟨w10.heap.size, 0, none⟩) c10 3 [7, 1, 4] [7, 1, 4] (s10.view.chg hca (fun _ _ h => h)) (View.row (cs := u8s [7, 1, 4]) (Row.new w10 _ (u8s [7, 1, 4])) (by simp) trivial) (by decide))
  rw [show decide ([7, 1, 4] = [7, 1, 4]) = true from rfl] at HSM
  have HCA := Lib.hid (hc10.trans hca)
  clear s10 hc10 hca HPG
  go_wp2_with fail
  refine HSM.out.mono ?_
  rintro e w' ⟨rfl, k11, rfl⟩
  have HC11 := Lib.hid (HCA.out.drewN k11)
  generalize (w10.alloc (.cells [Value.int .u8 7, .int .u8 1, .int .u8 4].toArray 5)).drewN k11 = w11 at HC11 ⊢
  have HC5_11 := Lib.hid (((HC6.out.trans HC7.out).trans HC9.out).trans HC11.out)
  have HC1_11 := Lib.hid (((HC3.out.trans HC4.out).trans HC5.out).trans HC5_11.out)
  have HCW := Lib.hid (HC1.out.trans HC1_11.out)
  have HRT1 := Lib.hid (fun w' (hc : Chg none_ w11 w') => (HR1.out.chg HC1_11.out (fun h => h)).chg hc (fun h => h))
  have HRT2 := Lib.hid (fun w' (hc : Chg none_ w11 w') => (HR5.out.chg HC5_11.out (fun h => h)).chg hc (fun h => h))
  have HSS := Lib.hid (sameH_any fS fS ss4 sd4 (.slice (some ⟨w.heap.size, 0, none⟩) 1 1) (.slice none 0 0) w11 _ _ (HD4.out.chg (HC5.out.trans HC5_11.out) (fun _ _ h => h)) (HD1.out.chg HC1_11.out (fun _ _ h => h)) (by decide) (by decide))
  rw [decide_eq_true rfl] at HSS
  unfold aggH at HSS
  have HRR := Lib.hid (fun w' (hc : Chg none_ w11 w') => Right_any fS (.slice (some ⟨w.heap.size, 0, none⟩) 1 1) (.slice none 0 0) w' _ ((HD1.out.chg HC1_11.out (fun _ _ h => h)).chg hc (fun _ _ h => h)))
  rw [rightS] at HRR
  unfold aggH at HRR
  obtain ⟨b9, o9, rfl, hb9, _, hc9⟩ := HV9.out.flds (by decide)
  have hcell : w9.cell? ⟨b9, o9 + 0 * 2 + 1, none⟩ = some (.string ⟨#[98]⟩) := (hc9 0 (by decide)).2
  simp only [Nat.zero_mul, Nat.add_zero] at hcell
  have HCL := Lib.hid (fun w' (hc : Chg none_ w11 w') => (hc.cell (o9 + 1) (Nat.lt_of_lt_of_le hb9 HC11.out.size) (fun h => h)).trans ((HC11.out.cell _ hb9 (fun h => h)).trans hcell))
  have HFL := Lib.hid (fun w' (hc : Chg none_ w11 w') => fields_any w' _ (some ⟨b9, o9, none⟩) c9 [(sa, sb_)] ((HV9.out.chg HC11.out (fun _ _ h => h)).chg hc (fun _ _ h => h)))
  rw [fieldsA] at HFL
  have HFN := Lib.hid (fun w' => fields_any (w'.alloc (.cells [Value.string ⟨#[65]⟩, .string ⟨#[]⟩].toArray 52)) (fun _ => True) (some ⟨w'.heap.size, 0, none⟩) 1 [((⟨#[65]⟩ : ByteArray), (⟨#[]⟩ : ByteArray))] (View.row (cs := fcells [((⟨#[65]⟩ : ByteArray), (⟨#[]⟩ : ByteArray))]) (Row.new w' _ _) (n := 2) (by decide) trivial))
  rw [fieldsN] at HFN
  simp only [List.length_cons, List.length_nil, Nat.zero_add] at HFL HFN
  have c11 : Chg none_ w11 w11 := Chg.refl _ _
  clear hc9 hcell HSM HCA HT HT1 HT6 HT9 HD1 HD4 HD6 h1s4 h1s6 HC1 HC3 HC4 HC5 HC6 HC7 HC8 HC9 HC2 HR1 HR5
  go_wp2_with (first | ((with_reducible show wpList _ _ _ (⟨_, .load 26 (.tmp 1), _, _, _, _⟩ :: _) _ _); first | refine wpList_load_Row rfl rfl rfl (HRT1.out _ c12) Tryd.underlying26 rfl sizeH ?_ | refine wpList_load_Row rfl rfl rfl (HRT1.out _ c11) Tryd.underlying26 rfl sizeH ?_) | ((with_reducible show wpList _ _ _ (⟨_, .load 26 (.tmp 2), _, _, _, _⟩ :: _) _ _); refine wpList_load_Row rfl rfl rfl (HRT2.out _ c11) Tryd.underlying26 rfl sizeH ?_) | (go_at_call 17; refine HSS.out.mono ?_; rintro e w12 ⟨rfl, c12⟩; have hcell := HCL.out _ c12) | (go_at_call 12; refine (HRR.out _ c12).mono ?_; rintro e w13 ⟨rfl, d13⟩; have c13 := c12.trans d13) | (go_at_call 22; first | ((with_reducible refine (HFL.out _ c13).mono ?_); rintro e w14 ⟨rfl, d14⟩; have c14 := c13.trans d14) | ((with_reducible refine (HFN.out _).mono ?_); rintro e w15 ⟨rfl, d15⟩)))
  go_ret
  exact ⟨rfl, (HCW.out.trans c14).trans (((Chg.refl none_ w14).alloc _).trans d15)⟩
end Go.Proofs.YtcdnjeojgjakdaaDoor
