/- for every input the call returns true, and each argument reads behind the call as it did.
   The row of FramesPut, out of its walk, and its tied card (the listed variables start as the program's text lays them). -/
import Derived.ProofKit
import Derived.LaidMore
import Derived.Stop.Joined
import Derived.Stop.LaidErr
import Derived.Lib.LaidTab
import Derived.OpenShut
import Derived.ChangeOld
import Derived.Below
import Derived.SevenTiedAt
import Derived.Test.YtlcffjmbfpdlbaaDoorV3RDoc
import Derived.Test.YtlcffjmbfpdlbaaDoorV3RPutAll
import Derived.Test.YtlcffjmbfpdlbaaDoorV3Open
import Derived.Test.YtlcffjmbfpdlbaaDoorV3Alive
import Derived.Test.YtlcffjmbfpdlbaaDoorV3PutM
import Derived.Test.YtlcffjmbfpdlbaaDoorRows
import Derived.Test.YtlcffjmbfpdlbaaDoorV1Wide
import Derived.Test.YtlcffjmbfpdlbaaDoorCards
import Derived.Test.YtlcffjmbfpdlbaaDoorTie

namespace Go.Proofs.YtlcffjmbfpdlbaaDoor
open Go.RowKit

set_option maxRecDepth 100000 in
set_option maxHeartbeats 8000000 in
theorem rput_8_f1_z1 (f : Fr) (sd sr : Value) (T : Nat → Prop) (w : World) (hd : FrD w T f sd sr) (of : f.Ok) (hr : rightB f = true) (hk : f.kind = 8) (hf : f.flag = true) (ha : f.a = 0) :
    Calls Tryd.prog 10 #[.agg (cellsF f sd sr).toArray] w (BytesNew w (putM f)) := by
  have hput : putM f = [11] ++ encI f.id ++ encI f.data.length ++ f.data := put_8_f1_z1 hr hk hf ha
  have HTK := Lib.hid hd.tok
  have HPUT := Lib.hid hput
  generalize putM f = P at HPUT ⊢
  obtain ⟨i0, hi, hz0, hz1, hz2⟩ := info_parts info5
  have HRR : Hid (∀ w', Chg none_ w w' → Calls Tryd.prog 7 #[.agg (cellsF f sd sr).toArray] w' fun e w'' => e = .returned (.bool true) ∧ Chg none_ w' w'') := Lib.hid (fun w' hc => by have := rright_any f sd sr T w' (hd.chg hc (fun _ _ h => h)) of; rwa [hr] at this)
  have HWH : Hid (∀ w, Calls Tryd.prog 17 #[.int .i64 8] w fun e w' => e = .returned (.string ⟨#[105, 97, 102, 100]⟩) ∧ w' = w) := Lib.hid (fun w => what_any 8 w)
  have HSZ : Hid ((Tryd.prog.info? 27).map (·.size) = some (cellsF f sd sr).length) := Lib.hid (by rw [cF_len _ _ _ hd.tok]; exact size27)
  obtain ⟨A, c, hsd, hdl, hvd⟩ := hd.data
  have HSD := Lib.hid hsd
  have HVD : Hid (∀ w', Chg none_ w w' → View w' (fun _ => True) A f.data.length (u8s f.data)) := Lib.hid (fun w' hc => (hvd.chg hc (fun _ _ h => h)).mono (fun _ _ _ => trivial))
  have HPS := Lib.hid (rput_new f.data.length (by omega))
  have HPi := Lib.hid (rput_new f.id (right_small of hr).1)
  have HPa := Lib.hid (rput_new f.a (right_small of hr).2.1)
  have HPc := Lib.hid (rput_new f.code (right_small of hr).2.2)
  have HK := Lib.hid hk
  have HFL := Lib.hid hf
  have l1 := encI_len f.id
  have l2 := encI_len f.a
  have l3 := encI_len f.code
  have l4 := encI_len f.data.length
  have ha0 : ((f.a : Int) == 0) = true := by rw [beq_iff_eq]; omega
  have ha1 : ¬ (0 : Int) < (f.a : Int) := by omega
  clear hd of hr hk hf hsd hvd hput ha
  go_enter Tryd.func10, Tryd.ntmps10
  go_wp2_with (first | ((with_reducible show wpList _ _ _ (⟨some 1, .box _ _, _, _, _, _⟩ :: _) _ _); refine wpList_box_Row rfl rfl (cellsF f sd sr) rfl ?_; intro w1 hr1 hc1 hs1; have HRX := Lib.hid (show ∀ x, Chg none_ w1 x → Row x w.heap.size 27 (cellsF f sd sr) from fun x hx => hr1.chg hx (fun h => h)); have HC1 := Lib.hid hc1; clear hr1 hc1 hs1) | ((with_reducible show wpList _ _ _ (⟨some 10, .load _ _, _, _, _, _⟩ :: _) _ _); refine wpList_load_Row (cs := cellsF f sd sr) rfl rfl rfl (HRX.out _ (Chg.refl _ _)) Tryd.underlying27 rfl HSZ.out ?_) | (go_at_call 7; refine (HRR.out _ HC1.out).mono ?_; rintro e w2 ⟨rfl, hc⟩; have k2 := HRX.out _ (hc); have hlt := k2.lt; have q0 := k2.cell 0; rw [cF_0] at q0; have q1 := k2.cell 1; rw [cF_1] at q1; have q2 := k2.cell 2; rw [cF_2] at q2; have q4 := k2.cell 4; rw [cF_4] at q4; have q5 := k2.cell 5; rw [cF_5] at q5; have q6 := k2.cell 6; rw [cF_6] at q6; rw [HK.out] at q0; rw [HFL.out] at q5; rw [HSD.out] at q6; clear k2; have HC2 := Lib.hid hc; clear hc) | (go_at_call 17; refine (HWH.out _).mono ?_; rintro e wW ⟨rfl, rfl⟩) | ((with_reducible show Calls _ _ #[.int .u64 (f.data.length : Int)] _ _); refine (HPS.out _).mono ?_; rintro e w3 ⟨g3, rfl, hr3, hg3, hc3⟩; have hx3 := ((HC2.out.alloc _).trans hc3 : Chg none_ w1 w3); have k3 := HRX.out _ (hx3); have hlt := k3.lt; have q0 := k3.cell 0; rw [cF_0] at q0; have q1 := k3.cell 1; rw [cF_1] at q1; have q2 := k3.cell 2; rw [cF_2] at q2; have q4 := k3.cell 4; rw [cF_4] at q4; have q5 := k3.cell 5; rw [cF_5] at q5; have q6 := k3.cell 6; rw [cF_6] at q6; rw [HK.out] at q0; rw [HFL.out] at q5; rw [HSD.out] at q6; clear k3; have HC3 := Lib.hid hx3; have HR3 := Lib.hid hr3; have HN3 := Lib.hid (own_ne1 (w := w2) hg3); have HO3 := Lib.hid (ownsRow_chg (own_of_row (base := w1.heap.size) (n := 1) (Row.new w2 5 (u8s [11])) HC2.out.size rfl (by decide)) hc3); clear hx3 hr3 hg3 hc3))
  have ix0 : ((({ data := #[105, 97, 102, 100] } : ByteArray)[0]).toNat : Int) = 105 := rfl
  have ix1 : ((({ data := #[105, 97, 102, 100] } : ByteArray)[1]).toNat : Int) = 97 := rfl
  have ix2 : ((({ data := #[105, 97, 102, 100] } : ByteArray)[2]).toNat : Int) = 102 := rfl
  have ix3 : ((({ data := #[105, 97, 102, 100] } : ByteArray)[3]).toNat : Int) = 100 := rfl
  refine wp_loop_rounds 5 ?_
  rw [rounds_succ]
  go_wp2_with (first | (at_builtin; refine wpList_append_view rfl _ _ 23 rfl 5 i0 _ 1 Tryd.underlying23 hi hz0 hz1 hz2 rfl w1.heap.size v6 ([11] ++ encI f.id ++ encI f.data.length).length (u8s ([11] ++ encI f.id ++ encI f.data.length)) rfl HO6.out (fun _ => True) A f.data.length c (u8s f.data) rfl (HVD.out _ (HC1.out.trans HC6.out)) (u8s_one _) (by simp only [List.length_cons, List.length_nil]; unfold maxLen; omega) (by simp only [List.length_cons, List.length_nil]; omega) HC6.out.size ?_; intro v7 w7 ho7 hg7 hob7; have hx7 := (HC6.out).append (Nat.le_refl _) HO6.out hg7; have k7 := HRX.out _ (hx7); have hlt := k7.lt; have q0 := k7.cell 0; rw [cF_0] at q0; have q1 := k7.cell 1; rw [cF_1] at q1; have q2 := k7.cell 2; rw [cF_2] at q2; have q4 := k7.cell 4; rw [cF_4] at q4; have q5 := k7.cell 5; rw [cF_5] at q5; have q6 := k7.cell 6; rw [cF_6] at q6; rw [HK.out] at q0; rw [HFL.out] at q5; rw [HSD.out] at q6; clear k7; have HC7 := Lib.hid hx7; have HR7 := Lib.hid (HR6.out.chg (Chg.of_grown hg7) (fun e => HN6.out _ e rfl)); have HN7 := Lib.hid (own_ne2 HN6.out hob7 HR6.out.lt); rw [u8s_append] at ho7; rw [← List.length_append] at ho7; have HO7 := Lib.hid ho7; clear hx7 hg7 hob7 ho7) | (at_builtin; refine wpList_append_view rfl _ _ 23 rfl 5 i0 _ 1 Tryd.underlying23 hi hz0 hz1 hz2 rfl w1.heap.size v5 ([11] ++ encI f.id).length (u8s ([11] ++ encI f.id)) rfl HO5.out (fun _ => True) (some ⟨g3, 0, none⟩) (encI f.data.length).length (encI f.data.length).length (u8s (encI f.data.length)) rfl (rowView HR5.out) (u8s_one _) (by simp only [List.length_append, List.length_cons, List.length_nil]; unfold maxLen; omega) (by simp only [List.length_append, List.length_cons, List.length_nil]; omega) HC5.out.size ?_; intro v6 w6 ho6 hg6 hob6; have hx6 := (HC5.out).append (Nat.le_refl _) HO5.out hg6; have k6 := HRX.out _ (hx6); have hlt := k6.lt; have q0 := k6.cell 0; rw [cF_0] at q0; have q1 := k6.cell 1; rw [cF_1] at q1; have q2 := k6.cell 2; rw [cF_2] at q2; have q4 := k6.cell 4; rw [cF_4] at q4; have q5 := k6.cell 5; rw [cF_5] at q5; have q6 := k6.cell 6; rw [cF_6] at q6; rw [HK.out] at q0; rw [HFL.out] at q5; rw [HSD.out] at q6; clear k6; have HC6 := Lib.hid hx6; have HR6 := Lib.hid (HR5.out.chg (Chg.of_grown hg6) (fun e => HN5.out _ e rfl)); have HN6 := Lib.hid (own_ne2 HN5.out hob6 HR5.out.lt); rw [u8s_append] at ho6; rw [← List.length_append] at ho6; have HO6 := Lib.hid ho6; clear hx6 hg6 hob6 ho6) | (at_builtin; refine wpList_append_view rfl _ _ 23 rfl 5 i0 _ 1 Tryd.underlying23 hi hz0 hz1 hz2 rfl w1.heap.size (.slice (some ⟨w2.heap.size, 0, none⟩) 1 1) ([11]).length (u8s ([11])) rfl HO4.out (fun _ => True) (some ⟨g4, 0, none⟩) (encI f.id).length (encI f.id).length (u8s (encI f.id)) rfl (rowView HV4.out) (u8s_one _) (by simp only [List.length_append, List.length_cons, List.length_nil]; unfold maxLen; omega) (by simp only [List.length_append, List.length_cons, List.length_nil]; omega) HC4.out.size ?_; intro v5 w5 ho5 hg5 hob5; have hx5 := (HC4.out).append (Nat.le_refl _) HO4.out hg5; have k5 := HRX.out _ (hx5); have hlt := k5.lt; have q0 := k5.cell 0; rw [cF_0] at q0; have q1 := k5.cell 1; rw [cF_1] at q1; have q2 := k5.cell 2; rw [cF_2] at q2; have q4 := k5.cell 4; rw [cF_4] at q4; have q5 := k5.cell 5; rw [cF_5] at q5; have q6 := k5.cell 6; rw [cF_6] at q6; rw [HK.out] at q0; rw [HFL.out] at q5; rw [HSD.out] at q6; clear k5; have HC5 := Lib.hid hx5; have HR5 := Lib.hid (HR4.out.chg (Chg.of_grown hg5) (fun e => HN4.out _ e rfl)); have HN5 := Lib.hid (own_ne2 HN4.out hob5 HR4.out.lt); rw [u8s_append] at ho5; rw [← List.length_append] at ho5; have HO5 := Lib.hid ho5; clear hx5 hg5 hob5 ho5) | ((with_reducible show Calls _ _ #[.int .u64 (f.id : Int)] _ _); refine (HPi.out _).mono ?_; rintro e w4 ⟨g4, rfl, hr4, hg4, hc4⟩; have hx4 := HC3.out.trans hc4; have k4 := HRX.out _ (hx4); have hlt := k4.lt; have q0 := k4.cell 0; rw [cF_0] at q0; have q1 := k4.cell 1; rw [cF_1] at q1; have q2 := k4.cell 2; rw [cF_2] at q2; have q4 := k4.cell 4; rw [cF_4] at q4; have q5 := k4.cell 5; rw [cF_5] at q5; have q6 := k4.cell 6; rw [cF_6] at q6; rw [HK.out] at q0; rw [HFL.out] at q5; rw [HSD.out] at q6; clear k4; have HC4 := Lib.hid hx4; have HV4 := Lib.hid hr4; have HO4 := Lib.hid (ownsRow_chg HO3.out hc4); have HR4 := Lib.hid (HR3.out.chg hc4 (fun h => h)); have HN4 := HN3; clear hx4 hr4 hg4 hc4))
  rw [rounds_succ]
  go_wp2_with (first | (at_builtin; refine wpList_append_view rfl _ _ 23 rfl 5 i0 _ 1 Tryd.underlying23 hi hz0 hz1 hz2 rfl w1.heap.size v6 ([11] ++ encI f.id ++ encI f.data.length).length (u8s ([11] ++ encI f.id ++ encI f.data.length)) rfl HO6.out (fun _ => True) A f.data.length c (u8s f.data) rfl (HVD.out _ (HC1.out.trans HC6.out)) (u8s_one _) (by simp only [List.length_append, List.length_cons, List.length_nil]; unfold maxLen; omega) (by simp only [List.length_append, List.length_cons, List.length_nil]; omega) HC6.out.size ?_; intro v7 w7 ho7 hg7 hob7; have hx7 := (HC6.out).append (Nat.le_refl _) HO6.out hg7; have k7 := HRX.out _ (hx7); have hlt := k7.lt; have q0 := k7.cell 0; rw [cF_0] at q0; have q1 := k7.cell 1; rw [cF_1] at q1; have q2 := k7.cell 2; rw [cF_2] at q2; have q4 := k7.cell 4; rw [cF_4] at q4; have q5 := k7.cell 5; rw [cF_5] at q5; have q6 := k7.cell 6; rw [cF_6] at q6; rw [HK.out] at q0; rw [HFL.out] at q5; rw [HSD.out] at q6; clear k7; have HC7 := Lib.hid hx7; have HR7 := Lib.hid (HR6.out.chg (Chg.of_grown hg7) (fun e => HN6.out _ e rfl)); have HN7 := Lib.hid (own_ne2 HN6.out hob7 HR6.out.lt); rw [u8s_append] at ho7; rw [← List.length_append] at ho7; have HO7 := Lib.hid ho7; clear hx7 hg7 hob7 ho7) | (at_builtin; refine wpList_append_view rfl _ _ 23 rfl 5 i0 _ 1 Tryd.underlying23 hi hz0 hz1 hz2 rfl w1.heap.size v5 ([11] ++ encI f.id).length (u8s ([11] ++ encI f.id)) rfl HO5.out (fun _ => True) (some ⟨g3, 0, none⟩) (encI f.data.length).length (encI f.data.length).length (u8s (encI f.data.length)) rfl (rowView HR5.out) (u8s_one _) (by simp only [List.length_append, List.length_cons, List.length_nil]; unfold maxLen; omega) (by simp only [List.length_append, List.length_cons, List.length_nil]; omega) HC5.out.size ?_; intro v6 w6 ho6 hg6 hob6; have hx6 := (HC5.out).append (Nat.le_refl _) HO5.out hg6; have k6 := HRX.out _ (hx6); have hlt := k6.lt; have q0 := k6.cell 0; rw [cF_0] at q0; have q1 := k6.cell 1; rw [cF_1] at q1; have q2 := k6.cell 2; rw [cF_2] at q2; have q4 := k6.cell 4; rw [cF_4] at q4; have q5 := k6.cell 5; rw [cF_5] at q5; have q6 := k6.cell 6; rw [cF_6] at q6; rw [HK.out] at q0; rw [HFL.out] at q5; rw [HSD.out] at q6; clear k6; have HC6 := Lib.hid hx6; have HR6 := Lib.hid (HR5.out.chg (Chg.of_grown hg6) (fun e => HN5.out _ e rfl)); have HN6 := Lib.hid (own_ne2 HN5.out hob6 HR5.out.lt); rw [u8s_append] at ho6; rw [← List.length_append] at ho6; have HO6 := Lib.hid ho6; clear hx6 hg6 hob6 ho6) | (at_builtin; refine wpList_append_view rfl _ _ 23 rfl 5 i0 _ 1 Tryd.underlying23 hi hz0 hz1 hz2 rfl w1.heap.size (.slice (some ⟨w2.heap.size, 0, none⟩) 1 1) ([11]).length (u8s ([11])) rfl HO4.out (fun _ => True) (some ⟨g4, 0, none⟩) (encI f.id).length (encI f.id).length (u8s (encI f.id)) rfl (rowView HV4.out) (u8s_one _) (by simp only [List.length_append, List.length_cons, List.length_nil]; unfold maxLen; omega) (by simp only [List.length_append, List.length_cons, List.length_nil]; omega) HC4.out.size ?_; intro v5 w5 ho5 hg5 hob5; have hx5 := (HC4.out).append (Nat.le_refl _) HO4.out hg5; have k5 := HRX.out _ (hx5); have hlt := k5.lt; have q0 := k5.cell 0; rw [cF_0] at q0; have q1 := k5.cell 1; rw [cF_1] at q1; have q2 := k5.cell 2; rw [cF_2] at q2; have q4 := k5.cell 4; rw [cF_4] at q4; have q5 := k5.cell 5; rw [cF_5] at q5; have q6 := k5.cell 6; rw [cF_6] at q6; rw [HK.out] at q0; rw [HFL.out] at q5; rw [HSD.out] at q6; clear k5; have HC5 := Lib.hid hx5; have HR5 := Lib.hid (HR4.out.chg (Chg.of_grown hg5) (fun e => HN4.out _ e rfl)); have HN5 := Lib.hid (own_ne2 HN4.out hob5 HR4.out.lt); rw [u8s_append] at ho5; rw [← List.length_append] at ho5; have HO5 := Lib.hid ho5; clear hx5 hg5 hob5 ho5) | ((with_reducible show Calls _ _ #[.int .u64 (f.id : Int)] _ _); refine (HPi.out _).mono ?_; rintro e w4 ⟨g4, rfl, hr4, hg4, hc4⟩; have hx4 := HC3.out.trans hc4; have k4 := HRX.out _ (hx4); have hlt := k4.lt; have q0 := k4.cell 0; rw [cF_0] at q0; have q1 := k4.cell 1; rw [cF_1] at q1; have q2 := k4.cell 2; rw [cF_2] at q2; have q4 := k4.cell 4; rw [cF_4] at q4; have q5 := k4.cell 5; rw [cF_5] at q5; have q6 := k4.cell 6; rw [cF_6] at q6; rw [HK.out] at q0; rw [HFL.out] at q5; rw [HSD.out] at q6; clear k4; have HC4 := Lib.hid hx4; have HV4 := Lib.hid hr4; have HO4 := Lib.hid (ownsRow_chg HO3.out hc4); have HR4 := Lib.hid (HR3.out.chg hc4 (fun h => h)); have HN4 := HN3; clear hx4 hr4 hg4 hc4))
  rw [rounds_succ]
  go_wp2_with (first | (at_builtin; refine wpList_append_view rfl _ _ 23 rfl 5 i0 _ 1 Tryd.underlying23 hi hz0 hz1 hz2 rfl w1.heap.size v6 ([11] ++ encI f.id ++ encI f.data.length).length (u8s ([11] ++ encI f.id ++ encI f.data.length)) rfl HO6.out (fun _ => True) A f.data.length c (u8s f.data) rfl (HVD.out _ (HC1.out.trans HC6.out)) (u8s_one _) (by simp only [List.length_append, List.length_cons, List.length_nil]; unfold maxLen; omega) (by simp only [List.length_append, List.length_cons, List.length_nil]; omega) HC6.out.size ?_; intro v7 w7 ho7 hg7 hob7; have hx7 := (HC6.out).append (Nat.le_refl _) HO6.out hg7; have k7 := HRX.out _ (hx7); have hlt := k7.lt; have q0 := k7.cell 0; rw [cF_0] at q0; have q1 := k7.cell 1; rw [cF_1] at q1; have q2 := k7.cell 2; rw [cF_2] at q2; have q4 := k7.cell 4; rw [cF_4] at q4; have q5 := k7.cell 5; rw [cF_5] at q5; have q6 := k7.cell 6; rw [cF_6] at q6; rw [HK.out] at q0; rw [HFL.out] at q5; rw [HSD.out] at q6; clear k7; have HC7 := Lib.hid hx7; have HR7 := Lib.hid (HR6.out.chg (Chg.of_grown hg7) (fun e => HN6.out _ e rfl)); have HN7 := Lib.hid (own_ne2 HN6.out hob7 HR6.out.lt); rw [u8s_append] at ho7; rw [← List.length_append] at ho7; have HO7 := Lib.hid ho7; clear hx7 hg7 hob7 ho7) | (at_builtin; refine wpList_append_view rfl _ _ 23 rfl 5 i0 _ 1 Tryd.underlying23 hi hz0 hz1 hz2 rfl w1.heap.size v5 ([11] ++ encI f.id).length (u8s ([11] ++ encI f.id)) rfl HO5.out (fun _ => True) (some ⟨g3, 0, none⟩) (encI f.data.length).length (encI f.data.length).length (u8s (encI f.data.length)) rfl (rowView HR5.out) (u8s_one _) (by simp only [List.length_append, List.length_cons, List.length_nil]; unfold maxLen; omega) (by simp only [List.length_append, List.length_cons, List.length_nil]; omega) HC5.out.size ?_; intro v6 w6 ho6 hg6 hob6; have hx6 := (HC5.out).append (Nat.le_refl _) HO5.out hg6; have k6 := HRX.out _ (hx6); have hlt := k6.lt; have q0 := k6.cell 0; rw [cF_0] at q0; have q1 := k6.cell 1; rw [cF_1] at q1; have q2 := k6.cell 2; rw [cF_2] at q2; have q4 := k6.cell 4; rw [cF_4] at q4; have q5 := k6.cell 5; rw [cF_5] at q5; have q6 := k6.cell 6; rw [cF_6] at q6; rw [HK.out] at q0; rw [HFL.out] at q5; rw [HSD.out] at q6; clear k6; have HC6 := Lib.hid hx6; have HR6 := Lib.hid (HR5.out.chg (Chg.of_grown hg6) (fun e => HN5.out _ e rfl)); have HN6 := Lib.hid (own_ne2 HN5.out hob6 HR5.out.lt); rw [u8s_append] at ho6; rw [← List.length_append] at ho6; have HO6 := Lib.hid ho6; clear hx6 hg6 hob6 ho6) | (at_builtin; refine wpList_append_view rfl _ _ 23 rfl 5 i0 _ 1 Tryd.underlying23 hi hz0 hz1 hz2 rfl w1.heap.size (.slice (some ⟨w2.heap.size, 0, none⟩) 1 1) ([11]).length (u8s ([11])) rfl HO4.out (fun _ => True) (some ⟨g4, 0, none⟩) (encI f.id).length (encI f.id).length (u8s (encI f.id)) rfl (rowView HV4.out) (u8s_one _) (by simp only [List.length_append, List.length_cons, List.length_nil]; unfold maxLen; omega) (by simp only [List.length_append, List.length_cons, List.length_nil]; omega) HC4.out.size ?_; intro v5 w5 ho5 hg5 hob5; have hx5 := (HC4.out).append (Nat.le_refl _) HO4.out hg5; have k5 := HRX.out _ (hx5); have hlt := k5.lt; have q0 := k5.cell 0; rw [cF_0] at q0; have q1 := k5.cell 1; rw [cF_1] at q1; have q2 := k5.cell 2; rw [cF_2] at q2; have q4 := k5.cell 4; rw [cF_4] at q4; have q5 := k5.cell 5; rw [cF_5] at q5; have q6 := k5.cell 6; rw [cF_6] at q6; rw [HK.out] at q0; rw [HFL.out] at q5; rw [HSD.out] at q6; clear k5; have HC5 := Lib.hid hx5; have HR5 := Lib.hid (HR4.out.chg (Chg.of_grown hg5) (fun e => HN4.out _ e rfl)); have HN5 := Lib.hid (own_ne2 HN4.out hob5 HR4.out.lt); rw [u8s_append] at ho5; rw [← List.length_append] at ho5; have HO5 := Lib.hid ho5; clear hx5 hg5 hob5 ho5) | ((with_reducible show Calls _ _ #[.int .u64 (f.id : Int)] _ _); refine (HPi.out _).mono ?_; rintro e w4 ⟨g4, rfl, hr4, hg4, hc4⟩; have hx4 := HC3.out.trans hc4; have k4 := HRX.out _ (hx4); have hlt := k4.lt; have q0 := k4.cell 0; rw [cF_0] at q0; have q1 := k4.cell 1; rw [cF_1] at q1; have q2 := k4.cell 2; rw [cF_2] at q2; have q4 := k4.cell 4; rw [cF_4] at q4; have q5 := k4.cell 5; rw [cF_5] at q5; have q6 := k4.cell 6; rw [cF_6] at q6; rw [HK.out] at q0; rw [HFL.out] at q5; rw [HSD.out] at q6; clear k4; have HC4 := Lib.hid hx4; have HV4 := Lib.hid hr4; have HO4 := Lib.hid (ownsRow_chg HO3.out hc4); have HR4 := Lib.hid (HR3.out.chg hc4 (fun h => h)); have HN4 := HN3; clear hx4 hr4 hg4 hc4))
  rw [rounds_succ]
  go_wp2_with (first | (at_builtin; refine wpList_append_view rfl _ _ 23 rfl 5 i0 _ 1 Tryd.underlying23 hi hz0 hz1 hz2 rfl w1.heap.size v6 ([11] ++ encI f.id ++ encI f.data.length).length (u8s ([11] ++ encI f.id ++ encI f.data.length)) rfl HO6.out (fun _ => True) A f.data.length c (u8s f.data) rfl (HVD.out _ (HC1.out.trans HC6.out)) (u8s_one _) (by simp only [List.length_append, List.length_cons, List.length_nil]; unfold maxLen; omega) (by simp only [List.length_append, List.length_cons, List.length_nil]; omega) HC6.out.size ?_; intro v7 w7 ho7 hg7 hob7; have hx7 := (HC6.out).append (Nat.le_refl _) HO6.out hg7; have k7 := HRX.out _ (hx7); have hlt := k7.lt; have q0 := k7.cell 0; rw [cF_0] at q0; have q1 := k7.cell 1; rw [cF_1] at q1; have q2 := k7.cell 2; rw [cF_2] at q2; have q4 := k7.cell 4; rw [cF_4] at q4; have q5 := k7.cell 5; rw [cF_5] at q5; have q6 := k7.cell 6; rw [cF_6] at q6; rw [HK.out] at q0; rw [HFL.out] at q5; rw [HSD.out] at q6; clear k7; have HC7 := Lib.hid hx7; have HR7 := Lib.hid (HR6.out.chg (Chg.of_grown hg7) (fun e => HN6.out _ e rfl)); have HN7 := Lib.hid (own_ne2 HN6.out hob7 HR6.out.lt); rw [u8s_append] at ho7; rw [← List.length_append] at ho7; have HO7 := Lib.hid ho7; clear hx7 hg7 hob7 ho7) | (at_builtin; refine wpList_append_view rfl _ _ 23 rfl 5 i0 _ 1 Tryd.underlying23 hi hz0 hz1 hz2 rfl w1.heap.size v5 ([11] ++ encI f.id).length (u8s ([11] ++ encI f.id)) rfl HO5.out (fun _ => True) (some ⟨g3, 0, none⟩) (encI f.data.length).length (encI f.data.length).length (u8s (encI f.data.length)) rfl (rowView HR5.out) (u8s_one _) (by simp only [List.length_append, List.length_cons, List.length_nil]; unfold maxLen; omega) (by simp only [List.length_append, List.length_cons, List.length_nil]; omega) HC5.out.size ?_; intro v6 w6 ho6 hg6 hob6; have hx6 := (HC5.out).append (Nat.le_refl _) HO5.out hg6; have k6 := HRX.out _ (hx6); have hlt := k6.lt; have q0 := k6.cell 0; rw [cF_0] at q0; have q1 := k6.cell 1; rw [cF_1] at q1; have q2 := k6.cell 2; rw [cF_2] at q2; have q4 := k6.cell 4; rw [cF_4] at q4; have q5 := k6.cell 5; rw [cF_5] at q5; have q6 := k6.cell 6; rw [cF_6] at q6; rw [HK.out] at q0; rw [HFL.out] at q5; rw [HSD.out] at q6; clear k6; have HC6 := Lib.hid hx6; have HR6 := Lib.hid (HR5.out.chg (Chg.of_grown hg6) (fun e => HN5.out _ e rfl)); have HN6 := Lib.hid (own_ne2 HN5.out hob6 HR5.out.lt); rw [u8s_append] at ho6; rw [← List.length_append] at ho6; have HO6 := Lib.hid ho6; clear hx6 hg6 hob6 ho6) | (at_builtin; refine wpList_append_view rfl _ _ 23 rfl 5 i0 _ 1 Tryd.underlying23 hi hz0 hz1 hz2 rfl w1.heap.size (.slice (some ⟨w2.heap.size, 0, none⟩) 1 1) ([11]).length (u8s ([11])) rfl HO4.out (fun _ => True) (some ⟨g4, 0, none⟩) (encI f.id).length (encI f.id).length (u8s (encI f.id)) rfl (rowView HV4.out) (u8s_one _) (by simp only [List.length_append, List.length_cons, List.length_nil]; unfold maxLen; omega) (by simp only [List.length_append, List.length_cons, List.length_nil]; omega) HC4.out.size ?_; intro v5 w5 ho5 hg5 hob5; have hx5 := (HC4.out).append (Nat.le_refl _) HO4.out hg5; have k5 := HRX.out _ (hx5); have hlt := k5.lt; have q0 := k5.cell 0; rw [cF_0] at q0; have q1 := k5.cell 1; rw [cF_1] at q1; have q2 := k5.cell 2; rw [cF_2] at q2; have q4 := k5.cell 4; rw [cF_4] at q4; have q5 := k5.cell 5; rw [cF_5] at q5; have q6 := k5.cell 6; rw [cF_6] at q6; rw [HK.out] at q0; rw [HFL.out] at q5; rw [HSD.out] at q6; clear k5; have HC5 := Lib.hid hx5; have HR5 := Lib.hid (HR4.out.chg (Chg.of_grown hg5) (fun e => HN4.out _ e rfl)); have HN5 := Lib.hid (own_ne2 HN4.out hob5 HR4.out.lt); rw [u8s_append] at ho5; rw [← List.length_append] at ho5; have HO5 := Lib.hid ho5; clear hx5 hg5 hob5 ho5) | ((with_reducible show Calls _ _ #[.int .u64 (f.id : Int)] _ _); refine (HPi.out _).mono ?_; rintro e w4 ⟨g4, rfl, hr4, hg4, hc4⟩; have hx4 := HC3.out.trans hc4; have k4 := HRX.out _ (hx4); have hlt := k4.lt; have q0 := k4.cell 0; rw [cF_0] at q0; have q1 := k4.cell 1; rw [cF_1] at q1; have q2 := k4.cell 2; rw [cF_2] at q2; have q4 := k4.cell 4; rw [cF_4] at q4; have q5 := k4.cell 5; rw [cF_5] at q5; have q6 := k4.cell 6; rw [cF_6] at q6; rw [HK.out] at q0; rw [HFL.out] at q5; rw [HSD.out] at q6; clear k4; have HC4 := Lib.hid hx4; have HV4 := Lib.hid hr4; have HO4 := Lib.hid (ownsRow_chg HO3.out hc4); have HR4 := Lib.hid (HR3.out.chg hc4 (fun h => h)); have HN4 := HN3; clear hx4 hr4 hg4 hc4))
  rw [rounds_succ]
  go_wp2
  go_ret
  obtain ⟨Ar, cr, rfl, _, _, hvw⟩ := View.own (T := fun b => w.heap.size ≤ b) HO7.out (fun b hb => Nat.le_trans HC1.out.size hb)
  have hP := HPUT.out
  subst hP
  exact ⟨Ar, cr, rfl, hvw, HC1.out.trans HC7.out⟩

set_option maxRecDepth 100000 in
set_option maxHeartbeats 8000000 in
theorem rput_17 (f : Fr) (sd sr : Value) (T : Nat → Prop) (w : World) (hd : FrD w T f sd sr) (of : f.Ok) (hr : rightB f = true) (hk : f.kind = 17) (hf : f.flag = false) :
    Calls Tryd.prog 10 #[.agg (cellsF f sd sr).toArray] w (BytesNew w (putM f)) := by
  have hput : putM f = [17] ++ encI f.id ++ encI f.a := put_17 hr hk hf
  have HTK := Lib.hid hd.tok
  have HPUT := Lib.hid hput
  generalize putM f = P at HPUT ⊢
  obtain ⟨i0, hi, hz0, hz1, hz2⟩ := info_parts info5
  have HRR : Hid (∀ w', Chg none_ w w' → Calls Tryd.prog 7 #[.agg (cellsF f sd sr).toArray] w' fun e w'' => e = .returned (.bool true) ∧ Chg none_ w' w'') := Lib.hid (fun w' hc => by have := rright_any f sd sr T w' (hd.chg hc (fun _ _ h => h)) of; rwa [hr] at this)
  have HWH : Hid (∀ w, Calls Tryd.prog 17 #[.int .i64 17] w fun e w' => e = .returned (.string ⟨#[105, 97]⟩) ∧ w' = w) := Lib.hid (fun w => what_any 17 w)
  have HSZ : Hid ((Tryd.prog.info? 27).map (·.size) = some (cellsF f sd sr).length) := Lib.hid (by rw [cF_len _ _ _ hd.tok]; exact size27)
  obtain ⟨A, c, hsd, hdl, hvd⟩ := hd.data
  have HSD := Lib.hid hsd
  have HVD : Hid (∀ w', Chg none_ w w' → View w' (fun _ => True) A f.data.length (u8s f.data)) := Lib.hid (fun w' hc => (hvd.chg hc (fun _ _ h => h)).mono (fun _ _ _ => trivial))
  have HPS := Lib.hid (rput_new f.data.length (by omega))
  have HPi := Lib.hid (rput_new f.id (right_small of hr).1)
  have HPa := Lib.hid (rput_new f.a (right_small of hr).2.1)
  have HPc := Lib.hid (rput_new f.code (right_small of hr).2.2)
  have HK := Lib.hid hk
  have HFL := Lib.hid hf
  have l1 := encI_len f.id
  have l2 := encI_len f.a
  have l3 := encI_len f.code
  have l4 := encI_len f.data.length
  clear hd of hr hk hf hsd hvd hput
  go_enter Tryd.func10, Tryd.ntmps10
  go_wp2_with (first | ((with_reducible show wpList _ _ _ (⟨some 1, .box _ _, _, _, _, _⟩ :: _) _ _); refine wpList_box_Row rfl rfl (cellsF f sd sr) rfl ?_; intro w1 hr1 hc1 hs1; have HRX := Lib.hid (show ∀ x, Chg none_ w1 x → Row x w.heap.size 27 (cellsF f sd sr) from fun x hx => hr1.chg hx (fun h => h)); have HC1 := Lib.hid hc1; clear hr1 hc1 hs1) | ((with_reducible show wpList _ _ _ (⟨some 10, .load _ _, _, _, _, _⟩ :: _) _ _); refine wpList_load_Row (cs := cellsF f sd sr) rfl rfl rfl (HRX.out _ (Chg.refl _ _)) Tryd.underlying27 rfl HSZ.out ?_) | (go_at_call 7; refine (HRR.out _ HC1.out).mono ?_; rintro e w2 ⟨rfl, hc⟩; have k2 := HRX.out _ (hc); have hlt := k2.lt; have q0 := k2.cell 0; rw [cF_0] at q0; have q1 := k2.cell 1; rw [cF_1] at q1; have q2 := k2.cell 2; rw [cF_2] at q2; have q4 := k2.cell 4; rw [cF_4] at q4; have q5 := k2.cell 5; rw [cF_5] at q5; have q6 := k2.cell 6; rw [cF_6] at q6; rw [HK.out] at q0; rw [HFL.out] at q5; rw [HSD.out] at q6; clear k2; have HC2 := Lib.hid hc; clear hc) | (go_at_call 17; refine (HWH.out _).mono ?_; rintro e wW ⟨rfl, rfl⟩) | ((with_reducible show Calls _ _ #[.int .u64 (f.data.length : Int)] _ _); refine (HPS.out _).mono ?_; rintro e w3 ⟨g3, rfl, hr3, hg3, hc3⟩; have hx3 := ((HC2.out.alloc _).trans hc3 : Chg none_ w1 w3); have k3 := HRX.out _ (hx3); have hlt := k3.lt; have q0 := k3.cell 0; rw [cF_0] at q0; have q1 := k3.cell 1; rw [cF_1] at q1; have q2 := k3.cell 2; rw [cF_2] at q2; have q4 := k3.cell 4; rw [cF_4] at q4; have q5 := k3.cell 5; rw [cF_5] at q5; have q6 := k3.cell 6; rw [cF_6] at q6; rw [HK.out] at q0; rw [HFL.out] at q5; rw [HSD.out] at q6; clear k3; have HC3 := Lib.hid hx3; have HR3 := Lib.hid hr3; have HN3 := Lib.hid (own_ne1 (w := w2) hg3); have HO3 := Lib.hid (ownsRow_chg (own_of_row (base := w1.heap.size) (n := 1) (Row.new w2 5 (u8s [17])) HC2.out.size rfl (by decide)) hc3); clear hx3 hr3 hg3 hc3))
  have ix0 : ((({ data := #[105, 97] } : ByteArray)[0]).toNat : Int) = 105 := rfl
  have ix1 : ((({ data := #[105, 97] } : ByteArray)[1]).toNat : Int) = 97 := rfl
  refine wp_loop_rounds 3 ?_
  rw [rounds_succ]
  go_wp2_with (first | (at_builtin; refine wpList_append_view rfl _ _ 23 rfl 5 i0 _ 1 Tryd.underlying23 hi hz0 hz1 hz2 rfl w1.heap.size v5 ([17] ++ encI f.id).length (u8s ([17] ++ encI f.id)) rfl HO6.out (fun _ => True) (some ⟨g6, 0, none⟩) (encI f.a).length (encI f.a).length (u8s (encI f.a)) rfl (rowView HV6.out) (u8s_one _) (by simp only [List.length_cons, List.length_nil]; unfold maxLen; omega) (by simp only [List.length_cons, List.length_nil]; omega) HC6.out.size ?_; intro v7 w7 ho7 hg7 hob7; have hx7 := (HC6.out).append (Nat.le_refl _) HO6.out hg7; have k7 := HRX.out _ (hx7); have hlt := k7.lt; have q0 := k7.cell 0; rw [cF_0] at q0; have q1 := k7.cell 1; rw [cF_1] at q1; have q2 := k7.cell 2; rw [cF_2] at q2; have q4 := k7.cell 4; rw [cF_4] at q4; have q5 := k7.cell 5; rw [cF_5] at q5; have q6 := k7.cell 6; rw [cF_6] at q6; rw [HK.out] at q0; rw [HFL.out] at q5; rw [HSD.out] at q6; clear k7; have HC7 := Lib.hid hx7; have HR7 := Lib.hid (HR6.out.chg (Chg.of_grown hg7) (fun e => HN6.out _ e rfl)); have HN7 := Lib.hid (own_ne2 HN6.out hob7 HR6.out.lt); rw [u8s_append] at ho7; rw [← List.length_append] at ho7; have HO7 := Lib.hid ho7; clear hx7 hg7 hob7 ho7) | ((with_reducible show Calls _ _ #[.int .u64 (f.a : Int)] _ _); refine (HPa.out _).mono ?_; rintro e w6 ⟨g6, rfl, hr6, hg6, hc6⟩; have hx6 := HC5.out.trans hc6; have k6 := HRX.out _ (hx6); have hlt := k6.lt; have q0 := k6.cell 0; rw [cF_0] at q0; have q1 := k6.cell 1; rw [cF_1] at q1; have q2 := k6.cell 2; rw [cF_2] at q2; have q4 := k6.cell 4; rw [cF_4] at q4; have q5 := k6.cell 5; rw [cF_5] at q5; have q6 := k6.cell 6; rw [cF_6] at q6; rw [HK.out] at q0; rw [HFL.out] at q5; rw [HSD.out] at q6; clear k6; have HC6 := Lib.hid hx6; have HV6 := Lib.hid hr6; have HO6 := Lib.hid (ownsRow_chg HO5.out hc6); have HR6 := Lib.hid (HR5.out.chg hc6 (fun h => h)); have HN6 := HN5; clear hx6 hr6 hg6 hc6) | (at_builtin; refine wpList_append_view rfl _ _ 23 rfl 5 i0 _ 1 Tryd.underlying23 hi hz0 hz1 hz2 rfl w1.heap.size (.slice (some ⟨w2.heap.size, 0, none⟩) 1 1) ([17]).length (u8s ([17])) rfl HO4.out (fun _ => True) (some ⟨g4, 0, none⟩) (encI f.id).length (encI f.id).length (u8s (encI f.id)) rfl (rowView HV4.out) (u8s_one _) (by simp only [List.length_append, List.length_cons, List.length_nil]; unfold maxLen; omega) (by simp only [List.length_append, List.length_cons, List.length_nil]; omega) HC4.out.size ?_; intro v5 w5 ho5 hg5 hob5; have hx5 := (HC4.out).append (Nat.le_refl _) HO4.out hg5; have k5 := HRX.out _ (hx5); have hlt := k5.lt; have q0 := k5.cell 0; rw [cF_0] at q0; have q1 := k5.cell 1; rw [cF_1] at q1; have q2 := k5.cell 2; rw [cF_2] at q2; have q4 := k5.cell 4; rw [cF_4] at q4; have q5 := k5.cell 5; rw [cF_5] at q5; have q6 := k5.cell 6; rw [cF_6] at q6; rw [HK.out] at q0; rw [HFL.out] at q5; rw [HSD.out] at q6; clear k5; have HC5 := Lib.hid hx5; have HR5 := Lib.hid (HR4.out.chg (Chg.of_grown hg5) (fun e => HN4.out _ e rfl)); have HN5 := Lib.hid (own_ne2 HN4.out hob5 HR4.out.lt); rw [u8s_append] at ho5; rw [← List.length_append] at ho5; have HO5 := Lib.hid ho5; clear hx5 hg5 hob5 ho5) | ((with_reducible show Calls _ _ #[.int .u64 (f.id : Int)] _ _); refine (HPi.out _).mono ?_; rintro e w4 ⟨g4, rfl, hr4, hg4, hc4⟩; have hx4 := HC3.out.trans hc4; have k4 := HRX.out _ (hx4); have hlt := k4.lt; have q0 := k4.cell 0; rw [cF_0] at q0; have q1 := k4.cell 1; rw [cF_1] at q1; have q2 := k4.cell 2; rw [cF_2] at q2; have q4 := k4.cell 4; rw [cF_4] at q4; have q5 := k4.cell 5; rw [cF_5] at q5; have q6 := k4.cell 6; rw [cF_6] at q6; rw [HK.out] at q0; rw [HFL.out] at q5; rw [HSD.out] at q6; clear k4; have HC4 := Lib.hid hx4; have HV4 := Lib.hid hr4; have HO4 := Lib.hid (ownsRow_chg HO3.out hc4); have HR4 := Lib.hid (HR3.out.chg hc4 (fun h => h)); have HN4 := HN3; clear hx4 hr4 hg4 hc4))
  rw [rounds_succ]
  go_wp2_with (first | (at_builtin; refine wpList_append_view rfl _ _ 23 rfl 5 i0 _ 1 Tryd.underlying23 hi hz0 hz1 hz2 rfl w1.heap.size v5 ([17] ++ encI f.id).length (u8s ([17] ++ encI f.id)) rfl HO6.out (fun _ => True) (some ⟨g6, 0, none⟩) (encI f.a).length (encI f.a).length (u8s (encI f.a)) rfl (rowView HV6.out) (u8s_one _) (by simp only [List.length_append, List.length_cons, List.length_nil]; unfold maxLen; omega) (by simp only [List.length_append, List.length_cons, List.length_nil]; omega) HC6.out.size ?_; intro v7 w7 ho7 hg7 hob7; have hx7 := (HC6.out).append (Nat.le_refl _) HO6.out hg7; have k7 := HRX.out _ (hx7); have hlt := k7.lt; have q0 := k7.cell 0; rw [cF_0] at q0; have q1 := k7.cell 1; rw [cF_1] at q1; have q2 := k7.cell 2; rw [cF_2] at q2; have q4 := k7.cell 4; rw [cF_4] at q4; have q5 := k7.cell 5; rw [cF_5] at q5; have q6 := k7.cell 6; rw [cF_6] at q6; rw [HK.out] at q0; rw [HFL.out] at q5; rw [HSD.out] at q6; clear k7; have HC7 := Lib.hid hx7; have HR7 := Lib.hid (HR6.out.chg (Chg.of_grown hg7) (fun e => HN6.out _ e rfl)); have HN7 := Lib.hid (own_ne2 HN6.out hob7 HR6.out.lt); rw [u8s_append] at ho7; rw [← List.length_append] at ho7; have HO7 := Lib.hid ho7; clear hx7 hg7 hob7 ho7) | ((with_reducible show Calls _ _ #[.int .u64 (f.a : Int)] _ _); refine (HPa.out _).mono ?_; rintro e w6 ⟨g6, rfl, hr6, hg6, hc6⟩; have hx6 := HC5.out.trans hc6; have k6 := HRX.out _ (hx6); have hlt := k6.lt; have q0 := k6.cell 0; rw [cF_0] at q0; have q1 := k6.cell 1; rw [cF_1] at q1; have q2 := k6.cell 2; rw [cF_2] at q2; have q4 := k6.cell 4; rw [cF_4] at q4; have q5 := k6.cell 5; rw [cF_5] at q5; have q6 := k6.cell 6; rw [cF_6] at q6; rw [HK.out] at q0; rw [HFL.out] at q5; rw [HSD.out] at q6; clear k6; have HC6 := Lib.hid hx6; have HV6 := Lib.hid hr6; have HO6 := Lib.hid (ownsRow_chg HO5.out hc6); have HR6 := Lib.hid (HR5.out.chg hc6 (fun h => h)); have HN6 := HN5; clear hx6 hr6 hg6 hc6) | (at_builtin; refine wpList_append_view rfl _ _ 23 rfl 5 i0 _ 1 Tryd.underlying23 hi hz0 hz1 hz2 rfl w1.heap.size (.slice (some ⟨w2.heap.size, 0, none⟩) 1 1) ([17]).length (u8s ([17])) rfl HO4.out (fun _ => True) (some ⟨g4, 0, none⟩) (encI f.id).length (encI f.id).length (u8s (encI f.id)) rfl (rowView HV4.out) (u8s_one _) (by simp only [List.length_append, List.length_cons, List.length_nil]; unfold maxLen; omega) (by simp only [List.length_append, List.length_cons, List.length_nil]; omega) HC4.out.size ?_; intro v5 w5 ho5 hg5 hob5; have hx5 := (HC4.out).append (Nat.le_refl _) HO4.out hg5; have k5 := HRX.out _ (hx5); have hlt := k5.lt; have q0 := k5.cell 0; rw [cF_0] at q0; have q1 := k5.cell 1; rw [cF_1] at q1; have q2 := k5.cell 2; rw [cF_2] at q2; have q4 := k5.cell 4; rw [cF_4] at q4; have q5 := k5.cell 5; rw [cF_5] at q5; have q6 := k5.cell 6; rw [cF_6] at q6; rw [HK.out] at q0; rw [HFL.out] at q5; rw [HSD.out] at q6; clear k5; have HC5 := Lib.hid hx5; have HR5 := Lib.hid (HR4.out.chg (Chg.of_grown hg5) (fun e => HN4.out _ e rfl)); have HN5 := Lib.hid (own_ne2 HN4.out hob5 HR4.out.lt); rw [u8s_append] at ho5; rw [← List.length_append] at ho5; have HO5 := Lib.hid ho5; clear hx5 hg5 hob5 ho5) | ((with_reducible show Calls _ _ #[.int .u64 (f.id : Int)] _ _); refine (HPi.out _).mono ?_; rintro e w4 ⟨g4, rfl, hr4, hg4, hc4⟩; have hx4 := HC3.out.trans hc4; have k4 := HRX.out _ (hx4); have hlt := k4.lt; have q0 := k4.cell 0; rw [cF_0] at q0; have q1 := k4.cell 1; rw [cF_1] at q1; have q2 := k4.cell 2; rw [cF_2] at q2; have q4 := k4.cell 4; rw [cF_4] at q4; have q5 := k4.cell 5; rw [cF_5] at q5; have q6 := k4.cell 6; rw [cF_6] at q6; rw [HK.out] at q0; rw [HFL.out] at q5; rw [HSD.out] at q6; clear k4; have HC4 := Lib.hid hx4; have HV4 := Lib.hid hr4; have HO4 := Lib.hid (ownsRow_chg HO3.out hc4); have HR4 := Lib.hid (HR3.out.chg hc4 (fun h => h)); have HN4 := HN3; clear hx4 hr4 hg4 hc4))
  rw [rounds_succ]
  go_wp2
  go_ret
  obtain ⟨Ar, cr, rfl, _, _, hvw⟩ := View.own (T := fun b => w.heap.size ≤ b) HO7.out (fun b hb => Nat.le_trans HC1.out.size hb)
  have hP := HPUT.out
  subst hP
  exact ⟨Ar, cr, rfl, hvw, HC1.out.trans HC7.out⟩

set_option maxRecDepth 100000 in
set_option maxHeartbeats 8000000 in
theorem rput_21 (f : Fr) (sd sr : Value) (T : Nat → Prop) (w : World) (hd : FrD w T f sd sr) (of : f.Ok) (hr : rightB f = true) (hk : f.kind = 21) (hf : f.flag = false) :
    Calls Tryd.prog 10 #[.agg (cellsF f sd sr).toArray] w (BytesNew w (putM f)) := by
  have hput : putM f = [21] ++ encI f.id ++ encI f.a := put_21 hr hk hf
  have HTK := Lib.hid hd.tok
  have HPUT := Lib.hid hput
  generalize putM f = P at HPUT ⊢
  obtain ⟨i0, hi, hz0, hz1, hz2⟩ := info_parts info5
  have HRR : Hid (∀ w', Chg none_ w w' → Calls Tryd.prog 7 #[.agg (cellsF f sd sr).toArray] w' fun e w'' => e = .returned (.bool true) ∧ Chg none_ w' w'') := Lib.hid (fun w' hc => by have := rright_any f sd sr T w' (hd.chg hc (fun _ _ h => h)) of; rwa [hr] at this)
  have HWH : Hid (∀ w, Calls Tryd.prog 17 #[.int .i64 21] w fun e w' => e = .returned (.string ⟨#[105, 97]⟩) ∧ w' = w) := Lib.hid (fun w => what_any 21 w)
  have HSZ : Hid ((Tryd.prog.info? 27).map (·.size) = some (cellsF f sd sr).length) := Lib.hid (by rw [cF_len _ _ _ hd.tok]; exact size27)
  obtain ⟨A, c, hsd, hdl, hvd⟩ := hd.data
  have HSD := Lib.hid hsd
  have HVD : Hid (∀ w', Chg none_ w w' → View w' (fun _ => True) A f.data.length (u8s f.data)) := Lib.hid (fun w' hc => (hvd.chg hc (fun _ _ h => h)).mono (fun _ _ _ => trivial))
  have HPS := Lib.hid (rput_new f.data.length (by omega))
  have HPi := Lib.hid (rput_new f.id (right_small of hr).1)
  have HPa := Lib.hid (rput_new f.a (right_small of hr).2.1)
  have HPc := Lib.hid (rput_new f.code (right_small of hr).2.2)
  have HK := Lib.hid hk
  have HFL := Lib.hid hf
  have l1 := encI_len f.id
  have l2 := encI_len f.a
  have l3 := encI_len f.code
  have l4 := encI_len f.data.length
  clear hd of hr hk hf hsd hvd hput
  go_enter Tryd.func10, Tryd.ntmps10
  go_wp2_with (first | ((with_reducible show wpList _ _ _ (⟨some 1, .box _ _, _, _, _, _⟩ :: _) _ _); refine wpList_box_Row rfl rfl (cellsF f sd sr) rfl ?_; intro w1 hr1 hc1 hs1; have HRX := Lib.hid (show ∀ x, Chg none_ w1 x → Row x w.heap.size 27 (cellsF f sd sr) from fun x hx => hr1.chg hx (fun h => h)); have HC1 := Lib.hid hc1; clear hr1 hc1 hs1) | ((with_reducible show wpList _ _ _ (⟨some 10, .load _ _, _, _, _, _⟩ :: _) _ _); refine wpList_load_Row (cs := cellsF f sd sr) rfl rfl rfl (HRX.out _ (Chg.refl _ _)) Tryd.underlying27 rfl HSZ.out ?_) | (go_at_call 7; refine (HRR.out _ HC1.out).mono ?_; rintro e w2 ⟨rfl, hc⟩; have k2 := HRX.out _ (hc); have hlt := k2.lt; have q0 := k2.cell 0; rw [cF_0] at q0; have q1 := k2.cell 1; rw [cF_1] at q1; have q2 := k2.cell 2; rw [cF_2] at q2; have q4 := k2.cell 4; rw [cF_4] at q4; have q5 := k2.cell 5; rw [cF_5] at q5; have q6 := k2.cell 6; rw [cF_6] at q6; rw [HK.out] at q0; rw [HFL.out] at q5; rw [HSD.out] at q6; clear k2; have HC2 := Lib.hid hc; clear hc) | (go_at_call 17; refine (HWH.out _).mono ?_; rintro e wW ⟨rfl, rfl⟩) | ((with_reducible show Calls _ _ #[.int .u64 (f.data.length : Int)] _ _); refine (HPS.out _).mono ?_; rintro e w3 ⟨g3, rfl, hr3, hg3, hc3⟩; have hx3 := ((HC2.out.alloc _).trans hc3 : Chg none_ w1 w3); have k3 := HRX.out _ (hx3); have hlt := k3.lt; have q0 := k3.cell 0; rw [cF_0] at q0; have q1 := k3.cell 1; rw [cF_1] at q1; have q2 := k3.cell 2; rw [cF_2] at q2; have q4 := k3.cell 4; rw [cF_4] at q4; have q5 := k3.cell 5; rw [cF_5] at q5; have q6 := k3.cell 6; rw [cF_6] at q6; rw [HK.out] at q0; rw [HFL.out] at q5; rw [HSD.out] at q6; clear k3; have HC3 := Lib.hid hx3; have HR3 := Lib.hid hr3; have HN3 := Lib.hid (own_ne1 (w := w2) hg3); have HO3 := Lib.hid (ownsRow_chg (own_of_row (base := w1.heap.size) (n := 1) (Row.new w2 5 (u8s [21])) HC2.out.size rfl (by decide)) hc3); clear hx3 hr3 hg3 hc3))
  have ix0 : ((({ data := #[105, 97] } : ByteArray)[0]).toNat : Int) = 105 := rfl
  have ix1 : ((({ data := #[105, 97] } : ByteArray)[1]).toNat : Int) = 97 := rfl
  refine wp_loop_rounds 3 ?_
  rw [rounds_succ]
  go_wp2_with (first | (at_builtin; refine wpList_append_view rfl _ _ 23 rfl 5 i0 _ 1 Tryd.underlying23 hi hz0 hz1 hz2 rfl w1.heap.size v5 ([21] ++ encI f.id).length (u8s ([21] ++ encI f.id)) rfl HO6.out (fun _ => True) (some ⟨g6, 0, none⟩) (encI f.a).length (encI f.a).length (u8s (encI f.a)) rfl (rowView HV6.out) (u8s_one _) (by simp only [List.length_cons, List.length_nil]; unfold maxLen; omega) (by simp only [List.length_cons, List.length_nil]; omega) HC6.out.size ?_; intro v7 w7 ho7 hg7 hob7; have hx7 := (HC6.out).append (Nat.le_refl _) HO6.out hg7; have k7 := HRX.out _ (hx7); have hlt := k7.lt; have q0 := k7.cell 0; rw [cF_0] at q0; have q1 := k7.cell 1; rw [cF_1] at q1; have q2 := k7.cell 2; rw [cF_2] at q2; have q4 := k7.cell 4; rw [cF_4] at q4; have q5 := k7.cell 5; rw [cF_5] at q5; have q6 := k7.cell 6; rw [cF_6] at q6; rw [HK.out] at q0; rw [HFL.out] at q5; rw [HSD.out] at q6; clear k7; have HC7 := Lib.hid hx7; have HR7 := Lib.hid (HR6.out.chg (Chg.of_grown hg7) (fun e => HN6.out _ e rfl)); have HN7 := Lib.hid (own_ne2 HN6.out hob7 HR6.out.lt); rw [u8s_append] at ho7; rw [← List.length_append] at ho7; have HO7 := Lib.hid ho7; clear hx7 hg7 hob7 ho7) | ((with_reducible show Calls _ _ #[.int .u64 (f.a : Int)] _ _); refine (HPa.out _).mono ?_; rintro e w6 ⟨g6, rfl, hr6, hg6, hc6⟩; have hx6 := HC5.out.trans hc6; have k6 := HRX.out _ (hx6); have hlt := k6.lt; have q0 := k6.cell 0; rw [cF_0] at q0; have q1 := k6.cell 1; rw [cF_1] at q1; have q2 := k6.cell 2; rw [cF_2] at q2; have q4 := k6.cell 4; rw [cF_4] at q4; have q5 := k6.cell 5; rw [cF_5] at q5; have q6 := k6.cell 6; rw [cF_6] at q6; rw [HK.out] at q0; rw [HFL.out] at q5; rw [HSD.out] at q6; clear k6; have HC6 := Lib.hid hx6; have HV6 := Lib.hid hr6; have HO6 := Lib.hid (ownsRow_chg HO5.out hc6); have HR6 := Lib.hid (HR5.out.chg hc6 (fun h => h)); have HN6 := HN5; clear hx6 hr6 hg6 hc6) | (at_builtin; refine wpList_append_view rfl _ _ 23 rfl 5 i0 _ 1 Tryd.underlying23 hi hz0 hz1 hz2 rfl w1.heap.size (.slice (some ⟨w2.heap.size, 0, none⟩) 1 1) ([21]).length (u8s ([21])) rfl HO4.out (fun _ => True) (some ⟨g4, 0, none⟩) (encI f.id).length (encI f.id).length (u8s (encI f.id)) rfl (rowView HV4.out) (u8s_one _) (by simp only [List.length_append, List.length_cons, List.length_nil]; unfold maxLen; omega) (by simp only [List.length_append, List.length_cons, List.length_nil]; omega) HC4.out.size ?_; intro v5 w5 ho5 hg5 hob5; have hx5 := (HC4.out).append (Nat.le_refl _) HO4.out hg5; have k5 := HRX.out _ (hx5); have hlt := k5.lt; have q0 := k5.cell 0; rw [cF_0] at q0; have q1 := k5.cell 1; rw [cF_1] at q1; have q2 := k5.cell 2; rw [cF_2] at q2; have q4 := k5.cell 4; rw [cF_4] at q4; have q5 := k5.cell 5; rw [cF_5] at q5; have q6 := k5.cell 6; rw [cF_6] at q6; rw [HK.out] at q0; rw [HFL.out] at q5; rw [HSD.out] at q6; clear k5; have HC5 := Lib.hid hx5; have HR5 := Lib.hid (HR4.out.chg (Chg.of_grown hg5) (fun e => HN4.out _ e rfl)); have HN5 := Lib.hid (own_ne2 HN4.out hob5 HR4.out.lt); rw [u8s_append] at ho5; rw [← List.length_append] at ho5; have HO5 := Lib.hid ho5; clear hx5 hg5 hob5 ho5) | ((with_reducible show Calls _ _ #[.int .u64 (f.id : Int)] _ _); refine (HPi.out _).mono ?_; rintro e w4 ⟨g4, rfl, hr4, hg4, hc4⟩; have hx4 := HC3.out.trans hc4; have k4 := HRX.out _ (hx4); have hlt := k4.lt; have q0 := k4.cell 0; rw [cF_0] at q0; have q1 := k4.cell 1; rw [cF_1] at q1; have q2 := k4.cell 2; rw [cF_2] at q2; have q4 := k4.cell 4; rw [cF_4] at q4; have q5 := k4.cell 5; rw [cF_5] at q5; have q6 := k4.cell 6; rw [cF_6] at q6; rw [HK.out] at q0; rw [HFL.out] at q5; rw [HSD.out] at q6; clear k4; have HC4 := Lib.hid hx4; have HV4 := Lib.hid hr4; have HO4 := Lib.hid (ownsRow_chg HO3.out hc4); have HR4 := Lib.hid (HR3.out.chg hc4 (fun h => h)); have HN4 := HN3; clear hx4 hr4 hg4 hc4))
  rw [rounds_succ]
  go_wp2_with (first | (at_builtin; refine wpList_append_view rfl _ _ 23 rfl 5 i0 _ 1 Tryd.underlying23 hi hz0 hz1 hz2 rfl w1.heap.size v5 ([21] ++ encI f.id).length (u8s ([21] ++ encI f.id)) rfl HO6.out (fun _ => True) (some ⟨g6, 0, none⟩) (encI f.a).length (encI f.a).length (u8s (encI f.a)) rfl (rowView HV6.out) (u8s_one _) (by simp only [List.length_append, List.length_cons, List.length_nil]; unfold maxLen; omega) (by simp only [List.length_append, List.length_cons, List.length_nil]; omega) HC6.out.size ?_; intro v7 w7 ho7 hg7 hob7; have hx7 := (HC6.out).append (Nat.le_refl _) HO6.out hg7; have k7 := HRX.out _ (hx7); have hlt := k7.lt; have q0 := k7.cell 0; rw [cF_0] at q0; have q1 := k7.cell 1; rw [cF_1] at q1; have q2 := k7.cell 2; rw [cF_2] at q2; have q4 := k7.cell 4; rw [cF_4] at q4; have q5 := k7.cell 5; rw [cF_5] at q5; have q6 := k7.cell 6; rw [cF_6] at q6; rw [HK.out] at q0; rw [HFL.out] at q5; rw [HSD.out] at q6; clear k7; have HC7 := Lib.hid hx7; have HR7 := Lib.hid (HR6.out.chg (Chg.of_grown hg7) (fun e => HN6.out _ e rfl)); have HN7 := Lib.hid (own_ne2 HN6.out hob7 HR6.out.lt); rw [u8s_append] at ho7; rw [← List.length_append] at ho7; have HO7 := Lib.hid ho7; clear hx7 hg7 hob7 ho7) | ((with_reducible show Calls _ _ #[.int .u64 (f.a : Int)] _ _); refine (HPa.out _).mono ?_; rintro e w6 ⟨g6, rfl, hr6, hg6, hc6⟩; have hx6 := HC5.out.trans hc6; have k6 := HRX.out _ (hx6); have hlt := k6.lt; have q0 := k6.cell 0; rw [cF_0] at q0; have q1 := k6.cell 1; rw [cF_1] at q1; have q2 := k6.cell 2; rw [cF_2] at q2; have q4 := k6.cell 4; rw [cF_4] at q4; have q5 := k6.cell 5; rw [cF_5] at q5; have q6 := k6.cell 6; rw [cF_6] at q6; rw [HK.out] at q0; rw [HFL.out] at q5; rw [HSD.out] at q6; clear k6; have HC6 := Lib.hid hx6; have HV6 := Lib.hid hr6; have HO6 := Lib.hid (ownsRow_chg HO5.out hc6); have HR6 := Lib.hid (HR5.out.chg hc6 (fun h => h)); have HN6 := HN5; clear hx6 hr6 hg6 hc6) | (at_builtin; refine wpList_append_view rfl _ _ 23 rfl 5 i0 _ 1 Tryd.underlying23 hi hz0 hz1 hz2 rfl w1.heap.size (.slice (some ⟨w2.heap.size, 0, none⟩) 1 1) ([21]).length (u8s ([21])) rfl HO4.out (fun _ => True) (some ⟨g4, 0, none⟩) (encI f.id).length (encI f.id).length (u8s (encI f.id)) rfl (rowView HV4.out) (u8s_one _) (by simp only [List.length_append, List.length_cons, List.length_nil]; unfold maxLen; omega) (by simp only [List.length_append, List.length_cons, List.length_nil]; omega) HC4.out.size ?_; intro v5 w5 ho5 hg5 hob5; have hx5 := (HC4.out).append (Nat.le_refl _) HO4.out hg5; have k5 := HRX.out _ (hx5); have hlt := k5.lt; have q0 := k5.cell 0; rw [cF_0] at q0; have q1 := k5.cell 1; rw [cF_1] at q1; have q2 := k5.cell 2; rw [cF_2] at q2; have q4 := k5.cell 4; rw [cF_4] at q4; have q5 := k5.cell 5; rw [cF_5] at q5; have q6 := k5.cell 6; rw [cF_6] at q6; rw [HK.out] at q0; rw [HFL.out] at q5; rw [HSD.out] at q6; clear k5; have HC5 := Lib.hid hx5; have HR5 := Lib.hid (HR4.out.chg (Chg.of_grown hg5) (fun e => HN4.out _ e rfl)); have HN5 := Lib.hid (own_ne2 HN4.out hob5 HR4.out.lt); rw [u8s_append] at ho5; rw [← List.length_append] at ho5; have HO5 := Lib.hid ho5; clear hx5 hg5 hob5 ho5) | ((with_reducible show Calls _ _ #[.int .u64 (f.id : Int)] _ _); refine (HPi.out _).mono ?_; rintro e w4 ⟨g4, rfl, hr4, hg4, hc4⟩; have hx4 := HC3.out.trans hc4; have k4 := HRX.out _ (hx4); have hlt := k4.lt; have q0 := k4.cell 0; rw [cF_0] at q0; have q1 := k4.cell 1; rw [cF_1] at q1; have q2 := k4.cell 2; rw [cF_2] at q2; have q4 := k4.cell 4; rw [cF_4] at q4; have q5 := k4.cell 5; rw [cF_5] at q5; have q6 := k4.cell 6; rw [cF_6] at q6; rw [HK.out] at q0; rw [HFL.out] at q5; rw [HSD.out] at q6; clear k4; have HC4 := Lib.hid hx4; have HV4 := Lib.hid hr4; have HO4 := Lib.hid (ownsRow_chg HO3.out hc4); have HR4 := Lib.hid (HR3.out.chg hc4 (fun h => h)); have HN4 := HN3; clear hx4 hr4 hg4 hc4))
  rw [rounds_succ]
  go_wp2
  go_ret
  obtain ⟨Ar, cr, rfl, _, _, hvw⟩ := View.own (T := fun b => w.heap.size ≤ b) HO7.out (fun b hb => Nat.le_trans HC1.out.size hb)
  have hP := HPUT.out
  subst hP
  exact ⟨Ar, cr, rfl, hvw, HC1.out.trans HC7.out⟩

set_option maxRecDepth 100000 in
set_option maxHeartbeats 8000000 in
theorem rput_18_f0 (f : Fr) (sd sr : Value) (T : Nat → Prop) (w : World) (hd : FrD w T f sd sr) (of : f.Ok) (hr : rightB f = true) (hk : f.kind = 18) (hf : f.flag = false) :
    Calls Tryd.prog 10 #[.agg (cellsF f sd sr).toArray] w (BytesNew w (putM f)) := by
  have hput : putM f = [18] ++ encI f.a := put_18_f0 hr hk hf
  have HTK := Lib.hid hd.tok
  have HPUT := Lib.hid hput
  generalize putM f = P at HPUT ⊢
  obtain ⟨i0, hi, hz0, hz1, hz2⟩ := info_parts info5
  have HRR : Hid (∀ w', Chg none_ w w' → Calls Tryd.prog 7 #[.agg (cellsF f sd sr).toArray] w' fun e w'' => e = .returned (.bool true) ∧ Chg none_ w' w'') := Lib.hid (fun w' hc => by have := rright_any f sd sr T w' (hd.chg hc (fun _ _ h => h)) of; rwa [hr] at this)
  have HWH : Hid (∀ w, Calls Tryd.prog 17 #[.int .i64 18] w fun e w' => e = .returned (.string ⟨#[97, 102]⟩) ∧ w' = w) := Lib.hid (fun w => what_any 18 w)
  have HSZ : Hid ((Tryd.prog.info? 27).map (·.size) = some (cellsF f sd sr).length) := Lib.hid (by rw [cF_len _ _ _ hd.tok]; exact size27)
  obtain ⟨A, c, hsd, hdl, hvd⟩ := hd.data
  have HSD := Lib.hid hsd
  have HVD : Hid (∀ w', Chg none_ w w' → View w' (fun _ => True) A f.data.length (u8s f.data)) := Lib.hid (fun w' hc => (hvd.chg hc (fun _ _ h => h)).mono (fun _ _ _ => trivial))
  have HPS := Lib.hid (rput_new f.data.length (by omega))
  have HPi := Lib.hid (rput_new f.id (right_small of hr).1)
  have HPa := Lib.hid (rput_new f.a (right_small of hr).2.1)
  have HPc := Lib.hid (rput_new f.code (right_small of hr).2.2)
  have HK := Lib.hid hk
  have HFL := Lib.hid hf
  have l1 := encI_len f.id
  have l2 := encI_len f.a
  have l3 := encI_len f.code
  have l4 := encI_len f.data.length
  clear hd of hr hk hf hsd hvd hput
  go_enter Tryd.func10, Tryd.ntmps10
  go_wp2_with (first | ((with_reducible show wpList _ _ _ (⟨some 1, .box _ _, _, _, _, _⟩ :: _) _ _); refine wpList_box_Row rfl rfl (cellsF f sd sr) rfl ?_; intro w1 hr1 hc1 hs1; have HRX := Lib.hid (show ∀ x, Chg none_ w1 x → Row x w.heap.size 27 (cellsF f sd sr) from fun x hx => hr1.chg hx (fun h => h)); have HC1 := Lib.hid hc1; clear hr1 hc1 hs1) | ((with_reducible show wpList _ _ _ (⟨some 10, .load _ _, _, _, _, _⟩ :: _) _ _); refine wpList_load_Row (cs := cellsF f sd sr) rfl rfl rfl (HRX.out _ (Chg.refl _ _)) Tryd.underlying27 rfl HSZ.out ?_) | (go_at_call 7; refine (HRR.out _ HC1.out).mono ?_; rintro e w2 ⟨rfl, hc⟩; have k2 := HRX.out _ (hc); have hlt := k2.lt; have q0 := k2.cell 0; rw [cF_0] at q0; have q1 := k2.cell 1; rw [cF_1] at q1; have q2 := k2.cell 2; rw [cF_2] at q2; have q4 := k2.cell 4; rw [cF_4] at q4; have q5 := k2.cell 5; rw [cF_5] at q5; have q6 := k2.cell 6; rw [cF_6] at q6; rw [HK.out] at q0; rw [HFL.out] at q5; rw [HSD.out] at q6; clear k2; have HC2 := Lib.hid hc; clear hc) | (go_at_call 17; refine (HWH.out _).mono ?_; rintro e wW ⟨rfl, rfl⟩) | ((with_reducible show Calls _ _ #[.int .u64 (f.data.length : Int)] _ _); refine (HPS.out _).mono ?_; rintro e w3 ⟨g3, rfl, hr3, hg3, hc3⟩; have hx3 := ((HC2.out.alloc _).trans hc3 : Chg none_ w1 w3); have k3 := HRX.out _ (hx3); have hlt := k3.lt; have q0 := k3.cell 0; rw [cF_0] at q0; have q1 := k3.cell 1; rw [cF_1] at q1; have q2 := k3.cell 2; rw [cF_2] at q2; have q4 := k3.cell 4; rw [cF_4] at q4; have q5 := k3.cell 5; rw [cF_5] at q5; have q6 := k3.cell 6; rw [cF_6] at q6; rw [HK.out] at q0; rw [HFL.out] at q5; rw [HSD.out] at q6; clear k3; have HC3 := Lib.hid hx3; have HR3 := Lib.hid hr3; have HN3 := Lib.hid (own_ne1 (w := w2) hg3); have HO3 := Lib.hid (ownsRow_chg (own_of_row (base := w1.heap.size) (n := 1) (Row.new w2 5 (u8s [18])) HC2.out.size rfl (by decide)) hc3); clear hx3 hr3 hg3 hc3))
  have ix0 : ((({ data := #[97, 102] } : ByteArray)[0]).toNat : Int) = 97 := rfl
  have ix1 : ((({ data := #[97, 102] } : ByteArray)[1]).toNat : Int) = 102 := rfl
  refine wp_loop_rounds 3 ?_
  rw [rounds_succ]
  go_wp2_with (first | (at_builtin; refine wpList_append_view rfl _ _ 23 rfl 5 i0 _ 1 Tryd.underlying23 hi hz0 hz1 hz2 rfl w1.heap.size (.slice (some ⟨w2.heap.size, 0, none⟩) 1 1) ([18]).length (u8s ([18])) rfl HO4.out (fun _ => True) (some ⟨g4, 0, none⟩) (encI f.a).length (encI f.a).length (u8s (encI f.a)) rfl (rowView HV4.out) (u8s_one _) (by simp only [List.length_cons, List.length_nil]; unfold maxLen; omega) (by simp only [List.length_cons, List.length_nil]; omega) HC4.out.size ?_; intro v5 w5 ho5 hg5 hob5; have hx5 := (HC4.out).append (Nat.le_refl _) HO4.out hg5; have k5 := HRX.out _ (hx5); have hlt := k5.lt; have q0 := k5.cell 0; rw [cF_0] at q0; have q1 := k5.cell 1; rw [cF_1] at q1; have q2 := k5.cell 2; rw [cF_2] at q2; have q4 := k5.cell 4; rw [cF_4] at q4; have q5 := k5.cell 5; rw [cF_5] at q5; have q6 := k5.cell 6; rw [cF_6] at q6; rw [HK.out] at q0; rw [HFL.out] at q5; rw [HSD.out] at q6; clear k5; have HC5 := Lib.hid hx5; have HR5 := Lib.hid (HR4.out.chg (Chg.of_grown hg5) (fun e => HN4.out _ e rfl)); have HN5 := Lib.hid (own_ne2 HN4.out hob5 HR4.out.lt); rw [u8s_append] at ho5; rw [← List.length_append] at ho5; have HO5 := Lib.hid ho5; clear hx5 hg5 hob5 ho5) | ((with_reducible show Calls _ _ #[.int .u64 (f.a : Int)] _ _); refine (HPa.out _).mono ?_; rintro e w4 ⟨g4, rfl, hr4, hg4, hc4⟩; have hx4 := HC3.out.trans hc4; have k4 := HRX.out _ (hx4); have hlt := k4.lt; have q0 := k4.cell 0; rw [cF_0] at q0; have q1 := k4.cell 1; rw [cF_1] at q1; have q2 := k4.cell 2; rw [cF_2] at q2; have q4 := k4.cell 4; rw [cF_4] at q4; have q5 := k4.cell 5; rw [cF_5] at q5; have q6 := k4.cell 6; rw [cF_6] at q6; rw [HK.out] at q0; rw [HFL.out] at q5; rw [HSD.out] at q6; clear k4; have HC4 := Lib.hid hx4; have HV4 := Lib.hid hr4; have HO4 := Lib.hid (ownsRow_chg HO3.out hc4); have HR4 := Lib.hid (HR3.out.chg hc4 (fun h => h)); have HN4 := HN3; clear hx4 hr4 hg4 hc4))
  rw [rounds_succ]
  go_wp2_with (first | (at_builtin; refine wpList_append_view rfl _ _ 23 rfl 5 i0 _ 1 Tryd.underlying23 hi hz0 hz1 hz2 rfl w1.heap.size (.slice (some ⟨w2.heap.size, 0, none⟩) 1 1) ([18]).length (u8s ([18])) rfl HO4.out (fun _ => True) (some ⟨g4, 0, none⟩) (encI f.a).length (encI f.a).length (u8s (encI f.a)) rfl (rowView HV4.out) (u8s_one _) (by simp only [List.length_append, List.length_cons, List.length_nil]; unfold maxLen; omega) (by simp only [List.length_append, List.length_cons, List.length_nil]; omega) HC4.out.size ?_; intro v5 w5 ho5 hg5 hob5; have hx5 := (HC4.out).append (Nat.le_refl _) HO4.out hg5; have k5 := HRX.out _ (hx5); have hlt := k5.lt; have q0 := k5.cell 0; rw [cF_0] at q0; have q1 := k5.cell 1; rw [cF_1] at q1; have q2 := k5.cell 2; rw [cF_2] at q2; have q4 := k5.cell 4; rw [cF_4] at q4; have q5 := k5.cell 5; rw [cF_5] at q5; have q6 := k5.cell 6; rw [cF_6] at q6; rw [HK.out] at q0; rw [HFL.out] at q5; rw [HSD.out] at q6; clear k5; have HC5 := Lib.hid hx5; have HR5 := Lib.hid (HR4.out.chg (Chg.of_grown hg5) (fun e => HN4.out _ e rfl)); have HN5 := Lib.hid (own_ne2 HN4.out hob5 HR4.out.lt); rw [u8s_append] at ho5; rw [← List.length_append] at ho5; have HO5 := Lib.hid ho5; clear hx5 hg5 hob5 ho5) | ((with_reducible show Calls _ _ #[.int .u64 (f.a : Int)] _ _); refine (HPa.out _).mono ?_; rintro e w4 ⟨g4, rfl, hr4, hg4, hc4⟩; have hx4 := HC3.out.trans hc4; have k4 := HRX.out _ (hx4); have hlt := k4.lt; have q0 := k4.cell 0; rw [cF_0] at q0; have q1 := k4.cell 1; rw [cF_1] at q1; have q2 := k4.cell 2; rw [cF_2] at q2; have q4 := k4.cell 4; rw [cF_4] at q4; have q5 := k4.cell 5; rw [cF_5] at q5; have q6 := k4.cell 6; rw [cF_6] at q6; rw [HK.out] at q0; rw [HFL.out] at q5; rw [HSD.out] at q6; clear k4; have HC4 := Lib.hid hx4; have HV4 := Lib.hid hr4; have HO4 := Lib.hid (ownsRow_chg HO3.out hc4); have HR4 := Lib.hid (HR3.out.chg hc4 (fun h => h)); have HN4 := HN3; clear hx4 hr4 hg4 hc4))
  rw [rounds_succ]
  go_wp2
  go_ret
  obtain ⟨Ar, cr, rfl, _, _, hvw⟩ := View.own (T := fun b => w.heap.size ≤ b) HO5.out (fun b hb => Nat.le_trans HC1.out.size hb)
  have hP := HPUT.out
  subst hP
  exact ⟨Ar, cr, rfl, hvw, HC1.out.trans HC5.out⟩

set_option maxRecDepth 100000 in
set_option maxHeartbeats 8000000 in
theorem rput_18_f1 (f : Fr) (sd sr : Value) (T : Nat → Prop) (w : World) (hd : FrD w T f sd sr) (of : f.Ok) (hr : rightB f = true) (hk : f.kind = 18) (hf : f.flag = true) :
    Calls Tryd.prog 10 #[.agg (cellsF f sd sr).toArray] w (BytesNew w (putM f)) := by
  have hput : putM f = [19] ++ encI f.a := put_18_f1 hr hk hf
  have HTK := Lib.hid hd.tok
  have HPUT := Lib.hid hput
  generalize putM f = P at HPUT ⊢
  obtain ⟨i0, hi, hz0, hz1, hz2⟩ := info_parts info5
  have HRR : Hid (∀ w', Chg none_ w w' → Calls Tryd.prog 7 #[.agg (cellsF f sd sr).toArray] w' fun e w'' => e = .returned (.bool true) ∧ Chg none_ w' w'') := Lib.hid (fun w' hc => by have := rright_any f sd sr T w' (hd.chg hc (fun _ _ h => h)) of; rwa [hr] at this)
  have HWH : Hid (∀ w, Calls Tryd.prog 17 #[.int .i64 18] w fun e w' => e = .returned (.string ⟨#[97, 102]⟩) ∧ w' = w) := Lib.hid (fun w => what_any 18 w)
  have HSZ : Hid ((Tryd.prog.info? 27).map (·.size) = some (cellsF f sd sr).length) := Lib.hid (by rw [cF_len _ _ _ hd.tok]; exact size27)
  obtain ⟨A, c, hsd, hdl, hvd⟩ := hd.data
  have HSD := Lib.hid hsd
  have HVD : Hid (∀ w', Chg none_ w w' → View w' (fun _ => True) A f.data.length (u8s f.data)) := Lib.hid (fun w' hc => (hvd.chg hc (fun _ _ h => h)).mono (fun _ _ _ => trivial))
  have HPS := Lib.hid (rput_new f.data.length (by omega))
  have HPi := Lib.hid (rput_new f.id (right_small of hr).1)
  have HPa := Lib.hid (rput_new f.a (right_small of hr).2.1)
  have HPc := Lib.hid (rput_new f.code (right_small of hr).2.2)
  have HK := Lib.hid hk
  have HFL := Lib.hid hf
  have l1 := encI_len f.id
  have l2 := encI_len f.a
  have l3 := encI_len f.code
  have l4 := encI_len f.data.length
  clear hd of hr hk hf hsd hvd hput
  go_enter Tryd.func10, Tryd.ntmps10
  go_wp2_with (first | ((with_reducible show wpList _ _ _ (⟨some 1, .box _ _, _, _, _, _⟩ :: _) _ _); refine wpList_box_Row rfl rfl (cellsF f sd sr) rfl ?_; intro w1 hr1 hc1 hs1; have HRX := Lib.hid (show ∀ x, Chg none_ w1 x → Row x w.heap.size 27 (cellsF f sd sr) from fun x hx => hr1.chg hx (fun h => h)); have HC1 := Lib.hid hc1; clear hr1 hc1 hs1) | ((with_reducible show wpList _ _ _ (⟨some 10, .load _ _, _, _, _, _⟩ :: _) _ _); refine wpList_load_Row (cs := cellsF f sd sr) rfl rfl rfl (HRX.out _ (Chg.refl _ _)) Tryd.underlying27 rfl HSZ.out ?_) | (go_at_call 7; refine (HRR.out _ HC1.out).mono ?_; rintro e w2 ⟨rfl, hc⟩; have k2 := HRX.out _ (hc); have hlt := k2.lt; have q0 := k2.cell 0; rw [cF_0] at q0; have q1 := k2.cell 1; rw [cF_1] at q1; have q2 := k2.cell 2; rw [cF_2] at q2; have q4 := k2.cell 4; rw [cF_4] at q4; have q5 := k2.cell 5; rw [cF_5] at q5; have q6 := k2.cell 6; rw [cF_6] at q6; rw [HK.out] at q0; rw [HFL.out] at q5; rw [HSD.out] at q6; clear k2; have HC2 := Lib.hid hc; clear hc) | (go_at_call 17; refine (HWH.out _).mono ?_; rintro e wW ⟨rfl, rfl⟩) | ((with_reducible show Calls _ _ #[.int .u64 (f.data.length : Int)] _ _); refine (HPS.out _).mono ?_; rintro e w3 ⟨g3, rfl, hr3, hg3, hc3⟩; have hx3 := ((HC2.out.alloc _).trans hc3 : Chg none_ w1 w3); have k3 := HRX.out _ (hx3); have hlt := k3.lt; have q0 := k3.cell 0; rw [cF_0] at q0; have q1 := k3.cell 1; rw [cF_1] at q1; have q2 := k3.cell 2; rw [cF_2] at q2; have q4 := k3.cell 4; rw [cF_4] at q4; have q5 := k3.cell 5; rw [cF_5] at q5; have q6 := k3.cell 6; rw [cF_6] at q6; rw [HK.out] at q0; rw [HFL.out] at q5; rw [HSD.out] at q6; clear k3; have HC3 := Lib.hid hx3; have HR3 := Lib.hid hr3; have HN3 := Lib.hid (own_ne1 (w := w2) hg3); have HO3 := Lib.hid (ownsRow_chg (own_of_row (base := w1.heap.size) (n := 1) (Row.new w2 5 (u8s [19])) HC2.out.size rfl (by decide)) hc3); clear hx3 hr3 hg3 hc3))
  have ix0 : ((({ data := #[97, 102] } : ByteArray)[0]).toNat : Int) = 97 := rfl
  have ix1 : ((({ data := #[97, 102] } : ByteArray)[1]).toNat : Int) = 102 := rfl
  refine wp_loop_rounds 3 ?_
  rw [rounds_succ]
  go_wp2_with (first | (at_builtin; refine wpList_append_view rfl _ _ 23 rfl 5 i0 _ 1 Tryd.underlying23 hi hz0 hz1 hz2 rfl w1.heap.size (.slice (some ⟨w2.heap.size, 0, none⟩) 1 1) ([19]).length (u8s ([19])) rfl HO4.out (fun _ => True) (some ⟨g4, 0, none⟩) (encI f.a).length (encI f.a).length (u8s (encI f.a)) rfl (rowView HV4.out) (u8s_one _) (by simp only [List.length_cons, List.length_nil]; unfold maxLen; omega) (by simp only [List.length_cons, List.length_nil]; omega) HC4.out.size ?_; intro v5 w5 ho5 hg5 hob5; have hx5 := (HC4.out).append (Nat.le_refl _) HO4.out hg5; have k5 := HRX.out _ (hx5); have hlt := k5.lt; have q0 := k5.cell 0; rw [cF_0] at q0; have q1 := k5.cell 1; rw [cF_1] at q1; have q2 := k5.cell 2; rw [cF_2] at q2; have q4 := k5.cell 4; rw [cF_4] at q4; have q5 := k5.cell 5; rw [cF_5] at q5; have q6 := k5.cell 6; rw [cF_6] at q6; rw [HK.out] at q0; rw [HFL.out] at q5; rw [HSD.out] at q6; clear k5; have HC5 := Lib.hid hx5; have HR5 := Lib.hid (HR4.out.chg (Chg.of_grown hg5) (fun e => HN4.out _ e rfl)); have HN5 := Lib.hid (own_ne2 HN4.out hob5 HR4.out.lt); rw [u8s_append] at ho5; rw [← List.length_append] at ho5; have HO5 := Lib.hid ho5; clear hx5 hg5 hob5 ho5) | ((with_reducible show Calls _ _ #[.int .u64 (f.a : Int)] _ _); refine (HPa.out _).mono ?_; rintro e w4 ⟨g4, rfl, hr4, hg4, hc4⟩; have hx4 := HC3.out.trans hc4; have k4 := HRX.out _ (hx4); have hlt := k4.lt; have q0 := k4.cell 0; rw [cF_0] at q0; have q1 := k4.cell 1; rw [cF_1] at q1; have q2 := k4.cell 2; rw [cF_2] at q2; have q4 := k4.cell 4; rw [cF_4] at q4; have q5 := k4.cell 5; rw [cF_5] at q5; have q6 := k4.cell 6; rw [cF_6] at q6; rw [HK.out] at q0; rw [HFL.out] at q5; rw [HSD.out] at q6; clear k4; have HC4 := Lib.hid hx4; have HV4 := Lib.hid hr4; have HO4 := Lib.hid (ownsRow_chg HO3.out hc4); have HR4 := Lib.hid (HR3.out.chg hc4 (fun h => h)); have HN4 := HN3; clear hx4 hr4 hg4 hc4))
  rw [rounds_succ]
  go_wp2_with (first | (at_builtin; refine wpList_append_view rfl _ _ 23 rfl 5 i0 _ 1 Tryd.underlying23 hi hz0 hz1 hz2 rfl w1.heap.size (.slice (some ⟨w2.heap.size, 0, none⟩) 1 1) ([19]).length (u8s ([19])) rfl HO4.out (fun _ => True) (some ⟨g4, 0, none⟩) (encI f.a).length (encI f.a).length (u8s (encI f.a)) rfl (rowView HV4.out) (u8s_one _) (by simp only [List.length_append, List.length_cons, List.length_nil]; unfold maxLen; omega) (by simp only [List.length_append, List.length_cons, List.length_nil]; omega) HC4.out.size ?_; intro v5 w5 ho5 hg5 hob5; have hx5 := (HC4.out).append (Nat.le_refl _) HO4.out hg5; have k5 := HRX.out _ (hx5); have hlt := k5.lt; have q0 := k5.cell 0; rw [cF_0] at q0; have q1 := k5.cell 1; rw [cF_1] at q1; have q2 := k5.cell 2; rw [cF_2] at q2; have q4 := k5.cell 4; rw [cF_4] at q4; have q5 := k5.cell 5; rw [cF_5] at q5; have q6 := k5.cell 6; rw [cF_6] at q6; rw [HK.out] at q0; rw [HFL.out] at q5; rw [HSD.out] at q6; clear k5; have HC5 := Lib.hid hx5; have HR5 := Lib.hid (HR4.out.chg (Chg.of_grown hg5) (fun e => HN4.out _ e rfl)); have HN5 := Lib.hid (own_ne2 HN4.out hob5 HR4.out.lt); rw [u8s_append] at ho5; rw [← List.length_append] at ho5; have HO5 := Lib.hid ho5; clear hx5 hg5 hob5 ho5) | ((with_reducible show Calls _ _ #[.int .u64 (f.a : Int)] _ _); refine (HPa.out _).mono ?_; rintro e w4 ⟨g4, rfl, hr4, hg4, hc4⟩; have hx4 := HC3.out.trans hc4; have k4 := HRX.out _ (hx4); have hlt := k4.lt; have q0 := k4.cell 0; rw [cF_0] at q0; have q1 := k4.cell 1; rw [cF_1] at q1; have q2 := k4.cell 2; rw [cF_2] at q2; have q4 := k4.cell 4; rw [cF_4] at q4; have q5 := k4.cell 5; rw [cF_5] at q5; have q6 := k4.cell 6; rw [cF_6] at q6; rw [HK.out] at q0; rw [HFL.out] at q5; rw [HSD.out] at q6; clear k4; have HC4 := Lib.hid hx4; have HV4 := Lib.hid hr4; have HO4 := Lib.hid (ownsRow_chg HO3.out hc4); have HR4 := Lib.hid (HR3.out.chg hc4 (fun h => h)); have HN4 := HN3; clear hx4 hr4 hg4 hc4))
  rw [rounds_succ]
  go_wp2
  go_ret
  obtain ⟨Ar, cr, rfl, _, _, hvw⟩ := View.own (T := fun b => w.heap.size ≤ b) HO5.out (fun b hb => Nat.le_trans HC1.out.size hb)
  have hP := HPUT.out
  subst hP
  exact ⟨Ar, cr, rfl, hvw, HC1.out.trans HC5.out⟩

set_option maxRecDepth 100000 in
set_option maxHeartbeats 8000000 in
theorem rput_22_f0 (f : Fr) (sd sr : Value) (T : Nat → Prop) (w : World) (hd : FrD w T f sd sr) (of : f.Ok) (hr : rightB f = true) (hk : f.kind = 22) (hf : f.flag = false) :
    Calls Tryd.prog 10 #[.agg (cellsF f sd sr).toArray] w (BytesNew w (putM f)) := by
  have hput : putM f = [22] ++ encI f.a := put_22_f0 hr hk hf
  have HTK := Lib.hid hd.tok
  have HPUT := Lib.hid hput
  generalize putM f = P at HPUT ⊢
  obtain ⟨i0, hi, hz0, hz1, hz2⟩ := info_parts info5
  have HRR : Hid (∀ w', Chg none_ w w' → Calls Tryd.prog 7 #[.agg (cellsF f sd sr).toArray] w' fun e w'' => e = .returned (.bool true) ∧ Chg none_ w' w'') := Lib.hid (fun w' hc => by have := rright_any f sd sr T w' (hd.chg hc (fun _ _ h => h)) of; rwa [hr] at this)
  have HWH : Hid (∀ w, Calls Tryd.prog 17 #[.int .i64 22] w fun e w' => e = .returned (.string ⟨#[97, 102]⟩) ∧ w' = w) := Lib.hid (fun w => what_any 22 w)
  have HSZ : Hid ((Tryd.prog.info? 27).map (·.size) = some (cellsF f sd sr).length) := Lib.hid (by rw [cF_len _ _ _ hd.tok]; exact size27)
  obtain ⟨A, c, hsd, hdl, hvd⟩ := hd.data
  have HSD := Lib.hid hsd
  have HVD : Hid (∀ w', Chg none_ w w' → View w' (fun _ => True) A f.data.length (u8s f.data)) := Lib.hid (fun w' hc => (hvd.chg hc (fun _ _ h => h)).mono (fun _ _ _ => trivial))
  have HPS := Lib.hid (rput_new f.data.length (by omega))
  have HPi := Lib.hid (rput_new f.id (right_small of hr).1)
  have HPa := Lib.hid (rput_new f.a (right_small of hr).2.1)
  have HPc := Lib.hid (rput_new f.code (right_small of hr).2.2)
  have HK := Lib.hid hk
  have HFL := Lib.hid hf
  have l1 := encI_len f.id
  have l2 := encI_len f.a
  have l3 := encI_len f.code
  have l4 := encI_len f.data.length
  clear hd of hr hk hf hsd hvd hput
  go_enter Tryd.func10, Tryd.ntmps10
  go_wp2_with (first | ((with_reducible show wpList _ _ _ (⟨some 1, .box _ _, _, _, _, _⟩ :: _) _ _); refine wpList_box_Row rfl rfl (cellsF f sd sr) rfl ?_; intro w1 hr1 hc1 hs1; have HRX := Lib.hid (show ∀ x, Chg none_ w1 x → Row x w.heap.size 27 (cellsF f sd sr) from fun x hx => hr1.chg hx (fun h => h)); have HC1 := Lib.hid hc1; clear hr1 hc1 hs1) | ((with_reducible show wpList _ _ _ (⟨some 10, .load _ _, _, _, _, _⟩ :: _) _ _); refine wpList_load_Row (cs := cellsF f sd sr) rfl rfl rfl (HRX.out _ (Chg.refl _ _)) Tryd.underlying27 rfl HSZ.out ?_) | (go_at_call 7; refine (HRR.out _ HC1.out).mono ?_; rintro e w2 ⟨rfl, hc⟩; have k2 := HRX.out _ (hc); have hlt := k2.lt; have q0 := k2.cell 0; rw [cF_0] at q0; have q1 := k2.cell 1; rw [cF_1] at q1; have q2 := k2.cell 2; rw [cF_2] at q2; have q4 := k2.cell 4; rw [cF_4] at q4; have q5 := k2.cell 5; rw [cF_5] at q5; have q6 := k2.cell 6; rw [cF_6] at q6; rw [HK.out] at q0; rw [HFL.out] at q5; rw [HSD.out] at q6; clear k2; have HC2 := Lib.hid hc; clear hc) | (go_at_call 17; refine (HWH.out _).mono ?_; rintro e wW ⟨rfl, rfl⟩) | ((with_reducible show Calls _ _ #[.int .u64 (f.data.length : Int)] _ _); refine (HPS.out _).mono ?_; rintro e w3 ⟨g3, rfl, hr3, hg3, hc3⟩; have hx3 := ((HC2.out.alloc _).trans hc3 : Chg none_ w1 w3); have k3 := HRX.out _ (hx3); have hlt := k3.lt; have q0 := k3.cell 0; rw [cF_0] at q0; have q1 := k3.cell 1; rw [cF_1] at q1; have q2 := k3.cell 2; rw [cF_2] at q2; have q4 := k3.cell 4; rw [cF_4] at q4; have q5 := k3.cell 5; rw [cF_5] at q5; have q6 := k3.cell 6; rw [cF_6] at q6; rw [HK.out] at q0; rw [HFL.out] at q5; rw [HSD.out] at q6; clear k3; have HC3 := Lib.hid hx3; have HR3 := Lib.hid hr3; have HN3 := Lib.hid (own_ne1 (w := w2) hg3); have HO3 := Lib.hid (ownsRow_chg (own_of_row (base := w1.heap.size) (n := 1) (Row.new w2 5 (u8s [22])) HC2.out.size rfl (by decide)) hc3); clear hx3 hr3 hg3 hc3))
  have ix0 : ((({ data := #[97, 102] } : ByteArray)[0]).toNat : Int) = 97 := rfl
  have ix1 : ((({ data := #[97, 102] } : ByteArray)[1]).toNat : Int) = 102 := rfl
  refine wp_loop_rounds 3 ?_
  rw [rounds_succ]
  go_wp2_with (first | (at_builtin; refine wpList_append_view rfl _ _ 23 rfl 5 i0 _ 1 Tryd.underlying23 hi hz0 hz1 hz2 rfl w1.heap.size (.slice (some ⟨w2.heap.size, 0, none⟩) 1 1) ([22]).length (u8s ([22])) rfl HO4.out (fun _ => True) (some ⟨g4, 0, none⟩) (encI f.a).length (encI f.a).length (u8s (encI f.a)) rfl (rowView HV4.out) (u8s_one _) (by simp only [List.length_cons, List.length_nil]; unfold maxLen; omega) (by simp only [List.length_cons, List.length_nil]; omega) HC4.out.size ?_; intro v5 w5 ho5 hg5 hob5; have hx5 := (HC4.out).append (Nat.le_refl _) HO4.out hg5; have k5 := HRX.out _ (hx5); have hlt := k5.lt; have q0 := k5.cell 0; rw [cF_0] at q0; have q1 := k5.cell 1; rw [cF_1] at q1; have q2 := k5.cell 2; rw [cF_2] at q2; have q4 := k5.cell 4; rw [cF_4] at q4; have q5 := k5.cell 5; rw [cF_5] at q5; have q6 := k5.cell 6; rw [cF_6] at q6; rw [HK.out] at q0; rw [HFL.out] at q5; rw [HSD.out] at q6; clear k5; have HC5 := Lib.hid hx5; have HR5 := Lib.hid (HR4.out.chg (Chg.of_grown hg5) (fun e => HN4.out _ e rfl)); have HN5 := Lib.hid (own_ne2 HN4.out hob5 HR4.out.lt); rw [u8s_append] at ho5; rw [← List.length_append] at ho5; have HO5 := Lib.hid ho5; clear hx5 hg5 hob5 ho5) | ((with_reducible show Calls _ _ #[.int .u64 (f.a : Int)] _ _); refine (HPa.out _).mono ?_; rintro e w4 ⟨g4, rfl, hr4, hg4, hc4⟩; have hx4 := HC3.out.trans hc4; have k4 := HRX.out _ (hx4); have hlt := k4.lt; have q0 := k4.cell 0; rw [cF_0] at q0; have q1 := k4.cell 1; rw [cF_1] at q1; have q2 := k4.cell 2; rw [cF_2] at q2; have q4 := k4.cell 4; rw [cF_4] at q4; have q5 := k4.cell 5; rw [cF_5] at q5; have q6 := k4.cell 6; rw [cF_6] at q6; rw [HK.out] at q0; rw [HFL.out] at q5; rw [HSD.out] at q6; clear k4; have HC4 := Lib.hid hx4; have HV4 := Lib.hid hr4; have HO4 := Lib.hid (ownsRow_chg HO3.out hc4); have HR4 := Lib.hid (HR3.out.chg hc4 (fun h => h)); have HN4 := HN3; clear hx4 hr4 hg4 hc4))
  rw [rounds_succ]
  go_wp2_with (first | (at_builtin; refine wpList_append_view rfl _ _ 23 rfl 5 i0 _ 1 Tryd.underlying23 hi hz0 hz1 hz2 rfl w1.heap.size (.slice (some ⟨w2.heap.size, 0, none⟩) 1 1) ([22]).length (u8s ([22])) rfl HO4.out (fun _ => True) (some ⟨g4, 0, none⟩) (encI f.a).length (encI f.a).length (u8s (encI f.a)) rfl (rowView HV4.out) (u8s_one _) (by simp only [List.length_append, List.length_cons, List.length_nil]; unfold maxLen; omega) (by simp only [List.length_append, List.length_cons, List.length_nil]; omega) HC4.out.size ?_; intro v5 w5 ho5 hg5 hob5; have hx5 := (HC4.out).append (Nat.le_refl _) HO4.out hg5; have k5 := HRX.out _ (hx5); have hlt := k5.lt; have q0 := k5.cell 0; rw [cF_0] at q0; have q1 := k5.cell 1; rw [cF_1] at q1; have q2 := k5.cell 2; rw [cF_2] at q2; have q4 := k5.cell 4; rw [cF_4] at q4; have q5 := k5.cell 5; rw [cF_5] at q5; have q6 := k5.cell 6; rw [cF_6] at q6; rw [HK.out] at q0; rw [HFL.out] at q5; rw [HSD.out] at q6; clear k5; have HC5 := Lib.hid hx5; have HR5 := Lib.hid (HR4.out.chg (Chg.of_grown hg5) (fun e => HN4.out _ e rfl)); have HN5 := Lib.hid (own_ne2 HN4.out hob5 HR4.out.lt); rw [u8s_append] at ho5; rw [← List.length_append] at ho5; have HO5 := Lib.hid ho5; clear hx5 hg5 hob5 ho5) | ((with_reducible show Calls _ _ #[.int .u64 (f.a : Int)] _ _); refine (HPa.out _).mono ?_; rintro e w4 ⟨g4, rfl, hr4, hg4, hc4⟩; have hx4 := HC3.out.trans hc4; have k4 := HRX.out _ (hx4); have hlt := k4.lt; have q0 := k4.cell 0; rw [cF_0] at q0; have q1 := k4.cell 1; rw [cF_1] at q1; have q2 := k4.cell 2; rw [cF_2] at q2; have q4 := k4.cell 4; rw [cF_4] at q4; have q5 := k4.cell 5; rw [cF_5] at q5; have q6 := k4.cell 6; rw [cF_6] at q6; rw [HK.out] at q0; rw [HFL.out] at q5; rw [HSD.out] at q6; clear k4; have HC4 := Lib.hid hx4; have HV4 := Lib.hid hr4; have HO4 := Lib.hid (ownsRow_chg HO3.out hc4); have HR4 := Lib.hid (HR3.out.chg hc4 (fun h => h)); have HN4 := HN3; clear hx4 hr4 hg4 hc4))
  rw [rounds_succ]
  go_wp2
  go_ret
  obtain ⟨Ar, cr, rfl, _, _, hvw⟩ := View.own (T := fun b => w.heap.size ≤ b) HO5.out (fun b hb => Nat.le_trans HC1.out.size hb)
  have hP := HPUT.out
  subst hP
  exact ⟨Ar, cr, rfl, hvw, HC1.out.trans HC5.out⟩

set_option maxRecDepth 100000 in
set_option maxHeartbeats 8000000 in
theorem rput_22_f1 (f : Fr) (sd sr : Value) (T : Nat → Prop) (w : World) (hd : FrD w T f sd sr) (of : f.Ok) (hr : rightB f = true) (hk : f.kind = 22) (hf : f.flag = true) :
    Calls Tryd.prog 10 #[.agg (cellsF f sd sr).toArray] w (BytesNew w (putM f)) := by
  have hput : putM f = [23] ++ encI f.a := put_22_f1 hr hk hf
  have HTK := Lib.hid hd.tok
  have HPUT := Lib.hid hput
  generalize putM f = P at HPUT ⊢
  obtain ⟨i0, hi, hz0, hz1, hz2⟩ := info_parts info5
  have HRR : Hid (∀ w', Chg none_ w w' → Calls Tryd.prog 7 #[.agg (cellsF f sd sr).toArray] w' fun e w'' => e = .returned (.bool true) ∧ Chg none_ w' w'') := Lib.hid (fun w' hc => by have := rright_any f sd sr T w' (hd.chg hc (fun _ _ h => h)) of; rwa [hr] at this)
  have HWH : Hid (∀ w, Calls Tryd.prog 17 #[.int .i64 22] w fun e w' => e = .returned (.string ⟨#[97, 102]⟩) ∧ w' = w) := Lib.hid (fun w => what_any 22 w)
  have HSZ : Hid ((Tryd.prog.info? 27).map (·.size) = some (cellsF f sd sr).length) := Lib.hid (by rw [cF_len _ _ _ hd.tok]; exact size27)
  obtain ⟨A, c, hsd, hdl, hvd⟩ := hd.data
  have HSD := Lib.hid hsd
  have HVD : Hid (∀ w', Chg none_ w w' → View w' (fun _ => True) A f.data.length (u8s f.data)) := Lib.hid (fun w' hc => (hvd.chg hc (fun _ _ h => h)).mono (fun _ _ _ => trivial))
  have HPS := Lib.hid (rput_new f.data.length (by omega))
  have HPi := Lib.hid (rput_new f.id (right_small of hr).1)
  have HPa := Lib.hid (rput_new f.a (right_small of hr).2.1)
  have HPc := Lib.hid (rput_new f.code (right_small of hr).2.2)
  have HK := Lib.hid hk
  have HFL := Lib.hid hf
  have l1 := encI_len f.id
  have l2 := encI_len f.a
  have l3 := encI_len f.code
  have l4 := encI_len f.data.length
  clear hd of hr hk hf hsd hvd hput
  go_enter Tryd.func10, Tryd.ntmps10
  go_wp2_with (first | ((with_reducible show wpList _ _ _ (⟨some 1, .box _ _, _, _, _, _⟩ :: _) _ _); refine wpList_box_Row rfl rfl (cellsF f sd sr) rfl ?_; intro w1 hr1 hc1 hs1; have HRX := Lib.hid (show ∀ x, Chg none_ w1 x → Row x w.heap.size 27 (cellsF f sd sr) from fun x hx => hr1.chg hx (fun h => h)); have HC1 := Lib.hid hc1; clear hr1 hc1 hs1) | ((with_reducible show wpList _ _ _ (⟨some 10, .load _ _, _, _, _, _⟩ :: _) _ _); refine wpList_load_Row (cs := cellsF f sd sr) rfl rfl rfl (HRX.out _ (Chg.refl _ _)) Tryd.underlying27 rfl HSZ.out ?_) | (go_at_call 7; refine (HRR.out _ HC1.out).mono ?_; rintro e w2 ⟨rfl, hc⟩; have k2 := HRX.out _ (hc); have hlt := k2.lt; have q0 := k2.cell 0; rw [cF_0] at q0; have q1 := k2.cell 1; rw [cF_1] at q1; have q2 := k2.cell 2; rw [cF_2] at q2; have q4 := k2.cell 4; rw [cF_4] at q4; have q5 := k2.cell 5; rw [cF_5] at q5; have q6 := k2.cell 6; rw [cF_6] at q6; rw [HK.out] at q0; rw [HFL.out] at q5; rw [HSD.out] at q6; clear k2; have HC2 := Lib.hid hc; clear hc) | (go_at_call 17; refine (HWH.out _).mono ?_; rintro e wW ⟨rfl, rfl⟩) | ((with_reducible show Calls _ _ #[.int .u64 (f.data.length : Int)] _ _); refine (HPS.out _).mono ?_; rintro e w3 ⟨g3, rfl, hr3, hg3, hc3⟩; have hx3 := ((HC2.out.alloc _).trans hc3 : Chg none_ w1 w3); have k3 := HRX.out _ (hx3); have hlt := k3.lt; have q0 := k3.cell 0; rw [cF_0] at q0; have q1 := k3.cell 1; rw [cF_1] at q1; have q2 := k3.cell 2; rw [cF_2] at q2; have q4 := k3.cell 4; rw [cF_4] at q4; have q5 := k3.cell 5; rw [cF_5] at q5; have q6 := k3.cell 6; rw [cF_6] at q6; rw [HK.out] at q0; rw [HFL.out] at q5; rw [HSD.out] at q6; clear k3; have HC3 := Lib.hid hx3; have HR3 := Lib.hid hr3; have HN3 := Lib.hid (own_ne1 (w := w2) hg3); have HO3 := Lib.hid (ownsRow_chg (own_of_row (base := w1.heap.size) (n := 1) (Row.new w2 5 (u8s [23])) HC2.out.size rfl (by decide)) hc3); clear hx3 hr3 hg3 hc3))
  have ix0 : ((({ data := #[97, 102] } : ByteArray)[0]).toNat : Int) = 97 := rfl
  have ix1 : ((({ data := #[97, 102] } : ByteArray)[1]).toNat : Int) = 102 := rfl
  refine wp_loop_rounds 3 ?_
  rw [rounds_succ]
  go_wp2_with (first | (at_builtin; refine wpList_append_view rfl _ _ 23 rfl 5 i0 _ 1 Tryd.underlying23 hi hz0 hz1 hz2 rfl w1.heap.size (.slice (some ⟨w2.heap.size, 0, none⟩) 1 1) ([23]).length (u8s ([23])) rfl HO4.out (fun _ => True) (some ⟨g4, 0, none⟩) (encI f.a).length (encI f.a).length (u8s (encI f.a)) rfl (rowView HV4.out) (u8s_one _) (by simp only [List.length_cons, List.length_nil]; unfold maxLen; omega) (by simp only [List.length_cons, List.length_nil]; omega) HC4.out.size ?_; intro v5 w5 ho5 hg5 hob5; have hx5 := (HC4.out).append (Nat.le_refl _) HO4.out hg5; have k5 := HRX.out _ (hx5); have hlt := k5.lt; have q0 := k5.cell 0; rw [cF_0] at q0; have q1 := k5.cell 1; rw [cF_1] at q1; have q2 := k5.cell 2; rw [cF_2] at q2; have q4 := k5.cell 4; rw [cF_4] at q4; have q5 := k5.cell 5; rw [cF_5] at q5; have q6 := k5.cell 6; rw [cF_6] at q6; rw [HK.out] at q0; rw [HFL.out] at q5; rw [HSD.out] at q6; clear k5; have HC5 := Lib.hid hx5; have HR5 := Lib.hid (HR4.out.chg (Chg.of_grown hg5) (fun e => HN4.out _ e rfl)); have HN5 := Lib.hid (own_ne2 HN4.out hob5 HR4.out.lt); rw [u8s_append] at ho5; rw [← List.length_append] at ho5; have HO5 := Lib.hid ho5; clear hx5 hg5 hob5 ho5) | ((with_reducible show Calls _ _ #[.int .u64 (f.a : Int)] _ _); refine (HPa.out _).mono ?_; rintro e w4 ⟨g4, rfl, hr4, hg4, hc4⟩; have hx4 := HC3.out.trans hc4; have k4 := HRX.out _ (hx4); have hlt := k4.lt; have q0 := k4.cell 0; rw [cF_0] at q0; have q1 := k4.cell 1; rw [cF_1] at q1; have q2 := k4.cell 2; rw [cF_2] at q2; have q4 := k4.cell 4; rw [cF_4] at q4; have q5 := k4.cell 5; rw [cF_5] at q5; have q6 := k4.cell 6; rw [cF_6] at q6; rw [HK.out] at q0; rw [HFL.out] at q5; rw [HSD.out] at q6; clear k4; have HC4 := Lib.hid hx4; have HV4 := Lib.hid hr4; have HO4 := Lib.hid (ownsRow_chg HO3.out hc4); have HR4 := Lib.hid (HR3.out.chg hc4 (fun h => h)); have HN4 := HN3; clear hx4 hr4 hg4 hc4))
  rw [rounds_succ]
  go_wp2_with (first | (at_builtin; refine wpList_append_view rfl _ _ 23 rfl 5 i0 _ 1 Tryd.underlying23 hi hz0 hz1 hz2 rfl w1.heap.size (.slice (some ⟨w2.heap.size, 0, none⟩) 1 1) ([23]).length (u8s ([23])) rfl HO4.out (fun _ => True) (some ⟨g4, 0, none⟩) (encI f.a).length (encI f.a).length (u8s (encI f.a)) rfl (rowView HV4.out) (u8s_one _) (by simp only [List.length_append, List.length_cons, List.length_nil]; unfold maxLen; omega) (by simp only [List.length_append, List.length_cons, List.length_nil]; omega) HC4.out.size ?_; intro v5 w5 ho5 hg5 hob5; have hx5 := (HC4.out).append (Nat.le_refl _) HO4.out hg5; have k5 := HRX.out _ (hx5); have hlt := k5.lt; have q0 := k5.cell 0; rw [cF_0] at q0; have q1 := k5.cell 1; rw [cF_1] at q1; have q2 := k5.cell 2; rw [cF_2] at q2; have q4 := k5.cell 4; rw [cF_4] at q4; have q5 := k5.cell 5; rw [cF_5] at q5; have q6 := k5.cell 6; rw [cF_6] at q6; rw [HK.out] at q0; rw [HFL.out] at q5; rw [HSD.out] at q6; clear k5; have HC5 := Lib.hid hx5; have HR5 := Lib.hid (HR4.out.chg (Chg.of_grown hg5) (fun e => HN4.out _ e rfl)); have HN5 := Lib.hid (own_ne2 HN4.out hob5 HR4.out.lt); rw [u8s_append] at ho5; rw [← List.length_append] at ho5; have HO5 := Lib.hid ho5; clear hx5 hg5 hob5 ho5) | ((with_reducible show Calls _ _ #[.int .u64 (f.a : Int)] _ _); refine (HPa.out _).mono ?_; rintro e w4 ⟨g4, rfl, hr4, hg4, hc4⟩; have hx4 := HC3.out.trans hc4; have k4 := HRX.out _ (hx4); have hlt := k4.lt; have q0 := k4.cell 0; rw [cF_0] at q0; have q1 := k4.cell 1; rw [cF_1] at q1; have q2 := k4.cell 2; rw [cF_2] at q2; have q4 := k4.cell 4; rw [cF_4] at q4; have q5 := k4.cell 5; rw [cF_5] at q5; have q6 := k4.cell 6; rw [cF_6] at q6; rw [HK.out] at q0; rw [HFL.out] at q5; rw [HSD.out] at q6; clear k4; have HC4 := Lib.hid hx4; have HV4 := Lib.hid hr4; have HO4 := Lib.hid (ownsRow_chg HO3.out hc4); have HR4 := Lib.hid (HR3.out.chg hc4 (fun h => h)); have HN4 := HN3; clear hx4 hr4 hg4 hc4))
  rw [rounds_succ]
  go_wp2
  go_ret
  obtain ⟨Ar, cr, rfl, _, _, hvw⟩ := View.own (T := fun b => w.heap.size ≤ b) HO5.out (fun b hb => Nat.le_trans HC1.out.size hb)
  have hP := HPUT.out
  subst hP
  exact ⟨Ar, cr, rfl, hvw, HC1.out.trans HC5.out⟩

set_option maxRecDepth 100000 in
set_option maxHeartbeats 8000000 in
theorem rput_24 (f : Fr) (sd sr : Value) (T : Nat → Prop) (w : World) (hd : FrD w T f sd sr) (of : f.Ok) (hr : rightB f = true) (hk : f.kind = 24) (hf : f.flag = false) (hn : 1 ≤ f.data.length ∧ f.data.length ≤ 20) :
    Calls Tryd.prog 10 #[.agg (cellsF f sd sr).toArray] w (BytesNew w (putM f)) := by
  have hput : putM f = [24] ++ encI f.id ++ encI f.a ++ [f.data.length] ++ f.data ++ f.tok := put_24 hr hk hf (by omega)
  have HTK := Lib.hid hd.tok
  have HPUT := Lib.hid hput
  generalize putM f = P at HPUT ⊢
  obtain ⟨i0, hi, hz0, hz1, hz2⟩ := info_parts info5
  have HRR : Hid (∀ w', Chg none_ w w' → Calls Tryd.prog 7 #[.agg (cellsF f sd sr).toArray] w' fun e w'' => e = .returned (.bool true) ∧ Chg none_ w' w'') := Lib.hid (fun w' hc => by have := rright_any f sd sr T w' (hd.chg hc (fun _ _ h => h)) of; rwa [hr] at this)
  have HWH : Hid (∀ w, Calls Tryd.prog 17 #[.int .i64 24] w fun e w' => e = .returned (.string ⟨#[105, 97, 100, 116]⟩) ∧ w' = w) := Lib.hid (fun w => what_any 24 w)
  have HSZ : Hid ((Tryd.prog.info? 27).map (·.size) = some (cellsF f sd sr).length) := Lib.hid (by rw [cF_len _ _ _ hd.tok]; exact size27)
  obtain ⟨A, c, hsd, hdl, hvd⟩ := hd.data
  have HSD := Lib.hid hsd
  have HVD : Hid (∀ w', Chg none_ w w' → View w' (fun _ => True) A f.data.length (u8s f.data)) := Lib.hid (fun w' hc => (hvd.chg hc (fun _ _ h => h)).mono (fun _ _ _ => trivial))
  have HPS := Lib.hid (rput_new f.data.length (by omega))
  have HPi := Lib.hid (rput_new f.id (right_small of hr).1)
  have HPa := Lib.hid (rput_new f.a (right_small of hr).2.1)
  have HPc := Lib.hid (rput_new f.code (right_small of hr).2.2)
  have HK := Lib.hid hk
  have HFL := Lib.hid hf
  have l1 := encI_len f.id
  have l2 := encI_len f.a
  have l3 := encI_len f.code
  have l4 := encI_len f.data.length
  clear hd of hr hk hf hsd hvd hput
  go_enter Tryd.func10, Tryd.ntmps10
  go_wp2_with (first | (at_builtin; refine wpList_append_view rfl _ _ 23 rfl 5 i0 _ 1 Tryd.underlying23 hi hz0 hz1 hz2 rfl w1.heap.size v9 ([24] ++ encI f.id ++ encI f.a ++ [f.data.length] ++ f.data).length (u8s ([24] ++ encI f.id ++ encI f.a ++ [f.data.length] ++ f.data)) rfl HO9.out (fun _ => True) (some ⟨w.heap.size, 8, none⟩) 16 16 (u8s f.tok) rfl (tokView (HRX.out _ HC9.out) HTK.out) (u8s_one _) (by simp only [List.length_append, List.length_cons, List.length_nil]; unfold maxLen; omega) (by simp only [List.length_append, List.length_cons, List.length_nil]; omega) HC9.out.size ?_; intro v10 w10 ho10 hg10 hob10; have hx10 := (HC9.out).append (Nat.le_refl _) HO9.out hg10; have k10 := HRX.out _ (hx10); have hlt := k10.lt; have q0 := k10.cell 0; rw [cF_0] at q0; have q1 := k10.cell 1; rw [cF_1] at q1; have q2 := k10.cell 2; rw [cF_2] at q2; have q4 := k10.cell 4; rw [cF_4] at q4; have q5 := k10.cell 5; rw [cF_5] at q5; have q6 := k10.cell 6; rw [cF_6] at q6; rw [HK.out] at q0; rw [HFL.out] at q5; rw [HSD.out] at q6; clear k10; have HC10 := Lib.hid hx10; have HR10 := Lib.hid (HR9.out.chg (Chg.of_grown hg10) (fun e => HN9.out _ e rfl)); have HN10 := Lib.hid (own_ne2 HN9.out hob10 HR9.out.lt); rw [u8s_append] at ho10; rw [← HTK.out] at ho10; rw [← List.length_append] at ho10; have HO10 := Lib.hid ho10; clear hx10 hg10 hob10 ho10) | (at_builtin; refine wpList_append_view rfl _ _ 23 rfl 5 i0 _ 1 Tryd.underlying23 hi hz0 hz1 hz2 rfl w1.heap.size v8 ([24] ++ encI f.id ++ encI f.a ++ [f.data.length]).length (u8s ([24] ++ encI f.id ++ encI f.a ++ [f.data.length])) rfl HO8.out (fun _ => True) A f.data.length c (u8s f.data) rfl (HVD.out _ (HC1.out.trans HC8.out)) (u8s_one _) (by simp only [List.length_append, List.length_cons, List.length_nil]; unfold maxLen; omega) (by simp only [List.length_append, List.length_cons, List.length_nil]; omega) HC8.out.size ?_; intro v9 w9 ho9 hg9 hob9; have hx9 := (HC8.out).append (Nat.le_refl _) HO8.out hg9; have k9 := HRX.out _ (hx9); have hlt := k9.lt; have q0 := k9.cell 0; rw [cF_0] at q0; have q1 := k9.cell 1; rw [cF_1] at q1; have q2 := k9.cell 2; rw [cF_2] at q2; have q4 := k9.cell 4; rw [cF_4] at q4; have q5 := k9.cell 5; rw [cF_5] at q5; have q6 := k9.cell 6; rw [cF_6] at q6; rw [HK.out] at q0; rw [HFL.out] at q5; rw [HSD.out] at q6; clear k9; have HC9 := Lib.hid hx9; have HR9 := Lib.hid (HR8.out.chg (Chg.of_grown hg9) (fun e => HN8.out _ e rfl)); have HN9 := Lib.hid (own_ne2 HN8.out hob9 HR8.out.lt); rw [u8s_append] at ho9; rw [← List.length_append] at ho9; have HO9 := Lib.hid ho9; clear hx9 hg9 hob9 ho9) | (at_builtin; refine wpList_append_view rfl _ _ 23 rfl 5 i0 _ 1 Tryd.underlying23 hi hz0 hz1 hz2 rfl w1.heap.size v7 ([24] ++ encI f.id ++ encI f.a).length (u8s ([24] ++ encI f.id ++ encI f.a)) rfl (ownsRow_chg HO7.out ((Chg.refl none_ w7).alloc _)) (fun _ => True) (some ⟨w7.heap.size, 0, none⟩) 1 1 (u8s [f.data.length]) rfl (rowView (l := [f.data.length]) (Row.new w7 5 (u8s [f.data.length]))) (u8s_one _) (by simp only [List.length_append, List.length_cons, List.length_nil]; unfold maxLen; omega) (by simp only [List.length_append, List.length_cons, List.length_nil]; omega) (HC7.out.alloc _).size ?_; intro v8 w8 ho8 hg8 hob8; have hx8 := (HC7.out.alloc _).append (Nat.le_refl _) (ownsRow_chg HO7.out ((Chg.refl none_ w7).alloc _)) hg8; have k8 := HRX.out _ (hx8); have hlt := k8.lt; have q0 := k8.cell 0; rw [cF_0] at q0; have q1 := k8.cell 1; rw [cF_1] at q1; have q2 := k8.cell 2; rw [cF_2] at q2; have q4 := k8.cell 4; rw [cF_4] at q4; have q5 := k8.cell 5; rw [cF_5] at q5; have q6 := k8.cell 6; rw [cF_6] at q6; rw [HK.out] at q0; rw [HFL.out] at q5; rw [HSD.out] at q6; clear k8; have HC8 := Lib.hid hx8; have HR8 := Lib.hid ((HR7.out.alloc _).chg (Chg.of_grown hg8) (fun e => HN7.out _ e rfl)); have HN8 := Lib.hid (own_ne2 HN7.out hob8 (HR7.out.alloc _).lt); rw [u8s_append] at ho8; rw [← List.length_singleton (a := f.data.length), ← List.length_append] at ho8; have HO8 := Lib.hid ho8; clear hx8 hg8 hob8 ho8) | (at_builtin; refine wpList_append_view rfl _ _ 23 rfl 5 i0 _ 1 Tryd.underlying23 hi hz0 hz1 hz2 rfl w1.heap.size v5 ([24] ++ encI f.id).length (u8s ([24] ++ encI f.id)) rfl HO6.out (fun _ => True) (some ⟨g6, 0, none⟩) (encI f.a).length (encI f.a).length (u8s (encI f.a)) rfl (rowView HV6.out) (u8s_one _) (by simp only [List.length_append, List.length_cons, List.length_nil]; unfold maxLen; omega) (by simp only [List.length_append, List.length_cons, List.length_nil]; omega) HC6.out.size ?_; intro v7 w7 ho7 hg7 hob7; have hx7 := (HC6.out).append (Nat.le_refl _) HO6.out hg7; have k7 := HRX.out _ (hx7); have hlt := k7.lt; have q0 := k7.cell 0; rw [cF_0] at q0; have q1 := k7.cell 1; rw [cF_1] at q1; have q2 := k7.cell 2; rw [cF_2] at q2; have q4 := k7.cell 4; rw [cF_4] at q4; have q5 := k7.cell 5; rw [cF_5] at q5; have q6 := k7.cell 6; rw [cF_6] at q6; rw [HK.out] at q0; rw [HFL.out] at q5; rw [HSD.out] at q6; clear k7; have HC7 := Lib.hid hx7; have HR7 := Lib.hid (HR6.out.chg (Chg.of_grown hg7) (fun e => HN6.out _ e rfl)); have HN7 := Lib.hid (own_ne2 HN6.out hob7 HR6.out.lt); rw [u8s_append] at ho7; rw [← List.length_append] at ho7; have HO7 := Lib.hid ho7; clear hx7 hg7 hob7 ho7) | ((with_reducible show Calls _ _ #[.int .u64 (f.a : Int)] _ _); refine (HPa.out _).mono ?_; rintro e w6 ⟨g6, rfl, hr6, hg6, hc6⟩; have hx6 := HC5.out.trans hc6; have k6 := HRX.out _ (hx6); have hlt := k6.lt; have q0 := k6.cell 0; rw [cF_0] at q0; have q1 := k6.cell 1; rw [cF_1] at q1; have q2 := k6.cell 2; rw [cF_2] at q2; have q4 := k6.cell 4; rw [cF_4] at q4; have q5 := k6.cell 5; rw [cF_5] at q5; have q6 := k6.cell 6; rw [cF_6] at q6; rw [HK.out] at q0; rw [HFL.out] at q5; rw [HSD.out] at q6; clear k6; have HC6 := Lib.hid hx6; have HV6 := Lib.hid hr6; have HO6 := Lib.hid (ownsRow_chg HO5.out hc6); have HR6 := Lib.hid (HR5.out.chg hc6 (fun h => h)); have HN6 := HN5; clear hx6 hr6 hg6 hc6) | (at_builtin; refine wpList_append_view rfl _ _ 23 rfl 5 i0 _ 1 Tryd.underlying23 hi hz0 hz1 hz2 rfl w1.heap.size (.slice (some ⟨w2.heap.size, 0, none⟩) 1 1) ([24]).length (u8s ([24])) rfl HO4.out (fun _ => True) (some ⟨g4, 0, none⟩) (encI f.id).length (encI f.id).length (u8s (encI f.id)) rfl (rowView HV4.out) (u8s_one _) (by simp only [List.length_append, List.length_cons, List.length_nil]; unfold maxLen; omega) (by simp only [List.length_append, List.length_cons, List.length_nil]; omega) HC4.out.size ?_; intro v5 w5 ho5 hg5 hob5; have hx5 := (HC4.out).append (Nat.le_refl _) HO4.out hg5; have k5 := HRX.out _ (hx5); have hlt := k5.lt; have q0 := k5.cell 0; rw [cF_0] at q0; have q1 := k5.cell 1; rw [cF_1] at q1; have q2 := k5.cell 2; rw [cF_2] at q2; have q4 := k5.cell 4; rw [cF_4] at q4; have q5 := k5.cell 5; rw [cF_5] at q5; have q6 := k5.cell 6; rw [cF_6] at q6; rw [HK.out] at q0; rw [HFL.out] at q5; rw [HSD.out] at q6; clear k5; have HC5 := Lib.hid hx5; have HR5 := Lib.hid (HR4.out.chg (Chg.of_grown hg5) (fun e => HN4.out _ e rfl)); have HN5 := Lib.hid (own_ne2 HN4.out hob5 HR4.out.lt); rw [u8s_append] at ho5; rw [← List.length_append] at ho5; have HO5 := Lib.hid ho5; clear hx5 hg5 hob5 ho5) | ((with_reducible show Calls _ _ #[.int .u64 (f.id : Int)] _ _); refine (HPi.out _).mono ?_; rintro e w4 ⟨g4, rfl, hr4, hg4, hc4⟩; have hx4 := HC3.out.trans hc4; have k4 := HRX.out _ (hx4); have hlt := k4.lt; have q0 := k4.cell 0; rw [cF_0] at q0; have q1 := k4.cell 1; rw [cF_1] at q1; have q2 := k4.cell 2; rw [cF_2] at q2; have q4 := k4.cell 4; rw [cF_4] at q4; have q5 := k4.cell 5; rw [cF_5] at q5; have q6 := k4.cell 6; rw [cF_6] at q6; rw [HK.out] at q0; rw [HFL.out] at q5; rw [HSD.out] at q6; clear k4; have HC4 := Lib.hid hx4; have HV4 := Lib.hid hr4; have HO4 := Lib.hid (ownsRow_chg HO3.out hc4); have HR4 := Lib.hid (HR3.out.chg hc4 (fun h => h)); have HN4 := HN3; clear hx4 hr4 hg4 hc4) | ((with_reducible show wpList _ _ _ (⟨some 1, .box _ _, _, _, _, _⟩ :: _) _ _); refine wpList_box_Row rfl rfl (cellsF f sd sr) rfl ?_; intro w1 hr1 hc1 hs1; have HRX := Lib.hid (show ∀ x, Chg none_ w1 x → Row x w.heap.size 27 (cellsF f sd sr) from fun x hx => hr1.chg hx (fun h => h)); have HC1 := Lib.hid hc1; clear hr1 hc1 hs1) | ((with_reducible show wpList _ _ _ (⟨some 10, .load _ _, _, _, _, _⟩ :: _) _ _); refine wpList_load_Row (cs := cellsF f sd sr) rfl rfl rfl (HRX.out _ (Chg.refl _ _)) Tryd.underlying27 rfl HSZ.out ?_) | (go_at_call 7; refine (HRR.out _ HC1.out).mono ?_; rintro e w2 ⟨rfl, hc⟩; have k2 := HRX.out _ (hc); have hlt := k2.lt; have q0 := k2.cell 0; rw [cF_0] at q0; have q1 := k2.cell 1; rw [cF_1] at q1; have q2 := k2.cell 2; rw [cF_2] at q2; have q4 := k2.cell 4; rw [cF_4] at q4; have q5 := k2.cell 5; rw [cF_5] at q5; have q6 := k2.cell 6; rw [cF_6] at q6; rw [HK.out] at q0; rw [HFL.out] at q5; rw [HSD.out] at q6; clear k2; have HC2 := Lib.hid hc; clear hc) | ((with_reducible show Calls _ _ #[.int .u64 (f.data.length : Int)] _ _); refine (HPS.out _).mono ?_; rintro e w3 ⟨g3, rfl, hr3, hg3, hc3⟩; have hx3 := ((HC2.out.alloc _).trans hc3 : Chg none_ w1 w3); have k3 := HRX.out _ (hx3); have hlt := k3.lt; have q0 := k3.cell 0; rw [cF_0] at q0; have q1 := k3.cell 1; rw [cF_1] at q1; have q2 := k3.cell 2; rw [cF_2] at q2; have q4 := k3.cell 4; rw [cF_4] at q4; have q5 := k3.cell 5; rw [cF_5] at q5; have q6 := k3.cell 6; rw [cF_6] at q6; rw [HK.out] at q0; rw [HFL.out] at q5; rw [HSD.out] at q6; clear k3; have HC3 := Lib.hid hx3; have HR3 := Lib.hid hr3; have HN3 := Lib.hid (own_ne1 (w := w2) hg3); have HO3 := Lib.hid (ownsRow_chg (own_of_row (base := w1.heap.size) (n := 1) (Row.new w2 5 (u8s [24])) HC2.out.size rfl (by decide)) hc3); clear hx3 hr3 hg3 hc3))
  go_ret
  obtain ⟨Ar, cr, rfl, _, _, hvw⟩ := View.own (T := fun b => w.heap.size ≤ b) HO10.out (fun b hb => Nat.le_trans HC1.out.size hb)
  have hP := HPUT.out
  subst hP
  exact ⟨Ar, cr, rfl, hvw, HC1.out.trans HC10.out⟩

set_option maxRecDepth 100000 in
set_option maxHeartbeats 8000000 in
theorem rput_25 (f : Fr) (sd sr : Value) (T : Nat → Prop) (w : World) (hd : FrD w T f sd sr) (of : f.Ok) (hr : rightB f = true) (hk : f.kind = 25) (hf : f.flag = false) :
    Calls Tryd.prog 10 #[.agg (cellsF f sd sr).toArray] w (BytesNew w (putM f)) := by
  have hput : putM f = [25] ++ encI f.id := put_25 hr hk hf
  have HTK := Lib.hid hd.tok
  have HPUT := Lib.hid hput
  generalize putM f = P at HPUT ⊢
  obtain ⟨i0, hi, hz0, hz1, hz2⟩ := info_parts info5
  have HRR : Hid (∀ w', Chg none_ w w' → Calls Tryd.prog 7 #[.agg (cellsF f sd sr).toArray] w' fun e w'' => e = .returned (.bool true) ∧ Chg none_ w' w'') := Lib.hid (fun w' hc => by have := rright_any f sd sr T w' (hd.chg hc (fun _ _ h => h)) of; rwa [hr] at this)
  have HWH : Hid (∀ w, Calls Tryd.prog 17 #[.int .i64 25] w fun e w' => e = .returned (.string ⟨#[105]⟩) ∧ w' = w) := Lib.hid (fun w => what_any 25 w)
  have HSZ : Hid ((Tryd.prog.info? 27).map (·.size) = some (cellsF f sd sr).length) := Lib.hid (by rw [cF_len _ _ _ hd.tok]; exact size27)
  obtain ⟨A, c, hsd, hdl, hvd⟩ := hd.data
  have HSD := Lib.hid hsd
  have HVD : Hid (∀ w', Chg none_ w w' → View w' (fun _ => True) A f.data.length (u8s f.data)) := Lib.hid (fun w' hc => (hvd.chg hc (fun _ _ h => h)).mono (fun _ _ _ => trivial))
  have HPS := Lib.hid (rput_new f.data.length (by omega))
  have HPi := Lib.hid (rput_new f.id (right_small of hr).1)
  have HPa := Lib.hid (rput_new f.a (right_small of hr).2.1)
  have HPc := Lib.hid (rput_new f.code (right_small of hr).2.2)
  have HK := Lib.hid hk
  have HFL := Lib.hid hf
  have l1 := encI_len f.id
  have l2 := encI_len f.a
  have l3 := encI_len f.code
  have l4 := encI_len f.data.length
  clear hd of hr hk hf hsd hvd hput
  go_enter Tryd.func10, Tryd.ntmps10
  go_wp2_with (first | ((with_reducible show wpList _ _ _ (⟨some 1, .box _ _, _, _, _, _⟩ :: _) _ _); refine wpList_box_Row rfl rfl (cellsF f sd sr) rfl ?_; intro w1 hr1 hc1 hs1; have HRX := Lib.hid (show ∀ x, Chg none_ w1 x → Row x w.heap.size 27 (cellsF f sd sr) from fun x hx => hr1.chg hx (fun h => h)); have HC1 := Lib.hid hc1; clear hr1 hc1 hs1) | ((with_reducible show wpList _ _ _ (⟨some 10, .load _ _, _, _, _, _⟩ :: _) _ _); refine wpList_load_Row (cs := cellsF f sd sr) rfl rfl rfl (HRX.out _ (Chg.refl _ _)) Tryd.underlying27 rfl HSZ.out ?_) | (go_at_call 7; refine (HRR.out _ HC1.out).mono ?_; rintro e w2 ⟨rfl, hc⟩; have k2 := HRX.out _ (hc); have hlt := k2.lt; have q0 := k2.cell 0; rw [cF_0] at q0; have q1 := k2.cell 1; rw [cF_1] at q1; have q2 := k2.cell 2; rw [cF_2] at q2; have q4 := k2.cell 4; rw [cF_4] at q4; have q5 := k2.cell 5; rw [cF_5] at q5; have q6 := k2.cell 6; rw [cF_6] at q6; rw [HK.out] at q0; rw [HFL.out] at q5; rw [HSD.out] at q6; clear k2; have HC2 := Lib.hid hc; clear hc) | (go_at_call 17; refine (HWH.out _).mono ?_; rintro e wW ⟨rfl, rfl⟩) | ((with_reducible show Calls _ _ #[.int .u64 (f.data.length : Int)] _ _); refine (HPS.out _).mono ?_; rintro e w3 ⟨g3, rfl, hr3, hg3, hc3⟩; have hx3 := ((HC2.out.alloc _).trans hc3 : Chg none_ w1 w3); have k3 := HRX.out _ (hx3); have hlt := k3.lt; have q0 := k3.cell 0; rw [cF_0] at q0; have q1 := k3.cell 1; rw [cF_1] at q1; have q2 := k3.cell 2; rw [cF_2] at q2; have q4 := k3.cell 4; rw [cF_4] at q4; have q5 := k3.cell 5; rw [cF_5] at q5; have q6 := k3.cell 6; rw [cF_6] at q6; rw [HK.out] at q0; rw [HFL.out] at q5; rw [HSD.out] at q6; clear k3; have HC3 := Lib.hid hx3; have HR3 := Lib.hid hr3; have HN3 := Lib.hid (own_ne1 (w := w2) hg3); have HO3 := Lib.hid (ownsRow_chg (own_of_row (base := w1.heap.size) (n := 1) (Row.new w2 5 (u8s [25])) HC2.out.size rfl (by decide)) hc3); clear hx3 hr3 hg3 hc3))
  have ix0 : ((({ data := #[105] } : ByteArray)[0]).toNat : Int) = 105 := rfl
  refine wp_loop_rounds 2 ?_
  rw [rounds_succ]
  go_wp2_with (first | (at_builtin; refine wpList_append_view rfl _ _ 23 rfl 5 i0 _ 1 Tryd.underlying23 hi hz0 hz1 hz2 rfl w1.heap.size (.slice (some ⟨w2.heap.size, 0, none⟩) 1 1) ([25]).length (u8s ([25])) rfl HO4.out (fun _ => True) (some ⟨g4, 0, none⟩) (encI f.id).length (encI f.id).length (u8s (encI f.id)) rfl (rowView HV4.out) (u8s_one _) (by simp only [List.length_cons, List.length_nil]; unfold maxLen; omega) (by simp only [List.length_cons, List.length_nil]; omega) HC4.out.size ?_; intro v5 w5 ho5 hg5 hob5; have hx5 := (HC4.out).append (Nat.le_refl _) HO4.out hg5; have k5 := HRX.out _ (hx5); have hlt := k5.lt; have q0 := k5.cell 0; rw [cF_0] at q0; have q1 := k5.cell 1; rw [cF_1] at q1; have q2 := k5.cell 2; rw [cF_2] at q2; have q4 := k5.cell 4; rw [cF_4] at q4; have q5 := k5.cell 5; rw [cF_5] at q5; have q6 := k5.cell 6; rw [cF_6] at q6; rw [HK.out] at q0; rw [HFL.out] at q5; rw [HSD.out] at q6; clear k5; have HC5 := Lib.hid hx5; have HR5 := Lib.hid (HR4.out.chg (Chg.of_grown hg5) (fun e => HN4.out _ e rfl)); have HN5 := Lib.hid (own_ne2 HN4.out hob5 HR4.out.lt); rw [u8s_append] at ho5; rw [← List.length_append] at ho5; have HO5 := Lib.hid ho5; clear hx5 hg5 hob5 ho5) | ((with_reducible show Calls _ _ #[.int .u64 (f.id : Int)] _ _); refine (HPi.out _).mono ?_; rintro e w4 ⟨g4, rfl, hr4, hg4, hc4⟩; have hx4 := HC3.out.trans hc4; have k4 := HRX.out _ (hx4); have hlt := k4.lt; have q0 := k4.cell 0; rw [cF_0] at q0; have q1 := k4.cell 1; rw [cF_1] at q1; have q2 := k4.cell 2; rw [cF_2] at q2; have q4 := k4.cell 4; rw [cF_4] at q4; have q5 := k4.cell 5; rw [cF_5] at q5; have q6 := k4.cell 6; rw [cF_6] at q6; rw [HK.out] at q0; rw [HFL.out] at q5; rw [HSD.out] at q6; clear k4; have HC4 := Lib.hid hx4; have HV4 := Lib.hid hr4; have HO4 := Lib.hid (ownsRow_chg HO3.out hc4); have HR4 := Lib.hid (HR3.out.chg hc4 (fun h => h)); have HN4 := HN3; clear hx4 hr4 hg4 hc4))
  rw [rounds_succ]
  go_wp2
  go_ret
  obtain ⟨Ar, cr, rfl, _, _, hvw⟩ := View.own (T := fun b => w.heap.size ≤ b) HO5.out (fun b hb => Nat.le_trans HC1.out.size hb)
  have hP := HPUT.out
  subst hP
  exact ⟨Ar, cr, rfl, hvw, HC1.out.trans HC5.out⟩

set_option maxRecDepth 100000 in
set_option maxHeartbeats 8000000 in
theorem rput_28_f0 (f : Fr) (sd sr : Value) (T : Nat → Prop) (w : World) (hd : FrD w T f sd sr) (of : f.Ok) (hr : rightB f = true) (hk : f.kind = 28) (hf : f.flag = false) :
    Calls Tryd.prog 10 #[.agg (cellsF f sd sr).toArray] w (BytesNew w (putM f)) := by
  have hput : putM f = [28] ++ encI f.code ++ encI f.a ++ encI f.data.length ++ f.data := put_28_f0 hr hk hf
  have HTK := Lib.hid hd.tok
  have HPUT := Lib.hid hput
  generalize putM f = P at HPUT ⊢
  obtain ⟨i0, hi, hz0, hz1, hz2⟩ := info_parts info5
  have HRR : Hid (∀ w', Chg none_ w w' → Calls Tryd.prog 7 #[.agg (cellsF f sd sr).toArray] w' fun e w'' => e = .returned (.bool true) ∧ Chg none_ w' w'') := Lib.hid (fun w' hc => by have := rright_any f sd sr T w' (hd.chg hc (fun _ _ h => h)) of; rwa [hr] at this)
  have HWH : Hid (∀ w, Calls Tryd.prog 17 #[.int .i64 28] w fun e w' => e = .returned (.string ⟨#[99, 97, 102, 100]⟩) ∧ w' = w) := Lib.hid (fun w => what_any 28 w)
  have HSZ : Hid ((Tryd.prog.info? 27).map (·.size) = some (cellsF f sd sr).length) := Lib.hid (by rw [cF_len _ _ _ hd.tok]; exact size27)
  obtain ⟨A, c, hsd, hdl, hvd⟩ := hd.data
  have HSD := Lib.hid hsd
  have HVD : Hid (∀ w', Chg none_ w w' → View w' (fun _ => True) A f.data.length (u8s f.data)) := Lib.hid (fun w' hc => (hvd.chg hc (fun _ _ h => h)).mono (fun _ _ _ => trivial))
  have HPS := Lib.hid (rput_new f.data.length (by omega))
  have HPi := Lib.hid (rput_new f.id (right_small of hr).1)
  have HPa := Lib.hid (rput_new f.a (right_small of hr).2.1)
  have HPc := Lib.hid (rput_new f.code (right_small of hr).2.2)
  have HK := Lib.hid hk
  have HFL := Lib.hid hf
  have l1 := encI_len f.id
  have l2 := encI_len f.a
  have l3 := encI_len f.code
  have l4 := encI_len f.data.length
  clear hd of hr hk hf hsd hvd hput
  go_enter Tryd.func10, Tryd.ntmps10
  go_wp2_with (first | ((with_reducible show wpList _ _ _ (⟨some 1, .box _ _, _, _, _, _⟩ :: _) _ _); refine wpList_box_Row rfl rfl (cellsF f sd sr) rfl ?_; intro w1 hr1 hc1 hs1; have HRX := Lib.hid (show ∀ x, Chg none_ w1 x → Row x w.heap.size 27 (cellsF f sd sr) from fun x hx => hr1.chg hx (fun h => h)); have HC1 := Lib.hid hc1; clear hr1 hc1 hs1) | ((with_reducible show wpList _ _ _ (⟨some 10, .load _ _, _, _, _, _⟩ :: _) _ _); refine wpList_load_Row (cs := cellsF f sd sr) rfl rfl rfl (HRX.out _ (Chg.refl _ _)) Tryd.underlying27 rfl HSZ.out ?_) | (go_at_call 7; refine (HRR.out _ HC1.out).mono ?_; rintro e w2 ⟨rfl, hc⟩; have k2 := HRX.out _ (hc); have hlt := k2.lt; have q0 := k2.cell 0; rw [cF_0] at q0; have q1 := k2.cell 1; rw [cF_1] at q1; have q2 := k2.cell 2; rw [cF_2] at q2; have q4 := k2.cell 4; rw [cF_4] at q4; have q5 := k2.cell 5; rw [cF_5] at q5; have q6 := k2.cell 6; rw [cF_6] at q6; rw [HK.out] at q0; rw [HFL.out] at q5; rw [HSD.out] at q6; clear k2; have HC2 := Lib.hid hc; clear hc) | (go_at_call 17; refine (HWH.out _).mono ?_; rintro e wW ⟨rfl, rfl⟩) | ((with_reducible show Calls _ _ #[.int .u64 (f.data.length : Int)] _ _); refine (HPS.out _).mono ?_; rintro e w3 ⟨g3, rfl, hr3, hg3, hc3⟩; have hx3 := ((HC2.out.alloc _).trans hc3 : Chg none_ w1 w3); have k3 := HRX.out _ (hx3); have hlt := k3.lt; have q0 := k3.cell 0; rw [cF_0] at q0; have q1 := k3.cell 1; rw [cF_1] at q1; have q2 := k3.cell 2; rw [cF_2] at q2; have q4 := k3.cell 4; rw [cF_4] at q4; have q5 := k3.cell 5; rw [cF_5] at q5; have q6 := k3.cell 6; rw [cF_6] at q6; rw [HK.out] at q0; rw [HFL.out] at q5; rw [HSD.out] at q6; clear k3; have HC3 := Lib.hid hx3; have HR3 := Lib.hid hr3; have HN3 := Lib.hid (own_ne1 (w := w2) hg3); have HO3 := Lib.hid (ownsRow_chg (own_of_row (base := w1.heap.size) (n := 1) (Row.new w2 5 (u8s [28])) HC2.out.size rfl (by decide)) hc3); clear hx3 hr3 hg3 hc3))
  have ix0 : ((({ data := #[99, 97, 102, 100] } : ByteArray)[0]).toNat : Int) = 99 := rfl
  have ix1 : ((({ data := #[99, 97, 102, 100] } : ByteArray)[1]).toNat : Int) = 97 := rfl
  have ix2 : ((({ data := #[99, 97, 102, 100] } : ByteArray)[2]).toNat : Int) = 102 := rfl
  have ix3 : ((({ data := #[99, 97, 102, 100] } : ByteArray)[3]).toNat : Int) = 100 := rfl
  refine wp_loop_rounds 5 ?_
  rw [rounds_succ]
  go_wp2_with (first | (at_builtin; refine wpList_append_view rfl _ _ 23 rfl 5 i0 _ 1 Tryd.underlying23 hi hz0 hz1 hz2 rfl w1.heap.size v8 ([28] ++ encI f.code ++ encI f.a ++ encI f.data.length).length (u8s ([28] ++ encI f.code ++ encI f.a ++ encI f.data.length)) rfl HO8.out (fun _ => True) A f.data.length c (u8s f.data) rfl (HVD.out _ (HC1.out.trans HC8.out)) (u8s_one _) (by simp only [List.length_cons, List.length_nil]; unfold maxLen; omega) (by simp only [List.length_cons, List.length_nil]; omega) HC8.out.size ?_; intro v9 w9 ho9 hg9 hob9; have hx9 := (HC8.out).append (Nat.le_refl _) HO8.out hg9; have k9 := HRX.out _ (hx9); have hlt := k9.lt; have q0 := k9.cell 0; rw [cF_0] at q0; have q1 := k9.cell 1; rw [cF_1] at q1; have q2 := k9.cell 2; rw [cF_2] at q2; have q4 := k9.cell 4; rw [cF_4] at q4; have q5 := k9.cell 5; rw [cF_5] at q5; have q6 := k9.cell 6; rw [cF_6] at q6; rw [HK.out] at q0; rw [HFL.out] at q5; rw [HSD.out] at q6; clear k9; have HC9 := Lib.hid hx9; have HR9 := Lib.hid (HR8.out.chg (Chg.of_grown hg9) (fun e => HN8.out _ e rfl)); have HN9 := Lib.hid (own_ne2 HN8.out hob9 HR8.out.lt); rw [u8s_append] at ho9; rw [← List.length_append] at ho9; have HO9 := Lib.hid ho9; clear hx9 hg9 hob9 ho9) | (at_builtin; refine wpList_append_view rfl _ _ 23 rfl 5 i0 _ 1 Tryd.underlying23 hi hz0 hz1 hz2 rfl w1.heap.size v7 ([28] ++ encI f.code ++ encI f.a).length (u8s ([28] ++ encI f.code ++ encI f.a)) rfl HO7.out (fun _ => True) (some ⟨g3, 0, none⟩) (encI f.data.length).length (encI f.data.length).length (u8s (encI f.data.length)) rfl (rowView HR7.out) (u8s_one _) (by simp only [List.length_append, List.length_cons, List.length_nil]; unfold maxLen; omega) (by simp only [List.length_append, List.length_cons, List.length_nil]; omega) HC7.out.size ?_; intro v8 w8 ho8 hg8 hob8; have hx8 := (HC7.out).append (Nat.le_refl _) HO7.out hg8; have k8 := HRX.out _ (hx8); have hlt := k8.lt; have q0 := k8.cell 0; rw [cF_0] at q0; have q1 := k8.cell 1; rw [cF_1] at q1; have q2 := k8.cell 2; rw [cF_2] at q2; have q4 := k8.cell 4; rw [cF_4] at q4; have q5 := k8.cell 5; rw [cF_5] at q5; have q6 := k8.cell 6; rw [cF_6] at q6; rw [HK.out] at q0; rw [HFL.out] at q5; rw [HSD.out] at q6; clear k8; have HC8 := Lib.hid hx8; have HR8 := Lib.hid (HR7.out.chg (Chg.of_grown hg8) (fun e => HN7.out _ e rfl)); have HN8 := Lib.hid (own_ne2 HN7.out hob8 HR7.out.lt); rw [u8s_append] at ho8; rw [← List.length_append] at ho8; have HO8 := Lib.hid ho8; clear hx8 hg8 hob8 ho8) | (at_builtin; refine wpList_append_view rfl _ _ 23 rfl 5 i0 _ 1 Tryd.underlying23 hi hz0 hz1 hz2 rfl w1.heap.size v5 ([28] ++ encI f.code).length (u8s ([28] ++ encI f.code)) rfl HO6.out (fun _ => True) (some ⟨g6, 0, none⟩) (encI f.a).length (encI f.a).length (u8s (encI f.a)) rfl (rowView HV6.out) (u8s_one _) (by simp only [List.length_append, List.length_cons, List.length_nil]; unfold maxLen; omega) (by simp only [List.length_append, List.length_cons, List.length_nil]; omega) HC6.out.size ?_; intro v7 w7 ho7 hg7 hob7; have hx7 := (HC6.out).append (Nat.le_refl _) HO6.out hg7; have k7 := HRX.out _ (hx7); have hlt := k7.lt; have q0 := k7.cell 0; rw [cF_0] at q0; have q1 := k7.cell 1; rw [cF_1] at q1; have q2 := k7.cell 2; rw [cF_2] at q2; have q4 := k7.cell 4; rw [cF_4] at q4; have q5 := k7.cell 5; rw [cF_5] at q5; have q6 := k7.cell 6; rw [cF_6] at q6; rw [HK.out] at q0; rw [HFL.out] at q5; rw [HSD.out] at q6; clear k7; have HC7 := Lib.hid hx7; have HR7 := Lib.hid (HR6.out.chg (Chg.of_grown hg7) (fun e => HN6.out _ e rfl)); have HN7 := Lib.hid (own_ne2 HN6.out hob7 HR6.out.lt); rw [u8s_append] at ho7; rw [← List.length_append] at ho7; have HO7 := Lib.hid ho7; clear hx7 hg7 hob7 ho7) | ((with_reducible show Calls _ _ #[.int .u64 (f.a : Int)] _ _); refine (HPa.out _).mono ?_; rintro e w6 ⟨g6, rfl, hr6, hg6, hc6⟩; have hx6 := HC5.out.trans hc6; have k6 := HRX.out _ (hx6); have hlt := k6.lt; have q0 := k6.cell 0; rw [cF_0] at q0; have q1 := k6.cell 1; rw [cF_1] at q1; have q2 := k6.cell 2; rw [cF_2] at q2; have q4 := k6.cell 4; rw [cF_4] at q4; have q5 := k6.cell 5; rw [cF_5] at q5; have q6 := k6.cell 6; rw [cF_6] at q6; rw [HK.out] at q0; rw [HFL.out] at q5; rw [HSD.out] at q6; clear k6; have HC6 := Lib.hid hx6; have HV6 := Lib.hid hr6; have HO6 := Lib.hid (ownsRow_chg HO5.out hc6); have HR6 := Lib.hid (HR5.out.chg hc6 (fun h => h)); have HN6 := HN5; clear hx6 hr6 hg6 hc6) | (at_builtin; refine wpList_append_view rfl _ _ 23 rfl 5 i0 _ 1 Tryd.underlying23 hi hz0 hz1 hz2 rfl w1.heap.size (.slice (some ⟨w2.heap.size, 0, none⟩) 1 1) ([28]).length (u8s ([28])) rfl HO4.out (fun _ => True) (some ⟨g4, 0, none⟩) (encI f.code).length (encI f.code).length (u8s (encI f.code)) rfl (rowView HV4.out) (u8s_one _) (by simp only [List.length_append, List.length_cons, List.length_nil]; unfold maxLen; omega) (by simp only [List.length_append, List.length_cons, List.length_nil]; omega) HC4.out.size ?_; intro v5 w5 ho5 hg5 hob5; have hx5 := (HC4.out).append (Nat.le_refl _) HO4.out hg5; have k5 := HRX.out _ (hx5); have hlt := k5.lt; have q0 := k5.cell 0; rw [cF_0] at q0; have q1 := k5.cell 1; rw [cF_1] at q1; have q2 := k5.cell 2; rw [cF_2] at q2; have q4 := k5.cell 4; rw [cF_4] at q4; have q5 := k5.cell 5; rw [cF_5] at q5; have q6 := k5.cell 6; rw [cF_6] at q6; rw [HK.out] at q0; rw [HFL.out] at q5; rw [HSD.out] at q6; clear k5; have HC5 := Lib.hid hx5; have HR5 := Lib.hid (HR4.out.chg (Chg.of_grown hg5) (fun e => HN4.out _ e rfl)); have HN5 := Lib.hid (own_ne2 HN4.out hob5 HR4.out.lt); rw [u8s_append] at ho5; rw [← List.length_append] at ho5; have HO5 := Lib.hid ho5; clear hx5 hg5 hob5 ho5) | ((with_reducible show Calls _ _ #[.int .u64 (f.code : Int)] _ _); refine (HPc.out _).mono ?_; rintro e w4 ⟨g4, rfl, hr4, hg4, hc4⟩; have hx4 := HC3.out.trans hc4; have k4 := HRX.out _ (hx4); have hlt := k4.lt; have q0 := k4.cell 0; rw [cF_0] at q0; have q1 := k4.cell 1; rw [cF_1] at q1; have q2 := k4.cell 2; rw [cF_2] at q2; have q4 := k4.cell 4; rw [cF_4] at q4; have q5 := k4.cell 5; rw [cF_5] at q5; have q6 := k4.cell 6; rw [cF_6] at q6; rw [HK.out] at q0; rw [HFL.out] at q5; rw [HSD.out] at q6; clear k4; have HC4 := Lib.hid hx4; have HV4 := Lib.hid hr4; have HO4 := Lib.hid (ownsRow_chg HO3.out hc4); have HR4 := Lib.hid (HR3.out.chg hc4 (fun h => h)); have HN4 := HN3; clear hx4 hr4 hg4 hc4))
  rw [rounds_succ]
  go_wp2_with (first | (at_builtin; refine wpList_append_view rfl _ _ 23 rfl 5 i0 _ 1 Tryd.underlying23 hi hz0 hz1 hz2 rfl w1.heap.size v8 ([28] ++ encI f.code ++ encI f.a ++ encI f.data.length).length (u8s ([28] ++ encI f.code ++ encI f.a ++ encI f.data.length)) rfl HO8.out (fun _ => True) A f.data.length c (u8s f.data) rfl (HVD.out _ (HC1.out.trans HC8.out)) (u8s_one _) (by simp only [List.length_append, List.length_cons, List.length_nil]; unfold maxLen; omega) (by simp only [List.length_append, List.length_cons, List.length_nil]; omega) HC8.out.size ?_; intro v9 w9 ho9 hg9 hob9; have hx9 := (HC8.out).append (Nat.le_refl _) HO8.out hg9; have k9 := HRX.out _ (hx9); have hlt := k9.lt; have q0 := k9.cell 0; rw [cF_0] at q0; have q1 := k9.cell 1; rw [cF_1] at q1; have q2 := k9.cell 2; rw [cF_2] at q2; have q4 := k9.cell 4; rw [cF_4] at q4; have q5 := k9.cell 5; rw [cF_5] at q5; have q6 := k9.cell 6; rw [cF_6] at q6; rw [HK.out] at q0; rw [HFL.out] at q5; rw [HSD.out] at q6; clear k9; have HC9 := Lib.hid hx9; have HR9 := Lib.hid (HR8.out.chg (Chg.of_grown hg9) (fun e => HN8.out _ e rfl)); have HN9 := Lib.hid (own_ne2 HN8.out hob9 HR8.out.lt); rw [u8s_append] at ho9; rw [← List.length_append] at ho9; have HO9 := Lib.hid ho9; clear hx9 hg9 hob9 ho9) | (at_builtin; refine wpList_append_view rfl _ _ 23 rfl 5 i0 _ 1 Tryd.underlying23 hi hz0 hz1 hz2 rfl w1.heap.size v7 ([28] ++ encI f.code ++ encI f.a).length (u8s ([28] ++ encI f.code ++ encI f.a)) rfl HO7.out (fun _ => True) (some ⟨g3, 0, none⟩) (encI f.data.length).length (encI f.data.length).length (u8s (encI f.data.length)) rfl (rowView HR7.out) (u8s_one _) (by simp only [List.length_append, List.length_cons, List.length_nil]; unfold maxLen; omega) (by simp only [List.length_append, List.length_cons, List.length_nil]; omega) HC7.out.size ?_; intro v8 w8 ho8 hg8 hob8; have hx8 := (HC7.out).append (Nat.le_refl _) HO7.out hg8; have k8 := HRX.out _ (hx8); have hlt := k8.lt; have q0 := k8.cell 0; rw [cF_0] at q0; have q1 := k8.cell 1; rw [cF_1] at q1; have q2 := k8.cell 2; rw [cF_2] at q2; have q4 := k8.cell 4; rw [cF_4] at q4; have q5 := k8.cell 5; rw [cF_5] at q5; have q6 := k8.cell 6; rw [cF_6] at q6; rw [HK.out] at q0; rw [HFL.out] at q5; rw [HSD.out] at q6; clear k8; have HC8 := Lib.hid hx8; have HR8 := Lib.hid (HR7.out.chg (Chg.of_grown hg8) (fun e => HN7.out _ e rfl)); have HN8 := Lib.hid (own_ne2 HN7.out hob8 HR7.out.lt); rw [u8s_append] at ho8; rw [← List.length_append] at ho8; have HO8 := Lib.hid ho8; clear hx8 hg8 hob8 ho8) | (at_builtin; refine wpList_append_view rfl _ _ 23 rfl 5 i0 _ 1 Tryd.underlying23 hi hz0 hz1 hz2 rfl w1.heap.size v5 ([28] ++ encI f.code).length (u8s ([28] ++ encI f.code)) rfl HO6.out (fun _ => True) (some ⟨g6, 0, none⟩) (encI f.a).length (encI f.a).length (u8s (encI f.a)) rfl (rowView HV6.out) (u8s_one _) (by simp only [List.length_append, List.length_cons, List.length_nil]; unfold maxLen; omega) (by simp only [List.length_append, List.length_cons, List.length_nil]; omega) HC6.out.size ?_; intro v7 w7 ho7 hg7 hob7; have hx7 := (HC6.out).append (Nat.le_refl _) HO6.out hg7; have k7 := HRX.out _ (hx7); have hlt := k7.lt; have q0 := k7.cell 0; rw [cF_0] at q0; have q1 := k7.cell 1; rw [cF_1] at q1; have q2 := k7.cell 2; rw [cF_2] at q2; have q4 := k7.cell 4; rw [cF_4] at q4; have q5 := k7.cell 5; rw [cF_5] at q5; have q6 := k7.cell 6; rw [cF_6] at q6; rw [HK.out] at q0; rw [HFL.out] at q5; rw [HSD.out] at q6; clear k7; have HC7 := Lib.hid hx7; have HR7 := Lib.hid (HR6.out.chg (Chg.of_grown hg7) (fun e => HN6.out _ e rfl)); have HN7 := Lib.hid (own_ne2 HN6.out hob7 HR6.out.lt); rw [u8s_append] at ho7; rw [← List.length_append] at ho7; have HO7 := Lib.hid ho7; clear hx7 hg7 hob7 ho7) | ((with_reducible show Calls _ _ #[.int .u64 (f.a : Int)] _ _); refine (HPa.out _).mono ?_; rintro e w6 ⟨g6, rfl, hr6, hg6, hc6⟩; have hx6 := HC5.out.trans hc6; have k6 := HRX.out _ (hx6); have hlt := k6.lt; have q0 := k6.cell 0; rw [cF_0] at q0; have q1 := k6.cell 1; rw [cF_1] at q1; have q2 := k6.cell 2; rw [cF_2] at q2; have q4 := k6.cell 4; rw [cF_4] at q4; have q5 := k6.cell 5; rw [cF_5] at q5; have q6 := k6.cell 6; rw [cF_6] at q6; rw [HK.out] at q0; rw [HFL.out] at q5; rw [HSD.out] at q6; clear k6; have HC6 := Lib.hid hx6; have HV6 := Lib.hid hr6; have HO6 := Lib.hid (ownsRow_chg HO5.out hc6); have HR6 := Lib.hid (HR5.out.chg hc6 (fun h => h)); have HN6 := HN5; clear hx6 hr6 hg6 hc6) | (at_builtin; refine wpList_append_view rfl _ _ 23 rfl 5 i0 _ 1 Tryd.underlying23 hi hz0 hz1 hz2 rfl w1.heap.size (.slice (some ⟨w2.heap.size, 0, none⟩) 1 1) ([28]).length (u8s ([28])) rfl HO4.out (fun _ => True) (some ⟨g4, 0, none⟩) (encI f.code).length (encI f.code).length (u8s (encI f.code)) rfl (rowView HV4.out) (u8s_one _) (by simp only [List.length_append, List.length_cons, List.length_nil]; unfold maxLen; omega) (by simp only [List.length_append, List.length_cons, List.length_nil]; omega) HC4.out.size ?_; intro v5 w5 ho5 hg5 hob5; have hx5 := (HC4.out).append (Nat.le_refl _) HO4.out hg5; have k5 := HRX.out _ (hx5); have hlt := k5.lt; have q0 := k5.cell 0; rw [cF_0] at q0; have q1 := k5.cell 1; rw [cF_1] at q1; have q2 := k5.cell 2; rw [cF_2] at q2; have q4 := k5.cell 4; rw [cF_4] at q4; have q5 := k5.cell 5; rw [cF_5] at q5; have q6 := k5.cell 6; rw [cF_6] at q6; rw [HK.out] at q0; rw [HFL.out] at q5; rw [HSD.out] at q6; clear k5; have HC5 := Lib.hid hx5; have HR5 := Lib.hid (HR4.out.chg (Chg.of_grown hg5) (fun e => HN4.out _ e rfl)); have HN5 := Lib.hid (own_ne2 HN4.out hob5 HR4.out.lt); rw [u8s_append] at ho5; rw [← List.length_append] at ho5; have HO5 := Lib.hid ho5; clear hx5 hg5 hob5 ho5) | ((with_reducible show Calls _ _ #[.int .u64 (f.code : Int)] _ _); refine (HPc.out _).mono ?_; rintro e w4 ⟨g4, rfl, hr4, hg4, hc4⟩; have hx4 := HC3.out.trans hc4; have k4 := HRX.out _ (hx4); have hlt := k4.lt; have q0 := k4.cell 0; rw [cF_0] at q0; have q1 := k4.cell 1; rw [cF_1] at q1; have q2 := k4.cell 2; rw [cF_2] at q2; have q4 := k4.cell 4; rw [cF_4] at q4; have q5 := k4.cell 5; rw [cF_5] at q5; have q6 := k4.cell 6; rw [cF_6] at q6; rw [HK.out] at q0; rw [HFL.out] at q5; rw [HSD.out] at q6; clear k4; have HC4 := Lib.hid hx4; have HV4 := Lib.hid hr4; have HO4 := Lib.hid (ownsRow_chg HO3.out hc4); have HR4 := Lib.hid (HR3.out.chg hc4 (fun h => h)); have HN4 := HN3; clear hx4 hr4 hg4 hc4))
  rw [rounds_succ]
  go_wp2_with (first | (at_builtin; refine wpList_append_view rfl _ _ 23 rfl 5 i0 _ 1 Tryd.underlying23 hi hz0 hz1 hz2 rfl w1.heap.size v8 ([28] ++ encI f.code ++ encI f.a ++ encI f.data.length).length (u8s ([28] ++ encI f.code ++ encI f.a ++ encI f.data.length)) rfl HO8.out (fun _ => True) A f.data.length c (u8s f.data) rfl (HVD.out _ (HC1.out.trans HC8.out)) (u8s_one _) (by simp only [List.length_append, List.length_cons, List.length_nil]; unfold maxLen; omega) (by simp only [List.length_append, List.length_cons, List.length_nil]; omega) HC8.out.size ?_; intro v9 w9 ho9 hg9 hob9; have hx9 := (HC8.out).append (Nat.le_refl _) HO8.out hg9; have k9 := HRX.out _ (hx9); have hlt := k9.lt; have q0 := k9.cell 0; rw [cF_0] at q0; have q1 := k9.cell 1; rw [cF_1] at q1; have q2 := k9.cell 2; rw [cF_2] at q2; have q4 := k9.cell 4; rw [cF_4] at q4; have q5 := k9.cell 5; rw [cF_5] at q5; have q6 := k9.cell 6; rw [cF_6] at q6; rw [HK.out] at q0; rw [HFL.out] at q5; rw [HSD.out] at q6; clear k9; have HC9 := Lib.hid hx9; have HR9 := Lib.hid (HR8.out.chg (Chg.of_grown hg9) (fun e => HN8.out _ e rfl)); have HN9 := Lib.hid (own_ne2 HN8.out hob9 HR8.out.lt); rw [u8s_append] at ho9; rw [← List.length_append] at ho9; have HO9 := Lib.hid ho9; clear hx9 hg9 hob9 ho9) | (at_builtin; refine wpList_append_view rfl _ _ 23 rfl 5 i0 _ 1 Tryd.underlying23 hi hz0 hz1 hz2 rfl w1.heap.size v7 ([28] ++ encI f.code ++ encI f.a).length (u8s ([28] ++ encI f.code ++ encI f.a)) rfl HO7.out (fun _ => True) (some ⟨g3, 0, none⟩) (encI f.data.length).length (encI f.data.length).length (u8s (encI f.data.length)) rfl (rowView HR7.out) (u8s_one _) (by simp only [List.length_append, List.length_cons, List.length_nil]; unfold maxLen; omega) (by simp only [List.length_append, List.length_cons, List.length_nil]; omega) HC7.out.size ?_; intro v8 w8 ho8 hg8 hob8; have hx8 := (HC7.out).append (Nat.le_refl _) HO7.out hg8; have k8 := HRX.out _ (hx8); have hlt := k8.lt; have q0 := k8.cell 0; rw [cF_0] at q0; have q1 := k8.cell 1; rw [cF_1] at q1; have q2 := k8.cell 2; rw [cF_2] at q2; have q4 := k8.cell 4; rw [cF_4] at q4; have q5 := k8.cell 5; rw [cF_5] at q5; have q6 := k8.cell 6; rw [cF_6] at q6; rw [HK.out] at q0; rw [HFL.out] at q5; rw [HSD.out] at q6; clear k8; have HC8 := Lib.hid hx8; have HR8 := Lib.hid (HR7.out.chg (Chg.of_grown hg8) (fun e => HN7.out _ e rfl)); have HN8 := Lib.hid (own_ne2 HN7.out hob8 HR7.out.lt); rw [u8s_append] at ho8; rw [← List.length_append] at ho8; have HO8 := Lib.hid ho8; clear hx8 hg8 hob8 ho8) | (at_builtin; refine wpList_append_view rfl _ _ 23 rfl 5 i0 _ 1 Tryd.underlying23 hi hz0 hz1 hz2 rfl w1.heap.size v5 ([28] ++ encI f.code).length (u8s ([28] ++ encI f.code)) rfl HO6.out (fun _ => True) (some ⟨g6, 0, none⟩) (encI f.a).length (encI f.a).length (u8s (encI f.a)) rfl (rowView HV6.out) (u8s_one _) (by simp only [List.length_append, List.length_cons, List.length_nil]; unfold maxLen; omega) (by simp only [List.length_append, List.length_cons, List.length_nil]; omega) HC6.out.size ?_; intro v7 w7 ho7 hg7 hob7; have hx7 := (HC6.out).append (Nat.le_refl _) HO6.out hg7; have k7 := HRX.out _ (hx7); have hlt := k7.lt; have q0 := k7.cell 0; rw [cF_0] at q0; have q1 := k7.cell 1; rw [cF_1] at q1; have q2 := k7.cell 2; rw [cF_2] at q2; have q4 := k7.cell 4; rw [cF_4] at q4; have q5 := k7.cell 5; rw [cF_5] at q5; have q6 := k7.cell 6; rw [cF_6] at q6; rw [HK.out] at q0; rw [HFL.out] at q5; rw [HSD.out] at q6; clear k7; have HC7 := Lib.hid hx7; have HR7 := Lib.hid (HR6.out.chg (Chg.of_grown hg7) (fun e => HN6.out _ e rfl)); have HN7 := Lib.hid (own_ne2 HN6.out hob7 HR6.out.lt); rw [u8s_append] at ho7; rw [← List.length_append] at ho7; have HO7 := Lib.hid ho7; clear hx7 hg7 hob7 ho7) | ((with_reducible show Calls _ _ #[.int .u64 (f.a : Int)] _ _); refine (HPa.out _).mono ?_; rintro e w6 ⟨g6, rfl, hr6, hg6, hc6⟩; have hx6 := HC5.out.trans hc6; have k6 := HRX.out _ (hx6); have hlt := k6.lt; have q0 := k6.cell 0; rw [cF_0] at q0; have q1 := k6.cell 1; rw [cF_1] at q1; have q2 := k6.cell 2; rw [cF_2] at q2; have q4 := k6.cell 4; rw [cF_4] at q4; have q5 := k6.cell 5; rw [cF_5] at q5; have q6 := k6.cell 6; rw [cF_6] at q6; rw [HK.out] at q0; rw [HFL.out] at q5; rw [HSD.out] at q6; clear k6; have HC6 := Lib.hid hx6; have HV6 := Lib.hid hr6; have HO6 := Lib.hid (ownsRow_chg HO5.out hc6); have HR6 := Lib.hid (HR5.out.chg hc6 (fun h => h)); have HN6 := HN5; clear hx6 hr6 hg6 hc6) | (at_builtin; refine wpList_append_view rfl _ _ 23 rfl 5 i0 _ 1 Tryd.underlying23 hi hz0 hz1 hz2 rfl w1.heap.size (.slice (some ⟨w2.heap.size, 0, none⟩) 1 1) ([28]).length (u8s ([28])) rfl HO4.out (fun _ => True) (some ⟨g4, 0, none⟩) (encI f.code).length (encI f.code).length (u8s (encI f.code)) rfl (rowView HV4.out) (u8s_one _) (by simp only [List.length_append, List.length_cons, List.length_nil]; unfold maxLen; omega) (by simp only [List.length_append, List.length_cons, List.length_nil]; omega) HC4.out.size ?_; intro v5 w5 ho5 hg5 hob5; have hx5 := (HC4.out).append (Nat.le_refl _) HO4.out hg5; have k5 := HRX.out _ (hx5); have hlt := k5.lt; have q0 := k5.cell 0; rw [cF_0] at q0; have q1 := k5.cell 1; rw [cF_1] at q1; have q2 := k5.cell 2; rw [cF_2] at q2; have q4 := k5.cell 4; rw [cF_4] at q4; have q5 := k5.cell 5; rw [cF_5] at q5; have q6 := k5.cell 6; rw [cF_6] at q6; rw [HK.out] at q0; rw [HFL.out] at q5; rw [HSD.out] at q6; clear k5; have HC5 := Lib.hid hx5; have HR5 := Lib.hid (HR4.out.chg (Chg.of_grown hg5) (fun e => HN4.out _ e rfl)); have HN5 := Lib.hid (own_ne2 HN4.out hob5 HR4.out.lt); rw [u8s_append] at ho5; rw [← List.length_append] at ho5; have HO5 := Lib.hid ho5; clear hx5 hg5 hob5 ho5) | ((with_reducible show Calls _ _ #[.int .u64 (f.code : Int)] _ _); refine (HPc.out _).mono ?_; rintro e w4 ⟨g4, rfl, hr4, hg4, hc4⟩; have hx4 := HC3.out.trans hc4; have k4 := HRX.out _ (hx4); have hlt := k4.lt; have q0 := k4.cell 0; rw [cF_0] at q0; have q1 := k4.cell 1; rw [cF_1] at q1; have q2 := k4.cell 2; rw [cF_2] at q2; have q4 := k4.cell 4; rw [cF_4] at q4; have q5 := k4.cell 5; rw [cF_5] at q5; have q6 := k4.cell 6; rw [cF_6] at q6; rw [HK.out] at q0; rw [HFL.out] at q5; rw [HSD.out] at q6; clear k4; have HC4 := Lib.hid hx4; have HV4 := Lib.hid hr4; have HO4 := Lib.hid (ownsRow_chg HO3.out hc4); have HR4 := Lib.hid (HR3.out.chg hc4 (fun h => h)); have HN4 := HN3; clear hx4 hr4 hg4 hc4))
  rw [rounds_succ]
  go_wp2_with (first | (at_builtin; refine wpList_append_view rfl _ _ 23 rfl 5 i0 _ 1 Tryd.underlying23 hi hz0 hz1 hz2 rfl w1.heap.size v8 ([28] ++ encI f.code ++ encI f.a ++ encI f.data.length).length (u8s ([28] ++ encI f.code ++ encI f.a ++ encI f.data.length)) rfl HO8.out (fun _ => True) A f.data.length c (u8s f.data) rfl (HVD.out _ (HC1.out.trans HC8.out)) (u8s_one _) (by simp only [List.length_append, List.length_cons, List.length_nil]; unfold maxLen; omega) (by simp only [List.length_append, List.length_cons, List.length_nil]; omega) HC8.out.size ?_; intro v9 w9 ho9 hg9 hob9; have hx9 := (HC8.out).append (Nat.le_refl _) HO8.out hg9; have k9 := HRX.out _ (hx9); have hlt := k9.lt; have q0 := k9.cell 0; rw [cF_0] at q0; have q1 := k9.cell 1; rw [cF_1] at q1; have q2 := k9.cell 2; rw [cF_2] at q2; have q4 := k9.cell 4; rw [cF_4] at q4; have q5 := k9.cell 5; rw [cF_5] at q5; have q6 := k9.cell 6; rw [cF_6] at q6; rw [HK.out] at q0; rw [HFL.out] at q5; rw [HSD.out] at q6; clear k9; have HC9 := Lib.hid hx9; have HR9 := Lib.hid (HR8.out.chg (Chg.of_grown hg9) (fun e => HN8.out _ e rfl)); have HN9 := Lib.hid (own_ne2 HN8.out hob9 HR8.out.lt); rw [u8s_append] at ho9; rw [← List.length_append] at ho9; have HO9 := Lib.hid ho9; clear hx9 hg9 hob9 ho9) | (at_builtin; refine wpList_append_view rfl _ _ 23 rfl 5 i0 _ 1 Tryd.underlying23 hi hz0 hz1 hz2 rfl w1.heap.size v7 ([28] ++ encI f.code ++ encI f.a).length (u8s ([28] ++ encI f.code ++ encI f.a)) rfl HO7.out (fun _ => True) (some ⟨g3, 0, none⟩) (encI f.data.length).length (encI f.data.length).length (u8s (encI f.data.length)) rfl (rowView HR7.out) (u8s_one _) (by simp only [List.length_append, List.length_cons, List.length_nil]; unfold maxLen; omega) (by simp only [List.length_append, List.length_cons, List.length_nil]; omega) HC7.out.size ?_; intro v8 w8 ho8 hg8 hob8; have hx8 := (HC7.out).append (Nat.le_refl _) HO7.out hg8; have k8 := HRX.out _ (hx8); have hlt := k8.lt; have q0 := k8.cell 0; rw [cF_0] at q0; have q1 := k8.cell 1; rw [cF_1] at q1; have q2 := k8.cell 2; rw [cF_2] at q2; have q4 := k8.cell 4; rw [cF_4] at q4; have q5 := k8.cell 5; rw [cF_5] at q5; have q6 := k8.cell 6; rw [cF_6] at q6; rw [HK.out] at q0; rw [HFL.out] at q5; rw [HSD.out] at q6; clear k8; have HC8 := Lib.hid hx8; have HR8 := Lib.hid (HR7.out.chg (Chg.of_grown hg8) (fun e => HN7.out _ e rfl)); have HN8 := Lib.hid (own_ne2 HN7.out hob8 HR7.out.lt); rw [u8s_append] at ho8; rw [← List.length_append] at ho8; have HO8 := Lib.hid ho8; clear hx8 hg8 hob8 ho8) | (at_builtin; refine wpList_append_view rfl _ _ 23 rfl 5 i0 _ 1 Tryd.underlying23 hi hz0 hz1 hz2 rfl w1.heap.size v5 ([28] ++ encI f.code).length (u8s ([28] ++ encI f.code)) rfl HO6.out (fun _ => True) (some ⟨g6, 0, none⟩) (encI f.a).length (encI f.a).length (u8s (encI f.a)) rfl (rowView HV6.out) (u8s_one _) (by simp only [List.length_append, List.length_cons, List.length_nil]; unfold maxLen; omega) (by simp only [List.length_append, List.length_cons, List.length_nil]; omega) HC6.out.size ?_; intro v7 w7 ho7 hg7 hob7; have hx7 := (HC6.out).append (Nat.le_refl _) HO6.out hg7; have k7 := HRX.out _ (hx7); have hlt := k7.lt; have q0 := k7.cell 0; rw [cF_0] at q0; have q1 := k7.cell 1; rw [cF_1] at q1; have q2 := k7.cell 2; rw [cF_2] at q2; have q4 := k7.cell 4; rw [cF_4] at q4; have q5 := k7.cell 5; rw [cF_5] at q5; have q6 := k7.cell 6; rw [cF_6] at q6; rw [HK.out] at q0; rw [HFL.out] at q5; rw [HSD.out] at q6; clear k7; have HC7 := Lib.hid hx7; have HR7 := Lib.hid (HR6.out.chg (Chg.of_grown hg7) (fun e => HN6.out _ e rfl)); have HN7 := Lib.hid (own_ne2 HN6.out hob7 HR6.out.lt); rw [u8s_append] at ho7; rw [← List.length_append] at ho7; have HO7 := Lib.hid ho7; clear hx7 hg7 hob7 ho7) | ((with_reducible show Calls _ _ #[.int .u64 (f.a : Int)] _ _); refine (HPa.out _).mono ?_; rintro e w6 ⟨g6, rfl, hr6, hg6, hc6⟩; have hx6 := HC5.out.trans hc6; have k6 := HRX.out _ (hx6); have hlt := k6.lt; have q0 := k6.cell 0; rw [cF_0] at q0; have q1 := k6.cell 1; rw [cF_1] at q1; have q2 := k6.cell 2; rw [cF_2] at q2; have q4 := k6.cell 4; rw [cF_4] at q4; have q5 := k6.cell 5; rw [cF_5] at q5; have q6 := k6.cell 6; rw [cF_6] at q6; rw [HK.out] at q0; rw [HFL.out] at q5; rw [HSD.out] at q6; clear k6; have HC6 := Lib.hid hx6; have HV6 := Lib.hid hr6; have HO6 := Lib.hid (ownsRow_chg HO5.out hc6); have HR6 := Lib.hid (HR5.out.chg hc6 (fun h => h)); have HN6 := HN5; clear hx6 hr6 hg6 hc6) | (at_builtin; refine wpList_append_view rfl _ _ 23 rfl 5 i0 _ 1 Tryd.underlying23 hi hz0 hz1 hz2 rfl w1.heap.size (.slice (some ⟨w2.heap.size, 0, none⟩) 1 1) ([28]).length (u8s ([28])) rfl HO4.out (fun _ => True) (some ⟨g4, 0, none⟩) (encI f.code).length (encI f.code).length (u8s (encI f.code)) rfl (rowView HV4.out) (u8s_one _) (by simp only [List.length_append, List.length_cons, List.length_nil]; unfold maxLen; omega) (by simp only [List.length_append, List.length_cons, List.length_nil]; omega) HC4.out.size ?_; intro v5 w5 ho5 hg5 hob5; have hx5 := (HC4.out).append (Nat.le_refl _) HO4.out hg5; have k5 := HRX.out _ (hx5); have hlt := k5.lt; have q0 := k5.cell 0; rw [cF_0] at q0; have q1 := k5.cell 1; rw [cF_1] at q1; have q2 := k5.cell 2; rw [cF_2] at q2; have q4 := k5.cell 4; rw [cF_4] at q4; have q5 := k5.cell 5; rw [cF_5] at q5; have q6 := k5.cell 6; rw [cF_6] at q6; rw [HK.out] at q0; rw [HFL.out] at q5; rw [HSD.out] at q6; clear k5; have HC5 := Lib.hid hx5; have HR5 := Lib.hid (HR4.out.chg (Chg.of_grown hg5) (fun e => HN4.out _ e rfl)); have HN5 := Lib.hid (own_ne2 HN4.out hob5 HR4.out.lt); rw [u8s_append] at ho5; rw [← List.length_append] at ho5; have HO5 := Lib.hid ho5; clear hx5 hg5 hob5 ho5) | ((with_reducible show Calls _ _ #[.int .u64 (f.code : Int)] _ _); refine (HPc.out _).mono ?_; rintro e w4 ⟨g4, rfl, hr4, hg4, hc4⟩; have hx4 := HC3.out.trans hc4; have k4 := HRX.out _ (hx4); have hlt := k4.lt; have q0 := k4.cell 0; rw [cF_0] at q0; have q1 := k4.cell 1; rw [cF_1] at q1; have q2 := k4.cell 2; rw [cF_2] at q2; have q4 := k4.cell 4; rw [cF_4] at q4; have q5 := k4.cell 5; rw [cF_5] at q5; have q6 := k4.cell 6; rw [cF_6] at q6; rw [HK.out] at q0; rw [HFL.out] at q5; rw [HSD.out] at q6; clear k4; have HC4 := Lib.hid hx4; have HV4 := Lib.hid hr4; have HO4 := Lib.hid (ownsRow_chg HO3.out hc4); have HR4 := Lib.hid (HR3.out.chg hc4 (fun h => h)); have HN4 := HN3; clear hx4 hr4 hg4 hc4))
  rw [rounds_succ]
  go_wp2
  go_ret
  obtain ⟨Ar, cr, rfl, _, _, hvw⟩ := View.own (T := fun b => w.heap.size ≤ b) HO9.out (fun b hb => Nat.le_trans HC1.out.size hb)
  have hP := HPUT.out
  subst hP
  exact ⟨Ar, cr, rfl, hvw, HC1.out.trans HC9.out⟩

set_option maxRecDepth 100000 in
set_option maxHeartbeats 8000000 in
theorem rput_28_f1 (f : Fr) (sd sr : Value) (T : Nat → Prop) (w : World) (hd : FrD w T f sd sr) (of : f.Ok) (hr : rightB f = true) (hk : f.kind = 28) (hf : f.flag = true) :
    Calls Tryd.prog 10 #[.agg (cellsF f sd sr).toArray] w (BytesNew w (putM f)) := by
  have hput : putM f = [29] ++ encI f.code ++ encI f.data.length ++ f.data := put_28_f1 hr hk hf
  have HTK := Lib.hid hd.tok
  have HPUT := Lib.hid hput
  generalize putM f = P at HPUT ⊢
  obtain ⟨i0, hi, hz0, hz1, hz2⟩ := info_parts info5
  have HRR : Hid (∀ w', Chg none_ w w' → Calls Tryd.prog 7 #[.agg (cellsF f sd sr).toArray] w' fun e w'' => e = .returned (.bool true) ∧ Chg none_ w' w'') := Lib.hid (fun w' hc => by have := rright_any f sd sr T w' (hd.chg hc (fun _ _ h => h)) of; rwa [hr] at this)
  have HWH : Hid (∀ w, Calls Tryd.prog 17 #[.int .i64 28] w fun e w' => e = .returned (.string ⟨#[99, 97, 102, 100]⟩) ∧ w' = w) := Lib.hid (fun w => what_any 28 w)
  have HSZ : Hid ((Tryd.prog.info? 27).map (·.size) = some (cellsF f sd sr).length) := Lib.hid (by rw [cF_len _ _ _ hd.tok]; exact size27)
  obtain ⟨A, c, hsd, hdl, hvd⟩ := hd.data
  have HSD := Lib.hid hsd
  have HVD : Hid (∀ w', Chg none_ w w' → View w' (fun _ => True) A f.data.length (u8s f.data)) := Lib.hid (fun w' hc => (hvd.chg hc (fun _ _ h => h)).mono (fun _ _ _ => trivial))
  have HPS := Lib.hid (rput_new f.data.length (by omega))
  have HPi := Lib.hid (rput_new f.id (right_small of hr).1)
  have HPa := Lib.hid (rput_new f.a (right_small of hr).2.1)
  have HPc := Lib.hid (rput_new f.code (right_small of hr).2.2)
  have HK := Lib.hid hk
  have HFL := Lib.hid hf
  have l1 := encI_len f.id
  have l2 := encI_len f.a
  have l3 := encI_len f.code
  have l4 := encI_len f.data.length
  clear hd of hr hk hf hsd hvd hput
  go_enter Tryd.func10, Tryd.ntmps10
  go_wp2_with (first | ((with_reducible show wpList _ _ _ (⟨some 1, .box _ _, _, _, _, _⟩ :: _) _ _); refine wpList_box_Row rfl rfl (cellsF f sd sr) rfl ?_; intro w1 hr1 hc1 hs1; have HRX := Lib.hid (show ∀ x, Chg none_ w1 x → Row x w.heap.size 27 (cellsF f sd sr) from fun x hx => hr1.chg hx (fun h => h)); have HC1 := Lib.hid hc1; clear hr1 hc1 hs1) | ((with_reducible show wpList _ _ _ (⟨some 10, .load _ _, _, _, _, _⟩ :: _) _ _); refine wpList_load_Row (cs := cellsF f sd sr) rfl rfl rfl (HRX.out _ (Chg.refl _ _)) Tryd.underlying27 rfl HSZ.out ?_) | (go_at_call 7; refine (HRR.out _ HC1.out).mono ?_; rintro e w2 ⟨rfl, hc⟩; have k2 := HRX.out _ (hc); have hlt := k2.lt; have q0 := k2.cell 0; rw [cF_0] at q0; have q1 := k2.cell 1; rw [cF_1] at q1; have q2 := k2.cell 2; rw [cF_2] at q2; have q4 := k2.cell 4; rw [cF_4] at q4; have q5 := k2.cell 5; rw [cF_5] at q5; have q6 := k2.cell 6; rw [cF_6] at q6; rw [HK.out] at q0; rw [HFL.out] at q5; rw [HSD.out] at q6; clear k2; have HC2 := Lib.hid hc; clear hc) | (go_at_call 17; refine (HWH.out _).mono ?_; rintro e wW ⟨rfl, rfl⟩) | ((with_reducible show Calls _ _ #[.int .u64 (f.data.length : Int)] _ _); refine (HPS.out _).mono ?_; rintro e w3 ⟨g3, rfl, hr3, hg3, hc3⟩; have hx3 := ((HC2.out.alloc _).trans hc3 : Chg none_ w1 w3); have k3 := HRX.out _ (hx3); have hlt := k3.lt; have q0 := k3.cell 0; rw [cF_0] at q0; have q1 := k3.cell 1; rw [cF_1] at q1; have q2 := k3.cell 2; rw [cF_2] at q2; have q4 := k3.cell 4; rw [cF_4] at q4; have q5 := k3.cell 5; rw [cF_5] at q5; have q6 := k3.cell 6; rw [cF_6] at q6; rw [HK.out] at q0; rw [HFL.out] at q5; rw [HSD.out] at q6; clear k3; have HC3 := Lib.hid hx3; have HR3 := Lib.hid hr3; have HN3 := Lib.hid (own_ne1 (w := w2) hg3); have HO3 := Lib.hid (ownsRow_chg (own_of_row (base := w1.heap.size) (n := 1) (Row.new w2 5 (u8s [29])) HC2.out.size rfl (by decide)) hc3); clear hx3 hr3 hg3 hc3))
  have ix0 : ((({ data := #[99, 97, 102, 100] } : ByteArray)[0]).toNat : Int) = 99 := rfl
  have ix1 : ((({ data := #[99, 97, 102, 100] } : ByteArray)[1]).toNat : Int) = 97 := rfl
  have ix2 : ((({ data := #[99, 97, 102, 100] } : ByteArray)[2]).toNat : Int) = 102 := rfl
  have ix3 : ((({ data := #[99, 97, 102, 100] } : ByteArray)[3]).toNat : Int) = 100 := rfl
  refine wp_loop_rounds 5 ?_
  rw [rounds_succ]
  go_wp2_with (first | (at_builtin; refine wpList_append_view rfl _ _ 23 rfl 5 i0 _ 1 Tryd.underlying23 hi hz0 hz1 hz2 rfl w1.heap.size v6 ([29] ++ encI f.code ++ encI f.data.length).length (u8s ([29] ++ encI f.code ++ encI f.data.length)) rfl HO6.out (fun _ => True) A f.data.length c (u8s f.data) rfl (HVD.out _ (HC1.out.trans HC6.out)) (u8s_one _) (by simp only [List.length_cons, List.length_nil]; unfold maxLen; omega) (by simp only [List.length_cons, List.length_nil]; omega) HC6.out.size ?_; intro v7 w7 ho7 hg7 hob7; have hx7 := (HC6.out).append (Nat.le_refl _) HO6.out hg7; have k7 := HRX.out _ (hx7); have hlt := k7.lt; have q0 := k7.cell 0; rw [cF_0] at q0; have q1 := k7.cell 1; rw [cF_1] at q1; have q2 := k7.cell 2; rw [cF_2] at q2; have q4 := k7.cell 4; rw [cF_4] at q4; have q5 := k7.cell 5; rw [cF_5] at q5; have q6 := k7.cell 6; rw [cF_6] at q6; rw [HK.out] at q0; rw [HFL.out] at q5; rw [HSD.out] at q6; clear k7; have HC7 := Lib.hid hx7; have HR7 := Lib.hid (HR6.out.chg (Chg.of_grown hg7) (fun e => HN6.out _ e rfl)); have HN7 := Lib.hid (own_ne2 HN6.out hob7 HR6.out.lt); rw [u8s_append] at ho7; rw [← List.length_append] at ho7; have HO7 := Lib.hid ho7; clear hx7 hg7 hob7 ho7) | (at_builtin; refine wpList_append_view rfl _ _ 23 rfl 5 i0 _ 1 Tryd.underlying23 hi hz0 hz1 hz2 rfl w1.heap.size v5 ([29] ++ encI f.code).length (u8s ([29] ++ encI f.code)) rfl HO5.out (fun _ => True) (some ⟨g3, 0, none⟩) (encI f.data.length).length (encI f.data.length).length (u8s (encI f.data.length)) rfl (rowView HR5.out) (u8s_one _) (by simp only [List.length_append, List.length_cons, List.length_nil]; unfold maxLen; omega) (by simp only [List.length_append, List.length_cons, List.length_nil]; omega) HC5.out.size ?_; intro v6 w6 ho6 hg6 hob6; have hx6 := (HC5.out).append (Nat.le_refl _) HO5.out hg6; have k6 := HRX.out _ (hx6); have hlt := k6.lt; have q0 := k6.cell 0; rw [cF_0] at q0; have q1 := k6.cell 1; rw [cF_1] at q1; have q2 := k6.cell 2; rw [cF_2] at q2; have q4 := k6.cell 4; rw [cF_4] at q4; have q5 := k6.cell 5; rw [cF_5] at q5; have q6 := k6.cell 6; rw [cF_6] at q6; rw [HK.out] at q0; rw [HFL.out] at q5; rw [HSD.out] at q6; clear k6; have HC6 := Lib.hid hx6; have HR6 := Lib.hid (HR5.out.chg (Chg.of_grown hg6) (fun e => HN5.out _ e rfl)); have HN6 := Lib.hid (own_ne2 HN5.out hob6 HR5.out.lt); rw [u8s_append] at ho6; rw [← List.length_append] at ho6; have HO6 := Lib.hid ho6; clear hx6 hg6 hob6 ho6) | (at_builtin; refine wpList_append_view rfl _ _ 23 rfl 5 i0 _ 1 Tryd.underlying23 hi hz0 hz1 hz2 rfl w1.heap.size (.slice (some ⟨w2.heap.size, 0, none⟩) 1 1) ([29]).length (u8s ([29])) rfl HO4.out (fun _ => True) (some ⟨g4, 0, none⟩) (encI f.code).length (encI f.code).length (u8s (encI f.code)) rfl (rowView HV4.out) (u8s_one _) (by simp only [List.length_append, List.length_cons, List.length_nil]; unfold maxLen; omega) (by simp only [List.length_append, List.length_cons, List.length_nil]; omega) HC4.out.size ?_; intro v5 w5 ho5 hg5 hob5; have hx5 := (HC4.out).append (Nat.le_refl _) HO4.out hg5; have k5 := HRX.out _ (hx5); have hlt := k5.lt; have q0 := k5.cell 0; rw [cF_0] at q0; have q1 := k5.cell 1; rw [cF_1] at q1; have q2 := k5.cell 2; rw [cF_2] at q2; have q4 := k5.cell 4; rw [cF_4] at q4; have q5 := k5.cell 5; rw [cF_5] at q5; have q6 := k5.cell 6; rw [cF_6] at q6; rw [HK.out] at q0; rw [HFL.out] at q5; rw [HSD.out] at q6; clear k5; have HC5 := Lib.hid hx5; have HR5 := Lib.hid (HR4.out.chg (Chg.of_grown hg5) (fun e => HN4.out _ e rfl)); have HN5 := Lib.hid (own_ne2 HN4.out hob5 HR4.out.lt); rw [u8s_append] at ho5; rw [← List.length_append] at ho5; have HO5 := Lib.hid ho5; clear hx5 hg5 hob5 ho5) | ((with_reducible show Calls _ _ #[.int .u64 (f.code : Int)] _ _); refine (HPc.out _).mono ?_; rintro e w4 ⟨g4, rfl, hr4, hg4, hc4⟩; have hx4 := HC3.out.trans hc4; have k4 := HRX.out _ (hx4); have hlt := k4.lt; have q0 := k4.cell 0; rw [cF_0] at q0; have q1 := k4.cell 1; rw [cF_1] at q1; have q2 := k4.cell 2; rw [cF_2] at q2; have q4 := k4.cell 4; rw [cF_4] at q4; have q5 := k4.cell 5; rw [cF_5] at q5; have q6 := k4.cell 6; rw [cF_6] at q6; rw [HK.out] at q0; rw [HFL.out] at q5; rw [HSD.out] at q6; clear k4; have HC4 := Lib.hid hx4; have HV4 := Lib.hid hr4; have HO4 := Lib.hid (ownsRow_chg HO3.out hc4); have HR4 := Lib.hid (HR3.out.chg hc4 (fun h => h)); have HN4 := HN3; clear hx4 hr4 hg4 hc4))
  rw [rounds_succ]
  go_wp2_with (first | (at_builtin; refine wpList_append_view rfl _ _ 23 rfl 5 i0 _ 1 Tryd.underlying23 hi hz0 hz1 hz2 rfl w1.heap.size v6 ([29] ++ encI f.code ++ encI f.data.length).length (u8s ([29] ++ encI f.code ++ encI f.data.length)) rfl HO6.out (fun _ => True) A f.data.length c (u8s f.data) rfl (HVD.out _ (HC1.out.trans HC6.out)) (u8s_one _) (by simp only [List.length_append, List.length_cons, List.length_nil]; unfold maxLen; omega) (by simp only [List.length_append, List.length_cons, List.length_nil]; omega) HC6.out.size ?_; intro v7 w7 ho7 hg7 hob7; have hx7 := (HC6.out).append (Nat.le_refl _) HO6.out hg7; have k7 := HRX.out _ (hx7); have hlt := k7.lt; have q0 := k7.cell 0; rw [cF_0] at q0; have q1 := k7.cell 1; rw [cF_1] at q1; have q2 := k7.cell 2; rw [cF_2] at q2; have q4 := k7.cell 4; rw [cF_4] at q4; have q5 := k7.cell 5; rw [cF_5] at q5; have q6 := k7.cell 6; rw [cF_6] at q6; rw [HK.out] at q0; rw [HFL.out] at q5; rw [HSD.out] at q6; clear k7; have HC7 := Lib.hid hx7; have HR7 := Lib.hid (HR6.out.chg (Chg.of_grown hg7) (fun e => HN6.out _ e rfl)); have HN7 := Lib.hid (own_ne2 HN6.out hob7 HR6.out.lt); rw [u8s_append] at ho7; rw [← List.length_append] at ho7; have HO7 := Lib.hid ho7; clear hx7 hg7 hob7 ho7) | (at_builtin; refine wpList_append_view rfl _ _ 23 rfl 5 i0 _ 1 Tryd.underlying23 hi hz0 hz1 hz2 rfl w1.heap.size v5 ([29] ++ encI f.code).length (u8s ([29] ++ encI f.code)) rfl HO5.out (fun _ => True) (some ⟨g3, 0, none⟩) (encI f.data.length).length (encI f.data.length).length (u8s (encI f.data.length)) rfl (rowView HR5.out) (u8s_one _) (by simp only [List.length_append, List.length_cons, List.length_nil]; unfold maxLen; omega) (by simp only [List.length_append, List.length_cons, List.length_nil]; omega) HC5.out.size ?_; intro v6 w6 ho6 hg6 hob6; have hx6 := (HC5.out).append (Nat.le_refl _) HO5.out hg6; have k6 := HRX.out _ (hx6); have hlt := k6.lt; have q0 := k6.cell 0; rw [cF_0] at q0; have q1 := k6.cell 1; rw [cF_1] at q1; have q2 := k6.cell 2; rw [cF_2] at q2; have q4 := k6.cell 4; rw [cF_4] at q4; have q5 := k6.cell 5; rw [cF_5] at q5; have q6 := k6.cell 6; rw [cF_6] at q6; rw [HK.out] at q0; rw [HFL.out] at q5; rw [HSD.out] at q6; clear k6; have HC6 := Lib.hid hx6; have HR6 := Lib.hid (HR5.out.chg (Chg.of_grown hg6) (fun e => HN5.out _ e rfl)); have HN6 := Lib.hid (own_ne2 HN5.out hob6 HR5.out.lt); rw [u8s_append] at ho6; rw [← List.length_append] at ho6; have HO6 := Lib.hid ho6; clear hx6 hg6 hob6 ho6) | (at_builtin; refine wpList_append_view rfl _ _ 23 rfl 5 i0 _ 1 Tryd.underlying23 hi hz0 hz1 hz2 rfl w1.heap.size (.slice (some ⟨w2.heap.size, 0, none⟩) 1 1) ([29]).length (u8s ([29])) rfl HO4.out (fun _ => True) (some ⟨g4, 0, none⟩) (encI f.code).length (encI f.code).length (u8s (encI f.code)) rfl (rowView HV4.out) (u8s_one _) (by simp only [List.length_append, List.length_cons, List.length_nil]; unfold maxLen; omega) (by simp only [List.length_append, List.length_cons, List.length_nil]; omega) HC4.out.size ?_; intro v5 w5 ho5 hg5 hob5; have hx5 := (HC4.out).append (Nat.le_refl _) HO4.out hg5; have k5 := HRX.out _ (hx5); have hlt := k5.lt; have q0 := k5.cell 0; rw [cF_0] at q0; have q1 := k5.cell 1; rw [cF_1] at q1; have q2 := k5.cell 2; rw [cF_2] at q2; have q4 := k5.cell 4; rw [cF_4] at q4; have q5 := k5.cell 5; rw [cF_5] at q5; have q6 := k5.cell 6; rw [cF_6] at q6; rw [HK.out] at q0; rw [HFL.out] at q5; rw [HSD.out] at q6; clear k5; have HC5 := Lib.hid hx5; have HR5 := Lib.hid (HR4.out.chg (Chg.of_grown hg5) (fun e => HN4.out _ e rfl)); have HN5 := Lib.hid (own_ne2 HN4.out hob5 HR4.out.lt); rw [u8s_append] at ho5; rw [← List.length_append] at ho5; have HO5 := Lib.hid ho5; clear hx5 hg5 hob5 ho5) | ((with_reducible show Calls _ _ #[.int .u64 (f.code : Int)] _ _); refine (HPc.out _).mono ?_; rintro e w4 ⟨g4, rfl, hr4, hg4, hc4⟩; have hx4 := HC3.out.trans hc4; have k4 := HRX.out _ (hx4); have hlt := k4.lt; have q0 := k4.cell 0; rw [cF_0] at q0; have q1 := k4.cell 1; rw [cF_1] at q1; have q2 := k4.cell 2; rw [cF_2] at q2; have q4 := k4.cell 4; rw [cF_4] at q4; have q5 := k4.cell 5; rw [cF_5] at q5; have q6 := k4.cell 6; rw [cF_6] at q6; rw [HK.out] at q0; rw [HFL.out] at q5; rw [HSD.out] at q6; clear k4; have HC4 := Lib.hid hx4; have HV4 := Lib.hid hr4; have HO4 := Lib.hid (ownsRow_chg HO3.out hc4); have HR4 := Lib.hid (HR3.out.chg hc4 (fun h => h)); have HN4 := HN3; clear hx4 hr4 hg4 hc4))
  rw [rounds_succ]
  go_wp2_with (first | (at_builtin; refine wpList_append_view rfl _ _ 23 rfl 5 i0 _ 1 Tryd.underlying23 hi hz0 hz1 hz2 rfl w1.heap.size v6 ([29] ++ encI f.code ++ encI f.data.length).length (u8s ([29] ++ encI f.code ++ encI f.data.length)) rfl HO6.out (fun _ => True) A f.data.length c (u8s f.data) rfl (HVD.out _ (HC1.out.trans HC6.out)) (u8s_one _) (by simp only [List.length_append, List.length_cons, List.length_nil]; unfold maxLen; omega) (by simp only [List.length_append, List.length_cons, List.length_nil]; omega) HC6.out.size ?_; intro v7 w7 ho7 hg7 hob7; have hx7 := (HC6.out).append (Nat.le_refl _) HO6.out hg7; have k7 := HRX.out _ (hx7); have hlt := k7.lt; have q0 := k7.cell 0; rw [cF_0] at q0; have q1 := k7.cell 1; rw [cF_1] at q1; have q2 := k7.cell 2; rw [cF_2] at q2; have q4 := k7.cell 4; rw [cF_4] at q4; have q5 := k7.cell 5; rw [cF_5] at q5; have q6 := k7.cell 6; rw [cF_6] at q6; rw [HK.out] at q0; rw [HFL.out] at q5; rw [HSD.out] at q6; clear k7; have HC7 := Lib.hid hx7; have HR7 := Lib.hid (HR6.out.chg (Chg.of_grown hg7) (fun e => HN6.out _ e rfl)); have HN7 := Lib.hid (own_ne2 HN6.out hob7 HR6.out.lt); rw [u8s_append] at ho7; rw [← List.length_append] at ho7; have HO7 := Lib.hid ho7; clear hx7 hg7 hob7 ho7) | (at_builtin; refine wpList_append_view rfl _ _ 23 rfl 5 i0 _ 1 Tryd.underlying23 hi hz0 hz1 hz2 rfl w1.heap.size v5 ([29] ++ encI f.code).length (u8s ([29] ++ encI f.code)) rfl HO5.out (fun _ => True) (some ⟨g3, 0, none⟩) (encI f.data.length).length (encI f.data.length).length (u8s (encI f.data.length)) rfl (rowView HR5.out) (u8s_one _) (by simp only [List.length_append, List.length_cons, List.length_nil]; unfold maxLen; omega) (by simp only [List.length_append, List.length_cons, List.length_nil]; omega) HC5.out.size ?_; intro v6 w6 ho6 hg6 hob6; have hx6 := (HC5.out).append (Nat.le_refl _) HO5.out hg6; have k6 := HRX.out _ (hx6); have hlt := k6.lt; have q0 := k6.cell 0; rw [cF_0] at q0; have q1 := k6.cell 1; rw [cF_1] at q1; have q2 := k6.cell 2; rw [cF_2] at q2; have q4 := k6.cell 4; rw [cF_4] at q4; have q5 := k6.cell 5; rw [cF_5] at q5; have q6 := k6.cell 6; rw [cF_6] at q6; rw [HK.out] at q0; rw [HFL.out] at q5; rw [HSD.out] at q6; clear k6; have HC6 := Lib.hid hx6; have HR6 := Lib.hid (HR5.out.chg (Chg.of_grown hg6) (fun e => HN5.out _ e rfl)); have HN6 := Lib.hid (own_ne2 HN5.out hob6 HR5.out.lt); rw [u8s_append] at ho6; rw [← List.length_append] at ho6; have HO6 := Lib.hid ho6; clear hx6 hg6 hob6 ho6) | (at_builtin; refine wpList_append_view rfl _ _ 23 rfl 5 i0 _ 1 Tryd.underlying23 hi hz0 hz1 hz2 rfl w1.heap.size (.slice (some ⟨w2.heap.size, 0, none⟩) 1 1) ([29]).length (u8s ([29])) rfl HO4.out (fun _ => True) (some ⟨g4, 0, none⟩) (encI f.code).length (encI f.code).length (u8s (encI f.code)) rfl (rowView HV4.out) (u8s_one _) (by simp only [List.length_append, List.length_cons, List.length_nil]; unfold maxLen; omega) (by simp only [List.length_append, List.length_cons, List.length_nil]; omega) HC4.out.size ?_; intro v5 w5 ho5 hg5 hob5; have hx5 := (HC4.out).append (Nat.le_refl _) HO4.out hg5; have k5 := HRX.out _ (hx5); have hlt := k5.lt; have q0 := k5.cell 0; rw [cF_0] at q0; have q1 := k5.cell 1; rw [cF_1] at q1; have q2 := k5.cell 2; rw [cF_2] at q2; have q4 := k5.cell 4; rw [cF_4] at q4; have q5 := k5.cell 5; rw [cF_5] at q5; have q6 := k5.cell 6; rw [cF_6] at q6; rw [HK.out] at q0; rw [HFL.out] at q5; rw [HSD.out] at q6; clear k5; have HC5 := Lib.hid hx5; have HR5 := Lib.hid (HR4.out.chg (Chg.of_grown hg5) (fun e => HN4.out _ e rfl)); have HN5 := Lib.hid (own_ne2 HN4.out hob5 HR4.out.lt); rw [u8s_append] at ho5; rw [← List.length_append] at ho5; have HO5 := Lib.hid ho5; clear hx5 hg5 hob5 ho5) | ((with_reducible show Calls _ _ #[.int .u64 (f.code : Int)] _ _); refine (HPc.out _).mono ?_; rintro e w4 ⟨g4, rfl, hr4, hg4, hc4⟩; have hx4 := HC3.out.trans hc4; have k4 := HRX.out _ (hx4); have hlt := k4.lt; have q0 := k4.cell 0; rw [cF_0] at q0; have q1 := k4.cell 1; rw [cF_1] at q1; have q2 := k4.cell 2; rw [cF_2] at q2; have q4 := k4.cell 4; rw [cF_4] at q4; have q5 := k4.cell 5; rw [cF_5] at q5; have q6 := k4.cell 6; rw [cF_6] at q6; rw [HK.out] at q0; rw [HFL.out] at q5; rw [HSD.out] at q6; clear k4; have HC4 := Lib.hid hx4; have HV4 := Lib.hid hr4; have HO4 := Lib.hid (ownsRow_chg HO3.out hc4); have HR4 := Lib.hid (HR3.out.chg hc4 (fun h => h)); have HN4 := HN3; clear hx4 hr4 hg4 hc4))
  rw [rounds_succ]
  go_wp2_with (first | (at_builtin; refine wpList_append_view rfl _ _ 23 rfl 5 i0 _ 1 Tryd.underlying23 hi hz0 hz1 hz2 rfl w1.heap.size v6 ([29] ++ encI f.code ++ encI f.data.length).length (u8s ([29] ++ encI f.code ++ encI f.data.length)) rfl HO6.out (fun _ => True) A f.data.length c (u8s f.data) rfl (HVD.out _ (HC1.out.trans HC6.out)) (u8s_one _) (by simp only [List.length_append, List.length_cons, List.length_nil]; unfold maxLen; omega) (by simp only [List.length_append, List.length_cons, List.length_nil]; omega) HC6.out.size ?_; intro v7 w7 ho7 hg7 hob7; have hx7 := (HC6.out).append (Nat.le_refl _) HO6.out hg7; have k7 := HRX.out _ (hx7); have hlt := k7.lt; have q0 := k7.cell 0; rw [cF_0] at q0; have q1 := k7.cell 1; rw [cF_1] at q1; have q2 := k7.cell 2; rw [cF_2] at q2; have q4 := k7.cell 4; rw [cF_4] at q4; have q5 := k7.cell 5; rw [cF_5] at q5; have q6 := k7.cell 6; rw [cF_6] at q6; rw [HK.out] at q0; rw [HFL.out] at q5; rw [HSD.out] at q6; clear k7; have HC7 := Lib.hid hx7; have HR7 := Lib.hid (HR6.out.chg (Chg.of_grown hg7) (fun e => HN6.out _ e rfl)); have HN7 := Lib.hid (own_ne2 HN6.out hob7 HR6.out.lt); rw [u8s_append] at ho7; rw [← List.length_append] at ho7; have HO7 := Lib.hid ho7; clear hx7 hg7 hob7 ho7) | (at_builtin; refine wpList_append_view rfl _ _ 23 rfl 5 i0 _ 1 Tryd.underlying23 hi hz0 hz1 hz2 rfl w1.heap.size v5 ([29] ++ encI f.code).length (u8s ([29] ++ encI f.code)) rfl HO5.out (fun _ => True) (some ⟨g3, 0, none⟩) (encI f.data.length).length (encI f.data.length).length (u8s (encI f.data.length)) rfl (rowView HR5.out) (u8s_one _) (by simp only [List.length_append, List.length_cons, List.length_nil]; unfold maxLen; omega) (by simp only [List.length_append, List.length_cons, List.length_nil]; omega) HC5.out.size ?_; intro v6 w6 ho6 hg6 hob6; have hx6 := (HC5.out).append (Nat.le_refl _) HO5.out hg6; have k6 := HRX.out _ (hx6); have hlt := k6.lt; have q0 := k6.cell 0; rw [cF_0] at q0; have q1 := k6.cell 1; rw [cF_1] at q1; have q2 := k6.cell 2; rw [cF_2] at q2; have q4 := k6.cell 4; rw [cF_4] at q4; have q5 := k6.cell 5; rw [cF_5] at q5; have q6 := k6.cell 6; rw [cF_6] at q6; rw [HK.out] at q0; rw [HFL.out] at q5; rw [HSD.out] at q6; clear k6; have HC6 := Lib.hid hx6; have HR6 := Lib.hid (HR5.out.chg (Chg.of_grown hg6) (fun e => HN5.out _ e rfl)); have HN6 := Lib.hid (own_ne2 HN5.out hob6 HR5.out.lt); rw [u8s_append] at ho6; rw [← List.length_append] at ho6; have HO6 := Lib.hid ho6; clear hx6 hg6 hob6 ho6) | (at_builtin; refine wpList_append_view rfl _ _ 23 rfl 5 i0 _ 1 Tryd.underlying23 hi hz0 hz1 hz2 rfl w1.heap.size (.slice (some ⟨w2.heap.size, 0, none⟩) 1 1) ([29]).length (u8s ([29])) rfl HO4.out (fun _ => True) (some ⟨g4, 0, none⟩) (encI f.code).length (encI f.code).length (u8s (encI f.code)) rfl (rowView HV4.out) (u8s_one _) (by simp only [List.length_append, List.length_cons, List.length_nil]; unfold maxLen; omega) (by simp only [List.length_append, List.length_cons, List.length_nil]; omega) HC4.out.size ?_; intro v5 w5 ho5 hg5 hob5; have hx5 := (HC4.out).append (Nat.le_refl _) HO4.out hg5; have k5 := HRX.out _ (hx5); have hlt := k5.lt; have q0 := k5.cell 0; rw [cF_0] at q0; have q1 := k5.cell 1; rw [cF_1] at q1; have q2 := k5.cell 2; rw [cF_2] at q2; have q4 := k5.cell 4; rw [cF_4] at q4; have q5 := k5.cell 5; rw [cF_5] at q5; have q6 := k5.cell 6; rw [cF_6] at q6; rw [HK.out] at q0; rw [HFL.out] at q5; rw [HSD.out] at q6; clear k5; have HC5 := Lib.hid hx5; have HR5 := Lib.hid (HR4.out.chg (Chg.of_grown hg5) (fun e => HN4.out _ e rfl)); have HN5 := Lib.hid (own_ne2 HN4.out hob5 HR4.out.lt); rw [u8s_append] at ho5; rw [← List.length_append] at ho5; have HO5 := Lib.hid ho5; clear hx5 hg5 hob5 ho5) | ((with_reducible show Calls _ _ #[.int .u64 (f.code : Int)] _ _); refine (HPc.out _).mono ?_; rintro e w4 ⟨g4, rfl, hr4, hg4, hc4⟩; have hx4 := HC3.out.trans hc4; have k4 := HRX.out _ (hx4); have hlt := k4.lt; have q0 := k4.cell 0; rw [cF_0] at q0; have q1 := k4.cell 1; rw [cF_1] at q1; have q2 := k4.cell 2; rw [cF_2] at q2; have q4 := k4.cell 4; rw [cF_4] at q4; have q5 := k4.cell 5; rw [cF_5] at q5; have q6 := k4.cell 6; rw [cF_6] at q6; rw [HK.out] at q0; rw [HFL.out] at q5; rw [HSD.out] at q6; clear k4; have HC4 := Lib.hid hx4; have HV4 := Lib.hid hr4; have HO4 := Lib.hid (ownsRow_chg HO3.out hc4); have HR4 := Lib.hid (HR3.out.chg hc4 (fun h => h)); have HN4 := HN3; clear hx4 hr4 hg4 hc4))
  rw [rounds_succ]
  go_wp2
  go_ret
  obtain ⟨Ar, cr, rfl, _, _, hvw⟩ := View.own (T := fun b => w.heap.size ≤ b) HO7.out (fun b hb => Nat.le_trans HC1.out.size hb)
  have hP := HPUT.out
  subst hP
  exact ⟨Ar, cr, rfl, hvw, HC1.out.trans HC7.out⟩
end Go.Proofs.YtlcffjmbfpdlbaaDoor

namespace Go.Proofs.YtlcffjmbfpdlbaaDoor
open Go.RowKit

theorem rput_right (f : Fr) (sd sr : Value) (T : Nat → Prop) (w : World) (hd : FrD w T f sd sr) (of : f.Ok) (hr : rightB f = true) :
    Calls Tryd.prog 10 #[.agg (cellsF f sd sr).toArray] w (BytesNew w (putM f)) := by
  cases h : whatM f.kind with
  | none => rw [right_none of h] at hr; cases hr
  | some l =>
    have hR := right_doc h
    rw [hr] at hR
    have hR' := hR.symm
    simp only [Bool.and_eq_true, decide_eq_true_eq] at hR'
    obtain ⟨hB, hE, hF⟩ := hR'
    have hfl := congrArg Fr.flag hE
    clear hE hR
    rcases what_some h with ⟨hk, rfl⟩ | ⟨hk, rfl⟩ | ⟨hk, rfl⟩ | ⟨hk, rfl⟩ | ⟨hk, rfl⟩ | ⟨hk, rfl⟩ | ⟨hk, rfl⟩ | ⟨hk, rfl⟩ | ⟨hk, rfl⟩ | ⟨hk, rfl⟩ | ⟨hk, rfl⟩ | ⟨hk, rfl⟩ | ⟨hk, rfl⟩ | ⟨hk, rfl⟩ | ⟨hk, rfl⟩ | ⟨hk, rfl⟩ | ⟨hk, rfl⟩ | ⟨hk, rfl⟩ | ⟨hk, rfl⟩ | ⟨hk, rfl⟩
    all_goals first
      | (have hf : f.flag = false := by simpa [onlyM] using hfl
         first
           | exact rput_16 f sd sr T w hd of hr hk hf
           | exact rput_20 f sd sr T w hd of hr hk hf
           | exact rput_1 f sd sr T w hd of hr hk hf
           | exact rput_30 f sd sr T w hd of hr hk hf
           | exact rput_4 f sd sr T w hd of hr hk hf
           | exact rput_5 f sd sr T w hd of hr hk hf
           | exact rput_6 f sd sr T w hd of hr hk hf
           | exact rput_7 f sd sr T w hd of hr hk hf
           | exact rput_26 f sd sr T w hd of hr hk hf
           | exact rput_27 f sd sr T w hd of hr hk hf
           | exact rput_17 f sd sr T w hd of hr hk hf
           | exact rput_21 f sd sr T w hd of hr hk hf
           | exact rput_25 f sd sr T w hd of hr hk hf
           | (have hF' : 1 ≤ f.a ∧ f.a ≤ 1200 := by simpa [fitsR, hk] using hF
              exact rput_0 f sd sr T w hd of hr hk hf hF'.1 hF'.2)
           | (have hF' : apart f.ranges := by simpa [fitsR, hk] using hF
              simp only [boundB, decide_eq_true_eq] at hB
              exact rput_2 f sd sr T w hd of hr hk hf hF' hB.2.2.1)
           | (have hF' : f.a ≤ f.id ∧ 1 ≤ f.data.length ∧ f.data.length ≤ 20 := by simpa [fitsR, hk] using hF
              exact rput_24 f sd sr T w hd of hr hk hf hF'.2))
      | (cases hff : f.flag
         · first
             | exact rput_18_f0 f sd sr T w hd of hr hk hff
             | exact rput_22_f0 f sd sr T w hd of hr hk hff
             | exact rput_28_f0 f sd sr T w hd of hr hk hff
             | (by_cases ha : f.a = 0
                · exact rput_8_f0_z1 f sd sr T w hd of hr hk hff ha
                · exact rput_8_f0_z0 f sd sr T w hd of hr hk hff ha)
         · first
             | exact rput_18_f1 f sd sr T w hd of hr hk hff
             | exact rput_22_f1 f sd sr T w hd of hr hk hff
             | exact rput_28_f1 f sd sr T w hd of hr hk hff
             | (by_cases ha : f.a = 0
                · exact rput_8_f1_z1 f sd sr T w hd of hr hk hff ha
                · exact rput_8_f1_z0 f sd sr T w hd of hr hk hff ha))

set_option maxRecDepth 100000 in
set_option maxHeartbeats 8000000 in
theorem rput_wrong (f : Fr) (sd sr : Value) (T : Nat → Prop) (w : World) (hd : FrD w T f sd sr) (of : f.Ok) (hr : rightB f = false) :
    Calls Tryd.prog 10 #[.agg (cellsF f sd sr).toArray] w (BytesNew w (putM f)) := by
  have hput : putM f = [] := by unfold putM; rw [hr]; rfl
  rw [hput]
  have HRR : Hid (∀ w', Chg none_ w w' → Calls Tryd.prog 7 #[.agg (cellsF f sd sr).toArray] w' fun e w'' => e = .returned (.bool false) ∧ Chg none_ w' w'') := Lib.hid (fun w' hc => by have := rright_any f sd sr T w' (hd.chg hc (fun _ _ h => h)) of; rwa [hr] at this)
  have HSZ : Hid ((Tryd.prog.info? 27).map (·.size) = some (cellsF f sd sr).length) := Lib.hid (by rw [cF_len _ _ _ hd.tok]; exact size27)
  clear hd of hr hput
  go_enter Tryd.func10, Tryd.ntmps10
  go_wp2_with (first | ((with_reducible show wpList _ _ _ (⟨some 1, .box _ _, _, _, _, _⟩ :: _) _ _); refine wpList_box_Row rfl rfl (cellsF f sd sr) rfl ?_; intro w1 hr1 hc1 hs1; have HRX := Lib.hid (show ∀ x, Chg none_ w1 x → Row x w.heap.size 27 (cellsF f sd sr) from fun x hx => hr1.chg hx (fun h => h)); have HC1 := Lib.hid hc1; clear hr1 hc1 hs1) | ((with_reducible show wpList _ _ _ (⟨some 10, .load _ _, _, _, _, _⟩ :: _) _ _); refine wpList_load_Row (cs := cellsF f sd sr) rfl rfl rfl (HRX.out _ (Chg.refl _ _)) Tryd.underlying27 rfl HSZ.out ?_) | (go_at_call 7; refine (HRR.out _ HC1.out).mono ?_; rintro e w2 ⟨rfl, hc⟩; have HC2 := Lib.hid hc; clear hc))
  go_ret
  exact ⟨none, 0, rfl, ⟨by simp [u8s], fun h => by simp at h⟩, HC1.out.trans HC2.out⟩

/-- The document's Put. -/
theorem rput_fr (f : Fr) (sd sr : Value) (T : Nat → Prop) (w : World) (hd : FrD w T f sd sr) (of : f.Ok) :
    Calls Tryd.prog 10 #[.agg (cellsF f sd sr).toArray] w (BytesNew w (putM f)) := by
  cases hr : rightB f with
  | true => exact rput_right f sd sr T w hd of hr
  | false => exact rput_wrong f sd sr T w hd of hr
end Go.Proofs.YtlcffjmbfpdlbaaDoor

namespace Go.Proofs.YtlcffjmbfpdlbaaDoor
open Go.RowKit

set_option maxRecDepth 100000 in
set_option maxHeartbeats 8000000 in
theorem walk_FramesPut (f : Fr) (sd sr : Value) (g : Fr) (td tr : Value) (w : World) (hf : FrIn w f sd sr) (of : f.Ok) (hg : FrIn w g td tr) (og : g.Ok) (hT : Tab w) :
    Calls Tryd.prog 3 #[aggF f sd sr, aggF g td tr] w fun e w' => e = .returned (.bool true) ∧ Chg none_ w w' := by
  have HT := Lib.hid hT
  have HTF := Lib.hid hf.tok
  have HTG := Lib.hid hg.tok
  have HGF : Hid (∀ w', Chg none_ w w' → Calls Tryd.prog 5 #[.agg (cellsF f sd sr).toArray] w' fun e w'' => e = .returned (.bool (greatB f)) ∧ Chg none_ w' w'') := Lib.hid (fun w' hc => Great_any f sd sr w' (hf.chg hc))
  have HGG : Hid (∀ w', Chg none_ w w' → Calls Tryd.prog 5 #[.agg (cellsF g td tr).toArray] w' fun e w'' => e = .returned (.bool (greatB g)) ∧ Chg none_ w' w'') := Lib.hid (fun w' hc => Great_any g td tr w' (hg.chg hc))
  unfold aggF
  cases g1 : greatB f with
  | true =>
    rw [g1] at HGF
    clear hf of hg og hT
    go_enter Tryd.func3, Tryd.ntmps3
    go_wp2_with (first | ((with_reducible show wpList _ _ _ (⟨some 2, .box _ _, _, _, _, _⟩ :: _) _ _); refine wpList_box_Row rfl rfl (cellsF f sd sr) rfl ?_; intro w1 hr1 hc1 hs1; have HR1 := Lib.hid hr1; have HC1 := Lib.hid hc1; have HS1 := Lib.hid hs1; clear hr1 hc1 hs1) | ((with_reducible show wpList _ _ _ (⟨some 3, .box _ _, _, _, _, _⟩ :: _) _ _); refine wpList_box_Row rfl rfl (cellsF g td tr) rfl ?_; intro w2 hr2 hc2 hs2; have HRW := Lib.hid (show ∀ w', Chg none_ w2 w' → Row w' w.heap.size 27 (cellsF f sd sr) ∧ Row w' w1.heap.size 27 (cellsF g td tr) from fun w' hc => ⟨(HR1.out.chg hc2 (fun h => h)).chg hc (fun h => h), hr2.chg hc (fun h => h)⟩); have HC := Lib.hid (Chg.refl none_ w2); have HW2 := Lib.hid (HC1.out.trans hc2); clear hr2 hc2 hs2 HR1) | (go_at_call 4; refine (alive_any _ (HT.out.chg (HW2.out.trans HC.out) (fun h => h))).mono ?_; rintro e w3 ⟨rfl, hc⟩; have HC := Lib.hid (HC.out.trans hc); clear hc) | ((with_reducible show wpList _ _ _ (⟨some 7, .load _ _, _, _, _, _⟩ :: _) _ _); refine wpList_load_Row (cs := cellsF f sd sr) rfl rfl rfl (HRW.out _ HC.out).1 Tryd.underlying27 rfl (by rw [cF_len _ _ _ HTF.out]; exact size27) ?_) | (go_at_call 5; (with_reducible show Calls _ _ #[.agg (cellsF f sd sr).toArray] _ _); refine (HGF.out _ (HW2.out.trans HC.out)).mono ?_; rintro e w4 ⟨rfl, hc⟩; have HC := Lib.hid (HC.out.trans hc); clear hc))
    go_ret
    exact ⟨rfl, HW2.out.trans HC.out⟩
  | false =>
    rw [g1] at HGF
    obtain ⟨df, lf⟩ := hf.small g1
    cases g2 : greatB g with
    | true =>
      rw [g2] at HGG
      clear hf of hg og hT df lf
      go_enter Tryd.func3, Tryd.ntmps3
      go_wp2_with (first | ((with_reducible show wpList _ _ _ (⟨some 2, .box _ _, _, _, _, _⟩ :: _) _ _); refine wpList_box_Row rfl rfl (cellsF f sd sr) rfl ?_; intro w1 hr1 hc1 hs1; have HR1 := Lib.hid hr1; have HC1 := Lib.hid hc1; have HS1 := Lib.hid hs1; clear hr1 hc1 hs1) | ((with_reducible show wpList _ _ _ (⟨some 3, .box _ _, _, _, _, _⟩ :: _) _ _); refine wpList_box_Row rfl rfl (cellsF g td tr) rfl ?_; intro w2 hr2 hc2 hs2; have HRW := Lib.hid (show ∀ w', Chg none_ w2 w' → Row w' w.heap.size 27 (cellsF f sd sr) ∧ Row w' w1.heap.size 27 (cellsF g td tr) from fun w' hc => ⟨(HR1.out.chg hc2 (fun h => h)).chg hc (fun h => h), hr2.chg hc (fun h => h)⟩); have HC := Lib.hid (Chg.refl none_ w2); have HW2 := Lib.hid (HC1.out.trans hc2); clear hr2 hc2 hs2 HR1) | (go_at_call 4; refine (alive_any _ (HT.out.chg (HW2.out.trans HC.out) (fun h => h))).mono ?_; rintro e w3 ⟨rfl, hc⟩; have HC := Lib.hid (HC.out.trans hc); clear hc) | ((with_reducible show wpList _ _ _ (⟨some 7, .load _ _, _, _, _, _⟩ :: _) _ _); refine wpList_load_Row (cs := cellsF f sd sr) rfl rfl rfl (HRW.out _ HC.out).1 Tryd.underlying27 rfl (by rw [cF_len _ _ _ HTF.out]; exact size27) ?_) | (go_at_call 5; (with_reducible show Calls _ _ #[.agg (cellsF f sd sr).toArray] _ _); refine (HGF.out _ (HW2.out.trans HC.out)).mono ?_; rintro e w4 ⟨rfl, hc⟩; have HC := Lib.hid (HC.out.trans hc); clear hc) | ((with_reducible show wpList _ _ _ (⟨some 10, .load _ _, _, _, _, _⟩ :: _) _ _); refine wpList_load_Row (cs := cellsF g td tr) rfl rfl rfl (HRW.out _ HC.out).2 Tryd.underlying27 rfl (by rw [cF_len _ _ _ HTG.out]; exact size27) ?_) | (go_at_call 5; (with_reducible show Calls _ _ #[.agg (cellsF g td tr).toArray] _ _); refine (HGG.out _ (HW2.out.trans HC.out)).mono ?_; rintro e w5 ⟨rfl, hc⟩; have HC := Lib.hid (HC.out.trans hc); clear hc))
      go_ret
      exact ⟨rfl, HW2.out.trans HC.out⟩
    | false =>
      rw [g2] at HGG
      obtain ⟨dg, lg⟩ := hg.small g2
      have HRF : Hid (∀ w', Chg none_ w w' → Calls Tryd.prog 6 #[.agg (cellsF f sd sr).toArray] w' fun e w'' => e = .returned (.bool (rightB f)) ∧ Chg none_ w' w'') := Lib.hid (fun w' hc => Right_any f sd sr w' _ (df.chg hc (fun _ _ h => h)) of)
      have HRR : Hid (∀ w', Chg none_ w w' → Calls Tryd.prog 7 #[.agg (cellsF f sd sr).toArray] w' fun e w'' => e = .returned (.bool (rightB f)) ∧ Chg none_ w' w'') := Lib.hid (fun w' hc => rright_any f sd sr _ w' (df.chg hc (fun _ _ h => h)) of)
      have HPF : Hid (∀ w', Chg none_ w w' → Calls Tryd.prog 9 #[.agg (cellsF f sd sr).toArray] w' (BytesNew w' (putM f))) := Lib.hid (fun w' hc => Put_any f sd sr w' _ (HT.out.chg hc (fun h => h)) (df.chg hc (fun _ _ h => h)) of)
      have HPR : Hid (∀ w', Chg none_ w w' → Calls Tryd.prog 10 #[.agg (cellsF f sd sr).toArray] w' (BytesNew w' (putM f))) := Lib.hid (fun w' hc => rput_fr f sd sr _ w' (df.chg hc (fun _ _ h => h)) of)
      have HSF : Hid (∀ w', Chg none_ w w' → Calls Tryd.prog 11 #[.agg (cellsF f sd sr).toArray, .agg (cellsF g td tr).toArray] w' fun e w'' => e = .returned (.bool (decide (f = g))) ∧ Chg none_ w' w'') := Lib.hid (fun w' hc => sameF_any f g sd sr td tr w' _ _ (df.chg hc (fun _ _ h => h)) (dg.chg hc (fun _ _ h => h)) of og)
      have HSR : Hid (∀ w', Chg none_ w w' → Calls Tryd.prog 12 #[.agg (cellsF f sd sr).toArray, .agg (cellsF g td tr).toArray] w' fun e w'' => e = .returned (.bool (decide (f = g))) ∧ Chg none_ w' w'') := Lib.hid (fun w' hc => rsameF_any f g sd sr td tr w' _ _ (df.chg hc (fun _ _ h => h)) (dg.chg hc (fun _ _ h => h)))
      have HEL : Hid (∀ w', Calls Tryd.prog 13 #[.agg (cellsF f sd sr).toArray] w' fun e w'' => e = .returned (.bool (decide (f.kind ≠ 0 ∧ f.kind ≠ 2 ∧ f.kind ≠ 28))) ∧ Chg none_ w' w'') := Lib.hid (fun w' => eliciting_any f sd sr w')
      have hsm : (putM f).length ≤ 1000000 := by
        cases r1 : rightB f with
        | true => exact putM_small of hf.tok r1
        | false => unfold putM; rw [r1]; simp
      have HSB : Hid (∀ w' T T' A A' c c', View w' T A (putM f).length (u8s (putM f)) → View w' T' A' (putM f).length (u8s (putM f)) → Calls Tryd.prog 8 #[.slice A (putM f).length c, .slice A' (putM f).length c'] w' fun e w'' => e = .returned (.bool true) ∧ Chg none_ w' w'') := Lib.hid (fun w' T T' A A' c c' h1 h2 => by
        refine (same_any w' T T' A A' c c' (putM f) (putM f) h1 h2 hsm).mono ?_
        rintro e w'' ⟨a, k, rfl⟩
        refine ⟨?_, (Chg.refl none_ w').drewN k⟩
        rw [a]
        simp)
      clear hf of hg og hT df lf dg lg hsm
      generalize decide (f = g) = same at *
      generalize rightB f = rt at *
      generalize putM f = pf at *
      by_cases k0 : f.kind = 0
      · simp only [k0, ne_eq, not_true_eq_false, false_and, decide_false] at HEL
        go_enter Tryd.func3, Tryd.ntmps3
        go_wp2_with (first | ((with_reducible show wpList _ _ _ (⟨some 2, .box _ _, _, _, _, _⟩ :: _) _ _); refine wpList_box_Row rfl rfl (cellsF f sd sr) rfl ?_; intro w1 hr1 hc1 hs1; have HR1 := Lib.hid hr1; have HC1 := Lib.hid hc1; have HS1 := Lib.hid hs1; clear hr1 hc1 hs1) | ((with_reducible show wpList _ _ _ (⟨some 3, .box _ _, _, _, _, _⟩ :: _) _ _); refine wpList_box_Row rfl rfl (cellsF g td tr) rfl ?_; intro w2 hr2 hc2 hs2; have HRW := Lib.hid (show ∀ w', Chg none_ w2 w' → Row w' w.heap.size 27 (cellsF f sd sr) ∧ Row w' w1.heap.size 27 (cellsF g td tr) from fun w' hc => ⟨(HR1.out.chg hc2 (fun h => h)).chg hc (fun h => h), hr2.chg hc (fun h => h)⟩); have HC := Lib.hid (Chg.refl none_ w2); have HW2 := Lib.hid (HC1.out.trans hc2); clear hr2 hc2 hs2 HR1) | (go_at_call 4; refine (alive_any _ (HT.out.chg (HW2.out.trans HC.out) (fun h => h))).mono ?_; rintro e w3 ⟨rfl, hc⟩; have HC := Lib.hid (HC.out.trans hc); clear hc) | ((with_reducible show wpList _ _ _ (⟨some 7, .load _ _, _, _, _, _⟩ :: _) _ _); refine wpList_load_Row (cs := cellsF f sd sr) rfl rfl rfl (HRW.out _ HC.out).1 Tryd.underlying27 rfl (by rw [cF_len _ _ _ HTF.out]; exact size27) ?_) | (go_at_call 5; (with_reducible show Calls _ _ #[.agg (cellsF f sd sr).toArray] _ _); refine (HGF.out _ (HW2.out.trans HC.out)).mono ?_; rintro e w4 ⟨rfl, hc⟩; have HC := Lib.hid (HC.out.trans hc); clear hc) | ((with_reducible show wpList _ _ _ (⟨some 10, .load _ _, _, _, _, _⟩ :: _) _ _); refine wpList_load_Row (cs := cellsF g td tr) rfl rfl rfl (HRW.out _ HC.out).2 Tryd.underlying27 rfl (by rw [cF_len _ _ _ HTG.out]; exact size27) ?_) | (go_at_call 5; (with_reducible show Calls _ _ #[.agg (cellsF g td tr).toArray] _ _); refine (HGG.out _ (HW2.out.trans HC.out)).mono ?_; rintro e w5 ⟨rfl, hc⟩; have HC := Lib.hid (HC.out.trans hc); clear hc))
        have HRX := Lib.hid (show ∀ x, Chg none_ w5 x → Row x w.heap.size 27 (cellsF f sd sr) ∧ Row x w1.heap.size 27 (cellsF g td tr) from fun x hx => HRW.out x (HC.out.trans hx))
        have HWX := Lib.hid (show ∀ x, Chg none_ w5 x → Chg none_ w x from fun x hx => (HW2.out.trans HC.out).trans hx)
        refine wp_region_held_drew (S := fun x => Chg none_ w5 x) (by kernel_rfl) ((Chg.refl none_ w5).drew) (fun hch0 => ?_)
        have hz : Chg none_ w5 w5.drew := (Chg.refl none_ w5).drew
        generalize w5.drew = wz at hz ⊢
        clear hch0
        refine wpAnyH_take (i := 0) (v := .agg (cellsF f sd sr).toArray) rfl (by kernel_rfl) (by kernel_rfl) (by kernel_rfl) (by first | exact fun _ _ _ h => h | exact fun _ _ _ h => nomatch h.1) (yieldsIf_load_mid (by rfl) 27 _ rfl w.heap.size 0 rfl (cellsF f sd sr) _ (fun x hx => (HRX.out x hx).1.rangeMid 0 _ (fun j v hv => by rw [Nat.zero_add]; exact hv)) Tryd.underlying27 rfl (by rw [cF_len _ _ _ HTF.out]; exact size27)) hz ?_
        try simp only [Act.put, List.setIfInBounds_toArray, List.set_cons_zero, List.set_cons_succ, List.getElem_toArray, List.getElem_cons_zero]
        refine wpAnyH_take (i := 2) (v := .agg (cellsF f sd sr).toArray) rfl (by kernel_rfl) (by kernel_rfl) (by kernel_rfl) (by first | exact fun _ _ _ h => h | exact fun _ _ _ h => nomatch h.1) (yieldsIf_load_mid (by rfl) 27 _ rfl w.heap.size 0 rfl (cellsF f sd sr) _ (fun x hx => (HRX.out x hx).1.rangeMid 0 _ (fun j v hv => by rw [Nat.zero_add]; exact hv)) Tryd.underlying27 rfl (by rw [cF_len _ _ _ HTF.out]; exact size27)) hz ?_
        try simp only [Act.put, List.setIfInBounds_toArray, List.set_cons_zero, List.set_cons_succ, List.getElem_toArray, List.getElem_cons_succ, List.getElem_cons_zero]
        refine wpAnyH_ready (rs := [1]) (by kernel_rfl) (by simp) ?_
        refine AllReadyH.cons rfl (fun K hK => ?_) AllReadyH.nil
        rw [if_pos (by rfl)]
        try simp only [List.getElem_toArray, List.getElem_cons_succ, List.getElem_cons_zero]
        go_simp
        refine (HRF.out _ (HWX.out _ hz)).mono ?_
        rintro e x1 ⟨rfl, hcx⟩
        have hz := hz.trans hcx
        refine hK.out _ _ hz (fun _ => ?_)
        clear hK K hcx
        try simp only [Act.put, List.setIfInBounds_toArray, List.set_cons_zero, List.set_cons_succ, List.getElem_toArray, List.getElem_cons_succ, List.getElem_cons_zero]
        refine wpAnyH_ready (rs := [3]) (by kernel_rfl) (by simp) ?_
        refine AllReadyH.cons rfl (fun K hK => ?_) AllReadyH.nil
        rw [if_pos (by rfl)]
        try simp only [List.getElem_toArray, List.getElem_cons_succ, List.getElem_cons_zero]
        go_simp
        refine (HRR.out _ (HWX.out _ hz)).mono ?_
        rintro e x2 ⟨rfl, hcx⟩
        have hz := hz.trans hcx
        refine hK.out _ _ hz (fun _ => ?_)
        clear hK K hcx
        try simp only [Act.put, List.setIfInBounds_toArray, List.set_cons_zero, List.set_cons_succ, List.getElem_toArray, List.getElem_cons_succ, List.getElem_cons_zero]
        refine wpAnyH_take (i := 4) (v := .bool true) rfl (by kernel_rfl) (by kernel_rfl) (by kernel_rfl) (by first | exact fun _ _ _ h => h | exact fun _ _ _ h => nomatch h.1) (Or.inl ⟨by rfl, fun w_ hw_ => by cases rt <;> go_simp⟩) hz ?_
        try simp only [Act.put, List.setIfInBounds_toArray, List.set_cons_zero, List.set_cons_succ, List.getElem_toArray, List.getElem_cons_succ, List.getElem_cons_zero]
        refine wpAnyH_take (i := 5) (v := .bool true) rfl (by kernel_rfl) (by kernel_rfl) (by kernel_rfl) (by first | exact fun _ _ _ h => h | exact fun _ _ _ h => nomatch h.1) (Or.inl ⟨by rfl, fun w_ hw_ => by go_simp⟩) hz ?_
        try simp only [Act.put, List.setIfInBounds_toArray, List.set_cons_zero, List.set_cons_succ, List.getElem_toArray, List.getElem_cons_succ, List.getElem_cons_zero]
        refine wpAnyH_take (i := 6) (v := .agg (cellsF f sd sr).toArray) rfl (by kernel_rfl) (by kernel_rfl) (by kernel_rfl) (by first | exact fun _ _ _ h => h | exact fun _ _ _ h => nomatch h.1) (yieldsIf_load_mid (by rfl) 27 _ rfl w.heap.size 0 rfl (cellsF f sd sr) _ (fun x hx => (HRX.out x hx).1.rangeMid 0 _ (fun j v hv => by rw [Nat.zero_add]; exact hv)) Tryd.underlying27 rfl (by rw [cF_len _ _ _ HTF.out]; exact size27)) hz ?_
        try simp only [Act.put, List.setIfInBounds_toArray, List.set_cons_zero, List.set_cons_succ, List.getElem_toArray, List.getElem_cons_succ, List.getElem_cons_zero]
        refine wpAnyH_take (i := 8) (v := .agg (cellsF f sd sr).toArray) rfl (by kernel_rfl) (by kernel_rfl) (by kernel_rfl) (by first | exact fun _ _ _ h => h | exact fun _ _ _ h => nomatch h.1) (yieldsIf_load_mid (by rfl) 27 _ rfl w.heap.size 0 rfl (cellsF f sd sr) _ (fun x hx => (HRX.out x hx).1.rangeMid 0 _ (fun j v hv => by rw [Nat.zero_add]; exact hv)) Tryd.underlying27 rfl (by rw [cF_len _ _ _ HTF.out]; exact size27)) hz ?_
        try simp only [Act.put, List.setIfInBounds_toArray, List.set_cons_zero, List.set_cons_succ, List.getElem_toArray, List.getElem_cons_succ, List.getElem_cons_zero]
        refine wpAnyH_ready (rs := [7]) (by kernel_rfl) (by simp) ?_
        refine AllReadyH.cons rfl (fun K hK => ?_) AllReadyH.nil
        rw [if_pos (by rfl)]
        try simp only [List.getElem_toArray, List.getElem_cons_succ, List.getElem_cons_zero]
        go_simp
        refine (HPF.out _ (HWX.out _ hz)).mono ?_
        rintro e x3 ⟨A1, c1, rfl, hv1, hcx⟩
        have hz := hz.trans hcx
        refine hK.out _ _ hz (fun _ => ?_)
        clear hK K hcx
        try simp only [Act.put, List.setIfInBounds_toArray, List.set_cons_zero, List.set_cons_succ, List.getElem_toArray, List.getElem_cons_succ, List.getElem_cons_zero]
        refine wpAnyH_ready (rs := [9]) (by kernel_rfl) (by simp) ?_
        refine AllReadyH.cons rfl (fun K hK => ?_) AllReadyH.nil
        rw [if_pos (by rfl)]
        try simp only [List.getElem_toArray, List.getElem_cons_succ, List.getElem_cons_zero]
        go_simp
        refine (HPR.out _ (HWX.out _ hz)).mono ?_
        rintro e x4 ⟨A2, c2, rfl, hv2, hcx⟩
        have hv1 := hv1.chg hcx (fun _ _ h => h)
        have hz := hz.trans hcx
        refine hK.out _ _ hz (fun _ => ?_)
        clear hK K hcx
        try simp only [Act.put, List.setIfInBounds_toArray, List.set_cons_zero, List.set_cons_succ, List.getElem_toArray, List.getElem_cons_succ, List.getElem_cons_zero]
        refine wpAnyH_ready (rs := [10]) (by kernel_rfl) (by simp) ?_
        refine AllReadyH.cons rfl (fun K hK => ?_) AllReadyH.nil
        rw [if_pos (by rfl)]
        try simp only [List.getElem_toArray, List.getElem_cons_succ, List.getElem_cons_zero]
        go_simp
        refine (HSB.out _ _ _ _ _ _ _ hv1 hv2).mono ?_
        rintro e x5 ⟨rfl, hcx⟩
        have hz := hz.trans hcx
        refine hK.out _ _ hz (fun _ => ?_)
        clear hK K hcx
        try simp only [Act.put, List.setIfInBounds_toArray, List.set_cons_zero, List.set_cons_succ, List.getElem_toArray, List.getElem_cons_succ, List.getElem_cons_zero]
        refine wpAnyH_take (i := 11) (v := .bool true) rfl (by kernel_rfl) (by kernel_rfl) (by kernel_rfl) (by first | exact fun _ _ _ h => h | exact fun _ _ _ h => nomatch h.1) (Or.inl ⟨by rfl, fun w_ hw_ => by go_simp⟩) hz ?_
        try simp only [Act.put, List.setIfInBounds_toArray, List.set_cons_zero, List.set_cons_succ, List.getElem_toArray, List.getElem_cons_succ, List.getElem_cons_zero]
        refine wpAnyH_take (i := 12) (v := .bool true) rfl (by kernel_rfl) (by kernel_rfl) (by kernel_rfl) (by first | exact fun _ _ _ h => h | exact fun _ _ _ h => nomatch h.1) (Or.inl ⟨by rfl, fun w_ hw_ => by go_simp⟩) hz ?_
        try simp only [Act.put, List.setIfInBounds_toArray, List.set_cons_zero, List.set_cons_succ, List.getElem_toArray, List.getElem_cons_succ, List.getElem_cons_zero]
        refine wpAnyH_take (i := 13) (v := .agg (cellsF f sd sr).toArray) rfl (by kernel_rfl) (by kernel_rfl) (by kernel_rfl) (by first | exact fun _ _ _ h => h | exact fun _ _ _ h => nomatch h.1) (yieldsIf_load_mid (by rfl) 27 _ rfl w.heap.size 0 rfl (cellsF f sd sr) _ (fun x hx => (HRX.out x hx).1.rangeMid 0 _ (fun j v hv => by rw [Nat.zero_add]; exact hv)) Tryd.underlying27 rfl (by rw [cF_len _ _ _ HTF.out]; exact size27)) hz ?_
        try simp only [Act.put, List.setIfInBounds_toArray, List.set_cons_zero, List.set_cons_succ, List.getElem_toArray, List.getElem_cons_succ, List.getElem_cons_zero]
        refine wpAnyH_take (i := 14) (v := .agg (cellsF g td tr).toArray) rfl (by kernel_rfl) (by kernel_rfl) (by kernel_rfl) (by first | exact fun _ _ _ h => h | exact fun _ _ _ h => nomatch h.1) (yieldsIf_load_mid (by rfl) 27 _ rfl w1.heap.size 0 rfl (cellsF g td tr) _ (fun x hx => (HRX.out x hx).2.rangeMid 0 _ (fun j v hv => by rw [Nat.zero_add]; exact hv)) Tryd.underlying27 rfl (by rw [cF_len _ _ _ HTG.out]; exact size27)) hz ?_
        try simp only [Act.put, List.setIfInBounds_toArray, List.set_cons_zero, List.set_cons_succ, List.getElem_toArray, List.getElem_cons_succ, List.getElem_cons_zero]
        refine wpAnyH_take (i := 16) (v := .agg (cellsF f sd sr).toArray) rfl (by kernel_rfl) (by kernel_rfl) (by kernel_rfl) (by first | exact fun _ _ _ h => h | exact fun _ _ _ h => nomatch h.1) (yieldsIf_load_mid (by rfl) 27 _ rfl w.heap.size 0 rfl (cellsF f sd sr) _ (fun x hx => (HRX.out x hx).1.rangeMid 0 _ (fun j v hv => by rw [Nat.zero_add]; exact hv)) Tryd.underlying27 rfl (by rw [cF_len _ _ _ HTF.out]; exact size27)) hz ?_
        try simp only [Act.put, List.setIfInBounds_toArray, List.set_cons_zero, List.set_cons_succ, List.getElem_toArray, List.getElem_cons_succ, List.getElem_cons_zero]
        refine wpAnyH_take (i := 17) (v := .agg (cellsF g td tr).toArray) rfl (by kernel_rfl) (by kernel_rfl) (by kernel_rfl) (by first | exact fun _ _ _ h => h | exact fun _ _ _ h => nomatch h.1) (yieldsIf_load_mid (by rfl) 27 _ rfl w1.heap.size 0 rfl (cellsF g td tr) _ (fun x hx => (HRX.out x hx).2.rangeMid 0 _ (fun j v hv => by rw [Nat.zero_add]; exact hv)) Tryd.underlying27 rfl (by rw [cF_len _ _ _ HTG.out]; exact size27)) hz ?_
        try simp only [Act.put, List.setIfInBounds_toArray, List.set_cons_zero, List.set_cons_succ, List.getElem_toArray, List.getElem_cons_succ, List.getElem_cons_zero]
        refine wpAnyH_ready (rs := [15]) (by kernel_rfl) (by simp) ?_
        refine AllReadyH.cons rfl (fun K hK => ?_) AllReadyH.nil
        rw [if_pos (by rfl)]
        try simp only [List.getElem_toArray, List.getElem_cons_succ, List.getElem_cons_zero]
        go_simp
        refine (HSF.out _ (HWX.out _ hz)).mono ?_
        rintro e x6 ⟨rfl, hcx⟩
        have hz := hz.trans hcx
        refine hK.out _ _ hz (fun _ => ?_)
        clear hK K hcx
        try simp only [Act.put, List.setIfInBounds_toArray, List.set_cons_zero, List.set_cons_succ, List.getElem_toArray, List.getElem_cons_succ, List.getElem_cons_zero]
        refine wpAnyH_ready (rs := [18]) (by kernel_rfl) (by simp) ?_
        refine AllReadyH.cons rfl (fun K hK => ?_) AllReadyH.nil
        rw [if_pos (by rfl)]
        try simp only [List.getElem_toArray, List.getElem_cons_succ, List.getElem_cons_zero]
        go_simp
        refine (HSR.out _ (HWX.out _ hz)).mono ?_
        rintro e x7 ⟨rfl, hcx⟩
        have hz := hz.trans hcx
        refine hK.out _ _ hz (fun _ => ?_)
        clear hK K hcx
        try simp only [Act.put, List.setIfInBounds_toArray, List.set_cons_zero, List.set_cons_succ, List.getElem_toArray, List.getElem_cons_succ, List.getElem_cons_zero]
        refine wpAnyH_take (i := 19) (v := .bool true) rfl (by kernel_rfl) (by kernel_rfl) (by kernel_rfl) (by first | exact fun _ _ _ h => h | exact fun _ _ _ h => nomatch h.1) (Or.inl ⟨by rfl, fun w_ hw_ => by cases same <;> go_simp⟩) hz ?_
        try simp only [Act.put, List.setIfInBounds_toArray, List.set_cons_zero, List.set_cons_succ, List.getElem_toArray, List.getElem_cons_succ, List.getElem_cons_zero]
        refine wpAnyH_take (i := 20) (v := .bool true) rfl (by kernel_rfl) (by kernel_rfl) (by kernel_rfl) (by first | exact fun _ _ _ h => h | exact fun _ _ _ h => nomatch h.1) (Or.inl ⟨by rfl, fun w_ hw_ => by go_simp⟩) hz ?_
        try simp only [Act.put, List.setIfInBounds_toArray, List.set_cons_zero, List.set_cons_succ, List.getElem_toArray, List.getElem_cons_succ, List.getElem_cons_zero]
        refine wpAnyH_take (i := 21) (v := .bool true) rfl (by kernel_rfl) (by kernel_rfl) (by kernel_rfl) (by first | exact fun _ _ _ h => h | exact fun _ _ _ h => nomatch h.1) (Or.inl ⟨by rfl, fun w_ hw_ => by go_simp⟩) hz ?_
        try simp only [Act.put, List.setIfInBounds_toArray, List.set_cons_zero, List.set_cons_succ, List.getElem_toArray, List.getElem_cons_succ, List.getElem_cons_zero]
        refine wpAnyH_take (i := 22) (v := .agg (cellsF f sd sr).toArray) rfl (by kernel_rfl) (by kernel_rfl) (by kernel_rfl) (by first | exact fun _ _ _ h => h | exact fun _ _ _ h => nomatch h.1) (yieldsIf_load_mid (by rfl) 27 _ rfl w.heap.size 0 rfl (cellsF f sd sr) _ (fun x hx => (HRX.out x hx).1.rangeMid 0 _ (fun j v hv => by rw [Nat.zero_add]; exact hv)) Tryd.underlying27 rfl (by rw [cF_len _ _ _ HTF.out]; exact size27)) hz ?_
        try simp only [Act.put, List.setIfInBounds_toArray, List.set_cons_zero, List.set_cons_succ, List.getElem_toArray, List.getElem_cons_succ, List.getElem_cons_zero]
        refine wpAnyH_take (i := 24) (v := .pointer (some ⟨w.heap.size, 0, none⟩)) rfl (by kernel_rfl) (by kernel_rfl) (by kernel_rfl) (by first | exact fun _ _ _ h => h | exact fun _ _ _ h => nomatch h.1) (Or.inl ⟨by rfl, fun w_ hw_ => by go_simp⟩) hz ?_
        try simp only [Act.put, List.setIfInBounds_toArray, List.set_cons_zero, List.set_cons_succ, List.getElem_toArray, List.getElem_cons_succ, List.getElem_cons_zero]
        refine wpAnyH_take (i := 25) (v := .int .i64 0) rfl (by kernel_rfl) (by kernel_rfl) (by kernel_rfl) (by first | exact fun _ _ _ h => h | exact fun _ _ _ h => nomatch h.1) (Or.inl ⟨by rfl, fun w_ hw_ => by have q_ := (HRX.out _ hw_).1.cell 0; rw [cF_0, k0] at q_; go_simp⟩) hz ?_
        try simp only [Act.put, List.setIfInBounds_toArray, List.set_cons_zero, List.set_cons_succ, List.getElem_toArray, List.getElem_cons_succ, List.getElem_cons_zero]
        refine wpAnyH_take (i := 26) (v := .bool false) rfl (by kernel_rfl) (by kernel_rfl) (by kernel_rfl) (by first | exact fun _ _ _ h => h | exact fun _ _ _ h => nomatch h.1) (Or.inl ⟨by rfl, fun w_ hw_ => by go_simp⟩) hz ?_
        try simp only [Act.put, List.setIfInBounds_toArray, List.set_cons_zero, List.set_cons_succ, List.getElem_toArray, List.getElem_cons_succ, List.getElem_cons_zero]
        refine wpAnyH_ready (rs := [23]) (by kernel_rfl) (by simp) ?_
        refine AllReadyH.cons rfl (fun K hK => ?_) AllReadyH.nil
        rw [if_pos (by rfl)]
        try simp only [List.getElem_toArray, List.getElem_cons_succ, List.getElem_cons_zero]
        go_simp
        refine (HEL.out _).mono ?_
        rintro e x8 ⟨rfl, hcx⟩
        have hz := hz.trans hcx
        refine hK.out _ _ hz (fun _ => ?_)
        clear hK K hcx
        try simp only [Act.put, List.setIfInBounds_toArray, List.set_cons_zero, List.set_cons_succ, List.getElem_toArray, List.getElem_cons_succ, List.getElem_cons_zero]
        refine wpAnyH_take (i := 27) (v := .bool false) rfl (by kernel_rfl) (by kernel_rfl) (by kernel_rfl) (by first | exact fun _ _ _ h => h | exact fun _ _ _ h => nomatch h.1) (Or.inl ⟨by rfl, fun w_ hw_ => by go_simp⟩) hz ?_
        try simp only [Act.put, List.setIfInBounds_toArray, List.set_cons_zero, List.set_cons_succ, List.getElem_toArray, List.getElem_cons_succ, List.getElem_cons_zero]
        refine wpAnyH_take (i := 28) (v := undef) rfl (by kernel_rfl) (by kernel_rfl) (by kernel_rfl) (by first | exact fun _ _ _ h => h | exact fun _ _ _ h => nomatch h.1) (Or.inr ⟨by rfl, rfl⟩) hz ?_
        try simp only [Act.put, List.setIfInBounds_toArray, List.set_cons_zero, List.set_cons_succ, List.getElem_toArray, List.getElem_cons_succ, List.getElem_cons_zero]
        refine wpAnyH_take (i := 29) (v := undef) rfl (by kernel_rfl) (by kernel_rfl) (by kernel_rfl) (by first | exact fun _ _ _ h => h | exact fun _ _ _ h => nomatch h.1) (Or.inr ⟨by rfl, rfl⟩) hz ?_
        try simp only [Act.put, List.setIfInBounds_toArray, List.set_cons_zero, List.set_cons_succ, List.getElem_toArray, List.getElem_cons_succ, List.getElem_cons_zero]
        refine wpAnyH_take (i := 30) (v := undef) rfl (by kernel_rfl) (by kernel_rfl) (by kernel_rfl) (by first | exact fun _ _ _ h => h | exact fun _ _ _ h => nomatch h.1) (Or.inr ⟨by rfl, rfl⟩) hz ?_
        try simp only [Act.put, List.setIfInBounds_toArray, List.set_cons_zero, List.set_cons_succ, List.getElem_toArray, List.getElem_cons_succ, List.getElem_cons_zero]
        refine wpAnyH_take (i := 31) (v := .bool false) rfl (by kernel_rfl) (by kernel_rfl) (by kernel_rfl) (by first | exact fun _ _ _ h => h | exact fun _ _ _ h => nomatch h.1) (Or.inl ⟨by rfl, fun w_ hw_ => by go_simp⟩) hz ?_
        try simp only [Act.put, List.setIfInBounds_toArray, List.set_cons_zero, List.set_cons_succ, List.getElem_toArray, List.getElem_cons_succ, List.getElem_cons_zero]
        refine wpAnyH_take (i := 32) (v := .bool false) rfl (by kernel_rfl) (by kernel_rfl) (by kernel_rfl) (by first | exact fun _ _ _ h => h | exact fun _ _ _ h => nomatch h.1) (Or.inl ⟨by rfl, fun w_ hw_ => by go_simp⟩) hz ?_
        try simp only [Act.put, List.setIfInBounds_toArray, List.set_cons_zero, List.set_cons_succ, List.getElem_toArray, List.getElem_cons_succ, List.getElem_cons_zero]
        refine wpAnyH_take (i := 33) (v := undef) rfl (by kernel_rfl) (by kernel_rfl) (by kernel_rfl) (by first | exact fun _ _ _ h => h | exact fun _ _ _ h => nomatch h.1) (Or.inr ⟨by rfl, rfl⟩) hz ?_
        try simp only [Act.put, List.setIfInBounds_toArray, List.set_cons_zero, List.set_cons_succ, List.getElem_toArray, List.getElem_cons_succ, List.getElem_cons_zero]
        refine wpAnyH_take (i := 34) (v := undef) rfl (by kernel_rfl) (by kernel_rfl) (by kernel_rfl) (by first | exact fun _ _ _ h => h | exact fun _ _ _ h => nomatch h.1) (Or.inr ⟨by rfl, rfl⟩) hz ?_
        try simp only [Act.put, List.setIfInBounds_toArray, List.set_cons_zero, List.set_cons_succ, List.getElem_toArray, List.getElem_cons_succ, List.getElem_cons_zero]
        refine wpAnyH_take (i := 35) (v := undef) rfl (by kernel_rfl) (by kernel_rfl) (by kernel_rfl) (by first | exact fun _ _ _ h => h | exact fun _ _ _ h => nomatch h.1) (Or.inr ⟨by rfl, rfl⟩) hz ?_
        try simp only [Act.put, List.setIfInBounds_toArray, List.set_cons_zero, List.set_cons_succ, List.getElem_toArray, List.getElem_cons_succ, List.getElem_cons_zero]
        refine wpAnyH_take (i := 36) (v := .bool false) rfl (by kernel_rfl) (by kernel_rfl) (by kernel_rfl) (by first | exact fun _ _ _ h => h | exact fun _ _ _ h => nomatch h.1) (Or.inl ⟨by rfl, fun w_ hw_ => by go_simp⟩) hz ?_
        try simp only [Act.put, List.setIfInBounds_toArray, List.set_cons_zero, List.set_cons_succ, List.getElem_toArray, List.getElem_cons_succ, List.getElem_cons_zero]
        refine wpAnyH_take (i := 37) (v := .bool true) rfl (by kernel_rfl) (by kernel_rfl) (by kernel_rfl) (by first | exact fun _ _ _ h => h | exact fun _ _ _ h => nomatch h.1) (Or.inl ⟨by rfl, fun w_ hw_ => by go_simp⟩) hz ?_
        try simp only [Act.put, List.setIfInBounds_toArray, List.set_cons_zero, List.set_cons_succ, List.getElem_toArray, List.getElem_cons_succ, List.getElem_cons_zero]
        refine wpAnyH_take (i := 38) (v := .bool true) rfl (by kernel_rfl) (by kernel_rfl) (by kernel_rfl) (by first | exact fun _ _ _ h => h | exact fun _ _ _ h => nomatch h.1) (Or.inl ⟨by rfl, fun w_ hw_ => by go_simp⟩) hz ?_
        try simp only [Act.put, List.setIfInBounds_toArray, List.set_cons_zero, List.set_cons_succ, List.getElem_toArray, List.getElem_cons_succ, List.getElem_cons_zero]
        refine wpAnyH_take (i := 39) (v := .bool true) rfl (by kernel_rfl) (by kernel_rfl) (by kernel_rfl) (by first | exact fun _ _ _ h => h | exact fun _ _ _ h => nomatch h.1) (Or.inl ⟨by rfl, fun w_ hw_ => by go_simp⟩) hz ?_
        try simp only [Act.put, List.setIfInBounds_toArray, List.set_cons_zero, List.set_cons_succ, List.getElem_toArray, List.getElem_cons_succ, List.getElem_cons_zero]
        refine wpAnyH_done (by kernel_rfl) ?_ _
        go_wp2
        go_ret
        exact ⟨rfl, HWX.out _ hz⟩
      · by_cases k2 : f.kind = 2
        · simp only [k2, ne_eq, not_true_eq_false, false_and, and_false, decide_false] at HEL
          go_enter Tryd.func3, Tryd.ntmps3
          go_wp2_with (first | ((with_reducible show wpList _ _ _ (⟨some 2, .box _ _, _, _, _, _⟩ :: _) _ _); refine wpList_box_Row rfl rfl (cellsF f sd sr) rfl ?_; intro w1 hr1 hc1 hs1; have HR1 := Lib.hid hr1; have HC1 := Lib.hid hc1; have HS1 := Lib.hid hs1; clear hr1 hc1 hs1) | ((with_reducible show wpList _ _ _ (⟨some 3, .box _ _, _, _, _, _⟩ :: _) _ _); refine wpList_box_Row rfl rfl (cellsF g td tr) rfl ?_; intro w2 hr2 hc2 hs2; have HRW := Lib.hid (show ∀ w', Chg none_ w2 w' → Row w' w.heap.size 27 (cellsF f sd sr) ∧ Row w' w1.heap.size 27 (cellsF g td tr) from fun w' hc => ⟨(HR1.out.chg hc2 (fun h => h)).chg hc (fun h => h), hr2.chg hc (fun h => h)⟩); have HC := Lib.hid (Chg.refl none_ w2); have HW2 := Lib.hid (HC1.out.trans hc2); clear hr2 hc2 hs2 HR1) | (go_at_call 4; refine (alive_any _ (HT.out.chg (HW2.out.trans HC.out) (fun h => h))).mono ?_; rintro e w3 ⟨rfl, hc⟩; have HC := Lib.hid (HC.out.trans hc); clear hc) | ((with_reducible show wpList _ _ _ (⟨some 7, .load _ _, _, _, _, _⟩ :: _) _ _); refine wpList_load_Row (cs := cellsF f sd sr) rfl rfl rfl (HRW.out _ HC.out).1 Tryd.underlying27 rfl (by rw [cF_len _ _ _ HTF.out]; exact size27) ?_) | (go_at_call 5; (with_reducible show Calls _ _ #[.agg (cellsF f sd sr).toArray] _ _); refine (HGF.out _ (HW2.out.trans HC.out)).mono ?_; rintro e w4 ⟨rfl, hc⟩; have HC := Lib.hid (HC.out.trans hc); clear hc) | ((with_reducible show wpList _ _ _ (⟨some 10, .load _ _, _, _, _, _⟩ :: _) _ _); refine wpList_load_Row (cs := cellsF g td tr) rfl rfl rfl (HRW.out _ HC.out).2 Tryd.underlying27 rfl (by rw [cF_len _ _ _ HTG.out]; exact size27) ?_) | (go_at_call 5; (with_reducible show Calls _ _ #[.agg (cellsF g td tr).toArray] _ _); refine (HGG.out _ (HW2.out.trans HC.out)).mono ?_; rintro e w5 ⟨rfl, hc⟩; have HC := Lib.hid (HC.out.trans hc); clear hc))
          have HRX := Lib.hid (show ∀ x, Chg none_ w5 x → Row x w.heap.size 27 (cellsF f sd sr) ∧ Row x w1.heap.size 27 (cellsF g td tr) from fun x hx => HRW.out x (HC.out.trans hx))
          have HWX := Lib.hid (show ∀ x, Chg none_ w5 x → Chg none_ w x from fun x hx => (HW2.out.trans HC.out).trans hx)
          refine wp_region_held_drew (S := fun x => Chg none_ w5 x) (by kernel_rfl) ((Chg.refl none_ w5).drew) (fun hch0 => ?_)
          have hz : Chg none_ w5 w5.drew := (Chg.refl none_ w5).drew
          generalize w5.drew = wz at hz ⊢
          clear hch0
          refine wpAnyH_take (i := 0) (v := .agg (cellsF f sd sr).toArray) rfl (by kernel_rfl) (by kernel_rfl) (by kernel_rfl) (by first | exact fun _ _ _ h => h | exact fun _ _ _ h => nomatch h.1) (yieldsIf_load_mid (by rfl) 27 _ rfl w.heap.size 0 rfl (cellsF f sd sr) _ (fun x hx => (HRX.out x hx).1.rangeMid 0 _ (fun j v hv => by rw [Nat.zero_add]; exact hv)) Tryd.underlying27 rfl (by rw [cF_len _ _ _ HTF.out]; exact size27)) hz ?_
          try simp only [Act.put, List.setIfInBounds_toArray, List.set_cons_zero, List.set_cons_succ, List.getElem_toArray, List.getElem_cons_zero]
          refine wpAnyH_take (i := 2) (v := .agg (cellsF f sd sr).toArray) rfl (by kernel_rfl) (by kernel_rfl) (by kernel_rfl) (by first | exact fun _ _ _ h => h | exact fun _ _ _ h => nomatch h.1) (yieldsIf_load_mid (by rfl) 27 _ rfl w.heap.size 0 rfl (cellsF f sd sr) _ (fun x hx => (HRX.out x hx).1.rangeMid 0 _ (fun j v hv => by rw [Nat.zero_add]; exact hv)) Tryd.underlying27 rfl (by rw [cF_len _ _ _ HTF.out]; exact size27)) hz ?_
          try simp only [Act.put, List.setIfInBounds_toArray, List.set_cons_zero, List.set_cons_succ, List.getElem_toArray, List.getElem_cons_succ, List.getElem_cons_zero]
          refine wpAnyH_ready (rs := [1]) (by kernel_rfl) (by simp) ?_
          refine AllReadyH.cons rfl (fun K hK => ?_) AllReadyH.nil
          rw [if_pos (by rfl)]
          try simp only [List.getElem_toArray, List.getElem_cons_succ, List.getElem_cons_zero]
          go_simp
          refine (HRF.out _ (HWX.out _ hz)).mono ?_
          rintro e x1 ⟨rfl, hcx⟩
          have hz := hz.trans hcx
          refine hK.out _ _ hz (fun _ => ?_)
          clear hK K hcx
          try simp only [Act.put, List.setIfInBounds_toArray, List.set_cons_zero, List.set_cons_succ, List.getElem_toArray, List.getElem_cons_succ, List.getElem_cons_zero]
          refine wpAnyH_ready (rs := [3]) (by kernel_rfl) (by simp) ?_
          refine AllReadyH.cons rfl (fun K hK => ?_) AllReadyH.nil
          rw [if_pos (by rfl)]
          try simp only [List.getElem_toArray, List.getElem_cons_succ, List.getElem_cons_zero]
          go_simp
          refine (HRR.out _ (HWX.out _ hz)).mono ?_
          rintro e x2 ⟨rfl, hcx⟩
          have hz := hz.trans hcx
          refine hK.out _ _ hz (fun _ => ?_)
          clear hK K hcx
          try simp only [Act.put, List.setIfInBounds_toArray, List.set_cons_zero, List.set_cons_succ, List.getElem_toArray, List.getElem_cons_succ, List.getElem_cons_zero]
          refine wpAnyH_take (i := 4) (v := .bool true) rfl (by kernel_rfl) (by kernel_rfl) (by kernel_rfl) (by first | exact fun _ _ _ h => h | exact fun _ _ _ h => nomatch h.1) (Or.inl ⟨by rfl, fun w_ hw_ => by cases rt <;> go_simp⟩) hz ?_
          try simp only [Act.put, List.setIfInBounds_toArray, List.set_cons_zero, List.set_cons_succ, List.getElem_toArray, List.getElem_cons_succ, List.getElem_cons_zero]
          refine wpAnyH_take (i := 5) (v := .bool true) rfl (by kernel_rfl) (by kernel_rfl) (by kernel_rfl) (by first | exact fun _ _ _ h => h | exact fun _ _ _ h => nomatch h.1) (Or.inl ⟨by rfl, fun w_ hw_ => by go_simp⟩) hz ?_
          try simp only [Act.put, List.setIfInBounds_toArray, List.set_cons_zero, List.set_cons_succ, List.getElem_toArray, List.getElem_cons_succ, List.getElem_cons_zero]
          refine wpAnyH_take (i := 6) (v := .agg (cellsF f sd sr).toArray) rfl (by kernel_rfl) (by kernel_rfl) (by kernel_rfl) (by first | exact fun _ _ _ h => h | exact fun _ _ _ h => nomatch h.1) (yieldsIf_load_mid (by rfl) 27 _ rfl w.heap.size 0 rfl (cellsF f sd sr) _ (fun x hx => (HRX.out x hx).1.rangeMid 0 _ (fun j v hv => by rw [Nat.zero_add]; exact hv)) Tryd.underlying27 rfl (by rw [cF_len _ _ _ HTF.out]; exact size27)) hz ?_
          try simp only [Act.put, List.setIfInBounds_toArray, List.set_cons_zero, List.set_cons_succ, List.getElem_toArray, List.getElem_cons_succ, List.getElem_cons_zero]
          refine wpAnyH_take (i := 8) (v := .agg (cellsF f sd sr).toArray) rfl (by kernel_rfl) (by kernel_rfl) (by kernel_rfl) (by first | exact fun _ _ _ h => h | exact fun _ _ _ h => nomatch h.1) (yieldsIf_load_mid (by rfl) 27 _ rfl w.heap.size 0 rfl (cellsF f sd sr) _ (fun x hx => (HRX.out x hx).1.rangeMid 0 _ (fun j v hv => by rw [Nat.zero_add]; exact hv)) Tryd.underlying27 rfl (by rw [cF_len _ _ _ HTF.out]; exact size27)) hz ?_
          try simp only [Act.put, List.setIfInBounds_toArray, List.set_cons_zero, List.set_cons_succ, List.getElem_toArray, List.getElem_cons_succ, List.getElem_cons_zero]
          refine wpAnyH_ready (rs := [7]) (by kernel_rfl) (by simp) ?_
          refine AllReadyH.cons rfl (fun K hK => ?_) AllReadyH.nil
          rw [if_pos (by rfl)]
          try simp only [List.getElem_toArray, List.getElem_cons_succ, List.getElem_cons_zero]
          go_simp
          refine (HPF.out _ (HWX.out _ hz)).mono ?_
          rintro e x3 ⟨A1, c1, rfl, hv1, hcx⟩
          have hz := hz.trans hcx
          refine hK.out _ _ hz (fun _ => ?_)
          clear hK K hcx
          try simp only [Act.put, List.setIfInBounds_toArray, List.set_cons_zero, List.set_cons_succ, List.getElem_toArray, List.getElem_cons_succ, List.getElem_cons_zero]
          refine wpAnyH_ready (rs := [9]) (by kernel_rfl) (by simp) ?_
          refine AllReadyH.cons rfl (fun K hK => ?_) AllReadyH.nil
          rw [if_pos (by rfl)]
          try simp only [List.getElem_toArray, List.getElem_cons_succ, List.getElem_cons_zero]
          go_simp
          refine (HPR.out _ (HWX.out _ hz)).mono ?_
          rintro e x4 ⟨A2, c2, rfl, hv2, hcx⟩
          have hv1 := hv1.chg hcx (fun _ _ h => h)
          have hz := hz.trans hcx
          refine hK.out _ _ hz (fun _ => ?_)
          clear hK K hcx
          try simp only [Act.put, List.setIfInBounds_toArray, List.set_cons_zero, List.set_cons_succ, List.getElem_toArray, List.getElem_cons_succ, List.getElem_cons_zero]
          refine wpAnyH_ready (rs := [10]) (by kernel_rfl) (by simp) ?_
          refine AllReadyH.cons rfl (fun K hK => ?_) AllReadyH.nil
          rw [if_pos (by rfl)]
          try simp only [List.getElem_toArray, List.getElem_cons_succ, List.getElem_cons_zero]
          go_simp
          refine (HSB.out _ _ _ _ _ _ _ hv1 hv2).mono ?_
          rintro e x5 ⟨rfl, hcx⟩
          have hz := hz.trans hcx
          refine hK.out _ _ hz (fun _ => ?_)
          clear hK K hcx
          try simp only [Act.put, List.setIfInBounds_toArray, List.set_cons_zero, List.set_cons_succ, List.getElem_toArray, List.getElem_cons_succ, List.getElem_cons_zero]
          refine wpAnyH_take (i := 11) (v := .bool true) rfl (by kernel_rfl) (by kernel_rfl) (by kernel_rfl) (by first | exact fun _ _ _ h => h | exact fun _ _ _ h => nomatch h.1) (Or.inl ⟨by rfl, fun w_ hw_ => by go_simp⟩) hz ?_
          try simp only [Act.put, List.setIfInBounds_toArray, List.set_cons_zero, List.set_cons_succ, List.getElem_toArray, List.getElem_cons_succ, List.getElem_cons_zero]
          refine wpAnyH_take (i := 12) (v := .bool true) rfl (by kernel_rfl) (by kernel_rfl) (by kernel_rfl) (by first | exact fun _ _ _ h => h | exact fun _ _ _ h => nomatch h.1) (Or.inl ⟨by rfl, fun w_ hw_ => by go_simp⟩) hz ?_
          try simp only [Act.put, List.setIfInBounds_toArray, List.set_cons_zero, List.set_cons_succ, List.getElem_toArray, List.getElem_cons_succ, List.getElem_cons_zero]
          refine wpAnyH_take (i := 13) (v := .agg (cellsF f sd sr).toArray) rfl (by kernel_rfl) (by kernel_rfl) (by kernel_rfl) (by first | exact fun _ _ _ h => h | exact fun _ _ _ h => nomatch h.1) (yieldsIf_load_mid (by rfl) 27 _ rfl w.heap.size 0 rfl (cellsF f sd sr) _ (fun x hx => (HRX.out x hx).1.rangeMid 0 _ (fun j v hv => by rw [Nat.zero_add]; exact hv)) Tryd.underlying27 rfl (by rw [cF_len _ _ _ HTF.out]; exact size27)) hz ?_
          try simp only [Act.put, List.setIfInBounds_toArray, List.set_cons_zero, List.set_cons_succ, List.getElem_toArray, List.getElem_cons_succ, List.getElem_cons_zero]
          refine wpAnyH_take (i := 14) (v := .agg (cellsF g td tr).toArray) rfl (by kernel_rfl) (by kernel_rfl) (by kernel_rfl) (by first | exact fun _ _ _ h => h | exact fun _ _ _ h => nomatch h.1) (yieldsIf_load_mid (by rfl) 27 _ rfl w1.heap.size 0 rfl (cellsF g td tr) _ (fun x hx => (HRX.out x hx).2.rangeMid 0 _ (fun j v hv => by rw [Nat.zero_add]; exact hv)) Tryd.underlying27 rfl (by rw [cF_len _ _ _ HTG.out]; exact size27)) hz ?_
          try simp only [Act.put, List.setIfInBounds_toArray, List.set_cons_zero, List.set_cons_succ, List.getElem_toArray, List.getElem_cons_succ, List.getElem_cons_zero]
          refine wpAnyH_take (i := 16) (v := .agg (cellsF f sd sr).toArray) rfl (by kernel_rfl) (by kernel_rfl) (by kernel_rfl) (by first | exact fun _ _ _ h => h | exact fun _ _ _ h => nomatch h.1) (yieldsIf_load_mid (by rfl) 27 _ rfl w.heap.size 0 rfl (cellsF f sd sr) _ (fun x hx => (HRX.out x hx).1.rangeMid 0 _ (fun j v hv => by rw [Nat.zero_add]; exact hv)) Tryd.underlying27 rfl (by rw [cF_len _ _ _ HTF.out]; exact size27)) hz ?_
          try simp only [Act.put, List.setIfInBounds_toArray, List.set_cons_zero, List.set_cons_succ, List.getElem_toArray, List.getElem_cons_succ, List.getElem_cons_zero]
          refine wpAnyH_take (i := 17) (v := .agg (cellsF g td tr).toArray) rfl (by kernel_rfl) (by kernel_rfl) (by kernel_rfl) (by first | exact fun _ _ _ h => h | exact fun _ _ _ h => nomatch h.1) (yieldsIf_load_mid (by rfl) 27 _ rfl w1.heap.size 0 rfl (cellsF g td tr) _ (fun x hx => (HRX.out x hx).2.rangeMid 0 _ (fun j v hv => by rw [Nat.zero_add]; exact hv)) Tryd.underlying27 rfl (by rw [cF_len _ _ _ HTG.out]; exact size27)) hz ?_
          try simp only [Act.put, List.setIfInBounds_toArray, List.set_cons_zero, List.set_cons_succ, List.getElem_toArray, List.getElem_cons_succ, List.getElem_cons_zero]
          refine wpAnyH_ready (rs := [15]) (by kernel_rfl) (by simp) ?_
          refine AllReadyH.cons rfl (fun K hK => ?_) AllReadyH.nil
          rw [if_pos (by rfl)]
          try simp only [List.getElem_toArray, List.getElem_cons_succ, List.getElem_cons_zero]
          go_simp
          refine (HSF.out _ (HWX.out _ hz)).mono ?_
          rintro e x6 ⟨rfl, hcx⟩
          have hz := hz.trans hcx
          refine hK.out _ _ hz (fun _ => ?_)
          clear hK K hcx
          try simp only [Act.put, List.setIfInBounds_toArray, List.set_cons_zero, List.set_cons_succ, List.getElem_toArray, List.getElem_cons_succ, List.getElem_cons_zero]
          refine wpAnyH_ready (rs := [18]) (by kernel_rfl) (by simp) ?_
          refine AllReadyH.cons rfl (fun K hK => ?_) AllReadyH.nil
          rw [if_pos (by rfl)]
          try simp only [List.getElem_toArray, List.getElem_cons_succ, List.getElem_cons_zero]
          go_simp
          refine (HSR.out _ (HWX.out _ hz)).mono ?_
          rintro e x7 ⟨rfl, hcx⟩
          have hz := hz.trans hcx
          refine hK.out _ _ hz (fun _ => ?_)
          clear hK K hcx
          try simp only [Act.put, List.setIfInBounds_toArray, List.set_cons_zero, List.set_cons_succ, List.getElem_toArray, List.getElem_cons_succ, List.getElem_cons_zero]
          refine wpAnyH_take (i := 19) (v := .bool true) rfl (by kernel_rfl) (by kernel_rfl) (by kernel_rfl) (by first | exact fun _ _ _ h => h | exact fun _ _ _ h => nomatch h.1) (Or.inl ⟨by rfl, fun w_ hw_ => by cases same <;> go_simp⟩) hz ?_
          try simp only [Act.put, List.setIfInBounds_toArray, List.set_cons_zero, List.set_cons_succ, List.getElem_toArray, List.getElem_cons_succ, List.getElem_cons_zero]
          refine wpAnyH_take (i := 20) (v := .bool true) rfl (by kernel_rfl) (by kernel_rfl) (by kernel_rfl) (by first | exact fun _ _ _ h => h | exact fun _ _ _ h => nomatch h.1) (Or.inl ⟨by rfl, fun w_ hw_ => by go_simp⟩) hz ?_
          try simp only [Act.put, List.setIfInBounds_toArray, List.set_cons_zero, List.set_cons_succ, List.getElem_toArray, List.getElem_cons_succ, List.getElem_cons_zero]
          refine wpAnyH_take (i := 21) (v := .bool true) rfl (by kernel_rfl) (by kernel_rfl) (by kernel_rfl) (by first | exact fun _ _ _ h => h | exact fun _ _ _ h => nomatch h.1) (Or.inl ⟨by rfl, fun w_ hw_ => by go_simp⟩) hz ?_
          try simp only [Act.put, List.setIfInBounds_toArray, List.set_cons_zero, List.set_cons_succ, List.getElem_toArray, List.getElem_cons_succ, List.getElem_cons_zero]
          refine wpAnyH_take (i := 22) (v := .agg (cellsF f sd sr).toArray) rfl (by kernel_rfl) (by kernel_rfl) (by kernel_rfl) (by first | exact fun _ _ _ h => h | exact fun _ _ _ h => nomatch h.1) (yieldsIf_load_mid (by rfl) 27 _ rfl w.heap.size 0 rfl (cellsF f sd sr) _ (fun x hx => (HRX.out x hx).1.rangeMid 0 _ (fun j v hv => by rw [Nat.zero_add]; exact hv)) Tryd.underlying27 rfl (by rw [cF_len _ _ _ HTF.out]; exact size27)) hz ?_
          try simp only [Act.put, List.setIfInBounds_toArray, List.set_cons_zero, List.set_cons_succ, List.getElem_toArray, List.getElem_cons_succ, List.getElem_cons_zero]
          refine wpAnyH_take (i := 24) (v := .pointer (some ⟨w.heap.size, 0, none⟩)) rfl (by kernel_rfl) (by kernel_rfl) (by kernel_rfl) (by first | exact fun _ _ _ h => h | exact fun _ _ _ h => nomatch h.1) (Or.inl ⟨by rfl, fun w_ hw_ => by go_simp⟩) hz ?_
          try simp only [Act.put, List.setIfInBounds_toArray, List.set_cons_zero, List.set_cons_succ, List.getElem_toArray, List.getElem_cons_succ, List.getElem_cons_zero]
          refine wpAnyH_take (i := 25) (v := .int .i64 2) rfl (by kernel_rfl) (by kernel_rfl) (by kernel_rfl) (by first | exact fun _ _ _ h => h | exact fun _ _ _ h => nomatch h.1) (Or.inl ⟨by rfl, fun w_ hw_ => by have q_ := (HRX.out _ hw_).1.cell 0; rw [cF_0, k2] at q_; go_simp⟩) hz ?_
          try simp only [Act.put, List.setIfInBounds_toArray, List.set_cons_zero, List.set_cons_succ, List.getElem_toArray, List.getElem_cons_succ, List.getElem_cons_zero]
          refine wpAnyH_take (i := 26) (v := .bool true) rfl (by kernel_rfl) (by kernel_rfl) (by kernel_rfl) (by first | exact fun _ _ _ h => h | exact fun _ _ _ h => nomatch h.1) (Or.inl ⟨by rfl, fun w_ hw_ => by go_simp⟩) hz ?_
          try simp only [Act.put, List.setIfInBounds_toArray, List.set_cons_zero, List.set_cons_succ, List.getElem_toArray, List.getElem_cons_succ, List.getElem_cons_zero]
          refine wpAnyH_ready (rs := [23]) (by kernel_rfl) (by simp) ?_
          refine AllReadyH.cons rfl (fun K hK => ?_) AllReadyH.nil
          rw [if_pos (by rfl)]
          try simp only [List.getElem_toArray, List.getElem_cons_succ, List.getElem_cons_zero]
          go_simp
          refine (HEL.out _).mono ?_
          rintro e x8 ⟨rfl, hcx⟩
          have hz := hz.trans hcx
          refine hK.out _ _ hz (fun _ => ?_)
          clear hK K hcx
          try simp only [Act.put, List.setIfInBounds_toArray, List.set_cons_zero, List.set_cons_succ, List.getElem_toArray, List.getElem_cons_succ, List.getElem_cons_zero]
          refine wpAnyH_take (i := 27) (v := .bool true) rfl (by kernel_rfl) (by kernel_rfl) (by kernel_rfl) (by first | exact fun _ _ _ h => h | exact fun _ _ _ h => nomatch h.1) (Or.inl ⟨by rfl, fun w_ hw_ => by go_simp⟩) hz ?_
          try simp only [Act.put, List.setIfInBounds_toArray, List.set_cons_zero, List.set_cons_succ, List.getElem_toArray, List.getElem_cons_succ, List.getElem_cons_zero]
          refine wpAnyH_take (i := 28) (v := .pointer (some ⟨w.heap.size, 0, none⟩)) rfl (by kernel_rfl) (by kernel_rfl) (by kernel_rfl) (by first | exact fun _ _ _ h => h | exact fun _ _ _ h => nomatch h.1) (Or.inl ⟨by rfl, fun w_ hw_ => by go_simp⟩) hz ?_
          try simp only [Act.put, List.setIfInBounds_toArray, List.set_cons_zero, List.set_cons_succ, List.getElem_toArray, List.getElem_cons_succ, List.getElem_cons_zero]
          refine wpAnyH_take (i := 29) (v := .int .i64 2) rfl (by kernel_rfl) (by kernel_rfl) (by kernel_rfl) (by first | exact fun _ _ _ h => h | exact fun _ _ _ h => nomatch h.1) (Or.inl ⟨by rfl, fun w_ hw_ => by have q_ := (HRX.out _ hw_).1.cell 0; rw [cF_0, k2] at q_; go_simp⟩) hz ?_
          try simp only [Act.put, List.setIfInBounds_toArray, List.set_cons_zero, List.set_cons_succ, List.getElem_toArray, List.getElem_cons_succ, List.getElem_cons_zero]
          refine wpAnyH_take (i := 30) (v := .bool false) rfl (by kernel_rfl) (by kernel_rfl) (by kernel_rfl) (by first | exact fun _ _ _ h => h | exact fun _ _ _ h => nomatch h.1) (Or.inl ⟨by rfl, fun w_ hw_ => by go_simp⟩) hz ?_
          try simp only [Act.put, List.setIfInBounds_toArray, List.set_cons_zero, List.set_cons_succ, List.getElem_toArray, List.getElem_cons_succ, List.getElem_cons_zero]
          refine wpAnyH_take (i := 31) (v := .bool false) rfl (by kernel_rfl) (by kernel_rfl) (by kernel_rfl) (by first | exact fun _ _ _ h => h | exact fun _ _ _ h => nomatch h.1) (Or.inl ⟨by rfl, fun w_ hw_ => by go_simp⟩) hz ?_
          try simp only [Act.put, List.setIfInBounds_toArray, List.set_cons_zero, List.set_cons_succ, List.getElem_toArray, List.getElem_cons_succ, List.getElem_cons_zero]
          refine wpAnyH_take (i := 32) (v := .bool false) rfl (by kernel_rfl) (by kernel_rfl) (by kernel_rfl) (by first | exact fun _ _ _ h => h | exact fun _ _ _ h => nomatch h.1) (Or.inl ⟨by rfl, fun w_ hw_ => by go_simp⟩) hz ?_
          try simp only [Act.put, List.setIfInBounds_toArray, List.set_cons_zero, List.set_cons_succ, List.getElem_toArray, List.getElem_cons_succ, List.getElem_cons_zero]
          refine wpAnyH_take (i := 33) (v := undef) rfl (by kernel_rfl) (by kernel_rfl) (by kernel_rfl) (by first | exact fun _ _ _ h => h | exact fun _ _ _ h => nomatch h.1) (Or.inr ⟨by rfl, rfl⟩) hz ?_
          try simp only [Act.put, List.setIfInBounds_toArray, List.set_cons_zero, List.set_cons_succ, List.getElem_toArray, List.getElem_cons_succ, List.getElem_cons_zero]
          refine wpAnyH_take (i := 34) (v := undef) rfl (by kernel_rfl) (by kernel_rfl) (by kernel_rfl) (by first | exact fun _ _ _ h => h | exact fun _ _ _ h => nomatch h.1) (Or.inr ⟨by rfl, rfl⟩) hz ?_
          try simp only [Act.put, List.setIfInBounds_toArray, List.set_cons_zero, List.set_cons_succ, List.getElem_toArray, List.getElem_cons_succ, List.getElem_cons_zero]
          refine wpAnyH_take (i := 35) (v := undef) rfl (by kernel_rfl) (by kernel_rfl) (by kernel_rfl) (by first | exact fun _ _ _ h => h | exact fun _ _ _ h => nomatch h.1) (Or.inr ⟨by rfl, rfl⟩) hz ?_
          try simp only [Act.put, List.setIfInBounds_toArray, List.set_cons_zero, List.set_cons_succ, List.getElem_toArray, List.getElem_cons_succ, List.getElem_cons_zero]
          refine wpAnyH_take (i := 36) (v := .bool false) rfl (by kernel_rfl) (by kernel_rfl) (by kernel_rfl) (by first | exact fun _ _ _ h => h | exact fun _ _ _ h => nomatch h.1) (Or.inl ⟨by rfl, fun w_ hw_ => by go_simp⟩) hz ?_
          try simp only [Act.put, List.setIfInBounds_toArray, List.set_cons_zero, List.set_cons_succ, List.getElem_toArray, List.getElem_cons_succ, List.getElem_cons_zero]
          refine wpAnyH_take (i := 37) (v := .bool true) rfl (by kernel_rfl) (by kernel_rfl) (by kernel_rfl) (by first | exact fun _ _ _ h => h | exact fun _ _ _ h => nomatch h.1) (Or.inl ⟨by rfl, fun w_ hw_ => by go_simp⟩) hz ?_
          try simp only [Act.put, List.setIfInBounds_toArray, List.set_cons_zero, List.set_cons_succ, List.getElem_toArray, List.getElem_cons_succ, List.getElem_cons_zero]
          refine wpAnyH_take (i := 38) (v := .bool true) rfl (by kernel_rfl) (by kernel_rfl) (by kernel_rfl) (by first | exact fun _ _ _ h => h | exact fun _ _ _ h => nomatch h.1) (Or.inl ⟨by rfl, fun w_ hw_ => by go_simp⟩) hz ?_
          try simp only [Act.put, List.setIfInBounds_toArray, List.set_cons_zero, List.set_cons_succ, List.getElem_toArray, List.getElem_cons_succ, List.getElem_cons_zero]
          refine wpAnyH_take (i := 39) (v := .bool true) rfl (by kernel_rfl) (by kernel_rfl) (by kernel_rfl) (by first | exact fun _ _ _ h => h | exact fun _ _ _ h => nomatch h.1) (Or.inl ⟨by rfl, fun w_ hw_ => by go_simp⟩) hz ?_
          try simp only [Act.put, List.setIfInBounds_toArray, List.set_cons_zero, List.set_cons_succ, List.getElem_toArray, List.getElem_cons_succ, List.getElem_cons_zero]
          refine wpAnyH_done (by kernel_rfl) ?_ _
          go_wp2
          go_ret
          exact ⟨rfl, HWX.out _ hz⟩
        · by_cases k28 : f.kind = 28
          · simp only [k28, ne_eq, not_true_eq_false, and_false, decide_false] at HEL
            go_enter Tryd.func3, Tryd.ntmps3
            go_wp2_with (first | ((with_reducible show wpList _ _ _ (⟨some 2, .box _ _, _, _, _, _⟩ :: _) _ _); refine wpList_box_Row rfl rfl (cellsF f sd sr) rfl ?_; intro w1 hr1 hc1 hs1; have HR1 := Lib.hid hr1; have HC1 := Lib.hid hc1; have HS1 := Lib.hid hs1; clear hr1 hc1 hs1) | ((with_reducible show wpList _ _ _ (⟨some 3, .box _ _, _, _, _, _⟩ :: _) _ _); refine wpList_box_Row rfl rfl (cellsF g td tr) rfl ?_; intro w2 hr2 hc2 hs2; have HRW := Lib.hid (show ∀ w', Chg none_ w2 w' → Row w' w.heap.size 27 (cellsF f sd sr) ∧ Row w' w1.heap.size 27 (cellsF g td tr) from fun w' hc => ⟨(HR1.out.chg hc2 (fun h => h)).chg hc (fun h => h), hr2.chg hc (fun h => h)⟩); have HC := Lib.hid (Chg.refl none_ w2); have HW2 := Lib.hid (HC1.out.trans hc2); clear hr2 hc2 hs2 HR1) | (go_at_call 4; refine (alive_any _ (HT.out.chg (HW2.out.trans HC.out) (fun h => h))).mono ?_; rintro e w3 ⟨rfl, hc⟩; have HC := Lib.hid (HC.out.trans hc); clear hc) | ((with_reducible show wpList _ _ _ (⟨some 7, .load _ _, _, _, _, _⟩ :: _) _ _); refine wpList_load_Row (cs := cellsF f sd sr) rfl rfl rfl (HRW.out _ HC.out).1 Tryd.underlying27 rfl (by rw [cF_len _ _ _ HTF.out]; exact size27) ?_) | (go_at_call 5; (with_reducible show Calls _ _ #[.agg (cellsF f sd sr).toArray] _ _); refine (HGF.out _ (HW2.out.trans HC.out)).mono ?_; rintro e w4 ⟨rfl, hc⟩; have HC := Lib.hid (HC.out.trans hc); clear hc) | ((with_reducible show wpList _ _ _ (⟨some 10, .load _ _, _, _, _, _⟩ :: _) _ _); refine wpList_load_Row (cs := cellsF g td tr) rfl rfl rfl (HRW.out _ HC.out).2 Tryd.underlying27 rfl (by rw [cF_len _ _ _ HTG.out]; exact size27) ?_) | (go_at_call 5; (with_reducible show Calls _ _ #[.agg (cellsF g td tr).toArray] _ _); refine (HGG.out _ (HW2.out.trans HC.out)).mono ?_; rintro e w5 ⟨rfl, hc⟩; have HC := Lib.hid (HC.out.trans hc); clear hc))
            have HRX := Lib.hid (show ∀ x, Chg none_ w5 x → Row x w.heap.size 27 (cellsF f sd sr) ∧ Row x w1.heap.size 27 (cellsF g td tr) from fun x hx => HRW.out x (HC.out.trans hx))
            have HWX := Lib.hid (show ∀ x, Chg none_ w5 x → Chg none_ w x from fun x hx => (HW2.out.trans HC.out).trans hx)
            refine wp_region_held_drew (S := fun x => Chg none_ w5 x) (by kernel_rfl) ((Chg.refl none_ w5).drew) (fun hch0 => ?_)
            have hz : Chg none_ w5 w5.drew := (Chg.refl none_ w5).drew
            generalize w5.drew = wz at hz ⊢
            clear hch0
            refine wpAnyH_take (i := 0) (v := .agg (cellsF f sd sr).toArray) rfl (by kernel_rfl) (by kernel_rfl) (by kernel_rfl) (by first | exact fun _ _ _ h => h | exact fun _ _ _ h => nomatch h.1) (yieldsIf_load_mid (by rfl) 27 _ rfl w.heap.size 0 rfl (cellsF f sd sr) _ (fun x hx => (HRX.out x hx).1.rangeMid 0 _ (fun j v hv => by rw [Nat.zero_add]; exact hv)) Tryd.underlying27 rfl (by rw [cF_len _ _ _ HTF.out]; exact size27)) hz ?_
            try simp only [Act.put, List.setIfInBounds_toArray, List.set_cons_zero, List.set_cons_succ, List.getElem_toArray, List.getElem_cons_zero]
            refine wpAnyH_take (i := 2) (v := .agg (cellsF f sd sr).toArray) rfl (by kernel_rfl) (by kernel_rfl) (by kernel_rfl) (by first | exact fun _ _ _ h => h | exact fun _ _ _ h => nomatch h.1) (yieldsIf_load_mid (by rfl) 27 _ rfl w.heap.size 0 rfl (cellsF f sd sr) _ (fun x hx => (HRX.out x hx).1.rangeMid 0 _ (fun j v hv => by rw [Nat.zero_add]; exact hv)) Tryd.underlying27 rfl (by rw [cF_len _ _ _ HTF.out]; exact size27)) hz ?_
            try simp only [Act.put, List.setIfInBounds_toArray, List.set_cons_zero, List.set_cons_succ, List.getElem_toArray, List.getElem_cons_succ, List.getElem_cons_zero]
            refine wpAnyH_ready (rs := [1]) (by kernel_rfl) (by simp) ?_
            refine AllReadyH.cons rfl (fun K hK => ?_) AllReadyH.nil
            rw [if_pos (by rfl)]
            try simp only [List.getElem_toArray, List.getElem_cons_succ, List.getElem_cons_zero]
            go_simp
            refine (HRF.out _ (HWX.out _ hz)).mono ?_
            rintro e x1 ⟨rfl, hcx⟩
            have hz := hz.trans hcx
            refine hK.out _ _ hz (fun _ => ?_)
            clear hK K hcx
            try simp only [Act.put, List.setIfInBounds_toArray, List.set_cons_zero, List.set_cons_succ, List.getElem_toArray, List.getElem_cons_succ, List.getElem_cons_zero]
            refine wpAnyH_ready (rs := [3]) (by kernel_rfl) (by simp) ?_
            refine AllReadyH.cons rfl (fun K hK => ?_) AllReadyH.nil
            rw [if_pos (by rfl)]
            try simp only [List.getElem_toArray, List.getElem_cons_succ, List.getElem_cons_zero]
            go_simp
            refine (HRR.out _ (HWX.out _ hz)).mono ?_
            rintro e x2 ⟨rfl, hcx⟩
            have hz := hz.trans hcx
            refine hK.out _ _ hz (fun _ => ?_)
            clear hK K hcx
            try simp only [Act.put, List.setIfInBounds_toArray, List.set_cons_zero, List.set_cons_succ, List.getElem_toArray, List.getElem_cons_succ, List.getElem_cons_zero]
            refine wpAnyH_take (i := 4) (v := .bool true) rfl (by kernel_rfl) (by kernel_rfl) (by kernel_rfl) (by first | exact fun _ _ _ h => h | exact fun _ _ _ h => nomatch h.1) (Or.inl ⟨by rfl, fun w_ hw_ => by cases rt <;> go_simp⟩) hz ?_
            try simp only [Act.put, List.setIfInBounds_toArray, List.set_cons_zero, List.set_cons_succ, List.getElem_toArray, List.getElem_cons_succ, List.getElem_cons_zero]
            refine wpAnyH_take (i := 5) (v := .bool true) rfl (by kernel_rfl) (by kernel_rfl) (by kernel_rfl) (by first | exact fun _ _ _ h => h | exact fun _ _ _ h => nomatch h.1) (Or.inl ⟨by rfl, fun w_ hw_ => by go_simp⟩) hz ?_
            try simp only [Act.put, List.setIfInBounds_toArray, List.set_cons_zero, List.set_cons_succ, List.getElem_toArray, List.getElem_cons_succ, List.getElem_cons_zero]
            refine wpAnyH_take (i := 6) (v := .agg (cellsF f sd sr).toArray) rfl (by kernel_rfl) (by kernel_rfl) (by kernel_rfl) (by first | exact fun _ _ _ h => h | exact fun _ _ _ h => nomatch h.1) (yieldsIf_load_mid (by rfl) 27 _ rfl w.heap.size 0 rfl (cellsF f sd sr) _ (fun x hx => (HRX.out x hx).1.rangeMid 0 _ (fun j v hv => by rw [Nat.zero_add]; exact hv)) Tryd.underlying27 rfl (by rw [cF_len _ _ _ HTF.out]; exact size27)) hz ?_
            try simp only [Act.put, List.setIfInBounds_toArray, List.set_cons_zero, List.set_cons_succ, List.getElem_toArray, List.getElem_cons_succ, List.getElem_cons_zero]
            refine wpAnyH_take (i := 8) (v := .agg (cellsF f sd sr).toArray) rfl (by kernel_rfl) (by kernel_rfl) (by kernel_rfl) (by first | exact fun _ _ _ h => h | exact fun _ _ _ h => nomatch h.1) (yieldsIf_load_mid (by rfl) 27 _ rfl w.heap.size 0 rfl (cellsF f sd sr) _ (fun x hx => (HRX.out x hx).1.rangeMid 0 _ (fun j v hv => by rw [Nat.zero_add]; exact hv)) Tryd.underlying27 rfl (by rw [cF_len _ _ _ HTF.out]; exact size27)) hz ?_
            try simp only [Act.put, List.setIfInBounds_toArray, List.set_cons_zero, List.set_cons_succ, List.getElem_toArray, List.getElem_cons_succ, List.getElem_cons_zero]
            refine wpAnyH_ready (rs := [7]) (by kernel_rfl) (by simp) ?_
            refine AllReadyH.cons rfl (fun K hK => ?_) AllReadyH.nil
            rw [if_pos (by rfl)]
            try simp only [List.getElem_toArray, List.getElem_cons_succ, List.getElem_cons_zero]
            go_simp
            refine (HPF.out _ (HWX.out _ hz)).mono ?_
            rintro e x3 ⟨A1, c1, rfl, hv1, hcx⟩
            have hz := hz.trans hcx
            refine hK.out _ _ hz (fun _ => ?_)
            clear hK K hcx
            try simp only [Act.put, List.setIfInBounds_toArray, List.set_cons_zero, List.set_cons_succ, List.getElem_toArray, List.getElem_cons_succ, List.getElem_cons_zero]
            refine wpAnyH_ready (rs := [9]) (by kernel_rfl) (by simp) ?_
            refine AllReadyH.cons rfl (fun K hK => ?_) AllReadyH.nil
            rw [if_pos (by rfl)]
            try simp only [List.getElem_toArray, List.getElem_cons_succ, List.getElem_cons_zero]
            go_simp
            refine (HPR.out _ (HWX.out _ hz)).mono ?_
            rintro e x4 ⟨A2, c2, rfl, hv2, hcx⟩
            have hv1 := hv1.chg hcx (fun _ _ h => h)
            have hz := hz.trans hcx
            refine hK.out _ _ hz (fun _ => ?_)
            clear hK K hcx
            try simp only [Act.put, List.setIfInBounds_toArray, List.set_cons_zero, List.set_cons_succ, List.getElem_toArray, List.getElem_cons_succ, List.getElem_cons_zero]
            refine wpAnyH_ready (rs := [10]) (by kernel_rfl) (by simp) ?_
            refine AllReadyH.cons rfl (fun K hK => ?_) AllReadyH.nil
            rw [if_pos (by rfl)]
            try simp only [List.getElem_toArray, List.getElem_cons_succ, List.getElem_cons_zero]
            go_simp
            refine (HSB.out _ _ _ _ _ _ _ hv1 hv2).mono ?_
            rintro e x5 ⟨rfl, hcx⟩
            have hz := hz.trans hcx
            refine hK.out _ _ hz (fun _ => ?_)
            clear hK K hcx
            try simp only [Act.put, List.setIfInBounds_toArray, List.set_cons_zero, List.set_cons_succ, List.getElem_toArray, List.getElem_cons_succ, List.getElem_cons_zero]
            refine wpAnyH_take (i := 11) (v := .bool true) rfl (by kernel_rfl) (by kernel_rfl) (by kernel_rfl) (by first | exact fun _ _ _ h => h | exact fun _ _ _ h => nomatch h.1) (Or.inl ⟨by rfl, fun w_ hw_ => by go_simp⟩) hz ?_
            try simp only [Act.put, List.setIfInBounds_toArray, List.set_cons_zero, List.set_cons_succ, List.getElem_toArray, List.getElem_cons_succ, List.getElem_cons_zero]
            refine wpAnyH_take (i := 12) (v := .bool true) rfl (by kernel_rfl) (by kernel_rfl) (by kernel_rfl) (by first | exact fun _ _ _ h => h | exact fun _ _ _ h => nomatch h.1) (Or.inl ⟨by rfl, fun w_ hw_ => by go_simp⟩) hz ?_
            try simp only [Act.put, List.setIfInBounds_toArray, List.set_cons_zero, List.set_cons_succ, List.getElem_toArray, List.getElem_cons_succ, List.getElem_cons_zero]
            refine wpAnyH_take (i := 13) (v := .agg (cellsF f sd sr).toArray) rfl (by kernel_rfl) (by kernel_rfl) (by kernel_rfl) (by first | exact fun _ _ _ h => h | exact fun _ _ _ h => nomatch h.1) (yieldsIf_load_mid (by rfl) 27 _ rfl w.heap.size 0 rfl (cellsF f sd sr) _ (fun x hx => (HRX.out x hx).1.rangeMid 0 _ (fun j v hv => by rw [Nat.zero_add]; exact hv)) Tryd.underlying27 rfl (by rw [cF_len _ _ _ HTF.out]; exact size27)) hz ?_
            try simp only [Act.put, List.setIfInBounds_toArray, List.set_cons_zero, List.set_cons_succ, List.getElem_toArray, List.getElem_cons_succ, List.getElem_cons_zero]
            refine wpAnyH_take (i := 14) (v := .agg (cellsF g td tr).toArray) rfl (by kernel_rfl) (by kernel_rfl) (by kernel_rfl) (by first | exact fun _ _ _ h => h | exact fun _ _ _ h => nomatch h.1) (yieldsIf_load_mid (by rfl) 27 _ rfl w1.heap.size 0 rfl (cellsF g td tr) _ (fun x hx => (HRX.out x hx).2.rangeMid 0 _ (fun j v hv => by rw [Nat.zero_add]; exact hv)) Tryd.underlying27 rfl (by rw [cF_len _ _ _ HTG.out]; exact size27)) hz ?_
            try simp only [Act.put, List.setIfInBounds_toArray, List.set_cons_zero, List.set_cons_succ, List.getElem_toArray, List.getElem_cons_succ, List.getElem_cons_zero]
            refine wpAnyH_take (i := 16) (v := .agg (cellsF f sd sr).toArray) rfl (by kernel_rfl) (by kernel_rfl) (by kernel_rfl) (by first | exact fun _ _ _ h => h | exact fun _ _ _ h => nomatch h.1) (yieldsIf_load_mid (by rfl) 27 _ rfl w.heap.size 0 rfl (cellsF f sd sr) _ (fun x hx => (HRX.out x hx).1.rangeMid 0 _ (fun j v hv => by rw [Nat.zero_add]; exact hv)) Tryd.underlying27 rfl (by rw [cF_len _ _ _ HTF.out]; exact size27)) hz ?_
            try simp only [Act.put, List.setIfInBounds_toArray, List.set_cons_zero, List.set_cons_succ, List.getElem_toArray, List.getElem_cons_succ, List.getElem_cons_zero]
            refine wpAnyH_take (i := 17) (v := .agg (cellsF g td tr).toArray) rfl (by kernel_rfl) (by kernel_rfl) (by kernel_rfl) (by first | exact fun _ _ _ h => h | exact fun _ _ _ h => nomatch h.1) (yieldsIf_load_mid (by rfl) 27 _ rfl w1.heap.size 0 rfl (cellsF g td tr) _ (fun x hx => (HRX.out x hx).2.rangeMid 0 _ (fun j v hv => by rw [Nat.zero_add]; exact hv)) Tryd.underlying27 rfl (by rw [cF_len _ _ _ HTG.out]; exact size27)) hz ?_
            try simp only [Act.put, List.setIfInBounds_toArray, List.set_cons_zero, List.set_cons_succ, List.getElem_toArray, List.getElem_cons_succ, List.getElem_cons_zero]
            refine wpAnyH_ready (rs := [15]) (by kernel_rfl) (by simp) ?_
            refine AllReadyH.cons rfl (fun K hK => ?_) AllReadyH.nil
            rw [if_pos (by rfl)]
            try simp only [List.getElem_toArray, List.getElem_cons_succ, List.getElem_cons_zero]
            go_simp
            refine (HSF.out _ (HWX.out _ hz)).mono ?_
            rintro e x6 ⟨rfl, hcx⟩
            have hz := hz.trans hcx
            refine hK.out _ _ hz (fun _ => ?_)
            clear hK K hcx
            try simp only [Act.put, List.setIfInBounds_toArray, List.set_cons_zero, List.set_cons_succ, List.getElem_toArray, List.getElem_cons_succ, List.getElem_cons_zero]
            refine wpAnyH_ready (rs := [18]) (by kernel_rfl) (by simp) ?_
            refine AllReadyH.cons rfl (fun K hK => ?_) AllReadyH.nil
            rw [if_pos (by rfl)]
            try simp only [List.getElem_toArray, List.getElem_cons_succ, List.getElem_cons_zero]
            go_simp
            refine (HSR.out _ (HWX.out _ hz)).mono ?_
            rintro e x7 ⟨rfl, hcx⟩
            have hz := hz.trans hcx
            refine hK.out _ _ hz (fun _ => ?_)
            clear hK K hcx
            try simp only [Act.put, List.setIfInBounds_toArray, List.set_cons_zero, List.set_cons_succ, List.getElem_toArray, List.getElem_cons_succ, List.getElem_cons_zero]
            refine wpAnyH_take (i := 19) (v := .bool true) rfl (by kernel_rfl) (by kernel_rfl) (by kernel_rfl) (by first | exact fun _ _ _ h => h | exact fun _ _ _ h => nomatch h.1) (Or.inl ⟨by rfl, fun w_ hw_ => by cases same <;> go_simp⟩) hz ?_
            try simp only [Act.put, List.setIfInBounds_toArray, List.set_cons_zero, List.set_cons_succ, List.getElem_toArray, List.getElem_cons_succ, List.getElem_cons_zero]
            refine wpAnyH_take (i := 20) (v := .bool true) rfl (by kernel_rfl) (by kernel_rfl) (by kernel_rfl) (by first | exact fun _ _ _ h => h | exact fun _ _ _ h => nomatch h.1) (Or.inl ⟨by rfl, fun w_ hw_ => by go_simp⟩) hz ?_
            try simp only [Act.put, List.setIfInBounds_toArray, List.set_cons_zero, List.set_cons_succ, List.getElem_toArray, List.getElem_cons_succ, List.getElem_cons_zero]
            refine wpAnyH_take (i := 21) (v := .bool true) rfl (by kernel_rfl) (by kernel_rfl) (by kernel_rfl) (by first | exact fun _ _ _ h => h | exact fun _ _ _ h => nomatch h.1) (Or.inl ⟨by rfl, fun w_ hw_ => by go_simp⟩) hz ?_
            try simp only [Act.put, List.setIfInBounds_toArray, List.set_cons_zero, List.set_cons_succ, List.getElem_toArray, List.getElem_cons_succ, List.getElem_cons_zero]
            refine wpAnyH_take (i := 22) (v := .agg (cellsF f sd sr).toArray) rfl (by kernel_rfl) (by kernel_rfl) (by kernel_rfl) (by first | exact fun _ _ _ h => h | exact fun _ _ _ h => nomatch h.1) (yieldsIf_load_mid (by rfl) 27 _ rfl w.heap.size 0 rfl (cellsF f sd sr) _ (fun x hx => (HRX.out x hx).1.rangeMid 0 _ (fun j v hv => by rw [Nat.zero_add]; exact hv)) Tryd.underlying27 rfl (by rw [cF_len _ _ _ HTF.out]; exact size27)) hz ?_
            try simp only [Act.put, List.setIfInBounds_toArray, List.set_cons_zero, List.set_cons_succ, List.getElem_toArray, List.getElem_cons_succ, List.getElem_cons_zero]
            refine wpAnyH_take (i := 24) (v := .pointer (some ⟨w.heap.size, 0, none⟩)) rfl (by kernel_rfl) (by kernel_rfl) (by kernel_rfl) (by first | exact fun _ _ _ h => h | exact fun _ _ _ h => nomatch h.1) (Or.inl ⟨by rfl, fun w_ hw_ => by go_simp⟩) hz ?_
            try simp only [Act.put, List.setIfInBounds_toArray, List.set_cons_zero, List.set_cons_succ, List.getElem_toArray, List.getElem_cons_succ, List.getElem_cons_zero]
            refine wpAnyH_take (i := 25) (v := .int .i64 28) rfl (by kernel_rfl) (by kernel_rfl) (by kernel_rfl) (by first | exact fun _ _ _ h => h | exact fun _ _ _ h => nomatch h.1) (Or.inl ⟨by rfl, fun w_ hw_ => by have q_ := (HRX.out _ hw_).1.cell 0; rw [cF_0, k28] at q_; go_simp⟩) hz ?_
            try simp only [Act.put, List.setIfInBounds_toArray, List.set_cons_zero, List.set_cons_succ, List.getElem_toArray, List.getElem_cons_succ, List.getElem_cons_zero]
            refine wpAnyH_take (i := 26) (v := .bool true) rfl (by kernel_rfl) (by kernel_rfl) (by kernel_rfl) (by first | exact fun _ _ _ h => h | exact fun _ _ _ h => nomatch h.1) (Or.inl ⟨by rfl, fun w_ hw_ => by go_simp⟩) hz ?_
            try simp only [Act.put, List.setIfInBounds_toArray, List.set_cons_zero, List.set_cons_succ, List.getElem_toArray, List.getElem_cons_succ, List.getElem_cons_zero]
            refine wpAnyH_ready (rs := [23]) (by kernel_rfl) (by simp) ?_
            refine AllReadyH.cons rfl (fun K hK => ?_) AllReadyH.nil
            rw [if_pos (by rfl)]
            try simp only [List.getElem_toArray, List.getElem_cons_succ, List.getElem_cons_zero]
            go_simp
            refine (HEL.out _).mono ?_
            rintro e x8 ⟨rfl, hcx⟩
            have hz := hz.trans hcx
            refine hK.out _ _ hz (fun _ => ?_)
            clear hK K hcx
            try simp only [Act.put, List.setIfInBounds_toArray, List.set_cons_zero, List.set_cons_succ, List.getElem_toArray, List.getElem_cons_succ, List.getElem_cons_zero]
            refine wpAnyH_take (i := 27) (v := .bool true) rfl (by kernel_rfl) (by kernel_rfl) (by kernel_rfl) (by first | exact fun _ _ _ h => h | exact fun _ _ _ h => nomatch h.1) (Or.inl ⟨by rfl, fun w_ hw_ => by go_simp⟩) hz ?_
            try simp only [Act.put, List.setIfInBounds_toArray, List.set_cons_zero, List.set_cons_succ, List.getElem_toArray, List.getElem_cons_succ, List.getElem_cons_zero]
            refine wpAnyH_take (i := 28) (v := .pointer (some ⟨w.heap.size, 0, none⟩)) rfl (by kernel_rfl) (by kernel_rfl) (by kernel_rfl) (by first | exact fun _ _ _ h => h | exact fun _ _ _ h => nomatch h.1) (Or.inl ⟨by rfl, fun w_ hw_ => by go_simp⟩) hz ?_
            try simp only [Act.put, List.setIfInBounds_toArray, List.set_cons_zero, List.set_cons_succ, List.getElem_toArray, List.getElem_cons_succ, List.getElem_cons_zero]
            refine wpAnyH_take (i := 29) (v := .int .i64 28) rfl (by kernel_rfl) (by kernel_rfl) (by kernel_rfl) (by first | exact fun _ _ _ h => h | exact fun _ _ _ h => nomatch h.1) (Or.inl ⟨by rfl, fun w_ hw_ => by have q_ := (HRX.out _ hw_).1.cell 0; rw [cF_0, k28] at q_; go_simp⟩) hz ?_
            try simp only [Act.put, List.setIfInBounds_toArray, List.set_cons_zero, List.set_cons_succ, List.getElem_toArray, List.getElem_cons_succ, List.getElem_cons_zero]
            refine wpAnyH_take (i := 30) (v := .bool true) rfl (by kernel_rfl) (by kernel_rfl) (by kernel_rfl) (by first | exact fun _ _ _ h => h | exact fun _ _ _ h => nomatch h.1) (Or.inl ⟨by rfl, fun w_ hw_ => by go_simp⟩) hz ?_
            try simp only [Act.put, List.setIfInBounds_toArray, List.set_cons_zero, List.set_cons_succ, List.getElem_toArray, List.getElem_cons_succ, List.getElem_cons_zero]
            refine wpAnyH_take (i := 31) (v := .bool true) rfl (by kernel_rfl) (by kernel_rfl) (by kernel_rfl) (by first | exact fun _ _ _ h => h | exact fun _ _ _ h => nomatch h.1) (Or.inl ⟨by rfl, fun w_ hw_ => by go_simp⟩) hz ?_
            try simp only [Act.put, List.setIfInBounds_toArray, List.set_cons_zero, List.set_cons_succ, List.getElem_toArray, List.getElem_cons_succ, List.getElem_cons_zero]
            refine wpAnyH_take (i := 32) (v := .bool true) rfl (by kernel_rfl) (by kernel_rfl) (by kernel_rfl) (by first | exact fun _ _ _ h => h | exact fun _ _ _ h => nomatch h.1) (Or.inl ⟨by rfl, fun w_ hw_ => by go_simp⟩) hz ?_
            try simp only [Act.put, List.setIfInBounds_toArray, List.set_cons_zero, List.set_cons_succ, List.getElem_toArray, List.getElem_cons_succ, List.getElem_cons_zero]
            refine wpAnyH_take (i := 33) (v := .pointer (some ⟨w.heap.size, 0, none⟩)) rfl (by kernel_rfl) (by kernel_rfl) (by kernel_rfl) (by first | exact fun _ _ _ h => h | exact fun _ _ _ h => nomatch h.1) (Or.inl ⟨by rfl, fun w_ hw_ => by go_simp⟩) hz ?_
            try simp only [Act.put, List.setIfInBounds_toArray, List.set_cons_zero, List.set_cons_succ, List.getElem_toArray, List.getElem_cons_succ, List.getElem_cons_zero]
            refine wpAnyH_take (i := 34) (v := .int .i64 28) rfl (by kernel_rfl) (by kernel_rfl) (by kernel_rfl) (by first | exact fun _ _ _ h => h | exact fun _ _ _ h => nomatch h.1) (Or.inl ⟨by rfl, fun w_ hw_ => by have q_ := (HRX.out _ hw_).1.cell 0; rw [cF_0, k28] at q_; go_simp⟩) hz ?_
            try simp only [Act.put, List.setIfInBounds_toArray, List.set_cons_zero, List.set_cons_succ, List.getElem_toArray, List.getElem_cons_succ, List.getElem_cons_zero]
            refine wpAnyH_take (i := 35) (v := .bool false) rfl (by kernel_rfl) (by kernel_rfl) (by kernel_rfl) (by first | exact fun _ _ _ h => h | exact fun _ _ _ h => nomatch h.1) (Or.inl ⟨by rfl, fun w_ hw_ => by go_simp⟩) hz ?_
            try simp only [Act.put, List.setIfInBounds_toArray, List.set_cons_zero, List.set_cons_succ, List.getElem_toArray, List.getElem_cons_succ, List.getElem_cons_zero]
            refine wpAnyH_take (i := 36) (v := .bool false) rfl (by kernel_rfl) (by kernel_rfl) (by kernel_rfl) (by first | exact fun _ _ _ h => h | exact fun _ _ _ h => nomatch h.1) (Or.inl ⟨by rfl, fun w_ hw_ => by go_simp⟩) hz ?_
            try simp only [Act.put, List.setIfInBounds_toArray, List.set_cons_zero, List.set_cons_succ, List.getElem_toArray, List.getElem_cons_succ, List.getElem_cons_zero]
            refine wpAnyH_take (i := 37) (v := .bool true) rfl (by kernel_rfl) (by kernel_rfl) (by kernel_rfl) (by first | exact fun _ _ _ h => h | exact fun _ _ _ h => nomatch h.1) (Or.inl ⟨by rfl, fun w_ hw_ => by go_simp⟩) hz ?_
            try simp only [Act.put, List.setIfInBounds_toArray, List.set_cons_zero, List.set_cons_succ, List.getElem_toArray, List.getElem_cons_succ, List.getElem_cons_zero]
            refine wpAnyH_take (i := 38) (v := .bool true) rfl (by kernel_rfl) (by kernel_rfl) (by kernel_rfl) (by first | exact fun _ _ _ h => h | exact fun _ _ _ h => nomatch h.1) (Or.inl ⟨by rfl, fun w_ hw_ => by go_simp⟩) hz ?_
            try simp only [Act.put, List.setIfInBounds_toArray, List.set_cons_zero, List.set_cons_succ, List.getElem_toArray, List.getElem_cons_succ, List.getElem_cons_zero]
            refine wpAnyH_take (i := 39) (v := .bool true) rfl (by kernel_rfl) (by kernel_rfl) (by kernel_rfl) (by first | exact fun _ _ _ h => h | exact fun _ _ _ h => nomatch h.1) (Or.inl ⟨by rfl, fun w_ hw_ => by go_simp⟩) hz ?_
            try simp only [Act.put, List.setIfInBounds_toArray, List.set_cons_zero, List.set_cons_succ, List.getElem_toArray, List.getElem_cons_succ, List.getElem_cons_zero]
            refine wpAnyH_done (by kernel_rfl) ?_ _
            go_wp2
            go_ret
            exact ⟨rfl, HWX.out _ hz⟩
          · rw [show decide (f.kind ≠ 0 ∧ f.kind ≠ 2 ∧ f.kind ≠ 28) = true from decide_eq_true ⟨k0, k2, k28⟩] at HEL
            go_enter Tryd.func3, Tryd.ntmps3
            go_wp2_with (first | ((with_reducible show wpList _ _ _ (⟨some 2, .box _ _, _, _, _, _⟩ :: _) _ _); refine wpList_box_Row rfl rfl (cellsF f sd sr) rfl ?_; intro w1 hr1 hc1 hs1; have HR1 := Lib.hid hr1; have HC1 := Lib.hid hc1; have HS1 := Lib.hid hs1; clear hr1 hc1 hs1) | ((with_reducible show wpList _ _ _ (⟨some 3, .box _ _, _, _, _, _⟩ :: _) _ _); refine wpList_box_Row rfl rfl (cellsF g td tr) rfl ?_; intro w2 hr2 hc2 hs2; have HRW := Lib.hid (show ∀ w', Chg none_ w2 w' → Row w' w.heap.size 27 (cellsF f sd sr) ∧ Row w' w1.heap.size 27 (cellsF g td tr) from fun w' hc => ⟨(HR1.out.chg hc2 (fun h => h)).chg hc (fun h => h), hr2.chg hc (fun h => h)⟩); have HC := Lib.hid (Chg.refl none_ w2); have HW2 := Lib.hid (HC1.out.trans hc2); clear hr2 hc2 hs2 HR1) | (go_at_call 4; refine (alive_any _ (HT.out.chg (HW2.out.trans HC.out) (fun h => h))).mono ?_; rintro e w3 ⟨rfl, hc⟩; have HC := Lib.hid (HC.out.trans hc); clear hc) | ((with_reducible show wpList _ _ _ (⟨some 7, .load _ _, _, _, _, _⟩ :: _) _ _); refine wpList_load_Row (cs := cellsF f sd sr) rfl rfl rfl (HRW.out _ HC.out).1 Tryd.underlying27 rfl (by rw [cF_len _ _ _ HTF.out]; exact size27) ?_) | (go_at_call 5; (with_reducible show Calls _ _ #[.agg (cellsF f sd sr).toArray] _ _); refine (HGF.out _ (HW2.out.trans HC.out)).mono ?_; rintro e w4 ⟨rfl, hc⟩; have HC := Lib.hid (HC.out.trans hc); clear hc) | ((with_reducible show wpList _ _ _ (⟨some 10, .load _ _, _, _, _, _⟩ :: _) _ _); refine wpList_load_Row (cs := cellsF g td tr) rfl rfl rfl (HRW.out _ HC.out).2 Tryd.underlying27 rfl (by rw [cF_len _ _ _ HTG.out]; exact size27) ?_) | (go_at_call 5; (with_reducible show Calls _ _ #[.agg (cellsF g td tr).toArray] _ _); refine (HGG.out _ (HW2.out.trans HC.out)).mono ?_; rintro e w5 ⟨rfl, hc⟩; have HC := Lib.hid (HC.out.trans hc); clear hc))
            have HRX := Lib.hid (show ∀ x, Chg none_ w5 x → Row x w.heap.size 27 (cellsF f sd sr) ∧ Row x w1.heap.size 27 (cellsF g td tr) from fun x hx => HRW.out x (HC.out.trans hx))
            have HWX := Lib.hid (show ∀ x, Chg none_ w5 x → Chg none_ w x from fun x hx => (HW2.out.trans HC.out).trans hx)
            refine wp_region_held_drew (S := fun x => Chg none_ w5 x) (by kernel_rfl) ((Chg.refl none_ w5).drew) (fun hch0 => ?_)
            have hz : Chg none_ w5 w5.drew := (Chg.refl none_ w5).drew
            generalize w5.drew = wz at hz ⊢
            clear hch0
            refine wpAnyH_take (i := 0) (v := .agg (cellsF f sd sr).toArray) rfl (by kernel_rfl) (by kernel_rfl) (by kernel_rfl) (by first | exact fun _ _ _ h => h | exact fun _ _ _ h => nomatch h.1) (yieldsIf_load_mid (by rfl) 27 _ rfl w.heap.size 0 rfl (cellsF f sd sr) _ (fun x hx => (HRX.out x hx).1.rangeMid 0 _ (fun j v hv => by rw [Nat.zero_add]; exact hv)) Tryd.underlying27 rfl (by rw [cF_len _ _ _ HTF.out]; exact size27)) hz ?_
            try simp only [Act.put, List.setIfInBounds_toArray, List.set_cons_zero, List.set_cons_succ, List.getElem_toArray, List.getElem_cons_zero]
            refine wpAnyH_take (i := 2) (v := .agg (cellsF f sd sr).toArray) rfl (by kernel_rfl) (by kernel_rfl) (by kernel_rfl) (by first | exact fun _ _ _ h => h | exact fun _ _ _ h => nomatch h.1) (yieldsIf_load_mid (by rfl) 27 _ rfl w.heap.size 0 rfl (cellsF f sd sr) _ (fun x hx => (HRX.out x hx).1.rangeMid 0 _ (fun j v hv => by rw [Nat.zero_add]; exact hv)) Tryd.underlying27 rfl (by rw [cF_len _ _ _ HTF.out]; exact size27)) hz ?_
            try simp only [Act.put, List.setIfInBounds_toArray, List.set_cons_zero, List.set_cons_succ, List.getElem_toArray, List.getElem_cons_succ, List.getElem_cons_zero]
            refine wpAnyH_ready (rs := [1]) (by kernel_rfl) (by simp) ?_
            refine AllReadyH.cons rfl (fun K hK => ?_) AllReadyH.nil
            rw [if_pos (by rfl)]
            try simp only [List.getElem_toArray, List.getElem_cons_succ, List.getElem_cons_zero]
            go_simp
            refine (HRF.out _ (HWX.out _ hz)).mono ?_
            rintro e x1 ⟨rfl, hcx⟩
            have hz := hz.trans hcx
            refine hK.out _ _ hz (fun _ => ?_)
            clear hK K hcx
            try simp only [Act.put, List.setIfInBounds_toArray, List.set_cons_zero, List.set_cons_succ, List.getElem_toArray, List.getElem_cons_succ, List.getElem_cons_zero]
            refine wpAnyH_ready (rs := [3]) (by kernel_rfl) (by simp) ?_
            refine AllReadyH.cons rfl (fun K hK => ?_) AllReadyH.nil
            rw [if_pos (by rfl)]
            try simp only [List.getElem_toArray, List.getElem_cons_succ, List.getElem_cons_zero]
            go_simp
            refine (HRR.out _ (HWX.out _ hz)).mono ?_
            rintro e x2 ⟨rfl, hcx⟩
            have hz := hz.trans hcx
            refine hK.out _ _ hz (fun _ => ?_)
            clear hK K hcx
            try simp only [Act.put, List.setIfInBounds_toArray, List.set_cons_zero, List.set_cons_succ, List.getElem_toArray, List.getElem_cons_succ, List.getElem_cons_zero]
            refine wpAnyH_take (i := 4) (v := .bool true) rfl (by kernel_rfl) (by kernel_rfl) (by kernel_rfl) (by first | exact fun _ _ _ h => h | exact fun _ _ _ h => nomatch h.1) (Or.inl ⟨by rfl, fun w_ hw_ => by cases rt <;> go_simp⟩) hz ?_
            try simp only [Act.put, List.setIfInBounds_toArray, List.set_cons_zero, List.set_cons_succ, List.getElem_toArray, List.getElem_cons_succ, List.getElem_cons_zero]
            refine wpAnyH_take (i := 5) (v := .bool true) rfl (by kernel_rfl) (by kernel_rfl) (by kernel_rfl) (by first | exact fun _ _ _ h => h | exact fun _ _ _ h => nomatch h.1) (Or.inl ⟨by rfl, fun w_ hw_ => by go_simp⟩) hz ?_
            try simp only [Act.put, List.setIfInBounds_toArray, List.set_cons_zero, List.set_cons_succ, List.getElem_toArray, List.getElem_cons_succ, List.getElem_cons_zero]
            refine wpAnyH_take (i := 6) (v := .agg (cellsF f sd sr).toArray) rfl (by kernel_rfl) (by kernel_rfl) (by kernel_rfl) (by first | exact fun _ _ _ h => h | exact fun _ _ _ h => nomatch h.1) (yieldsIf_load_mid (by rfl) 27 _ rfl w.heap.size 0 rfl (cellsF f sd sr) _ (fun x hx => (HRX.out x hx).1.rangeMid 0 _ (fun j v hv => by rw [Nat.zero_add]; exact hv)) Tryd.underlying27 rfl (by rw [cF_len _ _ _ HTF.out]; exact size27)) hz ?_
            try simp only [Act.put, List.setIfInBounds_toArray, List.set_cons_zero, List.set_cons_succ, List.getElem_toArray, List.getElem_cons_succ, List.getElem_cons_zero]
            refine wpAnyH_take (i := 8) (v := .agg (cellsF f sd sr).toArray) rfl (by kernel_rfl) (by kernel_rfl) (by kernel_rfl) (by first | exact fun _ _ _ h => h | exact fun _ _ _ h => nomatch h.1) (yieldsIf_load_mid (by rfl) 27 _ rfl w.heap.size 0 rfl (cellsF f sd sr) _ (fun x hx => (HRX.out x hx).1.rangeMid 0 _ (fun j v hv => by rw [Nat.zero_add]; exact hv)) Tryd.underlying27 rfl (by rw [cF_len _ _ _ HTF.out]; exact size27)) hz ?_
            try simp only [Act.put, List.setIfInBounds_toArray, List.set_cons_zero, List.set_cons_succ, List.getElem_toArray, List.getElem_cons_succ, List.getElem_cons_zero]
            refine wpAnyH_ready (rs := [7]) (by kernel_rfl) (by simp) ?_
            refine AllReadyH.cons rfl (fun K hK => ?_) AllReadyH.nil
            rw [if_pos (by rfl)]
            try simp only [List.getElem_toArray, List.getElem_cons_succ, List.getElem_cons_zero]
            go_simp
            refine (HPF.out _ (HWX.out _ hz)).mono ?_
            rintro e x3 ⟨A1, c1, rfl, hv1, hcx⟩
            have hz := hz.trans hcx
            refine hK.out _ _ hz (fun _ => ?_)
            clear hK K hcx
            try simp only [Act.put, List.setIfInBounds_toArray, List.set_cons_zero, List.set_cons_succ, List.getElem_toArray, List.getElem_cons_succ, List.getElem_cons_zero]
            refine wpAnyH_ready (rs := [9]) (by kernel_rfl) (by simp) ?_
            refine AllReadyH.cons rfl (fun K hK => ?_) AllReadyH.nil
            rw [if_pos (by rfl)]
            try simp only [List.getElem_toArray, List.getElem_cons_succ, List.getElem_cons_zero]
            go_simp
            refine (HPR.out _ (HWX.out _ hz)).mono ?_
            rintro e x4 ⟨A2, c2, rfl, hv2, hcx⟩
            have hv1 := hv1.chg hcx (fun _ _ h => h)
            have hz := hz.trans hcx
            refine hK.out _ _ hz (fun _ => ?_)
            clear hK K hcx
            try simp only [Act.put, List.setIfInBounds_toArray, List.set_cons_zero, List.set_cons_succ, List.getElem_toArray, List.getElem_cons_succ, List.getElem_cons_zero]
            refine wpAnyH_ready (rs := [10]) (by kernel_rfl) (by simp) ?_
            refine AllReadyH.cons rfl (fun K hK => ?_) AllReadyH.nil
            rw [if_pos (by rfl)]
            try simp only [List.getElem_toArray, List.getElem_cons_succ, List.getElem_cons_zero]
            go_simp
            refine (HSB.out _ _ _ _ _ _ _ hv1 hv2).mono ?_
            rintro e x5 ⟨rfl, hcx⟩
            have hz := hz.trans hcx
            refine hK.out _ _ hz (fun _ => ?_)
            clear hK K hcx
            try simp only [Act.put, List.setIfInBounds_toArray, List.set_cons_zero, List.set_cons_succ, List.getElem_toArray, List.getElem_cons_succ, List.getElem_cons_zero]
            refine wpAnyH_take (i := 11) (v := .bool true) rfl (by kernel_rfl) (by kernel_rfl) (by kernel_rfl) (by first | exact fun _ _ _ h => h | exact fun _ _ _ h => nomatch h.1) (Or.inl ⟨by rfl, fun w_ hw_ => by go_simp⟩) hz ?_
            try simp only [Act.put, List.setIfInBounds_toArray, List.set_cons_zero, List.set_cons_succ, List.getElem_toArray, List.getElem_cons_succ, List.getElem_cons_zero]
            refine wpAnyH_take (i := 12) (v := .bool true) rfl (by kernel_rfl) (by kernel_rfl) (by kernel_rfl) (by first | exact fun _ _ _ h => h | exact fun _ _ _ h => nomatch h.1) (Or.inl ⟨by rfl, fun w_ hw_ => by go_simp⟩) hz ?_
            try simp only [Act.put, List.setIfInBounds_toArray, List.set_cons_zero, List.set_cons_succ, List.getElem_toArray, List.getElem_cons_succ, List.getElem_cons_zero]
            refine wpAnyH_take (i := 13) (v := .agg (cellsF f sd sr).toArray) rfl (by kernel_rfl) (by kernel_rfl) (by kernel_rfl) (by first | exact fun _ _ _ h => h | exact fun _ _ _ h => nomatch h.1) (yieldsIf_load_mid (by rfl) 27 _ rfl w.heap.size 0 rfl (cellsF f sd sr) _ (fun x hx => (HRX.out x hx).1.rangeMid 0 _ (fun j v hv => by rw [Nat.zero_add]; exact hv)) Tryd.underlying27 rfl (by rw [cF_len _ _ _ HTF.out]; exact size27)) hz ?_
            try simp only [Act.put, List.setIfInBounds_toArray, List.set_cons_zero, List.set_cons_succ, List.getElem_toArray, List.getElem_cons_succ, List.getElem_cons_zero]
            refine wpAnyH_take (i := 14) (v := .agg (cellsF g td tr).toArray) rfl (by kernel_rfl) (by kernel_rfl) (by kernel_rfl) (by first | exact fun _ _ _ h => h | exact fun _ _ _ h => nomatch h.1) (yieldsIf_load_mid (by rfl) 27 _ rfl w1.heap.size 0 rfl (cellsF g td tr) _ (fun x hx => (HRX.out x hx).2.rangeMid 0 _ (fun j v hv => by rw [Nat.zero_add]; exact hv)) Tryd.underlying27 rfl (by rw [cF_len _ _ _ HTG.out]; exact size27)) hz ?_
            try simp only [Act.put, List.setIfInBounds_toArray, List.set_cons_zero, List.set_cons_succ, List.getElem_toArray, List.getElem_cons_succ, List.getElem_cons_zero]
            refine wpAnyH_take (i := 16) (v := .agg (cellsF f sd sr).toArray) rfl (by kernel_rfl) (by kernel_rfl) (by kernel_rfl) (by first | exact fun _ _ _ h => h | exact fun _ _ _ h => nomatch h.1) (yieldsIf_load_mid (by rfl) 27 _ rfl w.heap.size 0 rfl (cellsF f sd sr) _ (fun x hx => (HRX.out x hx).1.rangeMid 0 _ (fun j v hv => by rw [Nat.zero_add]; exact hv)) Tryd.underlying27 rfl (by rw [cF_len _ _ _ HTF.out]; exact size27)) hz ?_
            try simp only [Act.put, List.setIfInBounds_toArray, List.set_cons_zero, List.set_cons_succ, List.getElem_toArray, List.getElem_cons_succ, List.getElem_cons_zero]
            refine wpAnyH_take (i := 17) (v := .agg (cellsF g td tr).toArray) rfl (by kernel_rfl) (by kernel_rfl) (by kernel_rfl) (by first | exact fun _ _ _ h => h | exact fun _ _ _ h => nomatch h.1) (yieldsIf_load_mid (by rfl) 27 _ rfl w1.heap.size 0 rfl (cellsF g td tr) _ (fun x hx => (HRX.out x hx).2.rangeMid 0 _ (fun j v hv => by rw [Nat.zero_add]; exact hv)) Tryd.underlying27 rfl (by rw [cF_len _ _ _ HTG.out]; exact size27)) hz ?_
            try simp only [Act.put, List.setIfInBounds_toArray, List.set_cons_zero, List.set_cons_succ, List.getElem_toArray, List.getElem_cons_succ, List.getElem_cons_zero]
            refine wpAnyH_ready (rs := [15]) (by kernel_rfl) (by simp) ?_
            refine AllReadyH.cons rfl (fun K hK => ?_) AllReadyH.nil
            rw [if_pos (by rfl)]
            try simp only [List.getElem_toArray, List.getElem_cons_succ, List.getElem_cons_zero]
            go_simp
            refine (HSF.out _ (HWX.out _ hz)).mono ?_
            rintro e x6 ⟨rfl, hcx⟩
            have hz := hz.trans hcx
            refine hK.out _ _ hz (fun _ => ?_)
            clear hK K hcx
            try simp only [Act.put, List.setIfInBounds_toArray, List.set_cons_zero, List.set_cons_succ, List.getElem_toArray, List.getElem_cons_succ, List.getElem_cons_zero]
            refine wpAnyH_ready (rs := [18]) (by kernel_rfl) (by simp) ?_
            refine AllReadyH.cons rfl (fun K hK => ?_) AllReadyH.nil
            rw [if_pos (by rfl)]
            try simp only [List.getElem_toArray, List.getElem_cons_succ, List.getElem_cons_zero]
            go_simp
            refine (HSR.out _ (HWX.out _ hz)).mono ?_
            rintro e x7 ⟨rfl, hcx⟩
            have hz := hz.trans hcx
            refine hK.out _ _ hz (fun _ => ?_)
            clear hK K hcx
            try simp only [Act.put, List.setIfInBounds_toArray, List.set_cons_zero, List.set_cons_succ, List.getElem_toArray, List.getElem_cons_succ, List.getElem_cons_zero]
            refine wpAnyH_take (i := 19) (v := .bool true) rfl (by kernel_rfl) (by kernel_rfl) (by kernel_rfl) (by first | exact fun _ _ _ h => h | exact fun _ _ _ h => nomatch h.1) (Or.inl ⟨by rfl, fun w_ hw_ => by cases same <;> go_simp⟩) hz ?_
            try simp only [Act.put, List.setIfInBounds_toArray, List.set_cons_zero, List.set_cons_succ, List.getElem_toArray, List.getElem_cons_succ, List.getElem_cons_zero]
            refine wpAnyH_take (i := 20) (v := .bool true) rfl (by kernel_rfl) (by kernel_rfl) (by kernel_rfl) (by first | exact fun _ _ _ h => h | exact fun _ _ _ h => nomatch h.1) (Or.inl ⟨by rfl, fun w_ hw_ => by go_simp⟩) hz ?_
            try simp only [Act.put, List.setIfInBounds_toArray, List.set_cons_zero, List.set_cons_succ, List.getElem_toArray, List.getElem_cons_succ, List.getElem_cons_zero]
            refine wpAnyH_take (i := 21) (v := .bool true) rfl (by kernel_rfl) (by kernel_rfl) (by kernel_rfl) (by first | exact fun _ _ _ h => h | exact fun _ _ _ h => nomatch h.1) (Or.inl ⟨by rfl, fun w_ hw_ => by go_simp⟩) hz ?_
            try simp only [Act.put, List.setIfInBounds_toArray, List.set_cons_zero, List.set_cons_succ, List.getElem_toArray, List.getElem_cons_succ, List.getElem_cons_zero]
            refine wpAnyH_take (i := 22) (v := .agg (cellsF f sd sr).toArray) rfl (by kernel_rfl) (by kernel_rfl) (by kernel_rfl) (by first | exact fun _ _ _ h => h | exact fun _ _ _ h => nomatch h.1) (yieldsIf_load_mid (by rfl) 27 _ rfl w.heap.size 0 rfl (cellsF f sd sr) _ (fun x hx => (HRX.out x hx).1.rangeMid 0 _ (fun j v hv => by rw [Nat.zero_add]; exact hv)) Tryd.underlying27 rfl (by rw [cF_len _ _ _ HTF.out]; exact size27)) hz ?_
            try simp only [Act.put, List.setIfInBounds_toArray, List.set_cons_zero, List.set_cons_succ, List.getElem_toArray, List.getElem_cons_succ, List.getElem_cons_zero]
            refine wpAnyH_take (i := 24) (v := .pointer (some ⟨w.heap.size, 0, none⟩)) rfl (by kernel_rfl) (by kernel_rfl) (by kernel_rfl) (by first | exact fun _ _ _ h => h | exact fun _ _ _ h => nomatch h.1) (Or.inl ⟨by rfl, fun w_ hw_ => by go_simp⟩) hz ?_
            try simp only [Act.put, List.setIfInBounds_toArray, List.set_cons_zero, List.set_cons_succ, List.getElem_toArray, List.getElem_cons_succ, List.getElem_cons_zero]
            refine wpAnyH_take (i := 25) (v := .int .i64 f.kind) rfl (by kernel_rfl) (by kernel_rfl) (by kernel_rfl) (by first | exact fun _ _ _ h => h | exact fun _ _ _ h => nomatch h.1) (Or.inl ⟨by rfl, fun w_ hw_ => by have q_ := (HRX.out _ hw_).1.cell 0; rw [cF_0] at q_; go_simp⟩) hz ?_
            try simp only [Act.put, List.setIfInBounds_toArray, List.set_cons_zero, List.set_cons_succ, List.getElem_toArray, List.getElem_cons_succ, List.getElem_cons_zero]
            refine wpAnyH_take (i := 26) (v := .bool true) rfl (by kernel_rfl) (by kernel_rfl) (by kernel_rfl) (by first | exact fun _ _ _ h => h | exact fun _ _ _ h => nomatch h.1) (Or.inl ⟨by rfl, fun w_ hw_ => by go_simp⟩) hz ?_
            try simp only [Act.put, List.setIfInBounds_toArray, List.set_cons_zero, List.set_cons_succ, List.getElem_toArray, List.getElem_cons_succ, List.getElem_cons_zero]
            refine wpAnyH_ready (rs := [23]) (by kernel_rfl) (by simp) ?_
            refine AllReadyH.cons rfl (fun K hK => ?_) AllReadyH.nil
            rw [if_pos (by rfl)]
            try simp only [List.getElem_toArray, List.getElem_cons_succ, List.getElem_cons_zero]
            go_simp
            refine (HEL.out _).mono ?_
            rintro e x8 ⟨rfl, hcx⟩
            have hz := hz.trans hcx
            refine hK.out _ _ hz (fun _ => ?_)
            clear hK K hcx
            try simp only [Act.put, List.setIfInBounds_toArray, List.set_cons_zero, List.set_cons_succ, List.getElem_toArray, List.getElem_cons_succ, List.getElem_cons_zero]
            refine wpAnyH_take (i := 27) (v := .bool true) rfl (by kernel_rfl) (by kernel_rfl) (by kernel_rfl) (by first | exact fun _ _ _ h => h | exact fun _ _ _ h => nomatch h.1) (Or.inl ⟨by rfl, fun w_ hw_ => by go_simp⟩) hz ?_
            try simp only [Act.put, List.setIfInBounds_toArray, List.set_cons_zero, List.set_cons_succ, List.getElem_toArray, List.getElem_cons_succ, List.getElem_cons_zero]
            refine wpAnyH_take (i := 28) (v := .pointer (some ⟨w.heap.size, 0, none⟩)) rfl (by kernel_rfl) (by kernel_rfl) (by kernel_rfl) (by first | exact fun _ _ _ h => h | exact fun _ _ _ h => nomatch h.1) (Or.inl ⟨by rfl, fun w_ hw_ => by go_simp⟩) hz ?_
            try simp only [Act.put, List.setIfInBounds_toArray, List.set_cons_zero, List.set_cons_succ, List.getElem_toArray, List.getElem_cons_succ, List.getElem_cons_zero]
            refine wpAnyH_take (i := 29) (v := .int .i64 f.kind) rfl (by kernel_rfl) (by kernel_rfl) (by kernel_rfl) (by first | exact fun _ _ _ h => h | exact fun _ _ _ h => nomatch h.1) (Or.inl ⟨by rfl, fun w_ hw_ => by have q_ := (HRX.out _ hw_).1.cell 0; rw [cF_0] at q_; go_simp⟩) hz ?_
            try simp only [Act.put, List.setIfInBounds_toArray, List.set_cons_zero, List.set_cons_succ, List.getElem_toArray, List.getElem_cons_succ, List.getElem_cons_zero]
            refine wpAnyH_take (i := 30) (v := .bool true) rfl (by kernel_rfl) (by kernel_rfl) (by kernel_rfl) (by first | exact fun _ _ _ h => h | exact fun _ _ _ h => nomatch h.1) (Or.inl ⟨by rfl, fun w_ hw_ => by go_simp⟩) hz ?_
            try simp only [Act.put, List.setIfInBounds_toArray, List.set_cons_zero, List.set_cons_succ, List.getElem_toArray, List.getElem_cons_succ, List.getElem_cons_zero]
            refine wpAnyH_take (i := 31) (v := .bool true) rfl (by kernel_rfl) (by kernel_rfl) (by kernel_rfl) (by first | exact fun _ _ _ h => h | exact fun _ _ _ h => nomatch h.1) (Or.inl ⟨by rfl, fun w_ hw_ => by go_simp⟩) hz ?_
            try simp only [Act.put, List.setIfInBounds_toArray, List.set_cons_zero, List.set_cons_succ, List.getElem_toArray, List.getElem_cons_succ, List.getElem_cons_zero]
            refine wpAnyH_take (i := 32) (v := .bool true) rfl (by kernel_rfl) (by kernel_rfl) (by kernel_rfl) (by first | exact fun _ _ _ h => h | exact fun _ _ _ h => nomatch h.1) (Or.inl ⟨by rfl, fun w_ hw_ => by go_simp⟩) hz ?_
            try simp only [Act.put, List.setIfInBounds_toArray, List.set_cons_zero, List.set_cons_succ, List.getElem_toArray, List.getElem_cons_succ, List.getElem_cons_zero]
            refine wpAnyH_take (i := 33) (v := .pointer (some ⟨w.heap.size, 0, none⟩)) rfl (by kernel_rfl) (by kernel_rfl) (by kernel_rfl) (by first | exact fun _ _ _ h => h | exact fun _ _ _ h => nomatch h.1) (Or.inl ⟨by rfl, fun w_ hw_ => by go_simp⟩) hz ?_
            try simp only [Act.put, List.setIfInBounds_toArray, List.set_cons_zero, List.set_cons_succ, List.getElem_toArray, List.getElem_cons_succ, List.getElem_cons_zero]
            refine wpAnyH_take (i := 34) (v := .int .i64 f.kind) rfl (by kernel_rfl) (by kernel_rfl) (by kernel_rfl) (by first | exact fun _ _ _ h => h | exact fun _ _ _ h => nomatch h.1) (Or.inl ⟨by rfl, fun w_ hw_ => by have q_ := (HRX.out _ hw_).1.cell 0; rw [cF_0] at q_; go_simp⟩) hz ?_
            try simp only [Act.put, List.setIfInBounds_toArray, List.set_cons_zero, List.set_cons_succ, List.getElem_toArray, List.getElem_cons_succ, List.getElem_cons_zero]
            refine wpAnyH_take (i := 35) (v := .bool true) rfl (by kernel_rfl) (by kernel_rfl) (by kernel_rfl) (by first | exact fun _ _ _ h => h | exact fun _ _ _ h => nomatch h.1) (Or.inl ⟨by rfl, fun w_ hw_ => by go_simp⟩) hz ?_
            try simp only [Act.put, List.setIfInBounds_toArray, List.set_cons_zero, List.set_cons_succ, List.getElem_toArray, List.getElem_cons_succ, List.getElem_cons_zero]
            refine wpAnyH_take (i := 36) (v := .bool true) rfl (by kernel_rfl) (by kernel_rfl) (by kernel_rfl) (by first | exact fun _ _ _ h => h | exact fun _ _ _ h => nomatch h.1) (Or.inl ⟨by rfl, fun w_ hw_ => by go_simp⟩) hz ?_
            try simp only [Act.put, List.setIfInBounds_toArray, List.set_cons_zero, List.set_cons_succ, List.getElem_toArray, List.getElem_cons_succ, List.getElem_cons_zero]
            refine wpAnyH_take (i := 37) (v := .bool true) rfl (by kernel_rfl) (by kernel_rfl) (by kernel_rfl) (by first | exact fun _ _ _ h => h | exact fun _ _ _ h => nomatch h.1) (Or.inl ⟨by rfl, fun w_ hw_ => by go_simp⟩) hz ?_
            try simp only [Act.put, List.setIfInBounds_toArray, List.set_cons_zero, List.set_cons_succ, List.getElem_toArray, List.getElem_cons_succ, List.getElem_cons_zero]
            refine wpAnyH_take (i := 38) (v := .bool true) rfl (by kernel_rfl) (by kernel_rfl) (by kernel_rfl) (by first | exact fun _ _ _ h => h | exact fun _ _ _ h => nomatch h.1) (Or.inl ⟨by rfl, fun w_ hw_ => by go_simp⟩) hz ?_
            try simp only [Act.put, List.setIfInBounds_toArray, List.set_cons_zero, List.set_cons_succ, List.getElem_toArray, List.getElem_cons_succ, List.getElem_cons_zero]
            refine wpAnyH_take (i := 39) (v := .bool true) rfl (by kernel_rfl) (by kernel_rfl) (by kernel_rfl) (by first | exact fun _ _ _ h => h | exact fun _ _ _ h => nomatch h.1) (Or.inl ⟨by rfl, fun w_ hw_ => by go_simp⟩) hz ?_
            try simp only [Act.put, List.setIfInBounds_toArray, List.set_cons_zero, List.set_cons_succ, List.getElem_toArray, List.getElem_cons_succ, List.getElem_cons_zero]
            refine wpAnyH_done (by kernel_rfl) ?_ _
            go_wp2
            go_ret
            exact ⟨rfl, HWX.out _ hz⟩
end Go.Proofs.YtlcffjmbfpdlbaaDoor

namespace Go.Proofs.YtlcffjmbfpdlbaaDoor
open Go.RowKit

theorem own : ownKnob Tryd.prog.godebug = none := by kernel_rfl
theorem laidOut : laidOutB Tryd.prog = true := by kernel_rfl
/-- All that this seat's rows list. -/
def laidAll : List (String × DataW Unit) := Rows.framesPutRow.laid
theorem gTab : Tryd.prog.globalNamed (laidAll.getD 1 ("", .nil)).1 = some 1 := by kernel_rfl
theorem gTabType : (Tryd.prog.globals[1]?).map (·.type) = some 91 := by kernel_rfl
theorem cells64 : Tryd.prog.cellsOf 91 = 64 := by kernel_rfl
theorem cells5 : Tryd.prog.cellsOf 5 = 1 := by kernel_rfl
def tab64 : List Int := [0, 1, 56, 2, 57, 49, 28, 3, 61, 58, 42, 50, 38, 29, 17, 4, 62, 47, 59, 36, 45, 43, 51, 22, 53, 39, 33, 30, 24, 18, 12, 5, 63, 55, 48, 27, 60, 41, 37, 16, 46, 35, 44, 21, 52, 32, 23, 11, 54, 26, 40, 15, 34, 20, 31, 10, 25, 14, 19, 9, 13, 8, 7, 6]
theorem laidAll_eq : laidAll = [laidAll.getD 0 ("", .nil), ((laidAll.getD 1 ("", .nil)).1, Lib.tabData .u8 tab64)] := rfl

theorem tab_of_laid {W : World} (h : laidMetH Tryd.prog laidAll W) : Tab W := by
  rw [MakeChecks.laidMetH_plain _ _ _ (by kernel_rfl), laidAll_eq] at h
  have ht : Lib.TabIs Tryd.prog W (laidAll.getD 1 ("", .nil)).1 .u8 tab64 :=
    Lib.tabIs_of_head (rest := []) gTab gTabType Tryd.underlying91 Tryd.underlying5 cells5 cells64 h.tail
  have hc := fun i hi => ht.cell gTab i hi
  have h0 := hc 0 (by decide)
  exact ⟨World.block_lt_of_cell? W _ h0, h0, hc 1 (by decide), hc 3 (by decide), hc 7 (by decide)⟩

/-- The door's own heap meets the condition. -/
theorem door_met (os : Os) (args : Array Value) : laidMetH Tryd.prog laidAll ((World.doorLaid Tryd.prog 400 os).forCall (fun _ _ => 0) ⟨#[], args, []⟩).memory :=
  laidMetH_of_parts3 (fuel := 8) (laidMet_of_run' 8 (by kernel_rfl) (by kernel_rfl)) (by kernel_rfl) (by kernel_rfl)
end Go.Proofs.YtlcffjmbfpdlbaaDoor

namespace Go.Proofs.YtlcffjmbfpdlbaaDoor.framesPut
open Go.ChangeShapes Go.WideShapes Go.ChangeAt Go.RowKit

set_option maxRecDepth 100000 in
theorem lifted (os : Os) (started : os.Started) (H : Type) (enc : TypeId × Value → H) :
    ReturnsInHanded {} Tryd.checked os 3 .any (fun w args => (Rows.framesPutSpec.pre enc Tryd.prog Tryd.f3 [] false w args ∧ laidMetH Tryd.prog laidAll w) ∧ sizedMet enc Tryd.prog Tryd.f3 (OpenSpec.ofChange Rows.framesPutSpec) false w args)
      (Rows.framesPutSpec.post enc Tryd.prog Tryd.f3 false true false false) := by
  refine returnsInHanded_of_change_and (C := Tryd.checked) (X := fun w _ => laidMetH Tryd.prog laidAll w) (fun _ _ _ hh h => h.of_heap hh) own started (by kernel_rfl) Tryd.func3
    (ChangeSpec.witness_shaped (enc := enc) (C := Tryd.checked) (os := os) (X := fun w _ => laidMetH Tryd.prog laidAll w) false (World.doorLaid Tryd.prog 400 os) #[.agg #[.int .i64 0, .int .u64 0, .int .u64 0, .int .u64 0, .int .u64 0, .bool false, .slice none 0 0, .slice none 0 0, .int .u8 0, .int .u8 0, .int .u8 0, .int .u8 0, .int .u8 0, .int .u8 0, .int .u8 0, .int .u8 0, .int .u8 0, .int .u8 0, .int .u8 0, .int .u8 0, .int .u8 0, .int .u8 0, .int .u8 0, .int .u8 0], .agg #[.int .i64 0, .int .u64 0, .int .u64 0, .int .u64 0, .int .u64 0, .bool false, .slice none 0 0, .slice none 0 0, .int .u8 0, .int .u8 0, .int .u8 0, .int .u8 0, .int .u8 0, .int .u8 0, .int .u8 0, .int .u8 0, .int .u8 0, .int .u8 0, .int .u8 0, .int .u8 0, .int .u8 0, .int .u8 0, .int .u8 0, .int .u8 0]] 8 rfl (World.shaped_of_RefB (by kernel_rfl) (by kernel_rfl)) (by kernel_rfl) (by kernel_rfl) (by kernel_rfl) (door_met os _)) ?_
  intro W base args ds gs before hval0 hW _ _ hL _
  have hval : ∀ (j : Nat) t v, Tryd.f3.params[j]? = some t → args[j]? = some v → Value.okWide Tryd.prog W .any base t v := hval0
  have hW' := hW
  obtain ⟨p, q, hA0, hV, rfl, hfz, hnd⟩ := hW
  have hA : DataW.TrodAll enc Tryd.prog W 0 (fun _ => true) true Tryd.f3.params.toList args.toList ds p := hA0
  rw [Tryd.params3] at hA hval
  obtain ⟨v0, vs0, d0, ds0, p0, q0, hargs, rfl, rfl, h0, r0⟩ := trodAll_cons hA
  obtain ⟨v1, vs1, d1, ds1, p1, q1, rfl, rfl, rfl, h1, r1⟩ := trodAll_cons r0
  obtain ⟨rfl, rfl, rfl⟩ := trodAll_nil r1
  obtain rfl : args = #[v0, v1] := by cases args; simp_all
  obtain ⟨rfl, rfl⟩ := trodVars_none hV
  have k0 := h0
  have lt0 : ∀ x ∈ p0, x.block < W.heap.size := by obtain ⟨m, hm⟩ := k0; exact DataW.trod_lt m _ _ _ hm
  obtain ⟨f0, sd0, sr0, rfl, w0, o0⟩ := open_fr (hval 0 27 v0 rfl rfl) h0
  have k1 := h1
  have lt1 : ∀ x ∈ p1, x.block < W.heap.size := by obtain ⟨m, hm⟩ := k1; exact DataW.trod_lt m _ _ _ hm
  obtain ⟨f1, sd1, sr1, rfl, w1, o1⟩ := open_fr (hval 1 27 v1 rfl rfl) h1
  clear hA0 hval0
  refine (walk_FramesPut f0 sd0 sr0 f1 sd1 sr1 W w0 o0 w1 o1 (tab_of_laid hL)).mono fun e W' ⟨he, hc⟩ => ?_
  have bel : Below W.heap.size W W' := hc.below (Nat.le_refl _) (fun _ h => h.elim)
  subst he
  exact ⟨_, rfl, _, _, _, [], _, [], hW', trodAll_mk1 (shut_bool Tryd.underlying4 _), (trodAll_cons_mk (Below.trod laidOut (by kernel_rfl) (of_decide_eq_true (by kernel_rfl)) k0 bel lt0) (trodAll_cons_mk (Below.trod laidOut (by kernel_rfl) (of_decide_eq_true (by kernel_rfl)) k1 bel lt1) trodAll_mk0)), rfl, bel.frame _, fun h => by cases h⟩

theorem said : Rows.FramesPutSaid :=
  OpenClaim.holds_of_wide 3 Tryd.f3 rfl rfl rfl rfl rfl rfl rfl ⟨rfl, rfl, rfl, rfl, rfl⟩ rfl rfl rfl rfl rfl (by kernel_rfl) Tryd.func3 (by kernel_rfl)
    (of_decide_eq_true (by kernel_rfl)) (by unfold Func.isWrapper; first | (rw [if_pos (by decide +kernel)]; kernel_rfl) | (rw [if_neg (by decide +kernel)]; exact ⟨rfl, rfl⟩))
    (fun os started H enc _ => lifted os started H enc)

theorem plain (f : FuncId) (fn : Func) (hf : Tryd.pinned.checked.prog.funcNamed Rows.framesPutRow.func = some f) (hfn : Tryd.pinned.checked.prog.funcs[f]? = some fn) :
    false = Tryd.pinned.checked.prog.looks [] ∧ ∀ (j : Nat) t, fn.params[j]? = some t → Tryd.pinned.checked.prog.wantsStandIn t = false := by
  obtain rfl : f = 3 := Option.some.inj ((show Tryd.prog.funcNamed Rows.framesPutRow.func = some 3 by kernel_rfl).symm.trans hf) |>.symm
  obtain rfl : fn = Tryd.f3 := (Option.some.inj (Tryd.func3.symm.trans hfn)).symm
  refine ⟨by kernel_rfl, fun j t ht => ?_⟩
  rw [Tryd.params3] at ht
  have hm : t ∈ [27, 27] := by simpa using Array.mem_of_getElem? ht
  have hall : ([27, 27].all fun u => !Tryd.prog.wantsStandIn u) = true := by kernel_rfl
  exact (show Tryd.prog.wantsStandIn t = false by simpa using List.all_eq_true.1 hall t hm)

theorem card : Rows.FramesPutCardSaid :=
  Claim7.holds_tied_plain_at .later [] _ _ _ _ said (fun _ h => by cases h) (by kernel_rfl) (fun _ h => by cases h) framesPut_row_tie rfl ⟨rfl, rfl⟩ (by kernel_rfl) rfl plain (by kernel_rfl)
#print axioms card
end Go.Proofs.YtlcffjmbfpdlbaaDoor.framesPut
