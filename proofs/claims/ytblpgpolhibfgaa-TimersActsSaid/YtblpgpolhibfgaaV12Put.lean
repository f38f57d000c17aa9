/- Layer 12 (timers): a timer written to its place. -/
import Derived.Test.YtblpgpolhibfgaaV12Q
namespace Go.Proofs.Ytblpgpolhibfgaa
open Go.RowKit

def Two (q g : Nat) : Nat → Prop := fun b => b = q ∨ b = g
theorem QM.timer {w : World} {q n i : Nat} {F : List Tm} {mp : Option Nat} (h : QM w q F n mp) (hi : i < 200) : w.cell? ⟨q, i * 3, none⟩ = some (.int .u64 ((tm F i).at_ : Int)) ∧ w.cell? ⟨q, i * 3 + 1, none⟩ = some (.int .i64 (tm F i).conn) ∧ w.cell? ⟨q, i * 3 + 2, none⟩ = some (.int .i64 (tm F i).kind) :=
  ⟨h.at_ i hi 0 _ rfl, h.at_ i hi 1 _ rfl, h.at_ i hi 2 _ rfl⟩

set_option maxRecDepth 100000 in
set_option maxHeartbeats 1000000 in
theorem put_any (q g i n : Nat) (F : List Tm) (M : Int × Int → Option Nat) (t : Tm) (w : World) (h : QM w q F n (some g)) (hm : MapIn w g M) (hgq : g ≠ q) (hi : i < 200) (ht : TOk t) :
    Calls Try.prog 35 #[.pointer (some ⟨q, 0, none⟩), .int .i64 (i : Int), .agg (tcell t).toArray] w fun e w' => e = .returned (.tuple #[]) ∧ QM w' q (F.set i t) n (some g) ∧ MapIn w' g (upd M t.key (some i)) ∧ Chg (Two q g) w w' := by
  have HQ := Lib.hid h
  have HM := Lib.hid hm
  have HT := Lib.hid ht
  have HN := Lib.hid hgq
  have i1 : (i : Int) < 200 := by omega
  have i0 : 0 ≤ (i : Int) := by omega
  clear h hm ht hgq
  go_enter Try.func35, Try.ntmps35
  go_wp2_with ((with_reducible show wpList _ _ _ (⟨some 5, .box _ _, _, _, _, _⟩ :: _) _ _); refine wpList_box_Row rfl rfl (tcell t) rfl ?_; intro w1 hr1 hc1 hs1; have a0 := hr1.cell 0; have a1 := hr1.cell 1; have a2 := hr1.cell 2; simp only [tcell, List.getElem?_cons_zero, List.getElem?_cons_succ] at a0 a1 a2; have HR1 := Lib.hid hr1; have HQ1 := Lib.hid (HQ.out.chg hc1 (fun h => h)); have HM1 := Lib.hid (HM.out.chg hc1 (fun h => h)); have HC1 := Lib.hid hc1; clear hr1 hc1 hs1)
  refine wp_region_still_tail 6 (by kernel_rfl) (by kernel_rfl) ?_
  simp only [List.take_succ_cons, List.take_zero, List.drop_succ_cons, List.drop_zero]
  iterate 6 still_step
  refine wpStill_nil ?_
  change wpList _ _ _ _ _ (World.drew _)
  have HNW := Lib.hid (show w.heap.size ≠ q by have := HQ.out.lt; omega)
  have HNG := Lib.hid (show w.heap.size ≠ g by have := HM.out.lt; omega)
  clear a0 a1 a2
  go_wp2_with ((with_reducible show wpList _ _ _ (⟨_, .store _ _ _, _, _, _, _⟩ :: _) _ _); refine wpList_store_Q rfl rfl (i := i) (t := t) rfl HQ1.out.drew hi HT.out rfl sizeTm ?_; intro w2 hq2 hc2 hs2; have HQ2 := Lib.hid hq2; have HM2 := Lib.hid (HM1.out.drew.chg hc2 HN.out); have HR2 := Lib.hid (HR1.out.drew.chg hc2 HNW.out); have HC2 := Lib.hid hc2; have c1 := hq2.c601; have a1 := HR2.out.cell 1; have a2 := HR2.out.cell 2; simp only [tcell, List.getElem?_cons_zero, List.getElem?_cons_succ] at a1 a2; clear hq2 hc2 hs2)
  refine wp_region_still_tail 10 (by kernel_rfl) (by kernel_rfl) ?_
  simp only [List.take_succ_cons, List.take_zero, List.drop_succ_cons, List.drop_zero]
  iterate 10 still_step
  refine wpStill_nil ?_
  change wpList _ _ _ _ _ (World.drew _)
  clear a1 a2 c1
  go_wp2_with ((with_reducible show wpList _ _ _ (⟨_, .mapUpdate _ _ _ _, _, _, _, _⟩ :: _) _ _); refine wpList_update_S rfl rfl t.key i rfl rfl rfl Try.underlying58 keyed HM2.out.drew HT.out.k ?_; intro w3 hm3 hc3 hs3; have HM3 := Lib.hid hm3; have HQ3 := Lib.hid (HQ2.out.drew.chg hc3 (fun e => HN.out e.symm)); have HC3 := Lib.hid hc3; clear hm3 hc3 hs3)
  refine bodyPost_end (results_none rfl _ _ _) rfl ?_
  refine ⟨rfl, HQ3.out, HM3.out, ?_⟩
  have c0 : Chg (Two q g) w w1 := HC1.out.mono (fun _ _ h => h.elim)
  have c2 : Chg (Two q g) w1.drew w2 := HC2.out.mono (fun _ _ h => Or.inl h)
  have c3 : Chg (Two q g) w2.drew w3 := HC3.out.mono (fun _ _ h => Or.inr h)
  exact (c0.trans c2.undrew).trans c3.undrew
end Go.Proofs.Ytblpgpolhibfgaa
