/- Layer 15 (ledger): the packets of which something is so go, the others stay (part). -/
import Derived.Test.YtakoeamfmmbdiaaV15Led
import Derived.BigQuiet
import Derived.Deep.QuietTactic
import Derived.Lib.Hide
namespace Go.Proofs.Ytakoeamfmmbdiaa
open Go.RowKit


/-- What a closure says of packets, and nothing is turned. -/
def SaysS (fn : Nat) (cb : Array Value) (q : It → Bool) (l : List It) (w : World) : Prop :=
  (∀ args w, (callFunc fn args).run Try.prog w = .ok (.enter fn args) w) ∧ ∀ W x, x ∈ l → Chg none_ w W → Calls Try.prog fn (#[.agg (itc x).toArray] ++ cb) W fun e w' => e = .returned (.bool (q x)) ∧ Chg none_ W w'

theorem part_nil (fn : Nat) (cb : Array Value) (w : World) : Calls Try.prog 29 #[.pointer none, .func (.func fn) #[] cb] w fun e w' => e = .returned (.slice none 0 0) ∧ Chg none_ w w' := by
  go_enter Try.func29, Try.ntmps29
  go_wp2
  go_ret
  exact ⟨rfl, Chg.refl _ _⟩

set_option maxRecDepth 100000 in
set_option maxHeartbeats 4000000 in
theorem part_any (base g next above fn : Nat) (cb : Array Value) (q : It → Bool) (T : Nat → Prop) (v : Value) (l : List It) (w : World) (h : LedAt w base g T v l next above) (hl : l.length ≤ 1000) (hf : SaysS fn cb q l w) :
    Calls Try.prog 29 #[.pointer (some ⟨g, 0, none⟩), .func (.func fn) #[] cb] w fun e w' => ∃ gv lv, e = .returned gv ∧ OwnS w' w.heap.size gv (l.filter q) ∧ LedAt w' w.heap.size g T lv (l.filter (fun x => !q x)) next above ∧ (∀ b, gv.ownBlock = some b → lv.ownBlock ≠ some b) ∧ Chg (· = g) w w' := by
  obtain ⟨A, c, rfl, _, _, hv⟩ := h.own.view
  obtain ⟨i5, hi5⟩ := infoS
  have g0 := h.row.cell 0
  have HH := Lib.hid h
  have HV : Hid (∀ W, Chg none_ w W → View W (fun b => (Value.slice A l.length c).ownBlock = some b) A (l.length * 5) (l.flatMap itc)) := Lib.hid (fun W hc => hv.chg hc (fun _ _ h => h))
  have HF := Lib.hid hf
  clear h hf hv
  go_enter Try.func29, Try.ntmps29
  go_wp2
  go_loopw [5, 6, 16] (fun i5_ i6_ i16_ wr => ∃ (k : Nat) (gv lv : Value), i16_ = .int .i64 (k : Int) ∧ gv = i5_ ∧ lv = i6_ ∧ k ≤ l.length ∧ Hid (Chg none_ w wr) ∧ Hid (OwnS wr w.heap.size gv ((l.take k).filter q)) ∧ Hid (OwnS wr w.heap.size lv ((l.take k).filter (fun x => !q x))) ∧ Hid (∀ b, gv.ownBlock = some b → lv.ownBlock ≠ some b)) (fun _ _ i16_ _ => l.length - (intOf i16_).toNat)
  case atStart => exact ⟨0, _, _, rfl, rfl, rfl, Nat.zero_le _, Lib.hid (Chg.refl _ _), Lib.hid (OwnN.nil _ _ _ _ _), Lib.hid (OwnN.nil _ _ _ _ _), Lib.hid (fun b e => nomatch e)⟩
  case round =>
    obtain ⟨k, gv, lv, rfl, rfl, rfl, hk, HC, HGV, HLV, HDJ⟩ := hrel
    by_cases hlt : k < l.length
    · have k1 : (k : Int) < (l.length : Int) := by omega
      have k0 : (0 : Int) ≤ (k : Int) := by omega
      obtain ⟨b, o, rfl, hb, _, hra⟩ := (HV.out wr HC.out).elemAt itc_len (by decide) it0 hlt
      have hmx : l.getD k it0 ∈ l := getD_mem it0 hlt
      have hr := hra k hlt
      obtain ⟨x, hx⟩ : ∃ x, l.getD k it0 = x := ⟨_, rfl⟩
      rw [hx] at hr hmx
      have HRX := Lib.hid hr
      have HX := Lib.hid hx
      have HLE : Hid (((l.take k).filter q).length + 1 ≤ 1000000 ∧ ((l.take k).filter (fun x => !q x)).length + 1 ≤ 1000000) := Lib.hid (by
        have h1 := List.length_filter_le q (l.take k)
        have h2 := List.length_filter_le (fun x => !q x) (l.take k)
        rw [List.length_take] at h1 h2
        omega)
      have HQX : Hid (∀ W, Chg none_ w W → Calls Try.prog fn (#[.agg (itc x).toArray] ++ cb) W fun e w' => e = .returned (.bool (q x)) ∧ Chg none_ W w') := Lib.hid (fun W hc => HF.out.2 W x hmx hc)
      have eg := HF.out.1
      clear hra hr hx hmx hb
      cases hq : q x with
      | true =>
        rw [hq] at HQX
        have HQ := Lib.hid hq
        clear hq
        go_wp2_with (first | ((with_reducible show wpList _ _ _ (⟨some 19, .load _ _, _, _, _, _⟩ :: _) _ _); refine wpList_load_Mid (cs := itc x) rfl rfl rfl HRX.out Try.underlying32 rfl sizeS ?_) | ((with_reducible show wpList _ _ _ (⟨some 8, .alloc _, _, _, _, _⟩ :: _) _ _); refine wpList_alloc_Row rfl rfl (itc it0) zeroS ?_; intro w4 hr4 hc4 hs4; have HR4 := Lib.hid hr4; have HC4 := Lib.hid hc4; clear hr4 hc4 hs4) | ((with_reducible show wpList _ _ _ (⟨none, .store _ (.tmp 8) _, _, _, _, _⟩ :: _) _ _); refine wpList_store_Row (xs := itc x) rfl rfl rfl HR4.out rfl rfl sizeS (List.all_eq_true.2 (itc_one x)) ?_; intro w5 hr5 hc5 hs5; have HR5 := Lib.hid hr5; have HC5 := Lib.hid (hc5 none_ wr HC4.out (fun h => absurd h (Nat.lt_irrefl _))); clear hr5 hc5 hs5) | ((with_reducible show wpList _ _ _ (⟨some 21, .load _ _, _, _, _, _⟩ :: _) _ _); refine wpList_load_Row rfl rfl rfl HR5.out Try.underlying32 rfl sizeS ?_) | ((with_reducible show Calls _ _ _ _ _); refine (HQX.out _ (HC.out.trans HC5.out)).mono ?_; rintro e w6 ⟨rfl, hc6⟩; have HC6 := Lib.hid hc6; have HR6 := Lib.hid (HR5.out.chg hc6 (fun h => h)); clear hc6) | ((with_reducible show wpList _ _ _ (⟨some 24, .load _ _, _, _, _, _⟩ :: _) _ _); refine wpList_load_Row rfl rfl rfl HR6.out Try.underlying32 rfl sizeS ?_) | ((with_reducible show wpList _ _ _ (⟨some 25, _, _, _, _, _⟩ :: _) _ _); refine wpList_newN (f := fun g => .slice (some ⟨g, 0, none⟩) 1 1) (e := 32) (cs := itc x) rfl (fun w_ => by have := run_sliceS x w_; simp [execOp, Act.eval, Act.put, this]) ?_; intro w7 hr7 hc7 hs7; have HR7 := Lib.hid hr7; have HC7 := Lib.hid ((HC5.out.trans HC6.out).trans hc7); clear hr7 hc7 hs7) | ((with_reducible show wpList _ _ _ (⟨some 26, _, _, _, _, _⟩ :: _) _ _); refine wpList_append_N rfl (c := itc) (e := 32) (s := 5) (base := w.heap.size) (v := gv) (L := ((l.take k).filter q)) (M := [x]) (T := fun b => b = w6.heap.size) (A := some ⟨w6.heap.size, 0, none⟩) (m := 1) (cp := 1) (i := i5) (z := .agg (itc it0).toArray) _ _ 33 rfl Try.underlying33 hi5 rfl (by decide) itc_one itc_len rfl (HGV.out.chg HC7.out (fun _ _ h => h)) rfl (viewS HR7.out) HLE.out.1 (HC.out.trans HC7.out).size ?_; intro v8 w8 o8 c8 n8; have HO8 := Lib.hid o8; have HC8 := Lib.hid c8; have HN8 := Lib.hid n8; clear o8 c8 n8))
        go_roundw
        case rel =>
          have hcw : Chg none_ w w8 := (HC.out.trans HC7.out).andThen HC8.out (fun b hb e => by have := (HGV.out.lt e).1; omega)
          have hot : OwnS w8 w.heap.size lv ((l.take k).filter (fun x => !q x)) := (HLV.out.chg HC7.out (fun _ _ h => h)).chg HC8.out (fun b e h => HDJ.out b h e)
          have hown : OwnS w8 w.heap.size v8 (((l.take k).filter q) ++ [x]) := HO8.out
          refine ⟨k + 1, v8, lv, by go_num, rfl, rfl, by omega, Lib.hid hcw, Lib.hid ?_, Lib.hid ?_, Lib.hid (fun b e1 e2 => ?_)⟩
          · rw [take_snoc it0 hlt, List.filter_append, HX.out, List.filter_cons_of_pos (by simpa using HQ.out), List.filter_nil]; exact hown
          · rw [take_snoc it0 hlt, List.filter_append, HX.out, List.filter_cons_of_neg (by simp [HQ.out]), List.filter_nil, List.append_nil]; exact hot
          · rcases HN8.out b e1 with h | h
            · exact HDJ.out b h e2
            · have h1 := (HLV.out.lt e2).2; have h2 := HC7.out.size; omega
        case measure => simp [intOf]; omega
      | false =>
        rw [hq] at HQX
        have HQ := Lib.hid hq
        clear hq
        go_wp2_with (first | ((with_reducible show wpList _ _ _ (⟨some 19, .load _ _, _, _, _, _⟩ :: _) _ _); refine wpList_load_Mid (cs := itc x) rfl rfl rfl HRX.out Try.underlying32 rfl sizeS ?_) | ((with_reducible show wpList _ _ _ (⟨some 8, .alloc _, _, _, _, _⟩ :: _) _ _); refine wpList_alloc_Row rfl rfl (itc it0) zeroS ?_; intro w4 hr4 hc4 hs4; have HR4 := Lib.hid hr4; have HC4 := Lib.hid hc4; clear hr4 hc4 hs4) | ((with_reducible show wpList _ _ _ (⟨none, .store _ (.tmp 8) _, _, _, _, _⟩ :: _) _ _); refine wpList_store_Row (xs := itc x) rfl rfl rfl HR4.out rfl rfl sizeS (List.all_eq_true.2 (itc_one x)) ?_; intro w5 hr5 hc5 hs5; have HR5 := Lib.hid hr5; have HC5 := Lib.hid (hc5 none_ wr HC4.out (fun h => absurd h (Nat.lt_irrefl _))); clear hr5 hc5 hs5) | ((with_reducible show wpList _ _ _ (⟨some 21, .load _ _, _, _, _, _⟩ :: _) _ _); refine wpList_load_Row rfl rfl rfl HR5.out Try.underlying32 rfl sizeS ?_) | ((with_reducible show Calls _ _ _ _ _); refine (HQX.out _ (HC.out.trans HC5.out)).mono ?_; rintro e w6 ⟨rfl, hc6⟩; have HC6 := Lib.hid hc6; have HR6 := Lib.hid (HR5.out.chg hc6 (fun h => h)); clear hc6) | ((with_reducible show wpList _ _ _ (⟨some 28, .load _ _, _, _, _, _⟩ :: _) _ _); refine wpList_load_Row rfl rfl rfl HR6.out Try.underlying32 rfl sizeS ?_) | ((with_reducible show wpList _ _ _ (⟨some 29, _, _, _, _, _⟩ :: _) _ _); refine wpList_newN (f := fun g => .slice (some ⟨g, 0, none⟩) 1 1) (e := 32) (cs := itc x) rfl (fun w_ => by have := run_sliceS x w_; simp [execOp, Act.eval, Act.put, this]) ?_; intro w7 hr7 hc7 hs7; have HR7 := Lib.hid hr7; have HC7 := Lib.hid ((HC5.out.trans HC6.out).trans hc7); clear hr7 hc7 hs7) | ((with_reducible show wpList _ _ _ (⟨some 30, _, _, _, _, _⟩ :: _) _ _); refine wpList_append_N rfl (c := itc) (e := 32) (s := 5) (base := w.heap.size) (v := lv) (L := ((l.take k).filter (fun x => !q x))) (M := [x]) (T := fun b => b = w6.heap.size) (A := some ⟨w6.heap.size, 0, none⟩) (m := 1) (cp := 1) (i := i5) (z := .agg (itc it0).toArray) _ _ 33 rfl Try.underlying33 hi5 rfl (by decide) itc_one itc_len rfl (HLV.out.chg HC7.out (fun _ _ h => h)) rfl (viewS HR7.out) HLE.out.2 (HC.out.trans HC7.out).size ?_; intro v8 w8 o8 c8 n8; have HO8 := Lib.hid o8; have HC8 := Lib.hid c8; have HN8 := Lib.hid n8; clear o8 c8 n8))
        go_roundw
        case rel =>
          have hcw : Chg none_ w w8 := (HC.out.trans HC7.out).andThen HC8.out (fun b hb e => by have := (HLV.out.lt e).1; omega)
          have hot : OwnS w8 w.heap.size gv ((l.take k).filter q) := (HGV.out.chg HC7.out (fun _ _ h => h)).chg HC8.out (fun b e h => HDJ.out b e h)
          have hown : OwnS w8 w.heap.size v8 (((l.take k).filter (fun x => !q x)) ++ [x]) := HO8.out
          refine ⟨k + 1, gv, v8, by go_num, rfl, rfl, by omega, Lib.hid hcw, Lib.hid ?_, Lib.hid ?_, Lib.hid (fun b e1 e2 => ?_)⟩
          · rw [take_snoc it0 hlt, List.filter_append, HX.out, List.filter_cons_of_neg (by simp [HQ.out]), List.filter_nil, List.append_nil]; exact hot
          · rw [take_snoc it0 hlt, List.filter_append, HX.out, List.filter_cons_of_pos (by simp [HQ.out]), List.filter_nil]; exact hown
          · rcases HN8.out b e2 with h | h
            · exact HDJ.out b e1 h
            · have h1 := (HGV.out.lt e1).2; have h2 := HC7.out.size; omega
        case measure => simp [intOf]; omega
    · have hke : k = l.length := by omega
      subst hke
      rw [List.take_of_length_le (Nat.le_refl _)] at HGV HLV
      obtain ⟨AG, cg, rfl, _, _⟩ := shapeS HGV.out
      obtain ⟨AL, cl, rfl, _, _⟩ := shapeS HLV.out
      have hrow := HH.out.row.chg HC.out (fun h => h)
      have g0' := hrow.cell 0
      have gf := hrow.frozen 0
      simp only [List.getElem?_cons_zero] at g0'
      have HRW := Lib.hid (hrow.set 0 (.slice AL (l.filter (fun x => !q x)).length cl))
      have HCW := Lib.hid ((show Chg (· = g) w wr from HC.out.mono (fun _ _ h => h.elim)).setCell (p := ⟨g, 0, none⟩) (fun _ => rfl) (.slice AL (l.filter (fun x => !q x)).length cl))
      have HCS := Lib.hid (Chg.setCell (S := fun b => b = g) (Chg.refl _ wr) (p := ⟨g, 0, none⟩) (fun _ => rfl) (.slice AL (l.filter (fun x => !q x)).length cl))
      clear hlt hrow hk g0
      go_wp2
      go_ret
      have hgl := HH.out.glt
      have hg1 := (HGV.out.chg HCS.out (fun b e h => by have := (HGV.out.lt e).1; omega))
      have hl1 := (HLV.out.chg HCS.out (fun b e h => by have := (HLV.out.lt e).1; omega))
      refine ⟨_, .slice AL (l.filter (fun x => !q x)).length cl, rfl, hg1, ⟨HRW.out, hl1, fun x hx => (HH.out.its x (List.mem_filter.1 hx).1).chg HCW.out (fun b hb e => HH.out.ng b hb e), fun b hb => Nat.lt_of_lt_of_le (HH.out.lt b hb) HCW.out.size, HH.out.ng, fun b hb e => ?_, fun e => ?_⟩, HDJ.out, HCW.out⟩
      · have h1 := HH.out.lt b hb
        have h2 := (HLV.out.lt e).1
        omega
      · have h2 := (HLV.out.lt e).1
        omega
end Go.Proofs.Ytakoeamfmmbdiaa
