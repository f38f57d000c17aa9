/- Layer 13 (ranges): Forget. -/
import Derived.Test.YtlakhfbhbebojaaV13Has
import Derived.Test.YtlakhfbhbebojaaV13Rep
import Derived.Test.YtlakhfbhbebojaaStr
namespace Go.Proofs.Ytlakhfbhbebojaa
open Go.RowKit Go.Shelf Go.Sort

set_option maxRecDepth 100000 in
set_option maxHeartbeats 1000000 in
theorem Forget_nil (n : Int) (w : World) :
    Calls Try.prog 14 #[.pointer none, .int .u64 n] w fun e w' => e = .returned (.int .i64 0) ∧ Chg none_ w w' := by
  go_enter Try.func14, Try.ntmps14
  go_wp2
  go_ret
  exact ⟨rfl, (Chg.refl _ _).alloc _⟩

theorem replace_tail (g B y i : Nat) (l M : List (Nat × Nat)) (AM : Option Addr) (m c : Nat) (T : Nat → Prop) (w : World) (h : SetAt w B g l y) (hi : i ≤ l.length) (hl : l.length ≤ 1000) (hml : m ≤ 1000) (hM : View w T AM (m * 2) (rcells M)) :
    Calls Try.prog 24 #[.pointer (some ⟨g, 0, none⟩), .int .i64 (i : Int), .int .i64 (l.length : Int), .slice AM m c] w fun e w' => e = .returned (.tuple #[]) ∧ SetAt w' B g (l.take i ++ M) y ∧ Chg (· = g) w w' := by
  rcases Nat.eq_zero_or_pos m with rfl | hm
  · have hM0 : M = [] := by
      have := hM.1
      rw [rcells_len] at this
      exact List.length_eq_zero_iff.1 (by omega)
    rw [hM0, List.append_nil]
    exact replace_cut g B y i l c AM w h hi
  · refine (replace_any g B y i l.length l M AM m c T w h hi (Nat.le_refl _) hl hml hM hm).mono ?_
    rintro e w' ⟨a, b, c⟩
    rw [List.drop_length, List.append_nil] at b
    exact ⟨a, b, c⟩
theorem SetAt.young {w : World} {B g y y' : Nat} {l : List (Nat × Nat)} (h : SetAt w B g l y) : SetAt (w.setCell ⟨g, 1, none⟩ (.int .u64 (y' : Int))) B g l y' ∧ Chg (· = g) w (w.setCell ⟨g, 1, none⟩ (.int .u64 (y' : Int))) := by
  obtain ⟨A, cap, k1, k2, k3, k4, k5, k6⟩ := h
  refine ⟨⟨A, cap, k1.set 1 _, k2, k3, k4.setCell _ (by show ¬ B ≤ g; omega) _, k5, by simpa [World.setCell] using k6⟩, (Chg.refl (· = g) w).setCell (p := ⟨g, 1, none⟩) (fun _ => rfl) _⟩
theorem wpList_append_R {ops : Array Oper} {rest : List Oper} {o : Oper} {a : Act} {w w0 : World} {Q : Exit → Act → World → Prop} (hgd : o.guard = none) (s x : Operand) (ho : o.op = .call { callee := .builtin .append, args := #[s, x], argTypes := #[27, 27] }) {base : Nat} {v : Value} {L M : List (Nat × Nat)} {T : Nat → Prop} {A : Option Addr} {m c : Nat}
    (hs : a.eval s = v) (hown : OwnedR w base v L) (hx : a.eval x = .slice A m c) (hv : View w T A (m * 2) (rcells M)) (hlen : L.length + m ≤ 1000000) (hbase : base ≤ w.heap.size) (hc0 : Chg none_ w0 w) (hb0 : w0.heap.size ≤ base)
    (k : ∀ v' w', OwnedR w' base v' (L ++ M) → Chg none_ w0 w' → wpList Try.prog ops Q rest (a.put o.dst v') w') : wpList Try.prog ops Q (o :: rest) a w :=
  wpList_plain hgd fun _ hK => wp_append_R s x ho hs hown hx hv hlen hbase hc0 hb0 (fun v' w' h1 h2 => hK _ _ (k v' w' h1 h2))

set_option maxRecDepth 100000 in
set_option maxHeartbeats 4000000 in
theorem Forget_any (g B y k n : Nat) (l : List (Nat × Nat)) (w : World) (h : SetG w B g l y k) (hk : k ≤ 100) :
    Calls Try.prog 14 #[.pointer (some ⟨g, 0, none⟩), .int .u64 (n : Int)] w fun e w' => e = .returned (.int .i64 ((forgetN l y n : Nat) : Int)) ∧ SetG w' B g (forgetS l y n).1 (forgetS l y n).2 k ∧ Chg (· = g) w w' := by
  have hlen := h.2.len
  have hspec := forgetS_spec h.2 n
  have hMX : min n MX ≤ MX := Nat.min_le_right _ _
  have km : min (n : Int) 4611686018427387903 = ((min n MX : Nat) : Int) := by unfold MX; omega
  obtain ⟨mm, hmm⟩ : ∃ mm, mm = min n MX := ⟨_, rfl⟩
  have HFN : Hid (forgetN l y n = if mm < y then 0 else l.length - fst_ (hiLe mm) l) := Lib.hid (by rw [hmm]; rfl)
  have HFS : Hid (forgetS l y n = if mm < y then (l, y) else (cutL l mm, mm + 1)) := Lib.hid (by rw [hmm]; rfl)
  have HSP := Lib.hid hspec.1
  have hgw := h.1.lt
  rw [← hmm] at km hMX
  clear hspec hmm
  generalize forgetN l y n = fN at *
  generalize forgetS l y n = fS at *
  have HOL : Hid (∀ w1, Chg none_ w w1 → Calls Try.prog 11 #[.pointer (some ⟨g, 0, none⟩), .int .u64 (mm : Int)] w1 fun e w' => e = .returned (.bool (decide (mm < y))) ∧ w' = w1) := Lib.hid (fun w1 hc => Old_any g B y l mm w1 (h.1.quiet hc))
  by_cases hmy : mm < y
  · have dmy : decide (mm < y) = true := by simpa using hmy
    have HD := Lib.hid (HFN.out.trans (if_pos hmy))
    have HE := Lib.hid (HFS.out.trans (if_pos hmy))
    rw [dmy] at HOL
    have HQ : Hid (∀ w', Chg none_ w w' → SetG w' B g fS.1 fS.2 k) := Lib.hid (fun w' hc => by
      rw [HE.out]
      exact h.quiet hc)
    clear h hmy HSP
    go_enter Try.func14, Try.ntmps14
    go_wp2_with (go_at_call 11; refine (HOL.out _ ((Chg.refl none_ w).alloc _)).mono ?_; rintro e w9 ⟨rfl, rfl⟩)
    go_ret
    exact ⟨ret_i64 (by rw [HD.out]; rfl), HQ.out _ ((Chg.refl none_ w).alloc _), ((Chg.refl (· = g) w).alloc _)⟩
  have dmy : decide (mm < y) = false := by simpa using hmy
  have HD := Lib.hid (HFN.out.trans (if_neg hmy))
  have HE := Lib.hid (HFS.out.trans (if_neg hmy))
  rw [dmy] at HOL
  have HF1 : Hid (∀ w1 pn, SetAt w1 B g l y → w1.cell? ⟨pn, 0, none⟩ = some (.int .u64 (mm : Int)) → Calls Try.prog 21 #[.pointer (some ⟨g, 0, none⟩), .func (.func 26) #[] #[.pointer (some ⟨pn, 0, none⟩)]] w1 fun e w' => e = .returned (.int .i64 ((fst_ (loLe mm) l : Nat) : Int)) ∧ Chg none_ w1 w') := Lib.hid (fun w1 pn h1 h2 =>
    first_any 26 #[.pointer (some ⟨pn, 0, none⟩)] (loLe mm) l y B g w1 h1 (h.2.sep.loLe mm) (by omega) (says_fg1 mm pn l w1 h2))
  have HF2 : Hid (∀ w1 pn, SetAt w1 B g l y → w1.cell? ⟨pn, 0, none⟩ = some (.int .u64 (mm : Int)) → Calls Try.prog 21 #[.pointer (some ⟨g, 0, none⟩), .func (.func 27) #[] #[.pointer (some ⟨pn, 0, none⟩)]] w1 fun e w' => e = .returned (.int .i64 ((fst_ (hiLe mm) l : Nat) : Int)) ∧ Chg none_ w1 w') := Lib.hid (fun w1 pn h1 h2 =>
    first_any 27 #[.pointer (some ⟨pn, 0, none⟩)] (hiLe mm) l y B g w1 h1 (h.2.sep.hiLe mm) (by omega) (says_fg2 mm pn l w1 h2))
  have HH := Lib.hid h.1
  have hcg := fst_lo_hi h.2.sep mm
  have hgl := fst_le (hiLe mm) l
  have HCL : Hid (∃ cut gone, cut = fst_ (loLe mm) l ∧ gone = fst_ (hiLe mm) l ∧ cutL l mm = l.take cut ++ ((l.take gone).drop cut).map (fun r => (mm + 1, r.2))) := Lib.hid ⟨_, _, rfl, rfl, rfl⟩
  obtain ⟨cut, gone, e1, e2, e3⟩ := HCL.out
  rw [← e1] at HF1 hcg
  rw [← e2] at HF2 HD hcg hgl
  rw [e3] at HE
  clear e1 e2 e3 HCL
  obtain ⟨M, hM⟩ : ∃ M, M = (l.take gone).drop cut := ⟨_, rfl⟩
  have hMl : M.length = gone - cut := by rw [hM, List.length_drop, List.length_take]; omega
  rw [← hM] at HE
  have HMB : Hid (∀ r ∈ M, r.2 ≤ MX) := Lib.hid (fun r hr => (h.2.all r (List.mem_of_mem_take (List.mem_of_mem_drop (hM ▸ hr)))).2)
  have HVW : Hid (∀ w', Chg none_ w w' → ∃ A cap, w'.cell? ⟨g, 0, none⟩ = some (.slice A l.length cap) ∧ l.length ≤ cap ∧ View w' (fun b => B ≤ b) (dropN A cap cut 2) ((gone - cut) * 2) (rcells M)) := Lib.hid (fun w' hc => by
    obtain ⟨A, cap, hr, hcap, _, hv, _⟩ := h.1.quiet hc
    refine ⟨A, cap, hr.cell 0, hcap, ?_⟩
    have hn : l.length - cut ≥ gone - cut := by omega
    have := ((hv.dropN (k := cut) hcap).take (k := (gone - cut) * 2) (by omega))
    rw [← rcells_drop, ← rcells_take] at this
    rwa [hM, List.drop_take])
  clear hM h hmy HFN HFS dmy
  go_enter Try.func14, Try.ntmps14
  go_wp2_with (first | (go_at_call 11; refine (HOL.out _ ((Chg.refl none_ w).alloc _)).mono ?_; rintro e w9 ⟨rfl, rfl⟩) | (go_at_call 21; (with_reducible show Calls _ _ #[_, .func (.func 26) _ _] _ _); refine (HF1.out _ _ (HH.out.quiet ((Chg.refl none_ w).alloc _)) (by go_simp)).mono ?_; rintro e w2 ⟨rfl, hc⟩; have HC2 := Lib.hid (((Chg.refl none_ w).alloc _).trans hc); have HN2 := Lib.hid ((hc.cell 0 (by show w.heap.size < (w.alloc _).heap.size; simp) (fun h => h)).trans (cell_new_sl w (.int .u64 (mm : Int)) 26)); clear hc) | (go_at_call 21; (with_reducible show Calls _ _ #[_, .func (.func 27) _ _] _ _); refine (HF2.out _ _ (HH.out.quiet HC2.out) HN2.out).mono ?_; rintro e w3 ⟨rfl, hc⟩; have HC3 := Lib.hid (HC2.out.trans hc); have HN3 := Lib.hid ((hc.cell 0 (World.block_lt_of_cell? _ _ HN2.out) (fun h => h)).trans HN2.out); obtain ⟨A, cap, c0, hcap, hvm⟩ := HVW.out _ HC3.out; have HVM := Lib.hid hvm; clear hc hvm) | ((with_reducible show wpList _ _ _ (⟨some 39, _, _, _, _, _⟩ :: _) _ _); refine wpList_slice_bothN rfl 27 41 _ _ _ rfl A l.length cap cut gone 2 rfl rfl rfl Try.underlying27 sizeR hcg (by omega) ?_))
  generalize hd : gone - cut = d at *
  generalize dropN A cap cut 2 = AD at *
  rw [← hMl] at HVM
  obtain ⟨m1, hm1⟩ : ∃ m1, m1 = mm + 1 := ⟨_, rfl⟩
  have kw : IntKind.u64.wrap ((mm : Int) + 1) = (m1 : Int) := by
    rw [wrap_small (by omega) (by unfold MX at hMX; omega)]
    omega
  rw [← hm1] at HE
  clear hm1
  have HKW := Lib.hid kw
  have HDL : Hid (d ≤ 1000) := Lib.hid (by omega)
  have HFW : Hid (∀ w', SetAt w' B g (l.take cut ++ M.map (fun r => (m1, r.2))) m1 → SetG w' B g fS.1 fS.2 k) := Lib.hid (fun w' h1 => by
    have := HSP.out
    rw [HE.out] at this ⊢
    exact ⟨h1, this⟩)
  have HRT : Hid (∀ w1 L AL cL, Chg none_ w w1 → L.length ≤ 1000 → View w1 (fun b => w3.heap.size ≤ b) AL (L.length * 2) (rcells L) → Calls Try.prog 24 #[.pointer (some ⟨g, 0, none⟩), .int .i64 (cut : Int), .int .i64 (l.length : Int), .slice AL L.length cL] w1 fun e w' => e = .returned (.tuple #[]) ∧ SetAt w' B g (l.take cut ++ L) y ∧ Chg (· = g) w1 w') := Lib.hid (fun w1 L AL cL h1 h2 h3 =>
    replace_tail g B y cut l L AL L.length cL _ w1 (HH.out.quiet h1) (by omega) (by omega) h2 h3)
  clear kw HE HSP HF1 HF2 HVW HOL km
  go_loopw [8, 41] (fun v i wr => ∃ j : Nat, i = .int .i64 (j : Int) ∧ j ≤ d ∧ OwnedR wr w3.heap.size v ((M.take j).map (fun r => (m1, r.2))) ∧ Chg none_ w3 wr) (fun _ i _ => d - (intOf i).toNat)
  case atStart => exact ⟨0, rfl, Nat.zero_le _, by rw [List.take_zero]; exact OwnedR.nil _ _, Chg.refl _ _⟩
  case round =>
    obtain ⟨j, rfl, hj, ho, hc⟩ := hrel
    obtain ⟨L, hL⟩ : ∃ L, L = (M.take j).map (fun r => (m1, r.2)) := ⟨_, rfl⟩
    have hLl : L.length = j := by rw [hL, List.length_map, List.length_take]; omega
    rw [← hL] at ho
    obtain ⟨AL, capL, rfl, hLc, hLm, hLv⟩ := ho.view
    have HL := Lib.hid ho
    have HC4 := Lib.hid hc
    have c0' := (hc.cell 0 (World.block_lt_of_cell? _ _ c0) (fun h => h)).trans c0
    have hn3 := (hc.cell 0 (World.block_lt_of_cell? _ _ HN3.out) (fun h => h)).trans HN3.out
    by_cases hlt : j < d
    · have j1 : (j : Int) < (d : Int) := by omega
      have j0 : 0 ≤ (j : Int) := by omega
      obtain ⟨b, o, rfl, hbl, _, hr⟩ := (HVM.out.chg hc (fun _ _ h => h)).rAt (k := j) (by omega)
      have HR := Lib.hid (hr j (by omega))
      have HLL := Lib.hid hLl
      have HNL := Lib.hid (show w.heap.size < wr.heap.size from World.block_lt_of_cell? _ _ hn3)
      have HNX : Hid ((M.take (j + 1)).map (fun r => (m1, r.2)) = L ++ [(m1, (rg M j).2)]) := Lib.hid (by
        rw [List.take_add_one, List.getElem?_eq_getElem (by omega : j < M.length), List.map_append, ← hL]
        unfold rg
        rw [List.getD_eq_getElem?_getD, List.getElem?_eq_getElem (by omega : j < M.length)]
        rfl)
      clear hr hbl ho hc c0' hLc hLm hLv hLl hL
      go_wp2_with (first | ((with_reducible show wpList _ _ _ (⟨some 44, .load _ _, _, _, _, _⟩ :: _) _ _); refine wpList_load_Mid (cs := rcell (rg M j)) rfl rfl rfl HR.out Try.underlying41 rfl sizeR ?_) | ((with_reducible show wpList _ _ _ (⟨some 10, .alloc _, _, _, _, _⟩ :: _) _ _); refine wpList_alloc_Row rfl rfl (rcell (0, 0)) zeroR ?_; intro w5 hr5 hc5 hs5; have HR5 := Lib.hid hr5; have HC5 := Lib.hid hc5; have hn5 := (hc5.cell 0 (World.block_lt_of_cell? _ _ hn3) (fun h => h)).trans hn3; clear hr5 hc5 hs5 hn3) | ((with_reducible show wpList _ _ _ (⟨none, .store _ (.tmp 10) _, _, _, _, _⟩ :: _) _ _); refine wpList_store_Row (xs := rcell (rg M j)) rfl rfl rfl HR5.out rfl rfl sizeR rfl ?_; intro w6 hr6 hcs6 hs6; have x1 := hr6.cell 1; have HC6 := Lib.hid (hcs6 none_ wr HC5.out (fun h => absurd h (Nat.lt_irrefl _))); have hn6 := ((hcs6 (· = wr.heap.size) w5 (Chg.refl _ _) (fun _ => rfl)).cell 0 (World.block_lt_of_cell? _ _ hn5) (fun (e : w.heap.size = wr.heap.size) => by have := HNL.out; omega)).trans hn5; simp only [rcell, List.getElem?_cons_zero, List.getElem?_cons_succ] at x1; have hkw := HKW.out; clear hr6 hcs6 hs6 hn5) | ((with_reducible show wpList _ _ _ (⟨some 51, _, _, _, _, _⟩ :: _) _ _); clear x1 hn6 hkw; refine wpList_new_row (v := fun g => .slice (some ⟨g, 0, none⟩) 1 1) (e := 41) (cs := rcell (m1, (rg M j).2)) rfl (fun w_ => by go_simp; rfl) ?_; intro w7 hr7 hc7 hs7; have HC7 := Lib.hid (HC6.out.trans hc7); have HL7 := Lib.hid (HL.out.chg HC7.out (fun _ _ h => h)); have HV7 : Hid (View w7 (fun _ => True) (some ⟨w6.heap.size, 0, none⟩) (1 * 2) (rcells [(m1, (rg M j).2)])) := Lib.hid (View.row (cs := rcell (m1, (rg M j).2)) hr7 (n := 2) (Nat.le_refl _) trivial); clear hr7 hc7 hs7) | ((with_reducible show wpList _ _ _ (⟨some 52, _, _, _, _, _⟩ :: _) _ _); refine wpList_append_R rfl _ _ rfl (base := w3.heap.size) (L := L) (M := [(m1, (rg M j).2)]) (A := some ⟨w6.heap.size, 0, none⟩) (m := 1) (c := 1) (w0 := w3) rfl HL7.out rfl HV7.out (by have := HLL.out; have := HDL.out; omega) (HC4.out.trans HC7.out).size (HC4.out.trans HC7.out) (Nat.le_refl _) ?_; intro v8 w8 ho8 hc8; have HL8 := Lib.hid ho8; have HC8 := Lib.hid hc8; clear ho8 hc8))
      go_roundw
      case rel => exact ⟨j + 1, by go_num, by omega, by rw [HNX.out]; exact HL8.out, HC8.out⟩
      case measure => simp [intOf]; omega
    · have hje : j = d := by omega
      have HLM : Hid (L = M.map (fun r => (m1, r.2))) := Lib.hid (by rw [hL, hje, ← hMl, List.take_length])
      have HLV := Lib.hid hLv
      have HLL : Hid (L.length ≤ 1000) := Lib.hid (by have := HDL.out; omega)
      have d0 : ¬ (j : Int) < (d : Int) := by omega
      have hne : w.heap.size ≠ g := by have := hgw.1; have := hgw.2; omega
      clear ho hc hLc hLm hLv hLl hL hlt hj hje
      go_wp2_with (first | (go_at_call 24; refine (HRT.out _ L AL capL (HC3.out.trans HC4.out) HLL.out HLV.out).mono ?_; rintro e w9 ⟨rfl, hs, hc⟩; have HS9 := Lib.hid hs; have HC9 := Lib.hid hc; have hn9 := (hc.cell 0 (World.block_lt_of_cell? _ _ hn3) (fun e => hne e)).trans hn3; have hkw := HKW.out; obtain ⟨A9, cap9, hr9, _⟩ := hs; have HY9 := Lib.hid (HS9.out.young (y' := m1)); have y9 := hr9.cell 1; have f9 := hr9.frozen 1; simp only [List.getElem?_cons_zero, List.getElem?_cons_succ] at y9; clear hc hr9))
      have hfin := HFW.out _ (HLM.out ▸ HY9.out.1)
      have hchg : Chg (· = g) w (w9.setCell ⟨g, 1, none⟩ (.int .u64 (m1 : Int))) := ((show Chg (· = g) w wr from (HC3.out.trans HC4.out).mono (fun _ _ h => h.elim)).trans HC9.out).trans HY9.out.2
      have HFI := Lib.hid hfin
      have HCH := Lib.hid hchg
      clear hfin hchg y9 f9 hn9 hkw
      go_ret
      exact ⟨ret_i64 (by rw [HD.out]; omega), HFI.out, HCH.out⟩
end Go.Proofs.Ytlakhfbhbebojaa
