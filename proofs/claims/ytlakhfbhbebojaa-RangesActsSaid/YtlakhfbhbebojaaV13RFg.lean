/- Layer 13 (ranges): the document's set: Forget. -/
import Derived.Test.YtlakhfbhbebojaaV13RRng
namespace Go.Proofs.Ytlakhfbhbebojaa
open Go.RowKit Go.Shelf Go.Sort

/-- Numbers in a row of the call's own. -/
def OwnedU (w : World) (base : Nat) (v : Value) (l : List Nat) : Prop := w.ownsRow base 26 1 v l.length (u64s l)
theorem OwnedU.chg {w w' : World} {S : Nat → Prop} {base : Nat} {v : Value} {l : List Nat} (h : OwnedU w base v l) (hc : Chg S w w') (hs : ∀ b, base ≤ b → ¬ S b) : OwnedU w' base v l := by
  refine ⟨h.1, ?_⟩
  rcases h.2 with h2 | ⟨g, cap, cur, h1, h2, h3, h4⟩
  · exact Or.inl h2
  · refine Or.inr ⟨g, cap, cur, h1, h2, ?_, h4⟩
    have hlt : g < w.heap.size := by
      rcases Nat.lt_or_ge g w.heap.size with hlt | hge
      · exact hlt
      · rw [Array.getElem?_eq_none hge] at h3; cases h3
    exact (hc.block g hlt (hs g h2)).trans h3
theorem OwnedU.nil (w : World) (base : Nat) : OwnedU w base (.slice none 0 0) [] := World.ownsRow_nil _ _ _ _
theorem u64s_len (l : List Nat) : (u64s l).length = l.length := List.length_map _
theorem u64s_one (l : List Nat) : ∀ u ∈ u64s l, u.oneCell' = true := by
  intro u hu
  obtain ⟨x, _, rfl⟩ := List.mem_map.1 hu
  rfl
theorem OwnedU.view {w : World} {base : Nat} {v : Value} {l : List Nat} (h : OwnedU w base v l) : ∃ A cap, v = .slice A l.length cap ∧ l.length ≤ cap ∧ cap ≤ maxLen ∧ View w (fun b => base ≤ b) A l.length (u64s l) := by
  rcases h.2 with ⟨rfl, hn⟩ | ⟨g, cap, cur, rfl, hb, hg, hn, hc, hs, ht⟩
  · obtain rfl : l = [] := List.length_eq_zero_iff.1 hn
    exact ⟨none, 0, rfl, Nat.le_refl _, Nat.zero_le _, View.none_ _ _ _⟩
  · refine ⟨some ⟨g, 0, none⟩, cap, rfl, hn, hc, ?_⟩
    have hR : Row w g 26 cur.toList := by unfold Row; rw [hg]
    have hcl : cur.toList.length = cap * 1 := by rw [Array.length_toList]; exact hs
    have := View.row (T := fun b => base ≤ b) (n := l.length) hR (by rw [hcl, Nat.mul_one]; exact hn) hb
    rw [Nat.mul_one] at ht
    rwa [ht] at this
theorem infoU : (Try.prog.info? 26).map (fun i => (i.zero, i.size, i.bytes)) = some (some (.int .u64 0), 1, 8) := by kernel_rfl
theorem infoU_parts : ∃ j, Try.prog.info? 26 = some j ∧ j.zero = some (.int .u64 0) ∧ j.size = 1 ∧ j.bytes = 8 := by
  have h := infoU
  cases hq : Try.prog.info? 26 with
  | none => rw [hq] at h; cases h
  | some j =>
    rw [hq] at h
    simp only [Option.map_some, Option.some.injEq, Prod.mk.injEq] at h
    exact ⟨j, rfl, h.1, h.2.1, h.2.2⟩
section
variable {o : Oper} {a : Act} {w w0 : World} {K : Act → World → Prop} {Q : Exit → Act → World → Prop}
theorem wp_append_U (s x : Operand) (ho : o.op = .call { callee := .builtin .append, args := #[s, x], argTypes := #[33, 33] }) {base : Nat} {v : Value} {L M : List Nat} {T : Nat → Prop} {A : Option Addr} {m c : Nat}
    (hs : a.eval s = v) (hown : OwnedU w base v L) (hx : a.eval x = .slice A m c) (hv : View w T A m (u64s M)) (hlen : L.length + m ≤ 1000000) (hbase : base ≤ w.heap.size) (hc0 : Chg none_ w0 w) (hb0 : w0.heap.size ≤ base)
    (k : ∀ v' w', OwnedU w' base v' (L ++ M) → Chg none_ w0 w' → K (a.put o.dst v') w') : Oper.wp Try.prog o a w K Q := by
  obtain ⟨i0, hi, hz0, hz1, hz2⟩ := infoU_parts
  have hm : M.length = m := by have := hv.1; rw [u64s_len] at this; exact this
  obtain ⟨v', w', hr, h2, h3⟩ := run_append_viewN (P := Try.prog) w 33 o.type 26 i0 _ 1 8 Try.underlying33 hi hz0 hz1 hz2 rfl (by decide) base v L.length (u64s L) hown T A m c (u64s M) (by rw [Nat.mul_one]; exact hv) (u64s_one _) (by unfold maxLen; omega) (by omega) hbase
  unfold Oper.wp execOp
  simp only [ho, resolve, invoke, builtin, Sem.run_bind, Sem.run_pure, Result.andThen_ok, List.map_toArray, List.map_cons, List.map_nil, hs, hx, hr]
  refine k v' w' ?_ (hc0.appendN hb0 hown h3)
  unfold OwnedU
  rw [List.length_append, hm, show u64s (L ++ M) = u64s L ++ u64s M from List.map_append]
  exact h2
theorem wpList_append_U {ops : Array Oper} {rest : List Oper} (hgd : o.guard = none) (s x : Operand) (ho : o.op = .call { callee := .builtin .append, args := #[s, x], argTypes := #[33, 33] }) {base : Nat} {v : Value} {L M : List Nat} {T : Nat → Prop} {A : Option Addr} {m c : Nat}
    (hs : a.eval s = v) (hown : OwnedU w base v L) (hx : a.eval x = .slice A m c) (hv : View w T A m (u64s M)) (hlen : L.length + m ≤ 1000000) (hbase : base ≤ w.heap.size) (hc0 : Chg none_ w0 w) (hb0 : w0.heap.size ≤ base)
    (k : ∀ v' w', OwnedU w' base v' (L ++ M) → Chg none_ w0 w' → wpList Try.prog ops Q rest (a.put o.dst v') w') : wpList Try.prog ops Q (o :: rest) a w :=
  wpList_plain hgd fun _ hK => wp_append_U s x ho hs hown hx hv hlen hbase hc0 hb0 (fun v' w' h1 h2 => hK _ _ (k v' w' h1 h2))
end
theorem RAt.store {w w2 : World} {B g y : Nat} {A0 A2 : Option Addr} {n0 cap0 cap2 : Nat} {L : List Nat} (hr : Row w g 35 [.slice A0 n0 cap0, .int .u64 (y : Int)]) (hgB : g < B) (hB : B ≤ w.heap.size) (hc : Chg none_ w w2) (h1 : L.length ≤ cap2) (h2 : cap2 ≤ maxLen) (hv : View w2 (fun b => B ≤ b) A2 L.length (u64s L)) :
    RAt (w2.setCell ⟨g, 0, none⟩ (.slice A2 L.length cap2)) B g L y ∧ Chg (· = g) w (w2.setCell ⟨g, 0, none⟩ (.slice A2 L.length cap2)) := by
  refine ⟨⟨A2, cap2, (hr.chg hc (fun h => h)).set 0 _, h1, h2, hv.setCell _ (by show ¬ B ≤ g; omega) _, hgB, ?_⟩, (show Chg (· = g) w w2 from hc.mono (fun _ _ h => h.elim)).setCell (p := ⟨g, 0, none⟩) (fun _ => rfl) _⟩
  have := hc.size
  simpa [World.setCell] using Nat.le_trans hB this
theorem RAt.young {w : World} {B g y y' : Nat} {L : List Nat} (h : RAt w B g L y) : RAt (w.setCell ⟨g, 1, none⟩ (.int .u64 (y' : Int))) B g L y' ∧ Chg (· = g) w (w.setCell ⟨g, 1, none⟩ (.int .u64 (y' : Int))) := by
  obtain ⟨A, cap, k1, k2, k3, k4, k5, k6⟩ := h
  refine ⟨⟨A, cap, k1.set 1 _, k2, k3, k4.setCell _ (by show ¬ B ≤ g; omega) _, k5, by simpa [World.setCell] using k6⟩, (Chg.refl (· = g) w).setCell (p := ⟨g, 1, none⟩) (fun _ => rfl) _⟩
def leftU (m : Nat) (L : List Nat) : List Nat := L.filter (fun x => decide (m < x))
theorem leftU_next {m k : Nat} {L : List Nat} (hk : k < L.length) : leftU m (L.take (k + 1)) = if m < nm L k then leftU m (L.take k) ++ [nm L k] else leftU m (L.take k) := by
  unfold leftU nm
  rw [List.take_add_one, List.getElem?_eq_getElem hk, List.getD_eq_getElem?_getD, List.getElem?_eq_getElem hk, List.filter_append]
  by_cases h : m < L[k]
  · rw [if_pos (by simpa using h)]
    simp [h]
  · rw [if_neg (by simpa using h)]
    simp [h]
theorem countP_next {q : Nat × Nat → Bool} {k : Nat} {l : List (Nat × Nat)} (hk : k < l.length) : (l.take (k + 1)).countP q = (l.take k).countP q + if q (rg l k) then 1 else 0 := by
  unfold rg
  rw [List.take_add_one, List.getElem?_eq_getElem hk, List.getD_eq_getElem?_getD, List.getElem?_eq_getElem hk, List.countP_append]
  simp [List.countP_cons]

set_option maxRecDepth 100000 in
set_option maxHeartbeats 4000000 in
theorem RForget_le (g B y n : Nat) (L : List Nat) (w : World) (h : RAt w B g L y) (hl : L.length ≤ 1000) (hx : ∀ x ∈ L, x ≤ MX) (hn : n ≤ MX) :
    Calls Try.prog 16 #[.pointer (some ⟨g, 0, none⟩), .int .u64 (n : Int)] w fun e w' => e = .returned (.int .i64 (((rangesR L).countP (hiLe (n)) : Nat) : Int)) ∧ RAt w' B g (leftU (n) L) (max y (n + 1)) ∧ Chg (· = g) w w' := by
  have d1 : ¬ (4611686018427387903 : Int) < (n : Int) := by unfold MX at hn; omega
  have d2 : decide ((4611686018427387903 : Int) < (n : Int)) = false := by simpa using d1
  have HRR := Lib.hid (RRanges_any g B y L w h (by omega) hx)
  have HGG := Lib.hid h.lt
  obtain ⟨A, cap, hr, _, _, hv, _⟩ := h
  have HRW := Lib.hid hr
  have HC0 := Lib.hid (show ∀ w', Chg none_ w w' → w'.cell? ⟨g, 0, none⟩ = some (.slice A L.length cap) from fun w' hc => (hr.chg hc (fun h => h)).cell 0)
  have HV := Lib.hid (fun w' (hc : Chg none_ w w') => hv.chg hc (fun _ _ h => h))
  have HRL : Hid ((rangesR L).length ≤ 1000) := Lib.hid (by
    have := fold_len L.reverse []
    rw [List.length_reverse] at this
    simp only [List.length_nil] at this
    unfold rangesR
    omega)
  clear hr hv
  generalize rangesR L = R at *
  go_enter Try.func16, Try.ntmps16
  go_wp2_with (go_at_call 20; refine HRR.out.mono ?_; rintro e w1 ⟨v, rfl, ho, hc⟩; have HO1 := Lib.hid ho; have HC1 := Lib.hid hc; obtain ⟨AR, cR, rfl, _, _, hvr⟩ := ho.view; have HVR := Lib.hid hvr; clear ho hc hvr)
  clear HRR
  go_loopw [5, 7] (fun c i wr => ∃ (j k : Nat), c = .int .i64 (k : Int) ∧ i = .int .i64 (j : Int) ∧ j ≤ R.length ∧ k = (R.take j).countP (hiLe (n)) ∧ w1 = wr) (fun _ i _ => R.length - (intOf i).toNat)
  case atStart => exact ⟨0, 0, rfl, rfl, Nat.zero_le _, rfl, rfl⟩
  case round =>
    obtain ⟨j, k, rfl, rfl, hj, hkc, rfl⟩ := hrel
    by_cases hlt : j < R.length
    · have k1 : (j : Int) < (R.length : Int) := by omega
      have k0 : 0 ≤ (j : Int) := by omega
      have hkb : k ≤ 1000 := by
        have h1 := @List.countP_le_length _ (hiLe (n)) (R.take j)
        rw [List.length_take] at h1
        have := HRL.out
        omega
      have kb : (k : Int) ≤ 1000 := by omega
      have jb : (j : Int) ≤ 1000 := by have := HRL.out; omega
      obtain ⟨b, o, rfl, _, _, hk⟩ := HVR.out.rAt hlt
      have a1 := hk j hlt 1 _ rfl
      have HN := Lib.hid (countP_next (q := hiLe (n)) hlt)
      by_cases hle : (rg R j).2 ≤ n
      · have HK : Hid (k + 1 = (R.take (j + 1)).countP (hiLe (n))) := Lib.hid (by rw [HN.out, ← hkc, if_pos (by simpa [hiLe] using hle)])
        have q1 : (((rg R j).2 : Nat) : Int) ≤ (n : Int) := by unfold MX at hn; omega
        have q2 : decide ((((rg R j).2 : Nat) : Int) ≤ (n : Int)) = true := by simpa using q1
        clear hk hkc hle HN
        generalize rg R j = r at *
        go_wp2
        go_roundw
        case rel => exact ⟨j + 1, k + 1, by go_num, by go_num, by omega, HK.out, trivial⟩
        case measure => simp [intOf] <;> omega
      · have HK : Hid (k = (R.take (j + 1)).countP (hiLe (n))) := Lib.hid (by rw [HN.out, ← hkc, if_neg (by simpa [hiLe] using hle)]; rfl)
        have q1 : ¬ (((rg R j).2 : Nat) : Int) ≤ (n : Int) := by unfold MX at hn; omega
        have q2 : decide ((((rg R j).2 : Nat) : Int) ≤ (n : Int)) = false := by simpa using q1
        clear hk hkc hle HN
        generalize rg R j = r at *
        go_wp2
        go_roundw
        case rel => exact ⟨j + 1, k, rfl, by go_num, by omega, HK.out, trivial⟩
        case measure => simp [intOf] <;> omega
    · have d0 : ¬ (j : Int) < (R.length : Int) := by omega
      have HK : Hid (k = R.countP (hiLe (n))) := Lib.hid (by rw [hkc, show j = R.length by omega, List.take_length])
      clear hkc hj hlt
      go_wp2
      go_loopw [8, 9] (fun v i wr => ∃ (j : Nat), i = .int .i64 (j : Int) ∧ j ≤ L.length ∧ OwnedU wr w1.heap.size v (leftU (n) (L.take j)) ∧ Chg none_ w1 wr) (fun _ i _ => L.length - (intOf i).toNat)
      case atStart => exact ⟨0, rfl, Nat.zero_le _, by rw [List.take_zero]; exact OwnedU.nil _ _, Chg.refl _ _⟩
      case round =>
        obtain ⟨i, rfl, hi, ho, hc⟩ := hrel
        have HC2 := Lib.hid hc
        have HO2 := Lib.hid ho
        have c0 := HC0.out _ (HC1.out.trans hc)
        by_cases hlt : i < L.length
        · have i1 : (i : Int) < (L.length : Int) := by omega
          have i0 : 0 ≤ (i : Int) := by omega
          obtain ⟨b, o, rfl, _, hk⟩ := (HV.out _ (HC1.out.trans hc)).u64At (by omega)
          have a1 := hk i hlt
          have HN := Lib.hid (leftU_next (m := n) hlt)
          have HLB : Hid ((leftU (n) (L.take i)).length ≤ 1000) := Lib.hid (by
            have h1 : (leftU (n) (L.take i)).length ≤ (L.take i).length := List.length_filter_le _ _
            rw [List.length_take] at h1
            omega)
          by_cases hgt : n < nm L i
          · have q1 : (n : Int) < (nm L i : Int) := by unfold MX at hn; omega
            have q2 : decide ((n : Int) < (nm L i : Int)) = true := by simpa using q1
            have HE := Lib.hid (HN.out.trans (if_pos hgt))
            obtain ⟨AL, cL, rfl, _, _, _⟩ := ho.view
            generalize leftU (n) (L.take i) = M at *
            clear hk hc ho HN hgt
            generalize nm L i = x at *
            go_wp2_with (first | ((with_reducible show wpList _ _ _ (⟨some 55, _, _, _, _, _⟩ :: _) _ _); clear a1 c0; refine wpList_new_row (v := fun g => .slice (some ⟨g, 0, none⟩) 1 1) (e := 26) (cs := u64s [x]) rfl (fun w_ => by go_simp; rfl) ?_; intro w7 hr7 hc7 hs7; have HC7 := Lib.hid (HC2.out.trans hc7); have HL7 := Lib.hid (HO2.out.chg hc7 (fun _ _ h => h)); have HV7 : Hid (View w7 (fun _ => True) (some ⟨wr.heap.size, 0, none⟩) 1 (u64s [x])) := Lib.hid (View.row (cs := u64s [x]) hr7 (n := 1) (Nat.le_refl _) trivial); clear hr7 hc7 hs7) | ((with_reducible show wpList _ _ _ (⟨some 56, _, _, _, _, _⟩ :: _) _ _); refine wpList_append_U rfl _ _ rfl (base := w1.heap.size) (L := M) (M := [x]) (A := some ⟨wr.heap.size, 0, none⟩) (m := 1) (c := 1) (w0 := w1) rfl HL7.out rfl HV7.out (by have := HLB.out; omega) HC7.out.size HC7.out (Nat.le_refl _) ?_; intro v8 w8 ho8 hc8; have HL8 := Lib.hid ho8; have HC8 := Lib.hid hc8; clear ho8 hc8))
            go_roundw
            case rel => exact ⟨i + 1, by go_num, by omega, by rw [HE.out]; exact HL8.out, HC8.out⟩
            case measure => simp [intOf] <;> omega
          · have q1 : ¬ (n : Int) < (nm L i : Int) := by unfold MX at hn; omega
            have q2 : decide ((n : Int) < (nm L i : Int)) = false := by simpa using q1
            have HE := Lib.hid (HN.out.trans (if_neg hgt))
            clear hk hc ho HN hgt
            generalize nm L i = x at *
            go_wp2
            go_roundw
            case rel => exact ⟨i + 1, by go_num, by omega, by rw [HE.out]; exact HO2.out, HC2.out⟩
            case measure => simp [intOf] <;> omega
        · have d1 : ¬ (i : Int) < (L.length : Int) := by omega
          have hie : L.take i = L := by rw [show i = L.length by omega, List.take_length]
          rw [hie] at ho HO2
          obtain ⟨A2, cap2, rfl, e1, e2, e3⟩ := ho.view
          have HST := Lib.hid (RAt.store (B := B) HRW.out HGG.out.1 HGG.out.2 (HC1.out.trans hc) e1 e2 (e3.mono (fun b _ hb => Nat.le_trans (Nat.le_trans HGG.out.2 HC1.out.size) hb)))
          have y0 := (HRW.out.chg (HC1.out.trans hc) (fun h => h)).cell 1
          have y1 := (HRW.out.chg (HC1.out.trans hc) (fun h => h)).frozen 1
          have y2 := (HRW.out.chg (HC1.out.trans hc) (fun h => h)).frozen 0
          simp only [List.getElem?_cons_zero, List.getElem?_cons_succ] at y0
          obtain ⟨m1, hm1⟩ : ∃ m1, m1 = n + 1 := ⟨_, rfl⟩
          have kw : IntKind.u64.wrap ((n : Int) + 1) = (m1 : Int) := by unfold MX at hn; rw [wrap_small (by omega) (by omega)]; omega
          have km : (n : Int) + 1 = (m1 : Int) := by unfold MX at hn; omega
          clear e1 e2 e3 ho hc hie hlt hi
          generalize hl2 : leftU (n) L = L2 at *
          have HL2 := Lib.hid hl2
          clear hl2
          generalize L2.length = n2 at *
          by_cases hy : y ≤ n
          · have g1 : (y : Int) ≤ (n : Int) := by unfold MX at hn; omega
            have g2 : decide ((y : Int) ≤ (n : Int)) = true := by simpa using g1
            have HMX : Hid (max y (n + 1) = m1) := Lib.hid (by omega)
            have HYG := Lib.hid (HST.out.1.young (y' := m1))
            clear hy hm1
            go_wp2
            go_ret
            exact ⟨ret_i64 (by rw [HK.out]), by rw [HMX.out, HL2.out]; exact HYG.out.1, HST.out.2.trans HYG.out.2⟩
          · have g1 : ¬ (y : Int) ≤ (n : Int) := by unfold MX at hn; omega
            have g2 : decide ((y : Int) ≤ (n : Int)) = false := by simpa using g1
            have HMX : Hid (max y (n + 1) = y) := Lib.hid (by omega)
            clear hy hm1
            go_wp2
            go_ret
            exact ⟨ret_i64 (by rw [HK.out]), by rw [HMX.out, HL2.out]; exact HST.out.1, HST.out.2⟩

set_option maxRecDepth 100000 in
set_option maxHeartbeats 4000000 in
theorem RForget_gt (g B y n : Nat) (L : List Nat) (w : World) (h : RAt w B g L y) (hl : L.length ≤ 1000) (hx : ∀ x ∈ L, x ≤ MX) (hn : MX < n) :
    Calls Try.prog 16 #[.pointer (some ⟨g, 0, none⟩), .int .u64 (n : Int)] w fun e w' => e = .returned (.int .i64 (((rangesR L).countP (hiLe (MX)) : Nat) : Int)) ∧ RAt w' B g (leftU (MX) L) (max y (MX + 1)) ∧ Chg (· = g) w w' := by
  have d1 : (4611686018427387903 : Int) < (n : Int) := by unfold MX at hn; omega
  have d2 : decide ((4611686018427387903 : Int) < (n : Int)) = true := by simpa using d1
  have HRR := Lib.hid (RRanges_any g B y L w h (by omega) hx)
  have HGG := Lib.hid h.lt
  obtain ⟨A, cap, hr, _, _, hv, _⟩ := h
  have HRW := Lib.hid hr
  have HC0 := Lib.hid (show ∀ w', Chg none_ w w' → w'.cell? ⟨g, 0, none⟩ = some (.slice A L.length cap) from fun w' hc => (hr.chg hc (fun h => h)).cell 0)
  have HV := Lib.hid (fun w' (hc : Chg none_ w w') => hv.chg hc (fun _ _ h => h))
  have HRL : Hid ((rangesR L).length ≤ 1000) := Lib.hid (by
    have := fold_len L.reverse []
    rw [List.length_reverse] at this
    simp only [List.length_nil] at this
    unfold rangesR
    omega)
  clear hr hv
  generalize rangesR L = R at *
  go_enter Try.func16, Try.ntmps16
  go_wp2_with (go_at_call 20; refine HRR.out.mono ?_; rintro e w1 ⟨v, rfl, ho, hc⟩; have HO1 := Lib.hid ho; have HC1 := Lib.hid hc; obtain ⟨AR, cR, rfl, _, _, hvr⟩ := ho.view; have HVR := Lib.hid hvr; clear ho hc hvr)
  clear HRR
  go_loopw [5, 7] (fun c i wr => ∃ (j k : Nat), c = .int .i64 (k : Int) ∧ i = .int .i64 (j : Int) ∧ j ≤ R.length ∧ k = (R.take j).countP (hiLe (MX)) ∧ w1 = wr) (fun _ i _ => R.length - (intOf i).toNat)
  case atStart => exact ⟨0, 0, rfl, rfl, Nat.zero_le _, rfl, rfl⟩
  case round =>
    obtain ⟨j, k, rfl, rfl, hj, hkc, rfl⟩ := hrel
    by_cases hlt : j < R.length
    · have k1 : (j : Int) < (R.length : Int) := by omega
      have k0 : 0 ≤ (j : Int) := by omega
      have hkb : k ≤ 1000 := by
        have h1 := @List.countP_le_length _ (hiLe (MX)) (R.take j)
        rw [List.length_take] at h1
        have := HRL.out
        omega
      have kb : (k : Int) ≤ 1000 := by omega
      have jb : (j : Int) ≤ 1000 := by have := HRL.out; omega
      obtain ⟨b, o, rfl, _, _, hk⟩ := HVR.out.rAt hlt
      have a1 := hk j hlt 1 _ rfl
      have HN := Lib.hid (countP_next (q := hiLe (MX)) hlt)
      by_cases hle : (rg R j).2 ≤ MX
      · have HK : Hid (k + 1 = (R.take (j + 1)).countP (hiLe (MX))) := Lib.hid (by rw [HN.out, ← hkc, if_pos (by simpa [hiLe] using hle)])
        have q1 : (((rg R j).2 : Nat) : Int) ≤ 4611686018427387903 := by unfold MX at *; omega
        have q2 : decide ((((rg R j).2 : Nat) : Int) ≤ 4611686018427387903) = true := by simpa using q1
        clear hk hkc hle HN
        generalize rg R j = r at *
        go_wp2
        go_roundw
        case rel => exact ⟨j + 1, k + 1, by go_num, by go_num, by omega, HK.out, trivial⟩
        case measure => simp [intOf] <;> omega
      · have HK : Hid (k = (R.take (j + 1)).countP (hiLe (MX))) := Lib.hid (by rw [HN.out, ← hkc, if_neg (by simpa [hiLe] using hle)]; rfl)
        have q1 : ¬ (((rg R j).2 : Nat) : Int) ≤ 4611686018427387903 := by unfold MX at *; omega
        have q2 : decide ((((rg R j).2 : Nat) : Int) ≤ 4611686018427387903) = false := by simpa using q1
        clear hk hkc hle HN
        generalize rg R j = r at *
        go_wp2
        go_roundw
        case rel => exact ⟨j + 1, k, rfl, by go_num, by omega, HK.out, trivial⟩
        case measure => simp [intOf] <;> omega
    · have d0 : ¬ (j : Int) < (R.length : Int) := by omega
      have HK : Hid (k = R.countP (hiLe (MX))) := Lib.hid (by rw [hkc, show j = R.length by omega, List.take_length])
      clear hkc hj hlt
      go_wp2
      go_loopw [8, 9] (fun v i wr => ∃ (j : Nat), i = .int .i64 (j : Int) ∧ j ≤ L.length ∧ OwnedU wr w1.heap.size v (leftU (MX) (L.take j)) ∧ Chg none_ w1 wr) (fun _ i _ => L.length - (intOf i).toNat)
      case atStart => exact ⟨0, rfl, Nat.zero_le _, by rw [List.take_zero]; exact OwnedU.nil _ _, Chg.refl _ _⟩
      case round =>
        obtain ⟨i, rfl, hi, ho, hc⟩ := hrel
        have HC2 := Lib.hid hc
        have HO2 := Lib.hid ho
        have c0 := HC0.out _ (HC1.out.trans hc)
        by_cases hlt : i < L.length
        · have i1 : (i : Int) < (L.length : Int) := by omega
          have i0 : 0 ≤ (i : Int) := by omega
          obtain ⟨b, o, rfl, _, hk⟩ := (HV.out _ (HC1.out.trans hc)).u64At (by omega)
          have a1 := hk i hlt
          have HN := Lib.hid (leftU_next (m := MX) hlt)
          have HLB : Hid ((leftU (MX) (L.take i)).length ≤ 1000) := Lib.hid (by
            have h1 : (leftU (MX) (L.take i)).length ≤ (L.take i).length := List.length_filter_le _ _
            rw [List.length_take] at h1
            omega)
          by_cases hgt : MX < nm L i
          · have q1 : 4611686018427387903 < (nm L i : Int) := by unfold MX at *; omega
            have q2 : decide (4611686018427387903 < (nm L i : Int)) = true := by simpa using q1
            have HE := Lib.hid (HN.out.trans (if_pos hgt))
            obtain ⟨AL, cL, rfl, _, _, _⟩ := ho.view
            generalize leftU (MX) (L.take i) = M at *
            clear hk hc ho HN hgt
            generalize nm L i = x at *
            go_wp2_with (first | ((with_reducible show wpList _ _ _ (⟨some 55, _, _, _, _, _⟩ :: _) _ _); clear a1 c0; refine wpList_new_row (v := fun g => .slice (some ⟨g, 0, none⟩) 1 1) (e := 26) (cs := u64s [x]) rfl (fun w_ => by go_simp; rfl) ?_; intro w7 hr7 hc7 hs7; have HC7 := Lib.hid (HC2.out.trans hc7); have HL7 := Lib.hid (HO2.out.chg hc7 (fun _ _ h => h)); have HV7 : Hid (View w7 (fun _ => True) (some ⟨wr.heap.size, 0, none⟩) 1 (u64s [x])) := Lib.hid (View.row (cs := u64s [x]) hr7 (n := 1) (Nat.le_refl _) trivial); clear hr7 hc7 hs7) | ((with_reducible show wpList _ _ _ (⟨some 56, _, _, _, _, _⟩ :: _) _ _); refine wpList_append_U rfl _ _ rfl (base := w1.heap.size) (L := M) (M := [x]) (A := some ⟨wr.heap.size, 0, none⟩) (m := 1) (c := 1) (w0 := w1) rfl HL7.out rfl HV7.out (by have := HLB.out; omega) HC7.out.size HC7.out (Nat.le_refl _) ?_; intro v8 w8 ho8 hc8; have HL8 := Lib.hid ho8; have HC8 := Lib.hid hc8; clear ho8 hc8))
            go_roundw
            case rel => exact ⟨i + 1, by go_num, by omega, by rw [HE.out]; exact HL8.out, HC8.out⟩
            case measure => simp [intOf] <;> omega
          · have q1 : ¬ 4611686018427387903 < (nm L i : Int) := by unfold MX at *; omega
            have q2 : decide (4611686018427387903 < (nm L i : Int)) = false := by simpa using q1
            have HE := Lib.hid (HN.out.trans (if_neg hgt))
            clear hk hc ho HN hgt
            generalize nm L i = x at *
            go_wp2
            go_roundw
            case rel => exact ⟨i + 1, by go_num, by omega, by rw [HE.out]; exact HO2.out, HC2.out⟩
            case measure => simp [intOf] <;> omega
        · have d1 : ¬ (i : Int) < (L.length : Int) := by omega
          have hie : L.take i = L := by rw [show i = L.length by omega, List.take_length]
          rw [hie] at ho HO2
          obtain ⟨A2, cap2, rfl, e1, e2, e3⟩ := ho.view
          have HST := Lib.hid (RAt.store (B := B) HRW.out HGG.out.1 HGG.out.2 (HC1.out.trans hc) e1 e2 (e3.mono (fun b _ hb => Nat.le_trans (Nat.le_trans HGG.out.2 HC1.out.size) hb)))
          have y0 := (HRW.out.chg (HC1.out.trans hc) (fun h => h)).cell 1
          have y1 := (HRW.out.chg (HC1.out.trans hc) (fun h => h)).frozen 1
          have y2 := (HRW.out.chg (HC1.out.trans hc) (fun h => h)).frozen 0
          simp only [List.getElem?_cons_zero, List.getElem?_cons_succ] at y0
          obtain ⟨m1, hm1⟩ : ∃ m1, m1 = MX + 1 := ⟨_, rfl⟩
          have kw : IntKind.u64.wrap (4611686018427387903 + 1) = (m1 : Int) := by unfold MX at *; rw [wrap_small (by omega) (by omega)]; omega
          have km : 4611686018427387903 + 1 = (m1 : Int) := by unfold MX at *; omega
          clear e1 e2 e3 ho hc hie hlt hi
          generalize hl2 : leftU (MX) L = L2 at *
          have HL2 := Lib.hid hl2
          clear hl2
          generalize L2.length = n2 at *
          by_cases hy : y ≤ MX
          · have g1 : (y : Int) ≤ 4611686018427387903 := by unfold MX at *; omega
            have g2 : decide ((y : Int) ≤ 4611686018427387903) = true := by simpa using g1
            have HMX : Hid (max y (MX + 1) = m1) := Lib.hid (by omega)
            have HYG := Lib.hid (HST.out.1.young (y' := m1))
            clear hy hm1
            go_wp2
            go_ret
            exact ⟨ret_i64 (by rw [HK.out]), by rw [HMX.out, HL2.out]; exact HYG.out.1, HST.out.2.trans HYG.out.2⟩
          · have g1 : ¬ (y : Int) ≤ 4611686018427387903 := by unfold MX at *; omega
            have g2 : decide ((y : Int) ≤ 4611686018427387903) = false := by simpa using g1
            have HMX : Hid (max y (MX + 1) = y) := Lib.hid (by omega)
            clear hy hm1
            go_wp2
            go_ret
            exact ⟨ret_i64 (by rw [HK.out]), by rw [HMX.out, HL2.out]; exact HST.out.1, HST.out.2⟩

end Go.Proofs.Ytlakhfbhbebojaa
