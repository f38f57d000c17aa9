/- Layer 14 (rtt): the document's answer: all answers gone through anew. -/
import Derived.Test.YtipfpocnapholaaV14Est2
namespace Go.Proofs.Ytipfpocnapholaa
open Go.RowKit

/-- An answer's cells. -/
def ancell (x : Nat × Nat) : List Value := [.int .u64 (x.1 : Int), .int .u64 (x.2 : Int)]
def ancells (l : List (Nat × Nat)) : List Value := l.flatMap ancell
theorem ancells_len (l : List (Nat × Nat)) : (ancells l).length = l.length * 2 := by
  induction l with
  | nil => rfl
  | cons a l ih => simp only [ancells, List.flatMap_cons, List.length_append, List.length_cons, ancell, List.length_nil] at ih ⊢; omega
theorem ancells_get (l : List (Nat × Nat)) (i j : Nat) (h : i < l.length) (hj : j < 2) : (ancells l)[i * 2 + j]? = (ancell (l.getD i (0, 0)))[j]? := by
  induction l generalizing i with
  | nil => cases h
  | cons a l ih =>
    have ha : (ancell a).length = 2 := rfl
    cases i with
    | zero =>
      simp only [ancells, List.flatMap_cons, List.getD_cons_zero, Nat.zero_mul, Nat.zero_add]
      rw [List.getElem?_append_left (by rw [ha]; exact hj)]
    | succ i =>
      have := ih i (by simpa using h)
      simp only [ancells, List.flatMap_cons, List.getD_cons_succ] at this ⊢
      rw [List.getElem?_append_right (by rw [ha]; omega), ha, show (i + 1) * 2 + j - 2 = i * 2 + j from by omega]
      exact this
theorem View.anAt {w : World} {T : Nat → Prop} {A : Option Addr} {l : List (Nat × Nat)} {i : Nat} (h : View w T A (l.length * 2) (ancells l)) (hi : i < l.length) : ∃ b o, A = some ⟨b, o, none⟩ ∧ b < w.heap.size ∧ T b ∧ w.cell? ⟨b, o + i * 2, none⟩ = some (.int .u64 ((l.getD i (0, 0)).1 : Nat)) ∧ w.cell? ⟨b, o + i * 2 + 1, none⟩ = some (.int .u64 ((l.getD i (0, 0)).2 : Nat)) := by
  obtain ⟨b, o, h1, h2, h3, h4⟩ := h.2 (by omega)
  refine ⟨b, o, h1, h2, h3, ?_, ?_⟩
  · have := h4 (i * 2 + 0) (by omega)
    rw [ancells_get l i 0 hi (by omega)] at this
    exact this
  · have := h4 (i * 2 + 1) (by omega)
    rw [ancells_get l i 1 hi (by omega)] at this
    exact this

/-- A state's cells. -/
def st (e : Est) : List Value := [.int .u64 (e.sm : Nat), .int .u64 (e.vr : Nat), .int .u64 (e.le : Nat), .int .u64 (e.la : Nat)]
theorem sizeState : (Try.prog.info? 31).map (·.size) = some 4 := by kernel_rfl

theorem held_ref14 (n : Nat) (w : World) : Calls Try.prog 25 #[.int .u64 (n : Int)] w fun e w' => e = .returned (.int .u64 (heldN n : Nat)) ∧ w' = w := by
  by_cases h : (1099511627776 : Int) < (n : Int)
  · have e1 : heldN n = 1099511627776 := by unfold heldN MT; omega
    rw [e1]
    go_enter Try.func25, Try.ntmps25
    go_wp2
    go_ret
    exact ⟨rfl, rfl⟩
  · have e1 : heldN n = n := heldN_of n (by unfold MT; omega)
    rw [e1]
    go_enter Try.func25, Try.ntmps25
    go_wp2
    go_ret
    exact ⟨rfl, rfl⟩

/-- The first i answers gone through. -/
def ofN (g : Nat) (l : List (Nat × Nat)) (i : Nat) : Est := (l.take i).foldl (fun e x => takeE e x.1 x.2) (newE g)
theorem ofN_zero (g : Nat) (l : List (Nat × Nat)) : ofN g l 0 = newE g := by simp [ofN]
theorem ofN_succ (g : Nat) (l : List (Nat × Nat)) (i : Nat) (h : i < l.length) : ofN g l (i + 1) = takeE (ofN g l i) (l.getD i (0, 0)).1 (l.getD i (0, 0)).2 := by
  unfold ofN
  rw [List.take_add_one, List.getElem?_eq_getElem h, List.foldl_append, List.getD_eq_getElem?_getD, List.getElem?_eq_getElem h]
  rfl
theorem ofN_ok (g : Nat) (l : List (Nat × Nat)) (i : Nat) : (ofN g l i).Ok := by
  unfold ofN
  generalize l.take i = m
  have : ∀ (m : List (Nat × Nat)) (e : Est), e.Ok → (m.foldl (fun e x => takeE e x.1 x.2) e).Ok := by
    intro m
    induction m with
    | nil => intro e h; exact h
    | cons a m ih => intro e h; exact ih _ (takeE_ok e h _ _)
  exact this m _ (newE_ok g)
theorem takeE_an (e : Est) (t d : Nat) : (takeE e t d).an = true := by unfold takeE takeH; split <;> rfl
theorem ofN_an (g : Nat) (l : List (Nat × Nat)) (i : Nat) (h0 : 0 < i) (h : i ≤ l.length) : (ofN g l i).an = true := by
  obtain ⟨j, rfl⟩ : ∃ j, i = j + 1 := ⟨i - 1, by omega⟩
  rw [ofN_succ g l j (by omega)]
  exact takeE_an _ _ _

set_option maxRecDepth 100000 in
set_option maxHeartbeats 16000000 in
theorem rOf_any (gu : Nat) (l : List (Nat × Nat)) (A : Option Addr) (cap : Nat) (w : World) (hm : l.length < 1000000) (hv : View w (fun _ => True) A (l.length * 2) (ancells l)) :
    Calls Try.prog 18 #[.int .u64 (gu : Int), .slice A l.length cap] w fun e w' => e = .returned (.agg (st (ofN gu l l.length)).toArray) ∧ Chg none_ w w' := by
  have HH := Lib.hid (fun n w => held_ref14 n w)
  have HV := Lib.hid hv
  clear hv
  have hgn : Hid (newE gu = ⟨heldN (max gu 1), heldN (max gu 1) / 2, 0, 0, false⟩) := Lib.hid rfl
  obtain ⟨g0, hg0⟩ : ∃ g0, g0 = heldN gu := ⟨_, rfl⟩
  have HG : Hid (∀ w, Calls Try.prog 25 #[.int .u64 (gu : Int)] w fun e w' => e = .returned (.int .u64 (g0 : Nat)) ∧ w' = w) := Lib.hid (fun w => by rw [hg0]; exact held_ref14 gu w)
  obtain ⟨g1, hg1⟩ : ∃ g1, g1 = heldN (max gu 1) := ⟨_, rfl⟩
  have hq : g1 = if g0 = 0 then 1 else g0 := by
    rw [hg1, hg0]; unfold heldN MT; split <;> omega
  have hb0 : g0 ≤ 1099511627776 := by rw [hg0]; exact heldN_le gu
  rw [← hg1] at hgn
  obtain ⟨q, hqq⟩ : ∃ q, q = g1 / 2 := ⟨_, rfl⟩
  have hq2 : (g1 : Int) / 2 = (q : Int) := by omega
  rw [← hqq] at hgn
  have hqb : q < 18446744073709551616 := by split at hq <;> omega
  clear hg0 hg1 hqq
  by_cases h0 : g0 = 0
  · rw [if_pos h0] at hq
    subst h0
    subst hq
    have h1 : q = 0 := by omega
    subst h1
    clear hq2
    go_enter Try.func18, Try.ntmps18
    go_wp2_with (go_at_call 25; refine (HG.out _).mono ?_; rintro e w9 ⟨rfl, rfl⟩)
    obtain ⟨sz, hsz⟩ : ∃ sz, sz = w.heap.size := ⟨_, rfl⟩
    have HW := Lib.hid hsz
    have HZ0 := Lib.hid (show Row ((w.alloc (.cells #[.int .u64 0, .int .u64 0, .int .u64 0, .int .u64 0] 31)).alloc (.cells #[.int .u64 1, .int .u64 0, .int .u64 0, .int .u64 0] 31)) sz 31 [.int .u64 0, .int .u64 0, .int .u64 0, .int .u64 0] from by rw [hsz]; exact (Row.new w _ _).alloc _)
    have HR0 := Lib.hid (show Row ((w.alloc (.cells #[.int .u64 0, .int .u64 0, .int .u64 0, .int .u64 0] 31)).alloc (.cells #[.int .u64 1, .int .u64 0, .int .u64 0, .int .u64 0] 31)) (sz + 1) 31 (st (newE gu)) from by rw [hsz, hgn.out]; exact Row.newAt' _ _ (st ⟨1, 0, 0, 0, false⟩) _ (by simp))
    have HC0 := Lib.hid (show Chg none_ w ((w.alloc (.cells #[.int .u64 0, .int .u64 0, .int .u64 0, .int .u64 0] 31)).alloc (.cells #[.int .u64 1, .int .u64 0, .int .u64 0, .int .u64 0] 31)) from ((Chg.refl none_ w).alloc _).alloc _)
    rw [← hsz]
    generalize ((w.alloc (.cells #[.int .u64 0, .int .u64 0, .int .u64 0, .int .u64 0] 31)).alloc (.cells #[.int .u64 1, .int .u64 0, .int .u64 0, .int .u64 0] 31)) = w0 at HZ0 HR0 HC0 ⊢
    clear hsz
    go_loopw [7] (fun i wr => ∃ k : Nat, k ≤ l.length ∧ i = .int .i64 (k : Int) ∧ Hid (Row wr sz 31 [.int .u64 0, .int .u64 0, .int .u64 0, .int .u64 0]) ∧ Hid (Row wr (sz + 1) 31 (st (ofN gu l k))) ∧ Hid (Chg none_ w wr)) (fun i _ => l.length - (intOf i).toNat)
    case atStart => exact ⟨0, by omega, rfl, HZ0, by rw [ofN_zero]; exact HR0, HC0⟩
    case round =>
      obtain ⟨k, hk, rfl, HZ, HR, HC⟩ := hrel
      by_cases hlt : k < l.length
      · obtain ⟨b, o, rfl, hbl, _, c0, c1⟩ := (HV.out.chg HC.out (fun _ _ h => h)).anAt hlt
        have HN := Lib.hid (ofN_succ gu l k hlt)
        have HOK := Lib.hid (ofN_ok gu l k)
        have HAN := Lib.hid (fun h0 => ofN_an gu l k h0 (by omega))
        have HAN0 := Lib.hid (show k = 0 → (ofN gu l k).an = false from fun h => by rw [h, ofN_zero]; rfl)
        have hh : Hid (∀ n w, Calls Try.prog 25 #[.int .u64 (n : Nat)] w fun e w' => e = .returned (.int .u64 (heldN n : Nat)) ∧ w' = w) := HH
        generalize l.getD k (0, 0) = x at c0 c1 HN
        obtain ⟨t0, d0⟩ := x
        dsimp only at c0 c1 HN
        have HT : Hid (∀ w, Calls Try.prog 25 #[.int .u64 (t0 : Nat)] w fun e w' => e = .returned (.int .u64 (heldN t0 : Nat)) ∧ w' = w) := Lib.hid (fun w => HH.out t0 w)
        have HD : Hid (∀ w, Calls Try.prog 25 #[.int .u64 (d0 : Nat)] w fun e w' => e = .returned (.int .u64 (heldN d0 : Nat)) ∧ w' = w) := Lib.hid (fun w => HH.out d0 w)
        have hb := heldN_le t0
        have hb2 := heldN_le d0
        unfold MT at hb hb2
        have HTE : Hid (ofN gu l (k + 1) = takeH (ofN gu l k) (heldN t0) (heldN d0)) := HN
        generalize heldN t0 = t at *
        generalize heldN d0 = d at *
        obtain ⟨s', hse⟩ : ∃ s', s' = ofN gu l (k + 1) := ⟨_, rfl⟩
        rw [← hse] at HTE
        have HSE := Lib.hid hse
        clear hse
        generalize ofN gu l k = s at *
        clear hh HH HN
        go_wp2
        go_quiet ((first | ((with_reducible show Calls _ _ #[.int .u64 (t0 : Int)] _ _); exact Calls.quiet_of_same (HT.out _)) | ((with_reducible show Calls _ _ #[.int .u64 (d0 : Int)] _ _); exact Calls.quiet_of_same (HD.out _))))
        obtain ⟨x0, hx0⟩ : ∃ x0, x0 = wr.drewN nq := ⟨_, rfl⟩
        have HZ := Lib.hid (HZ.out.drewN nq)
        have HR := Lib.hid (HR.out.drewN nq)
        have HC := Lib.hid (HC.out.drewN nq)
        rw [← hx0] at HZ HR HC ⊢
        clear hx0 HT HD hbl c0 c1
        have a0 : x0.cell? ⟨sz + 1, 0, none⟩ = some (.int .u64 (s.sm : Nat)) := HR.out.cell 0
        have a1 : x0.cell? ⟨sz + 1, 1, none⟩ = some (.int .u64 (s.vr : Nat)) := HR.out.cell 1
        have a2 : x0.cell? ⟨sz + 1, 2, none⟩ = some (.int .u64 (s.le : Nat)) := HR.out.cell 2
        have a3 : x0.cell? ⟨sz + 1, 3, none⟩ = some (.int .u64 (s.la : Nat)) := HR.out.cell 3
        have az := HR.out.frozen
        have alt := HR.out.lt
        obtain ⟨o1, o2, o3, o4⟩ := HOK.out
        unfold MT at o1 o2 o3 o4
        have HS : Hid (∀ (S : World) (xs : List Value), Chg (· = sz + 1) x0 S → Row S (sz + 1) 31 xs → Row S sz 31 [.int .u64 0, .int .u64 0, .int .u64 0, .int .u64 0] ∧ Chg none_ w S) := Lib.hid (fun S xs hc _ => ⟨HZ.out.chg hc (by omega), HC.out.andThen hc (fun b hb e => by have := HW.out; omega)⟩)
        clear HZ HC
        by_cases hk0 : k = 0
        · have hs' : s' = ⟨t, t / 2, t, t, true⟩ := by rw [HTE.out]; unfold takeH; rw [if_pos (HAN0.out hk0)]
          have HSS := Lib.hid hs'
          obtain ⟨hf, hhf⟩ : ∃ hf, hf = t / 2 := ⟨_, rfl⟩
          have ht2 : (t : Int) / 2 = (hf : Int) := by omega
          have hhb : hf < 18446744073709551616 := by omega
          rw [← hhf] at HSS
          have HRR := Lib.hid ((((HR.out.set 3 (.int .u64 (t : Int))).set 0 (.int .u64 (t : Int))).set 1 (.int .u64 (hf : Int))).set 2 (.int .u64 (t : Int)))
          have HCC := Lib.hid (((((Chg.refl (· = sz + 1) x0).setCell (p := ⟨sz + 1, 3, none⟩) (fun _ => rfl) (.int .u64 (t : Int))).setCell (p := ⟨sz + 1, 0, none⟩) (fun _ => rfl) (.int .u64 (t : Int))).setCell (p := ⟨sz + 1, 1, none⟩) (fun _ => rfl) (.int .u64 (hf : Int))).setCell (p := ⟨sz + 1, 2, none⟩) (fun _ => rfl) (.int .u64 (t : Int)))
          clear hs' hhf
          subst hk0
          go_wp2
          go_roundw
          case rel =>
            refine ⟨1, by omega, by go_num, Lib.hid (HS.out _ _ HCC.out HRR.out).1, ?_, Lib.hid (HS.out _ _ HCC.out HRR.out).2⟩
            rw [show ofN gu l 1 = s' from HSE.out.symm, HSS.out]; exact Lib.hid HRR.out
          case measure => simp [intOf]; omega
        · have hk1 : ((k : Int) == 0) = false := by rw [beq_eq_false_iff_ne]; omega
          have han := HAN.out (by omega)
          obtain ⟨lm, hl⟩ : ∃ l, l = min s.le t := ⟨_, rfl⟩
          obtain ⟨ad, had⟩ : ∃ ad, ad = adjN t d lm := ⟨_, rfl⟩
          obtain ⟨fr, hfr⟩ : ∃ fr, fr = farN s.sm ad := ⟨_, rfl⟩
          obtain ⟨vr', hvr⟩ : ∃ v, v = (3 * s.vr + fr) / 4 := ⟨_, rfl⟩
          obtain ⟨sm', hsm⟩ : ∃ v, v = (7 * s.sm + ad) / 8 := ⟨_, rfl⟩
          have HSS : Hid (s' = ⟨sm', vr', lm, t, true⟩) := Lib.hid (by rw [HTE.out]; unfold takeH; rw [if_neg (by rw [han]; decide), ← hl, ← had, ← hfr, hvr, hsm])
          have HAD := Lib.hid had
          have HFR := Lib.hid hfr
          have hadl : ad ≤ 1099511627776 := by rw [had]; have := adjN_le t d lm; omega
          have hfrl : fr ≤ 1099511627776 := by rw [hfr]; exact farN_le _ _ _ o1 hadl
          have kv : (3 * (s.vr : Int) + (fr : Int)) / 4 = (vr' : Int) := by omega
          have ks : (7 * (s.sm : Int) + (ad : Int)) / 8 = (sm' : Int) := by omega
          have hsb : sm' ≤ 1099511627776 := by omega
          have hvb : vr' ≤ 1099511627776 := by omega
          generalize hss : s.sm = sm at *
          generalize hsv : s.vr = vr at *
          generalize hsl : s.le = le at *
          generalize hsa : s.la = la at *
          have HLE : Hid (st s = [.int .u64 (sm : Int), .int .u64 (vr : Int), .int .u64 (le : Int), .int .u64 (la : Int)]) := Lib.hid (by unfold st; rw [hss, hsv, hsl, hsa])
          rw [HLE.out] at HR
          clear hvr hsm hfr had hk0 han HTE HAN HAN0 HOK
          by_cases hm : (t : Int) < (le : Int)
          · have h1 : lm = t := by omega
            clear hl
            subst h1
            by_cases ha : (lm : Int) + (d : Int) ≤ (lm : Int)
            · have hd : (lm : Int) - (d : Int) = (ad : Int) := by rw [HAD.out]; unfold adjN; rw [if_pos (by omega)]; omega
              clear HAD
              by_cases hg : (ad : Int) < (sm : Int)
              · have hf : (sm : Int) - (ad : Int) = (fr : Int) := by rw [HFR.out]; unfold farN; omega
                clear HFR
                have HRR := Lib.hid (((((HR.out).set 3 (.int .u64 (lm : Int))).set 2 (.int .u64 (lm : Int))).set 1 (.int .u64 (vr' : Int))).set 0 (.int .u64 (sm' : Int)))
                have HCC := Lib.hid (((((Chg.refl (· = sz + 1) x0).setCell (p := ⟨sz + 1, 3, none⟩) (fun _ => rfl) (.int .u64 (lm : Int))).setCell (p := ⟨sz + 1, 2, none⟩) (fun _ => rfl) (.int .u64 (lm : Int))).setCell (p := ⟨sz + 1, 1, none⟩) (fun _ => rfl) (.int .u64 (vr' : Int))).setCell (p := ⟨sz + 1, 0, none⟩) (fun _ => rfl) (.int .u64 (sm' : Int)))
                go_wp2
                go_roundw
                case rel =>
                  refine ⟨k + 1, by omega, by go_num, Lib.hid (HS.out _ _ HCC.out HRR.out).1, ?_, Lib.hid (HS.out _ _ HCC.out HRR.out).2⟩
                  rw [← HSE.out, HSS.out]; exact Lib.hid HRR.out
                case measure => simp [intOf]; omega
              · have hf : (ad : Int) - (sm : Int) = (fr : Int) := by rw [HFR.out]; unfold farN; omega
                clear HFR
                have HRR := Lib.hid (((((HR.out).set 3 (.int .u64 (lm : Int))).set 2 (.int .u64 (lm : Int))).set 1 (.int .u64 (vr' : Int))).set 0 (.int .u64 (sm' : Int)))
                have HCC := Lib.hid (((((Chg.refl (· = sz + 1) x0).setCell (p := ⟨sz + 1, 3, none⟩) (fun _ => rfl) (.int .u64 (lm : Int))).setCell (p := ⟨sz + 1, 2, none⟩) (fun _ => rfl) (.int .u64 (lm : Int))).setCell (p := ⟨sz + 1, 1, none⟩) (fun _ => rfl) (.int .u64 (vr' : Int))).setCell (p := ⟨sz + 1, 0, none⟩) (fun _ => rfl) (.int .u64 (sm' : Int)))
                go_wp2
                go_roundw
                case rel =>
                  refine ⟨k + 1, by omega, by go_num, Lib.hid (HS.out _ _ HCC.out HRR.out).1, ?_, Lib.hid (HS.out _ _ HCC.out HRR.out).2⟩
                  rw [← HSE.out, HSS.out]; exact Lib.hid HRR.out
                case measure => simp [intOf]; omega
            · have hd : lm = ad := by rw [HAD.out]; unfold adjN; rw [if_neg (by omega)]
              clear HAD
              subst hd
              by_cases hg : (lm : Int) < (sm : Int)
              · have hf : (sm : Int) - (lm : Int) = (fr : Int) := by rw [HFR.out]; unfold farN; omega
                clear HFR
                have HRR := Lib.hid (((((HR.out).set 3 (.int .u64 (lm : Int))).set 2 (.int .u64 (lm : Int))).set 1 (.int .u64 (vr' : Int))).set 0 (.int .u64 (sm' : Int)))
                have HCC := Lib.hid (((((Chg.refl (· = sz + 1) x0).setCell (p := ⟨sz + 1, 3, none⟩) (fun _ => rfl) (.int .u64 (lm : Int))).setCell (p := ⟨sz + 1, 2, none⟩) (fun _ => rfl) (.int .u64 (lm : Int))).setCell (p := ⟨sz + 1, 1, none⟩) (fun _ => rfl) (.int .u64 (vr' : Int))).setCell (p := ⟨sz + 1, 0, none⟩) (fun _ => rfl) (.int .u64 (sm' : Int)))
                go_wp2
                go_roundw
                case rel =>
                  refine ⟨k + 1, by omega, by go_num, Lib.hid (HS.out _ _ HCC.out HRR.out).1, ?_, Lib.hid (HS.out _ _ HCC.out HRR.out).2⟩
                  rw [← HSE.out, HSS.out]; exact Lib.hid HRR.out
                case measure => simp [intOf]; omega
              · have hf : (lm : Int) - (sm : Int) = (fr : Int) := by rw [HFR.out]; unfold farN; omega
                clear HFR
                have HRR := Lib.hid (((((HR.out).set 3 (.int .u64 (lm : Int))).set 2 (.int .u64 (lm : Int))).set 1 (.int .u64 (vr' : Int))).set 0 (.int .u64 (sm' : Int)))
                have HCC := Lib.hid (((((Chg.refl (· = sz + 1) x0).setCell (p := ⟨sz + 1, 3, none⟩) (fun _ => rfl) (.int .u64 (lm : Int))).setCell (p := ⟨sz + 1, 2, none⟩) (fun _ => rfl) (.int .u64 (lm : Int))).setCell (p := ⟨sz + 1, 1, none⟩) (fun _ => rfl) (.int .u64 (vr' : Int))).setCell (p := ⟨sz + 1, 0, none⟩) (fun _ => rfl) (.int .u64 (sm' : Int)))
                go_wp2
                go_roundw
                case rel =>
                  refine ⟨k + 1, by omega, by go_num, Lib.hid (HS.out _ _ HCC.out HRR.out).1, ?_, Lib.hid (HS.out _ _ HCC.out HRR.out).2⟩
                  rw [← HSE.out, HSS.out]; exact Lib.hid HRR.out
                case measure => simp [intOf]; omega

          · have h1 : le = lm := by omega
            clear hl
            subst h1
            by_cases ha : (le : Int) + (d : Int) ≤ (t : Int)
            · have hd : (t : Int) - (d : Int) = (ad : Int) := by rw [HAD.out]; unfold adjN; rw [if_pos (by omega)]; omega
              clear HAD
              by_cases hg : (ad : Int) < (sm : Int)
              · have hf : (sm : Int) - (ad : Int) = (fr : Int) := by rw [HFR.out]; unfold farN; omega
                clear HFR
                have HRR := Lib.hid ((((HR.out).set 3 (.int .u64 (t : Int))).set 1 (.int .u64 (vr' : Int))).set 0 (.int .u64 (sm' : Int)))
                have HCC := Lib.hid ((((Chg.refl (· = sz + 1) x0).setCell (p := ⟨sz + 1, 3, none⟩) (fun _ => rfl) (.int .u64 (t : Int))).setCell (p := ⟨sz + 1, 1, none⟩) (fun _ => rfl) (.int .u64 (vr' : Int))).setCell (p := ⟨sz + 1, 0, none⟩) (fun _ => rfl) (.int .u64 (sm' : Int)))
                go_wp2
                go_roundw
                case rel =>
                  refine ⟨k + 1, by omega, by go_num, Lib.hid (HS.out _ _ HCC.out HRR.out).1, ?_, Lib.hid (HS.out _ _ HCC.out HRR.out).2⟩
                  rw [← HSE.out, HSS.out]; exact Lib.hid HRR.out
                case measure => simp [intOf]; omega
              · have hf : (ad : Int) - (sm : Int) = (fr : Int) := by rw [HFR.out]; unfold farN; omega
                clear HFR
                have HRR := Lib.hid ((((HR.out).set 3 (.int .u64 (t : Int))).set 1 (.int .u64 (vr' : Int))).set 0 (.int .u64 (sm' : Int)))
                have HCC := Lib.hid ((((Chg.refl (· = sz + 1) x0).setCell (p := ⟨sz + 1, 3, none⟩) (fun _ => rfl) (.int .u64 (t : Int))).setCell (p := ⟨sz + 1, 1, none⟩) (fun _ => rfl) (.int .u64 (vr' : Int))).setCell (p := ⟨sz + 1, 0, none⟩) (fun _ => rfl) (.int .u64 (sm' : Int)))
                go_wp2
                go_roundw
                case rel =>
                  refine ⟨k + 1, by omega, by go_num, Lib.hid (HS.out _ _ HCC.out HRR.out).1, ?_, Lib.hid (HS.out _ _ HCC.out HRR.out).2⟩
                  rw [← HSE.out, HSS.out]; exact Lib.hid HRR.out
                case measure => simp [intOf]; omega
            · have hd : t = ad := by rw [HAD.out]; unfold adjN; rw [if_neg (by omega)]
              clear HAD
              subst hd
              by_cases hg : (t : Int) < (sm : Int)
              · have hf : (sm : Int) - (t : Int) = (fr : Int) := by rw [HFR.out]; unfold farN; omega
                clear HFR
                have HRR := Lib.hid ((((HR.out).set 3 (.int .u64 (t : Int))).set 1 (.int .u64 (vr' : Int))).set 0 (.int .u64 (sm' : Int)))
                have HCC := Lib.hid ((((Chg.refl (· = sz + 1) x0).setCell (p := ⟨sz + 1, 3, none⟩) (fun _ => rfl) (.int .u64 (t : Int))).setCell (p := ⟨sz + 1, 1, none⟩) (fun _ => rfl) (.int .u64 (vr' : Int))).setCell (p := ⟨sz + 1, 0, none⟩) (fun _ => rfl) (.int .u64 (sm' : Int)))
                go_wp2
                go_roundw
                case rel =>
                  refine ⟨k + 1, by omega, by go_num, Lib.hid (HS.out _ _ HCC.out HRR.out).1, ?_, Lib.hid (HS.out _ _ HCC.out HRR.out).2⟩
                  rw [← HSE.out, HSS.out]; exact Lib.hid HRR.out
                case measure => simp [intOf]; omega
              · have hf : (t : Int) - (sm : Int) = (fr : Int) := by rw [HFR.out]; unfold farN; omega
                clear HFR
                have HRR := Lib.hid ((((HR.out).set 3 (.int .u64 (t : Int))).set 1 (.int .u64 (vr' : Int))).set 0 (.int .u64 (sm' : Int)))
                have HCC := Lib.hid ((((Chg.refl (· = sz + 1) x0).setCell (p := ⟨sz + 1, 3, none⟩) (fun _ => rfl) (.int .u64 (t : Int))).setCell (p := ⟨sz + 1, 1, none⟩) (fun _ => rfl) (.int .u64 (vr' : Int))).setCell (p := ⟨sz + 1, 0, none⟩) (fun _ => rfl) (.int .u64 (sm' : Int)))
                go_wp2
                go_roundw
                case rel =>
                  refine ⟨k + 1, by omega, by go_num, Lib.hid (HS.out _ _ HCC.out HRR.out).1, ?_, Lib.hid (HS.out _ _ HCC.out HRR.out).2⟩
                  rw [← HSE.out, HSS.out]; exact Lib.hid HRR.out
                case measure => simp [intOf]; omega

      · clear HV
        go_wp2_with (first | ((with_reducible show wpList _ _ _ (⟨_, .load 31 _, _, _, _, _⟩ :: _) _ _); refine wpList_load_Row rfl rfl rfl HR.out Try.underlying31 rfl sizeState ?_) | ((with_reducible show wpList _ _ _ (⟨_, .store 31 _ _, _, _, _, _⟩ :: _) _ _); refine wpList_store_Row rfl rfl rfl HZ.out rfl rfl sizeState rfl ?_; intro w4 hr4 hcs4 hs4; have HR4 := Lib.hid hr4; have HC4 := Lib.hid (hcs4 none_ _ HC.out (fun h => by have := HW.out; omega)); clear hr4 hcs4 hs4))
        refine ret_row rfl rfl HR4.out Try.underlying31 rfl sizeState rfl ?_
        exact ⟨by rw [show l.length = k by omega], HC4.out⟩
  · rw [if_neg h0] at hq
    subst hq
    have h1 : ((g1 : Int) == 0) = false := by rw [beq_eq_false_iff_ne]; omega
    clear h0
    go_enter Try.func18, Try.ntmps18
    go_wp2_with (go_at_call 25; refine (HG.out _).mono ?_; rintro e w9 ⟨rfl, rfl⟩)
    obtain ⟨sz, hsz⟩ : ∃ sz, sz = w.heap.size := ⟨_, rfl⟩
    have HW := Lib.hid hsz
    have HZ0 := Lib.hid (show Row ((w.alloc (.cells #[.int .u64 0, .int .u64 0, .int .u64 0, .int .u64 0] 31)).alloc (.cells #[.int .u64 (g1 : Int), .int .u64 (q : Int), .int .u64 0, .int .u64 0] 31)) sz 31 [.int .u64 0, .int .u64 0, .int .u64 0, .int .u64 0] from by rw [hsz]; exact (Row.new w _ _).alloc _)
    have HR0 := Lib.hid (show Row ((w.alloc (.cells #[.int .u64 0, .int .u64 0, .int .u64 0, .int .u64 0] 31)).alloc (.cells #[.int .u64 (g1 : Int), .int .u64 (q : Int), .int .u64 0, .int .u64 0] 31)) (sz + 1) 31 (st (newE gu)) from by rw [hsz, hgn.out]; exact Row.newAt' _ _ (st ⟨g1, q, 0, 0, false⟩) _ (by simp))
    have HC0 := Lib.hid (show Chg none_ w ((w.alloc (.cells #[.int .u64 0, .int .u64 0, .int .u64 0, .int .u64 0] 31)).alloc (.cells #[.int .u64 (g1 : Int), .int .u64 (q : Int), .int .u64 0, .int .u64 0] 31)) from ((Chg.refl none_ w).alloc _).alloc _)
    rw [← hsz]
    generalize ((w.alloc (.cells #[.int .u64 0, .int .u64 0, .int .u64 0, .int .u64 0] 31)).alloc (.cells #[.int .u64 (g1 : Int), .int .u64 (q : Int), .int .u64 0, .int .u64 0] 31)) = w0 at HZ0 HR0 HC0 ⊢
    clear hsz
    go_loopw [7] (fun i wr => ∃ k : Nat, k ≤ l.length ∧ i = .int .i64 (k : Int) ∧ Hid (Row wr sz 31 [.int .u64 0, .int .u64 0, .int .u64 0, .int .u64 0]) ∧ Hid (Row wr (sz + 1) 31 (st (ofN gu l k))) ∧ Hid (Chg none_ w wr)) (fun i _ => l.length - (intOf i).toNat)
    case atStart => exact ⟨0, by omega, rfl, HZ0, by rw [ofN_zero]; exact HR0, HC0⟩
    case round =>
      obtain ⟨k, hk, rfl, HZ, HR, HC⟩ := hrel
      by_cases hlt : k < l.length
      · obtain ⟨b, o, rfl, hbl, _, c0, c1⟩ := (HV.out.chg HC.out (fun _ _ h => h)).anAt hlt
        have HN := Lib.hid (ofN_succ gu l k hlt)
        have HOK := Lib.hid (ofN_ok gu l k)
        have HAN := Lib.hid (fun h0 => ofN_an gu l k h0 (by omega))
        have HAN0 := Lib.hid (show k = 0 → (ofN gu l k).an = false from fun h => by rw [h, ofN_zero]; rfl)
        have hh : Hid (∀ n w, Calls Try.prog 25 #[.int .u64 (n : Nat)] w fun e w' => e = .returned (.int .u64 (heldN n : Nat)) ∧ w' = w) := HH
        generalize l.getD k (0, 0) = x at c0 c1 HN
        obtain ⟨t0, d0⟩ := x
        dsimp only at c0 c1 HN
        have HT : Hid (∀ w, Calls Try.prog 25 #[.int .u64 (t0 : Nat)] w fun e w' => e = .returned (.int .u64 (heldN t0 : Nat)) ∧ w' = w) := Lib.hid (fun w => HH.out t0 w)
        have HD : Hid (∀ w, Calls Try.prog 25 #[.int .u64 (d0 : Nat)] w fun e w' => e = .returned (.int .u64 (heldN d0 : Nat)) ∧ w' = w) := Lib.hid (fun w => HH.out d0 w)
        have hb := heldN_le t0
        have hb2 := heldN_le d0
        unfold MT at hb hb2
        have HTE : Hid (ofN gu l (k + 1) = takeH (ofN gu l k) (heldN t0) (heldN d0)) := HN
        generalize heldN t0 = t at *
        generalize heldN d0 = d at *
        obtain ⟨s', hse⟩ : ∃ s', s' = ofN gu l (k + 1) := ⟨_, rfl⟩
        rw [← hse] at HTE
        have HSE := Lib.hid hse
        clear hse
        generalize ofN gu l k = s at *
        clear hh HH HN
        go_wp2
        go_quiet ((first | ((with_reducible show Calls _ _ #[.int .u64 (t0 : Int)] _ _); exact Calls.quiet_of_same (HT.out _)) | ((with_reducible show Calls _ _ #[.int .u64 (d0 : Int)] _ _); exact Calls.quiet_of_same (HD.out _))))
        obtain ⟨x0, hx0⟩ : ∃ x0, x0 = wr.drewN nq := ⟨_, rfl⟩
        have HZ := Lib.hid (HZ.out.drewN nq)
        have HR := Lib.hid (HR.out.drewN nq)
        have HC := Lib.hid (HC.out.drewN nq)
        rw [← hx0] at HZ HR HC ⊢
        clear hx0 HT HD hbl c0 c1
        have a0 : x0.cell? ⟨sz + 1, 0, none⟩ = some (.int .u64 (s.sm : Nat)) := HR.out.cell 0
        have a1 : x0.cell? ⟨sz + 1, 1, none⟩ = some (.int .u64 (s.vr : Nat)) := HR.out.cell 1
        have a2 : x0.cell? ⟨sz + 1, 2, none⟩ = some (.int .u64 (s.le : Nat)) := HR.out.cell 2
        have a3 : x0.cell? ⟨sz + 1, 3, none⟩ = some (.int .u64 (s.la : Nat)) := HR.out.cell 3
        have az := HR.out.frozen
        have alt := HR.out.lt
        obtain ⟨o1, o2, o3, o4⟩ := HOK.out
        unfold MT at o1 o2 o3 o4
        have HS : Hid (∀ (S : World) (xs : List Value), Chg (· = sz + 1) x0 S → Row S (sz + 1) 31 xs → Row S sz 31 [.int .u64 0, .int .u64 0, .int .u64 0, .int .u64 0] ∧ Chg none_ w S) := Lib.hid (fun S xs hc _ => ⟨HZ.out.chg hc (by omega), HC.out.andThen hc (fun b hb e => by have := HW.out; omega)⟩)
        clear HZ HC
        by_cases hk0 : k = 0
        · have hs' : s' = ⟨t, t / 2, t, t, true⟩ := by rw [HTE.out]; unfold takeH; rw [if_pos (HAN0.out hk0)]
          have HSS := Lib.hid hs'
          obtain ⟨hf, hhf⟩ : ∃ hf, hf = t / 2 := ⟨_, rfl⟩
          have ht2 : (t : Int) / 2 = (hf : Int) := by omega
          have hhb : hf < 18446744073709551616 := by omega
          rw [← hhf] at HSS
          have HRR := Lib.hid ((((HR.out.set 3 (.int .u64 (t : Int))).set 0 (.int .u64 (t : Int))).set 1 (.int .u64 (hf : Int))).set 2 (.int .u64 (t : Int)))
          have HCC := Lib.hid (((((Chg.refl (· = sz + 1) x0).setCell (p := ⟨sz + 1, 3, none⟩) (fun _ => rfl) (.int .u64 (t : Int))).setCell (p := ⟨sz + 1, 0, none⟩) (fun _ => rfl) (.int .u64 (t : Int))).setCell (p := ⟨sz + 1, 1, none⟩) (fun _ => rfl) (.int .u64 (hf : Int))).setCell (p := ⟨sz + 1, 2, none⟩) (fun _ => rfl) (.int .u64 (t : Int)))
          clear hs' hhf
          subst hk0
          go_wp2
          go_roundw
          case rel =>
            refine ⟨1, by omega, by go_num, Lib.hid (HS.out _ _ HCC.out HRR.out).1, ?_, Lib.hid (HS.out _ _ HCC.out HRR.out).2⟩
            rw [show ofN gu l 1 = s' from HSE.out.symm, HSS.out]; exact Lib.hid HRR.out
          case measure => simp [intOf]; omega
        · have hk1 : ((k : Int) == 0) = false := by rw [beq_eq_false_iff_ne]; omega
          have han := HAN.out (by omega)
          obtain ⟨lm, hl⟩ : ∃ l, l = min s.le t := ⟨_, rfl⟩
          obtain ⟨ad, had⟩ : ∃ ad, ad = adjN t d lm := ⟨_, rfl⟩
          obtain ⟨fr, hfr⟩ : ∃ fr, fr = farN s.sm ad := ⟨_, rfl⟩
          obtain ⟨vr', hvr⟩ : ∃ v, v = (3 * s.vr + fr) / 4 := ⟨_, rfl⟩
          obtain ⟨sm', hsm⟩ : ∃ v, v = (7 * s.sm + ad) / 8 := ⟨_, rfl⟩
          have HSS : Hid (s' = ⟨sm', vr', lm, t, true⟩) := Lib.hid (by rw [HTE.out]; unfold takeH; rw [if_neg (by rw [han]; decide), ← hl, ← had, ← hfr, hvr, hsm])
          have HAD := Lib.hid had
          have HFR := Lib.hid hfr
          have hadl : ad ≤ 1099511627776 := by rw [had]; have := adjN_le t d lm; omega
          have hfrl : fr ≤ 1099511627776 := by rw [hfr]; exact farN_le _ _ _ o1 hadl
          have kv : (3 * (s.vr : Int) + (fr : Int)) / 4 = (vr' : Int) := by omega
          have ks : (7 * (s.sm : Int) + (ad : Int)) / 8 = (sm' : Int) := by omega
          have hsb : sm' ≤ 1099511627776 := by omega
          have hvb : vr' ≤ 1099511627776 := by omega
          generalize hss : s.sm = sm at *
          generalize hsv : s.vr = vr at *
          generalize hsl : s.le = le at *
          generalize hsa : s.la = la at *
          have HLE : Hid (st s = [.int .u64 (sm : Int), .int .u64 (vr : Int), .int .u64 (le : Int), .int .u64 (la : Int)]) := Lib.hid (by unfold st; rw [hss, hsv, hsl, hsa])
          rw [HLE.out] at HR
          clear hvr hsm hfr had hk0 han HTE HAN HAN0 HOK
          by_cases hm : (t : Int) < (le : Int)
          · have h1 : lm = t := by omega
            clear hl
            subst h1
            by_cases ha : (lm : Int) + (d : Int) ≤ (lm : Int)
            · have hd : (lm : Int) - (d : Int) = (ad : Int) := by rw [HAD.out]; unfold adjN; rw [if_pos (by omega)]; omega
              clear HAD
              by_cases hg : (ad : Int) < (sm : Int)
              · have hf : (sm : Int) - (ad : Int) = (fr : Int) := by rw [HFR.out]; unfold farN; omega
                clear HFR
                have HRR := Lib.hid (((((HR.out).set 3 (.int .u64 (lm : Int))).set 2 (.int .u64 (lm : Int))).set 1 (.int .u64 (vr' : Int))).set 0 (.int .u64 (sm' : Int)))
                have HCC := Lib.hid (((((Chg.refl (· = sz + 1) x0).setCell (p := ⟨sz + 1, 3, none⟩) (fun _ => rfl) (.int .u64 (lm : Int))).setCell (p := ⟨sz + 1, 2, none⟩) (fun _ => rfl) (.int .u64 (lm : Int))).setCell (p := ⟨sz + 1, 1, none⟩) (fun _ => rfl) (.int .u64 (vr' : Int))).setCell (p := ⟨sz + 1, 0, none⟩) (fun _ => rfl) (.int .u64 (sm' : Int)))
                go_wp2
                go_roundw
                case rel =>
                  refine ⟨k + 1, by omega, by go_num, Lib.hid (HS.out _ _ HCC.out HRR.out).1, ?_, Lib.hid (HS.out _ _ HCC.out HRR.out).2⟩
                  rw [← HSE.out, HSS.out]; exact Lib.hid HRR.out
                case measure => simp [intOf]; omega
              · have hf : (ad : Int) - (sm : Int) = (fr : Int) := by rw [HFR.out]; unfold farN; omega
                clear HFR
                have HRR := Lib.hid (((((HR.out).set 3 (.int .u64 (lm : Int))).set 2 (.int .u64 (lm : Int))).set 1 (.int .u64 (vr' : Int))).set 0 (.int .u64 (sm' : Int)))
                have HCC := Lib.hid (((((Chg.refl (· = sz + 1) x0).setCell (p := ⟨sz + 1, 3, none⟩) (fun _ => rfl) (.int .u64 (lm : Int))).setCell (p := ⟨sz + 1, 2, none⟩) (fun _ => rfl) (.int .u64 (lm : Int))).setCell (p := ⟨sz + 1, 1, none⟩) (fun _ => rfl) (.int .u64 (vr' : Int))).setCell (p := ⟨sz + 1, 0, none⟩) (fun _ => rfl) (.int .u64 (sm' : Int)))
                go_wp2
                go_roundw
                case rel =>
                  refine ⟨k + 1, by omega, by go_num, Lib.hid (HS.out _ _ HCC.out HRR.out).1, ?_, Lib.hid (HS.out _ _ HCC.out HRR.out).2⟩
                  rw [← HSE.out, HSS.out]; exact Lib.hid HRR.out
                case measure => simp [intOf]; omega
            · have hd : lm = ad := by rw [HAD.out]; unfold adjN; rw [if_neg (by omega)]
              clear HAD
              subst hd
              by_cases hg : (lm : Int) < (sm : Int)
              · have hf : (sm : Int) - (lm : Int) = (fr : Int) := by rw [HFR.out]; unfold farN; omega
                clear HFR
                have HRR := Lib.hid (((((HR.out).set 3 (.int .u64 (lm : Int))).set 2 (.int .u64 (lm : Int))).set 1 (.int .u64 (vr' : Int))).set 0 (.int .u64 (sm' : Int)))
                have HCC := Lib.hid (((((Chg.refl (· = sz + 1) x0).setCell (p := ⟨sz + 1, 3, none⟩) (fun _ => rfl) (.int .u64 (lm : Int))).setCell (p := ⟨sz + 1, 2, none⟩) (fun _ => rfl) (.int .u64 (lm : Int))).setCell (p := ⟨sz + 1, 1, none⟩) (fun _ => rfl) (.int .u64 (vr' : Int))).setCell (p := ⟨sz + 1, 0, none⟩) (fun _ => rfl) (.int .u64 (sm' : Int)))
                go_wp2
                go_roundw
                case rel =>
                  refine ⟨k + 1, by omega, by go_num, Lib.hid (HS.out _ _ HCC.out HRR.out).1, ?_, Lib.hid (HS.out _ _ HCC.out HRR.out).2⟩
                  rw [← HSE.out, HSS.out]; exact Lib.hid HRR.out
                case measure => simp [intOf]; omega
              · have hf : (lm : Int) - (sm : Int) = (fr : Int) := by rw [HFR.out]; unfold farN; omega
                clear HFR
                have HRR := Lib.hid (((((HR.out).set 3 (.int .u64 (lm : Int))).set 2 (.int .u64 (lm : Int))).set 1 (.int .u64 (vr' : Int))).set 0 (.int .u64 (sm' : Int)))
                have HCC := Lib.hid (((((Chg.refl (· = sz + 1) x0).setCell (p := ⟨sz + 1, 3, none⟩) (fun _ => rfl) (.int .u64 (lm : Int))).setCell (p := ⟨sz + 1, 2, none⟩) (fun _ => rfl) (.int .u64 (lm : Int))).setCell (p := ⟨sz + 1, 1, none⟩) (fun _ => rfl) (.int .u64 (vr' : Int))).setCell (p := ⟨sz + 1, 0, none⟩) (fun _ => rfl) (.int .u64 (sm' : Int)))
                go_wp2
                go_roundw
                case rel =>
                  refine ⟨k + 1, by omega, by go_num, Lib.hid (HS.out _ _ HCC.out HRR.out).1, ?_, Lib.hid (HS.out _ _ HCC.out HRR.out).2⟩
                  rw [← HSE.out, HSS.out]; exact Lib.hid HRR.out
                case measure => simp [intOf]; omega

          · have h1 : le = lm := by omega
            clear hl
            subst h1
            by_cases ha : (le : Int) + (d : Int) ≤ (t : Int)
            · have hd : (t : Int) - (d : Int) = (ad : Int) := by rw [HAD.out]; unfold adjN; rw [if_pos (by omega)]; omega
              clear HAD
              by_cases hg : (ad : Int) < (sm : Int)
              · have hf : (sm : Int) - (ad : Int) = (fr : Int) := by rw [HFR.out]; unfold farN; omega
                clear HFR
                have HRR := Lib.hid ((((HR.out).set 3 (.int .u64 (t : Int))).set 1 (.int .u64 (vr' : Int))).set 0 (.int .u64 (sm' : Int)))
                have HCC := Lib.hid ((((Chg.refl (· = sz + 1) x0).setCell (p := ⟨sz + 1, 3, none⟩) (fun _ => rfl) (.int .u64 (t : Int))).setCell (p := ⟨sz + 1, 1, none⟩) (fun _ => rfl) (.int .u64 (vr' : Int))).setCell (p := ⟨sz + 1, 0, none⟩) (fun _ => rfl) (.int .u64 (sm' : Int)))
                go_wp2
                go_roundw
                case rel =>
                  refine ⟨k + 1, by omega, by go_num, Lib.hid (HS.out _ _ HCC.out HRR.out).1, ?_, Lib.hid (HS.out _ _ HCC.out HRR.out).2⟩
                  rw [← HSE.out, HSS.out]; exact Lib.hid HRR.out
                case measure => simp [intOf]; omega
              · have hf : (ad : Int) - (sm : Int) = (fr : Int) := by rw [HFR.out]; unfold farN; omega
                clear HFR
                have HRR := Lib.hid ((((HR.out).set 3 (.int .u64 (t : Int))).set 1 (.int .u64 (vr' : Int))).set 0 (.int .u64 (sm' : Int)))
                have HCC := Lib.hid ((((Chg.refl (· = sz + 1) x0).setCell (p := ⟨sz + 1, 3, none⟩) (fun _ => rfl) (.int .u64 (t : Int))).setCell (p := ⟨sz + 1, 1, none⟩) (fun _ => rfl) (.int .u64 (vr' : Int))).setCell (p := ⟨sz + 1, 0, none⟩) (fun _ => rfl) (.int .u64 (sm' : Int)))
                go_wp2
                go_roundw
                case rel =>
                  refine ⟨k + 1, by omega, by go_num, Lib.hid (HS.out _ _ HCC.out HRR.out).1, ?_, Lib.hid (HS.out _ _ HCC.out HRR.out).2⟩
                  rw [← HSE.out, HSS.out]; exact Lib.hid HRR.out
                case measure => simp [intOf]; omega
            · have hd : t = ad := by rw [HAD.out]; unfold adjN; rw [if_neg (by omega)]
              clear HAD
              subst hd
              by_cases hg : (t : Int) < (sm : Int)
              · have hf : (sm : Int) - (t : Int) = (fr : Int) := by rw [HFR.out]; unfold farN; omega
                clear HFR
                have HRR := Lib.hid ((((HR.out).set 3 (.int .u64 (t : Int))).set 1 (.int .u64 (vr' : Int))).set 0 (.int .u64 (sm' : Int)))
                have HCC := Lib.hid ((((Chg.refl (· = sz + 1) x0).setCell (p := ⟨sz + 1, 3, none⟩) (fun _ => rfl) (.int .u64 (t : Int))).setCell (p := ⟨sz + 1, 1, none⟩) (fun _ => rfl) (.int .u64 (vr' : Int))).setCell (p := ⟨sz + 1, 0, none⟩) (fun _ => rfl) (.int .u64 (sm' : Int)))
                go_wp2
                go_roundw
                case rel =>
                  refine ⟨k + 1, by omega, by go_num, Lib.hid (HS.out _ _ HCC.out HRR.out).1, ?_, Lib.hid (HS.out _ _ HCC.out HRR.out).2⟩
                  rw [← HSE.out, HSS.out]; exact Lib.hid HRR.out
                case measure => simp [intOf]; omega
              · have hf : (t : Int) - (sm : Int) = (fr : Int) := by rw [HFR.out]; unfold farN; omega
                clear HFR
                have HRR := Lib.hid ((((HR.out).set 3 (.int .u64 (t : Int))).set 1 (.int .u64 (vr' : Int))).set 0 (.int .u64 (sm' : Int)))
                have HCC := Lib.hid ((((Chg.refl (· = sz + 1) x0).setCell (p := ⟨sz + 1, 3, none⟩) (fun _ => rfl) (.int .u64 (t : Int))).setCell (p := ⟨sz + 1, 1, none⟩) (fun _ => rfl) (.int .u64 (vr' : Int))).setCell (p := ⟨sz + 1, 0, none⟩) (fun _ => rfl) (.int .u64 (sm' : Int)))
                go_wp2
                go_roundw
                case rel =>
                  refine ⟨k + 1, by omega, by go_num, Lib.hid (HS.out _ _ HCC.out HRR.out).1, ?_, Lib.hid (HS.out _ _ HCC.out HRR.out).2⟩
                  rw [← HSE.out, HSS.out]; exact Lib.hid HRR.out
                case measure => simp [intOf]; omega

      · clear HV
        go_wp2_with (first | ((with_reducible show wpList _ _ _ (⟨_, .load 31 _, _, _, _, _⟩ :: _) _ _); refine wpList_load_Row rfl rfl rfl HR.out Try.underlying31 rfl sizeState ?_) | ((with_reducible show wpList _ _ _ (⟨_, .store 31 _ _, _, _, _, _⟩ :: _) _ _); refine wpList_store_Row rfl rfl rfl HZ.out rfl rfl sizeState rfl ?_; intro w4 hr4 hcs4 hs4; have HR4 := Lib.hid hr4; have HC4 := Lib.hid (hcs4 none_ _ HC.out (fun h => by have := HW.out; omega)); clear hr4 hcs4 hs4))
        refine ret_row rfl rfl HR4.out Try.underlying31 rfl sizeState rfl ?_
        exact ⟨by rw [show l.length = k by omega], HC4.out⟩
end Go.Proofs.Ytipfpocnapholaa
