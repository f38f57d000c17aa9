/- Layer 16 (reasm): may what is done be looked at; the law ReasmFlow. -/
import Derived.Test.YtbmhoijdbhokaaaV16Open
import Derived.Test.YtbmhoijdbhokaaaV16Sizes
namespace Go.Proofs.Ytbmhoijdbhokaaa
open Go.RowKit

theorem getD_mem16 {α : Type} (d : α) {l : List α} {k : Nat} (h : k < l.length) : l.getD k d ∈ l := by
  rw [List.getD_eq_getElem?_getD, List.getElem?_eq_getElem h]
  exact List.getElem_mem h
def fewB (l : List Ac) : Bool := decide (l.length ≤ 60) && l.all fun x => decide (x.data.length ≤ 100)
theorem fewB_iff (l : List Ac) : fewB l = true ↔ l.length ≤ 60 ∧ ∀ x ∈ l, x.data.length ≤ 100 := by
  unfold fewB
  simp only [Bool.and_eq_true, List.all_eq_true, decide_eq_true_eq]
theorem fewB_no {l : List Ac} (h : ¬ (l.length ≤ 60 ∧ ∀ x ∈ l, x.data.length ≤ 100)) : fewB l = false := by
  cases hq : fewB l with
  | false => rfl
  | true => exact absurd ((fewB_iff l).1 hq) h

set_option maxRecDepth 100000 in
set_option maxHeartbeats 4000000 in
theorem few_any (l : List Ac) (A : Option Addr) (c : Nat) (w : World) (hv : View w (fun _ => True) A (l.length * 5) (l.flatMap acc)) :
    Calls Try.prog 15 #[.slice A l.length c] w fun e w' => e = .returned (.bool (fewB l)) ∧ w = w' := by
  by_cases h60 : 60 < l.length
  · have q1 : (60 : Int) < (l.length : Int) := by omega
    have HB : Hid (fewB l = false) := Lib.hid (fewB_no (fun h => by omega))
    rw [HB.out]
    clear h60 hv
    go_enter Try.func15, Try.ntmps15
    go_wp2
    go_ret
    exact ⟨rfl, rfl⟩
  · have q1 : ¬ (60 : Int) < (l.length : Int) := by omega
    have HV := Lib.hid hv
    have HLN : Hid (l.length ≤ 60) := Lib.hid (by omega)
    clear h60 hv
    go_enter Try.func15, Try.ntmps15
    go_wp2
    go_loopw [3] (fun i wr => ∃ k : Nat, i = .int .i64 (k : Int) ∧ k ≤ l.length ∧ w = wr ∧ Hid (∀ j, j < k → (l.getD j ac0).data.length ≤ 100)) (fun i _ => l.length - (intOf i).toNat)
    case atStart => exact ⟨0, rfl, Nat.zero_le _, rfl, Lib.hid (fun j hj => absurd hj (by omega))⟩
    case round =>
      obtain ⟨k, rfl, hk, rfl, HP⟩ := hrel
      by_cases hlt : k < l.length
      · have k1 : (k : Int) < (l.length : Int) := by omega
        have k0 : (0 : Int) ≤ (k : Int) := by omega
        obtain ⟨b, o, rfl, hb, _, hra⟩ := HV.out.elemAt acc_len (by decide) ac0 hlt
        have hr := hra k hlt
        have hmx : l.getD k ac0 ∈ l := getD_mem16 ac0 hlt
        obtain ⟨x, hx⟩ : ∃ x, l.getD k ac0 = x := ⟨_, rfl⟩
        rw [hx] at hr hmx
        have HX := Lib.hid hx
        have HM := Lib.hid hmx
        have c3 := hr 3 _ rfl
        simp only [Nat.add_assoc] at c3
        have c3' : w.cell? ⟨b, o + k * 5 + 3, none⟩ = some (.slice x.A x.data.length x.c) := hr 3 _ rfl
        clear hra hr hmx hb hx
        by_cases h100 : 100 < x.data.length
        · have q2 : (100 : Int) < (x.data.length : Int) := by omega
          have HB : Hid (fewB l = false) := Lib.hid (fewB_no (fun h => by have := h.2 x HM.out; omega))
          clear h100
          go_wp2
          go_ret
          exact ⟨ret_bool HB.out.symm, rfl⟩
        · have q2 : ¬ (100 : Int) < (x.data.length : Int) := by omega
          have HN : Hid (∀ j, j < k + 1 → (l.getD j ac0).data.length ≤ 100) := Lib.hid (fun j hj => by
            rcases Nat.lt_or_ge j k with h | h
            · exact HP.out j h
            · rw [show j = k by omega, HX.out]; omega)
          clear h100
          go_wp2
          go_roundw
          case rel => exact ⟨k + 1, by push_cast; rfl, hlt, trivial, HN⟩
          case measure => simp [intOf]; omega
      · have k1 : (l.length : Int) ≤ (k : Int) := by omega
        have HB : Hid (fewB l = true) := Lib.hid ((fewB_iff l).2 ⟨HLN.out, fun x hx => by
          obtain ⟨j, hj, rfl⟩ := List.mem_iff_getElem.1 hx
          have := HP.out j (by omega)
          rwa [List.getD_eq_getElem?_getD, List.getElem?_eq_getElem hj] at this⟩)
        go_wp2
        go_ret
        exact ⟨ret_bool HB.out.symm, rfl⟩

/-- The buffer of the law: of this window, so many read. -/
structure FB (W w : World) (g m c n : Nat) (s : Rb) : Prop where
  ba : BA w g m s
  win : s.win = c
  rd : s.rd = n
  chg : Chg none_ W w
  g : W.heap.size ≤ g
  m : W.heap.size ≤ m
section
variable {W w : World} {g m c n cap : Nat} {s : Rb} {A : Option Addr}
theorem FB.quiet {k : Nat} (h : FB W w g m c n s) : FB W (w.drewN k) g m c n s := ⟨h.ba.drewN k, h.win, h.rd, h.chg.drewN k, h.g, h.m⟩
theorem FB.chg0 {w' : World} (h : FB W w g m c n s) (hc : Chg none_ w w') : FB W w' g m c n s := ⟨h.ba.chg hc (fun h => h) (fun h => h), h.win, h.rd, h.chg.trans hc, h.g, h.m⟩
theorem FB.to {w' : World} {t : Rb} (h : FB W w g m c n s) (hb : BA w' g m t) (hc : Chg (of2 g m) w w') {n' : Nat} (h1 : t.win = c) (h2 : t.rd = n') : FB W w' g m c n' t := ⟨hb, h1, h2, chg2 h.chg hc h.g h.m, h.g, h.m⟩
theorem lNew (hc : c < 256) (hw : Chg none_ W w) : Calls Try.prog 9 #[.int .i64 (c : Int)] w fun e w' => ∃ g m, e = .returned (.pointer (some ⟨g, 0, none⟩)) ∧ FB W w' g m c 0 (newB c) :=
  (bNew_any c (by omega) w).mono (by
    rintro e w' ⟨g, m, rfl, h2, h3, h4, h5⟩
    exact ⟨g, m, rfl, ⟨h4, newB_ok (by omega)⟩, rfl, rfl, hw.trans h5, Nat.le_trans hw.size h2, Nat.le_trans hw.size h3⟩)
theorem lRead (h : FB W w g m c n s) (x : Int) : Calls Try.prog 11 #[.pointer (some ⟨g, 0, none⟩), .int .i64 x] w fun e w' => ∃ A k c' t, e = .returned (.slice A k c') ∧ n + k ≤ 4611686018427387903 ∧ FB W w' g m c (n + k) t :=
  (cRead h.ba x (readK s x) rfl).mono (by
    rintro e w' ⟨A, c', rfl, h1, h2, h3, h4⟩
    refine ⟨A, _, c', readS s (readK s x), rfl, ?_, h.to h3 h4 h.win (by show s.rd + _ = _; rw [h.rd])⟩
    have h5 := h3.ok.rt
    have h6 := h3.ok.max
    have h7 : (readS s (readK s x)).rd = s.rd + readK s x := rfl
    have := h.rd
    omega)
theorem lLimit (h : FB W w g m c n s) : Calls Try.prog 16 #[.pointer (some ⟨g, 0, none⟩)] w fun e w' => e = .returned (.int .u64 ((n : Int) + (c : Int))) ∧ ∃ k, w' = w.drewN k := by
  have := bLimit_any g m s h.ba.ok.core w h.ba.at_
  rw [h.rd, h.win] at this
  push_cast at this
  exact this
theorem lHeld (h : FB W w g m c n s) : Calls Try.prog 12 #[.pointer (some ⟨g, 0, none⟩)] w fun e w' => e = .returned (.int .i64 (s.es.length : Int)) ∧ w' = w := bHeld_any g m s w h.ba.at_
theorem lReady (h : FB W w g m c n s) : Calls Try.prog 14 #[.pointer (some ⟨g, 0, none⟩)] w fun e w' => e = .returned (.int .i64 ((s.gap - s.rd : Nat) : Int)) ∧ ∃ k, w' = w.drewN k := bReady_any g m s h.ba.ok.core w h.ba.at_
theorem lPut9 {off : Nat} {data : List Nat} {last : Bool} (h : FB W w g m c n s) (hoff : off ≤ 1099511627776) (hl : data.length ≤ 100) (hlim : n + c < off + data.length) :
    Calls Try.prog 10 #[.pointer (some ⟨g, 0, none⟩), .int .u64 (off : Int), .slice A data.length cap, .bool last] w fun e w' => ∃ x : Nat, ∃ t, e = .returned (.int .i64 (x : Int)) ∧ ((x : Int) == 9) = true ∧ FB W w' g m c n t :=
  (cPutE h.ba (by omega) (by omega) 9 (putE_9 (by omega) (by rw [h.rd, h.win]; exact hlim)) (by decide)).mono (by
    rintro e w' ⟨rfl, h1, h2⟩
    exact ⟨9, s, rfl, rfl, h.to h1 h2 h.win h.rd⟩)
theorem lPut {off : Nat} {data : List Nat} {last : Bool} (h : FB W w g m c n s) (hb : ∀ x ∈ data, x < 256) (hv : View w (fun b => b < W.heap.size) A data.length (u8s data)) (hoff : off ≤ 1099511627776) (hl : data.length ≤ 100) (hlim : ¬ n + c < off + data.length) :
    Calls Try.prog 10 #[.pointer (some ⟨g, 0, none⟩), .int .u64 (off : Int), .slice A data.length cap, .bool last] w fun e w' => ∃ x : Nat, ∃ t, e = .returned (.int .i64 (x : Int)) ∧ ((x : Int) == 9) = false ∧ FB W w' g m c n t := by
  by_cases he : putE s off data.length last = 0
  · refine (cPut0 h.ba hb (ahead2 h.g h.m) hv he).mono ?_
    rintro e w' ⟨rfl, t, h1, h2, h3⟩
    exact ⟨0, t, rfl, rfl, h.to h2 h3 (h1.win.trans h.win) (h1.rd.trans h.rd)⟩
  · have h10 : putE s off data.length last = 10 := by
      unfold putE at he ⊢
      rw [if_neg (by omega), if_neg (by rw [h.rd, h.win]; exact hlim)] at he ⊢
      split
      · rfl
      · rename_i h3; rw [if_neg h3] at he; exact absurd rfl he
    refine (cPutE h.ba (by omega) (by omega) 10 h10 (by decide)).mono ?_
    rintro e w' ⟨rfl, h1, h2⟩
    exact ⟨10, s, rfl, rfl, h.to h1 h2 h.win h.rd⟩
theorem FB.facts (h : FB W w g m c n s) : (s.es.length : Int) ≤ (c : Int) ∧ ((s.gap - s.rd : Nat) : Int) ≤ (s.es.length : Int) := by
  have h1 := h.ba.ok.core.held_le
  have h2 := h.ba.ok.core.ready_le
  rw [h.win] at h1
  omega
end

set_option maxRecDepth 100000 in
set_option maxHeartbeats 8000000 in
theorem walk_ReasmFlow (x : Int) (l : List Ac) (A : Option Addr) (cap : Nat) (W : World) (hx : (Lit.int .u8 x).wf = true) (_hcap : l.length ≤ cap ∧ cap ≤ maxLen) (hv : View W (fun _ => True) A (l.length * 5) (l.flatMap acc)) (hi : ∀ x ∈ l, AcI W x) :
    Calls Try.prog 4 #[.int .u8 x, .slice A l.length cap] W fun e w' => e = .returned (.bool true) ∧ Chg none_ W w' := by
  obtain ⟨c, rfl, hc⟩ := u8_nat hx
  have HAL := Lib.hid (fun w => alive_any w)
  have HV : Hid (∀ w', Chg none_ W w' → View w' (fun _ => True) A (l.length * 5) (l.flatMap acc)) := Lib.hid (fun w' h => hv.chg h (fun _ _ h => h))
  have HI : Hid (∀ x ∈ l, ∀ w', Chg none_ W w' → View w' (fun b => b < W.heap.size) x.A x.data.length (u8s x.data)) := Lib.hid (fun x hx w' h => (row_ahead (hi x hx).view).chg h (fun _ _ h => h))
  have HIB : Hid (∀ x ∈ l, (∀ y ∈ x.data, y < 256) ∧ x.off < 18446744073709551616) := Lib.hid (fun x hx => ⟨(hi x hx).byte, (hi x hx).off⟩)
  have HFW : Hid (∀ w', Chg none_ W w' → Calls Try.prog 15 #[.slice A l.length cap] w' fun e w'' => e = .returned (.bool (fewB l)) ∧ w' = w'') := Lib.hid (fun w' h => few_any l A cap w' (hv.chg h (fun _ _ h => h)))
  have c1 : (c : Int) ≤ 255 := by omega
  have c0 : (0 : Int) ≤ (c : Int) := by omega
  have HCL := Lib.hid hc
  clear hx hv hi hc _hcap
  cases hf : fewB l
  · rw [hf] at HFW
    go_enter Try.func4, Try.ntmps4
    go_wp2_with (first | (go_at_call 8; refine (HAL.out _).mono ?_; rintro e w0 ⟨rfl, hc⟩; have HC := Lib.hid hc; clear hc) | (go_at_call 15; refine (HFW.out _ HC.out).mono ?_; rintro e w_ ⟨rfl, hw_⟩; subst hw_))
    go_ret
    exact ⟨rfl, HC.out⟩
  · rw [hf] at HFW
    have HFE := Lib.hid ((fewB_iff l).1 hf)
    have l60 : (l.length : Int) ≤ 60 := by have := HFE.out.1; omega
    clear hf
    go_enter Try.func4, Try.ntmps4
    go_wp2_with (first | (go_at_call 8; refine (HAL.out _).mono ?_; rintro e w0 ⟨rfl, hc⟩; have HC := Lib.hid hc; clear hc) | (go_at_call 15; refine (HFW.out _ HC.out).mono ?_; rintro e w_ ⟨rfl, hw_⟩; subst hw_) | (go_at_call 9; refine (lNew HCL.out HC.out).mono ?_; rintro e w1 ⟨g, m, rfl, hf⟩; have HFB := Lib.hid hf; clear hf HC))
    go_loopw [6, 7, 8, 9] (fun nv iv _ _ wr => ∃ (j n : Nat) (s : Rb), iv = .int .i64 (j : Int) ∧ nv = .int .i64 (n : Int) ∧ j ≤ l.length ∧ n ≤ 4611686018427387903 ∧ Hid (FB W wr g m c n s)) (fun _ iv _ _ _ => l.length - (intOf iv).toNat)
    case atStart => exact ⟨0, 0, newB c, rfl, rfl, Nat.zero_le _, by decide, HFB⟩
    case round =>
      clear HFB
      obtain ⟨j, n, s, rfl, rfl, hj, hn, HF⟩ := hrel
      have n0 : (0 : Int) ≤ (n : Int) := by omega
      have n1 : (n : Int) ≤ 4611686018427387903 := by omega
      by_cases hlt : j < l.length
      · have k1 : (j : Int) < (l.length : Int) := by omega
        have k0 : (0 : Int) ≤ (j : Int) := by omega
        obtain ⟨b, o, hA, hb, _, hra⟩ := (HV.out W (Chg.refl _ _)).elemAt acc_len (by decide) ac0 hlt
        have hr := hra j hlt
        have hmx : l.getD j ac0 ∈ l := getD_mem16 ac0 hlt
        obtain ⟨x, hx⟩ : ∃ x, l.getD j ac0 = x := ⟨_, rfl⟩
        rw [hx] at hr hmx
        have HM := Lib.hid hmx
        have HE : Hid (∀ w', Chg none_ W w' → ∀ i v, (acc x)[i]? = some v → w'.cell? ⟨b, o + j * 5 + i, none⟩ = some v) := Lib.hid (fun w' h i v hv => (h.cell _ hb (fun h => h)).trans (hr i v hv))
        have e0 : wr.cell? ⟨b, o + j * 5, none⟩ = some (.int .i64 x.kind) := HE.out wr HF.out.chg 0 _ rfl
        have e1 : wr.cell? ⟨b, o + j * 5 + 1, none⟩ = some (.int .i64 x.n) := HE.out wr HF.out.chg 1 _ rfl
        have e2 : wr.cell? ⟨b, o + j * 5 + 2, none⟩ = some (.int .u64 (x.off : Int)) := HE.out wr HF.out.chg 2 _ rfl
        clear hra hr hmx hx hb
        subst hA
        by_cases hk : x.kind = 1
        · rw [hk] at e0
          go_wp2_with (first | (go_at_call 11; refine (lRead HF.out _).mono ?_; rintro e w2 ⟨A2, k, c2, t, rfl, hnk, hf⟩; obtain ⟨f1, f2⟩ := hf.facts; have nk1 : (n : Int) + (k : Int) ≤ 4611686018427387903 := (by omega); have HF := Lib.hid hf; clear hf) | (go_at_call 16; refine (lLimit HF.out).mono ?_; rintro e w3 ⟨rfl, k3, hw⟩; have HF := Lib.hid (by rw [hw]; exact HF.out.quiet : FB W w3 g m c _ _); clear hw) | (go_at_call 12; refine (lHeld HF.out).mono ?_; rintro e w_ ⟨rfl, hw_⟩; have hw_ := hw_.symm; subst hw_) | (go_at_call 14; refine (lReady HF.out).mono ?_; rintro e w4 ⟨rfl, k4, hw⟩; have HF := Lib.hid (by rw [hw]; exact HF.out.quiet : FB W w4 g m c _ _); clear hw))
          go_roundw
          case rel => exact ⟨j + 1, n + k, t, by push_cast; rfl, by push_cast; rfl, hlt, hnk, HF⟩
          case measure => simp [intOf]; omega
        · have hk2 : (x.kind == 1) = false := by rw [beq_eq_false_iff_ne]; exact hk
          by_cases ho : x.off ≤ 1099511627776
          · have o1 : (x.off : Int) ≤ 1099511627776 := by omega
            have o0 : (0 : Int) ≤ (x.off : Int) := by omega
            have hdl := HFE.out.2 x HM.out
            have dl1 : (x.data.length : Int) ≤ 100 := by omega
            have dl0 : (0 : Int) ≤ (x.data.length : Int) := by omega
            have e3 : wr.cell? ⟨b, o + j * 5 + 3, none⟩ = some (.slice x.A x.data.length x.c) := HE.out wr HF.out.chg 3 _ rfl
            have HBX := HIB.out x HM.out
            have HOL := Lib.hid (And.intro ho (And.intro hdl HBX))
            clear ho hdl HBX
            by_cases hlim : n + c < x.off + x.data.length
            · have q1 : (n : Int) + (c : Int) < (x.off : Int) + (x.data.length : Int) := by omega
              have HP : Hid (∀ w', FB W w' g m c n s → Calls Try.prog 10 #[.pointer (some ⟨g, 0, none⟩), .int .u64 (x.off : Int), .slice x.A x.data.length x.c, .bool x.last] w' fun e w'' => ∃ z : Nat, ∃ t, e = .returned (.int .i64 (z : Int)) ∧ ((z : Int) == 9) = true ∧ FB W w'' g m c n t) := Lib.hid (fun w' h => lPut9 h HOL.out.1 HOL.out.2.1 hlim)
              clear hlim
              go_wp2
              go_quiet (fail)
              go_wp2
              have hch9 : Chg none_ W wr := HF.out.chg
              refine wp_region_held_drew (S := fun x => Chg none_ W x) (by kernel_rfl) ((hch9.drewN nq).drew) (fun hch0 => ?_)
              refine wpAnyH_take (i := 0) (v := .pointer (some ⟨g, 0, none⟩)) rfl (by kernel_rfl) (by kernel_rfl) (by kernel_rfl) (by first | exact fun _ _ _ h => h | exact fun _ _ _ h => nomatch h.1) (Or.inl ⟨by rfl, fun w_ hw_ => by go_simp⟩) hch0 ?_
              try simp only [Act.put, List.setIfInBounds_toArray, List.set_cons_zero, List.set_cons_succ, List.getElem_toArray, List.getElem_cons_zero]
              refine wpAnyH_take (i := 1) (v := .slice (some ⟨b, o, none⟩) l.length cap) rfl (by kernel_rfl) (by kernel_rfl) (by kernel_rfl) (by first | exact fun _ _ _ h => h | exact fun _ _ _ h => nomatch h.1) (Or.inl ⟨by rfl, fun w_ hw_ => by go_simp⟩) hch0 ?_
              try simp only [Act.put, List.setIfInBounds_toArray, List.set_cons_zero, List.set_cons_succ, List.getElem_toArray, List.getElem_cons_succ, List.getElem_cons_zero]
              refine wpAnyH_take (i := 2) (v := .int .i64 (j : Int)) rfl (by kernel_rfl) (by kernel_rfl) (by kernel_rfl) (by first | exact fun _ _ _ h => h | exact fun _ _ _ h => nomatch h.1) (Or.inl ⟨by rfl, fun w_ hw_ => by go_simp⟩) hch0 ?_
              try simp only [Act.put, List.setIfInBounds_toArray, List.set_cons_zero, List.set_cons_succ, List.getElem_toArray, List.getElem_cons_succ, List.getElem_cons_zero]
              refine wpAnyH_take (i := 3) (v := .pointer (some ⟨b, o + j * 5, none⟩)) rfl (by kernel_rfl) (by kernel_rfl) (by kernel_rfl) (by first | exact fun _ _ _ h => h | exact fun _ _ _ h => nomatch h.1) (Or.inl ⟨by rfl, fun w_ hw_ => by go_simp⟩) hch0 ?_
              try simp only [Act.put, List.setIfInBounds_toArray, List.set_cons_zero, List.set_cons_succ, List.getElem_toArray, List.getElem_cons_succ, List.getElem_cons_zero]
              refine wpAnyH_take (i := 4) (v := .pointer (some ⟨b, o + j * 5 + 2, none⟩)) rfl (by kernel_rfl) (by kernel_rfl) (by kernel_rfl) (by first | exact fun _ _ _ h => h | exact fun _ _ _ h => nomatch h.1) (Or.inl ⟨by rfl, fun w_ hw_ => by go_simp⟩) hch0 ?_
              try simp only [Act.put, List.setIfInBounds_toArray, List.set_cons_zero, List.set_cons_succ, List.getElem_toArray, List.getElem_cons_succ, List.getElem_cons_zero]
              refine wpAnyH_take (i := 5) (v := .int .u64 (x.off : Int)) rfl (by kernel_rfl) (by kernel_rfl) (by kernel_rfl) (by first | exact fun _ _ _ h => h | exact fun _ _ _ h => nomatch h.1) (Or.inl ⟨by rfl, fun w_ hw_ => by have c := HE.out w_ hw_ 2 _ rfl; go_simp⟩) hch0 ?_
              try simp only [Act.put, List.setIfInBounds_toArray, List.set_cons_zero, List.set_cons_succ, List.getElem_toArray, List.getElem_cons_succ, List.getElem_cons_zero]
              refine wpAnyH_take (i := 6) (v := .slice (some ⟨b, o, none⟩) l.length cap) rfl (by kernel_rfl) (by kernel_rfl) (by kernel_rfl) (by first | exact fun _ _ _ h => h | exact fun _ _ _ h => nomatch h.1) (Or.inl ⟨by rfl, fun w_ hw_ => by go_simp⟩) hch0 ?_
              try simp only [Act.put, List.setIfInBounds_toArray, List.set_cons_zero, List.set_cons_succ, List.getElem_toArray, List.getElem_cons_succ, List.getElem_cons_zero]
              refine wpAnyH_take (i := 7) (v := .int .i64 (j : Int)) rfl (by kernel_rfl) (by kernel_rfl) (by kernel_rfl) (by first | exact fun _ _ _ h => h | exact fun _ _ _ h => nomatch h.1) (Or.inl ⟨by rfl, fun w_ hw_ => by go_simp⟩) hch0 ?_
              try simp only [Act.put, List.setIfInBounds_toArray, List.set_cons_zero, List.set_cons_succ, List.getElem_toArray, List.getElem_cons_succ, List.getElem_cons_zero]
              refine wpAnyH_take (i := 8) (v := .pointer (some ⟨b, o + j * 5, none⟩)) rfl (by kernel_rfl) (by kernel_rfl) (by kernel_rfl) (by first | exact fun _ _ _ h => h | exact fun _ _ _ h => nomatch h.1) (Or.inl ⟨by rfl, fun w_ hw_ => by go_simp⟩) hch0 ?_
              try simp only [Act.put, List.setIfInBounds_toArray, List.set_cons_zero, List.set_cons_succ, List.getElem_toArray, List.getElem_cons_succ, List.getElem_cons_zero]
              refine wpAnyH_take (i := 9) (v := .pointer (some ⟨b, o + j * 5 + 3, none⟩)) rfl (by kernel_rfl) (by kernel_rfl) (by kernel_rfl) (by first | exact fun _ _ _ h => h | exact fun _ _ _ h => nomatch h.1) (Or.inl ⟨by rfl, fun w_ hw_ => by go_simp⟩) hch0 ?_
              try simp only [Act.put, List.setIfInBounds_toArray, List.set_cons_zero, List.set_cons_succ, List.getElem_toArray, List.getElem_cons_succ, List.getElem_cons_zero]
              refine wpAnyH_take (i := 10) (v := .slice x.A x.data.length x.c) rfl (by kernel_rfl) (by kernel_rfl) (by kernel_rfl) (by first | exact fun _ _ _ h => h | exact fun _ _ _ h => nomatch h.1) (Or.inl ⟨by rfl, fun w_ hw_ => by have c := HE.out w_ hw_ 3 _ rfl; go_simp⟩) hch0 ?_
              try simp only [Act.put, List.setIfInBounds_toArray, List.set_cons_zero, List.set_cons_succ, List.getElem_toArray, List.getElem_cons_succ, List.getElem_cons_zero]
              refine wpAnyH_take (i := 11) (v := .slice (some ⟨b, o, none⟩) l.length cap) rfl (by kernel_rfl) (by kernel_rfl) (by kernel_rfl) (by first | exact fun _ _ _ h => h | exact fun _ _ _ h => nomatch h.1) (Or.inl ⟨by rfl, fun w_ hw_ => by go_simp⟩) hch0 ?_
              try simp only [Act.put, List.setIfInBounds_toArray, List.set_cons_zero, List.set_cons_succ, List.getElem_toArray, List.getElem_cons_succ, List.getElem_cons_zero]
              refine wpAnyH_take (i := 12) (v := .int .i64 (j : Int)) rfl (by kernel_rfl) (by kernel_rfl) (by kernel_rfl) (by first | exact fun _ _ _ h => h | exact fun _ _ _ h => nomatch h.1) (Or.inl ⟨by rfl, fun w_ hw_ => by go_simp⟩) hch0 ?_
              try simp only [Act.put, List.setIfInBounds_toArray, List.set_cons_zero, List.set_cons_succ, List.getElem_toArray, List.getElem_cons_succ, List.getElem_cons_zero]
              refine wpAnyH_take (i := 13) (v := .pointer (some ⟨b, o + j * 5, none⟩)) rfl (by kernel_rfl) (by kernel_rfl) (by kernel_rfl) (by first | exact fun _ _ _ h => h | exact fun _ _ _ h => nomatch h.1) (Or.inl ⟨by rfl, fun w_ hw_ => by go_simp⟩) hch0 ?_
              try simp only [Act.put, List.setIfInBounds_toArray, List.set_cons_zero, List.set_cons_succ, List.getElem_toArray, List.getElem_cons_succ, List.getElem_cons_zero]
              refine wpAnyH_take (i := 14) (v := .pointer (some ⟨b, o + j * 5 + 4, none⟩)) rfl (by kernel_rfl) (by kernel_rfl) (by kernel_rfl) (by first | exact fun _ _ _ h => h | exact fun _ _ _ h => nomatch h.1) (Or.inl ⟨by rfl, fun w_ hw_ => by go_simp⟩) hch0 ?_
              try simp only [Act.put, List.setIfInBounds_toArray, List.set_cons_zero, List.set_cons_succ, List.getElem_toArray, List.getElem_cons_succ, List.getElem_cons_zero]
              refine wpAnyH_take (i := 15) (v := .bool x.last) rfl (by kernel_rfl) (by kernel_rfl) (by kernel_rfl) (by first | exact fun _ _ _ h => h | exact fun _ _ _ h => nomatch h.1) (Or.inl ⟨by rfl, fun w_ hw_ => by have c := HE.out w_ hw_ 4 _ rfl; go_simp⟩) hch0 ?_
              try simp only [Act.put, List.setIfInBounds_toArray, List.set_cons_zero, List.set_cons_succ, List.getElem_toArray, List.getElem_cons_succ, List.getElem_cons_zero]
              refine wpAnyH_ready (rs := [16]) (by kernel_rfl) (by simp) ?_
              refine AllReadyH.cons rfl (fun K hK => ?_) AllReadyH.nil
              rw [if_pos (by rfl)]
              try simp only [List.getElem_toArray, List.getElem_cons_succ, List.getElem_cons_zero]
              go_simp
              refine (HP.out _ (HF.out.chg0 (((Chg.refl none_ wr).drewN nq).drew))).mono ?_
              rintro e w5 ⟨z, t, rfl, hz9, hf⟩
              have hz := hf.chg
              refine hK.out _ _ (hz) (fun _ => ?_)
              clear hK K
              try simp only [Act.put, List.setIfInBounds_toArray, List.set_cons_zero, List.set_cons_succ, List.getElem_toArray, List.getElem_cons_succ, List.getElem_cons_zero]
              refine wpAnyH_take (i := 17) (v := .int .i64 (z : Int)) rfl (by kernel_rfl) (by kernel_rfl) (by kernel_rfl) (by first | exact fun _ _ _ h => h | exact fun _ _ _ h => nomatch h.1) (Or.inl ⟨by rfl, fun w_ hw_ => by go_simp⟩) hz ?_
              try simp only [Act.put, List.setIfInBounds_toArray, List.set_cons_zero, List.set_cons_succ, List.getElem_toArray, List.getElem_cons_succ, List.getElem_cons_zero]
              refine wpAnyH_done (by kernel_rfl) ?_ _
              obtain ⟨f1, f2⟩ := hf.facts
              have HF := Lib.hid hf
              clear hf hz hch0 hch9
              go_wp2_with (first | (go_at_call 16; refine (lLimit HF.out).mono ?_; rintro e w3 ⟨rfl, k3, hw⟩; have HF := Lib.hid (by rw [hw]; exact HF.out.quiet : FB W w3 g m c _ _); clear hw) | (go_at_call 12; refine (lHeld HF.out).mono ?_; rintro e w_ ⟨rfl, hw_⟩; have hw_ := hw_.symm; subst hw_) | (go_at_call 14; refine (lReady HF.out).mono ?_; rintro e w4 ⟨rfl, k4, hw⟩; have HF := Lib.hid (by rw [hw]; exact HF.out.quiet : FB W w4 g m c _ _); clear hw))
              go_roundw
              case rel => exact ⟨j + 1, n, t, by push_cast; rfl, rfl, hlt, hn, HF⟩
              case measure => simp [intOf]; omega
            · have q1 : (x.off : Int) + (x.data.length : Int) ≤ (n : Int) + (c : Int) := by omega
              have HP : Hid (∀ w', FB W w' g m c n s → Calls Try.prog 10 #[.pointer (some ⟨g, 0, none⟩), .int .u64 (x.off : Int), .slice x.A x.data.length x.c, .bool x.last] w' fun e w'' => ∃ z : Nat, ∃ t, e = .returned (.int .i64 (z : Int)) ∧ ((z : Int) == 9) = false ∧ FB W w'' g m c n t) := Lib.hid (fun w' h => lPut h HOL.out.2.2.1 (HI.out x HM.out w' h.chg) HOL.out.1 HOL.out.2.1 hlim)
              clear hlim
              go_wp2
              go_quiet (fail)
              go_wp2
              have hch9 : Chg none_ W wr := HF.out.chg
              refine wp_region_held_drew (S := fun x => Chg none_ W x) (by kernel_rfl) ((hch9.drewN nq).drew) (fun hch0 => ?_)
              refine wpAnyH_take (i := 0) (v := .pointer (some ⟨g, 0, none⟩)) rfl (by kernel_rfl) (by kernel_rfl) (by kernel_rfl) (by first | exact fun _ _ _ h => h | exact fun _ _ _ h => nomatch h.1) (Or.inl ⟨by rfl, fun w_ hw_ => by go_simp⟩) hch0 ?_
              try simp only [Act.put, List.setIfInBounds_toArray, List.set_cons_zero, List.set_cons_succ, List.getElem_toArray, List.getElem_cons_zero]
              refine wpAnyH_take (i := 1) (v := .slice (some ⟨b, o, none⟩) l.length cap) rfl (by kernel_rfl) (by kernel_rfl) (by kernel_rfl) (by first | exact fun _ _ _ h => h | exact fun _ _ _ h => nomatch h.1) (Or.inl ⟨by rfl, fun w_ hw_ => by go_simp⟩) hch0 ?_
              try simp only [Act.put, List.setIfInBounds_toArray, List.set_cons_zero, List.set_cons_succ, List.getElem_toArray, List.getElem_cons_succ, List.getElem_cons_zero]
              refine wpAnyH_take (i := 2) (v := .int .i64 (j : Int)) rfl (by kernel_rfl) (by kernel_rfl) (by kernel_rfl) (by first | exact fun _ _ _ h => h | exact fun _ _ _ h => nomatch h.1) (Or.inl ⟨by rfl, fun w_ hw_ => by go_simp⟩) hch0 ?_
              try simp only [Act.put, List.setIfInBounds_toArray, List.set_cons_zero, List.set_cons_succ, List.getElem_toArray, List.getElem_cons_succ, List.getElem_cons_zero]
              refine wpAnyH_take (i := 3) (v := .pointer (some ⟨b, o + j * 5, none⟩)) rfl (by kernel_rfl) (by kernel_rfl) (by kernel_rfl) (by first | exact fun _ _ _ h => h | exact fun _ _ _ h => nomatch h.1) (Or.inl ⟨by rfl, fun w_ hw_ => by go_simp⟩) hch0 ?_
              try simp only [Act.put, List.setIfInBounds_toArray, List.set_cons_zero, List.set_cons_succ, List.getElem_toArray, List.getElem_cons_succ, List.getElem_cons_zero]
              refine wpAnyH_take (i := 4) (v := .pointer (some ⟨b, o + j * 5 + 2, none⟩)) rfl (by kernel_rfl) (by kernel_rfl) (by kernel_rfl) (by first | exact fun _ _ _ h => h | exact fun _ _ _ h => nomatch h.1) (Or.inl ⟨by rfl, fun w_ hw_ => by go_simp⟩) hch0 ?_
              try simp only [Act.put, List.setIfInBounds_toArray, List.set_cons_zero, List.set_cons_succ, List.getElem_toArray, List.getElem_cons_succ, List.getElem_cons_zero]
              refine wpAnyH_take (i := 5) (v := .int .u64 (x.off : Int)) rfl (by kernel_rfl) (by kernel_rfl) (by kernel_rfl) (by first | exact fun _ _ _ h => h | exact fun _ _ _ h => nomatch h.1) (Or.inl ⟨by rfl, fun w_ hw_ => by have c := HE.out w_ hw_ 2 _ rfl; go_simp⟩) hch0 ?_
              try simp only [Act.put, List.setIfInBounds_toArray, List.set_cons_zero, List.set_cons_succ, List.getElem_toArray, List.getElem_cons_succ, List.getElem_cons_zero]
              refine wpAnyH_take (i := 6) (v := .slice (some ⟨b, o, none⟩) l.length cap) rfl (by kernel_rfl) (by kernel_rfl) (by kernel_rfl) (by first | exact fun _ _ _ h => h | exact fun _ _ _ h => nomatch h.1) (Or.inl ⟨by rfl, fun w_ hw_ => by go_simp⟩) hch0 ?_
              try simp only [Act.put, List.setIfInBounds_toArray, List.set_cons_zero, List.set_cons_succ, List.getElem_toArray, List.getElem_cons_succ, List.getElem_cons_zero]
              refine wpAnyH_take (i := 7) (v := .int .i64 (j : Int)) rfl (by kernel_rfl) (by kernel_rfl) (by kernel_rfl) (by first | exact fun _ _ _ h => h | exact fun _ _ _ h => nomatch h.1) (Or.inl ⟨by rfl, fun w_ hw_ => by go_simp⟩) hch0 ?_
              try simp only [Act.put, List.setIfInBounds_toArray, List.set_cons_zero, List.set_cons_succ, List.getElem_toArray, List.getElem_cons_succ, List.getElem_cons_zero]
              refine wpAnyH_take (i := 8) (v := .pointer (some ⟨b, o + j * 5, none⟩)) rfl (by kernel_rfl) (by kernel_rfl) (by kernel_rfl) (by first | exact fun _ _ _ h => h | exact fun _ _ _ h => nomatch h.1) (Or.inl ⟨by rfl, fun w_ hw_ => by go_simp⟩) hch0 ?_
              try simp only [Act.put, List.setIfInBounds_toArray, List.set_cons_zero, List.set_cons_succ, List.getElem_toArray, List.getElem_cons_succ, List.getElem_cons_zero]
              refine wpAnyH_take (i := 9) (v := .pointer (some ⟨b, o + j * 5 + 3, none⟩)) rfl (by kernel_rfl) (by kernel_rfl) (by kernel_rfl) (by first | exact fun _ _ _ h => h | exact fun _ _ _ h => nomatch h.1) (Or.inl ⟨by rfl, fun w_ hw_ => by go_simp⟩) hch0 ?_
              try simp only [Act.put, List.setIfInBounds_toArray, List.set_cons_zero, List.set_cons_succ, List.getElem_toArray, List.getElem_cons_succ, List.getElem_cons_zero]
              refine wpAnyH_take (i := 10) (v := .slice x.A x.data.length x.c) rfl (by kernel_rfl) (by kernel_rfl) (by kernel_rfl) (by first | exact fun _ _ _ h => h | exact fun _ _ _ h => nomatch h.1) (Or.inl ⟨by rfl, fun w_ hw_ => by have c := HE.out w_ hw_ 3 _ rfl; go_simp⟩) hch0 ?_
              try simp only [Act.put, List.setIfInBounds_toArray, List.set_cons_zero, List.set_cons_succ, List.getElem_toArray, List.getElem_cons_succ, List.getElem_cons_zero]
              refine wpAnyH_take (i := 11) (v := .slice (some ⟨b, o, none⟩) l.length cap) rfl (by kernel_rfl) (by kernel_rfl) (by kernel_rfl) (by first | exact fun _ _ _ h => h | exact fun _ _ _ h => nomatch h.1) (Or.inl ⟨by rfl, fun w_ hw_ => by go_simp⟩) hch0 ?_
              try simp only [Act.put, List.setIfInBounds_toArray, List.set_cons_zero, List.set_cons_succ, List.getElem_toArray, List.getElem_cons_succ, List.getElem_cons_zero]
              refine wpAnyH_take (i := 12) (v := .int .i64 (j : Int)) rfl (by kernel_rfl) (by kernel_rfl) (by kernel_rfl) (by first | exact fun _ _ _ h => h | exact fun _ _ _ h => nomatch h.1) (Or.inl ⟨by rfl, fun w_ hw_ => by go_simp⟩) hch0 ?_
              try simp only [Act.put, List.setIfInBounds_toArray, List.set_cons_zero, List.set_cons_succ, List.getElem_toArray, List.getElem_cons_succ, List.getElem_cons_zero]
              refine wpAnyH_take (i := 13) (v := .pointer (some ⟨b, o + j * 5, none⟩)) rfl (by kernel_rfl) (by kernel_rfl) (by kernel_rfl) (by first | exact fun _ _ _ h => h | exact fun _ _ _ h => nomatch h.1) (Or.inl ⟨by rfl, fun w_ hw_ => by go_simp⟩) hch0 ?_
              try simp only [Act.put, List.setIfInBounds_toArray, List.set_cons_zero, List.set_cons_succ, List.getElem_toArray, List.getElem_cons_succ, List.getElem_cons_zero]
              refine wpAnyH_take (i := 14) (v := .pointer (some ⟨b, o + j * 5 + 4, none⟩)) rfl (by kernel_rfl) (by kernel_rfl) (by kernel_rfl) (by first | exact fun _ _ _ h => h | exact fun _ _ _ h => nomatch h.1) (Or.inl ⟨by rfl, fun w_ hw_ => by go_simp⟩) hch0 ?_
              try simp only [Act.put, List.setIfInBounds_toArray, List.set_cons_zero, List.set_cons_succ, List.getElem_toArray, List.getElem_cons_succ, List.getElem_cons_zero]
              refine wpAnyH_take (i := 15) (v := .bool x.last) rfl (by kernel_rfl) (by kernel_rfl) (by kernel_rfl) (by first | exact fun _ _ _ h => h | exact fun _ _ _ h => nomatch h.1) (Or.inl ⟨by rfl, fun w_ hw_ => by have c := HE.out w_ hw_ 4 _ rfl; go_simp⟩) hch0 ?_
              try simp only [Act.put, List.setIfInBounds_toArray, List.set_cons_zero, List.set_cons_succ, List.getElem_toArray, List.getElem_cons_succ, List.getElem_cons_zero]
              refine wpAnyH_ready (rs := [16]) (by kernel_rfl) (by simp) ?_
              refine AllReadyH.cons rfl (fun K hK => ?_) AllReadyH.nil
              rw [if_pos (by rfl)]
              try simp only [List.getElem_toArray, List.getElem_cons_succ, List.getElem_cons_zero]
              go_simp
              refine (HP.out _ (HF.out.chg0 (((Chg.refl none_ wr).drewN nq).drew))).mono ?_
              rintro e w5 ⟨z, t, rfl, hz9, hf⟩
              have hz := hf.chg
              refine hK.out _ _ (hz) (fun _ => ?_)
              clear hK K
              try simp only [Act.put, List.setIfInBounds_toArray, List.set_cons_zero, List.set_cons_succ, List.getElem_toArray, List.getElem_cons_succ, List.getElem_cons_zero]
              refine wpAnyH_take (i := 17) (v := .int .i64 (z : Int)) rfl (by kernel_rfl) (by kernel_rfl) (by kernel_rfl) (by first | exact fun _ _ _ h => h | exact fun _ _ _ h => nomatch h.1) (Or.inl ⟨by rfl, fun w_ hw_ => by go_simp⟩) hz ?_
              try simp only [Act.put, List.setIfInBounds_toArray, List.set_cons_zero, List.set_cons_succ, List.getElem_toArray, List.getElem_cons_succ, List.getElem_cons_zero]
              refine wpAnyH_done (by kernel_rfl) ?_ _
              obtain ⟨f1, f2⟩ := hf.facts
              have HF := Lib.hid hf
              clear hf hz hch0 hch9
              go_wp2_with (first | (go_at_call 16; refine (lLimit HF.out).mono ?_; rintro e w3 ⟨rfl, k3, hw⟩; have HF := Lib.hid (by rw [hw]; exact HF.out.quiet : FB W w3 g m c _ _); clear hw) | (go_at_call 12; refine (lHeld HF.out).mono ?_; rintro e w_ ⟨rfl, hw_⟩; have hw_ := hw_.symm; subst hw_) | (go_at_call 14; refine (lReady HF.out).mono ?_; rintro e w4 ⟨rfl, k4, hw⟩; have HF := Lib.hid (by rw [hw]; exact HF.out.quiet : FB W w4 g m c _ _); clear hw))
              go_roundw
              case rel => exact ⟨j + 1, n, t, by push_cast; rfl, rfl, hlt, hn, HF⟩
              case measure => simp [intOf]; omega
          · have o1 : (1099511627776 : Int) < (x.off : Int) := by omega
            have f1 := HF.out.facts
            obtain ⟨f1, f2⟩ := f1
            clear ho
            go_wp2_with (first | (go_at_call 16; refine (lLimit HF.out).mono ?_; rintro e w3 ⟨rfl, k3, hw⟩; have HF := Lib.hid (by rw [hw]; exact HF.out.quiet : FB W w3 g m c _ _); clear hw) | (go_at_call 12; refine (lHeld HF.out).mono ?_; rintro e w_ ⟨rfl, hw_⟩; have hw_ := hw_.symm; subst hw_) | (go_at_call 14; refine (lReady HF.out).mono ?_; rintro e w4 ⟨rfl, k4, hw⟩; have HF := Lib.hid (by rw [hw]; exact HF.out.quiet : FB W w4 g m c _ _); clear hw))
            go_roundw
            case rel => exact ⟨j + 1, n, s, by push_cast; rfl, rfl, hlt, hn, HF⟩
            case measure => simp [intOf]; omega
      · have k1 : (l.length : Int) ≤ (j : Int) := by omega
        go_wp2_with (go_at_call 8; refine (HAL.out _).mono ?_; rintro e w9 ⟨rfl, hc⟩; have HC := Lib.hid (HF.out.chg.trans hc); clear hc)
        go_ret
        exact ⟨rfl, HC.out⟩
end Go.Proofs.Ytbmhoijdbhokaaa
