/- Layer 16 (reasm): the law ReasmSizes. -/
import Derived.Test.YtbmhoijdbhokaaaV16Alive
namespace Go.Proofs.Ytbmhoijdbhokaaa
open Go.RowKit

theorem u8_nat {x : Int} (h : (Lit.int .u8 x).wf = true) : ∃ a : Nat, x = (a : Int) ∧ a < 256 := by
  rw [show (Lit.int .u8 x).wf = (decide (0 ≤ x) && decide (x ≤ 255)) from rfl] at h
  simp at h
  exact ⟨x.toNat, by omega, by omega⟩
theorem putE_0 {s : Rb} {off n : Nat} {last : Bool} (h1 : off + n ≤ 4611686018427387903) (h2 : off + n ≤ s.rd + s.win) (h3 : s.kn = true → off + n ≤ s.top) (h4 : last = true → s.top ≤ off + n) : putE s off n last = 0 := by
  unfold putE
  rw [if_neg (by omega), if_neg (by omega), if_neg]
  rintro (⟨h, h5⟩ | ⟨h, h5⟩)
  · have := h3 h; omega
  · have := h4 h; omega
theorem putE_9 {s : Rb} {off n : Nat} {last : Bool} (h1 : off + n ≤ 4611686018427387903) (h2 : s.rd + s.win < off + n) : putE s off n last = 9 := by
  unfold putE
  rw [if_neg (by omega), if_pos h2]
theorem putE_10 {s : Rb} {off n : Nat} {last : Bool} (h1 : off + n ≤ 4611686018427387903) (h2 : off + n ≤ s.rd + s.win) (h3 : s.kn = true ∧ s.top < off + n ∨ last = true ∧ off + n < s.top) : putE s off n last = 10 := by
  unfold putE
  rw [if_neg (by omega), if_neg (by omega), if_pos h3]
/-- A row of the caller's, as what lay ahead of the law. -/
theorem row_ahead {w : World} {A : Option Addr} {n : Nat} {xs : List Value} (h : View w (fun _ => True) A n xs) : View w (fun b => b < w.heap.size) A n xs := h.mono (fun _ hb _ => hb)
theorem ahead2 {W : World} {g m : Nat} (hg : W.heap.size ≤ g) (hm : W.heap.size ≤ m) : ∀ b, b < W.heap.size → ¬ of2 g m b := fun b hb h => by rcases h with h | h <;> omega

set_option maxRecDepth 100000 in
set_option maxHeartbeats 4000000 in
theorem walk_ReasmSizes (A : Option Addr) (len cap : Nat) (zs : List Int) (x y : Int) (W : World) (hz : IsRow .u8 W A len cap zs) (hx : (Lit.int .u8 x).wf = true) (hy : (Lit.int .u8 y).wf = true) :
    Calls Try.prog 6 #[.slice A len cap, .int .u8 x, .int .u8 y] W fun e w' => e = .returned (.bool true) ∧ Chg none_ W w' := by
  obtain ⟨xs, rfl, hcap, hmx, hb, hv⟩ := hz.u8
  obtain ⟨a, rfl, ha⟩ := u8_nat hx
  obtain ⟨c, rfl, hc⟩ := u8_nat hy
  have HAL := Lib.hid (alive_any W)
  have HV : Hid (∀ w', Chg none_ W w' → View w' (fun b => b < W.heap.size) A xs.length (u8s xs)) := Lib.hid (fun w' h => (row_ahead hv).chg h (fun _ _ h => h))
  have HB := Lib.hid hb
  clear hz hx hy hv hb hmx
  by_cases hl : xs.length ≤ 100
  · have l1 : (xs.length : Int) ≤ 100 := by omega
    have a1 : (a : Int) ≤ 255 := by omega
    have a0 : (0 : Int) ≤ (a : Int) := by omega
    have c1 : (c : Int) ≤ 255 := by omega
    have c0 : (0 : Int) ≤ (c : Int) := by omega
    have HNW : Hid (∀ w, Calls Try.prog 9 #[.int .i64 400] w fun e w' => ∃ g m, e = .returned (.pointer (some ⟨g, 0, none⟩)) ∧ w.heap.size ≤ g ∧ w.heap.size ≤ m ∧ BA w' g m (newB 400) ∧ Chg none_ w w') :=
      Lib.hid (fun w => (bNew_any 400 (by decide) w).mono (by rintro e w' ⟨g, m, h1, h2, h3, h4, h5⟩; exact ⟨g, m, h1, h2, h3, ⟨h4, newB_ok (by decide)⟩, h5⟩))
    obtain ⟨n, hn⟩ : ∃ n, n = xs.length := ⟨_, rfl⟩
    have HP1 : Hid (∀ w g m, BA w g m (newB 400) → Chg none_ W w → W.heap.size ≤ g → W.heap.size ≤ m → Calls Try.prog 10 #[.pointer (some ⟨g, 0, none⟩), .int .u64 (a : Int), .slice A n cap, .bool true] w fun e w' => e = .returned (.int .i64 0) ∧ ∃ s, s.win = 400 ∧ s.rd = 0 ∧ s.top = a + n ∧ s.kn = true ∧ BA w' g m s ∧ Chg none_ W w') := Lib.hid (fun w g m h hc hg hm => by
      rw [hn]
      refine (cPut0 h HB.out (ahead2 hg hm) (HV.out w hc) (putE_0 (by omega) (by simp only [newB]; omega) (fun h => by cases h) (fun _ => Nat.zero_le _))).mono ?_
      rintro e w' ⟨rfl, t, h1, h2, h3⟩
      exact ⟨rfl, t, h1.win, h1.rd, by rw [h1.top]; exact Nat.zero_max _, by rw [h1.kn]; rfl, h2, chg2 hc h3 hg hm⟩)
    have HP2 : Hid (∀ w g m s A' c', s.win = 400 → s.rd = 0 → s.top = a + n → s.kn = true → BA w g m s → Chg none_ W w → W.heap.size ≤ g → W.heap.size ≤ m → Calls Try.prog 10 #[.pointer (some ⟨g, 0, none⟩), .int .u64 ((a : Int) + (n : Int)), .slice A' 1 c', .bool false] w fun e w' => e = .returned (.int .i64 10) ∧ Chg none_ W w') := Lib.hid (fun w g m s A' c' h1 h2 h3 h4 h hc hg hm => by
      refine (cPutE (off := a + n) (data := [1]) h (by omega) (by decide) 10 (putE_10 (by simp only [List.length_cons, List.length_nil]; omega) (by simp only [List.length_cons, List.length_nil]; omega) (Or.inl ⟨h4, by simp only [List.length_cons, List.length_nil]; omega⟩)) (by decide)).mono ?_
      rintro e w' ⟨rfl, _, h6⟩
      exact ⟨rfl, chg2 hc h6 hg hm⟩)
    have HSZ : Hid (∀ w g m s, s.top = a + n → s.kn = true → BA w g m s → Calls Try.prog 18 #[.pointer (some ⟨g, 0, none⟩)] w fun e w' => e = .returned (.tuple #[.int .u64 ((a : Int) + (n : Int)), .bool true]) ∧ w' = w) := Lib.hid (fun w g m s h3 h4 h => by
      have := bSize_any g m s w h.at_
      rw [h4, h3, if_pos rfl] at this
      push_cast at this
      exact this)
    rw [← hn] at l1 hcap ⊢
    have HN := Lib.hid hn
    have hn1 : n ≤ 100 := by omega
    have n0 : (0 : Int) ≤ (n : Int) := by omega
    clear hn hl
    by_cases he : c = a + n
    · have HF : Hid (∀ w g m s, s.win = 400 → s.rd = 0 → s.top = a + n → s.kn = true → BA w g m s → Chg none_ W w → W.heap.size ≤ g → W.heap.size ≤ m → Calls Try.prog 19 #[.pointer (some ⟨g, 0, none⟩), .int .u64 ((a : Int) + (n : Int))] w fun e w' => e = .returned (.int .i64 0) ∧ ∃ t, t.win = 400 ∧ t.rd = 0 ∧ t.top = a + n ∧ t.kn = true ∧ BA w' g m t ∧ Chg none_ W w') := Lib.hid (fun w g m s h1 h2 h3 h4 h hc hg hm => by
        rw [show (a : Int) + (n : Int) = (c : Int) by omega]
        refine (cFin0 h (by omega) (putE_0 (by omega) (by omega) (fun _ => by omega) (fun _ => by omega))).mono ?_
        rintro e w' ⟨rfl, t, h6, h7, h8⟩
        exact ⟨rfl, t, h6.win.trans h1, h6.rd.trans h2, by rw [h6.top, h3]; simp; omega, by rw [h6.kn, h4]; rfl, h7, chg2 hc h8 hg hm⟩)
      have e2 : (c : Int) = (a : Int) + (n : Int) := by omega
      clear he
      go_enter Try.func6, Try.ntmps6
      go_wp2_with (first | (go_at_call 8; refine HAL.out.mono ?_; rintro e w0 ⟨rfl, hc⟩; have HC := Lib.hid hc; clear hc) | (go_at_call 9; refine (HNW.out _).mono ?_; rintro e w1 ⟨g, m, rfl, hg, hm, hb, hc⟩; have HG := Lib.hid (And.intro (Nat.le_trans HC.out.size hg) (Nat.le_trans HC.out.size hm)); have HB2 := Lib.hid hb; have HC := Lib.hid (HC.out.trans hc); clear hg hm hb hc) | ((with_reducible show Calls _ 10 #[_, _, _, .bool true] _ _); refine (HP1.out _ _ _ HB2.out HC.out HG.out.1 HG.out.2).mono ?_; rintro e w2 ⟨rfl, s, h1, h2, h3, h4, hb, hc⟩; have HS := Lib.hid (And.intro h1 (And.intro h2 (And.intro h3 h4))); have HB2 := Lib.hid hb; have HC := Lib.hid hc; clear h1 h2 h3 h4 hb hc) | (go_at_call 18; refine (HSZ.out _ _ _ _ HS.out.2.2.1 HS.out.2.2.2 HB2.out).mono ?_; rintro e w_ ⟨rfl, hw_⟩; have hw_ := hw_.symm; subst hw_) | (go_at_call 19; refine (HF.out _ _ _ _ HS.out.1 HS.out.2.1 HS.out.2.2.1 HS.out.2.2.2 HB2.out HC.out HG.out.1 HG.out.2).mono ?_; rintro e w3 ⟨rfl, s3, h1, h2, h3, h4, hb, hc⟩; have HS := Lib.hid (And.intro h1 (And.intro h2 (And.intro h3 h4))); have HB2 := Lib.hid hb; have HC := Lib.hid hc; clear h1 h2 h3 h4 hb hc) | ((with_reducible show wpList _ _ _ (⟨some 42, _, _, _, _, _⟩ :: _) _ _); refine wpList_new_row (v := fun g => .slice (some ⟨g, 0, none⟩) 1 1) (e := 5) (cs := [.int .u8 1]) rfl (fun w_ => by go_simp) ?_; intro w4 hr hx hs; have HB2 := Lib.hid (HB2.out.chg hx (fun h => h) (fun h => h)); have HC := Lib.hid (HC.out.trans hx); clear hr hx hs) | ((with_reducible show Calls _ 10 #[_, _, _, .bool false] _ _); refine (HP2.out _ _ _ _ _ _ HS.out.1 HS.out.2.1 HS.out.2.2.1 HS.out.2.2.2 HB2.out HC.out HG.out.1 HG.out.2).mono ?_; rintro e w5 ⟨rfl, hc⟩; have HC := Lib.hid hc; clear hc))
      go_ret
      exact ⟨rfl, HC.out⟩
    · have HF : Hid (∀ w g m s, s.win = 400 → s.rd = 0 → s.top = a + n → s.kn = true → BA w g m s → Chg none_ W w → W.heap.size ≤ g → W.heap.size ≤ m → Calls Try.prog 19 #[.pointer (some ⟨g, 0, none⟩), .int .u64 (c : Int)] w fun e w' => e = .returned (.int .i64 10) ∧ ∃ t, t.win = 400 ∧ t.rd = 0 ∧ t.top = a + n ∧ t.kn = true ∧ BA w' g m t ∧ Chg none_ W w') := Lib.hid (fun w g m s h1 h2 h3 h4 h hc hg hm => by
        refine (cFinE h (by omega) 10 (putE_10 (by omega) (by omega) (by rcases Nat.lt_or_ge c (a + n) with h | h; exact Or.inr ⟨rfl, by omega⟩; exact Or.inl ⟨h4, by omega⟩)) (by decide)).mono ?_
        rintro e w' ⟨rfl, h7, h8⟩
        exact ⟨rfl, s, h1, h2, h3, h4, h7, chg2 hc h8 hg hm⟩)
      have e2 : ((c : Int) == (a : Int) + (n : Int)) = false := by rw [beq_eq_false_iff_ne]; omega
      go_enter Try.func6, Try.ntmps6
      go_wp2_with (first | (go_at_call 8; refine HAL.out.mono ?_; rintro e w0 ⟨rfl, hc⟩; have HC := Lib.hid hc; clear hc) | (go_at_call 9; refine (HNW.out _).mono ?_; rintro e w1 ⟨g, m, rfl, hg, hm, hb, hc⟩; have HG := Lib.hid (And.intro (Nat.le_trans HC.out.size hg) (Nat.le_trans HC.out.size hm)); have HB2 := Lib.hid hb; have HC := Lib.hid (HC.out.trans hc); clear hg hm hb hc) | ((with_reducible show Calls _ 10 #[_, _, _, .bool true] _ _); refine (HP1.out _ _ _ HB2.out HC.out HG.out.1 HG.out.2).mono ?_; rintro e w2 ⟨rfl, s, h1, h2, h3, h4, hb, hc⟩; have HS := Lib.hid (And.intro h1 (And.intro h2 (And.intro h3 h4))); have HB2 := Lib.hid hb; have HC := Lib.hid hc; clear h1 h2 h3 h4 hb hc) | (go_at_call 18; refine (HSZ.out _ _ _ _ HS.out.2.2.1 HS.out.2.2.2 HB2.out).mono ?_; rintro e w_ ⟨rfl, hw_⟩; have hw_ := hw_.symm; subst hw_) | (go_at_call 19; refine (HF.out _ _ _ _ HS.out.1 HS.out.2.1 HS.out.2.2.1 HS.out.2.2.2 HB2.out HC.out HG.out.1 HG.out.2).mono ?_; rintro e w3 ⟨rfl, s3, h1, h2, h3, h4, hb, hc⟩; have HS := Lib.hid (And.intro h1 (And.intro h2 (And.intro h3 h4))); have HB2 := Lib.hid hb; have HC := Lib.hid hc; clear h1 h2 h3 h4 hb hc) | ((with_reducible show wpList _ _ _ (⟨some 42, _, _, _, _, _⟩ :: _) _ _); refine wpList_new_row (v := fun g => .slice (some ⟨g, 0, none⟩) 1 1) (e := 5) (cs := [.int .u8 1]) rfl (fun w_ => by go_simp) ?_; intro w4 hr hx hs; have HB2 := Lib.hid (HB2.out.chg hx (fun h => h) (fun h => h)); have HC := Lib.hid (HC.out.trans hx); clear hr hx hs) | ((with_reducible show Calls _ 10 #[_, _, _, .bool false] _ _); refine (HP2.out _ _ _ _ _ _ HS.out.1 HS.out.2.1 HS.out.2.2.1 HS.out.2.2.2 HB2.out HC.out HG.out.1 HG.out.2).mono ?_; rintro e w5 ⟨rfl, hc⟩; have HC := Lib.hid hc; clear hc))
      go_ret
      exact ⟨rfl, HC.out⟩
  · have l1 : (100 : Int) < (xs.length : Int) := by omega
    go_enter Try.func6, Try.ntmps6
    go_wp2_with (go_at_call 8; refine HAL.out.mono ?_; rintro e w0 ⟨rfl, hc⟩; have HC := Lib.hid hc; clear hc)
    go_ret
    exact ⟨rfl, HC.out⟩
end Go.Proofs.Ytbmhoijdbhokaaa
