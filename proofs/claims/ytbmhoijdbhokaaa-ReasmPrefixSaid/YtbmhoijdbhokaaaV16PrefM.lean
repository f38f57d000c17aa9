/- Layer 16 (reasm): pieces of a text come to a buffer; what is read of it. -/
import Derived.Test.YtbmhoijdbhokaaaV16First
import Derived.Test.YtbmhoijdbhokaaaHigh
namespace Go.Proofs.Ytbmhoijdbhokaaa
open Go.RowKit

/-- Which places of a text came. -/
def hC (H : Nat → Bool) : List Value := (List.range 200).map fun p => .bool (H p)
theorem hC_get (H : Nat → Bool) (p : Nat) (h : p < 200) : (hC H)[p]? = some (.bool (H p)) := by simp [hC, h]
theorem hC_set (H : Nat → Bool) (k : Nat) : (hC H).set k (.bool true) = hC fun p => H p || p == k := by
  refine List.ext_getElem? fun i => ?_
  rw [List.getElem?_set]
  by_cases hi : i < 200
  · rw [hC_get _ i hi, hC_get _ i hi]
    by_cases hk : k = i
    · subst hk
      rw [if_pos rfl, if_pos (by simp [hC]; exact hi)]
      simp
    · rw [if_neg hk]
      have : (i == k) = false := by simpa using fun e => hk e.symm
      simp [this]
  · have e1 : ∀ H : Nat → Bool, (hC H)[i]? = none := fun H => List.getElem?_eq_none (by simp [hC]; omega)
    rw [e1, e1]
    split
    · rw [if_neg (by simp [hC]; omega)]
    · rfl
/-- These came, and those from one place on, below another. -/
def onH (H : Nat → Bool) (a e : Nat) : Nat → Bool := fun p => H p || (decide (a ≤ p) && decide (p < e))
theorem onH_none (H : Nat → Bool) (a : Nat) : onH H a a = H := by
  funext p
  unfold onH
  by_cases h : a ≤ p
  · simp [h, show ¬ p < a by omega]
  · simp [h]
theorem onH_step (H : Nat → Bool) (a k : Nat) (h : a ≤ k) : (fun p => onH H a k p || p == k) = onH H a (k + 1) := by
  funext p
  unfold onH
  rw [Bool.or_assoc]
  congr 1
  rw [Bool.eq_iff_iff]
  simp
  omega

/-- The buffer, plainly: what came is of the text. -/
structure PS (s : Rb) (xs : List Nat) (H : Nat → Bool) : Prop where
  win : s.win = 200
  kn : s.kn = true → s.top = xs.length
  top : s.top ≤ xs.length
  B : s.B = fun p => if H p = true then xs[p]? else none
  H : ∀ p, H p = true → p < xs.length
theorem PS.new (xs : List Nat) : PS (newB 200) xs (fun _ => false) := ⟨rfl, fun h => (by cases h), Nat.zero_le _, (by funext p; simp [newB]), fun p h => (by cases h)⟩
theorem PS.put {s t : Rb} {xs : List Nat} {H : Nat → Bool} {a e : Nat} {last : Bool} (h : PS s xs H) (ha : a ≤ e) (he : e ≤ xs.length) (hl : last = decide (e = xs.length)) (hp : PutS s t a ((xs.drop a).take (e - a)) last) : PS t xs (onH H a e) := by
  have hd : ((xs.drop a).take (e - a)).length = e - a := by rw [List.length_take, List.length_drop]; omega
  have ht : t.top = max s.top e := by rw [hp.top, hd]; congr 1; omega
  refine ⟨hp.win.trans h.win, fun hk => ?_, ?_, ?_, fun p hp => ?_⟩
  · rw [hp.kn, hl] at hk
    rw [ht]
    simp only [Bool.or_eq_true, decide_eq_true_eq] at hk
    have := h.top
    rcases hk with hk | hk
    · have := h.kn hk; omega
    · omega
  · rw [ht]; have := h.top; omega
  · rw [hp.B, h.B]
    funext p
    unfold putB onH
    simp only
    by_cases h1 : H p = true
    · have := h.H p h1
      rw [if_pos h1, List.getElem?_eq_getElem this]
      simp [h1]
    · rw [if_neg h1]
      simp only [h1, Bool.false_or, Bool.and_eq_true, decide_eq_true_eq]
      by_cases h2 : a ≤ p
      · rw [if_pos h2, List.getElem?_take]
        by_cases h3 : p < e
        · rw [if_pos (by omega), if_pos ⟨h2, h3⟩, List.getElem?_drop, show a + (p - a) = p by omega]
        · rw [if_neg (by omega), if_neg (fun x => h3 x.2)]
      · rw [if_neg h2, if_neg (fun x => h2 x.1)]
  · unfold onH at hp
    simp only [Bool.or_eq_true, Bool.and_eq_true, decide_eq_true_eq] at hp
    rcases hp with hp | hp
    · exact h.H p hp
    · omega
theorem PS.putE {s : Rb} {xs : List Nat} {H : Nat → Bool} {a e : Nat} {last : Bool} (h : PS s xs H) (hx : xs.length ≤ 200) (ha : a ≤ e) (he : e ≤ xs.length) (hl : last = decide (e = xs.length)) : putE s a (e - a) last = 0 :=
  putE_0 (by omega) (by rw [h.win]; omega) (fun hk => by have := h.kn hk; omega) (fun hk => by rw [hl] at hk; have := of_decide_eq_true hk; have := h.top; omega)
theorem PS.bytes {s : Rb} {xs : List Nat} {H : Nat → Bool} (h : PS s xs H) (hs : s.Ok) {k : Nat} (hk : s.rd + k ≤ s.gap) : bytesB s.B s.rd k = (xs.drop s.rd).take k := by
  refine List.ext_getElem? fun i => ?_
  rw [bytesB, List.getElem?_map, List.getElem?_take, List.getElem?_drop]
  rcases Nat.lt_or_ge i k with h1 | h1
  · rw [if_pos h1, List.getElem?_range h1]
    obtain ⟨x, hx⟩ := hs.core.below (s.rd + i) (by omega)
    have h2 := hx
    rw [h.B] at h2
    simp only at h2
    split at h2
    · simp only [Option.map_some]
      rw [hx, h2]
      rfl
    · cases h2
  · rw [if_neg (by omega), List.getElem?_eq_none (by simpa using h1)]
    rfl
theorem PS.gap_le {s : Rb} {xs : List Nat} {H : Nat → Bool} (h : PS s xs H) (hs : s.Ok) : s.gap ≤ xs.length := Nat.le_trans hs.gap_top h.top
theorem PS.gap_is {s : Rb} {xs : List Nat} {H : Nat → Bool} (h : PS s xs H) (hs : s.Ok) {m : Nat} (h1 : ∀ p, p < m → H p = true) (h2 : H m = false) : s.gap = m :=
  hs.gap_eq (by rw [h.B]; simp [h2]) (fun p hp => by
    have h3 := h1 p hp
    rw [h.B]
    exact ⟨xs[p]'(h.H p h3), by simp only; rw [if_pos h3, List.getElem?_eq_getElem (h.H p h3)]⟩)
theorem PS.read {s : Rb} {xs : List Nat} {H : Nat → Bool} (h : PS s xs H) (k : Nat) : PS (readS s k) xs H := ⟨h.win, h.kn, h.top, h.B, h.H⟩

/-- The law's buffer, its array of what came (Hr), what it has got (L). -/
structure PI (W w : World) (g m gh : Nat) (xs : List Nat) (Hr H : Nat → Bool) (s : Rb) (v : Value) (L : List Nat) : Prop where
  ba : BA w g m s
  row : Row w gh 27 (hC Hr)
  own : Owned w W.heap.size v L
  chg : Chg none_ W w
  lg : W.heap.size ≤ g
  lm : W.heap.size ≤ m
  lh : W.heap.size ≤ gh
  ng : gh ≠ g
  nm : gh ≠ m
  ps : PS s xs H
section
variable {W w w' : World} {g m gh cap : Nat} {xs L : List Nat} {Hr H : Nat → Bool} {s t : Rb} {v : Value} {A : Option Addr}
theorem PI.quiet (h : PI W w g m gh xs Hr H s v L) (hc : Chg none_ w w') : PI W w' g m gh xs Hr H s v L := ⟨h.ba.chg hc (fun h => h) (fun h => h), h.row.chg hc (fun h => h), h.own.chg' hc (fun _ _ h => h), h.chg.trans hc, h.lg, h.lm, h.lh, h.ng, h.nm, h.ps⟩
theorem PI.to {H' : Nat → Bool} (h : PI W w g m gh xs Hr H s v L) (hb : BA w' g m t) (hc : Chg (of2 g m) w w') (hp : PS t xs H') : PI W w' g m gh xs Hr H' t v L :=
  ⟨hb, h.row.chg hc (fun e => by rcases e with e | e; exact h.ng e; exact h.nm e), h.own.chg' hc (fun b hb e => by
    rcases e with e | e
    · exact own_far h.own h.ba.at_.row (by decide) _ hb e
    · exact own_map h.own h.ba.at_.map _ hb e), chg2 h.chg hc h.lg h.lm, h.lg, h.lm, h.lh, h.ng, h.nm, hp⟩
theorem PI.had {k : Nat} (h : PI W w g m gh xs Hr H s v L) : PI W (w.setCell ⟨gh, k, none⟩ (.bool true)) g m gh xs (fun p => Hr p || p == k) H s v L := by
  have hc : Chg (· = gh) w (w.setCell ⟨gh, k, none⟩ (.bool true)) := (Chg.refl (· = gh) w).setCell (p := ⟨gh, k, none⟩) (fun _ => rfl) _
  refine ⟨h.ba.chg hc (fun e => h.ng e.symm) (fun e => h.nm e.symm), ?_, h.own.chg' hc (own_far h.own h.row (by decide)), h.chg.andThen hc (fun b hb e => by have := h.lh; omega), h.lg, h.lm, h.lh, h.ng, h.nm, h.ps⟩
  rw [← hC_set]
  exact h.row.set k _
theorem PI.app {v' : Value} {L' : List Nat} (h : PI W w g m gh xs Hr H s v L) (hc : Chg (fun b => v.ownBlock = some b) w w') (ho : Owned w' W.heap.size v' L') : PI W w' g m gh xs Hr H s v' L' :=
  ⟨h.ba.own hc h.own, h.row.chg hc (fun e => own_far h.own h.row (by decide) _ e rfl), ho, h.chg.andThen hc (fun b hb e => by have := (h.own.lt e).2; omega), h.lg, h.lm, h.lh, h.ng, h.nm, h.ps⟩
theorem qPut {a e : Nat} {last : Bool} (h : PI W w g m gh xs Hr H s v L) (hx : xs.length ≤ 200) (hb : ∀ x ∈ xs, x < 256) (hv : View w (fun b => b < W.heap.size) A (e - a) (u8s ((xs.drop a).take (e - a)))) (ha : a ≤ e) (he : e ≤ xs.length) (hl : last = decide (e = xs.length)) :
    Calls Try.prog 10 #[.pointer (some ⟨g, 0, none⟩), .int .u64 (a : Int), .slice A (e - a) cap, .bool last] w fun e' w' => e' = .returned (.int .i64 0) ∧ ∃ t, t.rd = s.rd ∧ PI W w' g m gh xs Hr (onH H a e) t v L := by
  have hd : ((xs.drop a).take (e - a)).length = e - a := by rw [List.length_take, List.length_drop]; omega
  have hc : Calls Try.prog 10 #[.pointer (some ⟨g, 0, none⟩), .int .u64 (a : Int), .slice A ((xs.drop a).take (e - a)).length cap, .bool last] w fun e' w' => e' = .returned (.int .i64 0) ∧ ∃ t, PutS s t a ((xs.drop a).take (e - a)) last ∧ BA w' g m t ∧ Chg (of2 g m) w w' :=
    cPut0 h.ba (fun x hx => hb x (List.mem_of_mem_drop (List.mem_of_mem_take hx))) (ahead2 h.lg h.lm) (by rw [hd]; exact hv) (by rw [hd]; exact h.ps.putE hx ha he hl)
  rw [hd] at hc
  refine hc.mono ?_
  rintro e' w' ⟨rfl, t, h1, h2, h3⟩
  exact ⟨rfl, t, h1.rd, h.to h2 h3 (h.ps.put ha he hl h1)⟩
theorem qRead (h : PI W w g m gh xs Hr H s v L) (hx : xs.length ≤ 200) (r : Int) : Calls Try.prog 11 #[.pointer (some ⟨g, 0, none⟩), .int .i64 r] w fun e w' => ∃ A k c t, e = .returned (.slice A k c) ∧ View w' (fun b => w.heap.size ≤ b) A k (u8s ((xs.drop s.rd).take k)) ∧ t.rd = s.rd + k ∧ k ≤ 200 ∧ s.rd + k ≤ xs.length ∧ (1000 ≤ r → t.rd = t.gap) ∧ PI W w' g m gh xs Hr H t v L :=
  (cRead h.ba r (readK s r) rfl).mono (by
    rintro e w' ⟨A, c, rfl, h1, h2, h3, h4⟩
    have h5 := readK_le s r
    have h6 := h.ba.ok.core.rg
    have h7 := h.ps.gap_le h.ba.ok
    rw [h.ps.bytes h.ba.ok (by omega)] at h2
    refine ⟨A, _, c, readS s (readK s r), rfl, h2, rfl, by omega, by omega, fun hr => ?_, h.to h3 h4 (h.ps.read _)⟩
    show s.rd + readK s r = s.gap
    have : readK s r = s.gap - s.rd := by unfold readK; exact Nat.min_eq_right (by omega)
    omega)
theorem qHeld (h : PI W w g m gh xs Hr H s v L) : Calls Try.prog 12 #[.pointer (some ⟨g, 0, none⟩)] w fun e w' => ∃ n : Nat, e = .returned (.int .i64 (n : Int)) ∧ (n : Int) ≤ 200 ∧ w' = w :=
  (bHeld_any g m s w h.ba.at_).mono (by
    rintro e w' ⟨rfl, h1⟩
    have h2 := h.ba.ok.core.held_le
    rw [h.ps.win] at h2
    exact ⟨_, rfl, by omega, h1⟩)
theorem qReady (h : PI W w g m gh xs Hr H s v L) (hr : s.rd = s.gap) : Calls Try.prog 14 #[.pointer (some ⟨g, 0, none⟩)] w fun e w' => e = .returned (.int .i64 0) ∧ ∃ k, w' = w.drewN k := by
  have := bReady_any g m s h.ba.ok.core w h.ba.at_
  rw [hr, Nat.sub_self] at this
  exact this
theorem qNew (hw : Chg none_ W w) : Calls Try.prog 9 #[.int .i64 200] w fun e w' => ∃ g m, e = .returned (.pointer (some ⟨g, 0, none⟩)) ∧ W.heap.size ≤ g ∧ W.heap.size ≤ m ∧ BA w' g m (newB 200) ∧ Chg none_ W w' :=
  (bNew_any 200 (by decide) w).mono (by
    rintro e w' ⟨g, m, rfl, h2, h3, h4, h5⟩
    exact ⟨g, m, rfl, Nat.le_trans hw.size h2, Nat.le_trans hw.size h3, ⟨h4, newB_ok (by decide)⟩, hw.trans h5⟩)
end
theorem zeroHad : (Try.prog.info? 27).map (·.zero) = some (some (.agg (List.replicate 200 (.bool false)).toArray)) := by kernel_rfl
theorem hC_zero : List.replicate 200 (.bool false) = hC (fun _ => false) := by
  unfold hC
  rw [List.map_const', List.length_range]
end Go.Proofs.Ytbmhoijdbhokaaa
