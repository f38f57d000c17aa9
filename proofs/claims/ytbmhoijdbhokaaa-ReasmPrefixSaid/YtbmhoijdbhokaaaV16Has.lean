/- Layer 16 (reasm): Has; each call, by what a buffer is. -/
import Derived.Test.YtbmhoijdbhokaaaV16Put
import Derived.Test.YtbmhoijdbhokaaaV16Read
namespace Go.Proofs.Ytbmhoijdbhokaaa
open Go.RowKit

/-- Have all places from lo on, below hi, come? -/
def hasB (s : Rb) (lo hi : Nat) : Bool := (List.range' lo (hi - lo)).all (cameB s)
theorem hasB_no {s : Rb} {lo hi p : Nat} (h1 : lo ≤ p) (h2 : p < hi) (h : cameB s p = false) : hasB s lo hi = false := by
  unfold hasB
  rw [List.all_eq_false]
  exact ⟨p, by rw [List.mem_range'_1]; omega, by rw [h]; decide⟩
theorem hasB_yes {s : Rb} {lo hi : Nat} (h : ∀ p, lo ≤ p → p < hi → cameB s p = true) : hasB s lo hi = true := by
  unfold hasB
  rw [List.all_eq_true]
  intro p hp
  rw [List.mem_range'_1] at hp
  exact h p (by omega) (by omega)

set_option maxRecDepth 100000 in
set_option maxHeartbeats 4000000 in
theorem has_any (g m lo hi : Nat) (s : Rb) (hs : s.Ok) (hh : hi ≤ 4611686018427387904) (hl : lo ≤ 4611686018427387904) (w : World) (hr : BufAt w g m s) :
    Calls Try.prog 21 #[.pointer (some ⟨g, 0, none⟩), .int .u64 (lo : Int), .int .u64 (hi : Int)] w fun e w' => e = .returned (.bool (hasB s lo hi)) ∧ w' = w := by
  obtain ⟨c0, c1, c2, c3, c4, c5⟩ := hr.cells
  have hgap := hs.core.gap_le
  have hfar := hs.core.far
  have HC := Lib.hid (fun p => came_any g m s hs.core p w hr)
  have HB : Hid (∀ p, lo ≤ p → p < max lo s.gap → cameB s p = true) := Lib.hid (fun p h1 h2 => by obtain ⟨x, hx⟩ := hs.core.below p (by omega); unfold cameB; rw [hx]; rfl)
  obtain ⟨st, hst⟩ : ∃ st, st = max lo s.gap := ⟨_, rfl⟩
  rw [← hst] at HB
  have HST := Lib.hid hst
  have hst1 : st ≤ 4611686018427587903 := by omega
  have hst2 : lo ≤ st := by omega
  have hmx : (s.gap : Int) ≤ (lo : Int) ∧ (st : Int) = (lo : Int) ∨ (lo : Int) < (s.gap : Int) ∧ (st : Int) = (s.gap : Int) := by omega
  clear hr hs hst
  rcases hmx with ⟨m1, m2⟩ | ⟨m1, m2⟩
  all_goals
    have HM2 := Lib.hid m2
    clear m2
    go_enter Try.func21, Try.ntmps21
    go_wp2
    go_loopw [7] (fun x wr => ∃ p : Nat, x = .int .u64 (p : Int) ∧ lo ≤ p ∧ (p ≤ st ∨ p ≤ hi) ∧ Hid (∀ q, lo ≤ q → q < p → cameB s q = true) ∧ wr = w) (fun x _ => hi - (intOf x).toNat)
    case atStart => exact ⟨st, by rw [← HM2.out], hst2, Or.inl (Nat.le_refl _), HB, rfl⟩
    case round =>
      obtain ⟨p, rfl, hp1, hp2, HP, rfl⟩ := hrel
      rcases Nat.lt_or_ge p hi with hlt | hge
      · have k1 : (p : Int) < (hi : Int) := by omega
        have k2 : (p : Int) ≤ 4611686018427587903 := by omega
        cases hc : cameB s p
        · have HN := Lib.hid (hasB_no hp1 hlt hc)
          have HCC : Hid (Calls Try.prog 24 #[.pointer (some ⟨g, 0, none⟩), .int .u64 (p : Int)] wr fun e w' => e = .returned (.bool false) ∧ w' = wr) := Lib.hid (by rw [← hc]; exact HC.out p)
          clear hc
          go_wp2_with (go_at_call 24; refine HCC.out.mono ?_; rintro e w9 ⟨rfl, rfl⟩)
          go_ret
          exact ⟨by rw [HN.out]; rfl, rfl⟩
        · have HN : Hid (∀ q, lo ≤ q → q < p + 1 → cameB s q = true) := Lib.hid (fun q h1 h2 => by
            rcases Nat.lt_or_ge q p with h | h
            · exact HP.out q h1 h
            · rw [show q = p by omega]; exact hc)
          have HCC : Hid (Calls Try.prog 24 #[.pointer (some ⟨g, 0, none⟩), .int .u64 (p : Int)] wr fun e w' => e = .returned (.bool true) ∧ w' = wr) := Lib.hid (by rw [← hc]; exact HC.out p)
          clear hc
          go_wp2_with (go_at_call 24; refine HCC.out.mono ?_; rintro e w9 ⟨rfl, rfl⟩)
          go_roundw
          case rel => exact ⟨p + 1, by push_cast; rfl, by omega, by omega, HN, trivial⟩
          case measure => simp [intOf]; omega
      · have k1 : (hi : Int) ≤ (p : Int) := by omega
        have HN : Hid (hasB s lo hi = true) := Lib.hid (hasB_yes (fun q h1 h2 => HP.out q h1 (by omega)))
        go_wp2
        go_ret
        exact ⟨by rw [HN.out]; rfl, rfl⟩

/-- The buffer lies there, and is one. -/
structure BA (w : World) (g m : Nat) (s : Rb) : Prop where
  at_ : BufAt w g m s
  ok : s.Ok
theorem BA.chg {S : Nat → Prop} {w w' : World} {g m : Nat} {s : Rb} (h : BA w g m s) (hc : Chg S w w') (hg : ¬ S g) (hm : ¬ S m) : BA w' g m s := ⟨h.at_.chg hc hg hm, h.ok⟩

section
variable {w : World} {g m off cap : Nat} {s : Rb} {data : List Nat} {last : Bool} {A : Option Addr} {T : Nat → Prop}
theorem cPut0 (h : BA w g m s) (hb : ∀ x ∈ data, x < 256) (hT : ∀ b, T b → ¬ of2 g m b) (hv : View w T A data.length (u8s data)) (he : putE s off data.length last = 0) :
    Calls Try.prog 10 #[.pointer (some ⟨g, 0, none⟩), .int .u64 (off : Int), .slice A data.length cap, .bool last] w fun e w' => e = .returned (.int .i64 0) ∧ ∃ t, PutS s t off data last ∧ BA w' g m t ∧ Chg (of2 g m) w w' :=
  (put_good g m off s h.ok data hb last A cap T hT w h.at_ hv he).mono (by
    rintro e w' ⟨rfl, t, h1, h2, h3⟩
    exact ⟨rfl, t, h1, ⟨h2, h1.ok⟩, h3⟩)
theorem cPutE (h : BA w g m s) (hoff : off < 18446744073709551616) (hlen : data.length ≤ 4611686018427387904) (c : Nat) (he : putE s off data.length last = c) (hc : c ≠ 0) :
    Calls Try.prog 10 #[.pointer (some ⟨g, 0, none⟩), .int .u64 (off : Int), .slice A data.length cap, .bool last] w fun e w' => e = .returned (.int .i64 (c : Int)) ∧ BA w' g m s ∧ Chg (of2 g m) w w' :=
  (put_bad g m off s h.ok data last A cap w h.at_ hoff hlen (by rw [he]; exact hc)).mono (by
    rintro e w' ⟨rfl, t, h1, h2, h3, h4⟩
    have := h2 (by rw [he]; exact hc)
    subst this
    exact ⟨by rw [he], ⟨h3, h.ok⟩, h4⟩)
theorem cFin0 (h : BA w g m s) (hoff : off < 18446744073709551616) (he : putE s off 0 true = 0) :
    Calls Try.prog 19 #[.pointer (some ⟨g, 0, none⟩), .int .u64 (off : Int)] w fun e w' => e = .returned (.int .i64 0) ∧ ∃ t, PutS s t off [] true ∧ BA w' g m t ∧ Chg (of2 g m) w w' :=
  (final_any g m off s h.ok w h.at_ hoff).mono (by
    rintro e w' ⟨rfl, t, h1, h2, h3, h4⟩
    exact ⟨by rw [show putE s off ([] : List Nat).length true = 0 from he]; rfl, t, h1 he, ⟨h3, (h1 he).ok⟩, h4⟩)
theorem cFinE (h : BA w g m s) (hoff : off < 18446744073709551616) (c : Nat) (he : putE s off 0 true = c) (hc : c ≠ 0) :
    Calls Try.prog 19 #[.pointer (some ⟨g, 0, none⟩), .int .u64 (off : Int)] w fun e w' => e = .returned (.int .i64 (c : Int)) ∧ BA w' g m s ∧ Chg (of2 g m) w w' :=
  (final_any g m off s h.ok w h.at_ hoff).mono (by
    rintro e w' ⟨rfl, t, h1, h2, h3, h4⟩
    have := h2 (by rw [show putE s off ([] : List Nat).length true = c from he]; exact hc)
    subst this
    exact ⟨by rw [show putE t off ([] : List Nat).length true = c from he], ⟨h3, h.ok⟩, h4⟩)
theorem cRead (h : BA w g m s) (n : Int) (k : Nat) (hk : readK s n = k) :
    Calls Try.prog 11 #[.pointer (some ⟨g, 0, none⟩), .int .i64 n] w fun e w' => ∃ A c, e = .returned (.slice A k c) ∧ k ≤ c ∧ View w' (fun b => w.heap.size ≤ b) A k (u8s (bytesB s.B s.rd k)) ∧ BA w' g m (readS s k) ∧ Chg (of2 g m) w w' :=
  (read_any g m n s h.ok w h.at_).mono (by
    rintro e w' ⟨v, rfl, h1, h2, h3⟩
    rw [hk] at h1 h2
    obtain ⟨A, c, rfl, h4, _, h5⟩ := h1.view
    rw [bytesB_length] at h4 h5 ⊢
    have := h.ok.core.rg
    have h6 := readK_le s n
    exact ⟨A, c, rfl, h4, h5, ⟨h2, readS_ok h.ok (by omega)⟩, h3⟩)
end
/-- The gap is the first place without a byte. -/
theorem Rb.Ok.gap_eq {s : Rb} (h : s.Ok) {q : Nat} (h1 : s.B q = none) (h2 : ∀ p, p < q → ∃ x, s.B p = some x) : s.gap = q := by
  rcases Nat.lt_trichotomy s.gap q with h3 | h3 | h3
  · obtain ⟨x, hx⟩ := h2 _ h3
    rw [h.gapN] at hx
    cases hx
  · exact h3
  · obtain ⟨x, hx⟩ := h.core.below _ h3
    rw [h1] at hx
    cases hx
/-- Nothing is kept where nothing came that wasn't read. -/
theorem Core.none_held {s : Rb} (h : Core s) (h1 : ∀ p, s.rd ≤ p → s.B p = none) : s.es = [] := by
  rcases he : s.es with _ | ⟨x, l⟩
  · rfl
  · have h2 := h.look x.1
    rw [he] at h2
    have h3 : lookN (x :: l) x.1 = some x.2 := by simp [lookN]
    rw [h3] at h2
    split at h2
    · cases h2
    · rw [h1 _ (by omega)] at h2
      cases h2
end Go.Proofs.Ytbmhoijdbhokaaa
