/- Layer 16 (reasm): Put, Final. -/
import Derived.Test.YtbmhoijdbhokaaaV16Keep
namespace Go.Proofs.Ytbmhoijdbhokaaa
open Go.RowKit

theorem BufAt.drewN {w : World} {g m : Nat} {s : Rb} (h : BufAt w g m s) (k : Nat) : BufAt (w.drewN k) g m s := ⟨h.row, h.map, h.ne⟩

/-- What Put hands back, and what has turned. -/
def PutPost (g m off : Nat) (s : Rb) (data : List Nat) (last : Bool) (w : World) (e : Ending) (w' : World) : Prop :=
  e = .returned (.int .i64 ((putE s off data.length last : Nat) : Int)) ∧ ∃ t, (putE s off data.length last = 0 → PutS s t off data last) ∧ (putE s off data.length last ≠ 0 → t = s) ∧ BufAt w' g m t ∧ Chg (of2 g m) w w'

set_option maxRecDepth 100000 in
set_option maxHeartbeats 4000000 in
theorem put_bad (g m off : Nat) (s : Rb) (hs : s.Ok) (data : List Nat) (last : Bool) (A : Option Addr) (cap : Nat) (w : World) (hr : BufAt w g m s) (hoff : off < 18446744073709551616) (hlen : data.length ≤ 4611686018427387904) (hbad : putE s off data.length last ≠ 0) :
    Calls Try.prog 10 #[.pointer (some ⟨g, 0, none⟩), .int .u64 (off : Int), .slice A data.length cap, .bool last] w (PutPost g m off s data last w) := by
  unfold PutPost
  have HL := Lib.hid (bLimit_any g m s hs.core w hr)
  have hfar := hs.core.far
  have hmax := hs.max
  have HP : Hid (∀ v, putE s off data.length last = v → ∀ k, (∃ t, (putE s off data.length last = 0 → PutS s t off data last) ∧ (putE s off data.length last ≠ 0 → t = s) ∧ BufAt (w.drewN k) g m t ∧ Chg (of2 g m) w (w.drewN k))) := Lib.hid (fun v _ k => ⟨s, fun h => absurd h hbad, fun _ => rfl, hr.drewN k, (Chg.refl _ w).drewN k⟩)
  obtain ⟨c0, c1, c2, c3, c4, c5⟩ := hr.cells
  clear hr hs
  have q0 : (0 : Int) ≤ (off : Int) := by omega
  have q1 : (0 : Int) ≤ (data.length : Int) := by omega
  by_cases h1 : 4611686018427387903 < off
  · have he : putE s off data.length last = 1 := by unfold putE; rw [if_pos (by omega)]
    rw [he] at HP ⊢
    have h2 : (4611686018427387903 : Int) < (off : Int) := by omega
    go_enter Try.func10, Try.ntmps10
    go_wp2
    go_ret
    exact ⟨rfl, HP.out _ rfl 0⟩
  · have h2 : (off : Int) ≤ 4611686018427387903 := by omega
    by_cases h3 : 4611686018427387903 < off + data.length
    · have he : putE s off data.length last = 1 := by unfold putE; rw [if_pos h3]
      rw [he] at HP ⊢
      have h4 : (4611686018427387903 : Int) - (off : Int) < (data.length : Int) := by omega
      go_enter Try.func10, Try.ntmps10
      go_wp2
      go_ret
      exact ⟨rfl, HP.out _ rfl 0⟩
    · have h4 : (data.length : Int) ≤ (4611686018427387903 : Int) - (off : Int) := by omega
      by_cases h5 : s.rd + s.win < off + data.length
      · have he : putE s off data.length last = 9 := by unfold putE; rw [if_neg h3, if_pos h5]
        rw [he] at HP ⊢
        have h6 : ((s.rd + s.win : Nat) : Int) < (off : Int) + (data.length : Int) := by omega
        generalize s.rd + s.win = lim at *
        go_enter Try.func10, Try.ntmps10
        go_wp2_with (go_at_call 16; refine HL.out.mono ?_; rintro e w9 ⟨rfl, k9, rfl⟩)
        go_ret
        exact ⟨rfl, HP.out _ rfl _⟩
      · have h6 : (off : Int) + (data.length : Int) ≤ ((s.rd + s.win : Nat) : Int) := by omega
        by_cases h7 : s.kn = true ∧ s.top < off + data.length
        · have he : putE s off data.length last = 10 := by unfold putE; rw [if_neg h3, if_neg h5, if_pos (Or.inl h7)]
          rw [he] at HP ⊢
          have h8 : (s.top : Int) < (off : Int) + (data.length : Int) := by omega
          rw [h7.1] at c5
          generalize s.rd + s.win = lim at *
          clear h7
          go_enter Try.func10, Try.ntmps10
          go_wp2_with (go_at_call 16; refine HL.out.mono ?_; rintro e w9 ⟨rfl, k9, rfl⟩)
          go_ret
          exact ⟨rfl, HP.out _ rfl _⟩
        · by_cases h9 : last = true ∧ off + data.length < s.top
          · have he : putE s off data.length last = 10 := by unfold putE; rw [if_neg h3, if_neg h5, if_pos (Or.inr h9)]
            rw [he] at HP ⊢
            have h8 : (off : Int) + (data.length : Int) < (s.top : Int) := by omega
            obtain ⟨h9a, h9b⟩ := h9
            subst h9a
            generalize s.rd + s.win = lim at *
            clear h7
            cases hk : s.kn
            · rw [hk] at c5
              go_enter Try.func10, Try.ntmps10
              go_wp2_with (go_at_call 16; refine HL.out.mono ?_; rintro e w9 ⟨rfl, k9, rfl⟩)
              go_ret
              exact ⟨rfl, HP.out _ rfl _⟩
            · rw [hk] at c5
              go_enter Try.func10, Try.ntmps10
              go_wp2_with (go_at_call 16; refine HL.out.mono ?_; rintro e w9 ⟨rfl, k9, rfl⟩)
              go_ret
              exact ⟨rfl, HP.out _ rfl _⟩
          · exact absurd (by unfold putE; rw [if_neg h3, if_neg h5, if_neg (fun h => h.elim h7 h9)]) hbad

/-- The buffer behind the bytes, its top and its known set. -/
theorem BufAt.topSet {w : World} {g m : Nat} {s : Rb} (h : BufAt w g m s) (t : Nat) (k : Bool) : BufAt ((w.setCell ⟨g, 4, none⟩ (.int .u64 (t : Int))).setCell ⟨g, 5, none⟩ (.bool k)) g m { s with top := t, kn := k } :=
  ⟨(h.row.set 4 _).set 5 _, h.map.chg (((Chg.refl (· = g) w).setCell (p := ⟨g, 4, none⟩) (fun _ => rfl) _).setCell (p := ⟨g, 5, none⟩) (fun _ => rfl) _) h.ne, h.ne⟩
theorem chg_topSet {w w' : World} {g m : Nat} (h : Chg (of2 g m) w w') (t : Nat) (k : Bool) : Chg (of2 g m) w ((w'.setCell ⟨g, 4, none⟩ (.int .u64 (t : Int))).setCell ⟨g, 5, none⟩ (.bool k)) :=
  (h.setCell (p := ⟨g, 4, none⟩) (fun _ => Or.inl rfl) _).setCell (p := ⟨g, 5, none⟩) (fun _ => Or.inl rfl) _

theorem fin8 {w w8 : World} {g m off : Nat} {s t : Rb} {data : List Nat} {last : Bool} {top : Nat} {v : Int} {k : Bool} (hv : v = ((max top (off + data.length) : Nat) : Int)) (kk : Bool) (hk : k = kk) (h : BufAt w8 g m t ∧ PutS s { t with top := max top (off + data.length), kn := kk } off data last ∧ Chg (of2 g m) w w8) :
    ∃ t, PutS s t off data last ∧ BufAt ((w8.setCell ⟨g, 4, none⟩ (.int .u64 v)).setCell ⟨g, 5, none⟩ (.bool k)) g m t ∧ Chg (of2 g m) w ((w8.setCell ⟨g, 4, none⟩ (.int .u64 v)).setCell ⟨g, 5, none⟩ (.bool k)) := by
  subst hv; subst hk
  exact ⟨_, h.2.1, h.1.topSet _ _, chg_topSet h.2.2 _ _⟩
set_option maxRecDepth 100000 in
set_option maxHeartbeats 4000000 in
theorem put_good (g m off : Nat) (s : Rb) (hs : s.Ok) (data : List Nat) (hb : ∀ x ∈ data, x < 256) (last : Bool) (A : Option Addr) (cap : Nat) (T : Nat → Prop) (hT : ∀ b, T b → ¬ of2 g m b) (w : World) (hr : BufAt w g m s) (hv : View w T A data.length (u8s data)) (hgood : putE s off data.length last = 0) :
    Calls Try.prog 10 #[.pointer (some ⟨g, 0, none⟩), .int .u64 (off : Int), .slice A data.length cap, .bool last] w (fun e w' => e = .returned (.int .i64 0) ∧ ∃ t, PutS s t off data last ∧ BufAt w' g m t ∧ Chg (of2 g m) w w') := by
  have HL := Lib.hid (bLimit_any g m s hs.core w hr)
  have hfar := hs.core.far
  have hmax := hs.max
  have hh := hgood
  unfold putE at hh
  split at hh
  · cases hh
  rename_i h3
  split at hh
  · cases hh
  rename_i h5
  split at hh
  · cases hh
  rename_i h7
  clear hh
  have HK : Hid (∀ k, Calls Try.prog 22 #[.pointer (some ⟨g, 0, none⟩), .int .u64 (off : Int), .slice A data.length cap] (w.drewN k) fun e w' => e = .returned (.tuple #[]) ∧ ∃ t : Rb, w'.cell? ⟨g, 4, none⟩ = some (.int .u64 (s.top : Int)) ∧ w'.cell? ⟨g, 5, none⟩ = some (.bool s.kn) ∧ (∀ i, w'.frozen? ⟨g, i, none⟩ = false) ∧ BufAt w' g m t ∧ PutS s { t with top := max s.top (off + data.length), kn := s.kn || last } off data last ∧ Chg (of2 g m) w w') :=
    Lib.hid (fun k => (keep_any g m off s hs.core data hb (by omega) A cap T hT (w.drewN k) (hr.drewN k) (hv.drewN k)).mono (by
      rintro e w' ⟨rfl, t, q, hk, h1, h2, h4, h6, h8⟩
      have d4 := h6.row.cell 4
      have d5 := h6.row.cell 5
      simp only [cellsB, List.getElem?_cons_zero, List.getElem?_cons_succ] at d4 d5
      rw [hk.top] at d4
      rw [hk.kn] at d5
      refine ⟨rfl, { t with gap := q }, d4, d5, h6.row.frozen, h6, ?_, ((Chg.refl _ w).drewN k).trans h8⟩
      have := putS_of hs hgood hk h1 h2 h4
      rw [hk.top, hk.kn] at this
      exact this))
  obtain ⟨c0, c1, c2, c3, c4, c5⟩ := hr.cells
  clear hr hs hv hb
  have q0 : (0 : Int) ≤ (off : Int) := by omega
  have q1 : (0 : Int) ≤ (data.length : Int) := by omega
  have h2 : (off : Int) ≤ 4611686018427387903 := by omega
  have h4 : (data.length : Int) ≤ (4611686018427387903 : Int) - (off : Int) := by omega
  have h6 : (off : Int) + (data.length : Int) ≤ ((s.rd + s.win : Nat) : Int) := by omega
  clear hgood
  generalize s.rd + s.win = lim at *
  obtain ⟨top, htop⟩ : ∃ top, top = s.top := ⟨_, rfl⟩
  obtain ⟨kn, hkn⟩ : ∃ kn, kn = s.kn := ⟨_, rfl⟩
  rw [← htop] at c4 HK h7 hmax
  rw [← hkn] at c5 HK h7
  clear htop hkn
  by_cases hm : top ≤ off + data.length
  · have hM : max top (off + data.length) = off + data.length := Nat.max_eq_right hm
    have h8 : (top : Int) ≤ (off : Int) + (data.length : Int) := by omega
    cases kn
    · cases last
      · skip
        go_enter Try.func10, Try.ntmps10
        go_wp2_with (first | (go_at_call 16; refine HL.out.mono ?_; rintro e w9 ⟨rfl, k9, rfl⟩) | (go_at_call 22; refine (HK.out _).mono ?_; rintro e w8 ⟨rfl, t, d4, d5, dz, hb8, hp8, hc8⟩; have z4 := dz 4; have z5 := dz 5; have HB8 := Lib.hid (And.intro hb8 (And.intro hp8 hc8)); clear hb8 hp8 hc8 dz))
        all_goals go_ret
        all_goals exact ⟨rfl, fin8 (by omega) (false || false) (by simp) HB8.out⟩
      · skip
        go_enter Try.func10, Try.ntmps10
        go_wp2_with (first | (go_at_call 16; refine HL.out.mono ?_; rintro e w9 ⟨rfl, k9, rfl⟩) | (go_at_call 22; refine (HK.out _).mono ?_; rintro e w8 ⟨rfl, t, d4, d5, dz, hb8, hp8, hc8⟩; have z4 := dz 4; have z5 := dz 5; have HB8 := Lib.hid (And.intro hb8 (And.intro hp8 hc8)); clear hb8 hp8 hc8 dz))
        all_goals go_ret
        all_goals exact ⟨rfl, fin8 (by omega) (false || true) (by simp) HB8.out⟩
    · have he : off + data.length = top := by
        rcases Nat.lt_or_ge top (off + data.length) with h | h
        · exact absurd (Or.inl ⟨rfl, h⟩) h7
        · omega
      have hM2 : max top (off + data.length) = top := by omega
      have h9 : (off : Int) + (data.length : Int) ≤ (top : Int) := by omega
      cases last
      · skip
        go_enter Try.func10, Try.ntmps10
        go_wp2_with (first | (go_at_call 16; refine HL.out.mono ?_; rintro e w9 ⟨rfl, k9, rfl⟩) | (go_at_call 22; refine (HK.out _).mono ?_; rintro e w8 ⟨rfl, t, d4, d5, dz, hb8, hp8, hc8⟩; have z4 := dz 4; have z5 := dz 5; have HB8 := Lib.hid (And.intro hb8 (And.intro hp8 hc8)); clear hb8 hp8 hc8 dz))
        all_goals go_ret
        all_goals exact ⟨rfl, fin8 (by omega) (true || false) (by simp) HB8.out⟩
      · skip
        go_enter Try.func10, Try.ntmps10
        go_wp2_with (first | (go_at_call 16; refine HL.out.mono ?_; rintro e w9 ⟨rfl, k9, rfl⟩) | (go_at_call 22; refine (HK.out _).mono ?_; rintro e w8 ⟨rfl, t, d4, d5, dz, hb8, hp8, hc8⟩; have z4 := dz 4; have z5 := dz 5; have HB8 := Lib.hid (And.intro hb8 (And.intro hp8 hc8)); clear hb8 hp8 hc8 dz))
        all_goals go_ret
        all_goals exact ⟨rfl, fin8 (by omega) (true || true) (by simp) HB8.out⟩
  · have hM : max top (off + data.length) = top := Nat.max_eq_left (by omega)
    have h8 : (off : Int) + (data.length : Int) ≤ (top : Int) := by omega
    have h9 : (off : Int) + (data.length : Int) < (top : Int) := by omega
    cases last
    · cases kn
      · skip
        go_enter Try.func10, Try.ntmps10
        go_wp2_with (first | (go_at_call 16; refine HL.out.mono ?_; rintro e w9 ⟨rfl, k9, rfl⟩) | (go_at_call 22; refine (HK.out _).mono ?_; rintro e w8 ⟨rfl, t, d4, d5, dz, hb8, hp8, hc8⟩; have z4 := dz 4; have z5 := dz 5; have HB8 := Lib.hid (And.intro hb8 (And.intro hp8 hc8)); clear hb8 hp8 hc8 dz))
        all_goals go_ret
        all_goals exact ⟨rfl, fin8 (by omega) (false || false) (by simp) HB8.out⟩
      · skip
        go_enter Try.func10, Try.ntmps10
        go_wp2_with (first | (go_at_call 16; refine HL.out.mono ?_; rintro e w9 ⟨rfl, k9, rfl⟩) | (go_at_call 22; refine (HK.out _).mono ?_; rintro e w8 ⟨rfl, t, d4, d5, dz, hb8, hp8, hc8⟩; have z4 := dz 4; have z5 := dz 5; have HB8 := Lib.hid (And.intro hb8 (And.intro hp8 hc8)); clear hb8 hp8 hc8 dz))
        all_goals go_ret
        all_goals exact ⟨rfl, fin8 (by omega) (true || false) (by simp) HB8.out⟩
    · exact absurd (Or.inr ⟨rfl, by omega⟩) h7

theorem put_any (g m off : Nat) (s : Rb) (hs : s.Ok) (data : List Nat) (hb : ∀ x ∈ data, x < 256) (last : Bool) (A : Option Addr) (cap : Nat) (T : Nat → Prop) (hT : ∀ b, T b → ¬ of2 g m b) (w : World) (hr : BufAt w g m s) (hv : View w T A data.length (u8s data)) (hoff : off < 18446744073709551616) (hlen : data.length ≤ 4611686018427387904) :
    Calls Try.prog 10 #[.pointer (some ⟨g, 0, none⟩), .int .u64 (off : Int), .slice A data.length cap, .bool last] w (PutPost g m off s data last w) := by
  by_cases h : putE s off data.length last = 0
  · refine (put_good g m off s hs data hb last A cap T hT w hr hv h).mono ?_
    rintro e w' ⟨rfl, t, h1, h2⟩
    exact ⟨by rw [h]; rfl, t, fun _ => h1, fun h3 => absurd h h3, h2⟩
  · exact put_bad g m off s hs data last A cap w hr hoff hlen h

/-- Final: no bytes, the last ones. -/
theorem final_any (g m off : Nat) (s : Rb) (hs : s.Ok) (w : World) (hr : BufAt w g m s) (hoff : off < 18446744073709551616) :
    Calls Try.prog 19 #[.pointer (some ⟨g, 0, none⟩), .int .u64 (off : Int)] w (PutPost g m off s [] true w) := by
  have HP := Lib.hid (put_any g m off s hs [] (by simp) true none 0 (fun _ => False) (fun _ h => h.elim) w hr (View.none_ _ _ _) hoff (by simp))
  clear hr hs
  simp only [List.length_nil] at HP
  go_enter Try.func19, Try.ntmps19
  go_wp2_with (go_at_call 10; refine HP.out.mono ?_; rintro e w9 ⟨rfl, hp⟩)
  go_ret
  exact ⟨rfl, hp⟩
end Go.Proofs.Ytbmhoijdbhokaaa
