/- Layer 1 (varint): what the reader reads: Bytes, Byte, Int, Read. -/
import Derived.Test.YtlcffjmbfpdlbaaDoorV1Reader
namespace Go.Proofs.YtlcffjmbfpdlbaaDoor
open Go.RowKit

/-- The error behind a read that finds nothing. -/
def badOf (bad : Int) : Int := if bad = 0 then 2 else bad

theorem next_no (w : World) (g : Nat) (T : Nat → Prop) (xs : List Nat) (bad : Int) (n : Nat) (h : Rd w g T xs bad) (hn : bad ≠ 0 ∨ xs.length < n) :
    Calls Tryd.prog 83 #[.pointer (some ⟨g, 0, none⟩), .int .u64 n] w fun e w' =>
      e = .returned (.tuple #[.slice none 0 0, .bool false]) ∧ Rd w' g T [] (badOf bad) ∧ Chg (· = g) w w' := by
  have HB := Lib.hid (bad_ok w g T xs bad h)
  by_cases h0 : bad = 0
  · subst h0
    have hx : xs.length < n := by rcases hn with h | h; exact absurd rfl h; exact h
    have HL := Lib.hid (left_ok w g T xs 0 h)
    have h3 : xs.length ≤ 1000000 := by obtain ⟨_, _, _, _, h3, _⟩ := h; exact h3
    have HF := Lib.hid (fail_yes w g T xs 2 h (by omega))
    clear hn h
    go_enter Tryd.func83, Tryd.ntmps83
    go_wp2_with fail
    refine wp_scope_fwd 0 rfl ?_
    go_wp2_with (first | (go_at_call 27; refine HB.out.mono ?_; rintro e w' ⟨rfl, rfl⟩) | (go_at_call 25; refine HL.out.mono ?_; rintro e w' ⟨rfl, rfl⟩))
    go_step3
    simp only [Exit.then]
    refine jump_fwd ?_
    go_wp2_with (first | (go_at_call 28; refine HF.out.mono ?_; rintro e w' ⟨rfl, hr, hc⟩))
    rw [Exit.noGoto_ret]
    go_ret2
    exact ⟨rfl, hr, hc⟩
  · have hb : (bad != 0) = true := by simpa using h0
    have hbo : badOf bad = bad := by simp [badOf, h0]
    rw [hbo]
    have hxs : xs = [] := by obtain ⟨_, _, _, _, _, _, h5⟩ := h; exact h5 h0
    subst hxs
    have HF := Lib.hid (fail_no w g T [] bad 2 h (.inl h0))
    have H := Lib.hid h
    clear hn h h0 hbo
    go_enter Tryd.func83, Tryd.ntmps83
    go_wp2_with fail
    refine wp_scope_fwd 0 rfl ?_
    go_wp2_with (first | (go_at_call 27; refine HB.out.mono ?_; rintro e w' ⟨rfl, rfl⟩))
    go_step3
    simp only [Exit.then]
    refine jump_fwd ?_
    go_wp2_with (first | (go_at_call 28; refine HF.out.mono ?_; rintro e w' ⟨rfl, rfl⟩))
    rw [Exit.noGoto_ret]
    go_ret2
    exact ⟨rfl, H.out, Chg.refl _ _⟩

/-- Is it there? -/
def there (xs : List Nat) (bad : Int) (n : Nat) : Prop := bad = 0 ∧ n ≤ xs.length

theorem bytes_ok (w : World) (g : Nat) (T : Nat → Prop) (xs : List Nat) (n : Nat) (h : Rd w g T xs 0) (hT : ¬ T g) (hn : n ≤ xs.length) :
    Calls Tryd.prog 76 #[.pointer (some ⟨g, 0, none⟩), .int .u64 n] w fun e w' =>
      ∃ A cap, e = .returned (.slice A n cap) ∧ n ≤ cap ∧ View w' (fun b => w.heap.size ≤ b) A n (u8s (xs.take n)) ∧ Rd w' g T (xs.drop n) 0 ∧ Chg (· = g) w w' := by
  have HN := Lib.hid (next_ok w g T xs n h hT hn)
  have hl : (xs.take n).length = n := by rw [List.length_take]; omega
  have hm : n ≤ 1000000 := by obtain ⟨_, _, _, _, h3, _⟩ := h; omega
  have HL := Lib.hid hl
  clear h hl
  go_enter Tryd.func76, Tryd.ntmps76
  go_wp2_with fail
  refine HN.out.mono ?_
  rintro e w1 ⟨A, cap, rfl, hc, hv, hr, hch⟩
  have HC := Lib.hid (clone_any w1 T A cap (xs.take n) (by rw [HL.out]; exact hv) (by rw [HL.out]; exact hm))
  rw [HL.out] at HC
  go_wp2_with (go_at_call 55; refine HC.out.mono ?_; rintro e w2 ⟨A2, cap2, rfl, hc2, _, hv2, hch2⟩)
  go_ret
  have hg := hr
  refine ⟨A2, cap2, rfl, hc2, hv2.mono (fun b _ hb => ?_), hr.chg hch2 (fun h => h) (fun _ _ h => h), hch.andThen hch2 (fun _ _ h => h.elim)⟩
  exact Nat.le_trans hch.size hb

theorem bytes_no (w : World) (g : Nat) (T : Nat → Prop) (xs : List Nat) (bad : Int) (n : Nat) (h : Rd w g T xs bad) (hn : bad ≠ 0 ∨ xs.length < n) :
    Calls Tryd.prog 76 #[.pointer (some ⟨g, 0, none⟩), .int .u64 n] w fun e w' =>
      ∃ A cap, e = .returned (.slice A 0 cap) ∧ Rd w' g T [] (badOf bad) ∧ Chg (· = g) w w' := by
  have HN := Lib.hid (next_no w g T xs bad n h hn)
  clear h hn
  go_enter Tryd.func76, Tryd.ntmps76
  go_wp2_with fail
  refine HN.out.mono ?_
  rintro e w1 ⟨rfl, hr, hch⟩
  have HC := Lib.hid (clone_any w1 T none 0 [] (View.none_ _ _ _) (Nat.zero_le _))
  go_wp2_with (go_at_call 55; refine HC.out.mono ?_; rintro e w2 ⟨A2, cap2, rfl, hc2, _, hv2, hch2⟩)
  go_ret
  exact ⟨A2, cap2, rfl, hr.chg hch2 (fun h => h) (fun _ _ h => h), hch.andThen hch2 (fun _ _ h => h.elim)⟩

theorem bytes_nil (w : World) (n : Nat) :
    Calls Tryd.prog 76 #[.pointer none, .int .u64 n] w fun e w' => ∃ A cap, e = .returned (.slice A 0 cap) ∧ Chg none_ w w' := by
  have HN := Lib.hid (next_nil w n)
  have HC := Lib.hid (clone_any w none_ none 0 [] (View.none_ _ _ _) (Nat.zero_le _))
  go_enter Tryd.func76, Tryd.ntmps76
  go_wp2_with (first | (go_at_call 83; refine HN.out.mono ?_; rintro e w1 ⟨rfl, rfl⟩) | (go_at_call 55; refine HC.out.mono ?_; rintro e w2 ⟨A2, cap2, rfl, hc2, _, hv2, hch2⟩))
  go_ret
  exact ⟨A2, cap2, rfl, hch2⟩

/-- Read: a reader over a copy. -/
theorem read_any (w : World) (T : Nat → Prop) (A : Option Addr) (cap : Nat) (xs : List Nat) (h : View w T A xs.length (u8s xs)) (hm : xs.length ≤ 1000000) :
    Calls Tryd.prog 24 #[.slice A xs.length cap] w fun e w' =>
      ∃ g, e = .returned (.pointer (some ⟨g, 0, none⟩)) ∧ w.heap.size ≤ g ∧ Rd w' g (fun b => w.heap.size ≤ b ∧ b ≠ g) xs 0 ∧ Chg none_ w w' := by
  have HC := Lib.hid (clone_any w T A cap xs h hm)
  clear h
  go_enter Tryd.func24, Tryd.ntmps24
  go_wp2_with (first | (go_at_call 55; refine HC.out.mono ?_; rintro e w2 ⟨A2, cap2, rfl, hc2, _, hv2, hch2⟩))
  go_ret
  refine ⟨w2.heap.size, rfl, hch2.size, ⟨A2, cap2, Row.new w2 _ [_, _], hc2, hm, ?_, fun h => absurd rfl h⟩, hch2.alloc _⟩
  exact (hv2.mono (fun b hb h => ⟨h, by omega⟩)).chg ((Chg.refl none_ w2).alloc _) (fun _ _ h => h)

def needs (f : Nat) : Nat := 2 ^ (f / 64) - 1

theorem needs_cases (f : Nat) (hf : f < 256) : (f / 64 = 0 ∧ needs f = 0) ∨ (f / 64 = 1 ∧ needs f = 1) ∨ (f / 64 = 2 ∧ needs f = 3) ∨ (f / 64 = 3 ∧ needs f = 7) := by
  have : f / 64 = 0 ∨ f / 64 = 1 ∨ f / 64 = 2 ∨ f / 64 = 3 := by omega
  rcases this with h | h | h | h <;> simp [needs, h]

theorem needs_eq (f : Nat) (hf : f < 256) : IntKind.u64.wrap (IntKind.u64.wrap (2 ^ (f / 64)) - 1) = ((needs f : Nat) : Int) := by
  rcases needs_cases f hf with ⟨h1, h2⟩ | ⟨h1, h2⟩ | ⟨h1, h2⟩ | ⟨h1, h2⟩ <;> rw [h1, h2] <;> decide

theorem and_gr1 (f : Nat) (hf : f < 256) : bits BinOp.and IntKind.u64 (f : Int) ((gr 1 : Nat) : Int) = ((f % 64 : Nat) : Int) := by
  rw [u64_and_nat f (gr 1) (by omega) (by rw [gr_1]; omega), gr_1, show (63 : Nat) = 2 ^ 6 - 1 from rfl, Nat.and_two_pow_sub_one_eq_mod]
theorem shl_or (m y : Nat) (hm : m * 256 + y < 64 * 256 ^ 7) (hy : y < 256) : bits BinOp.or IntKind.u64 (IntKind.u64.wrap ((m : Int) * 256)) (IntKind.u64.wrap (y : Int)) = ((m * 256 + y : Nat) : Int) := by
  have h7 : m * 256 + y < 4611686018427387904 := hm
  have h8 : m * 256 < 18446744073709551616 := Nat.lt_of_le_of_lt (Nat.le_add_right _ _) (Nat.lt_trans h7 (by decide))
  have h9 : y < 18446744073709551616 := Nat.lt_trans hy (by decide)
  clear hm
  have h1 := u64_or_nat (m * 256) y h8 h9
  rw [or_256 m y hy] at h1
  have e : ((m : Int) * 256) = ((m * 256 : Nat) : Int) := by omega
  have w1 : IntKind.u64.wrap ((m : Int) * 256) = (m : Int) * 256 := IntWalk.u64_in _ (by omega)
  have w2 : IntKind.u64.wrap (y : Int) = (y : Int) := IntWalk.u64_in _ (by omega)
  rw [w1, w2, e]
  exact h1

theorem int_nil (w : World) : Calls Tryd.prog 56 #[.pointer none] w fun e w' => e = .returned (.int .u64 0) ∧ w = w' := by
  have HN := Lib.hid (next_nil w 1)
  go_enter Tryd.func56, Tryd.ntmps56
  go_wp2_with fail
  refine wp_scope_fwd 0 rfl ?_
  go_wp2_with (first | (go_at_call 83; refine HN.out.mono ?_; rintro e w1 ⟨rfl, rfl⟩))
  go_step3
  simp only [Exit.then]
  refine jump_fwd ?_
  go_wp2
  rw [Exit.noGoto_ret]
  go_ret
  exact ⟨rfl, rfl⟩

/-- No first byte. -/
theorem int_no1 (w : World) (g : Nat) (T : Nat → Prop) (xs : List Nat) (bad : Int) (h : Rd w g T xs bad) (hn : bad ≠ 0 ∨ xs.length < 1) :
    Calls Tryd.prog 56 #[.pointer (some ⟨g, 0, none⟩)] w fun e w' => e = .returned (.int .u64 0) ∧ Rd w' g T [] (badOf bad) ∧ Chg (· = g) w w' := by
  have HN := Lib.hid (next_no w g T xs bad 1 h hn)
  clear h hn
  go_enter Tryd.func56, Tryd.ntmps56
  go_wp2_with fail
  refine wp_scope_fwd 0 rfl ?_
  go_wp2_with (first | (go_at_call 83; refine HN.out.mono ?_; rintro e w1 ⟨rfl, hr, hch⟩))
  go_step3
  simp only [Exit.then]
  refine jump_fwd ?_
  go_wp2
  rw [Exit.noGoto_ret]
  go_ret
  exact ⟨rfl, hr, hch⟩

/-- The others aren't all there. -/
theorem int_no2 (w : World) (g : Nat) (T : Nat → Prop) (f : Nat) (xs : List Nat) (h : Rd w g T (f :: xs) 0) (hT : ¬ T g) (hf : f < 256) (hn : xs.length < needs f) :
    Calls Tryd.prog 56 #[.pointer (some ⟨g, 0, none⟩)] w fun e w' => e = .returned (.int .u64 0) ∧ Rd w' g T [] 2 ∧ Chg (· = g) w w' := by
  have HN := Lib.hid (next_ok w g T (f :: xs) 1 h hT (by simp))
  clear h
  go_enter Tryd.func56, Tryd.ntmps56
  go_wp2_with fail
  refine wp_scope_fwd 0 rfl ?_
  go_wp2_with fail
  refine HN.out.mono ?_
  rintro e w1 ⟨A, cap, rfl, hc, hv, hr, hch⟩
  obtain ⟨b, o, rfl, _, _, hcell⟩ := hv.at_ (i := 0) (by omega)
  simp at hcell hr
  have HM := Lib.hid (next_no w1 g T xs 0 (needs f) hr (.inr hn))
  have H2 := Lib.hid hch
  clear hr hch hv hn
  go_wp2_with fail
  rw [needs_eq f hf]
  refine HM.out.mono ?_
  rintro e w2 ⟨rfl, hr2, hch2⟩
  go_wp2
  go_step3
  simp only [Exit.then]
  refine jump_fwd ?_
  go_wp2
  rw [Exit.noGoto_ret]
  go_ret
  exact ⟨rfl, hr2, H2.out.trans hch2⟩

set_option maxHeartbeats 1000000 in
/-- An integer stands there. -/
theorem int_ok (w : World) (g : Nat) (T : Nat → Prop) (f : Nat) (xs : List Nat) (h : Rd w g T (f :: xs) 0) (hT : ¬ T g) (hf : f < 256) (hx : ∀ x ∈ xs, x < 256) (hn : needs f ≤ xs.length) :
    Calls Tryd.prog 56 #[.pointer (some ⟨g, 0, none⟩)] w fun e w' =>
      e = .returned (.int .u64 (foldB (f % 64) (xs.take (needs f)) : Nat)) ∧ Rd w' g T (xs.drop (needs f)) 0 ∧ Chg (· = g) w w' := by
  have HN := Lib.hid (next_ok w g T (f :: xs) 1 h hT (by simp))
  have hG := greatest_any 1 (by simp [isW])
  have HG := Lib.hid hG
  clear h hG
  have hn7 : needs f ≤ 7 := by rcases needs_cases f hf with h | h | h | h <;> omega
  have hl : (xs.take (needs f)).length = needs f := by rw [List.length_take]; omega
  have hlt : ∀ x ∈ xs.take (needs f), x < 256 := fun x h => hx x (List.mem_of_mem_take h)
  generalize hys : xs.take (needs f) = ys at hl hlt ⊢
  have hbd : ∀ k, k ≤ ys.length → foldB (f % 64) (ys.take k) < 64 * 256 ^ 7 := fun k hk => by
    have h1 := foldB_lt (ys.take k) (fun x hx => hlt x (List.mem_of_mem_take hx)) (f % 64) 64 (by omega)
    have h2 : (ys.take k).length ≤ 7 := by rw [List.length_take]; omega
    exact Nat.lt_of_lt_of_le h1 (Nat.mul_le_mul_left _ (Nat.pow_le_pow_right (by omega) h2))
  have HB := Lib.hid hbd
  have HL := Lib.hid hl
  have HY := Lib.hid hys
  have HX := Lib.hid hlt
  clear hbd hl hys hlt hx
  go_enter Tryd.func56, Tryd.ntmps56
  go_wp2_with fail
  refine wp_scope_fwd 0 rfl ?_
  go_wp2_with fail
  refine HN.out.mono ?_
  rintro e w1 ⟨A, cap, rfl, hc, hv, hr, hch⟩
  obtain ⟨b, o, rfl, _, hTb, hcell⟩ := hv.at_ (i := 0) (by omega)
  have hbg : b ≠ g := fun e => hT (e ▸ hTb)
  simp at hcell hr
  have HM := Lib.hid (next_ok w1 g T xs (needs f) hr hT hn)
  have H2 := Lib.hid hch
  have hbl : b < w1.heap.size := by assumption
  clear hr hch hv hn
  go_wp2_with fail
  rw [needs_eq f hf]
  refine HM.out.mono ?_
  rintro e w2 ⟨A2, cap2, rfl, hc2, hv2, hr2, hch2⟩
  have hcell2 : w2.cell? ⟨b, o, none⟩ = some (.int .u8 (f : Int)) := (hch2.cell o hbl hbg).trans hcell
  rw [HY.out] at hv2
  have H3 := Lib.hid hv2
  have H4 := Lib.hid hr2
  have H5 := Lib.hid hch2
  clear hcell hv2 hr2 hch2 hbg
  go_wp2
  go_quiet ((go_at_call 80; exact Calls.quiet_of_same ((HG.out _).mono fun _ _ h => ⟨h.1, h.2.symm⟩)))
  go_wp2
  have hand := and_gr1 f hf
  rw [hand]
  clear hand
  have hn1 : needs f ≤ 7 := hn7
  go_loop [3, 37] (fun t i => ∃ k : Nat, k ≤ needs f ∧ i = .int .i64 k ∧ t = .int .u64 ((foldB (f % 64) (ys.take k) : Nat) : Int)) (fun _ i => needs f - (intOf i).toNat)
  case atStart => exact ⟨0, Nat.zero_le _, rfl, rfl⟩
  case round =>
    obtain ⟨k, hk, rfl, rfl⟩ := hrel
    by_cases hlt : k < needs f
    · obtain ⟨b2, o2, rfl, _, _, hc2⟩ := H3.out.at_ hlt
      have hyk : k < ys.length := by rw [HL.out]; exact hlt
      have hfold : foldB (f % 64) (ys.take (k + 1)) = foldB (f % 64) (ys.take k) * 256 + ys.getD k 0 := by
        rw [List.take_succ_eq_append_getElem hyk, foldB_snoc]
        simp [List.getD_eq_getElem?_getD, hyk]
      have hb1 := HB.out k (by omega)
      have hb2 := HB.out (k + 1) (by omega)
      have hy : ys.getD k 0 < 256 := by
        have := HX.out (ys[k]) (List.getElem_mem hyk)
        simpa [List.getD_eq_getElem?_getD, hyk] using this
      have hor := shl_or _ _ (hfold ▸ hb2) hy
      rw [← hfold] at hor
      have HO := Lib.hid hor
      generalize ys.getD k 0 = y at hc2 HO
      generalize hm : foldB (f % 64) (ys.take k) = m at HO ⊢
      have HM2 := Lib.hid hm
      clear hor hm hb1 hb2 hfold hy hyk
      go_wp2
      go_round
      case rel => exact ⟨k + 1, by omega, by go_num, by rw [HO.out]⟩
      case measure => simp [intOf]; omega
    · have hkn : k = needs f := by omega
      subst hkn
      go_wp2
      rw [jump_ret]
      go_ret
      have hlen := HL.out
      have h5 := (H2.out.trans H5.out).drewN nq
      refine ⟨ret_u64 ?_, H4.out.drewN nq, h5⟩
      rw [List.take_of_length_le (by omega)]
end Go.Proofs.YtlcffjmbfpdlbaaDoor
