/- Layer 1 (varint): the reader. -/
import Derived.Test.YtlcffjmbfpdlbaaDoorV1Wide
import Derived.Lib.Hide
import Derived.Lib.SliceRun
namespace Go.Proofs.YtlcffjmbfpdlbaaDoor
open Go.RowKit

/-- The reader in block g: what is left of its bytes, its error. Its bytes lie in a block of T. -/
def Rd (w : World) (g : Nat) (T : Nat → Prop) (xs : List Nat) (bad : Int) : Prop :=
  ∃ A cap, Row w g 70 [.slice A xs.length cap, .int .i64 bad] ∧ xs.length ≤ cap ∧ xs.length ≤ 1000000 ∧ View w T A xs.length (u8s xs) ∧ (bad ≠ 0 → xs = [])

theorem Rd.chg {w w' : World} {g : Nat} {T S : Nat → Prop} {xs : List Nat} {bad : Int} (h : Rd w g T xs bad) (hc : Chg S w w') (hg : ¬ S g) (hs : ∀ b, T b → ¬ S b) : Rd w' g T xs bad := by
  obtain ⟨A, cap, h1, h2, h3, h4, h5⟩ := h
  exact ⟨A, cap, h1.chg hc hg, h2, h3, h4.chg hc hs, h5⟩

theorem Rd.drewN {w : World} {g : Nat} {T : Nat → Prop} {xs : List Nat} {bad : Int} (h : Rd w g T xs bad) (k : Nat) : Rd (w.drewN k) g T xs bad := h.chg ((Chg.refl none_ w).drewN k) (fun h => h) (fun _ _ h => h)

section
variable (w : World) (g : Nat) (T : Nat → Prop) (xs : List Nat) (bad : Int)

theorem bad_ok (h : Rd w g T xs bad) : Calls Tryd.prog 27 #[.pointer (some ⟨g, 0, none⟩)] w fun e w' => e = .returned (.int .i64 bad) ∧ w = w' := by
  obtain ⟨A, cap, h1, _⟩ := h
  have hc := h1.cell 1
  clear h1
  simp at hc
  go_enter Tryd.func27, Tryd.ntmps27
  go_wp2
  go_ret
  exact ⟨rfl, rfl⟩
theorem bad_nil : Calls Tryd.prog 27 #[.pointer none] w fun e w' => e = .returned (.int .i64 1) ∧ w = w' := by
  go_enter Tryd.func27, Tryd.ntmps27
  go_wp2
  go_ret
  exact ⟨rfl, rfl⟩
theorem left_ok (h : Rd w g T xs bad) : Calls Tryd.prog 25 #[.pointer (some ⟨g, 0, none⟩)] w fun e w' => e = .returned (.int .i64 xs.length) ∧ w = w' := by
  obtain ⟨A, cap, h1, _⟩ := h
  have hc := h1.cell 0
  clear h1
  simp at hc
  go_enter Tryd.func25, Tryd.ntmps25
  go_wp2
  go_ret
  exact ⟨rfl, rfl⟩
theorem left_nil : Calls Tryd.prog 25 #[.pointer none] w fun e w' => e = .returned (.int .i64 0) ∧ w = w' := by
  go_enter Tryd.func25, Tryd.ntmps25
  go_wp2
  go_ret
  exact ⟨rfl, rfl⟩
theorem fail_nil (x : Int) : Calls Tryd.prog 28 #[.pointer none, .int .i64 x] w fun e w' => e = .returned (.tuple #[]) ∧ w = w' := by
  go_enter Tryd.func28, Tryd.ntmps28
  go_wp2_with (go_at_call 27; refine (bad_nil _).mono ?_; rintro e w' ⟨rfl, rfl⟩)
  refine bodyPost_ret (results_none rfl _ _ _) rfl ?_
  exact ⟨rfl, rfl⟩
/-- A reader that is bad, or 'no error': nothing turns. -/
theorem fail_no (x : Int) (h : Rd w g T xs bad) (hb : bad ≠ 0 ∨ x = 0) : Calls Tryd.prog 28 #[.pointer (some ⟨g, 0, none⟩), .int .i64 x] w fun e w' => e = .returned (.tuple #[]) ∧ w = w' := by
  have hcall := bad_ok w g T xs bad h
  clear h
  by_cases h0 : bad = 0
  · have hx : x = 0 := by rcases hb with h | h; exact absurd h0 h; exact h
    subst h0; subst hx
    clear hb
    have H := Lib.hid hcall
    clear hcall
    go_enter Tryd.func28, Tryd.ntmps28
    go_wp2_with (go_at_call 27; refine H.out.mono ?_; rintro e w' ⟨rfl, rfl⟩)
    refine bodyPost_ret (results_none rfl _ _ _) rfl ?_
    exact ⟨rfl, rfl⟩
  · have hx : (bad != 0) = true := by simpa using h0
    clear hb h0
    have H := Lib.hid hcall
    clear hcall
    go_enter Tryd.func28, Tryd.ntmps28
    go_wp2_with (go_at_call 27; refine H.out.mono ?_; rintro e w' ⟨rfl, rfl⟩)
    refine bodyPost_ret (results_none rfl _ _ _) rfl ?_
    exact ⟨rfl, rfl⟩
theorem fail_yes (x : Int) (h : Rd w g T xs 0) (hx : x ≠ 0) : Calls Tryd.prog 28 #[.pointer (some ⟨g, 0, none⟩), .int .i64 x] w fun e w' => e = .returned (.tuple #[]) ∧ Rd w' g T [] x ∧ Chg (· = g) w w' := by
  have H := Lib.hid (bad_ok w g T xs 0 h)
  obtain ⟨A, cap, h1, _⟩ := h
  have hc0 := h1.cell 0
  have hc1 := h1.cell 1
  have hf0 := h1.frozen 0
  have hf1 := h1.frozen 1
  simp at hc0 hc1
  have hxx : (x == 0) = false := by simpa using hx
  have H1 := Lib.hid h1
  have HX := Lib.hid hx
  clear h1 hx
  go_enter Tryd.func28, Tryd.ntmps28
  go_wp2_with (go_at_call 27; refine H.out.mono ?_; rintro e w' ⟨rfl, rfl⟩)
  go_end0
  refine ⟨rfl, ⟨none, 0, ?_, Nat.zero_le _, Nat.zero_le _, View.none_ _ _ _, fun _ => rfl⟩, ?_⟩
  · exact (H1.out.set 0 _).set 1 _
  · exact ((Chg.refl (· = g) w).setCell (p := ⟨g, 0, none⟩) (fun _ => rfl) _).setCell (p := ⟨g, 1, none⟩) (fun _ => rfl) _
end

/-- bytes.Clone: the same bytes in new memory (or nil). -/
theorem clone_any (w : World) (T : Nat → Prop) (A : Option Addr) (cap : Nat) (xs : List Nat) (h : View w T A xs.length (u8s xs)) (hm : xs.length ≤ 1000000) :
    Calls Tryd.prog 55 #[.slice A xs.length cap] w fun e w' => ∃ A' cap', e = .returned (.slice A' xs.length cap') ∧ xs.length ≤ cap' ∧ cap' ≤ maxLen ∧ View w' (fun b => w.heap.size ≤ b) A' xs.length (u8s xs) ∧ Chg none_ w w' := by
  rcases A with _ | ad
  · have hz : xs.length = 0 := by
      rcases Nat.eq_zero_or_pos xs.length with hz | hz
      · exact hz
      · obtain ⟨b, o, ha, _⟩ := h.2 hz
        cases ha
    have e1 : xs = [] := List.eq_nil_of_length_eq_zero hz
    subst e1
    clear h
    have hnil := fun w => Lib.run_eql_slice_nil (P := Tryd.prog) w 23 5 none 0 cap 0 0 Tryd.underlying23
    go_enter Tryd.func55, Tryd.ntmps55
    go_wp2
    go_ret
    exact ⟨none, 0, rfl, Nat.zero_le _, Nat.zero_le _, View.none_ _ _ _, Chg.refl _ _⟩
  · have hcells : ∀ j u, (u8s xs)[j]? = some u → w.cell? (ad.add j) = some u := by
      intro j u hu
      have hj : j < xs.length := by
        rcases Nat.lt_or_ge j xs.length with hj | hj
        · exact hj
        · rw [List.getElem?_eq_none (by simpa using hj)] at hu; cases hu
      obtain ⟨b, o, ha, _, _, hc⟩ := h.2 (by omega)
      injection ha with ha
      subst ha
      have : (⟨b, o, none⟩ : Addr).add j = ⟨b, o + j, none⟩ := by unfold Addr.add; split <;> simp_all
      rw [this, hc j hj]; exact hu
    have HC := Lib.hid hcells
    clear hcells h
    have hnil := fun w => Lib.run_eql_slice_nil (P := Tryd.prog) w 23 5 (some ad) xs.length cap 0 0 Tryd.underlying23
    obtain ⟨i0, hi, hz0, hz1, hz2⟩ := info_parts info5
    go_enter Tryd.func55, Tryd.ntmps55
    go_wp2_with (at_builtin; refine wpList_append_own_at _ rfl _ _ 23 rfl w.heap.size 5 i0 _ 1 1 Tryd.underlying23 hi hz0 hz1 hz2 rfl (by omega) _ 0 [] rfl (World.ownsRow_lit _ #[] 0 (Nat.le_refl _) (Nat.zero_le _) rfl) ad xs.length cap (u8s xs) rfl (by simp) ?c1 (u8s_one xs) (by unfold maxLen; omega) (by omega) (by simp) ?_)
    case c1 => exact fun j u hu => (World.cell?_alloc_lt _ _ _ (World.block_lt_of_cell? w _ (HC.out j u hu))).trans (HC.out j u hu)
    intro v' w1 hown hgrow _ _
    have hC : Chg none_ w w1 := ((Chg.refl none_ w).alloc _).grown hgrow (by intro k hk hlt; simp [Value.ownBlock] at hk; omega)
    clear hgrow
    go_wp2
    obtain ⟨A', cap', rfl, h1, h2, h3⟩ := View.own (T := fun b => w.heap.size ≤ b) hown (fun _ h => h)
    go_ret
    exact ⟨A', cap', rfl, h1, h2, h3, hC⟩

/-- What is not there: of a nil reader. -/
theorem next_nil (w : World) (n : Nat) : Calls Tryd.prog 83 #[.pointer none, .int .u64 n] w fun e w' => e = .returned (.tuple #[.slice none 0 0, .bool false]) ∧ w = w' := by
  go_enter Tryd.func83, Tryd.ntmps83
  go_wp2_with fail
  refine wp_scope_fwd 0 rfl ?_
  go_wp2_with (first | (go_at_call 27; refine (bad_nil _).mono ?_; rintro e w' ⟨rfl, rfl⟩))
  go_step3
  simp only [Exit.then]
  refine jump_fwd ?_
  go_wp2_with (first | (go_at_call 28; refine (fail_nil _ _).mono ?_; rintro e w' ⟨rfl, rfl⟩))
  rw [Exit.noGoto_ret]
  go_ret2
  exact ⟨rfl, rfl⟩

theorem u8s_take (l : List Nat) (n : Nat) : (u8s l).take n = u8s (l.take n) := by simp [u8s, List.map_take]
theorem u8s_drop (l : List Nat) (n : Nat) : (u8s l).drop n = u8s (l.drop n) := by simp [u8s, List.map_drop]

theorem rd_step {w : World} {g : Nat} {T : Nat → Prop} {xs : List Nat} {n cap : Nat} {A : Option Addr} (A' : Option Addr) (cap' : Nat) (h1 : Row w g 70 [.slice A xs.length cap, .int .i64 0]) (h4 : View w T A xs.length (u8s xs)) (hT : ¬ T g) (hn : n ≤ xs.length)
    (h3 : xs.length ≤ 1000000) (hA : View w T A' (xs.length - n) ((u8s xs).drop n)) (hc : xs.length - n ≤ cap') :
    View (w.setCell ⟨g, 0, none⟩ (.slice A' (xs.length - n) cap')).drew T A n (u8s (xs.take n)) ∧ Rd (w.setCell ⟨g, 0, none⟩ (.slice A' (xs.length - n) cap')).drew g T (xs.drop n) 0 ∧ Chg (· = g) w (w.setCell ⟨g, 0, none⟩ (.slice A' (xs.length - n) cap')).drew := by
  refine ⟨?_, ⟨A', cap', ?_, ?_, ?_, ?_, fun h => absurd rfl h⟩, ?_⟩
  · have := h4.take hn
    rw [u8s_take] at this
    exact (this.setCell _ hT _).drew
  · rw [List.length_drop]
    exact (h1.set 0 _).drew
  · rw [List.length_drop]; exact hc
  · rw [List.length_drop]; omega
  · rw [List.length_drop]
    rw [u8s_drop] at hA
    exact (hA.setCell _ hT _).drew
  · exact ((Chg.refl (· = g) w).setCell (p := ⟨g, 0, none⟩) (fun _ => rfl) _).drew

/-- As many bytes as are asked: there. -/
theorem next_ok (w : World) (g : Nat) (T : Nat → Prop) (xs : List Nat) (n : Nat) (h : Rd w g T xs 0) (hT : ¬ T g) (hn : n ≤ xs.length) :
    Calls Tryd.prog 83 #[.pointer (some ⟨g, 0, none⟩), .int .u64 n] w fun e w' =>
      ∃ A cap, e = .returned (.tuple #[.slice A n cap, .bool true]) ∧ n ≤ cap ∧ View w' T A n (u8s (xs.take n)) ∧ Rd w' g T (xs.drop n) 0 ∧ Chg (· = g) w w' := by
  have HB := Lib.hid (bad_ok w g T xs 0 h)
  have HL := Lib.hid (left_ok w g T xs 0 h)
  obtain ⟨A, cap, h1, h2, h3, h4, h5⟩ := h
  have hc0 := h1.cell 0
  have hf0 := h1.frozen 0
  simp at hc0
  have hx : ¬ xs.length < n := by omega
  have hi1 : (0 : Int) ≤ (n : Int) := by omega
  have hi2 : (n : Int) ≤ (cap : Int) := by omega
  have hi3 : (n : Int) ≤ (xs.length : Int) := by omega
  have H1 := Lib.hid h1
  have H4 := Lib.hid h4
  have H5 := Lib.hid h5
  clear h1 h4 h5
  go_enter Tryd.func83, Tryd.ntmps83
  go_wp2_with fail
  refine wp_scope_fwd 0 rfl ?_
  go_wp2_with (first | (go_at_call 27; refine HB.out.mono ?_; rintro e w' ⟨rfl, rfl⟩) | (go_at_call 25; refine HL.out.mono ?_; rintro e w' ⟨rfl, rfl⟩))
  go_region
  all_goals go_wp2
  · have hcn : cap = n := by assumption
    rw [jump_ret]
    go_ret2
    obtain ⟨r1, r2, r3⟩ := rd_step A 0 H1.out H4.out hT hn h3 (by rw [show xs.length - n = 0 from by omega, List.drop_eq_nil_of_le (by simp; omega)]; exact View.none_ _ _ _) (by omega)
    exact ⟨A, n, rfl, Nat.le_refl _, r1, r2, r3⟩
  · rw [jump_ret]
    go_ret2
    obtain ⟨r1, r2, r3⟩ := rd_step (A.map (·.add n)) (cap - n) H1.out H4.out hT hn h3 H4.out.drop (by omega)
    exact ⟨A, cap, rfl, by omega, r1, r2, r3⟩
end Go.Proofs.YtlcffjmbfpdlbaaDoor
