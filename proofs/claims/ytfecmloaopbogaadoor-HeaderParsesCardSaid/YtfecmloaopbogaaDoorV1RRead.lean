/- Layer 1 (varint), the document's answer: its reader. -/
import Derived.Test.YtfecmloaopbogaaDoorV1Reads
import Derived.Test.YtfecmloaopbogaaDoorV1RWide
import Derived.Deep.RegionLaw
import Derived.Deep.RegionHeld3
namespace Go.Proofs.YtfecmloaopbogaaDoor
open Go.RowKit

/-- The document's reader in block g: its bytes, how many were read, its error. -/
def RR (w : World) (g : Nat) (T : Nat → Prop) (bs : List Nat) (at_ : Nat) (bad : Int) : Prop :=
  ∃ A cap, Row w g 60 [.slice A bs.length cap, .int .i64 at_, .int .i64 bad] ∧ bs.length ≤ cap ∧ at_ ≤ bs.length ∧ bs.length ≤ 1000000 ∧ View w T A bs.length (u8s bs)

theorem RR.chg {w w' : World} {g : Nat} {T S : Nat → Prop} {bs : List Nat} {at_ : Nat} {bad : Int} (h : RR w g T bs at_ bad) (hc : Chg S w w') (hg : ¬ S g) (hs : ∀ b, T b → ¬ S b) : RR w' g T bs at_ bad := by
  obtain ⟨A, cap, h1, h2, h3, h4, h5⟩ := h
  exact ⟨A, cap, h1.chg hc hg, h2, h3, h4, h5.chg hc hs⟩

/-- The reader with another place and error. -/
theorem RR.at3 {w : World} {g : Nat} {T : Nat → Prop} {bs : List Nat} {at_ : Nat} {bad : Int} (h : RR w g T bs at_ bad) (hT : ¬ T g) (x : Int) : RR (w.setCell ⟨g, 2, none⟩ (.int .i64 x)) g T bs at_ x := by
  obtain ⟨A, cap, h1, h2, h3, h4, h5⟩ := h
  exact ⟨A, cap, h1.set 2 _, h2, h3, h4, h5.setCell _ hT _⟩
theorem RR.at2 {w : World} {g : Nat} {T : Nat → Prop} {bs : List Nat} {at_ : Nat} {bad : Int} (h : RR w g T bs at_ bad) (hT : ¬ T g) (k : Nat) (hk : k ≤ bs.length) : RR (w.setCell ⟨g, 1, none⟩ (.int .i64 (k : Int))) g T bs k bad := by
  obtain ⟨A, cap, h1, h2, h3, h4, h5⟩ := h
  exact ⟨A, cap, h1.set 1 _, h2, hk, h4, h5.setCell _ hT _⟩

def rleft (bs : List Nat) (at_ : Nat) (bad : Int) : Nat := if bad = 0 then bs.length - at_ else 0

theorem rleft_any (w : World) (g : Nat) (T : Nat → Prop) (bs : List Nat) (at_ : Nat) (bad : Int) (h : RR w g T bs at_ bad) :
    Calls Tryd.prog 43 #[.pointer (some ⟨g, 0, none⟩)] w fun e w' => e = .returned (.int .i64 (rleft bs at_ bad : Nat)) ∧ ∃ k, w' = w.drewN k := by
  obtain ⟨A, cap, h1, h2, h3, h4, h5⟩ := h
  have hc0 := h1.cell 0
  have hc1 := h1.cell 1
  have hc2 := h1.cell 2
  simp at hc0 hc1 hc2
  clear h1 h5
  by_cases hb : bad = 0
  · have e : ((rleft bs at_ bad : Nat) : Int) = (bs.length : Int) - (at_ : Int) := by simp [rleft, hb]; omega
    rw [e]
    have hz : (bad != 0) = false := by rw [bne_eq_false_iff_eq]; exact hb
    clear e hb
    go_enter Tryd.func43, Tryd.ntmps43
    go_wp2
    go_quiet (fail)
    go_wp2
    go_ret
    exact ⟨rfl, _, rfl⟩
  · have e : ((rleft bs at_ bad : Nat) : Int) = 0 := by simp [rleft, hb]
    rw [e]
    have hz : (bad != 0) = true := by rw [bne_iff_ne]; exact hb
    clear e hb
    go_enter Tryd.func43, Tryd.ntmps43
    go_wp2
    go_ret
    exact ⟨rfl, 0, rfl⟩

theorem rfail_any (w : World) (g : Nat) (T : Nat → Prop) (bs : List Nat) (at_ : Nat) (bad x : Int) (h : RR w g T bs at_ bad) (hT : ¬ T g) :
    Calls Tryd.prog 54 #[.pointer (some ⟨g, 0, none⟩), .int .i64 x] w fun e w' => e = .returned (.tuple #[]) ∧ RR w' g T bs at_ (if bad = 0 then x else bad) ∧ Chg (· = g) w w' := by
  have H := Lib.hid h
  obtain ⟨A, cap, h1, _⟩ := h
  have hc2 := h1.cell 2
  have hf2 := h1.frozen 2
  simp at hc2
  clear h1
  by_cases hb : bad = 0
  · have hz : (bad == 0) = true := by simpa using hb
    rw [if_pos hb]
    clear hb
    go_enter Tryd.func54, Tryd.ntmps54
    go_wp2
    go_end0
    exact ⟨rfl, H.out.at3 hT x, (Chg.refl (· = g) w).setCell (p := ⟨g, 2, none⟩) (fun _ => rfl) _⟩
  · have hz : (bad == 0) = false := by simpa using hb
    rw [if_neg hb]
    clear hb
    go_enter Tryd.func54, Tryd.ntmps54
    go_wp2
    go_end0
    exact ⟨rfl, H.out, Chg.refl _ _⟩

/-- Nothing there. -/
theorem rbytes_no (w : World) (g : Nat) (T : Nat → Prop) (bs : List Nat) (at_ : Nat) (bad : Int) (n : Nat) (h : RR w g T bs at_ bad) (hT : ¬ T g) (hn : bad ≠ 0 ∨ bs.length - at_ < n) :
    Calls Tryd.prog 42 #[.pointer (some ⟨g, 0, none⟩), .int .u64 n] w fun e w' => e = .returned (.slice none 0 0) ∧ RR w' g T bs at_ (badOf bad) ∧ Chg (· = g) w w' := by
  have H := Lib.hid h
  have HL := rleft_any w g T bs at_ bad h
  obtain ⟨A, cap, h1, h2, h3, h4, _⟩ := h
  have hc2 := h1.cell 2
  have hf2 := h1.frozen 2
  simp at hc2
  clear h1
  by_cases hb : bad = 0
  · subst hb
    have hlt : bs.length - at_ < n := by rcases hn with h | h; exact absurd rfl h; exact h
    have e : rleft bs at_ 0 = bs.length - at_ := by simp [rleft]
    rw [e] at HL
    have HLL := Lib.hid HL
    have hsm : bs.length - at_ ≤ 1000000 := by omega
    generalize bs.length - at_ = m at hlt HLL hsm
    clear HL e hn
    go_enter Tryd.func42, Tryd.ntmps42
    go_wp2_with (go_at_call 43; refine HLL.out.mono ?_; rintro e w' ⟨rfl, k, rfl⟩)
    go_ret
    refine ⟨rfl, ?_, ?_⟩
    · exact (H.out.at3 hT 2).chg (((Chg.refl none_ _).drewN k)) (fun h => h) (fun _ _ h => h)
    · exact ((Chg.refl (· = g) w).setCell (p := ⟨g, 2, none⟩) (fun _ => rfl) _).drewN k
  · have hz : (bad != 0) = true := by rw [bne_iff_ne]; exact hb
    have e : badOf bad = bad := by simp [badOf, hb]
    rw [e]
    clear hb e HL hn
    go_enter Tryd.func42, Tryd.ntmps42
    go_wp2
    go_ret
    exact ⟨rfl, H.out, Chg.refl _ _⟩

theorem app_keep {W w2 : World} {o : Obj} {n c g i : Nat} {v : Value} (hg : (W.alloc o).drew.grownBy w2 (Value.slice (some ⟨W.heap.size, 0, none⟩) n c).ownBlock) (hlt : g < W.heap.size) (hc : W.cell? ⟨g, i, none⟩ = some v) : w2.cell? ⟨g, i, none⟩ = some v := by
  have h1 : (W.alloc o).drew.cell? ⟨g, i, none⟩ = some v := (World.cell?_alloc_lt W o ⟨g, i, none⟩ hlt).trans hc
  exact hg.cell h1 (by simp only [Value.ownBlock]; intro e; injection e; omega)

set_option maxHeartbeats 600000 in
theorem rbytes_ok (w : World) (g : Nat) (T : Nat → Prop) (bs : List Nat) (at_ n : Nat) (h : RR w g T bs at_ 0) (hT : ¬ T g) (hn : n ≤ bs.length - at_) :
    Calls Tryd.prog 42 #[.pointer (some ⟨g, 0, none⟩), .int .u64 n] w fun e w' =>
      ∃ A cap, e = .returned (.slice A n cap) ∧ n ≤ cap ∧ View w' (fun b => w.heap.size ≤ b) A n (u8s ((bs.drop at_).take n)) ∧ RR w' g T bs (at_ + n) 0 ∧ Chg (· = g) w w' := by
  have H := Lib.hid h
  have HL := rleft_any w g T bs at_ 0 h
  have e : rleft bs at_ 0 = bs.length - at_ := by simp [rleft]
  rw [e] at HL
  have HLL := Lib.hid HL
  clear HL e
  obtain ⟨A, cap, h1, h2, h3, h4, h5⟩ := h
  have hc0 := h1.cell 0
  have hc1 := h1.cell 1
  have hc2 := h1.cell 2
  have hf1 := h1.frozen 1
  simp at hc0 hc1 hc2
  have H5 := Lib.hid h5
  clear h1 h5
  obtain ⟨m, hm⟩ : ∃ m, bs.length - at_ = m := ⟨_, rfl⟩
  rw [hm] at HLL hn
  have hmm : (at_ : Int) + (m : Int) = (bs.length : Int) := by omega
  have hmb : (at_ : Int) + (m : Int) ≤ 1000000 := by omega
  have HM := Lib.hid hmm
  clear hm hmm
  go_enter Tryd.func42, Tryd.ntmps42
  go_wp2_with (go_at_call 43; refine HLL.out.mono ?_; rintro e w' ⟨rfl, k, rfl⟩)
  have hR1 := (H.out.at2 hT (at_ + n) (by have := HM.out; omega)).chg ((Chg.refl none_ _).drewN k) (fun h => h) (fun _ _ h => h)
  have hC1 := ((Chg.refl (· = g) w).setCell (p := ⟨g, 1, none⟩) (fun _ => rfl) (.int .i64 ((at_ + n : Nat) : Int))).drewN k
  have hsz : w.heap.size = ((w.setCell ⟨g, 1, none⟩ (.int .i64 ((at_ + n : Nat) : Int))).drewN k).heap.size := by simp [World.setCell]
  rw [show ((at_ + n : Nat) : Int) = (at_ : Int) + (n : Int) from by omega] at hR1 hC1 hsz
  change RR ((w.drewN k).setCell ⟨g, 1, none⟩ (.int .i64 ((at_ : Int) + (n : Int)))) g T bs (at_ + n) 0 at hR1
  change Chg _ w ((w.drewN k).setCell ⟨g, 1, none⟩ (.int .i64 ((at_ : Int) + (n : Int)))) at hC1
  change w.heap.size = ((w.drewN k).setCell ⟨g, 1, none⟩ (.int .i64 ((at_ : Int) + (n : Int)))).heap.size at hsz
  have HR1 := Lib.hid hR1
  have HC1 := Lib.hid hC1
  have HSZ := Lib.hid hsz
  clear hR1 hC1 hsz hc0 hc1 hc2 hf1
  generalize (w.drewN k).setCell ⟨g, 1, none⟩ (.int .i64 ((at_ : Int) + (n : Int))) = W at HR1 HC1 HSZ ⊢
  clear H5 h2 h3 h4
  obtain ⟨A1, cap1, h1, h2, h3, h4, h5⟩ := HR1.out
  have hc0 := h1.cell 0
  have hc1 := h1.cell 1
  simp at hc0 hc1
  have hsum : IntKind.i64.wrap ((at_ : Int) + (n : Int) - (n : Int)) = (at_ : Int) := by
    rw [show (at_ : Int) + (n : Int) - (n : Int) = (at_ : Int) from by omega]
    exact IntWalk.i64_in _ (by omega)
  have b1 : (0 : Int) ≤ (at_ : Int) := by omega
  have b2 : (at_ : Int) ≤ (at_ : Int) + (n : Int) := by omega
  have b3 : (at_ : Int) + (n : Int) ≤ (cap1 : Int) := by omega
  have b4 : g < W.heap.size := h1.lt
  have hwn : IntKind.i64.wrap (n : Int) = (n : Int) := IntWalk.i64_in _ (by omega)
  have hnews : ((u8s bs).drop at_).take n = u8s ((bs.drop at_).take n) := by rw [u8s_drop, u8s_take]
  have hlen : bs.length - at_ - n + n = bs.length - at_ := by omega
  have HV : Hid (∀ o, View (W.drew.alloc o) T (A1.map (·.add at_)) n (u8s ((bs.drop at_).take n))) := fun o => by
    have := (h5.drop (k := at_)).take (k := n) (by omega)
    rw [hnews] at this
    exact this.chg (S := none_) (((Chg.refl none_ W).drew).alloc o) (fun _ _ h => h)
  have H1 := Lib.hid h1
  obtain ⟨i0, hi, hz0, hz1, hz2⟩ := info_parts info5
  have hwa : IntKind.i64.wrap (at_ : Int) = (at_ : Int) := IntWalk.i64_in _ (by omega)
  have b0 : (0 : Int) ≤ (at_ : Int) + (n : Int) := by omega
  have hmx : max ((at_ : Int) + (n : Int)) 0 = (at_ : Int) + (n : Int) := by omega
  have htn : ((at_ : Int) + (n : Int)).toNat = at_ + n := by omega
  have hmax : n ≤ maxLen := by unfold maxLen; omega
  have hby : (0 + n) * 1 ≤ 140737488355328 := by omega
  have HX := Lib.hid hmax
  have HY := Lib.hid hby
  clear h1 h5 hlen hnews hmax hby
  by_cases hcap : cap1 = at_
  · subst hcap
    have HV0 : Hid (∀ o, View (W.drew.alloc o) T A1 n (u8s ((bs.drop cap1).take n))) := fun o => by
      have h0 : n = 0 := by omega
      rw [h0, List.take_zero]
      exact View.none_ _ _ _
    have b5 : (cap1 : Int) + (n : Int) ≤ (cap1 : Int) := by omega
    go_region_held3 (fun w' => w'.cell? ⟨g, 0, none⟩ = some (.slice A1 bs.length cap1) ∧ w'.cell? ⟨g, 1, none⟩ = some (.int .i64 ((cap1 : Int) + (n : Int)))) (first | go_keep | exact ⟨app_keep hgrow b4 hc0, app_keep hgrow b4 hc1⟩) ((refine step_append_view rfl (.tmp 28) (.tmp 44) 23 rfl 5 i0 _ 1 Tryd.underlying23 hi hz0 hz1 hz2 rfl W.heap.size (.slice (some ⟨W.heap.size, 0, none⟩) 0 0) 0 [] rfl (World.ownsRow_lit _ #[] 0 (Nat.le_refl _) (Nat.zero_le _) rfl) T _ n _ (u8s ((bs.drop cap1).take n)) rfl (HV0.out _) (u8s_one _) (by rw [Nat.zero_add]; exact HX.out) HY.out (by simp) ?_; intro v' w2 hown hgrow hat))
    have hC : Chg none_ W w2 := (((Chg.refl none_ W).alloc _).drew).grown hgrow (fun j hj hlt => by simp only [Value.ownBlock, Option.some.injEq] at hj; omega)
    rw [Nat.zero_add, List.nil_append] at hown
    clear hgrow hat
    go_wp2
    obtain ⟨A', cap', rfl, g1, g2, g3⟩ := View.own (T := fun b => w.heap.size ≤ b) hown (fun _ h => by rw [HSZ.out]; exact h)
    go_ret
    exact ⟨A', cap', rfl, g1, g3, HR1.out.chg hC (fun h => h) (fun _ _ h => h), HC1.out.andThen hC (fun _ _ h => h.elim)⟩
  · go_region_held3 (fun w' => w'.cell? ⟨g, 0, none⟩ = some (.slice A1 bs.length cap1) ∧ w'.cell? ⟨g, 1, none⟩ = some (.int .i64 ((at_ : Int) + (n : Int)))) (first | go_keep | exact ⟨app_keep hgrow b4 hc0, app_keep hgrow b4 hc1⟩) ((refine step_append_view rfl (.tmp 28) (.tmp 44) 23 rfl 5 i0 _ 1 Tryd.underlying23 hi hz0 hz1 hz2 rfl W.heap.size (.slice (some ⟨W.heap.size, 0, none⟩) 0 0) 0 [] rfl (World.ownsRow_lit _ #[] 0 (Nat.le_refl _) (Nat.zero_le _) rfl) T _ n _ (u8s ((bs.drop at_).take n)) rfl (HV.out _) (u8s_one _) (by rw [Nat.zero_add]; exact HX.out) HY.out (by simp) ?_; intro v' w2 hown hgrow hat))
    have hC : Chg none_ W w2 := (((Chg.refl none_ W).alloc _).drew).grown hgrow (fun j hj hlt => by simp only [Value.ownBlock, Option.some.injEq] at hj; omega)
    rw [Nat.zero_add, List.nil_append] at hown
    clear hgrow hat
    go_wp2
    obtain ⟨A', cap', rfl, g1, g2, g3⟩ := View.own (T := fun b => w.heap.size ≤ b) hown (fun _ h => by rw [HSZ.out]; exact h)
    go_ret
    exact ⟨A', cap', rfl, g1, g3, HR1.out.chg hC (fun h => h) (fun _ _ h => h), HC1.out.andThen hC (fun _ _ h => h.elim)⟩
end Go.Proofs.YtfecmloaopbogaaDoor
