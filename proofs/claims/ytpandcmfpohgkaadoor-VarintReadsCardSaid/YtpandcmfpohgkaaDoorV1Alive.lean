/- Layer 1 (varint): the document's example. -/
import Derived.Test.YtpandcmfpohgkaaDoorV1RInt
namespace Go.Proofs.YtpandcmfpohgkaaDoor
open Go.RowKit

theorem own_of_row {w : World} {g base n : Nat} {e : TypeId} {cs : List Value} (h : Row w g e cs) (hb : base ≤ g) (hn : cs.length = n) (hm : n ≤ maxLen) : w.ownsRow base e 1 (.slice (some ⟨g, 0, none⟩) n n) n cs :=
  ⟨by omega, .inr ⟨g, n, cs.toArray, rfl, hb, h, Nat.le_refl _, hm, by simp [hn], by simp [← hn]⟩⟩

theorem NewBytes.view {w w' : World} {v : Value} {l : List Nat} (h : NewBytes w w' v l) : ∃ A cap, v = .slice A l.length cap ∧ View w' (fun b => w.heap.size ≤ b) A l.length (u8s l) := by
  rcases h.2 with ⟨rfl, rfl⟩ | ⟨_, rfl, hr⟩
  · exact ⟨none, 0, rfl, View.none_ _ _ _⟩
  · have := View.row (T := fun b => w.heap.size ≤ b) hr (n := l.length) (by simp) (Nat.le_refl _)
    rw [List.take_of_length_le (by simp)] at this
    exact ⟨_, _, rfl, this⟩

theorem e1 : wideB 15293 (szN 15293) = [123, 189] := by decide
theorem e2 : wideB 1 4 = [128, 0, 0, 1] := by decide

/-- Since w: nothing turned; the reader in g holds xs. -/
structure St (w : World) (g : Nat) (T : Nat → Prop) (wi : World) (xs : List Nat) (bad : Int) : Prop where
  chg : Chg none_ w wi
  rd : Rd wi g T xs bad
  tab : Tab wi
  new : w.heap.size ≤ g
  apart : ¬ T g
  mine : ∀ b, T b → w.heap.size ≤ b
theorem St.step {w wi wj : World} {g : Nat} {T : Nat → Prop} {xs : List Nat} {bad : Int} (h : St w g T wi xs bad) (hc : Chg none_ wi wj) : St w g T wj xs bad :=
  ⟨h.chg.andThen hc (fun _ _ h => h.elim), h.rd.chg hc (fun h => h) (fun _ _ h => h), h.tab.chg hc (fun h => h), h.new, h.apart, h.mine⟩
theorem St.read {w wi wj : World} {g : Nat} {T : Nat → Prop} {xs xs' : List Nat} {bad bad' : Int} (h : St w g T wi xs bad) (hTw : Tab w) (hc : Chg (· = g) wi wj) (hr : Rd wj g T xs' bad') : St w g T wj xs' bad' := by
  refine ⟨h.chg.andThen hc (fun b hb e => absurd hb (by have := h.new; omega)), hr, h.tab.chg hc ?_, h.new, h.apart, h.mine⟩
  have h1 := hTw.1
  have h2 := h.new
  intro e
  omega

theorem alive_any (w : World) (hT : Tab w) : Calls Tryd.prog 8 #[] w fun e w' => e = .returned (.bool true) ∧ Chg none_ w w' := by
  obtain ⟨i0, hi, hz0, hz1, hz2⟩ := info_parts info5
  have HT := Lib.hid hT
  clear hT
  go_enter Tryd.func8, Tryd.ntmps8
  go_wp2_with fail
  refine (put_any 15293 _ HT.out).mono ?_
  rintro e w1 ⟨v, rfl, hv⟩
  rw [e1] at hv
  have hv1 := hv.1
  have hv2 := hv.2
  simp at hv2
  obtain ⟨rfl, hrow⟩ := hv2
  have H1 := Lib.hid hv1
  have H2 := Lib.hid hrow
  clear hv hv1 hrow
  go_wp2_with (at_builtin; refine wpList_append_view rfl _ _ 26 rfl 5 i0 _ 1 Tryd.underlying26 hi hz0 hz1 hz2 rfl w.heap.size (.slice (some ⟨w.heap.size, 0, none⟩) 2 2) 2 (u8s [123, 189]) rfl ((own_of_row H2.out (Nat.le_refl _) rfl (by decide)).alloc _) (fun _ => True) _ 3 3 (u8s [7, 1, 2]) rfl (View.row (cs := u8s [7, 1, 2]) (Row.new _ _ (u8s [7, 1, 2])) (by simp) trivial) (u8s_one _) (by decide) (by omega) (by have := H1.out.size; simp; omega) ?_; intro v' w2 hown hgrow _)
  have hC2 : Chg none_ w w2 := (H1.out.alloc _).grown hgrow (fun j hj hlt => by simp only [Value.ownBlock, Option.some.injEq] at hj; omega)
  obtain ⟨A, cap, rfl, _, _, hv2⟩ := View.own (T := fun b => w.heap.size ≤ b) hown (fun _ h => h)
  have hrd := read_any w2 (fun b => w.heap.size ≤ b) A cap [123, 189, 7, 1, 2] hv2 (by decide)
  have HR := Lib.hid hrd
  have HC2 := Lib.hid hC2
  clear hgrow hown hv2 hrd hC2
  go_wp2_with fail
  refine HR.out.mono ?_
  rintro e w3 ⟨g, rfl, hg, hr, hch⟩
  have hst : St w g (fun b => w2.heap.size ≤ b ∧ b ≠ g) w3 [123, 189, 7, 1, 2] 0 :=
    ⟨HC2.out.trans hch, hr, HT.out.chg (HC2.out.trans hch) (fun h => h), Nat.le_trans HC2.out.size hg, fun h => h.2 rfl, fun b h => Nat.le_trans HC2.out.size h.1⟩
  generalize (fun b => w2.heap.size ≤ b ∧ b ≠ g) = T at hst
  have S3 := Lib.hid hst
  clear hr hch hg hst
  go_wp2_with fail
  -- Same(Put(15293), ..)
  refine (put_any 15293 _ S3.out.tab).mono ?_
  rintro e w4 ⟨v, rfl, hv⟩
  rw [e1] at hv
  obtain ⟨A4, cap4, rfl, hv4⟩ := hv.view
  have S4 := Lib.hid (S3.out.step hv.1)
  have HV4 := Lib.hid hv4
  clear hv hv4
  go_wp2_with fail
  have S5 := Lib.hid (S4.out.step ((Chg.refl none_ w4).alloc (.cells #[.int .u8 123, .int .u8 189] 5)))
  have hs := same_any (w4.alloc (.cells #[.int .u8 123, .int .u8 189] 5)) _ (fun _ => True) A4 (some ⟨w4.heap.size, 0, none⟩) cap4 2 [123, 189] [123, 189] (HV4.out.chg ((Chg.refl none_ w4).alloc _) (fun _ _ h => h)) (View.row (cs := u8s [123, 189]) (Row.new _ _ (u8s [123, 189])) (by simp) trivial) (by decide)
  have HS := Lib.hid hs
  clear hs
  refine HS.out.mono ?_
  rintro e w5 ⟨rfl, k, rfl⟩
  rw [show decide ([123, 189] = [123, 189]) = true from rfl]
  have S6 := Lib.hid (S5.out.step ((Chg.refl none_ _).drewN k))
  generalize (w4.alloc (.cells #[.int .u8 123, .int .u8 189] 5)).drewN k = w6 at S6 ⊢
  go_wp2_with fail
  refine (size_any 64 _).mono ?_
  rintro e w7 ⟨rfl, rfl⟩
  rw [show szN 64 = 2 from by decide]
  go_wp2_with fail
  refine (wide_all 1 4 _ S6.out.tab).mono ?_
  rintro e w7 ⟨v, rfl, hv⟩
  rw [e2] at hv
  obtain ⟨A7, cap7, rfl, _⟩ := hv.view
  have S7 := Lib.hid (S6.out.step hv.1)
  clear hv
  go_wp2_with fail
  refine (int_ok _ g T 123 [189, 7, 1, 2] S7.out.rd S7.out.apart (by decide) (by decide) (by decide)).mono ?_
  rintro e w8 ⟨rfl, hr, hc⟩
  rw [show foldB (123 % 64) (List.take (needs 123) [189, 7, 1, 2]) = 15293 from by decide]
  have S8 := Lib.hid (S7.out.read HT.out hc hr)
  clear hr hc
  go_wp2_with fail
  rw [show (List.drop (needs 123) [189, 7, 1, 2]) = [7, 1, 2] from by decide] at S8
  refine (byte_ok _ g T 7 [1, 2] S8.out.rd S8.out.apart).mono ?_
  rintro e w9 ⟨rfl, hr, hc⟩
  have S9 := Lib.hid (S8.out.read HT.out hc hr)
  clear hr hc
  go_wp2_with fail
  refine (left_ok _ g T [1, 2] 0 S9.out.rd).mono ?_
  rintro e w10 ⟨rfl, rfl⟩
  go_wp2_with fail
  refine (bytes_ok _ g T [1, 2] 2 S9.out.rd S9.out.apart (by decide)).mono ?_
  rintro e w10 ⟨A9, cap9, rfl, _, _, hr, hc⟩
  have S10 := Lib.hid (S9.out.read HT.out hc hr)
  clear hr hc
  go_wp2_with fail
  refine (int_no1 _ g T [] 0 S10.out.rd (.inr (by decide))).mono ?_
  rintro e w11 ⟨rfl, hr, hc⟩
  have S11 := Lib.hid (S10.out.read HT.out hc hr)
  clear hr hc
  go_wp2_with fail
  refine (bad_ok _ g T [] _ S11.out.rd).mono ?_
  rintro e w12 ⟨rfl, rfl⟩
  rw [show badOf 0 = 2 from rfl]
  go_wp2
  go_ret
  exact ⟨rfl, S11.out.chg⟩
end Go.Proofs.YtpandcmfpohgkaaDoor
