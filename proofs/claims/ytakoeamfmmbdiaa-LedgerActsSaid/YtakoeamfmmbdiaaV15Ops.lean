/- Layer 15 (ledger): Drop and Lost. -/
import Derived.Test.YtakoeamfmmbdiaaV15Lost
import Derived.Test.YtakoeamfmmbdiaaV15Small
namespace Go.Proofs.Ytakoeamfmmbdiaa
open Go.RowKit

theorem LedAt.past {w : World} {base base' g : Nat} {T : Nat → Prop} {v : Value} {l : List It} {next above : Nat} (h : LedAt w base g T v l next above) (hb : base' ≤ base) : LedAt w base' g T v l next above :=
  ⟨h.row, h.own.past hb, h.its, h.lt, h.ng, h.nv, h.nn⟩

theorem Drop_nil (w : World) : Calls Try.prog 14 #[.pointer none] w fun e w' => e = .returned (.int .i64 0) ∧ Chg none_ w w' := by
  have HP := Lib.hid (part_nil 36 #[] w)
  go_enter Try.func14, Try.ntmps14
  go_wp2_with ((with_reducible show Calls _ 29 _ _ _); refine HP.out.mono ?_; rintro e w1 ⟨rfl, hc⟩; have HC := Lib.hid hc; clear hc)
  go_ret
  exact ⟨rfl, HC.out⟩
set_option maxHeartbeats 1000000 in
theorem Drop_any (base g next above : Nat) (T : Nat → Prop) (v : Value) (l : List It) (w : World) (h : LedAt w base g T v l next above) (hl : l.length ≤ 1000) :
    Calls Try.prog 14 #[.pointer (some ⟨g, 0, none⟩)] w fun e w' => e = .returned (.int .i64 (l.length : Int)) ∧ ∃ lv, LedAt w' w.heap.size g T lv [] next above ∧ Chg (· = g) w w' := by
  have HP : Hid (Calls Try.prog 29 #[.pointer (some ⟨g, 0, none⟩), .func (.func 36) #[] #[]] w fun e w' => ∃ A c lv, e = .returned (.slice A l.length c) ∧ LedAt w' w.heap.size g T lv [] next above ∧ Chg (· = g) w w') := Lib.hid (by
    refine (part_any base g next above 36 #[] (fun _ => true) T v l w h hl ⟨Try.call36, fun W x _ _ => drop1_any x W⟩).mono ?_
    rintro e w' ⟨gv, lv, rfl, h1, h2, _, h4⟩
    obtain ⟨A, c, rfl, _, _⟩ := shapeS h1
    rw [List.filter_eq_self.2 (fun _ _ => rfl)]
    refine ⟨A, c, lv, rfl, ?_, h4⟩
    have : l.filter (fun x => !(fun _ : It => true) x) = [] := List.filter_eq_nil_iff.2 (fun _ _ => by simp)
    rwa [this] at h2)
  clear h
  go_enter Try.func14, Try.ntmps14
  go_wp2_with ((with_reducible show Calls _ 29 _ _ _); refine HP.out.mono ?_; rintro e w1 ⟨A1, c1, lv, rfl, h2, hc⟩; have HL := Lib.hid h2; have HC := Lib.hid hc; clear h2 hc)
  go_ret
  exact ⟨rfl, lv, HL.out, HC.out⟩

theorem Lost_nil (now delay : Nat) (w : World) : Calls Try.prog 12 #[.pointer none, .int .u64 (now : Int), .int .u64 (delay : Int)] w fun e w' => e = .returned (.slice none 0 0) ∧ Chg none_ w w' := by
  have HP := Lib.hid (fun cb W => part_nil 34 cb W)
  have HA := Lib.hid (fun W => Acked_nil W)
  have HB := Lib.hid (fun (o1 o2 o3 : Obj) => (((Chg.refl none_ w).alloc o1).alloc o2).alloc o3)
  go_enter Try.func12, Try.ntmps12
  go_wp2_with (first | ((with_reducible show Calls _ 18 _ _ _); refine (HA.out _).mono ?_; rintro e w1 ⟨rfl, rfl⟩) | ((with_reducible show Calls _ 29 _ _ _); refine (HP.out _ _).mono ?_; rintro e w1 ⟨rfl, hc⟩; have HC := Lib.hid (Chg.trans (HB.out _ _ _) hc); clear hc))
  go_ret
  exact ⟨rfl, HC.out⟩
set_option maxHeartbeats 2000000 in
theorem Lost_any (base g next above now delay : Nat) (T : Nat → Prop) (v : Value) (l : List It) (w : World) (h : LedAt w base g T v l next above) (hl : l.length ≤ 1000) (ha : above < 4611686018427387904) (hn : ∀ x ∈ l, 0 ≤ x.num ∧ x.num < 4611686018427387904) :
    Calls Try.prog 12 #[.pointer (some ⟨g, 0, none⟩), .int .u64 (now : Int), .int .u64 (delay : Int)] w fun e w' => ∃ gv lv, e = .returned gv ∧ OwnS w' w.heap.size gv (l.filter (fun x => lostB x.num x.at_ ((above : Int) - 1) delay now)) ∧
      LedAt w' w.heap.size g T lv (l.filter (fun x => !lostB x.num x.at_ ((above : Int) - 1) delay now)) next above ∧ (∀ b, gv.ownBlock = some b → lv.ownBlock ≠ some b) ∧ Chg (· = g) w w' := by
  have HA : Hid (∀ W, Chg none_ w W → Calls Try.prog 18 #[.pointer (some ⟨g, 0, none⟩)] W fun e w' => e = .returned (.int .i64 ((above : Int) - 1)) ∧ w' = W) := Lib.hid (fun W hc => Acked_any (h.quiet hc) ha)
  have HP : Hid (∀ W pa pd pn, Chg none_ w W → W.cell? ⟨pa, 0, none⟩ = some (.int .i64 ((above : Int) - 1)) → W.cell? ⟨pd, 0, none⟩ = some (.int .u64 (delay : Int)) → W.cell? ⟨pn, 0, none⟩ = some (.int .u64 (now : Int)) →
      Calls Try.prog 29 #[.pointer (some ⟨g, 0, none⟩), .func (.func 34) #[] #[.pointer (some ⟨pa, 0, none⟩), .pointer (some ⟨pd, 0, none⟩), .pointer (some ⟨pn, 0, none⟩)]] W fun e w' => ∃ gv lv, e = .returned gv ∧ OwnS w' w.heap.size gv (l.filter (fun x => lostB x.num x.at_ ((above : Int) - 1) delay now)) ∧
      LedAt w' w.heap.size g T lv (l.filter (fun x => !lostB x.num x.at_ ((above : Int) - 1) delay now)) next above ∧ (∀ b, gv.ownBlock = some b → lv.ownBlock ≠ some b) ∧ Chg (· = g) w w') := Lib.hid (fun W pa pd pn hc c1 c2 c3 => by
    refine (part_any base g next above 34 #[.pointer (some ⟨pa, 0, none⟩), .pointer (some ⟨pd, 0, none⟩), .pointer (some ⟨pn, 0, none⟩)] (fun x => lostB x.num x.at_ ((above : Int) - 1) delay now) T v l W (h.quiet hc) hl ⟨Try.call34, fun W' x hx hc' => ?_⟩).mono ?_
    · exact lost1_any x ((above : Int) - 1) delay now pa pd pn W' (hn x hx).1 (hn x hx).2 (by omega) (by omega) ((hc'.cell 0 (World.block_lt_of_cell? _ _ c1) (fun h => h)).trans c1) ((hc'.cell 0 (World.block_lt_of_cell? _ _ c2) (fun h => h)).trans c2) ((hc'.cell 0 (World.block_lt_of_cell? _ _ c3) (fun h => h)).trans c3)
    · rintro e w' ⟨gv, lv, rfl, h1, h2, h3, h4⟩
      exact ⟨gv, lv, rfl, h1.past hc.size, h2.past hc.size, h3, (hc.mono (fun _ _ h => h.elim)).trans h4⟩)
  have HB := Lib.hid (fun (o1 o2 o3 : Obj) => (((Chg.refl none_ w).alloc o1).alloc o2).alloc o3)
  have HB2 := Lib.hid (fun (o1 o2 : Obj) => ((Chg.refl none_ w).alloc o1).alloc o2)
  clear h hn
  go_enter Try.func12, Try.ntmps12
  go_wp2_with (first | ((with_reducible show Calls _ 18 _ _ _); refine (HA.out _ (HB2.out _ _)).mono ?_; rintro e w1 ⟨rfl, rfl⟩) | ((with_reducible show Calls _ 29 _ _ _); refine (HP.out _ _ _ _ (HB.out _ _ _) (by go_simp) (by go_simp) (by go_simp)).mono ?_; rintro e w9 ⟨gv, lv, rfl, k1, k2, k3, k4⟩; have HF := Lib.hid (And.intro k1 (And.intro k2 (And.intro k3 k4))); clear k1 k2 k3 k4))
  go_ret
  exact ⟨gv, lv, rfl, HF.out.1, HF.out.2.1, HF.out.2.2.1, HF.out.2.2.2⟩
end Go.Proofs.Ytakoeamfmmbdiaa
