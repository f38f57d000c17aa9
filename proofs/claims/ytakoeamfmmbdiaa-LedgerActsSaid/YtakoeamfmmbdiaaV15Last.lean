/- Layer 15 (ledger): Last (slices.Backward, an iterator). -/
import Derived.RangeFuncFrom
import Derived.RangeFuncBound
import Derived.RangeFuncCalls
import Derived.RangeFuncLeaves
import Derived.RangeFuncNested
import Derived.Shelf.Abstract
import Derived.WalkKit
import Derived.OwnWalkIn
import Derived.TacticsInMore
import Derived.LoopNIn
import Derived.LoopIn
import Derived.Test.YtakoeamfmmbdiaaV15P
import Derived.Test.YtakoeamfmmbdiaaV15RRead
namespace Go.Proofs.Ytakoeamfmmbdiaa
open Go.RowKit Go.Shelf
attribute [local go_sem] Oper.semAt_some

/-- What is yielded: a place, and the packet there. -/
abbrev Yi := Nat × It
def encY (x : Yi) : Array Value := #[.int .i64 (x.1 : Int), .agg (itc x.2).toArray]

set_option maxRecDepth 100000 in
set_option maxHeartbeats 4000000 in
theorem backward1_in (lp gb c n0 : Nat) (l : List It) (A : Option Addr) (T : Nat → Prop) (J Jx : List Yi → World → Prop)
    (W : World) (hl : l.length ≤ 1000) (hbox : Row W gb 33 [.slice A l.length c]) (hgb : gb < n0) (hv : View W T A (l.length * 5) (l.flatMap itc)) (hT : ∀ b, T b → b < n0)
    (hY : ∀ pre x W1, J pre W1 → pre.length < 1000 → YieldAt Fence.wide 0 Try.prog lp (encY x) W1 fun e W' => (e = .returned (.bool true) ∧ J (pre ++ [x]) W' ∧ Below n0 W1 W') ∨ (e = .returned (.bool false) ∧ Jx (pre ++ [x]) W'))
    (h0 : J [] W) :
    CallsIn Fence.wide 1 Try.prog 41 #[.func (.yield lp) #[] #[], .pointer (some ⟨gb, 0, none⟩)] W fun e W' => (∃ v, e = .returned v) ∧ ((∃ xs : List Yi, xs.map (·.2) = l.reverse ∧ J xs W') ∨ (∃ pre : List Yi, (∃ suf, pre.map (·.2) ++ suf = l.reverse) ∧ Jx pre W')) := by
  have HB : Hid (∀ W', Below n0 W W' → W'.cell? ⟨gb, 0, none⟩ = some (.slice A l.length c)) := Lib.hid (fun W' hb => (show Row W' gb 33 [.slice A l.length c] from (hb.block gb hgb).trans hbox).cell 0)
  have HV : Hid (∀ W', Below n0 W W' → View W' T A (l.length * 5) (l.flatMap itc)) := Lib.hid (fun W' hb => hv.chg (S := fun b => n0 ≤ b) (Chg.of_below hb) (fun b hb2 h => by have := hT b hb2; omega))
  have HY := Lib.hid hY
  have b0 : W.cell? ⟨gb, 0, none⟩ = some (.slice A l.length c) := HB.out W (Below.refl _ _)
  clear hY hbox hv
  refine callsIn_of_wp Try.func41 rfl trivial ?_ rfl
  simp only [Try.ntmps41, List.size_toArray, List.length_cons, List.length_nil, Nat.reduceAdd, Nat.reduceSub, Array.replicate_succ, Array.replicate_zero, List.push_toArray, List.append_toArray, List.nil_append, List.cons_append]
  have hl2 : (l.length : Int) ≤ 1000 := by omega
  gi_wp2
  gi_loopw [3] (fun x wr => ∃ (j : Nat) (pre : List Yi), j ≤ l.length ∧ x = .int .i64 ((j : Int) - 1) ∧ Hid (pre.map (·.2) = l.reverse.take (l.length - j)) ∧ J pre wr ∧ Hid (Below n0 W wr)) (fun x _ => (intOf x + 1).toNat)
  case atStart => exact ⟨l.length, [], Nat.le_refl _, rfl, Lib.hid (by rw [Nat.sub_self]; rfl), h0, Lib.hid (Below.refl _ _)⟩
  case round =>
    obtain ⟨j, pre, hj, rfl, HP, hJ, HBW⟩ := hrel
    have c0 := HB.out wr HBW.out
    by_cases hz : j = 0
    · have HE : Hid (pre.map (·.2) = l.reverse) := Lib.hid (by rw [HP.out, hz, Nat.sub_zero, List.take_of_length_le (by simp)])
      subst hz
      rw [show ((0 : Nat) : Int) - 1 = -1 from rfl]
      gi_wp2
      go_end0
      exact ⟨⟨_, rfl⟩, .inl ⟨pre, HE.out, hJ⟩⟩
    · obtain ⟨i, hi⟩ : ∃ i, j = i + 1 := ⟨j - 1, by omega⟩
      have hil : i < l.length := by omega
      have e1 : (j : Int) - 1 = (i : Int) := by omega
      obtain ⟨b, o, rfl, hb, _, hra⟩ := (HV.out wr HBW.out).elemAt itc_len (by decide) it0 hil
      have hr := hra i hil
      obtain ⟨y, hy⟩ : ∃ y, l.getD i it0 = y := ⟨_, rfl⟩
      rw [hy] at hr
      have HR := Lib.hid hr
      have HTK : Hid (l.reverse.take (l.length - i) = l.reverse.take (l.length - j) ++ [y]) := Lib.hid (by
        have hlen : l.length - j < l.reverse.length := by simp; omega
        have := take_snoc it0 hlen
        rw [show l.length - i = l.length - j + 1 by omega, this]
        congr 2
        rw [getD_lt it0 hlen, List.getElem_reverse, ← hy, getD_lt it0 hil]
        congr 1
        omega)
      have hlen : pre.length < 1000 := by
        have := congrArg List.length HP.out
        simp only [List.length_map, List.length_take, List.length_reverse] at this
        omega
      obtain ⟨fn, tmps, assign, body, hyy, hR⟩ := HY.out pre (i, y) wr hJ hlen
      simp only [encY, itc] at hyy
      have x0 := HR.out 0 _ rfl
      have x1 := HR.out 1 _ rfl
      have x2 := HR.out 2 _ rfl
      have x3 := HR.out 3 _ rfl
      have x4 := HR.out 4 _ rfl
      simp only [Nat.add_zero] at x0
      have i0 : (0 : Int) ≤ (i : Int) := by omega
      have i1 : (i : Int) < (l.length : Int) := by omega
      rw [e1]
      clear hra hr hy hb e1
      have e2 : (i : Int) - 1 + 1 = (i : Int) := by omega
      gi_wp2
      refine hR.mono ?_
      rintro e w3 (⟨rfl, hJ3, hb3⟩ | ⟨rfl, hJx3⟩)
      · gi_wp2
        go_roundw
        case rel => exact ⟨i, pre ++ [(i, y)], by omega, rfl, Lib.hid (by rw [List.map_append, HP.out, HTK.out]; rfl), hJ3, Lib.hid (HBW.out.trans hb3)⟩
        case measure => simp [intOf]
      · gi_wp2
        refine bodyPost_ret (results_none rfl _ _ _) rfl ?_
        exact ⟨⟨_, rfl⟩, .inr ⟨pre ++ [(i, y)], ⟨l.reverse.drop (l.length - i), by rw [List.map_append, HP.out, List.map_singleton, ← HTK.out]; exact List.take_append_drop _ _⟩, hJx3⟩⟩

theorem row_fromL {W W' : World} {row : Option Nat} {g : Nat} {e : TypeId} {cs : List Value} (h : Row W g e cs) (hg : W.grownBy W' row) (hr : ∀ r, row = some r → ∃ o : Obj, W.heap[r]? = some o ∧ o.isCells = false) : Row W' g e cs :=
  (hg.block g h.lt (fun e => by obtain ⟨o, ho, hc⟩ := hr g e.symm; unfold Row at h; rw [h] at ho; cases ho; cases hc)).trans h
theorem backward_any (A : Option Addr) (n c : Nat) (w : World) : Calls Try.prog 32 #[.slice A n c] w fun e w' => e = .returned (.func (.func 41) #[] #[.pointer (some ⟨w.heap.size, 0, none⟩)]) ∧ Row w' w.heap.size 33 [.slice A n c] ∧ Chg none_ w w' := by
  have HR := Lib.hid (Row.new w 33 [.slice A n c])
  have HC := Lib.hid ((Chg.refl none_ w).alloc (.cells #[.slice A n c] 33))
  go_enter Try.func32, Try.ntmps32
  go_wp2
  go_ret
  exact ⟨rfl, HR.out, HC.out⟩
theorem backward_stops (gb c n0 : Nat) (l : List It) (A : Option Addr) (T : Nat → Prop) (w : World) (hl : l.length ≤ 1000) (hbox : Row w gb 33 [.slice A l.length c]) (hgb : gb < n0) (hv : View w T A (l.length * 5) (l.flatMap itc)) (hT : ∀ b, b < w.heap.size → T b → b < n0) (hn : n0 ≤ w.heap.size) :
    SeqStopsK Fence.wide 1 Try.prog 41 #[.pointer (some ⟨gb, 0, none⟩)] encY (Below n0) (fun xs => xs.map (·.2) = l.reverse) (fun pre => ∃ suf, pre.map (·.2) ++ suf = l.reverse) 1000 w := fun lp J Jx W hW _ _ hY h0 =>
  backward1_in lp gb c n0 l A (fun b => T b ∧ b < n0) J Jx W hl ((hW.block gb hbox.lt).trans hbox) hgb ((hv.mono (T' := fun b => T b ∧ b < n0) (fun b hb h => ⟨h, hT b hb h⟩)).chg (S := fun b => w.heap.size ≤ b) (Chg.of_below hW) (fun b hb h => by have := hb.2; omega)) (fun b h => h.2) hY h0

theorem Row.newAtL (W : World) (e : TypeId) (cs : List Value) (b : Nat) (hb : W.heap.size = b) : Row (W.alloc (.cells cs.toArray e)) b e cs := hb ▸ Row.new W e cs
theorem run_loadVar_one {w : World} {g ty : Nat} {v : Value} (h : Row w g ty [v]) {d : TypeDesc} (hu : Try.prog.underlying ty = some d) (hd : (match d with | .struct _ | .array _ _ => true | _ => false) = false) : (loadVar ty ⟨g, 0, none⟩).run Try.prog w = .ok v w := by
  have c := h.cell 0
  simp only [List.getElem?_cons_zero] at c
  have hagg : (isAgg ty).run Try.prog w = .ok false w := by
    unfold isAgg
    rw [Sem.run_bind, run_underlying hu w]
    cases d <;> simp_all [Result.andThen]
  unfold loadVar
  rw [Sem.run_bind, hagg]
  simp [Result.andThen, go_sem, c]
theorem results_cells2 {fn : Func} {p q : Tmp} {t1 t2 : TypeId} (h : fn.results = #[.cell p t1, .cell q t2]) (tmps : Array Value) (w : World) (a b : Addr) (v1 v2 : Value)
    (hp : tmps.getD p undef = .pointer (some a)) (hq : tmps.getD q undef = .pointer (some b)) (h1 : (loadVar t1 a).run Try.prog w = .ok v1 w) (h2 : (loadVar t2 b).run Try.prog w = .ok v2 w) :
    (results fn tmps).run Try.prog w = .ok (.tuple #[v1, v2]) w := by
  have hp' : tmps[p]?.getD undef = .pointer (some a) := by simpa using hp
  have hq' : tmps[q]?.getD undef = .pointer (some b) := by simpa using hq
  simp [results, h, hp', hq', asAddr, Sem.run_bind, h1, h2, Result.andThen]
theorem chg_from {S : Nat → Prop} {W W' : World} {row : Option Nat} {w : World} {B : Nat} (h : Chg S w W) (hB : w.heap.size ≤ B) (hg : W.grownBy W' row) (hr : ∀ r, row = some r → B ≤ r ∧ ∃ o : Obj, W.heap[r]? = some o ∧ o.isCells = false) : Chg S w W' :=
  h.grown hg (fun k e hk => by have := (hr k e).1; omega)

theorem lastI_app (a b : List It) (h : ∀ y ∈ b, y.ask = false) : lastI (a ++ b) = lastI a := by
  induction b generalizing a with
  | nil => rw [List.append_nil]
  | cons y b ih =>
    rw [show a ++ y :: b = (a ++ [y]) ++ b by simp, ih (a ++ [y]) (fun z hz => h z (by simp [hz])), lastI_snoc, h y (by simp)]
    rfl
theorem lastI_none (l : List It) (h : ∀ y ∈ l, y.ask = false) : lastI l = (0, false) := by
  have := lastI_app [] l h
  rwa [List.nil_append] at this
theorem lastI_some {l p s : List It} {q : It} (h : p ++ [q] ++ s = l.reverse) (hp : ∀ y ∈ p, y.ask = false) (hq : q.ask = true) : lastI l = (q.at_, true) := by
  have e : l = s.reverse ++ [q] ++ p.reverse := by
    have := congrArg List.reverse h
    rw [List.reverse_reverse] at this
    rw [← this]
    simp
  rw [e, lastI_app _ _ (fun y hy => hp y (List.mem_reverse.1 hy)), lastI_snoc, hq]
  rfl

set_option maxRecDepth 100000 in
set_option maxHeartbeats 4000000 in
theorem Last_core (pv : Value) (A : Option Addr) (c : Nat) (T : Nat → Prop) (l : List It) (w : World) (hl : l.length ≤ 1000)
    (HP : Hid (∀ W, Chg none_ w W → Calls Try.prog 33 #[pv] W fun e w' => e = .returned (.slice A l.length c) ∧ W = w'))
    (HV : Hid (∀ W, Chg none_ w W → View W T A (l.length * 5) (l.flatMap itc))) :
    Calls Try.prog 11 #[pv] w fun e w' => e = .returned (.tuple #[.int .u64 (((lastI l).1 : Nat) : Int), .bool (lastI l).2]) ∧ Chg none_ w w' := by
  have HBW := Lib.hid (fun A n c W => backward_any A n c W)
  refine (callsIn_wide (n := 2)).1 ?_
  refine callsIn_of_wp_marks Try.func11 rfl trivial ?_ rfl
  simp only [Try.ntmps11, List.size_toArray, List.length_cons, List.length_nil, Nat.reduceAdd, Nat.reduceSub, Array.replicate_succ, Array.replicate_zero, List.push_toArray, List.append_toArray, List.nil_append, List.cons_append]
  gi_wp2_with (refine ⟨trivial, ?_⟩; first | (gi_at_call 33; refine (callsIn_wide.2 (HP.out _ (((Chg.refl none_ w).alloc _).alloc _))).mono ?_; rintro e w4 ⟨rfl, rfl⟩) | (gi_at_call 32; refine (callsIn_wide.2 (HBW.out _ _ _ _)).mono ?_; rintro e w5 ⟨rfl, hr5, hc5⟩))
  -- LOOP
  simp only [World.size_alloc] at hr5
  have hr3 : Row w5 w.heap.size 29 [.int .u64 ((0 : Nat) : Int)] := ((Row.new w _ [.int .u64 ((0 : Nat) : Int)]).alloc _).chg hc5 (fun h => h)
  have hr4 : Row w5 (w.heap.size + 1) 4 [.bool false] := (Row.newAtL _ _ [.bool false] _ (by simp)).chg hc5 (fun h => h)
  have hcw : Chg none_ w w5 := (((Chg.refl none_ w).alloc _).alloc _).trans hc5
  replace hr5 : Row w5 (w.heap.size + 1 + 1) 33 [.slice A l.length c] := hr5
  have hsz : w.heap.size + 1 + 1 < w5.heap.size := hr5.lt
  clear hc5
  refine wpIn_rangeFunc_ownH (F := Fence.wide) rfl (by decide) (gf := 41) (lb := #[.pointer (some ⟨w.heap.size + 1 + 1, 0, none⟩)]) rfl trivial (enters_of Try.func41 (by kernel_rfl) rfl)
    (backward_stops (w.heap.size + 1 + 1) c w5.heap.size l A T w5 hl hr5 hr5.lt (HV.out _ hcw) (fun b hb _ => hb) (Nat.le_refl _)) belowK_t (belowK_b (Nat.le_refl _)) (Below.refl _ _) (fun _ => rfl)
    (fun pre W => (Row W w.heap.size 29 [.int .u64 ((0 : Nat) : Int)] ∧ Row W (w.heap.size + 1) 4 [.bool false] ∧ (∀ y ∈ pre.map (·.2), y.ask = false) ∧ w5.heap.size ≤ W.heap.size) ∧ Chg none_ w W)
    (fun cd pre W => cd = .ret ∧ (∃ pr q, pre.map (·.2) = pr ++ [q] ∧ (∀ y ∈ pr, y.ask = false) ∧ q.ask = true ∧ Row W w.heap.size 29 [.int .u64 (q.at_ : Int)] ∧ Row W (w.heap.size + 1) 4 [.bool true]) ∧ Chg none_ w W)
    (fun s A B row hs hg hr => ⟨⟨row_fromL hs.1.1 hg (fun r e => (hr r e).2), row_fromL hs.1.2.1 hg (fun r e => (hr r e).2), hs.1.2.2.1, Nat.le_trans hs.1.2.2.2 hg.size⟩, chg_from hs.2 (by omega) hg hr⟩)
    (fun cd s A B row hs hg hr => by
      obtain ⟨h1, ⟨pr, q, h2, h3, h4, h5, h6⟩, h7⟩ := hs
      exact ⟨h1, ⟨pr, q, h2, h3, h4, row_fromL h5 hg (fun r e => (hr r e).2), row_fromL h6 hg (fun r e => (hr r e).2)⟩, chg_from h7 (by omega) hg hr⟩)
    ⟨⟨hr3, hr4, (fun y hy => by simp at hy), Nat.le_refl _⟩, hcw⟩
    (fun x a' W => ∃ Bx, w5.heap.size ≤ Bx ∧ Row W Bx 32 (itc x.2) ∧ a' = { tmps := #[pv, undef, .pointer (some ⟨w.heap.size, 0, none⟩), .pointer (some ⟨w.heap.size + 1, 0, none⟩), undef, .pointer (some ⟨Bx, 0, none⟩), pv, .slice A l.length c, .func (.func 41) #[] #[.pointer (some ⟨w.heap.size + 1 + 1, 0, none⟩)], .int .i64 (x.1 : Int), .agg (itc x.2).toArray, undef, undef, undef, undef], defers := [] })
    (fun x a' _ X Y row hs hg hr => by obtain ⟨Bx, h1, h2, h3⟩ := hs; exact ⟨Bx, h1, row_fromL h2 hg (fun r e => (hr r e).2), h3⟩)
    ?assign ?body ?done ?stop
  case assign =>
    rintro lp pre ⟨ix, q⟩ W K ⟨⟨hA, hB, hN, hW⟩, hC⟩ hK
    have HK := Lib.hid hK
    have HI := Lib.hid (And.intro hA (And.intro hB hN))
    have HC := Lib.hid hC
    clear hK hA hB hN hC
    simp only [encY, itc]
    gi_wp2
    refine HK.out _ _ ((KeepsOthers.alloc _ _).from _) ((Below.refl _ W).alloc hW _) ⟨⟨HI.out.1.alloc _, HI.out.2.1.alloc _, HI.out.2.2, by rw [World.size_alloc]; omega⟩, HC.out.alloc _⟩ ⟨W.heap.size, hW, Row.new W _ (itc q), rfl⟩
  case body =>
    rintro lp pre ⟨ix, q⟩ a' W hlp ⟨r, hr⟩ ⟨⟨hA, hB, hN, hW⟩, hC⟩ ⟨Bx, hBx, hX, rfl⟩ _
    have HC := Lib.hid hC
    have HN := Lib.hid hN
    have HR := Lib.hid (And.intro hA (And.intro hB hX))
    have x0 := hX.cell 0
    have x1 := hX.cell 1
    have x2 := hX.cell 2
    have x3 := hX.cell 3
    have a0 := hA.cell 0
    have a1 := hA.frozen 0
    have b0 := hB.cell 0
    have b1 := hB.frozen 0
    simp only [itc, List.getElem?_cons_zero, List.getElem?_cons_succ] at x0 x1 x2 x3 a0 b0
    clear hC hN hA hB hX hr
    by_cases hask : q.ask = true
    · rw [hask] at x3
      gi_wp2
      obtain ⟨hA, hB, hX⟩ := HR.out
      refine ⟨((KeepsOthers.setCell _ _ _).from _).trans ((KeepsOthers.setCell _ _ _).from _), rfl, ⟨pre.map (·.2), q, by rw [List.map_append]; rfl, HN.out, hask, ?_, ?_⟩, ?_⟩
      · exact (hA.set 0 _).far (by simp) _
      · exact (hB.far (by simp) _).set 0 _
      · exact (HC.out.setCell (fun h => by simp only at h; omega) _).setCell (fun h => by simp only at h; omega) _
    · have hask2 : q.ask = false := by simpa using hask
      rw [hask2] at x3
      gi_wp2
      obtain ⟨hA, hB, hX⟩ := HR.out
      refine ⟨KeepsFrom.refl _ _, Below.refl _ _, ⟨hA, hB, ?_, hW⟩, HC.out⟩
      intro y z hy
      rcases List.mem_append.1 hy with h | h
      · exact HN.out y (List.mem_map.2 ⟨(z, y), h, rfl⟩)
      · have := List.mem_singleton.1 h
        cases this
        exact hask2
  case done =>
    rintro D ys W hD hS ⟨⟨hA, hB, hN, hW⟩, hC⟩ hK
    have a0 := hA.cell 0
    have a1 := hA.frozen 0
    have b0 := hB.cell 0
    have b1 := hB.frozen 0
    simp only [List.getElem?_cons_zero] at a0 b0
    gi_wp2
    have hK' := ((KeepsOthers.setCell W ⟨w.heap.size, 0, none⟩ (.int .u64 0)).trans (KeepsOthers.setCell _ ⟨w.heap.size + 1, 0, none⟩ (.bool false))).same D _ hK rfl
    have hA' := row_fromL ((hA.set 0 (.int .u64 0)).far (p := ⟨w.heap.size + 1, 0, none⟩) (by simp) (.bool false)) (grownBy_putObj' _ D (.deferred none)) (fun r e => by cases e; exact ⟨_, hK', rfl⟩)
    have hB' := row_fromL ((hB.far (p := ⟨w.heap.size, 0, none⟩) (by simp) (.int .u64 0)).set 0 (.bool false)) (grownBy_putObj' _ D (.deferred none)) (fun r e => by cases e; exact ⟨_, hK', rfl⟩)
    have hll : lastI l = (0, false) := lastI_none l (fun y hy => by
      have h2 : y ∈ ys.map (·.2) := by rw [hS]; exact List.mem_reverse.2 hy
      exact hN y h2)
    rw [hll]
    refine ⟨by simp, .inl ⟨_, _, rfl, run_takeDeferred hK', ?_⟩⟩
    refine ⟨_, results_cells2 (p := 2) (q := 3) (t1 := 29) (t2 := 4) rfl _ _ ⟨w.heap.size, 0, none⟩ ⟨w.heap.size + 1, 0, none⟩ (.int .u64 0) (.bool false) rfl rfl (run_loadVar_one hA' Try.underlying29 rfl) (run_loadVar_one hB' Try.underlying4 rfl), rfl, ?_⟩
    exact ((hC.setCell (p := ⟨w.heap.size, 0, none⟩) (fun h => by simp only at h; omega) _).setCell (p := ⟨w.heap.size + 1, 0, none⟩) (fun h => by simp only at h; omega) _).grown (grownBy_putObj' _ D (.deferred none)) (fun k e hk => by cases e; omega)
  case stop =>
    rintro D cd pre W hD hS ⟨rfl, ⟨pr, q, h2, h3, h4, hA, hB⟩, hC⟩ hK
    have hl' : lastI l = (q.at_, true) := by
      obtain ⟨suf, hs⟩ := hS
      exact lastI_some (p := pr) (s := suf) (by rw [← h2]; exact hs) h3 h4
    gi_wp2
    rw [hl']
    have hA' := row_fromL hA (grownBy_putObj' _ D (.deferred none)) (fun r e => by cases e; exact ⟨_, hK, rfl⟩)
    have hB' := row_fromL hB (grownBy_putObj' _ D (.deferred none)) (fun r e => by cases e; exact ⟨_, hK, rfl⟩)
    refine ⟨by simp, .inl ⟨_, _, rfl, run_takeDeferred hK, ?_⟩⟩
    refine ⟨_, results_cells2 (p := 2) (q := 3) (t1 := 29) (t2 := 4) rfl _ _ ⟨w.heap.size, 0, none⟩ ⟨w.heap.size + 1, 0, none⟩ (.int .u64 (q.at_ : Int)) (.bool true) rfl rfl (run_loadVar_one hA' Try.underlying29 rfl) (run_loadVar_one hB' Try.underlying4 rfl), rfl, ?_⟩
    exact hC.grown (grownBy_putObj' _ D (.deferred none)) (fun k e hk => by cases e; omega)
theorem Last_any (base g next above : Nat) (T : Nat → Prop) (v : Value) (l : List It) (w : World) (h : LedAt w base g T v l next above) (hl : l.length ≤ 1000) :
    Calls Try.prog 11 #[.pointer (some ⟨g, 0, none⟩)] w fun e w' => e = .returned (.tuple #[.int .u64 (((lastI l).1 : Nat) : Int), .bool (lastI l).2]) ∧ Chg none_ w w' := by
  obtain ⟨A, c, rfl, _, _, hv⟩ := h.own.view
  exact Last_core _ A c (fun b => (Value.slice A l.length c).ownBlock = some b) l w hl (Lib.hid (fun W hc => (packets_any (h.quiet hc)).mono (fun _ _ q => And.intro q.1 q.2.symm)))
    (Lib.hid (fun W hc => hv.chg hc (fun _ _ h => h)))
theorem Last_nil (w : World) : Calls Try.prog 11 #[.pointer none] w fun e w' => e = .returned (.tuple #[.int .u64 ((0 : Nat) : Int), .bool false]) ∧ Chg none_ w w' :=
  Last_core _ none 0 (fun _ => False) [] w (by decide) (Lib.hid (fun W _ => (packets_nil W).mono (fun _ _ q => And.intro q.1 q.2.symm))) (Lib.hid (fun W _ => View.none_ _ _ _))
end Go.Proofs.Ytakoeamfmmbdiaa
