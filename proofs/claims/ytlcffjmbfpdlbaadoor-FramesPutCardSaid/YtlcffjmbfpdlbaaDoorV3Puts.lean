/- Layer 3 (frames): parts are put. -/
import Derived.Test.YtlcffjmbfpdlbaaDoorV3Drop
import Derived.Test.YtlcffjmbfpdlbaaDoorConcat
import Derived.Test.YtlcffjmbfpdlbaaDoorV1Math
import Derived.Deep.RegionHeld3
import Derived.Deep.RegionWith
import Derived.RegionTactic
namespace Go.Proofs.YtlcffjmbfpdlbaaDoor
open Go.RowKit

theorem NewBytes.new {w w' : World} {v : Value} {l : List Nat} (h : NewBytes w w' v l) : BytesNew w l (.returned v) w' := by
  obtain ⟨A, cap, rfl, hv⟩ := h.view
  exact ⟨A, cap, rfl, hv, h.1⟩
theorem BytesNew.before {w w1 w' : World} {l : List Nat} {e : Ending} (h : BytesNew w1 l e w') (hc : Chg none_ w w1) : BytesNew w l e w' := by
  obtain ⟨A, cap, h1, h2, h3⟩ := h
  exact ⟨A, cap, h1, h2.mono (fun _ _ hb => Nat.le_trans hc.size hb), hc.trans h3⟩

/-- An integer's bytes. -/
def encI (n : Nat) : List Nat := wideB n (szN n)

section
variable (f : Fr) (sd sr : Value) (w : World) (T : Nat → Prop)

set_option maxRecDepth 100000 in
theorem integer1_any (p : Part) (h : Nat) (hT : Tab w) (hr : Row w h 76 [fnv (placeFn p)]) :
    Calls Tryd.prog 90 #[aggF f sd sr, .pointer (some ⟨h, 0, none⟩)] w (BytesNew w (encI (getP p f))) := by
  unfold aggF
  have ha := (Chg.refl none_ w).alloc (.cells (cellsF f sd sr).toArray 27)
  have hc0 := (hr.chg ha (fun h => h)).cell 0
  simp [fnv] at hc0
  have hcx := ((Row.new w 27 (cellsF f sd sr)).cell (placeIx p)).trans (cells_getP p f sd sr)
  have HP := Lib.hid (place_any p w.heap.size (w.alloc (.cells (cellsF f sd sr).toArray 27)))
  have HPUT := Lib.hid (put_any (getP p f) _ (hT.chg ha (fun h => h)))
  have heg := place_call p
  have HA := Lib.hid ha
  clear hr ha hT
  generalize placeFn p = n at hc0 HP heg
  generalize placeIx p = ix at HP hcx
  generalize cellsF f sd sr = cs at *
  have hc0' : h < w.heap.size → w.cell? ⟨h, 0, none⟩ = some (.func (.func n) #[] #[]) := fun hl => by
    have := HA.out.cell 0 hl (fun h => h)
    rw [← this]; exact hc0
  go_enter Tryd.func90, Tryd.ntmps90
  go_wp2_with fail
  refine HP.out.mono ?_
  rintro e w' ⟨rfl, rfl⟩
  go_wp2_with fail
  refine HPUT.out.mono ?_
  rintro e w2 ⟨v, rfl, hv⟩
  go_wp2
  go_ret
  exact (hv.new).before HA.out

/-- What is put ahead of so many bytes. -/
def aheadM (p : Part) (n : Nat) : List Nat :=
  match p with
  | .counted => encI n
  | .shortly => [n % 256]
  | _ => []

set_option maxRecDepth 100000 in
theorem ahead_call (p : Part) : ∀ args w, (callFunc (aheadFn p) args).run Tryd.prog w = .ok (.enter (aheadFn p) args) w := by
  intro args w
  cases p <;> first | exact Tryd.call69 args w | exact Tryd.call71 args w | exact Tryd.call78 args w

theorem ahead_counted (n : Nat) (hT : Tab w) (hn : n ≤ 1000000) : Calls Tryd.prog 69 #[.int .i64 n] w fun e w' => ∃ v, e = .returned v ∧ NewBytes w w' v (encI n) := by
  have HPUT := Lib.hid (put_any n w hT)
  have hw : IntKind.u64.wrap (n : Int) = (n : Int) := IntWalk.u64_in _ (by omega)
  go_enter Tryd.func69, Tryd.ntmps69
  go_wp2_with fail
  refine HPUT.out.mono ?_
  rintro e w2 ⟨v, rfl, hv⟩
  go_wp2
  go_ret
  exact ⟨v, rfl, hv⟩
theorem ahead_shortly (n : Nat) : Calls Tryd.prog 71 #[.int .i64 n] w fun e w' => ∃ v, e = .returned v ∧ NewBytes w w' v [n % 256] := by
  have hw : IntKind.u8.wrap (n : Int) = ((n % 256 : Nat) : Int) := by
    show (n : Int) % 256 = _
    omega
  go_enter Tryd.func71, Tryd.ntmps71
  go_wp2
  go_ret
  exact ⟨_, rfl, (Chg.refl none_ w).alloc _, .inr ⟨by simp, rfl, Row.new w _ [_]⟩⟩
theorem ahead_nothing (n : Nat) : Calls Tryd.prog 78 #[.int .i64 n] w fun e w' => ∃ v, e = .returned v ∧ NewBytes w w' v [] := by
  go_enter Tryd.func78, Tryd.ntmps78
  go_wp2
  go_ret
  exact ⟨_, rfl, Chg.refl none_ w, .inl ⟨rfl, rfl⟩⟩
theorem ahead_any (p : Part) (n : Nat) (hT : Tab w) (hn : n ≤ 1000000) : Calls Tryd.prog (aheadFn p) #[.int .i64 n] w fun e w' => ∃ v, e = .returned v ∧ NewBytes w w' v (aheadM p n) := by
  cases p
  case counted => exact ahead_counted w n hT hn
  case shortly => exact ahead_shortly w n
  all_goals exact ahead_nothing w n

theorem encI_len (n : Nat) : (encI n).length ≤ 8 := wideB_len n
theorem aheadM_len (p : Part) (n : Nat) : (aheadM p n).length ≤ 8 := by
  cases p <;> first | exact encI_len n | simp [aheadM]

set_option maxRecDepth 100000 in
set_option maxHeartbeats 1000000 in
theorem data1_any (p : Part) (h : Nat) (hT : Tab w) (hd : FrD w T f sd sr) (hr : Row w h 78 [fnv (aheadFn p)]) :
    Calls Tryd.prog 93 #[aggF f sd sr, .pointer (some ⟨h, 0, none⟩)] w (BytesNew w (aheadM p f.data.length ++ f.data)) := by
  unfold aggF
  obtain ⟨_, ⟨A, c, rfl, hdl, hdv⟩, _⟩ := hd
  obtain ⟨i0, hi, hz0, hz1, hz2⟩ := info_parts info5
  have ha := (Chg.refl none_ w).alloc (.cells (cellsF f (.slice A f.data.length c) sr).toArray 27)
  have hc0 := (hr.chg ha (fun h => h)).cell 0
  simp [fnv] at hc0
  have hc6 := ((Row.new w 27 (cellsF f (.slice A f.data.length c) sr)).cell 6).trans (cF_6 f _ sr)
  have HV := Lib.hid (hdv.chg ha (fun _ _ h => h))
  have hTa := hT.chg ha (fun h => h)
  have HAL := Lib.hid (aheadM_len p f.data.length)
  have heg := ahead_call p
  have HA := Lib.hid ha
  have hhl := hr.lt
  clear hr hT hdv
  have HAH : Hid (∀ w1 : World, w1.heap = (w.alloc (.cells (cellsF f (.slice A f.data.length c) sr).toArray 27)).heap → Calls Tryd.prog (aheadFn p) #[.int .i64 f.data.length] w1 fun e w' => ∃ v, e = .returned v ∧ NewBytes w1 w' v (aheadM p f.data.length)) := fun w1 hh => ahead_any w1 p f.data.length (by
    obtain ⟨h1, h2, h3, h4, h5⟩ := hTa
    exact ⟨by rw [hh]; exact h1, by simpa [World.cell?, hh] using h2, by simpa [World.cell?, hh] using h3, by simpa [World.cell?, hh] using h4, by simpa [World.cell?, hh] using h5⟩) hdl
  clear hTa ha
  generalize aheadFn p = n at hc0 HAH heg
  generalize aheadM p f.data.length = am at *
  generalize cellsF f (.slice A f.data.length c) sr = cs at *
  have hsz0 : (w.alloc (.cells cs.toArray 27)).heap.size = w.heap.size + 1 := by simp
  have HSZ := Lib.hid hsz0
  clear hsz0
  go_enter Tryd.func93, Tryd.ntmps93
  go_wp2_with fail
  generalize w.alloc (.cells cs.toArray 27) = W at *
  have hlt1 : h < W.heap.size := by have := HSZ.out; omega
  have hlt2 : w.heap.size < W.heap.size := by have := HSZ.out; omega
  go_region_held3 (fun w' => w'.cell? ⟨h, 0, none⟩ = some (.func (.func n) #[] #[]) ∧ w'.cell? ⟨w.heap.size, 6, none⟩ = some (.slice A f.data.length c)) (first | go_keep | exact ⟨(hch.cell 0 hlt1 (fun h => h)).trans hc0, (hch.cell 6 hlt2 (fun h => h)).trans hc6⟩ | exact ⟨(hch3.cell 0 hlt1 (fun h => h)).trans hc0, (hch3.cell 6 hlt2 (fun h => h)).trans hc6⟩)
    (first | ((with_reducible refine Calls.mono (HAH.out _ ?hh) ?kk); (case hh => exact rfl); rintro e w2 ⟨v, rfl, hv⟩; have hch : Chg none_ W w2 := ⟨hv.1.os, hv.1.tape, hv.1.output, hv.1.size, hv.1.block⟩) | (refine step_append_view rfl (.tmp 8) (.tmp 10) 23 rfl 5 i0 _ 1 Tryd.underlying23 hi hz0 hz1 hz2 rfl _ _ am.length (u8s am) rfl (own_of_new hv (by have := HAL.out; unfold maxLen; omega)) T A f.data.length c (u8s f.data) rfl (HV.out.chg hch (fun _ _ h => h)) (u8s_one _) (by have := HAL.out; unfold maxLen; omega) (by have := HAL.out; omega) hch.size ?_; intro v' w3 hown hgrow hat; have hch3 : Chg none_ W w3 := hch.grown hgrow (fun k hk hlt => by have := ((own_of_new hv (by have := HAL.out; unfold maxLen; omega)).lt k hk).1; have e : W.drew.heap.size = W.heap.size := rfl; omega)))
  go_wp2
  obtain ⟨A2, cap2, rfl, g1, g2, g3⟩ := View.own (T := fun b => W.heap.size ≤ b) hown (fun _ h => h)
  go_ret
  have e2 : am.length + f.data.length = (am ++ f.data).length := by simp
  rw [e2, u8s_append'] at g3
  rw [e2]
  exact ⟨A2, cap2, rfl, g3.mono (fun b _ hb => by omega), HA.out.trans hch3⟩

set_option maxRecDepth 100000 in
theorem token1_any (htok : f.tok.length = 16) : Calls Tryd.prog 74 #[aggF f sd sr] w (BytesNew w f.tok) := by
  unfold aggF
  have hr := tok_range (Row.new w 27 (cellsF f sd sr))
  have HR := Lib.hid hr
  have HTK := Lib.hid htok
  clear hr
  generalize cellsF f sd sr = cs at *
  go_enter Tryd.func74, Tryd.ntmps74
  go_wp2
  go_ret
  refine ⟨some ⟨w.heap.size, 8, none⟩, 16, by rw [HTK.out]; rfl, ⟨by simp, fun _ => ⟨w.heap.size, 8, rfl, by simp, Nat.le_refl _, fun j hj => ?_⟩⟩, (Chg.refl _ _).alloc _⟩
  have hj2 : j < (u8s f.tok).length := by simpa using hj
  rw [List.getElem?_eq_getElem hj2]
  exact HR.out j _ (List.getElem?_eq_getElem hj2)

set_option maxRecDepth 100000 in
theorem zeros1_any (h1 : 1 ≤ f.a) (h2 : f.a ≤ 1200) : Calls Tryd.prog 59 #[aggF f sd sr] w (BytesNew w (List.replicate (f.a - 1) 0)) := by
  unfold aggF
  obtain ⟨i0, hi, hz0, hz1, hz2⟩ := info_parts info5
  have hc2 := cF_2 f sd sr
  have HL := Lib.hid (show 1 ≤ f.a ∧ f.a ≤ 1200 from ⟨h1, h2⟩)
  have hw : IntKind.u64.wrap ((f.a : Int) - 1) = ((f.a - 1 : Nat) : Int) := by rw [show (f.a : Int) - 1 = ((f.a - 1 : Nat) : Int) from by omega]; exact IntWalk.u64_in _ (by omega)
  have HA := Lib.hid ((Chg.refl none_ w).alloc (.cells (cellsF f sd sr).toArray 27))
  generalize cellsF f sd sr = cs at *
  generalize hn : f.a - 1 = n at *
  have hn1 : (f.a : Int) - 1 = (n : Int) := by omega
  have HN : Hid (n ≤ 1199) := by show n ≤ 1199; omega
  have hwn : IntKind.u64.wrap (n : Int) = (n : Int) := IntWalk.u64_in _ (by omega)
  clear h1 h2 hn
  go_enter Tryd.func59, Tryd.ntmps59
  go_wp2_with (at_make; refine wpList_make_full _ rfl _ _ _ rfl w.heap.size 5 i0 _ 1 Tryd.underlying23 hi hz0 hz1 _ _ _ _ n rfl rfl rfl rfl (by have := HN.out; rw [hz2]; omega) (by have := HN.out; unfold maxLen; omega) (by simp) ?_; intro w1 hown hgrow)
  have hR : Row w1 (w.heap.size + 1) 5 (u8s (List.replicate n 0)) := by
    have := Row.of_made hown
    rw [show (Value.int .u8 0).cells = #[.int .u8 0] from rfl, toList_madeCells_one] at this
    simpa [u8s] using this
  have hC : Chg none_ w w1 := HA.out.grown hgrow (by intro k hk; cases hk)
  have HR := Lib.hid hR
  have HC := Lib.hid hC
  clear hR hC hown hgrow
  go_wp2
  go_ret
  have hv := View.row (T := fun b => w.heap.size ≤ b) HR.out (n := n) (by simp) (by omega)
  rw [List.take_of_length_le (by simp)] at hv
  exact ⟨some ⟨w.heap.size + 1, 0, none⟩, n, by simp, by simpa using hv, HC.out⟩

theorem dropped1_any : Calls Tryd.prog 87 #[aggF f sd sr] w (BytesNew w []) := by
  unfold aggF
  generalize cellsF f sd sr = cs
  go_enter Tryd.func87, Tryd.ntmps87
  go_wp2
  go_ret
  exact ⟨none, 0, rfl, View.none_ _ _ _, (Chg.refl _ _).alloc _⟩
end
end Go.Proofs.YtlcffjmbfpdlbaaDoor
