/- Layer 3 (frames): a frame without one of its parts. -/
import Derived.Test.YtlcffjmbfpdlbaaDoorV3Of
import Derived.Test.YtlcffjmbfpdlbaaDoorV3Same
namespace Go.Proofs.YtlcffjmbfpdlbaaDoor
open Go.RowKit

section
variable {P : Program} {ops : Array Oper} {rest : List Oper} {o : Oper} {a : Act} {w : World} {Q : Exit → Act → World → Prop}
/-- A part of a row is stored all at once. -/
theorem wpList_store_Mid {ty : TypeId} {x y : Operand} (ho : o.op = .store ty x y) (hw : Region.wanted o (yielded ops a.tmps) = true) {g : Nat} {e : TypeId} {pre ys post xs : List Value} (hx : a.eval x = .pointer (some ⟨g, pre.length, none⟩)) (h : Row w g e (pre ++ ys ++ post))
    (hy : a.eval y = .agg xs.toArray) (hl : xs.length = ys.length) (hi : (P.info? ty).map (·.size) = some xs.length) (h1 : xs.all (·.oneCell') = true)
    (k : ∀ w', Row w' g e (pre ++ xs ++ post) → (∀ S w0, Chg S w0 w → (g < w0.heap.size → S g) → Chg S w0 w') → w'.heap.size = w.heap.size → wpList P ops Q rest (a.put o.dst undef) w') : wpList P ops Q (o :: rest) a w :=
  BigFrame.wpList_want hw fun _ hK => wp_store_mid ty x y ho g pre.length xs.toArray hx hy (h.there pre.length _ (by simp; omega)) (by simpa using hi) (by simpa using h1)
    (hK _ _ (k _ (by simpa using h.storeMid hl) (fun S w0 hc hg => by simpa using hc.setCells xs pre.length hg) (setCells_size _ _ _ _)))
end

/-- A function value does that, called with these arguments. -/
def Does (v : Value) (args : Array Value) (w : World) (R : Ending → World → Prop) : Prop :=
  ∃ n cap, v = .func (.func n) #[] cap ∧ (∀ args w, (callFunc n args).run Tryd.prog w = .ok (.enter n args) w) ∧ Calls Tryd.prog n (args ++ cap) w R

/-- A frame in its block. -/
def FrAt (w : World) (g : Nat) (T : Nat → Prop) (f : Fr) : Prop := ∃ sd sr, Row w g 27 (cellsF f sd sr) ∧ FrD w T f sd sr
theorem FrAt.chg {w w' : World} {S T : Nat → Prop} {g : Nat} {f : Fr} (h : FrAt w g T f) (hc : Chg S w w') (hg : ¬ S g) (hs : ∀ b, T b → ¬ S b) : FrAt w' g T f := by
  obtain ⟨sd, sr, h1, h2⟩ := h; exact ⟨sd, sr, h1.chg hc hg, h2.chg hc hs⟩
theorem FrAt.mono {w : World} {T T' : Nat → Prop} {g : Nat} {f : Fr} (h : FrAt w g T f) (hs : ∀ b, b < w.heap.size → T b → T' b) : FrAt w g T' f := by
  obtain ⟨sd, sr, h1, h2⟩ := h; exact ⟨sd, sr, h1, h2.mono hs⟩

/-- A frame with a number at an integer's place. -/
def setP (p : Part) (n : Nat) (f : Fr) : Fr :=
  match p with
  | .id => { f with id := n }
  | .amount => { f with a := n }
  | _ => { f with code := n }
def getP (p : Part) (f : Fr) : Nat :=
  match p with
  | .id => f.id
  | .amount => f.a
  | _ => f.code
def placeIx : Part → Nat
  | .id => 1
  | .amount => 2
  | _ => 4

/-- A frame without a part. -/
def dropP (p : Part) (f : Fr) : Fr :=
  match p with
  | .id | .amount | .code => setP p 0 f
  | .counted | .shortly | .challenge | .allLeft => { f with data := [] }
  | .token => { f with tok := List.replicate 16 0 }
  | .zeros => { f with a := 0 }
  | .acked => { f with ranges := [], b := 0 }
  | .dropped => f

theorem cells_setP (p : Part) (n : Nat) (f : Fr) (sd sr : Value) : (cellsF f sd sr).set (placeIx p) (.int .u64 n) = cellsF (setP p n f) sd sr := by
  cases p <;> rfl
theorem cells_getP (p : Part) (f : Fr) (sd sr : Value) : (cellsF f sd sr)[placeIx p]? = some (.int .u64 (getP p f)) := by
  cases p <;> rfl
theorem FrD.setP {w : World} {T : Nat → Prop} {f : Fr} {sd sr : Value} (h : FrD w T f sd sr) (p : Part) (n : Nat) : FrD w T (Proofs.YtlcffjmbfpdlbaaDoor.setP p n f) sd sr := by
  obtain ⟨h1, h2, h3⟩ := h
  cases p <;> exact ⟨h1, h2, h3⟩
theorem FrD.set {w : World} {T : Nat → Prop} {f g : Fr} {sd sr : Value} (h : FrD w T f sd sr) (h1 : g.tok.length = 16) (h2 : g.data = f.data) (h3 : g.ranges = f.ranges) : FrD w T g sd sr :=
  ⟨h1, by rw [h2]; exact h.data, by rw [h3]; exact h.ranges⟩
theorem FrD.data0 {w : World} {T : Nat → Prop} {f : Fr} {sd sr : Value} (h : FrD w T f sd sr) : FrD w T { f with data := [] } (.slice none 0 0) sr :=
  ⟨h.tok, ⟨none, 0, rfl, Nat.zero_le _, View.none_ _ _ _⟩, h.ranges⟩
theorem FrD.ranges0 {w : World} {T : Nat → Prop} {f : Fr} {sd sr : Value} (h : FrD w T f sd sr) : FrD w T { f with ranges := [], b := 0 } sd (.slice none 0 0) :=
  ⟨h.tok, h.data, ⟨none, 0, rfl, ⟨Nat.zero_le _, Nat.zero_le _⟩, View.none_ _ _ _⟩⟩

set_option maxRecDepth 100000 in
theorem place_call (p : Part) : ∀ args w, (callFunc (placeFn p) args).run Tryd.prog w = .ok (.enter (placeFn p) args) w := by
  intro args w
  cases p <;> first | exact Tryd.call65 args w | exact Tryd.call67 args w | exact Tryd.call66 args w

theorem place_id (g : Nat) (w : World) : Calls Tryd.prog 65 #[.pointer (some ⟨g, 0, none⟩)] w fun e w' => e = .returned (.pointer (some ⟨g, 1, none⟩)) ∧ w = w' := by
  go_enter Tryd.func65, Tryd.ntmps65
  go_wp2
  go_ret
  exact ⟨rfl, rfl⟩
theorem place_amount (g : Nat) (w : World) : Calls Tryd.prog 67 #[.pointer (some ⟨g, 0, none⟩)] w fun e w' => e = .returned (.pointer (some ⟨g, 2, none⟩)) ∧ w = w' := by
  go_enter Tryd.func67, Tryd.ntmps67
  go_wp2
  go_ret
  exact ⟨rfl, rfl⟩
theorem place_code (g : Nat) (w : World) : Calls Tryd.prog 66 #[.pointer (some ⟨g, 0, none⟩)] w fun e w' => e = .returned (.pointer (some ⟨g, 4, none⟩)) ∧ w = w' := by
  go_enter Tryd.func66, Tryd.ntmps66
  go_wp2
  go_ret
  exact ⟨rfl, rfl⟩
theorem place_any (p : Part) (g : Nat) (w : World) : Calls Tryd.prog (placeFn p) #[.pointer (some ⟨g, 0, none⟩)] w fun e w' => e = .returned (.pointer (some ⟨g, placeIx p, none⟩)) ∧ w = w' := by
  cases p <;> first | exact place_id g w | exact place_amount g w | exact place_code g w

/-- What dropping a part comes to. -/
def DropPost (w : World) (g : Nat) (T : Nat → Prop) (f : Fr) (e : Ending) (w' : World) : Prop := e = .returned (.tuple #[]) ∧ FrAt w' g T f ∧ Chg (· = g) w w'

section
variable (p : Part) (f : Fr) (g : Nat) (w : World) (T : Nat → Prop)

set_option maxRecDepth 100000 in
theorem integer3_any (h : Nat) (hf : FrAt w g T f) (hT : ¬ T g) (hr : Row w h 76 [fnv (placeFn p)]) :
    Calls Tryd.prog 92 #[.pointer (some ⟨g, 0, none⟩), .pointer (some ⟨h, 0, none⟩)] w (DropPost w g T (setP p 0 f)) := by
  obtain ⟨sd, sr, hrow, hd⟩ := hf
  have hc0 := hr.cell 0
  simp [fnv] at hc0
  have hc1 : w.cell? ⟨g, placeIx p, none⟩ = some (.int .u64 (getP p f)) := (hrow.cell _).trans (cells_getP p f sd sr)
  have hfz := hrow.frozen (placeIx p)
  have HP := Lib.hid (place_any p g w)
  have heg := place_call p
  have HR := Lib.hid hrow
  have HD := Lib.hid hd
  have HC := Lib.hid (cells_setP p 0 f sd sr)
  clear hr hrow hd
  generalize placeFn p = n at hc0 HP heg
  generalize placeIx p = ix at HP hc1 hfz HC
  go_enter Tryd.func92, Tryd.ntmps92
  go_wp2_with fail
  refine HP.out.mono ?_
  rintro e w' ⟨rfl, rfl⟩
  go_wp2
  go_end0
  refine ⟨rfl, ⟨sd, sr, ?_, (HD.out.setP p 0).chg ((Chg.refl (· = g) w).setCell (p := ⟨g, ix, none⟩) (fun _ => rfl) _) (fun b hb e => hT (e ▸ hb))⟩, (Chg.refl (· = g) w).setCell (p := ⟨g, ix, none⟩) (fun _ => rfl) _⟩
  have := HR.out.set ix (.int .u64 0)
  have e := HC.out
  rw [show ((0 : Nat) : Int) = 0 from rfl] at e
  rwa [e] at this

set_option maxRecDepth 100000 in
theorem data3_any (hf : FrAt w g T f) (hT : ¬ T g) : Calls Tryd.prog 95 #[.pointer (some ⟨g, 0, none⟩)] w (DropPost w g T { f with data := [] }) := by
  obtain ⟨sd, sr, hrow, hd⟩ := hf
  have hc1 := (hrow.cell 6).trans (cF_6 f sd sr)
  have hfz := hrow.frozen 6
  have HR := Lib.hid hrow
  have HD := Lib.hid hd
  clear hrow hd
  go_enter Tryd.func95, Tryd.ntmps95
  go_wp2
  go_end0
  have hch : Chg (· = g) w (w.setCell ⟨g, 6, none⟩ (.slice none 0 0)) := (Chg.refl (· = g) w).setCell (p := ⟨g, 6, none⟩) (fun _ => rfl) _
  exact ⟨rfl, ⟨_, sr, HR.out.set 6 _, (HD.out.data0).chg hch (fun b hb e => hT (e ▸ hb))⟩, hch⟩

set_option maxRecDepth 100000 in
theorem zeros3_any (hf : FrAt w g T f) (hT : ¬ T g) : Calls Tryd.prog 61 #[.pointer (some ⟨g, 0, none⟩)] w (DropPost w g T { f with a := 0 }) := by
  obtain ⟨sd, sr, hrow, hd⟩ := hf
  have hc1 := (hrow.cell 2).trans (cF_2 f sd sr)
  have hfz := hrow.frozen 2
  have HR := Lib.hid hrow
  have HD := Lib.hid hd
  clear hrow hd
  go_enter Tryd.func61, Tryd.ntmps61
  go_wp2
  go_end0
  have hch : Chg (· = g) w (w.setCell ⟨g, 2, none⟩ (.int .u64 0)) := (Chg.refl (· = g) w).setCell (p := ⟨g, 2, none⟩) (fun _ => rfl) _
  exact ⟨rfl, ⟨sd, sr, HR.out.set 2 _, (HD.out.set (g := { f with a := 0 }) HD.out.tok rfl rfl).chg hch (fun b hb e => hT (e ▸ hb))⟩, hch⟩

set_option maxRecDepth 100000 in
theorem acked3_any (hf : FrAt w g T f) (hT : ¬ T g) : Calls Tryd.prog 86 #[.pointer (some ⟨g, 0, none⟩)] w (DropPost w g T { f with ranges := [], b := 0 }) := by
  obtain ⟨sd, sr, hrow, hd⟩ := hf
  have hc1 := (hrow.cell 7).trans (cF_7 f sd sr)
  have hc3 := (hrow.cell 3).trans (cF_3 f sd sr)
  have hfz := hrow.frozen 7
  have hfz3 := hrow.frozen 3
  have HR := Lib.hid hrow
  have HD := Lib.hid hd
  clear hrow hd
  go_enter Tryd.func86, Tryd.ntmps86
  go_wp2
  go_end0
  have hch : Chg (· = g) w ((w.setCell ⟨g, 7, none⟩ (.slice none 0 0)).setCell ⟨g, 3, none⟩ (.int .u64 0)) := ((Chg.refl (· = g) w).setCell (p := ⟨g, 7, none⟩) (fun _ => rfl) _).setCell (p := ⟨g, 3, none⟩) (fun _ => rfl) _
  exact ⟨rfl, ⟨sd, _, (HR.out.set 7 _).set 3 _, (HD.out.ranges0).chg hch (fun b hb e => hT (e ▸ hb))⟩, hch⟩

theorem dropped3_any (hf : FrAt w g T f) : Calls Tryd.prog 89 #[.pointer (some ⟨g, 0, none⟩)] w (DropPost w g T f) := by
  have HF := Lib.hid hf
  clear hf
  go_enter Tryd.func89, Tryd.ntmps89
  go_wp2
  go_end0
  exact ⟨rfl, HF.out, Chg.refl _ _⟩

set_option maxRecDepth 100000 in
theorem token3_any (hf : FrAt w g T f) (hT : ¬ T g) : Calls Tryd.prog 77 #[.pointer (some ⟨g, 0, none⟩)] w (DropPost w g T { f with tok := List.replicate 16 0 }) := by
  obtain ⟨sd, sr, hrow, hd⟩ := hf
  have HR := Lib.hid hrow
  have HD := Lib.hid hd
  have HT := Lib.hid hd.tok
  clear hrow hd
  go_enter Tryd.func77, Tryd.ntmps77
  go_wp2_with ((with_reducible show wpList _ _ _ (⟨_, .store 25 _ _, _, _, _, _⟩ :: _) _ _); refine wpList_store_Mid (pre := [_, _, _, _, _, _, _, _]) (ys := u8s f.tok) (post := []) rfl rfl rfl (by simpa [cellsF] using HR.out) rfl (by simp [HT.out]) size25 rfl ?_; intro w2 hr2 hch2 hs2)
  go_end0
  exact ⟨rfl, ⟨sd, sr, hr2, (HD.out.set (g := { f with tok := List.replicate 16 0 }) rfl rfl rfl).chg (hch2 (· = g) w (Chg.refl _ _) (fun _ => rfl)) (fun b hb e => hT (e ▸ hb))⟩, hch2 (· = g) w (Chg.refl _ _) (fun _ => rfl)⟩

/-- Without a part. -/
theorem drop_any (Tp : Nat → Prop) (cs : List Value) (hp : PartIs w Tp p cs) (hf : FrAt w g T f) (hT : ¬ T g) : ∃ v, cs[2]? = some v ∧ Does v #[.pointer (some ⟨g, 0, none⟩)] w (DropPost w g T (dropP p f)) := by
  have hi : ∀ p : Part, IntPart w Tp p cs → ∃ v, cs[2]? = some v ∧ Does v #[.pointer (some ⟨g, 0, none⟩)] w (DropPost w g T (setP p 0 f)) := by
    intro p ⟨h, _, hr, hcs⟩
    subst hcs
    exact ⟨_, rfl, _, _, rfl, Tryd.call92, integer3_any p f g w T h hf hT hr⟩
  have hd : ∀ p : Part, DataPart w Tp p cs → ∃ v, cs[2]? = some v ∧ Does v #[.pointer (some ⟨g, 0, none⟩)] w (DropPost w g T { f with data := [] }) := by
    intro p ⟨h, k, _, _, hr, hk, hcs⟩
    subst hcs
    exact ⟨_, rfl, _, _, rfl, Tryd.call95, data3_any f g w T hf hT⟩
  cases p
  case id => exact hi _ hp
  case amount => exact hi _ hp
  case code => exact hi _ hp
  case counted => exact hd _ hp
  case shortly => exact hd _ hp
  case challenge => exact hd _ hp
  case allLeft => exact hd _ hp
  case token => obtain rfl := hp; exact ⟨_, rfl, _, _, rfl, Tryd.call77, token3_any f g w T hf hT⟩
  case zeros => obtain rfl := hp; exact ⟨_, rfl, _, _, rfl, Tryd.call61, zeros3_any f g w T hf hT⟩
  case acked => obtain rfl := hp; exact ⟨_, rfl, _, _, rfl, Tryd.call86, acked3_any f g w T hf hT⟩
  case dropped => obtain rfl := hp; exact ⟨_, rfl, _, _, rfl, Tryd.call89, dropped3_any f g w T hf⟩
end
end Go.Proofs.YtlcffjmbfpdlbaaDoor
