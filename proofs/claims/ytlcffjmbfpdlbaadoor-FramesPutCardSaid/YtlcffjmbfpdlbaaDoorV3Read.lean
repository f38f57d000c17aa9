/- Layer 3 (frames): parts are read. -/
import Derived.Test.YtlcffjmbfpdlbaaDoorV3RdB
import Derived.Test.YtlcffjmbfpdlbaaDoorV3Drop
import Derived.Test.YtlcffjmbfpdlbaaDoorV3Rd
import Derived.Deep.RegionHeld3
import Derived.Deep.RegionWith
import Derived.StillTailTactics
import Derived.Laws.IdiomCopy
namespace Go.Proofs.YtlcffjmbfpdlbaaDoor
open Go.RowKit

/-- Where a reader (r), a frame (g), and what is new (from B on) lie. -/
structure Lie (w : World) (r g B : Nat) (Tr : Nat → Prop) : Prop where
  hB : B ≤ w.heap.size
  hr : r < B
  hg : g < B
  ne : r ≠ g
  tr : ∀ b, Tr b → b < B ∧ b ≠ r ∧ b ≠ g
def inRG (r g : Nat) : Nat → Prop := fun b => b = r ∨ b = g
theorem Lie.step {w w' : World} {r g B : Nat} {Tr S : Nat → Prop} (h : Lie w r g B Tr) (hc : Chg S w w') : Lie w' r g B Tr := ⟨Nat.le_trans h.hB hc.size, h.hr, h.hg, h.ne, h.tr⟩

/-- What reading comes to. -/
def ReadPost (w : World) (r g B : Nat) (Tr : Nat → Prop) (x : Fr × St) (e : Ending) (w' : World) : Prop :=
  e = .returned (.tuple #[]) ∧ RdS w' r Tr x.2 ∧ FrAt w' g (fun b => B ≤ b) x.1 ∧ Chg (inRG r g) w w'

theorem Lie.rd {w0 w w' : World} {r g B : Nat} {Tr : Nat → Prop} {s : St} (h : Lie w0 r g B Tr) (hs : RdS w r Tr s) (hc : Chg (· = g) w w') : RdS w' r Tr s :=
  hs.chg hc (fun e => h.ne e) (fun b hb e => (h.tr b hb).2.2 e)
theorem Lie.fr {w0 w w' : World} {r g B : Nat} {Tr : Nat → Prop} {f : Fr} (h : Lie w0 r g B Tr) (hf : FrAt w g (fun b => B ≤ b) f) (hc : Chg (· = r) w w') : FrAt w' g (fun b => B ≤ b) f :=
  hf.chg hc (fun e => h.ne e.symm) (fun b hb e => by have : b = r := e; have := h.hr; omega)
theorem Lie.ntr {w : World} {r g B : Nat} {Tr : Nat → Prop} (h : Lie w r g B Tr) : ¬ Tr r := fun ht => (h.tr r ht).2.1 rfl

theorem RdS.heap {w w' : World} {g : Nat} {T : Nat → Prop} {s : St} (h : RdS w g T s) (hh : w'.heap = w.heap) : RdS w' g T s := by
  obtain ⟨⟨A, cap, h1, h2, h3, h4, h5⟩, h6⟩ := h
  refine ⟨⟨A, cap, by unfold Row at h1 ⊢; rw [hh]; exact h1, h2, h3, ⟨h4.1, fun hn => ?_⟩, h5⟩, h6⟩
  obtain ⟨b, o, ha, hb, ht, hc⟩ := h4.2 hn
  exact ⟨b, o, ha, by rw [hh]; exact hb, ht, fun j hj => by rw [← hc j hj]; simp [World.cell?, hh]⟩

/-- What stands in a number's place. -/
theorem FrAt.put {w : World} {g : Nat} {T : Nat → Prop} {f : Fr} (h : FrAt w g T f) (hT : ¬ T g) (p : Part) (n : Nat) :
    FrAt (w.setCell ⟨g, placeIx p, none⟩ (.int .u64 n)) g T (setP p n f) := by
  obtain ⟨sd, sr, h1, h2⟩ := h
  have := h1.set (placeIx p) (.int .u64 n)
  rw [cells_setP] at this
  exact ⟨sd, sr, this, (h2.setP p n).chg ((Chg.refl (· = g) w).setCell (p := ⟨g, placeIx p, none⟩) (fun _ => rfl) _) (fun b hb e => hT (e ▸ hb))⟩

section
variable (f : Fr) (s : St) (r g B : Nat) (w : World) (Tr : Nat → Prop)

set_option maxRecDepth 100000 in
theorem integer2_any (p : Part) (h : Nat) (L : Lie w r g B Tr) (hs : RdS w r Tr s) (hf : FrAt w g (fun b => B ≤ b) f) (hr : Row w h 76 [fnv (placeFn p)]) :
    Calls Tryd.prog 91 #[.pointer (some ⟨r, 0, none⟩), .pointer (some ⟨g, 0, none⟩), .pointer (some ⟨h, 0, none⟩)] w (ReadPost w r g B Tr (setP p (rdInt s).1 f, (rdInt s).2)) := by
  have hc0 := hr.cell 0
  simp [fnv] at hc0
  have HP := Lib.hid (place_any p g w)
  have heg := place_call p
  have HI := Lib.hid (int_any w r Tr s hs L.ntr)
  have HF := Lib.hid hf
  have HL := Lib.hid L
  have HQ : Hid (∀ n w1, FrAt w1 g (fun b => B ≤ b) f → FrAt (w1.setCell ⟨g, placeIx p, none⟩ (.int .u64 ((n : Nat) : Int))) g (fun b => B ≤ b) (setP p n f)) := fun n w1 h => h.put (by have := L.hg; omega) p n
  have HX : Hid (∀ w1, FrAt w1 g (fun b => B ≤ b) f → w1.cell? ⟨g, placeIx p, none⟩ = some (.int .u64 (getP p f)) ∧ w1.frozen? ⟨g, placeIx p, none⟩ = false) := fun w1 ⟨sd, sr, h1, _⟩ => ⟨(h1.cell _).trans (cells_getP p f sd sr), h1.frozen _⟩
  clear hr hs hf L
  generalize placeFn p = n at hc0 HP heg
  generalize placeIx p = ix at HP HQ HX
  go_enter Tryd.func91, Tryd.ntmps91
  go_wp2_with fail
  refine HP.out.mono ?_
  rintro e w' ⟨rfl, rfl⟩
  go_wp2_with fail
  refine HI.out.mono ?_
  rintro e w1 ⟨rfl, hrs, hch⟩
  have hf1 := HL.out.fr HF.out hch
  obtain ⟨hc1, hz1⟩ := HX.out w1 hf1
  have HF1 := Lib.hid hf1
  have HR1 := Lib.hid hrs
  have HC1 := Lib.hid hch
  clear hf1 hrs hch
  go_wp2
  go_end0
  have hc2 : Chg (· = g) w1 (w1.setCell ⟨g, ix, none⟩ (.int .u64 ((rdInt s).1 : Nat))) := (Chg.refl (· = g) w1).setCell (p := ⟨g, ix, none⟩) (fun _ => rfl) _
  exact ⟨rfl, HL.out.rd HR1.out hc2, HQ.out _ _ HF1.out, (HC1.out.mono (fun _ _ h => Or.inl h)).trans (hc2.mono (fun _ _ h => Or.inr h))⟩

/-- How many bytes are told. -/
def toldM (p : Part) (s : St) : Nat × St :=
  match p with
  | .counted => rdInt s
  | .shortly => rdByte s
  | .challenge => (8, s)
  | _ => (s.1.length, s)

set_option maxRecDepth 100000 in
theorem told_call (p : Part) : ∀ args w, (callFunc (toldFn p) args).run Tryd.prog w = .ok (.enter (toldFn p) args) w := by
  intro args w
  cases p <;> first | exact Tryd.call56 args w | exact Tryd.call72 args w | exact Tryd.call79 args w | exact Tryd.call96 args w

def ToldPost (w : World) (r : Nat) (Tr : Nat → Prop) (x : Nat × St) (e : Ending) (w' : World) : Prop := e = .returned (.int .u64 (x.1 : Nat)) ∧ RdS w' r Tr x.2 ∧ Chg (· = r) w w'

theorem told_shortly (hs : RdS w r Tr s) (hT : ¬ Tr r) : Calls Tryd.prog 72 #[.pointer (some ⟨r, 0, none⟩)] w (ToldPost w r Tr (rdByte s)) := by
  have HB := Lib.hid (byte_any w r Tr s hs hT)
  have hb := (rdByte_mem s hs.2).1
  have hw : IntKind.u64.wrap ((rdByte s).1 : Int) = ((rdByte s).1 : Int) := IntWalk.u64_in _ (by omega)
  have HW := Lib.hid hw
  clear hs hw
  go_enter Tryd.func72, Tryd.ntmps72
  go_wp2_with fail
  refine HB.out.mono ?_
  rintro e w1 ⟨rfl, h2, h3⟩
  have H2 := Lib.hid h2
  have H3 := Lib.hid h3
  clear h2 h3
  go_wp2
  go_ret
  exact ⟨by first | rfl | exact ret_u64 HW.out, H2.out, H3.out⟩
theorem told_challenge (hs : RdS w r Tr s) : Calls Tryd.prog 79 #[.pointer (some ⟨r, 0, none⟩)] w (ToldPost w r Tr (8, s)) := by
  have HS := Lib.hid hs
  clear hs
  go_enter Tryd.func79, Tryd.ntmps79
  go_wp2
  go_ret
  exact ⟨rfl, HS.out, Chg.refl _ _⟩
theorem told_left (hs : RdS w r Tr s) : Calls Tryd.prog 96 #[.pointer (some ⟨r, 0, none⟩)] w (ToldPost w r Tr (s.1.length, s)) := by
  have HS := Lib.hid hs
  have HB := Lib.hid (leftS_any w r Tr s hs)
  have hl := hs.len
  have hw : IntKind.u64.wrap (s.1.length : Int) = (s.1.length : Int) := IntWalk.u64_in _ (by omega)
  have HW := Lib.hid hw
  clear hs hw
  go_enter Tryd.func96, Tryd.ntmps96
  go_wp2_with fail
  refine HB.out.mono ?_
  rintro e w1 ⟨rfl, rfl⟩
  go_wp2
  go_ret
  exact ⟨by first | rfl | exact ret_u64 HW.out, HS.out, Chg.refl _ _⟩
theorem told_any (p : Part) (hs : RdS w r Tr s) (hT : ¬ Tr r) : Calls Tryd.prog (toldFn p) #[.pointer (some ⟨r, 0, none⟩)] w (ToldPost w r Tr (toldM p s)) := by
  cases p
  case counted => exact int_any w r Tr s hs hT
  case shortly => exact told_shortly s r w Tr hs hT
  case challenge => exact told_challenge s r w Tr hs
  all_goals exact told_left s r w Tr hs

theorem toldM_lt (p : Part) (h : ∀ x ∈ s.1, x < 256) (hl : s.1.length ≤ 1000000) : (toldM p s).1 < 18446744073709551616 := by
  cases p
  case counted => exact Nat.lt_trans (rdInt_lt s h) (by decide)
  case shortly => exact Nat.lt_trans (rdByte_mem s h).1 (by decide)
  case challenge => show 8 < _; omega
  all_goals show s.1.length < _; omega

/-- Data's cell is laid. -/
theorem FrAt.data {w : World} {g : Nat} {T : Nat → Prop} {f : Fr} (h : FrAt w g T f) (hT : ¬ T g) (l : List Nat) (A : Option Addr) (c : Nat) (hv : View w T A l.length (u8s l)) (hl : l.length ≤ 1000000) :
    FrAt (w.setCell ⟨g, 6, none⟩ (.slice A l.length c)) g T { f with data := l } := by
  obtain ⟨sd, sr, h1, h2⟩ := h
  have hch : Chg (· = g) w (w.setCell ⟨g, 6, none⟩ (.slice A l.length c)) := (Chg.refl (· = g) w).setCell (p := ⟨g, 6, none⟩) (fun _ => rfl) _
  have hd : FrD w T { f with data := l } (.slice A l.length c) sr := ⟨h2.tok, ⟨A, c, rfl, hl, hv⟩, h2.ranges⟩
  exact ⟨_, sr, h1.set 6 _, hd.chg hch (fun b hb e => hT (e ▸ hb))⟩

theorem rdBytes_len (n : Nat) (s : St) : (rdBytes n s).1.length ≤ s.1.length := by
  unfold rdBytes
  split
  · simp
  · split
    · simp [List.length_take]; omega
    · simp

set_option maxRecDepth 100000 in
theorem data2_any (p : Part) (h : Nat) (L : Lie w r g B Tr) (hs : RdS w r Tr s) (hf : FrAt w g (fun b => B ≤ b) f) (hr : Row w h 79 [fnv (toldFn p)]) :
    Calls Tryd.prog 94 #[.pointer (some ⟨r, 0, none⟩), .pointer (some ⟨g, 0, none⟩), .pointer (some ⟨h, 0, none⟩)] w
      (ReadPost w r g B Tr ({ f with data := (rdBytes (toldM p s).1 (toldM p s).2).1 }, (rdBytes (toldM p s).1 (toldM p s).2).2)) := by
  have hc0 := hr.cell 0
  simp [fnv] at hc0
  have HP := Lib.hid (told_any s r w Tr p hs L.ntr)
  have heg := told_call p
  have HF := Lib.hid hf
  have HL := Lib.hid L
  clear hr hs hf L
  generalize toldFn p = n at hc0 HP heg
  generalize toldM p s = m at HP ⊢
  go_enter Tryd.func94, Tryd.ntmps94
  go_wp2_with fail
  refine HP.out.mono ?_
  rintro e w1 ⟨rfl, hrs, hch⟩
  have HF1 := Lib.hid (HL.out.fr HF.out hch)
  have HC1 := Lib.hid hch
  have HB := Lib.hid (bytes_any w1 r Tr m.2 m.1 hrs HL.out.ntr)
  have hlen := hrs.len
  clear hrs hch
  go_wp2_with fail
  refine HB.out.mono ?_
  rintro e w2 ⟨A, c, rfl, hv, hrs2, hch2⟩
  have hl2 := rdBytes_len m.1 m.2
  have hf2 := HL.out.fr HF1.out hch2
  have HF2 := Lib.hid hf2
  obtain ⟨sd, sr, hrow, _⟩ := hf2
  have hc6 := (hrow.cell 6).trans (cF_6 f sd sr)
  have hz6 := hrow.frozen 6
  have HR2 := Lib.hid hrs2
  have HV2 := Lib.hid hv
  have HC2 := Lib.hid (HC1.out.trans hch2)
  clear hrow hrs2 hv hch2
  go_wp2
  go_end0
  have hc3 : Chg (· = g) w2 (w2.setCell ⟨g, 6, none⟩ (.slice A (rdBytes m.1 m.2).1.length c)) := (Chg.refl (· = g) w2).setCell (p := ⟨g, 6, none⟩) (fun _ => rfl) _
  exact ⟨rfl, HL.out.rd HR2.out hc3, HF2.out.data (by have := HL.out.hg; omega) _ A c (HV2.out.mono (fun b _ hb => Nat.le_trans HL.out.hB (Nat.le_trans HC1.out.size hb))) (by omega), (HC2.out.mono (fun _ _ h => Or.inl h)).trans (hc3.mono (fun _ _ h => Or.inr h))⟩

set_option maxRecDepth 100000 in
theorem dropped2_any (L : Lie w r g B Tr) (hs : RdS w r Tr s) (hf : FrAt w g (fun b => B ≤ b) f) :
    Calls Tryd.prog 88 #[.pointer (some ⟨r, 0, none⟩), .pointer (some ⟨g, 0, none⟩)] w (ReadPost w r g B Tr (f, (rdInt (rdInt (rdInt s).2).2).2)) := by
  have HL := Lib.hid L
  have HF := Lib.hid hf
  have HI := Lib.hid (int_any w r Tr s hs L.ntr)
  clear hs hf L
  go_enter Tryd.func88, Tryd.ntmps88
  go_wp2_with fail
  refine HI.out.mono ?_
  rintro e w1 ⟨rfl, h1, c1⟩
  have HI1 := Lib.hid (int_any w1 r Tr _ h1 HL.out.ntr)
  have C1 := Lib.hid c1
  clear h1 c1
  go_wp2_with fail
  refine HI1.out.mono ?_
  rintro e w2 ⟨rfl, h1, c1⟩
  have HI2 := Lib.hid (int_any w2 r Tr _ h1 HL.out.ntr)
  have C2 := Lib.hid (C1.out.trans c1)
  clear h1 c1
  go_wp2_with fail
  refine HI2.out.mono ?_
  rintro e w3 ⟨rfl, h1, c1⟩
  have H3 := Lib.hid h1
  have C3 := Lib.hid (C2.out.trans c1)
  clear h1 c1
  go_wp2
  go_end0
  exact ⟨rfl, H3.out, HL.out.fr HF.out C3.out, C3.out.mono (fun _ _ h => Or.inl h)⟩

/-- copy's answer: bytes laid over the first ones. -/
def overlay (l t : List Nat) : List Nat := l ++ t.drop l.length

theorem run_copy_view {P : Program} {w : World} {dT sT ty elem : TypeId} {g n c m c' : Nat} {A : Option Addr} {T : Nat → Prop} {e : TypeId} {pre ys post xs : List Value} (hu : P.underlying dT = some (.slice elem)) (hsz : (P.info? elem).map (·.size) = some 1)
    (hrow : Row w g e (pre ++ ys ++ post)) (hn : ys.length = n) (hv : View w T A m xs) (hm : m ≤ n) (h1 : ∀ v ∈ xs, v.oneCell' = true) :
    ∃ w', (Builtin.copy_ #[dT, sT] ty #[.slice (some ⟨g, pre.length, none⟩) n c, .slice A m c']).run P w = .ok (goInt m) w' ∧ Row w' g e (pre ++ (xs ++ ys.drop m) ++ post) ∧ Chg (· = g) w w' := by
  rcases Nat.eq_zero_or_pos m with rfl | h0
  · have : xs = [] := List.eq_nil_of_length_eq_zero hv.1
    subst this
    exact ⟨w, run_copy_none w _ _ _ _ _ _ _ _ _ _ hu hsz (by simp), by simpa using hrow, Chg.refl _ _⟩
  · obtain ⟨b, o, rfl, _, _, hc⟩ := hv.2 h0
    have hl := hv.1
    have hmin : xs.length = Nat.min m n := by rw [hl]; exact (Nat.min_eq_left hm).symm
    refine ⟨w.setCells g pre.length xs, ?_, ?_, (Chg.refl (· = g) w).setCells xs pre.length (fun _ => rfl)⟩
    · rw [← hl]
      refine run_copy_cells w dT sT ty elem g pre.length n c ⟨b, o, none⟩ xs.length c' xs hu hsz (by rw [hl]; exact (Nat.min_eq_left hm).symm) (fun j v hj => ?_) (fun j hj => ?_) (fun j hj => hrow.frozen _) h1
      · have hjl : j < m := by
          rcases Nat.lt_or_ge j xs.length with h | h
          · omega
          · rw [List.getElem?_eq_none h] at hj; cases hj
        rw [addr_add, hc j hjl]; exact hj
      · rw [hrow.cell]; simp; omega
    · have hr2 : Row w g e (pre ++ ys.take m ++ (ys.drop m ++ post)) := by
        simpa [List.append_assoc, ← List.append_assoc (ys.take m), List.take_append_drop] using hrow
      have := hr2.storeMid (xs := xs) (by rw [List.length_take]; omega)
      simpa [List.append_assoc] using this

theorem wpList_copy_view {P : Program} {ops : Array Oper} {rest : List Oper} {o : Oper} {a : Act} {w : World} {Q : Exit → Act → World → Prop} (hgd : o.guard = none) (d s : Operand) (dT sT : TypeId)
    (ho : o.op = .call { callee := .builtin .copy, args := #[d, s], argTypes := #[dT, sT] }) {elem : TypeId} {g n c m c' : Nat} {A : Option Addr} {T : Nat → Prop} {e : TypeId} {pre ys post xs : List Value}
    (hd : a.eval d = .slice (some ⟨g, pre.length, none⟩) n c) (hs : a.eval s = .slice A m c') (hu : P.underlying dT = some (.slice elem)) (hsz : (P.info? elem).map (·.size) = some 1)
    (hrow : Row w g e (pre ++ ys ++ post)) (hn : ys.length = n) (hv : View w T A m xs) (hm : m ≤ n) (h1 : ∀ v ∈ xs, v.oneCell' = true)
    (h : ∀ w', Row w' g e (pre ++ (xs ++ ys.drop m) ++ post) → Chg (· = g) w w' → wpList P ops Q rest (a.put o.dst (goInt m)) w') : wpList P ops Q (o :: rest) a w := by
  refine wpList_plain hgd fun K hK => ?_
  obtain ⟨w', hr, h2, h3⟩ := run_copy_view (P := P) (sT := sT) (ty := o.type) (c := c) (c' := c') hu hsz hrow hn hv hm h1
  unfold Oper.wp execOp
  simp only [ho, resolve, invoke, builtin, Sem.run_bind, Sem.run_pure, Result.andThen_ok, List.map_toArray, List.map_cons, List.map_nil, hd, hs, hr]
  exact hK _ _ (h w' h2 h3)

/-- At a step of a region that draws its order. -/
theorem step_copy_view {P : Program} {ops : Array Oper} {o : Oper} {a : Act} {w : World} {K : Act → World → Prop} {Q : Exit → Act → World → Prop} {E : Prop} (hgd : o.guard = none) (d s : Operand) (dT sT : TypeId)
    (ho : o.op = .call { callee := .builtin .copy, args := #[d, s], argTypes := #[dT, sT] }) {elem : TypeId} {g n c m c' : Nat} {A : Option Addr} {T : Nat → Prop} {e : TypeId} {pre ys post xs : List Value}
    (hd : a.eval d = .slice (some ⟨g, pre.length, none⟩) n c) (hs : a.eval s = .slice A m c') (hu : P.underlying dT = some (.slice elem)) (hsz : (P.info? elem).map (·.size) = some 1)
    (hrow : Row w g e (pre ++ ys ++ post)) (hn : ys.length = n) (hv : View w T A m xs) (hm : m ≤ n) (h1 : ∀ v ∈ xs, v.oneCell' = true)
    (h : ∀ w', Row w' g e (pre ++ (xs ++ ys.drop m) ++ post) → Chg (· = g) w w' → K (a.put o.dst (goInt m)) w') : if Region.wanted o (yielded ops a.tmps) = true then Oper.wp P o a w K Q else E := by
  have hw : Region.wanted o (yielded ops a.tmps) = true := by simp [Region.wanted, hgd]
  rw [if_pos hw]
  obtain ⟨w', hr, h2, h3⟩ := run_copy_view (P := P) (sT := sT) (ty := o.type) (c := c) (c' := c') hu hsz hrow hn hv hm h1
  unfold Oper.wp execOp
  simp only [ho, resolve, invoke, builtin, Sem.run_bind, Sem.run_pure, Result.andThen_ok, List.map_toArray, List.map_cons, List.map_nil, hd, hs, hr]
  exact h w' h2 h3

theorem size5' : (Tryd.prog.info? 5).map (·.size) = some 1 := by kernel_rfl

theorem rdBytes_16 (s : St) : (rdBytes 16 s).1.length ≤ 16 := by
  unfold rdBytes
  split
  · simp
  · split
    · simp [List.length_take]; omega
    · simp

set_option maxRecDepth 100000 in
theorem token2_any (L : Lie w r g B Tr) (hs : RdS w r Tr s) (hf : FrAt w g (fun b => B ≤ b) f) :
    Calls Tryd.prog 75 #[.pointer (some ⟨r, 0, none⟩), .pointer (some ⟨g, 0, none⟩)] w (ReadPost w r g B Tr ({ f with tok := overlay (rdBytes 16 s).1 f.tok }, (rdBytes 16 s).2)) := by
  have HL := Lib.hid L
  have HF := Lib.hid hf
  have HI := Lib.hid (fun w' (hh : w'.heap = w.heap) => bytes_any w' r Tr s 16 (hs.heap hh) L.ntr)
  clear hs hf L
  go_enter Tryd.func75, Tryd.ntmps75
  go_region_held3 (fun w' => True) (trivial) (first | (go_at_call 76; refine Calls.mono (HI.out _ ?hh) ?kk; (case hh => exact rfl); rintro e w1 ⟨A, c, rfl, hv, hrs, hch⟩; have hch1 : Chg (· = r) w w1 := ⟨hch.os, hch.tape, hch.output, hch.size, hch.block⟩; have hfr := HL.out.fr HF.out hch1; obtain ⟨sd, sr, hrow, hd⟩ := hfr) | (refine step_copy_view rfl (.tmp 7) (.tmp 9) 23 23 rfl (pre := [_, _, _, _, _, _, _, _]) (ys := u8s f.tok) (post := []) rfl rfl Tryd.underlying23 size5' (by rw [List.append_nil]; exact hrow) (by rw [u8s_length, hd.tok]) hv (rdBytes_16 s) (u8s_one _) ?_; intro w2 hr2 hc2))
  go_end0
  have e1 : u8s (overlay (rdBytes 16 s).1 f.tok) = u8s (rdBytes 16 s).1 ++ (u8s f.tok).drop (rdBytes 16 s).1.length := by simp [overlay, u8s, List.map_drop]
  have hlen : (overlay (rdBytes 16 s).1 f.tok).length = 16 := by
    have := rdBytes_16 s
    have h2 := hd.tok
    simp [overlay, h2]; omega
  have hrow2 : Row w2 g 27 (cellsF { f with tok := overlay (rdBytes 16 s).1 f.tok } sd sr) := by
    unfold cellsF
    rw [e1]
    rw [List.append_nil] at hr2
    exact hr2
  exact ⟨rfl, HL.out.rd hrs hc2, ⟨sd, sr, hrow2, (hd.set (g := { f with tok := overlay (rdBytes 16 s).1 f.tok }) hlen rfl rfl).chg hc2 (fun b hb e => by have := HL.out.hg; omega)⟩, (hch1.mono (fun _ _ h => Or.inl h)).trans (hc2.mono (fun _ _ h => Or.inr h))⟩
end
end Go.Proofs.YtlcffjmbfpdlbaaDoor
