/- Layer 5 (params): how a value is put to its place; the table; where a number stands in it. -/
import Derived.Test.YthoiiibcceacnaaDoorV5Tab
import Derived.BigFrame
import Derived.Laws.Cover3
namespace Go.Proofs.YthoiiibcceacnaaDoor
open Go.RowKit

/-- A value is taken: is it of its form? -/
def takeP (k : Pk) (v : List Nat) (p : Pm) : Pm × Bool :=
  match k with
  | .token => if v.length = 16 then ({ p with has := true, tok := v }, true) else (p, false)
  | k => (setP k (rdInt (v, 0)).1 p, decide ((rdInt (v, 0)).2.2 = 0) && decide ((rdInt (v, 0)).2.1.length = 0))
def TakePost (w : World) (g : Nat) (x : Pm × Bool) (e : Ending) (w' : World) : Prop :=
  e = .returned (.bool x.2) ∧ Row w' g 25 (cellsP x.1) ∧ Chg (· = g) w w'

section
variable {P : Program} {ops : Array Oper} {rest : List Oper} {o : Oper} {a : Act} {w : World} {Q : Exit → Act → World → Prop}
/-- A part of a row is stored. -/
theorem wpList_store_Mid {ty : TypeId} {x y : Operand} (ho : o.op = .store ty x y) (hw : Region.wanted o (yielded ops a.tmps) = true) {g n : Nat} {e : TypeId} {pre ys post xs : List Value} (hn : n = pre.length) (hx : a.eval x = .pointer (some ⟨g, n, none⟩)) (h : Row w g e (pre ++ ys ++ post))
    (hy : a.eval y = .agg xs.toArray) (hl : xs.length = ys.length) (hi : (P.info? ty).map (·.size) = some xs.length) (h1 : xs.all (·.oneCell') = true)
    (k : ∀ w', Row w' g e (pre ++ xs ++ post) → (∀ S w0, Chg S w0 w → (g < w0.heap.size → S g) → Chg S w0 w') → w'.heap.size = w.heap.size → wpList P ops Q rest (a.put o.dst undef) w') : wpList P ops Q (o :: rest) a w := by
  subst hn
  exact BigFrame.wpList_want hw fun _ hK => wp_store_mid ty x y ho g pre.length xs.toArray hx hy (h.there pre.length _ (by simp; omega)) (by simpa using hi) (by simpa using h1)
    (hK _ _ (k _ (by simpa using h.storeMid hl) (fun S w0 hc hg => by simpa using hc.setCells xs pre.length hg) (setCells_size _ _ _ _)))
end

section
variable (p : Pm) (w : World)
set_option maxRecDepth 100000 in
set_option maxHeartbeats 1000000 in
theorem take_any (k : Pk) (g h cap : Nat) (T : Nat → Prop) (A : Option Addr) (v : List Nat) (hv : View w T A v.length (u8s v)) (hl : v.length ≤ 1000000) (hv2 : ∀ x ∈ v, x < 256) (hr : Row w h 68 [fnv (placeP k)])
    (hg : Row w g 25 (cellsP p)) :
    Calls Tryd.prog 50 #[.pointer (some ⟨g, 0, none⟩), .slice A v.length cap, .pointer (some ⟨h, 0, none⟩)] w (TakePost w g (setP k (rdInt (v, 0)).1 p, decide ((rdInt (v, 0)).2.2 = 0) && decide ((rdInt (v, 0)).2.1.length = 0))) := by
  have HRD := Lib.hid (read_any w T A cap v hv hl)
  have HR := Lib.hid hr
  have HG := Lib.hid hg
  have HP := Lib.hid (fun w => place_any k g w)
  have heg := place_call k
  have HXG : Hid (∀ w1, Row w1 g 25 (cellsP p) → w1.cell? ⟨g, ixP k, none⟩ = some (.int .u64 (getP k p : Nat)) ∧ w1.frozen? ⟨g, ixP k, none⟩ = false) := fun w1 h => ⟨(h.cell _).trans (cells_getP k p), h.frozen _⟩
  have HXS : Hid (∀ (w1 : World) (n : Nat), Row w1 g 25 (cellsP p) → Row (w1.setCell ⟨g, ixP k, none⟩ (.int .u64 (n : Int))) g 25 (cellsP (setP k n p))) := fun w1 n h => by
    have := h.set (ixP k) (.int .u64 (n : Int)); rwa [cells_setP] at this
  have HV : Hid (∀ x ∈ v, x < 256) := hv2
  clear hv hr hg hv2
  unfold fnv at HR
  generalize placeP k = n at HR HP heg
  generalize ixP k = ix at HP HXG HXS
  go_enter Tryd.func50, Tryd.ntmps50
  go_wp2_with fail
  refine HRD.out.mono ?_
  rintro e w1 ⟨r, rfl, hr1, hrd, hc1⟩
  have hcell := (HR.out.chg hc1 (fun h => h)).cell 0
  simp only [List.getElem?_cons_zero] at hcell
  have hne : g ≠ r := by have := HG.out.lt; omega
  have HI := Lib.hid (int_any w1 r _ (v, 0) ⟨hrd, HV.out⟩ (fun h => h.2 rfl))
  have HC1 := Lib.hid hc1
  have HR1 := Lib.hid hr1
  clear hrd hc1 hr1
  go_wp2_with fail
  refine (HP.out _).mono ?_
  rintro e w' ⟨rfl, rfl⟩
  go_wp2_with fail
  refine HI.out.mono ?_
  rintro e w2 ⟨rfl, hrs, hch⟩
  have hG2 := (HG.out.chg HC1.out (fun h => h)).chg hch hne
  obtain ⟨hx1, hx2⟩ := HXG.out w2 hG2
  have HG3 := Lib.hid (HXS.out w2 (rdInt (v, 0)).1 hG2)
  have hc2 : Chg (· = g) w2 (w2.setCell ⟨g, ix, none⟩ (.int .u64 ((rdInt (v, 0)).1 : Nat))) := (Chg.refl (· = g) w2).setCell (p := ⟨g, ix, none⟩) (fun _ => rfl) _
  have hrs3 : RdS (w2.setCell ⟨g, ix, none⟩ (.int .u64 ((rdInt (v, 0)).1 : Nat))) r (fun b => w.heap.size ≤ b ∧ b ≠ r) (rdInt (v, 0)).2 := hrs.chg hc2 (fun e => hne e.symm) (fun b hb e => by have := HG.out.lt; have e : b = g := e; omega)
  have HB := Lib.hid (badS_any _ r _ _ hrs3)
  have HL := Lib.hid (leftS_any _ r _ _ hrs3)
  have HCH : Hid (Chg (· = g) w (w2.setCell ⟨g, ix, none⟩ (.int .u64 ((rdInt (v, 0)).1 : Nat)))) := ((HC1.out.andThen hch (fun b hb e => absurd hb (by have := HR1.out; have e : b = r := e; omega)) : Chg none_ w w2).mono (S' := (· = g)) (fun _ _ h => h.elim)).andThen hc2 (fun b _ e => e)
  clear hG2 hc2 hrs3 hrs hch hne
  generalize (rdInt (v, 0)).2 = s at *
  generalize (rdInt (v, 0)).1 = y at *
  by_cases hb : s.2 = 0
  · have hb' : (s.2 == 0) = true := by simp [hb]
    have HBB := Lib.hid hb
    clear hb
    go_wp2_with (first | (go_at_call 29; refine HB.out.mono ?_; rintro e w3 ⟨rfl, rfl⟩) | (go_at_call 24; refine HL.out.mono ?_; rintro e w4 ⟨rfl, rfl⟩))
    all_goals
      go_ret
      exact ⟨ret_bool (by simp only [HBB.out, decide_true, Bool.true_and]; rw [Bool.eq_iff_iff]; simp), HG3.out, HCH.out⟩
  · have hb' : (s.2 == 0) = false := by simp [hb]
    have HBB := Lib.hid hb
    clear hb
    go_wp2_with (first | (go_at_call 29; refine HB.out.mono ?_; rintro e w3 ⟨rfl, rfl⟩) | (go_at_call 24; refine HL.out.mono ?_; rintro e w4 ⟨rfl, rfl⟩))
    all_goals
      go_ret
      exact ⟨ret_bool (by simp [HBB.out]), HG3.out, HCH.out⟩

theorem cells_tok (p : Pm) (v : List Nat) : cellsP { p with has := true, tok := v } = [.int .u64 p.idle, .int .u64 p.data, .int .u64 p.stream, .int .u64 p.streams, .bool true] ++ u8s v ++ [] := by simp [cellsP]

set_option maxRecDepth 100000 in
set_option maxHeartbeats 1000000 in
theorem takeT_any (g cap : Nat) (T : Nat → Prop) (A : Option Addr) (v : List Nat) (hv : View w T A v.length (u8s v)) (hg : Row w g 25 (cellsP p)) (ht : p.tok.length = 16) :
    Calls Tryd.prog 37 #[.pointer (some ⟨g, 0, none⟩), .slice A v.length cap] w (TakePost w g (takeP .token v p)) := by
  unfold takeP
  by_cases h16 : v.length = 16
  · rw [if_pos h16]
    obtain ⟨b, o, rfl, hb, _, hc⟩ := hv.2 (by omega)
    have HRA : Hid (w.rangeAt b o (u8s v)) := fun j x hx => by
      have hj : j < v.length := by
        rcases Nat.lt_or_ge j v.length with h | h
        · exact h
        · rw [List.getElem?_eq_none (by simpa using h)] at hx; cases hx
      rw [hc j hj]; exact hx
    have h4 := (hg.cell 4).trans (cP_4 p)
    have f4 := hg.frozen 4
    have HG4 := Lib.hid (show Row (w.setCell ⟨g, 4, none⟩ (.bool true)) g 25 ([.int .u64 p.idle, .int .u64 p.data, .int .u64 p.stream, .int .u64 p.streams, .bool true] ++ u8s p.tok ++ []) by
      have := hg.set 4 (.bool true); simpa [cellsP] using this)
    have HV := Lib.hid h16
    have HT : Hid (p.tok.length = 16) := ht
    have hat : ∀ w, (Instr.arrayAt 23 (.slice (some ⟨b, o, none⟩) 16 cap)).run Tryd.prog w = .ok (.pointer (some ⟨b, o, none⟩)) w := fun w => run_arrayAt w 23 _ 16 _ 16 cap Tryd.underlying23 (Nat.le_refl _)
    clear hv hc hg ht
    rw [h16]
    clear h16
    go_enter Tryd.func37, Tryd.ntmps37
    go_wp2_with (first | ((with_reducible show wpList _ _ _ (⟨_, .load 23 _, _, _, _, _⟩ :: _) _ _); refine wpList_load_Mid rfl rfl rfl HRA.out Tryd.underlying23 rfl (by rw [u8s_length, HV.out]; exact size25) ?_) | ((with_reducible show wpList _ _ _ (⟨_, .store 23 _ _, _, _, _, _⟩ :: _) _ _); refine wpList_store_Mid rfl rfl rfl rfl HG4.out rfl (by rw [u8s_length, u8s_length, HV.out, HT.out]) (by rw [u8s_length, HV.out]; exact size25) (by simpa using u8s_one v) ?_; intro w2 hr2 hch2 hs2))
    go_ret
    refine ⟨rfl, ?_, hch2 (· = g) w ((Chg.refl (· = g) w).setCell (p := ⟨g, 4, none⟩) (fun _ => rfl) _) (fun _ => rfl)⟩
    rw [cells_tok]
    exact hr2
  · rw [if_neg h16]
    have hne : (((v.length : Nat) : Int) != 16) = true := by simp; omega
    have HG := Lib.hid hg
    clear hv hg h16
    go_enter Tryd.func37, Tryd.ntmps37
    go_wp2
    go_ret
    exact ⟨rfl, HG.out, Chg.refl _ _⟩
end

/-! The table. -/
/-- The integers' places lie in boxes of their own. -/
def Places (w : World) (T : Nat → Prop) (gs : Pk → Nat) : Prop := ∀ k, T (gs k) ∧ Row w (gs k) 68 [fnv (placeP k)]
theorem Places.chg {w w' : World} {T S : Nat → Prop} {gs : Pk → Nat} (h : Places w T gs) (hc : Chg S w w') (hs : ∀ b, T b → ¬ S b) : Places w' T gs := fun k => ⟨(h k).1, (h k).2.chg hc (hs _ (h k).1)⟩
theorem Places.mono {w : World} {T T' : Nat → Prop} {gs : Pk → Nat} (h : Places w T gs) (hs : ∀ b, b < w.heap.size → T b → T' b) : Places w T' gs := fun k => ⟨hs _ (h k).2.lt (h k).1, (h k).2⟩
theorem sizeK : (Tryd.prog.info? 45).map (·.size) = some 3 := by kernel_rfl
theorem sizeTab : (Tryd.prog.info? 46).map (·.size) = some 15 := by kernel_rfl

theorem integer_any (k : Pk) (w : World) : Calls Tryd.prog 34 #[.int .u64 k.num, fnv (placeP k)] w fun e w' =>
    ∃ g, e = .returned (.agg [.int .u64 k.num, clo 49 g, clo 50 g].toArray) ∧ w.heap.size ≤ g ∧ Row w' g 68 [fnv (placeP k)] ∧ Chg none_ w w' := by
  unfold fnv clo
  generalize placeP k = n
  generalize k.num = m
  have hst := fun (w : World) (a : Addr) (fn : Fn) (x y : Array Value) => run_store Tryd.prog w a (.func fn x y) .plain rfl
  go_enter Tryd.func34, Tryd.ntmps34
  go_wp2
  refine ret_row (cs := [_, _, _]) rfl rfl (Row.new2 _ _ _ _) Tryd.underlying45 rfl sizeK rfl ?_
  exact ⟨w.heap.size, rfl, Nat.le_refl _, Row.new1 _ _ _ _, ((Chg.refl _ _).alloc _).alloc _⟩
end Go.Proofs.YthoiiibcceacnaaDoor
