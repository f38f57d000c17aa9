/- Layer 15 (ledger): a packet that shares no list with another one (apart). -/
import Derived.Test.YtakoeamfmmbdiaaV15Led
import Derived.Test.YtakoeamfmmbdiaaAppN
import Derived.Deep.RegionHeld3
import Derived.BigQuiet
import Derived.Deep.QuietTactic
import Derived.Lib.Hide
namespace Go.Proofs.Ytakoeamfmmbdiaa
open Go.RowKit

def u8c (n : Nat) : List Value := [.int .u8 (n : Int)]
theorem u8s_fm (l : List Nat) : u8s l = l.flatMap u8c := by
  induction l with
  | nil => rfl
  | cons a l ih => simp only [List.flatMap_cons, ← ih]; rfl
def rgc (x : Nat × Nat) : List Value := [.int .u64 (x.1 : Nat), .int .u64 (x.2 : Nat)]
theorem rcells_fm (l : List (Nat × Nat)) : rcells l = l.flatMap rgc := rfl
theorem u8c_one (n : Nat) : ∀ u ∈ u8c n, u.oneCell' = true := by
  intro u hu
  simp only [u8c, List.mem_cons, List.not_mem_nil, or_false] at hu
  rw [hu]; rfl
theorem rgc_one (n : Nat × Nat) : ∀ u ∈ rgc n, u.oneCell' = true := by
  intro u hu
  simp only [rgc, List.mem_cons, List.not_mem_nil, or_false] at hu
  rcases hu with rfl | rfl <;> rfl
theorem infoB : ∃ j, Try.prog.info? 5 = some j ∧ j.zero = some (.int .u8 0) ∧ j.size = 1 ∧ j.bytes ≤ 4096 := by
  have h1 : (Try.prog.info? 5).map (·.size) = some 1 := by kernel_rfl
  have h2 : (Try.prog.info? 5).map (·.zero) = some (some (.int .u8 0)) := by kernel_rfl
  have h3 : ((Try.prog.info? 5).map fun i => decide (i.bytes ≤ 4096)) = some true := by kernel_rfl
  cases hq : Try.prog.info? 5 with
  | none => rw [hq] at h1; cases h1
  | some j =>
    rw [hq] at h1 h2 h3
    exact ⟨j, rfl, by simpa using h2, by simpa using h1, by simpa using h3⟩
theorem infoR : ∃ j, Try.prog.info? 63 = some j ∧ j.zero = some (.agg (rgc (0, 0)).toArray) ∧ j.size = 2 ∧ j.bytes ≤ 4096 := by
  have h1 : (Try.prog.info? 63).map (·.size) = some 2 := by kernel_rfl
  have h2 : (Try.prog.info? 63).map (·.zero) = some (some (.agg (rgc (0, 0)).toArray)) := by kernel_rfl
  have h3 : ((Try.prog.info? 63).map fun i => decide (i.bytes ≤ 4096)) = some true := by kernel_rfl
  cases hq : Try.prog.info? 63 with
  | none => rw [hq] at h1; cases h1
  | some j =>
    rw [hq] at h1 h2 h3
    exact ⟨j, rfl, by simpa using h2, by simpa using h1, by simpa using h3⟩
theorem infoF4 : ∃ j, Try.prog.info? 70 = some j ∧ j.size = 24 ∧ j.zero = some (.agg zeroF.toArray) ∧ j.bytes ≤ 4096 := infoF_parts

theorem cellsF_one {w : World} {T : Nat → Prop} {f : Fr} {sd sr : Value} (h : FrD w T f sd sr) : ∀ u ∈ cellsF f sd sr, u.oneCell' = true := by
  obtain ⟨_, ⟨A, c, rfl, _⟩, ⟨B, d, rfl, _⟩⟩ := h
  intro u hu
  simp only [cellsF, List.mem_cons] at hu
  rcases hu with rfl | rfl | rfl | rfl | rfl | rfl | rfl | rfl | hu
  all_goals first | rfl | exact u8s_one _ u hu
theorem fcellsL_one {w : World} {T : Nat → Prop} : ∀ (L : List FrV), (∀ x ∈ L, FrD w T x.1 x.2.1 x.2.2) → ∀ u ∈ fcellsL L, u.oneCell' = true
  | [], _, u, hu => by cases hu
  | x :: L, h, u, hu => by
    rw [fcellsL, List.mem_append] at hu
    rcases hu with hu | hu
    · exact cellsF_one (h x (by simp)) u hu
    · exact fcellsL_one L (fun y hy => h y (by simp [hy])) u hu
/-- One cell of one of them is set. -/
theorem fcellsL_set (j : Nat) (hj : j < 24) (u : Value) : ∀ (L : List FrV) (k : Nat) (y : FrV), (∀ x ∈ L, x.1.tok.length = 16) → k < L.length → (cellsF (L.getD k fv0).1 (L.getD k fv0).2.1 (L.getD k fv0).2.2).set j u = cellsF y.1 y.2.1 y.2.2 →
    (fcellsL L).set (k * 24 + j) u = fcellsL (L.set k y)
  | [], k, y, _, h, _ => absurd h (by simp)
  | x :: L, 0, y, ht, _, e => by
    have e' : (cellsF x.1 x.2.1 x.2.2).set j u = cellsF y.1 y.2.1 y.2.2 := e
    rw [Nat.zero_mul, Nat.zero_add, List.set_cons_zero, fcellsL, fcellsL, List.set_append_left _ _ (by rw [cF_len _ _ _ (ht x (by simp))]; exact hj), e']
  | x :: L, k + 1, y, ht, h, e => by
    have := fcellsL_set j hj u L k y (fun z hz => ht z (by simp [hz])) (by simpa using h) e
    rw [List.set_cons_succ, fcellsL, fcellsL, List.set_append_right _ _ (by rw [cF_len _ _ _ (ht x (by simp))]; omega), cF_len _ _ _ (ht x (by simp)), show (k + 1) * 24 + j - 24 = k * 24 + j by omega, this]
theorem own_shape {w : World} {base size n : Nat} {e : TypeId} {v : Value} {xs : List Value} (h : w.ownsRow base e size v n xs) : ∃ A c, v = .slice A n c ∧ n ≤ c ∧ c ≤ maxLen := by
  rcases h.2 with ⟨rfl, hn⟩ | ⟨g, cap, cur, rfl, hb, hh, hnc, hm, _⟩
  · exact ⟨none, 0, by rw [hn], by omega, by decide⟩
  · exact ⟨_, _, rfl, hnc, hm⟩
theorem own_keep {w w' : World} {S : Nat → Prop} {base n size : Nat} {e : TypeId} {v : Value} {xs : List Value} (h : w.ownsRow base e size v n xs) (hc : Chg S w w') (hs : ∀ b, v.ownBlock = some b → ¬ S b) : w'.ownsRow base e size v n xs := by
  refine ⟨h.1, ?_⟩
  rcases h.2 with h2 | ⟨g, cap, cur, h1, hb, h2, h3⟩
  · exact .inl h2
  · exact .inr ⟨g, cap, cur, h1, hb, (hc.block g (Array.getElem?_eq_some_iff.1 h2).1 (hs g (by rw [h1]; rfl))).trans h2, h3⟩
theorem getD_set_self {X : Type} (l : List X) (k : Nat) (y d : X) (h : k < l.length) : (l.set k y).getD k d = y := by
  rw [List.getD_eq_getElem?_getD, List.getElem?_set_self (by simpa using h)]; rfl
theorem getD_set_other {X : Type} (l : List X) (k j : Nat) (y d : X) (h : k ≠ j) : (l.set k y).getD j d = l.getD j d := by
  rw [List.getD_eq_getElem?_getD, List.getElem?_set_ne h, ← List.getD_eq_getElem?_getD]

/-- What was laid behind these two blocks is neither. -/
theorem own_new {w w2 w3 : World} {p q base n size : Nat} {e e1 e2 : TypeId} {v : Value} {cs1 cs2 xs : List Value} (_hc : Chg none_ w w2) (h1 : Row w2 p e1 cs1) (h2 : Row w2 q e2 cs2) (o : w3.ownsRow base e size v n xs) (g : w2.grownBy w3 (Value.slice none 0 0).ownBlock) (he : e1 ≠ e) (hf : e2 ≠ e) :
    ∀ b, v.ownBlock = some b → b ≠ p ∧ b ≠ q := by
  intro b hb
  have k1 : w3.heap[p]? = w2.heap[p]? := g.block p h1.lt (fun h => nomatch h)
  have k2 : w3.heap[q]? = w2.heap[q]? := g.block q h2.lt (fun h => nomatch h)
  rcases o.2 with ⟨rfl, _⟩ | ⟨r, cap, cur, rfl, _, hr, _⟩
  · cases hb
  · injection hb with hb
    subst hb
    refine ⟨fun h => ?_, fun h => ?_⟩
    · subst h
      rw [k1, show w2.heap[_]? = _ from h1] at hr
      injection hr with hr
      injection hr with _ hr
      exact he hr
    · subst h
      rw [k2, show w2.heap[_]? = _ from h2] at hr
      injection hr with hr
      injection hr with _ hr
      exact hf hr

/-- What the loop keeps: the two boxes, and a row of frames. -/
structure ApG (w wr : World) (p1 p2 : Nat) (x : It) (v : Value) (M : List FrV) : Prop where
  hc : Chg none_ w wr
  r1 : Row wr p1 32 [.int .i64 x.num, .int .u64 (x.at_ : Int), .int .i64 x.size, .bool x.ask, v]
  r2 : Row wr p2 32 (itc it0)
  own : wr.ownsRow w.heap.size 70 24 v x.L.length (fcellsL M)
  len : M.length = x.L.length
  np1 : v.ownBlock ≠ some p1
  np2 : v.ownBlock ≠ some p2
  tok : ∀ y ∈ M, y.1.tok.length = 16
theorem ApG.quiet {w wr wr' : World} {p1 p2 : Nat} {x : It} {v : Value} {M : List FrV} (h : ApG w wr p1 p2 x v M) (hc : Chg none_ wr wr') : ApG w wr' p1 p2 x v M :=
  ⟨h.hc.trans hc, h.r1.chg hc (fun h => h), h.r2.chg hc (fun h => h), own_keep h.own hc (fun _ _ h => h), h.len, h.np1, h.np2, h.tok⟩
theorem ApG.set {w wr wr' : World} {p1 p2 gb c3 k j : Nat} {x : It} {M : List FrV} {u : Value} {y : FrV} (h : ApG w wr p1 p2 x (.slice (some ⟨gb, 0, none⟩) x.L.length c3) M) (hc : Chg none_ wr wr') (hk : k < x.L.length) (hj : j < 24) (ht : y.1.tok.length = 16)
    (e : (cellsF (M.getD k fv0).1 (M.getD k fv0).2.1 (M.getD k fv0).2.2).set j u = cellsF y.1 y.2.1 y.2.2) :
    ApG w (wr'.setCell ⟨gb, k * 24 + j, none⟩ u) p1 p2 x (.slice (some ⟨gb, 0, none⟩) x.L.length c3) (M.set k y) ∧ Chg (fun b => b = gb) wr (wr'.setCell ⟨gb, k * 24 + j, none⟩ u) := by
  have hq := h.quiet hc
  have hs : Chg (fun b => b = gb) wr' (wr'.setCell ⟨gb, k * 24 + j, none⟩ u) := Chg.setCell (S := fun b => b = gb) (Chg.refl _ _) (p := ⟨gb, k * 24 + j, none⟩) (fun _ => rfl) _
  have hgb : w.heap.size ≤ gb := (hq.own.lt gb rfl).1
  have n1 : ¬ p1 = gb := fun e => h.np1 (by rw [e]; rfl)
  have n2 : ¬ p2 = gb := fun e => h.np2 (by rw [e]; rfl)
  refine ⟨⟨hq.hc.andThen hs (fun b hb e => by subst e; exact absurd hb (by omega)), hq.r1.chg hs n1, hq.r2.chg hs n2, ?_, by rw [List.length_set]; exact h.len, h.np1, h.np2, fun z hz => ?_⟩, (hc.mono (fun _ _ h => h.elim)).trans hs⟩
  · have := (hq.own.stored (k * 24 + j) u).1
    rwa [fcellsL_set j hj u M k y h.tok (by rw [h.len]; exact hk) e] at this
  · rcases List.mem_or_eq_of_mem_set hz with hz | rfl
    · exact h.tok z hz
    · exact ht
/-- So many frames are done. -/
def Did (q : Nat) (wr : World) (gv : Value) (x : It) (M : List FrV) (k : Nat) : Prop := ∀ j, j < k → (M.getD j fv0).1 = (x.L.getD j fv0).1 ∧ FrD wr (fun b => q < b ∧ gv.ownBlock ≠ some b) (M.getD j fv0).1 (M.getD j fv0).2.1 (M.getD j fv0).2.2
theorem Did.quiet {q : Nat} {wr wr' : World} {gv : Value} {x : It} {M : List FrV} {k : Nat} {S : Nat → Prop} (h : Did q wr gv x M k) (hc : Chg S wr wr') (hs : ∀ b, S b → gv.ownBlock = some b) : Did q wr' gv x M k := fun j hj => ⟨(h j hj).1, (h j hj).2.chg hc (fun b hb h => hb.2 (hs b h))⟩

set_option maxRecDepth 100000 in
set_option maxHeartbeats 4000000 in
theorem apart_any (x : It) (T : Nat → Prop) (w : World) (h : ItD w T x) :
    Calls Try.prog 26 #[.agg (itc x).toArray] w fun e w' => ∃ y : It, e = .returned (.agg (itc y).toArray) ∧ y.pl = x.pl ∧ ItD w' (fun b => w.heap.size ≤ b) y ∧ Chg none_ w w' := by
  obtain ⟨i0, hi0⟩ := infoF4
  have HB : Hid (0 + x.L.length ≤ maxLen ∧ (0 + x.L.length) * i0.bytes ≤ 140737488355328) := Lib.hid (by
    have h1 := h.few
    refine ⟨by unfold maxLen; omega, Nat.le_trans (Nat.mul_le_mul (show 0 + x.L.length ≤ 1000 by omega) hi0.2.2.2) (by decide)⟩)
  have HON := Lib.hid (fcellsL_one x.L h.each)
  have HV : Hid (∀ w', Chg none_ w w' → View w' T x.A (x.L.length * 24) (fcellsL x.L)) := Lib.hid (fun w' hc => h.view.chg hc (fun _ _ h => h))
  have HH := Lib.hid h
  have hfew := h.few
  clear h
  go_enter Try.func26, Try.ntmps26
  go_wp2_with (first | ((with_reducible show wpList _ _ _ (⟨some 1, .box _ _, _, _, _, _⟩ :: _) _ _); refine wpList_box_Row rfl rfl (itc x) rfl ?_; intro w1 hr1 hc1 hs1; have HR1 := Lib.hid hr1; have HC1 := Lib.hid hc1; have HS1 := Lib.hid hs1; have x4 := hr1.cell 4; simp only [itc, List.getElem?_cons_zero, List.getElem?_cons_succ] at x4; clear hr1 hc1 hs1) | ((with_reducible show wpList _ _ _ (⟨some 2, .alloc _, _, _, _, _⟩ :: _) _ _); refine wpList_alloc_Row rfl rfl (itc it0) zeroS ?_; intro w2 hr2 hc2 hs2; have HR2 := Lib.hid hr2; have HC2 := Lib.hid (HC1.out.trans hc2); have HR12 := Lib.hid (HR1.out.chg hc2 (fun h => h)); have HS2 := Lib.hid hs2; have y4 := (hc2.cell 4 HR1.out.lt (fun h => h)).trans x4; clear hr2 hc2 hs2 x4) | ((with_reducible show wpList _ _ _ (⟨some 7, _, _, _, _, _⟩ :: _) _ _); refine wpList_append_viewN rfl _ _ 30 rfl 70 i0 _ 24 i0.bytes Try.underlying30 hi0.1 hi0.2.2.1 hi0.2.1 rfl rfl (by decide) w.heap.size (.slice none 0 0) 0 [] rfl (World.ownsRow_nil _ _ _ _) T x.A x.L.length x.c (fcellsL x.L) rfl (HV.out _ HC2.out) HON.out HB.out.1 HB.out.2 HC2.out.size ?_; intro v3 w3 o3 g3; rw [Nat.zero_add, List.nil_append] at o3; obtain ⟨A3, c3, rfl, hn3, hm3⟩ := own_shape o3; have HNP : Hid (∀ b, (Value.slice A3 x.L.length c3).ownBlock = some b → b ≠ w.heap.size ∧ b ≠ w1.heap.size) := Lib.hid (own_new HC2.out HR12.out HR2.out o3 g3 (by decide) (by decide)); have HC3 := Lib.hid (show Chg none_ w2 w3 from Chg.mono (Chg.of_grown g3) (fun b _ h => nomatch h)); have HO3 := Lib.hid o3; have z4 := (HC3.out.cell 4 HR12.out.lt (fun h => h)).trans y4; have zf := (HR12.out.chg HC3.out (fun h => h)).frozen 4; clear o3 g3 y4))
  go_loopw [12] (fun i wr => ∃ (k : Nat) (M : List FrV), i = .int .i64 (k : Int) ∧ k ≤ x.L.length ∧ Hid (ApG w wr w.heap.size w1.heap.size x (.slice A3 x.L.length c3) M) ∧ Hid (Did w1.heap.size wr (.slice A3 x.L.length c3) x M k) ∧ Hid (∀ j, k ≤ j → M.getD j fv0 = x.L.getD j fv0)) (fun i _ => x.L.length - (intOf i).toNat)
  case atStart =>
    refine ⟨0, x.L, rfl, Nat.zero_le _, Lib.hid ?_, Lib.hid (fun j hj => absurd hj (by omega)), Lib.hid (fun _ _ => rfl)⟩
    have h3 : Chg none_ w w3 := HC2.out.trans HC3.out
    have hs : Chg none_ w (w3.setCell ⟨w.heap.size, 4, none⟩ (.slice A3 x.L.length c3)) := h3.setCell (p := ⟨w.heap.size, 4, none⟩) (fun h => absurd h (Nat.lt_irrefl _)) _
    have hd : Chg (fun b => b = w.heap.size) w3 (w3.setCell ⟨w.heap.size, 4, none⟩ (.slice A3 x.L.length c3)) := Chg.setCell (S := fun b => b = w.heap.size) (Chg.refl _ w3) (p := ⟨w.heap.size, 4, none⟩) (fun _ => rfl) _
    have hs1 := HS1.out
    have hnp : ∀ b, (Value.slice A3 x.L.length c3).ownBlock = some b → b ≠ w.heap.size ∧ b ≠ w1.heap.size := HNP.out
    exact ⟨hs, (HR12.out.chg HC3.out (fun h => h)).set 4 _, (HR2.out.chg HC3.out (fun h => h)).far (p := ⟨w.heap.size, 4, none⟩) (by show w1.heap.size ≠ w.heap.size; omega) _, own_keep HO3.out hd (fun b e h => (hnp b e).1 h), rfl, fun e => (hnp _ e).1 rfl, fun e => (hnp _ e).2 rfl, HH.out.tok⟩
  case round =>
    obtain ⟨k, M, rfl, hk, HI, HDD, HT⟩ := hrel
    have HP2 : Hid (w.heap.size < w1.heap.size) := Lib.hid (by have := HS1.out; omega)
    clear z4 zf HON HV HNP HO3 HC3 HR2 HR12 HC2 HR1 HC1 HS1 HS2
    by_cases hlt : k < x.L.length
    · obtain ⟨gb, cap, hgs, hgb, hgl⟩ := HI.out.own.form (by omega)
      injection hgs with hgs _ hcc
      subst hgs
      subst hcc
      have k1 : (k : Int) < (x.L.length : Int) := by omega
      have k0 : (0 : Int) ≤ (k : Int) := by omega
      have hmem : x.L.getD k fv0 ∈ x.L := getD_mem fv0 hlt
      have hel := HT.out k (Nat.le_refl _)
      have hfd := HH.out.each _ hmem
      have hxy : Hid (∃ el, x.L.getD k fv0 = el) := Lib.hid ⟨_, rfl⟩
      obtain ⟨el, hE⟩ := hxy.out
      rw [hE] at hel hfd
      have HE := Lib.hid hE
      clear hxy hmem hE
      obtain ⟨f, sd, sr⟩ := el
      simp only at hfd
      have HTOK := Lib.hid hfd.tok
      obtain ⟨_, ⟨Ad, cd, hsd, hdl, hvd⟩, ⟨Ar, cr, hsr, hrl, hvr⟩⟩ := hfd
      subst hsd; subst hsr
      have HVD : Hid (View w (fun b => b < w.heap.size) Ad f.data.length (u8s f.data)) := Lib.hid (hvd.mono (fun b hb _ => hb))
      have HVR : Hid (View w (fun b => b < w.heap.size) Ar (2 * f.ranges.length) (rcells f.ranges)) := Lib.hid (hvr.mono (fun b hb _ => hb))
      have HEL := Lib.hid hel
      have HLN : Hid (f.data.length ≤ 1000000 ∧ f.ranges.length ≤ 1000000) := Lib.hid ⟨hdl, hrl.1⟩
      have HRA : Hid (∀ y, Chg none_ wr y → y.rangeAt gb (k * 24) (cellsF f (.slice Ad f.data.length cd) (.slice Ar f.ranges.length cr))) := Lib.hid (fun y hy j v hv => by
        have hj : j < 24 := by
          have := (List.getElem?_eq_some_iff.1 hv).1
          rwa [cF_len _ _ _ HTOK.out] at this
        have e2 := (HI.out.quiet hy).own.cellAt (k * 24 + j) (by omega)
        rw [e2, fcellsL_get M k j HI.out.tok (by rw [HI.out.len]; exact hlt) hj, HEL.out]
        exact hv)
      have HGL := Lib.hid (show w.heap.size ≤ gb ∧ gb < wr.heap.size from ⟨hgb, hgl⟩)
      have HONE : Hid (∀ u ∈ cellsF f (.slice Ad f.data.length cd) (.slice Ar f.ranges.length cr), u.oneCell' = true) := Lib.hid (cellsF_one (w := w) (T := fun b => b < w.heap.size) ⟨HTOK.out, ⟨Ad, cd, rfl, HLN.out.1, HVD.out⟩, ⟨Ar, cr, rfl, hrl, HVR.out⟩⟩)
      have HRC : Hid (f.ranges.length ≤ cr) := Lib.hid hrl.2
      clear hel hvd hvr hdl hrl hgb hgl
      go_wp2_with (first | ((with_reducible show wpList _ _ _ (⟨some 16, .load _ _, _, _, _, _⟩ :: _) _ _); refine wpList_load_Mid (cs := cellsF f (.slice Ad f.data.length cd) (.slice Ar f.ranges.length cr)) rfl rfl rfl (HRA.out _ (Chg.refl none_ _)) Try.underlying70 rfl (by rw [cF_len _ _ _ HTOK.out]; exact size27) ?_) | ((with_reducible show wpList _ _ _ (⟨some 4, .alloc _, _, _, _, _⟩ :: _) _ _); refine wpList_alloc_Row rfl rfl zeroF zero27 ?_; intro w4 hr4 hc4 hs4; have HR4 := Lib.hid hr4; have HC4 := Lib.hid hc4; have HS4 := Lib.hid hs4; clear hr4 hc4 hs4) | ((with_reducible show wpList _ _ _ (⟨none, .store _ (.tmp 4) _, _, _, _, _⟩ :: _) _ _); refine wpList_store_Row (xs := cellsF f (.slice Ad f.data.length cd) (.slice Ar f.ranges.length cr)) rfl rfl rfl HR4.out rfl (by rw [cF_len _ _ _ HTOK.out]; try rfl) (by rw [cF_len _ _ _ HTOK.out]; exact size27) (List.all_eq_true.2 HONE.out) ?_; intro wa hra hca hsa; have HRA4 := Lib.hid hra; have HCA := Lib.hid (hca none_ wr HC4.out (fun h => absurd h (Nat.lt_irrefl _))); clear hra hca hsa))
      obtain ⟨i5, hi5⟩ := infoB
      obtain ⟨i6, hi6⟩ := infoR
      have HG5 := Lib.hid (HI.out.quiet HCA.out)
      have HF5 := Lib.hid HRA4.out
      have HW5 : Hid (gb < wa.heap.size) := Lib.hid (Nat.lt_of_lt_of_le HGL.out.2 HCA.out.size)
      have HG5p : Hid (∀ y, Chg (fun b => b = gb) wa y → y.cell? ⟨w.heap.size, 4, none⟩ = some (.slice (some ⟨gb, 0, none⟩) x.L.length c3)) := Lib.hid (fun y hy => (HG5.out.r1.chg hy (fun e => HG5.out.np1 (by rw [e]; rfl))).cell 4)
      have HP5 : Hid (∀ y, Chg (fun b => b = gb) wa y → y.cell? ⟨wr.heap.size, 6, none⟩ = some (.slice Ad f.data.length cd)) := Lib.hid (fun y hy => (HF5.out.chg hy (fun e => by have := HGL.out.2; omega)).cell 6)
      have HD5 : Hid (∀ y, Chg (fun b => b = gb) wa y → View y (fun b => b < w.heap.size) Ad (f.data.length * 1) (f.data.flatMap u8c)) := Lib.hid (fun y hy => by
        have h1 := ((HVD.out.chg HG5.out.hc (fun _ _ h => h)).chg hy (fun b hb e => by have := HGL.out.1; omega))
        rwa [u8s_fm, ← Nat.mul_one f.data.length] at h1)
      refine wp_region_held_drew (S := fun y => Chg (fun b => b = gb) wa y) (by kernel_rfl) ((Chg.refl _ wa).drew) (fun hch0 => ?_)
      have hz : Chg (fun b => b = gb) wa wa.drew := (Chg.refl _ wa).drew
      have hq : Chg none_ wa wa.drew := (Chg.refl _ wa).drew
      generalize wa.drew = wz at hz hq ⊢
      clear hch0
      have hz0 := hz
      refine wpAnyH_take (i := 0) (v := .pointer (some ⟨w.heap.size, 4, none⟩)) rfl (by kernel_rfl) (by kernel_rfl) (by kernel_rfl) (by first | exact fun _ _ _ h => h | exact fun _ _ _ h => nomatch h.1) (Or.inl ⟨by rfl, fun w_ hw_ => by go_simp⟩) hz ?_
      try simp only [Act.put, List.setIfInBounds_toArray, List.set_cons_zero, List.set_cons_succ, List.getElem_toArray, List.getElem_cons_zero]
      refine wpAnyH_take (i := 1) (v := .slice (some ⟨gb, 0, none⟩) x.L.length c3) rfl (by kernel_rfl) (by kernel_rfl) (by kernel_rfl) (by first | exact fun _ _ _ h => h | exact fun _ _ _ h => nomatch h.1) (Or.inl ⟨by rfl, fun w_ hw_ => by have q1_ := HG5p.out w_ hw_; go_simp⟩) hz ?_
      try simp only [Act.put, List.setIfInBounds_toArray, List.set_cons_zero, List.set_cons_succ, List.getElem_toArray, List.getElem_cons_succ, List.getElem_cons_zero]
      refine wpAnyH_take (i := 2) (v := .int .i64 (k : Int)) rfl (by kernel_rfl) (by kernel_rfl) (by kernel_rfl) (by first | exact fun _ _ _ h => h | exact fun _ _ _ h => nomatch h.1) (Or.inl ⟨by rfl, fun w_ hw_ => by go_simp⟩) hz ?_
      try simp only [Act.put, List.setIfInBounds_toArray, List.set_cons_zero, List.set_cons_succ, List.getElem_toArray, List.getElem_cons_succ, List.getElem_cons_zero]
      refine wpAnyH_take (i := 3) (v := .pointer (some ⟨wr.heap.size, 6, none⟩)) rfl (by kernel_rfl) (by kernel_rfl) (by kernel_rfl) (by first | exact fun _ _ _ h => h | exact fun _ _ _ h => nomatch h.1) (Or.inl ⟨by rfl, fun w_ hw_ => by go_simp⟩) hz ?_
      try simp only [Act.put, List.setIfInBounds_toArray, List.set_cons_zero, List.set_cons_succ, List.getElem_toArray, List.getElem_cons_succ, List.getElem_cons_zero]
      refine wpAnyH_take (i := 4) (v := .slice Ad f.data.length cd) rfl (by kernel_rfl) (by kernel_rfl) (by kernel_rfl) (by first | exact fun _ _ _ h => h | exact fun _ _ _ h => nomatch h.1) (Or.inl ⟨by rfl, fun w_ hw_ => by have q2_ := HP5.out w_ hw_; go_simp⟩) hz ?_
      try simp only [Act.put, List.setIfInBounds_toArray, List.set_cons_zero, List.set_cons_succ, List.getElem_toArray, List.getElem_cons_succ, List.getElem_cons_zero]
      refine wpAnyH_ready (rs := [5]) (by kernel_rfl) (by simp) ?_
      refine AllReadyH.cons rfl (fun K hK => ?_) AllReadyH.nil
      rw [if_pos (by rfl)]
      try simp only [List.getElem_toArray, List.getElem_cons_succ, List.getElem_cons_zero]
      refine wp_append_N (w := wz) (c := u8c) (e := 5) (s := 1) (base := wa.heap.size) (v := .slice none 0 0) (L := []) (M := f.data) (T := fun b => b < w.heap.size) (A := Ad) (m := f.data.length) (cp := cd) (i := i5) (z := .int .u8 0) _ _ 67 rfl Try.underlying67 hi5 rfl (by decide) u8c_one (fun _ => rfl) rfl (OwnN.nil _ _ _ _ _) rfl (HD5.out _ hz) (by have := HLN.out.1; show 0 + f.data.length ≤ 1000000; omega) hz.size ?_
      intro v5 y5 o5 c5' n5
      rw [List.nil_append] at o5
      obtain ⟨A5, c5, rfl, hnc5, hmc5, vw5⟩ := o5.view
      have hq : Chg none_ wa y5 := hq.trans (c5'.mono (fun b _ h => nomatch h))
      have hz : Chg (fun b => b = gb) wa y5 := hz.trans (c5'.mono (fun b _ h => nomatch h))
      refine hK.out _ _ hz (fun _ => ?_)
      clear hK K
      try simp only [Act.put, List.setIfInBounds_toArray, List.set_cons_zero, List.set_cons_succ]
      refine wpAnyH_take (i := 6) (v := .pointer (some ⟨gb, k * 24, none⟩)) rfl (by kernel_rfl) (by kernel_rfl) (by kernel_rfl) (by first | exact fun _ _ _ h => h | exact fun _ _ _ h => nomatch h.1) (Or.inl ⟨by rfl, fun w_ hw_ => by go_simp⟩) hz ?_
      try simp only [Act.put, List.setIfInBounds_toArray, List.set_cons_zero, List.set_cons_succ, List.getElem_toArray, List.getElem_cons_succ, List.getElem_cons_zero]
      refine wpAnyH_take (i := 7) (v := .pointer (some ⟨gb, k * 24 + 6, none⟩)) rfl (by kernel_rfl) (by kernel_rfl) (by kernel_rfl) (by first | exact fun _ _ _ h => h | exact fun _ _ _ h => nomatch h.1) (Or.inl ⟨by rfl, fun w_ hw_ => by go_simp⟩) hz ?_
      try simp only [Act.put, List.setIfInBounds_toArray, List.set_cons_zero, List.set_cons_succ, List.getElem_toArray, List.getElem_cons_succ, List.getElem_cons_zero]
      obtain ⟨hg, hs⟩ := HG5.out.set (k := k) (j := 6) (u := .slice A5 f.data.length c5) (y := (f, .slice A5 f.data.length c5, .slice Ar f.ranges.length cr)) hq hlt (by decide) HTOK.out (by rw [HEL.out]; rfl)
      have hck : y5.cell? ⟨gb, k * 24 + 6, none⟩ = some (.slice Ad f.data.length cd) := by
        have e2 := (HG5.out.quiet hq).own.cellAt (k * 24 + 6) (by omega)
        rw [e2, fcellsL_get M k 6 HG5.out.tok (by rw [HG5.out.len]; exact hlt) (by decide), HEL.out]
        rfl
      have hfk : y5.frozen? ⟨gb, k * 24 + 6, none⟩ = false := (HG5.out.quiet hq).own.frozenAt (k * 24 + 6)
      have HVW5 := Lib.hid (vw5.chg (Chg.setCell (S := fun b => b = gb) (Chg.refl _ y5) (p := ⟨gb, k * 24 + 6, none⟩) (fun _ => rfl) (.slice A5 f.data.length c5)) (fun b hb e => by rcases n5 b hb with h | h; (· cases h); (· have h1 := HGL.out.2; have h2 := HW5.out; have h3 := hz0.size; omega)))
      have HT5 : Hid (∀ b, (Value.slice A5 f.data.length c5).ownBlock = some b → w1.heap.size < b ∧ b ≠ gb) := Lib.hid (fun b hb => by rcases n5 b hb with h | h; (· cases h); (· have h1 := HGL.out; have h2 := HW5.out; have h3 := hz0.size; have h4 := HG5.out.r2.lt; constructor <;> omega))
      have HNC5 := Lib.hid hnc5
      have HG := Lib.hid hg
      have HS := Lib.hid hs
      clear hg hs vw5 o5 n5 c5' hnc5 hmc5 hz0
      refine wpAnyH_ready (rs := [8]) (by kernel_rfl) (by simp) ?_
      refine AllReadyH.cons rfl (fun K hK => ?_) AllReadyH.nil
      rw [if_pos (by rfl)]
      try simp only [List.getElem_toArray, List.getElem_cons_succ, List.getElem_cons_zero]
      go_simp
      generalize y5.setCell ⟨gb, k * 24 + 6, none⟩ (.slice A5 f.data.length c5) = wb at *
      refine hK.out _ _ HS.out (fun _ => ?_)
      clear hK K hz hq hck hfk
      try simp only [Act.put, List.setIfInBounds_toArray, List.set_cons_zero, List.set_cons_succ, List.getElem_toArray, List.getElem_cons_succ, List.getElem_cons_zero]
      refine wpAnyH_done (by kernel_rfl) ?_ _
      go_wp2
      have HG6 : Hid (ApG w wb w.heap.size w1.heap.size x (.slice (some ⟨gb, 0, none⟩) x.L.length c3) (M.set k (f, .slice A5 f.data.length c5, .slice Ar f.ranges.length cr))) := HG
      have HSB := HS
      have HF6 := Lib.hid (HF5.out.chg HS.out (fun e => by have := HGL.out.2; omega))
      have HW6 : Hid (gb < wb.heap.size) := Lib.hid (Nat.lt_of_lt_of_le HW5.out HS.out.size)
      have HE5 : Hid ((M.set k (f, .slice A5 f.data.length c5, .slice Ar f.ranges.length cr)).getD k fv0 = (f, .slice A5 f.data.length c5, .slice Ar f.ranges.length cr)) := Lib.hid (getD_set_self _ _ _ _ (by rw [HI.out.len]; exact hlt))
      clear HG HS HP5 HD5 HG5p HF5
      have HG6p : Hid (∀ y, Chg (fun b => b = gb) wb y → y.cell? ⟨w.heap.size, 4, none⟩ = some (.slice (some ⟨gb, 0, none⟩) x.L.length c3)) := Lib.hid (fun y hy => (HG6.out.r1.chg hy (fun e => HG6.out.np1 (by rw [e]; rfl))).cell 4)
      have HP6 : Hid (∀ y, Chg (fun b => b = gb) wb y → y.cell? ⟨wr.heap.size, 7, none⟩ = some (.slice Ar f.ranges.length cr)) := Lib.hid (fun y hy => (HF6.out.chg hy (fun e => by have := HGL.out.2; omega)).cell 7)
      have HD6 : Hid (∀ y, Chg (fun b => b = gb) wb y → View y (fun b => b < w.heap.size) Ar (f.ranges.length * 2) (f.ranges.flatMap rgc)) := Lib.hid (fun y hy => by
        have h1 := ((HVR.out.chg HG6.out.hc (fun _ _ h => h)).chg hy (fun b hb e => by have := HGL.out.1; omega))
        rwa [rcells_fm, Nat.mul_comm 2] at h1)
      refine wp_region_held_drew (S := fun y => Chg (fun b => b = gb) wb y) (by kernel_rfl) ((Chg.refl _ wb).drew) (fun hch0 => ?_)
      have hz : Chg (fun b => b = gb) wb wb.drew := (Chg.refl _ wb).drew
      have hq : Chg none_ wb wb.drew := (Chg.refl _ wb).drew
      generalize wb.drew = wz at hz hq ⊢
      clear hch0
      have hz0 := hz
      refine wpAnyH_take (i := 0) (v := .pointer (some ⟨w.heap.size, 4, none⟩)) rfl (by kernel_rfl) (by kernel_rfl) (by kernel_rfl) (by first | exact fun _ _ _ h => h | exact fun _ _ _ h => nomatch h.1) (Or.inl ⟨by rfl, fun w_ hw_ => by go_simp⟩) hz ?_
      try simp only [Act.put, List.setIfInBounds_toArray, List.set_cons_zero, List.set_cons_succ, List.getElem_toArray, List.getElem_cons_zero]
      refine wpAnyH_take (i := 1) (v := .slice (some ⟨gb, 0, none⟩) x.L.length c3) rfl (by kernel_rfl) (by kernel_rfl) (by kernel_rfl) (by first | exact fun _ _ _ h => h | exact fun _ _ _ h => nomatch h.1) (Or.inl ⟨by rfl, fun w_ hw_ => by have q1_ := HG6p.out w_ hw_; go_simp⟩) hz ?_
      try simp only [Act.put, List.setIfInBounds_toArray, List.set_cons_zero, List.set_cons_succ, List.getElem_toArray, List.getElem_cons_succ, List.getElem_cons_zero]
      refine wpAnyH_take (i := 2) (v := .int .i64 (k : Int)) rfl (by kernel_rfl) (by kernel_rfl) (by kernel_rfl) (by first | exact fun _ _ _ h => h | exact fun _ _ _ h => nomatch h.1) (Or.inl ⟨by rfl, fun w_ hw_ => by go_simp⟩) hz ?_
      try simp only [Act.put, List.setIfInBounds_toArray, List.set_cons_zero, List.set_cons_succ, List.getElem_toArray, List.getElem_cons_succ, List.getElem_cons_zero]
      refine wpAnyH_take (i := 3) (v := .pointer (some ⟨wr.heap.size, 7, none⟩)) rfl (by kernel_rfl) (by kernel_rfl) (by kernel_rfl) (by first | exact fun _ _ _ h => h | exact fun _ _ _ h => nomatch h.1) (Or.inl ⟨by rfl, fun w_ hw_ => by go_simp⟩) hz ?_
      try simp only [Act.put, List.setIfInBounds_toArray, List.set_cons_zero, List.set_cons_succ, List.getElem_toArray, List.getElem_cons_succ, List.getElem_cons_zero]
      refine wpAnyH_take (i := 4) (v := .slice Ar f.ranges.length cr) rfl (by kernel_rfl) (by kernel_rfl) (by kernel_rfl) (by first | exact fun _ _ _ h => h | exact fun _ _ _ h => nomatch h.1) (Or.inl ⟨by rfl, fun w_ hw_ => by have q2_ := HP6.out w_ hw_; go_simp⟩) hz ?_
      try simp only [Act.put, List.setIfInBounds_toArray, List.set_cons_zero, List.set_cons_succ, List.getElem_toArray, List.getElem_cons_succ, List.getElem_cons_zero]
      refine wpAnyH_ready (rs := [5]) (by kernel_rfl) (by simp) ?_
      refine AllReadyH.cons rfl (fun K hK => ?_) AllReadyH.nil
      rw [if_pos (by rfl)]
      try simp only [List.getElem_toArray, List.getElem_cons_succ, List.getElem_cons_zero]
      refine wp_append_N (w := wz) (c := rgc) (e := 63) (s := 2) (base := wb.heap.size) (v := .slice none 0 0) (L := []) (M := f.ranges) (T := fun b => b < w.heap.size) (A := Ar) (m := f.ranges.length) (cp := cr) (i := i6) (z := .agg (rgc (0, 0)).toArray) _ _ 49 rfl Try.underlying49 hi6 rfl (by decide) rgc_one (fun _ => rfl) rfl (OwnN.nil _ _ _ _ _) rfl (HD6.out _ hz) (by have := HLN.out.2; show 0 + f.ranges.length ≤ 1000000; omega) hz.size ?_
      intro v6 y6 o6 c6' n6
      rw [List.nil_append] at o6
      obtain ⟨A6, c6, rfl, hnc6, hmc6, vw6⟩ := o6.view
      have hq : Chg none_ wb y6 := hq.trans (c6'.mono (fun b _ h => nomatch h))
      have hz : Chg (fun b => b = gb) wb y6 := hz.trans (c6'.mono (fun b _ h => nomatch h))
      refine hK.out _ _ hz (fun _ => ?_)
      clear hK K
      try simp only [Act.put, List.setIfInBounds_toArray, List.set_cons_zero, List.set_cons_succ]
      refine wpAnyH_take (i := 6) (v := .pointer (some ⟨gb, k * 24, none⟩)) rfl (by kernel_rfl) (by kernel_rfl) (by kernel_rfl) (by first | exact fun _ _ _ h => h | exact fun _ _ _ h => nomatch h.1) (Or.inl ⟨by rfl, fun w_ hw_ => by go_simp⟩) hz ?_
      try simp only [Act.put, List.setIfInBounds_toArray, List.set_cons_zero, List.set_cons_succ, List.getElem_toArray, List.getElem_cons_succ, List.getElem_cons_zero]
      refine wpAnyH_take (i := 7) (v := .pointer (some ⟨gb, k * 24 + 7, none⟩)) rfl (by kernel_rfl) (by kernel_rfl) (by kernel_rfl) (by first | exact fun _ _ _ h => h | exact fun _ _ _ h => nomatch h.1) (Or.inl ⟨by rfl, fun w_ hw_ => by go_simp⟩) hz ?_
      try simp only [Act.put, List.setIfInBounds_toArray, List.set_cons_zero, List.set_cons_succ, List.getElem_toArray, List.getElem_cons_succ, List.getElem_cons_zero]
      obtain ⟨hg, hs⟩ := HG6.out.set (k := k) (j := 7) (u := .slice A6 f.ranges.length c6) (y := (f, .slice A5 f.data.length c5, .slice A6 f.ranges.length c6)) hq hlt (by decide) HTOK.out (by rw [HE5.out]; rfl)
      have hck : y6.cell? ⟨gb, k * 24 + 7, none⟩ = some (.slice Ar f.ranges.length cr) := by
        have e2 := (HG6.out.quiet hq).own.cellAt (k * 24 + 7) (by omega)
        rw [e2, fcellsL_get (M.set k (f, .slice A5 f.data.length c5, .slice Ar f.ranges.length cr)) k 7 HG6.out.tok (by rw [HG6.out.len]; exact hlt) (by decide), HE5.out]
        rfl
      have hfk : y6.frozen? ⟨gb, k * 24 + 7, none⟩ = false := (HG6.out.quiet hq).own.frozenAt (k * 24 + 7)
      have HVW6 := Lib.hid (vw6.chg (Chg.setCell (S := fun b => b = gb) (Chg.refl _ y6) (p := ⟨gb, k * 24 + 7, none⟩) (fun _ => rfl) (.slice A6 f.ranges.length c6)) (fun b hb e => by rcases n6 b hb with h | h; (· cases h); (· have h1 := HGL.out.2; have h2 := HW6.out; have h3 := hz0.size; omega)))
      have HT6 : Hid (∀ b, (Value.slice A6 f.ranges.length c6).ownBlock = some b → w1.heap.size < b ∧ b ≠ gb) := Lib.hid (fun b hb => by rcases n6 b hb with h | h; (· cases h); (· have h1 := HGL.out; have h2 := HW6.out; have h3 := hz0.size; have h4 := HG6.out.r2.lt; constructor <;> omega))
      have HNC6 := Lib.hid hnc6
      have HG := Lib.hid hg
      have HS := Lib.hid hs
      clear hg hs vw6 o6 n6 c6' hnc6 hmc6 hz0
      refine wpAnyH_ready (rs := [8]) (by kernel_rfl) (by simp) ?_
      refine AllReadyH.cons rfl (fun K hK => ?_) AllReadyH.nil
      rw [if_pos (by rfl)]
      try simp only [List.getElem_toArray, List.getElem_cons_succ, List.getElem_cons_zero]
      go_simp
      generalize y6.setCell ⟨gb, k * 24 + 7, none⟩ (.slice A6 f.ranges.length c6) = wc at *
      refine hK.out _ _ HS.out (fun _ => ?_)
      clear hK K hz hq hck hfk
      try simp only [Act.put, List.setIfInBounds_toArray, List.set_cons_zero, List.set_cons_succ, List.getElem_toArray, List.getElem_cons_succ, List.getElem_cons_zero]
      refine wpAnyH_done (by kernel_rfl) ?_ _
      go_wp2
      go_roundw
      case rel =>
        refine ⟨k + 1, (M.set k (f, .slice A5 f.data.length c5, .slice A6 f.ranges.length c6)), by go_num, by omega, Lib.hid ?_, Lib.hid (fun j hj => ?_), Lib.hid (fun j hj => ?_)⟩
        · have := HG.out
          rwa [List.set_set] at this
        · rcases Nat.lt_or_ge j k with hjk | hjk
          · rw [getD_set_other _ _ _ _ _ (by omega)]
            have hd := ((HDD.out.quiet HCA.out (fun _ h => h.elim)).quiet HSB.out (fun b e => by rw [e]; rfl)).quiet HS.out (fun b e => by rw [e]; rfl)
            exact hd j hjk
          · have hje : j = k := by omega
            subst hje
            rw [getD_set_self _ _ _ _ (by rw [HI.out.len]; exact hlt), HE.out]
            refine ⟨rfl, HTOK.out, ⟨A5, c5, rfl, HLN.out.1, ?_⟩, ⟨A6, c6, rfl, ⟨HLN.out.2, HNC6.out⟩, ?_⟩⟩
            · have h1 := HVW5.out
              rw [Nat.mul_one, ← u8s_fm] at h1
              refine (h1.chg HS.out (fun b hb e => (HT5.out b hb).2 e)).mono (fun b _ hb => ⟨(HT5.out b hb).1, fun e => ?_⟩)
              injection e with e
              exact (HT5.out b hb).2 e.symm
            · have h1 := HVW6.out
              rw [← rcells_fm, Nat.mul_comm] at h1
              refine h1.mono (fun b _ hb => ⟨(HT6.out b hb).1, fun e => ?_⟩)
              injection e with e
              exact (HT6.out b hb).2 e.symm
        · rw [getD_set_other _ _ _ _ _ (by omega)]
          exact HT.out j (by omega)
      case measure => simp [intOf]; omega
    · have hke : k = x.L.length := by omega
      subst hke
      clear hlt hk HT
      have HL4 := Lib.hid HI.out.r1
      have HL5 := Lib.hid HI.out.r2
      go_wp2_with (first | ((with_reducible show wpList _ _ _ (⟨some 34, .load _ _, _, _, _, _⟩ :: _) _ _); refine wpList_load_Row rfl rfl rfl HL4.out Try.underlying32 rfl sizeS ?_) | ((with_reducible show wpList _ _ _ (⟨none, .store _ (.tmp 2) _, _, _, _, _⟩ :: _) _ _); refine wpList_store_Row (xs := [.int .i64 x.num, .int .u64 (x.at_ : Int), .int .i64 x.size, .bool x.ask, .slice A3 x.L.length c3]) rfl rfl rfl HL5.out rfl rfl sizeS rfl ?_; intro we hre hce hse; have HRE := Lib.hid hre; have HCE := Lib.hid (hce none_ w HI.out.hc (fun h => by have := HP2.out; omega)); have HCF := Lib.hid (hce (fun b => b = w1.heap.size) wr (Chg.refl _ _) (fun _ => rfl)); clear hre hce hse))
      refine ret_row rfl rfl HRE.out Try.underlying32 rfl sizeS rfl ?_
      have hmap : M.map (·.1) = x.L.map (·.1) := by
        apply List.ext_getElem
        · simp [HI.out.len]
        · intro j h1 h2
          have hj : j < x.L.length := by simpa using h2
          have := (HDD.out j hj).1
          rw [getD_lt fv0 (by rw [HI.out.len]; exact hj), getD_lt fv0 hj] at this
          simpa using this
      refine ⟨⟨x.num, x.at_, x.size, x.ask, A3, c3, M⟩, by unfold itc; rw [HI.out.len], ?_, ⟨?_, fun y hy => ?_, by rw [HI.out.len]; exact hfew, HH.out.lt⟩, HCE.out⟩
      · unfold It.pl
        rw [hmap]
      · have ho := own_keep HI.out.own HCF.out (fun b e h => HI.out.np2 (by rw [e, h]))
        rw [HI.out.len]
        rcases ho.2 with ⟨e, hn⟩ | ⟨g, cap, cur, e, hb, hh, _, _, _, ht⟩
        · refine ⟨by rw [ho.1], fun hpos => absurd hpos (by omega)⟩
        · injection e with e _ _
          subst e
          refine ⟨ho.1, fun _ => ⟨g, 0, rfl, (Array.getElem?_eq_some_iff.1 hh).1, hb, fun j hj => ?_⟩⟩
          rw [cell_of_row we g (0 + j) _ _ _ hh, ← ht, List.getElem?_take, if_pos hj]
          simp
      · obtain ⟨j, hj, e⟩ := List.mem_iff_getElem.1 hy
        have hd := (HDD.out j (by rw [← HI.out.len]; exact hj)).2
        rw [getD_lt fv0 hj, e] at hd
        exact (hd.chg HCF.out (fun b hb e => absurd hb.1 (by rw [e]; exact Nat.lt_irrefl _))).mono (fun b _ hb => by have h1 := hb.1; have h2 := HP2.out; omega)
end Go.Proofs.Ytakoeamfmmbdiaa
