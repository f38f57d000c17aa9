/- Layer 16 (reasm): bytes are kept, and the gap goes on. -/
import Derived.Test.YtbmhoijdbhokaaaV16From
namespace Go.Proofs.Ytbmhoijdbhokaaa
open Go.RowKit Go.Shelf
attribute [local go_sem] Oper.semAt_some

theorem row_fromB {W W' : World} {row : Option Nat} {g : Nat} {e : TypeId} {cs : List Value} (h : Row W g e cs) (hg : W.grownBy W' row) (hr : ∀ r, row = some r → ∃ o : Obj, W.heap[r]? = some o ∧ o.isCells = false) : Row W' g e cs :=
  (hg.block g h.lt (fun e => by obtain ⟨o, ho, hc⟩ := hr g e.symm; unfold Row at h; rw [h] at ho; cases ho; cases hc)).trans h
theorem buf_fromB {W W' : World} {row : Option Nat} {g m n : Nat} {s : Rb} (h : BufAt W g m s) (hm : m < n) (hg : W.grownBy W' row) (hr : ∀ r, row = some r → n ≤ r ∧ ∃ o : Obj, W.heap[r]? = some o ∧ o.isCells = false) : BufAt W' g m s :=
  ⟨row_fromB h.row hg (fun r e => (hr r e).2), h.map.grown hg (fun e => by have := (hr m e).1; omega), h.ne⟩
theorem chg_fromB {S : Nat → Prop} {W W' : World} {row : Option Nat} {w : World} {B : Nat} (h : Chg S w W) (hB : w.heap.size ≤ B) (hg : W.grownBy W' row) (hr : ∀ r, row = some r → B ≤ r ∧ ∃ o : Obj, W.heap[r]? = some o ∧ o.isCells = false) : Chg S w W' :=
  h.grown hg (fun k e hk => by have := (hr k e).1; omega)
theorem BufAt.gapSet {w : World} {g m : Nat} {s : Rb} (h : BufAt w g m s) (q : Nat) : BufAt (w.setCell ⟨g, 3, none⟩ (.int .u64 (q : Int))) g m { s with gap := q } :=
  ⟨h.row.set 3 _, h.map.chg ((Chg.refl (· = g) w).setCell (p := ⟨g, 3, none⟩) (fun _ => rfl) _) h.ne, h.ne⟩

set_option maxRecDepth 100000 in
set_option maxHeartbeats 4000000 in
theorem keep_any (g m off : Nat) (s : Rb) (hs : Core s) (data : List Nat) (hb : ∀ x ∈ data, x < 256) (hend : off + data.length ≤ s.rd + s.win) (A : Option Addr) (cap : Nat) (T : Nat → Prop) (hT : ∀ b, T b → ¬ of2 g m b) (w : World) (hr : BufAt w g m s) (hv : View w T A data.length (u8s data)) :
    Calls Try.prog 22 #[.pointer (some ⟨g, 0, none⟩), .int .u64 (off : Int), .slice A data.length cap] w fun e w' => e = .returned (.tuple #[]) ∧ ∃ (t : Rb) (q : Nat), KeptB s t off data ∧ t.gap ≤ q ∧ (∀ p, t.gap ≤ p → p < q → ∃ x, t.B p = some x) ∧ t.B q = none ∧ BufAt w' g m { t with gap := q } ∧ Chg (of2 g m) w w' := by
  have hgl := hr.row.lt
  have hml := hr.map.lt
  have HV : Hid (∀ W, Chg (of2 g m) w W → View W T A data.length (u8s data)) := Lib.hid (fun W hc => hv.chg hc hT)
  have hlen : data.length ≤ 100000 + 4611686018427487903 := by have := hs.far; omega
  have hfar := hs.far
  have hwin := hs.win
  have h0 : Hid (BufAt (w.alloc (.cells #[.pointer (some ⟨g, 0, none⟩)] 25)) g m s ∧ Row (w.alloc (.cells #[.pointer (some ⟨g, 0, none⟩)] 25)) w.heap.size 25 [.pointer (some ⟨g, 0, none⟩)] ∧ Chg (of2 g m) w (w.alloc (.cells #[.pointer (some ⟨g, 0, none⟩)] 25))) :=
    Lib.hid ⟨hr.chg ((Chg.refl none_ w).alloc _) (fun h => h) (fun h => h), Row.new w _ [.pointer (some ⟨g, 0, none⟩)], (Chg.refl _ w).alloc _⟩
  clear hr hv
  refine (callsIn_wide (n := 2)).1 ?_
  refine callsIn_of_wp_marks Try.func22 rfl trivial ?_ rfl
  simp only [Try.ntmps22, List.size_toArray, List.length_cons, List.length_nil, Nat.reduceAdd, Nat.reduceSub, Array.replicate_succ, Array.replicate_zero, List.push_toArray, List.append_toArray, List.nil_append, List.cons_append]
  gi_wp2
  gi_loopw [6, 7, 8, 12] (fun _ _ _ x wr => ∃ (i : Nat) (t : Rb), i ≤ data.length ∧ x = .int .i64 (i : Int) ∧ Hid (KeptB s t off (data.take i)) ∧ Hid (BufAt wr g m t) ∧ Hid (Row wr w.heap.size 25 [.pointer (some ⟨g, 0, none⟩)]) ∧ Hid (Chg (of2 g m) w wr)) (fun _ _ _ x _ => data.length - (intOf x).toNat)
  case atStart => exact ⟨0, s, Nat.zero_le _, rfl, Lib.hid (KeptB.refl hs off), Lib.hid h0.out.1, Lib.hid h0.out.2.1, Lib.hid h0.out.2.2⟩
  case round =>
    obtain ⟨i, t, hi, rfl, HK, HB, HX, HC⟩ := hrel
    clear h0
    have x0 := HX.out.cell 0
    simp only [List.getElem?_cons_zero] at x0
    rcases Nat.lt_or_ge i data.length with hlt | hge
    · -- one byte
      obtain ⟨b, o, rfl, hbl, hTb, hcell⟩ := (HV.out wr HC.out).at_ hlt
      obtain ⟨v, hv⟩ : ∃ v, v = data.getD i 0 := ⟨_, rfl⟩
      rw [← hv] at hcell
      have hv256 : v < 256 := by rw [hv, List.getD_eq_getElem?_getD, List.getElem?_eq_getElem hlt]; exact hb _ (List.getElem_mem hlt)
      have HTK : Hid (data.take (i + 1) = data.take i ++ [v]) := Lib.hid (by rw [List.take_add_one, List.getElem?_eq_getElem hlt, hv, List.getD_eq_getElem?_getD, List.getElem?_eq_getElem hlt]; rfl)
      obtain ⟨p, hp⟩ : ∃ p, p = off + i := ⟨_, rfl⟩
      have hw : (off : Int) + (i : Int) ≤ 4611686018427487903 := by omega
      have hpc : ((p : Nat) : Int) = (off : Int) + (i : Int) := by omega
      have HCM : Hid (Calls Try.prog 24 #[.pointer (some ⟨g, 0, none⟩), .int .u64 ((off : Int) + (i : Int))] wr fun e w' => e = .returned (.bool (cameB t p)) ∧ w' = wr) := Lib.hid (by rw [← hpc]; exact came_any g m t HK.out.core p wr HB.out)
      have HN : Hid (KeptB s (oneS t p v) off (data.take (i + 1))) := Lib.hid (by rw [HTK.out, hp]; have := HK.out.snoc (v := v) hv256 (by rw [List.length_take]; omega); rwa [List.length_take, Nat.min_eq_left hi] at this)
      have i0 : (0 : Int) ≤ (i : Int) := by omega
      have i1 : (i : Int) < (data.length : Int) := by omega
      have HPC := Lib.hid hpc
      clear hv hpc
      cases hcm : cameB t p
      · rw [hcm] at HCM
        have e1 : oneS t p v = { t with es := t.es ++ [(p, v)], B := fun q => if q = p then some v else t.B q } := by unfold oneS; rw [hcm]; rfl
        have HE := Lib.hid e1
        have hln : lookN t.es p = none := by
          rw [HK.out.core.look]
          unfold cameB at hcm
          cases hB : t.B p with
          | none => simp
          | some x => rw [hB] at hcm; cases hcm
        have HL := Lib.hid hln
        have b1 := HB.out.row.cell 1
        simp only [cellsB, List.getElem?_cons_zero, List.getElem?_cons_succ] at b1
        clear e1 hln hcm
        gi_wp2_with (first | ((with_reducible show wpListIn _ _ _ _ _ (⟨_, .mapUpdate _ _ _ _, _, _, _, _⟩ :: _) _ _); refine wpListIn_updateB rfl rfl p v rfl (by rw [HPC.out]; rfl) rfl Try.underlying49 Try.underlying32 HB.out.map HL.out ?_; intro w7 hm7 hc7 hs7; have HM7 := Lib.hid hm7; have HC7 := Lib.hid hc7; clear hm7 hc7 hs7) | (refine ⟨trivial, ?_⟩; gi_at_call 24; refine (callsIn_wide.2 HCM.out).mono ?_; rintro e w9 ⟨rfl, rfl⟩))
        go_roundw
        case rel => exact ⟨i + 1, oneS t p v, hlt, by push_cast; rfl, HN, Lib.hid (by rw [HE.out]; exact ⟨HB.out.row.chg HC7.out (fun h => HB.out.ne h.symm), HM7.out, HB.out.ne⟩), Lib.hid (HX.out.chg HC7.out (fun h => by omega)), Lib.hid (HC.out.andThen HC7.out (fun b _ h => Or.inr h))⟩
        case measure => simp [intOf]; omega
      · rw [hcm] at HCM
        have e1 : oneS t p v = t := by unfold oneS; rw [hcm]; rfl
        rw [e1] at HN
        clear e1 hcm
        gi_wp2_with (refine ⟨trivial, ?_⟩; gi_at_call 24; refine (callsIn_wide.2 HCM.out).mono ?_; rintro e w9 ⟨rfl, rfl⟩)
        go_roundw
        case rel => exact ⟨i + 1, t, hlt, by push_cast; rfl, HN, HB, HX, HC⟩
        case measure => simp [intOf]; omega
    · have hie : i = data.length := by omega
      subst hie
      have HKK : Hid (KeptB s t off data) := Lib.hid (by have := HK.out; rwa [List.take_length] at this)
      clear HK
      gi_wp2
      refine wpIn_wide.2 ?_
      refine Code.wp_mono (Q := fun e a w8 => e = .normal ∧ a = { tmps := #[.pointer (some ⟨g, 0, none⟩), .int .u64 (off : Int), .slice A data.length cap, .pointer (some ⟨w.heap.size, 0, none⟩), undef, undef, u6, u7, u8, undef, .slice A data.length cap, .int .i64 (data.length : Int), .int .i64 (data.length : Int), .bool false, u14, u15, u16, u17, u18, u19, u20, u21, u22, u23, u24, u25, u26, u27, u28, u29, u30, u31, .pointer (some ⟨g, 0, none⟩), .pointer (some ⟨g, 0, none⟩), .pointer (some ⟨g, 0, none⟩), .pointer (some ⟨g, 3, none⟩), .int .u64 (t.gap : Int), .func (.func 25) #[] #[.pointer (some ⟨wr.heap.size + 1, 0, none⟩), .pointer (some ⟨wr.heap.size, 0, none⟩)], undef, undef, undef, undef, undef, undef, undef], defers := [] } ∧ Row w8 wr.heap.size 25 [.pointer (some ⟨g, 0, none⟩)] ∧ Row w8 (wr.heap.size + 1) 32 [.int .u64 (t.gap : Int)] ∧ Chg none_ wr w8) ?imp ?reg
      case reg =>
        refine wp_region_held_drew (S := fun w' => Chg none_ wr w') (by kernel_rfl) ((Chg.refl none_ wr).drew) (fun hch0 => ?_)
        refine wpAnyH_take (i := 0) (v := .pointer (some ⟨g, 0, none⟩)) rfl (by kernel_rfl) (by kernel_rfl) (by kernel_rfl) (by first | exact fun _ _ _ h => h | exact fun _ _ _ h => nomatch h.1) (Or.inl ⟨by rfl, fun w_ hw_ => by have c := (HX.out.chg hw_ (fun h => h)).cell 0; simp only [List.getElem?_cons_zero] at c; go_simp⟩) hch0 ?_
        refine wpAnyH_take (i := 1) (v := .pointer (some ⟨g, 0, none⟩)) rfl (by kernel_rfl) (by kernel_rfl) (by kernel_rfl) (by first | exact fun _ _ _ h => h | exact fun _ _ _ h => nomatch h.1) (Or.inl ⟨by rfl, fun w_ hw_ => by have c := (HX.out.chg hw_ (fun h => h)).cell 0; simp only [List.getElem?_cons_zero] at c; go_simp⟩) hch0 ?_
        try simp only [Act.put, List.setIfInBounds_toArray, List.set_cons_zero, List.set_cons_succ, List.getElem_toArray, List.getElem_cons_succ, List.getElem_cons_zero]
        refine wpAnyH_take (i := 2) (v := .pointer (some ⟨g, 0, none⟩)) rfl (by kernel_rfl) (by kernel_rfl) (by kernel_rfl) (by first | exact fun _ _ _ h => h | exact fun _ _ _ h => nomatch h.1) (Or.inl ⟨by rfl, fun w_ hw_ => by go_simp⟩) hch0 ?_
        try simp only [Act.put, List.setIfInBounds_toArray, List.set_cons_zero, List.set_cons_succ, List.getElem_toArray, List.getElem_cons_succ, List.getElem_cons_zero]
        refine wpAnyH_take (i := 3) (v := .pointer (some ⟨g, 3, none⟩)) rfl (by kernel_rfl) (by kernel_rfl) (by kernel_rfl) (by first | exact fun _ _ _ h => h | exact fun _ _ _ h => nomatch h.1) (Or.inl ⟨by rfl, fun w_ hw_ => by go_simp⟩) hch0 ?_
        try simp only [Act.put, List.setIfInBounds_toArray, List.set_cons_zero, List.set_cons_succ, List.getElem_toArray, List.getElem_cons_succ, List.getElem_cons_zero]
        refine wpAnyH_take (i := 4) (v := .int .u64 (t.gap : Int)) rfl (by kernel_rfl) (by kernel_rfl) (by kernel_rfl) (by first | exact fun _ _ _ h => h | exact fun _ _ _ h => nomatch h.1) (Or.inl ⟨by rfl, fun w_ hw_ => by have c := (HB.out.row.chg hw_ (fun h => h)).cell 3; simp only [cellsB, List.getElem?_cons_zero, List.getElem?_cons_succ] at c; go_simp⟩) hch0 ?_
        try simp only [Act.put, List.setIfInBounds_toArray, List.set_cons_zero, List.set_cons_succ, List.getElem_toArray, List.getElem_cons_succ, List.getElem_cons_zero]
        refine wpAnyH_ready (rs := [5]) (by kernel_rfl) (by simp) ?_
        refine AllReadyH.cons rfl (fun K hK => ?_) AllReadyH.nil
        rw [if_pos (by rfl)]
        try simp only [List.getElem_toArray, List.getElem_cons_succ, List.getElem_cons_zero]
        go_simp
        refine (from_any g t.gap _).mono ?_
        rintro e w8 ⟨rfl, hb8, hp8, hc8⟩
        have hch8 : Chg none_ wr w8 := hch0.trans hc8
        refine hK.out _ _ (hch8) (fun _ => ?_)
        clear hK K
        try simp only [Act.put, List.setIfInBounds_toArray, List.set_cons_zero, List.set_cons_succ, List.getElem_toArray, List.getElem_cons_succ, List.getElem_cons_zero]
        refine wpAnyH_done (by kernel_rfl) ?_ _
        exact ⟨rfl, rfl, hb8, hp8, hch8⟩
      case imp =>
      rintro e a w8 ⟨rfl, rfl, HBX, HPX, hch8⟩
      have hsz : wr.heap.size + 1 < w8.heap.size := HPX.lt
      have hB8 : BufAt w8 g m t := HB.out.chg hch8 (fun h => h) (fun h => h)
      have hX8 : Row w8 w.heap.size 25 [.pointer (some ⟨g, 0, none⟩)] := HX.out.chg hch8 (fun h => h)
      have hC8 : Chg (of2 g m) w w8 := HC.out.trans (hch8.mono (fun _ _ h => h.elim))
      have hwl : w.heap.size < wr.heap.size := HX.out.lt
      have hco := HKK.out.core
      have hff := hco.far
      have hgl2 := hco.gap_le
      clear HB HX HC
      gi_wp2
      have hml8 : m < w8.heap.size := hB8.map.lt
      have hwl8 : w.heap.size ≤ w8.heap.size := hC8.size
      refine wpIn_rangeFunc_G (by decide) (gf := 25) (lb := #[.pointer (some ⟨wr.heap.size + 1, 0, none⟩), .pointer (some ⟨wr.heap.size, 0, none⟩)]) rfl (enters_of Try.func25 (by kernel_rfl) rfl)
        (from_seq wr.heap.size (wr.heap.size + 1) g m t.gap (t.rd + t.win) t.B (fun q x h => (hco.byte q x h).2) (by omega) hgl2) (fun _ => rfl)
        (fun pre W => SeqOf t.B t.gap pre ∧ BufAt W g m { t with gap := t.gap + pre.length } ∧ Row W w.heap.size 25 [.pointer (some ⟨g, 0, none⟩)] ∧ Row W wr.heap.size 25 [.pointer (some ⟨g, 0, none⟩)] ∧ Row W (wr.heap.size + 1) 32 [.int .u64 (t.gap : Int)] ∧ Chg (of2 g m) w W)
        (fun _ _ _ => False)
        (fun s A B row hs hg hr => ⟨hs.1, buf_fromB hs.2.1 hml8 hg hr, row_fromB hs.2.2.1 hg (fun r e => (hr r e).2), row_fromB hs.2.2.2.1 hg (fun r e => (hr r e).2), row_fromB hs.2.2.2.2.1 hg (fun r e => (hr r e).2), chg_fromB hs.2.2.2.2.2 hwl8 hg hr⟩)
        (fun _ _ _ _ _ hs _ _ => hs)
        (fun pre W hs => ⟨hs.2.2.2.1, hs.2.2.2.2.1, ⟨_, hs.2.1.row⟩, t.es, hs.2.1.map, fun q hq => by rw [hco.look, if_neg (by have := hco.rg; omega)]⟩)
        ⟨SeqOf.nil _ _, hB8, hX8, HBX, HPX, hC8⟩
        (fun x => { tmps := #[.pointer (some ⟨g, 0, none⟩), .int .u64 (off : Int), .slice A data.length cap, .pointer (some ⟨w.heap.size, 0, none⟩), undef, undef, u6, u7, u8, .int .u64 (x.1 : Int), .slice A data.length cap, .int .i64 (data.length : Int), .int .i64 (data.length : Int), .bool false, u14, u15, u16, u17, u18, u19, u20, u21, u22, u23, u24, u25, u26, u27, u28, u29, u30, u31, .pointer (some ⟨g, 0, none⟩), .pointer (some ⟨g, 0, none⟩), .pointer (some ⟨g, 0, none⟩), .pointer (some ⟨g, 3, none⟩), .int .u64 (t.gap : Int), .func (.func 25) #[] #[.pointer (some ⟨wr.heap.size + 1, 0, none⟩), .pointer (some ⟨wr.heap.size, 0, none⟩)], .int .u64 (x.1 : Int), .int .u8 (x.2 : Int), undef, undef, undef, undef, undef], defers := [] }) ?assign ?body ?done ?stop
      case assign =>
        intro l x W K hK
        simp only [encB]
        gi_wp2
        exact hK
      case body =>
        rintro l pre ⟨x1, x2⟩ W ⟨hsq, hB, hX, hPB, hPP, hC⟩ ⟨hx1, hx2⟩
        simp only at hx1 hx2
        have hby := (hco.byte _ _ hx2).2
        have c0 := hX.cell 0
        have c3 := hB.row.cell 3
        have hz := hB.row.frozen 3
        simp only [cellsB, List.getElem?_cons_zero, List.getElem?_cons_succ] at c0 c3
        have HS := Lib.hid (hsq.snoc (x := (x1, x2)) hx1 hx2)
        have HH := Lib.hid (And.intro hB (And.intro hX (And.intro hPB (And.intro hPP hC))))
        have q0 : (0 : Int) ≤ (x1 : Int) := by omega
        have q1 : (x1 : Int) < 4611686018427487904 := by omega
        have HE : Hid (t.gap + (pre ++ [((x1, x2) : Nat × Nat)]).length = x1 + 1) := Lib.hid (by rw [List.length_append, hx1]; simp; omega)
        clear hsq hB hX hPB hPP hC hx1 hx2
        gi_wp2
        obtain ⟨hB, hX, hPB, hPP, hC⟩ := HH.out
        refine ⟨(KeepsOthers.setCell _ _ _).from _, trivial, HS.out, ?_, hX.far (by simp; omega) _, hPB.far (by simp; omega) _, hPP.far (by simp; omega) _, hC.setCell (fun _ => Or.inl rfl) _⟩
        rw [HE.out]
        have := hB.gapSet (x1 + 1)
        push_cast at this
        exact this
      case done =>
        rintro D xs W hD hS ⟨hsq, hB, hX, hPB, hPP, hC⟩ hK
        gi_wp2
        have hfr : ∀ r, some D = some r → w8.heap.size ≤ r ∧ ∃ o : Obj, W.heap[r]? = some o ∧ o.isCells = false := fun r e => by cases e; exact ⟨hD, _, hK, rfl⟩
        refine ⟨by simp, .inl ⟨_, _, rfl, run_takeDeferred hK, ?_⟩⟩
        refine ⟨_, results_none rfl _ _ _, rfl, ?_⟩
        exact ⟨t, t.gap + xs.length, HKK.out, by omega, fun p h1 h2 => hsq.has h1 h2, hS, buf_fromB hB hml8 (grownBy_putObj' _ D (.deferred none)) hfr, chg_fromB hC hwl8 (grownBy_putObj' _ D (.deferred none)) hfr⟩
      case stop =>
        rintro D c pre W _ h _
        exact h.elim
end Go.Proofs.Ytbmhoijdbhokaaa
