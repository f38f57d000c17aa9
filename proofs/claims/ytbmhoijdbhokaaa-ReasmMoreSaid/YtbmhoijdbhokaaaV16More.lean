/- Layer 16 (reasm): the law ReasmMore. -/
import Derived.Test.YtbmhoijdbhokaaaV16First
import Derived.Test.YtbmhoijdbhokaaaHigh
namespace Go.Proofs.Ytbmhoijdbhokaaa
open Go.RowKit

/-- A buffer at which all of these bytes came, the last ones too, and none was read. -/
structure GS (s : Rb) (Z : List Nat) : Prop where
  win : s.win = 100
  rd : s.rd = 0
  kn : s.kn = true
  top : s.top = Z.length
  B : s.B = fun q => Z[q]?
/-- Its end alone came. -/
structure ES (s : Rb) (Z : List Nat) (k : Nat) : Prop where
  win : s.win = 100
  rd : s.rd = 0
  kn : s.kn = true
  top : s.top = Z.length
  B : s.B = fun q => if k ≤ q then Z[q]? else none
theorem ES.of {t : Rb} {Z : List Nat} {k : Nat} (hk : k ≤ Z.length) (hp : PutS (newB 100) t k (Z.drop k) true) : ES t Z k := by
  refine ⟨hp.win, hp.rd, by rw [hp.kn]; rfl, ?_, ?_⟩
  · rw [hp.top, List.length_drop]
    show max 0 (k + (Z.length - k)) = Z.length
    omega
  · rw [hp.B]
    funext q
    simp only [putB, newB]
    split
    · rw [List.getElem?_drop]
      congr 1
      omega
    · rfl
theorem GS.of {s t : Rb} {Z : List Nat} {k : Nat} (hk : k ≤ Z.length) (h : ES s Z k) (hp : PutS s t 0 (Z.take k) false) : GS t Z := by
  refine ⟨hp.win.trans h.win, hp.rd.trans h.rd, by rw [hp.kn, h.kn]; rfl, ?_, ?_⟩
  · rw [hp.top, h.top, List.length_take]
    omega
  · rw [hp.B, h.B]
    funext q
    simp only [putB]
    by_cases hq : k ≤ q
    · rw [if_pos hq]
      cases hz : Z[q]? with
      | some x => rfl
      | none => simp only [Nat.zero_le, if_true, Nat.sub_zero]; rw [List.getElem?_take, if_neg (by omega)]
    · rw [if_neg hq]
      simp only [Nat.zero_le, if_true, Nat.sub_zero]
      rw [List.getElem?_take, if_pos (by omega)]
theorem GS.all {t : Rb} {Z : List Nat} (hp : PutS (newB 100) t 0 Z true) : GS t Z := by
  refine ⟨hp.win, hp.rd, by rw [hp.kn]; rfl, ?_, ?_⟩
  · rw [hp.top]
    show max 0 (0 + Z.length) = Z.length
    omega
  · rw [hp.B]
    funext q
    simp [putB, newB]

section
variable {W w : World} {g m cap : Nat} {s : Rb} {Z data : List Nat} {A : Option Addr} {T : Nat → Prop}
theorem mNew (w : World) : Calls Try.prog 9 #[.int .i64 100] w fun e w' => ∃ g m, e = .returned (.pointer (some ⟨g, 0, none⟩)) ∧ w.heap.size ≤ g ∧ w.heap.size ≤ m ∧ BA w' g m (newB 100) ∧ Chg none_ w w' :=
  (bNew_any 100 (by decide) w).mono (by rintro e w' ⟨g, m, h1, h2, h3, h4, h5⟩; exact ⟨g, m, h1, h2, h3, ⟨h4, newB_ok (by decide)⟩, h5⟩)
theorem mEnd {k : Nat} (hk : k ≤ Z.length) (hl : Z.length ≤ 100) (h : BA w g m (newB 100)) (hb : ∀ x ∈ Z, x < 256) (hv : View w T A (Z.length - k) (u8s (Z.drop k))) (hT : ∀ b, T b → ¬ of2 g m b) :
    Calls Try.prog 10 #[.pointer (some ⟨g, 0, none⟩), .int .u64 (k : Int), .slice A (Z.length - k) cap, .bool true] w fun e w' => e = .returned (.int .i64 0) ∧ ∃ t, ES t Z k ∧ BA w' g m t ∧ Chg (of2 g m) w w' := by
  have hd : (Z.drop k).length = Z.length - k := List.length_drop
  rw [← hd] at hv ⊢
  refine (cPut0 h (fun x hx => hb x (List.mem_of_mem_drop hx)) hT hv (putE_0 (by omega) (by simp only [newB]; omega) (fun h => by cases h) (fun _ => Nat.zero_le _))).mono ?_
  rintro e w' ⟨rfl, t, h1, h2, h3⟩
  exact ⟨rfl, t, ES.of hk h1, h2, h3⟩
theorem mBegin {k : Nat} (hk : k ≤ Z.length) (hl : Z.length ≤ 100) (hs : ES s Z k) (h : BA w g m s) (hb : ∀ x ∈ Z, x < 256) (hv : View w T A k (u8s (Z.take k))) (hT : ∀ b, T b → ¬ of2 g m b) :
    Calls Try.prog 10 #[.pointer (some ⟨g, 0, none⟩), .int .u64 0, .slice A k cap, .bool false] w fun e w' => e = .returned (.int .i64 0) ∧ ∃ t, GS t Z ∧ BA w' g m t ∧ Chg (of2 g m) w w' := by
  have hd : (Z.take k).length = k := by rw [List.length_take]; omega
  have hc : Calls Try.prog 10 #[.pointer (some ⟨g, 0, none⟩), .int .u64 (0 : Nat), .slice A (Z.take k).length cap, .bool false] w fun e w' => e = .returned (.int .i64 0) ∧ ∃ t, PutS s t 0 (Z.take k) false ∧ BA w' g m t ∧ Chg (of2 g m) w w' :=
    cPut0 h (fun x hx => hb x (List.mem_of_mem_take hx)) hT (by rw [hd]; exact hv) (putE_0 (by omega) (by rw [hs.rd, hs.win]; omega) (fun _ => by rw [hs.top]; omega) (fun h => by cases h))
  rw [hd] at hc
  refine Calls.mono hc ?_
  rintro e w' ⟨rfl, t, h1, h2, h3⟩
  exact ⟨rfl, t, GS.of hk hs h1, h2, h3⟩
theorem mAll (hl : Z.length ≤ 100) (h : BA w g m (newB 100)) (hb : ∀ x ∈ Z, x < 256) (hv : View w T A Z.length (u8s Z)) (hT : ∀ b, T b → ¬ of2 g m b) :
    Calls Try.prog 10 #[.pointer (some ⟨g, 0, none⟩), .int .u64 0, .slice A Z.length cap, .bool true] w fun e w' => e = .returned (.int .i64 0) ∧ ∃ t, GS t Z ∧ BA w' g m t ∧ Chg (of2 g m) w w' :=
  (cPut0 (off := 0) h hb hT hv (putE_0 (by omega) (by simp only [newB]; omega) (fun h => by cases h) (fun _ => Nat.zero_le _))).mono (by
    rintro e w' ⟨rfl, t, h1, h2, h3⟩
    exact ⟨rfl, t, GS.all h1, h2, h3⟩)
theorem mDone (hs : GS s Z) (h : BA w g m (readS s Z.length)) : Calls Try.prog 20 #[.pointer (some ⟨g, 0, none⟩)] w fun e w' => e = .returned (.bool true) ∧ ∃ k, w' = w.drewN k := by
  have := bDone_any g m _ w h.at_
  rw [show (readS s Z.length).kn = true from hs.kn, show (readS s Z.length).top = Z.length from hs.top, show (readS s Z.length).rd = Z.length from by show s.rd + Z.length = Z.length; rw [hs.rd, Nat.zero_add], decide_eq_true rfl] at this
  exact this
theorem mLimit (hs : GS s Z) (h : BA w g m (readS s Z.length)) : Calls Try.prog 16 #[.pointer (some ⟨g, 0, none⟩)] w fun e w' => e = .returned (.int .u64 ((Z.length + 100 : Nat) : Int)) ∧ ∃ k, w' = w.drewN k := by
  have := bLimit_any g m _ h.ok.core w h.at_
  rw [show (readS s Z.length).win = 100 from hs.win, show (readS s Z.length).rd = Z.length from by show s.rd + Z.length = Z.length; rw [hs.rd, Nat.zero_add]] at this
  exact this
end

set_option maxRecDepth 100000 in
set_option maxHeartbeats 4000000 in
theorem walk_ReasmMore (A : Option Addr) (len cap : Nat) (zs : List Int) (x : Int) (W : World) (hz : IsRow .u8 W A len cap zs) (hx : (Lit.int .u8 x).wf = true) :
    Calls Try.prog 7 #[.slice A len cap, .int .u8 x] W fun e w' => e = .returned (.bool true) ∧ Chg none_ W w' := by
  obtain ⟨xs, rfl, hcap, hmx, hb, hv⟩ := hz.u8
  obtain ⟨c, rfl, hc⟩ := u8_nat hx
  have HAL := Lib.hid (alive_any W)
  have HV : Hid (∀ w', Chg none_ W w' → View w' (fun b => b < W.heap.size) A xs.length (u8s xs)) := Lib.hid (fun w' h => (row_ahead hv).chg h (fun _ _ h => h))
  have HB := Lib.hid hb
  clear hz hx hv hb hmx
  by_cases hl : xs.length ≤ 100
  · have l1 : (xs.length : Int) ≤ 100 := by omega
    have l0 : (0 : Int) ≤ (xs.length : Int) := by omega
    have c1 : (c : Int) ≤ 255 := by omega
    have c0 : (0 : Int) ≤ (c : Int) := by omega
    obtain ⟨k, hk⟩ : ∃ k, k = c % (xs.length + 1) := ⟨_, rfl⟩
    have hkl : k ≤ xs.length := by have := Nat.mod_lt c (show 0 < xs.length + 1 by omega); omega
    have r1 : Int.tmod (c : Int) ((xs.length : Int) + 1) = (k : Int) := by rw [hk, Int.tmod_eq_emod_of_nonneg (by omega)]; push_cast; rfl
    have r2 : ((xs.length : Int) + 1 == 0) = false := by rw [beq_eq_false_iff_ne]; omega
    have k0 : (0 : Int) ≤ (k : Int) := by omega
    have k1 : (k : Int) ≤ (xs.length : Int) := by omega
    have k2 : (k : Int) ≤ (cap : Int) := by omega
    obtain ⟨AD, hAD⟩ : ∃ AD, AD = dropA A cap k := ⟨_, rfl⟩
    obtain ⟨AH, hAH⟩ : ∃ AH, AH = highA A cap := ⟨_, rfl⟩
    have HSD : Hid (∀ w, (Instr.slice 22 (.slice A xs.length cap) (some (.int .i64 (k : Int))) none none).run Try.prog w = .ok (.slice AD (xs.length - k) (cap - k)) w) := Lib.hid (fun w => by rw [hAD]; exact run_slice_low w _ 5 A _ cap k Try.underlying22 size5 hkl)
    have HSH : Hid (∀ w, (Instr.slice 22 (.slice A xs.length cap) none (some (.int .i64 (k : Int))) none).run Try.prog w = .ok (.slice AH k cap) w) := Lib.hid (fun w => by rw [hAH]; exact run_slice_high w _ 5 A _ cap k Try.underlying22 size5 (by omega))
    have HVD : Hid (∀ w', Chg none_ W w' → View w' (fun b => b < W.heap.size) AD (xs.length - k) (u8s (xs.drop k))) := Lib.hid (fun w' h => by have := (HV.out w' h).dropA (k := k) (cap := cap) hcap; rw [← hAD, show (u8s xs).drop k = u8s (xs.drop k) by simp [u8s, List.map_drop]] at this; exact this)
    have HVH : Hid (∀ w', Chg none_ W w' → View w' (fun b => b < W.heap.size) AH k (u8s (xs.take k))) := Lib.hid (fun w' h => by rw [hAH]; exact (HV.out w' h).upto cap hkl)
    have HK := Lib.hid hkl
    have HNW := Lib.hid (fun w => mNew w)
    have HSM : Hid (∀ w (T T' : Nat → Prop) (A A' : Option Addr) (c c' : Nat), View w T A xs.length (u8s xs) → View w T' A' xs.length (u8s xs) → Calls Try.prog 13 #[.slice A xs.length c, .slice A' xs.length c'] w fun e w' => e = .returned (.bool true) ∧ ∃ k, w' = w.drewN k) := Lib.hid (fun w T T' A A' c c' h h' => by
      have := same_any w T T' A A' c c' xs xs h h' (by omega)
      rw [decide_eq_true rfl] at this
      exact this)
    have HLL := Lib.hid hl
    have HAD := Lib.hid hAD.symm
    have HAH := Lib.hid hAH
    clear hk hkl hAD hAH hl
    go_enter Try.func7, Try.ntmps7
    go_wp2_with (first | (go_at_call 8; refine HAL.out.mono ?_; rintro e w0 ⟨rfl, hc⟩; have HC := Lib.hid hc; clear hc) | (go_at_call 9; refine (HNW.out w0).mono ?_; rintro e w1 ⟨ga, ma, rfl, hg, hm, hb, hc⟩; have HGA := Lib.hid (And.intro (Nat.le_trans HC.out.size hg) (Nat.le_trans HC.out.size hm)); have HBA := Lib.hid hb; have HC := Lib.hid (HC.out.trans hc); clear hg hm hb hc) | (go_at_call 9; refine (HNW.out w1).mono ?_; rintro e w2 ⟨gb, mb, rfl, hg, hm, hb, hc⟩; have HGB := Lib.hid (And.intro (Nat.le_trans HC.out.size hg) (Nat.le_trans HC.out.size hm)); have HFF := Lib.hid (And.intro (And.intro HBA.out.at_.row.lt HBA.out.at_.map.lt) (And.intro hg hm)); have HBB := Lib.hid hb; have HBA := Lib.hid (HBA.out.chg hc (fun h => h) (fun h => h)); have HC := Lib.hid (HC.out.trans hc); clear hg hm hb hc))
    have HX : Hid (¬ of2 ga ma gb ∧ ¬ of2 ga ma mb ∧ ¬ of2 gb mb ga ∧ ¬ of2 gb mb ma) := Lib.hid (by obtain ⟨⟨h1, h2⟩, h3, h4⟩ := HFF.out; unfold of2; omega)
    clear HFF
    have HCP : Hid (k ≤ cap) := Lib.hid (Nat.le_trans HK.out hcap)
    refine wp_region_held_drew (S := fun _ => True) (by kernel_rfl) (trivial) (fun hch0 => ?_)
    refine wpAnyH_take (i := 0) (v := .pointer (some ⟨ga, 0, none⟩)) rfl (by kernel_rfl) (by kernel_rfl) (by kernel_rfl) (by first | exact fun _ _ _ h => h | exact fun _ _ _ h => nomatch h.1) (Or.inl ⟨by rfl, fun w_ hw_ => by go_simp⟩) hch0 ?_
    try simp only [Act.put, List.setIfInBounds_toArray, List.set_cons_zero, List.set_cons_succ, List.getElem_toArray, List.getElem_cons_zero]
    refine wpAnyH_take (i := 1) (v := .int .i64 (k : Int)) rfl (by kernel_rfl) (by kernel_rfl) (by kernel_rfl) (by first | exact fun _ _ _ h => h | exact fun _ _ _ h => nomatch h.1) (Or.inl ⟨by rfl, fun w_ hw_ => by go_simp⟩) hch0 ?_
    try simp only [Act.put, List.setIfInBounds_toArray, List.set_cons_zero, List.set_cons_succ, List.getElem_toArray, List.getElem_cons_succ, List.getElem_cons_zero]
    refine wpAnyH_take (i := 2) (v := .int .u64 (k : Int)) rfl (by kernel_rfl) (by kernel_rfl) (by kernel_rfl) (by first | exact fun _ _ _ h => h | exact fun _ _ _ h => nomatch h.1) (Or.inl ⟨by rfl, fun w_ hw_ => by go_simp; exact wrapU k (by have := HK.out; have := HLL.out; omega)⟩) hch0 ?_
    try simp only [Act.put, List.setIfInBounds_toArray, List.set_cons_zero, List.set_cons_succ, List.getElem_toArray, List.getElem_cons_succ, List.getElem_cons_zero]
    refine wpAnyH_take (i := 3) (v := .slice A xs.length cap) rfl (by kernel_rfl) (by kernel_rfl) (by kernel_rfl) (by first | exact fun _ _ _ h => h | exact fun _ _ _ h => nomatch h.1) (Or.inl ⟨by rfl, fun w_ hw_ => by go_simp⟩) hch0 ?_
    try simp only [Act.put, List.setIfInBounds_toArray, List.set_cons_zero, List.set_cons_succ, List.getElem_toArray, List.getElem_cons_succ, List.getElem_cons_zero]
    refine wpAnyH_take (i := 4) (v := .int .i64 (k : Int)) rfl (by kernel_rfl) (by kernel_rfl) (by kernel_rfl) (by first | exact fun _ _ _ h => h | exact fun _ _ _ h => nomatch h.1) (Or.inl ⟨by rfl, fun w_ hw_ => by go_simp⟩) hch0 ?_
    try simp only [Act.put, List.setIfInBounds_toArray, List.set_cons_zero, List.set_cons_succ, List.getElem_toArray, List.getElem_cons_succ, List.getElem_cons_zero]
    refine wpAnyH_take (i := 5) (v := .slice AD (xs.length - k) (cap - k)) rfl (by kernel_rfl) (by kernel_rfl) (by kernel_rfl) (by first | exact fun _ _ _ h => h | exact fun _ _ _ h => nomatch h.1) (yieldsIf_slice_low (by rfl) 22 5 _ _ rfl A xs.length cap k rfl rfl Try.underlying22 size5 HK.out HAD.out) hch0 ?_
    try simp only [Act.put, List.setIfInBounds_toArray, List.set_cons_zero, List.set_cons_succ, List.getElem_toArray, List.getElem_cons_succ, List.getElem_cons_zero]
    refine wpAnyH_take (i := 7) (v := .pointer (some ⟨ga, 0, none⟩)) rfl (by kernel_rfl) (by kernel_rfl) (by kernel_rfl) (by first | exact fun _ _ _ h => h | exact fun _ _ _ h => nomatch h.1) (Or.inl ⟨by rfl, fun w_ hw_ => by go_simp⟩) hch0 ?_
    try simp only [Act.put, List.setIfInBounds_toArray, List.set_cons_zero, List.set_cons_succ, List.getElem_toArray, List.getElem_cons_succ, List.getElem_cons_zero]
    refine wpAnyH_take (i := 8) (v := .slice A xs.length cap) rfl (by kernel_rfl) (by kernel_rfl) (by kernel_rfl) (by first | exact fun _ _ _ h => h | exact fun _ _ _ h => nomatch h.1) (Or.inl ⟨by rfl, fun w_ hw_ => by go_simp⟩) hch0 ?_
    try simp only [Act.put, List.setIfInBounds_toArray, List.set_cons_zero, List.set_cons_succ, List.getElem_toArray, List.getElem_cons_succ, List.getElem_cons_zero]
    refine wpAnyH_take (i := 9) (v := .int .i64 (k : Int)) rfl (by kernel_rfl) (by kernel_rfl) (by kernel_rfl) (by first | exact fun _ _ _ h => h | exact fun _ _ _ h => nomatch h.1) (Or.inl ⟨by rfl, fun w_ hw_ => by go_simp⟩) hch0 ?_
    try simp only [Act.put, List.setIfInBounds_toArray, List.set_cons_zero, List.set_cons_succ, List.getElem_toArray, List.getElem_cons_succ, List.getElem_cons_zero]
    refine wpAnyH_take (i := 10) (v := .slice AH k cap) rfl (by kernel_rfl) (by kernel_rfl) (by kernel_rfl) (by first | exact fun _ _ _ h => h | exact fun _ _ _ h => nomatch h.1) (by rw [HAH.out]; exact yieldsIf_slice_high (by rfl) 22 5 _ _ rfl A xs.length cap k rfl rfl Try.underlying22 size5 HCP.out) hch0 ?_
    try simp only [Act.put, List.setIfInBounds_toArray, List.set_cons_zero, List.set_cons_succ, List.getElem_toArray, List.getElem_cons_succ, List.getElem_cons_zero]
    refine wpAnyH_ready (rs := [6]) (by kernel_rfl) (by simp) ?_
    refine AllReadyH.cons rfl (fun K hK => ?_) AllReadyH.nil
    rw [if_pos (by rfl)]
    try simp only [List.getElem_toArray, List.getElem_cons_succ, List.getElem_cons_zero]
    go_simp
    refine (mEnd HK.out HLL.out (HBA.out.chg ((Chg.refl none_ w2).drew) (fun h => h) (fun h => h)) HB.out (HVD.out _ HC.out.drew) (ahead2 HGA.out.1 HGA.out.2)).mono ?_
    rintro e w3 ⟨rfl, s1, hs1, hb, hc⟩
    have hC3 := chg2 HC.out.drew hc HGA.out.1 HGA.out.2
    have hB3 := (HBB.out.chg ((Chg.refl none_ w2).drew) (fun h => h) (fun h => h)).chg hc HX.out.1 HX.out.2.1
    refine hK.out _ _ (trivial) (fun _ => ?_)
    clear hK K
    try simp only [Act.put, List.setIfInBounds_toArray, List.set_cons_zero, List.set_cons_succ, List.getElem_toArray, List.getElem_cons_succ, List.getElem_cons_zero]
    refine wpAnyH_ready (rs := [11]) (by kernel_rfl) (by simp) ?_
    refine AllReadyH.cons rfl (fun K hK => ?_) AllReadyH.nil
    rw [if_pos (by rfl)]
    try simp only [List.getElem_toArray, List.getElem_cons_succ, List.getElem_cons_zero]
    go_simp
    refine (mBegin HK.out HLL.out hs1 hb HB.out (HVH.out _ hC3) (ahead2 HGA.out.1 HGA.out.2)).mono ?_
    rintro e w4 ⟨rfl, s2, hs2, hb4, hc4⟩
    have hC4 := chg2 hC3 hc4 HGA.out.1 HGA.out.2
    have hB4 := hB3.chg hc4 HX.out.1 HX.out.2.1
    refine hK.out _ _ (trivial) (fun _ => ?_)
    clear hK K
    try simp only [Act.put, List.setIfInBounds_toArray, List.set_cons_zero, List.set_cons_succ, List.getElem_toArray, List.getElem_cons_succ, List.getElem_cons_zero]
    refine wpAnyH_take (i := 12) (v := .int .i64 0) rfl (by kernel_rfl) (by kernel_rfl) (by kernel_rfl) (by first | exact fun _ _ _ h => h | exact fun _ _ _ h => nomatch h.1) (Or.inl ⟨by rfl, fun w_ hw_ => by go_simp⟩) hch0 ?_
    try simp only [Act.put, List.setIfInBounds_toArray, List.set_cons_zero, List.set_cons_succ, List.getElem_toArray, List.getElem_cons_succ, List.getElem_cons_zero]
    refine wpAnyH_take (i := 13) (v := .int .i64 0) rfl (by kernel_rfl) (by kernel_rfl) (by kernel_rfl) (by first | exact fun _ _ _ h => h | exact fun _ _ _ h => nomatch h.1) (Or.inl ⟨by rfl, fun w_ hw_ => by go_simp⟩) hch0 ?_
    try simp only [Act.put, List.setIfInBounds_toArray, List.set_cons_zero, List.set_cons_succ, List.getElem_toArray, List.getElem_cons_succ, List.getElem_cons_zero]
    refine wpAnyH_done (by kernel_rfl) ?_ _
    have HSA := Lib.hid hs2
    have HBA := Lib.hid hb4
    have HBB := Lib.hid hB4
    have HC := Lib.hid hC4
    clear hs1 hb hc hC3 hB3 hs2 hb4 hc4 hC4 hB4 hch0 HVD HVH HSD HSH HAD HAH
    go_wp2_with (first | ((with_reducible show Calls _ 10 #[_, _, _, _] _ _); refine (mAll HLL.out HBB.out HB.out (HV.out _ HC.out) (ahead2 HGB.out.1 HGB.out.2)).mono ?_; rintro e w5 ⟨rfl, s3, hs3, hb, hc⟩; have HSB := Lib.hid hs3; have HBB := Lib.hid hb; have HBA := Lib.hid (HBA.out.chg hc HX.out.2.2.1 HX.out.2.2.2); have HC := Lib.hid (chg2 HC.out hc HGB.out.1 HGB.out.2); clear hs3 hb hc) | ((with_reducible show Calls _ 11 #[.pointer (some ⟨ga, 0, none⟩), _] _ _); refine (zRead HSA.out.B HSA.out.rd HBA.out (Nat.le_trans HLL.out (by decide))).mono ?_; rintro e w6 ⟨A_, c_, rfl, hv, hb, hc⟩; have HV1 := Lib.hid hv; have HBA := Lib.hid hb; have HBB := Lib.hid (HBB.out.chg hc HX.out.1 HX.out.2.1); have HC := Lib.hid (chg2 HC.out hc HGA.out.1 HGA.out.2); clear hv hb hc) | ((with_reducible show Calls _ 11 #[.pointer (some ⟨gb, 0, none⟩), _] _ _); refine (zRead HSB.out.B HSB.out.rd HBB.out (Nat.le_trans HLL.out (by decide))).mono ?_; rintro e w8 ⟨A_, c_, rfl, hv, hb, hc⟩; have HV2 := Lib.hid hv; have HBB := Lib.hid hb; have HBA := Lib.hid (HBA.out.chg hc HX.out.2.2.1 HX.out.2.2.2); have HC := Lib.hid (chg2 HC.out hc HGB.out.1 HGB.out.2); clear hv hb hc) | ((with_reducible show Calls _ 13 _ _ _); refine (HSM.out _ _ _ _ _ _ _ HV1.out (HV.out _ HC.out)).mono ?_; rintro e w7 ⟨rfl, k_, hw⟩; have HBA := Lib.hid (by rw [hw]; exact HBA.out.drewN k_ : BA w7 ga ma _); have HBB := Lib.hid (by rw [hw]; exact HBB.out.drewN k_ : BA w7 gb mb _); have HC := Lib.hid (by rw [hw]; exact HC.out.drewN k_ : Chg none_ W w7); clear hw; clear HV1) | ((with_reducible show Calls _ 13 _ _ _); refine (HSM.out _ _ _ _ _ _ _ HV2.out (HV.out _ HC.out)).mono ?_; rintro e w9 ⟨rfl, k_, hw⟩; have HBA := Lib.hid (by rw [hw]; exact HBA.out.drewN k_ : BA w9 ga ma _); have HBB := Lib.hid (by rw [hw]; exact HBB.out.drewN k_ : BA w9 gb mb _); have HC := Lib.hid (by rw [hw]; exact HC.out.drewN k_ : Chg none_ W w9); clear hw; clear HV2) | ((with_reducible show Calls _ 20 #[.pointer (some ⟨ga, 0, none⟩)] _ _); refine (mDone HSA.out HBA.out).mono ?_; rintro e w10 ⟨rfl, k_, hw⟩; have HBA := Lib.hid (by rw [hw]; exact HBA.out.drewN k_ : BA w10 ga ma _); have HBB := Lib.hid (by rw [hw]; exact HBB.out.drewN k_ : BA w10 gb mb _); have HC := Lib.hid (by rw [hw]; exact HC.out.drewN k_ : Chg none_ W w10); clear hw) | ((with_reducible show Calls _ 20 #[.pointer (some ⟨gb, 0, none⟩)] _ _); refine (mDone HSB.out HBB.out).mono ?_; rintro e w11 ⟨rfl, k_, hw⟩; have HBA := Lib.hid (by rw [hw]; exact HBA.out.drewN k_ : BA w11 ga ma _); have HBB := Lib.hid (by rw [hw]; exact HBB.out.drewN k_ : BA w11 gb mb _); have HC := Lib.hid (by rw [hw]; exact HC.out.drewN k_ : Chg none_ W w11); clear hw) | ((with_reducible show Calls _ 16 #[.pointer (some ⟨ga, 0, none⟩)] _ _); refine (mLimit HSA.out HBA.out).mono ?_; rintro e w12 ⟨rfl, k_, hw⟩; have HBA := Lib.hid (by rw [hw]; exact HBA.out.drewN k_ : BA w12 ga ma _); have HBB := Lib.hid (by rw [hw]; exact HBB.out.drewN k_ : BA w12 gb mb _); have HC := Lib.hid (by rw [hw]; exact HC.out.drewN k_ : Chg none_ W w12); clear hw) | ((with_reducible show Calls _ 16 #[.pointer (some ⟨gb, 0, none⟩)] _ _); refine (mLimit HSB.out HBB.out).mono ?_; rintro e w13 ⟨rfl, k_, hw⟩; have HBA := Lib.hid (by rw [hw]; exact HBA.out.drewN k_ : BA w13 ga ma _); have HBB := Lib.hid (by rw [hw]; exact HBB.out.drewN k_ : BA w13 gb mb _); have HC := Lib.hid (by rw [hw]; exact HC.out.drewN k_ : Chg none_ W w13); clear hw))
    go_ret
    exact ⟨rfl, HC.out⟩
  · have l1 : (100 : Int) < (xs.length : Int) := by omega
    go_enter Try.func7, Try.ntmps7
    go_wp2_with (go_at_call 8; refine HAL.out.mono ?_; rintro e w0 ⟨rfl, hc⟩; have HC := Lib.hid hc; clear hc)
    go_ret
    exact ⟨rfl, HC.out⟩
end Go.Proofs.Ytbmhoijdbhokaaa
