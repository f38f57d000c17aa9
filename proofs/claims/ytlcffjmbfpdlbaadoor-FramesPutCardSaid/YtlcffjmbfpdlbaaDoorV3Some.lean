/- Layer 3 (frames): the frame that stands there, of a kind that there is. -/
import Derived.Test.YtlcffjmbfpdlbaaDoorV3ReadOk
namespace Go.Proofs.YtlcffjmbfpdlbaaDoor
open Go.RowKit

theorem readAll_ok : ∀ (ps : List Part) (x : Fr × St), x.1.Ok → (∀ b ∈ x.2.1, b < 256) → (readAll ps x).1.Ok
  | [], _, h, _ => h
  | p :: ps, x, h, hb => readAll_ok ps _ (readP_ok p x.1 x.2 h hb).1 (readP_ok p x.1 x.2 h hb).2
theorem acked_first' {k : Nat} {d : KD} (hd : kdM k = some d) (t i : Nat) (h : i < (d.pf.parts t).length) (ha : (d.pf.parts t)[i] = .acked) : i = 0 := by
  unfold kdM at hd
  simp only [Option.map_eq_some_iff] at hd
  obtain ⟨x, hx, rfl⟩ := hd
  exact acked_first x (List.mem_of_find?_eq_some hx) t i h ha
set_option maxRecDepth 100000 in
set_option maxHeartbeats 2000000 in
theorem next_some (s : St) (r gm : Nat) (w : World) (Tr Tk : Nat → Prop) (hs : RdS w r Tr s) (hT : ¬ Tr r) (hTl : ∀ b, Tr b → b < w.heap.size) (hk : KindsAt w Tk gm) (hTk : ¬ Tk r) (hTkl : ∀ b, Tk b → b < w.heap.size) (hgm : gm ≠ r)
    (hb0 : (rdInt s).2.2 = 0) (d : KD) (hkd : kdM (kindM (rdInt s).1) = some d) :
    Calls Tryd.prog 26 #[.pointer (some ⟨r, 0, none⟩), .map (some gm)] w (NextPost w r Tr s) := by
  have HKS : Hid (∀ w1, Chg (· = r) w w1 → KindsAt w1 Tk gm) := fun w1 hc => hk.chg hc (fun e => hgm e) (fun b hb e => hTk (e ▸ hb))
  have hrl := hs.lt
  have HC0 : Hid (∀ z1 z2, Chg none_ w ((w.alloc z1).alloc z2)) := fun z1 z2 => ((Chg.refl none_ w).alloc z1).alloc z2
  have HRS : Hid (∀ w1, Chg none_ w w1 → Calls Tryd.prog 56 #[.pointer (some ⟨r, 0, none⟩)] w1 fun e w' => e = .returned (.int .u64 ((rdInt s).1 : Nat)) ∧ RdS w' r Tr (rdInt s).2 ∧ Chg (· = r) w1 w') := fun w1 hc => int_any _ _ _ _ (hs.heapEq hc) hT
  have HR4 : Hid (∀ w', Chg (· = r) ((w.alloc (.cells zeroF.toArray 27)).alloc (.cells zeroF.toArray 27)) w' → Row w' w.heap.size 27 zeroF ∧ Row w' (w.heap.size + 1) 27 zeroF ∧ Chg (· = r) w w' ∧ w.heap.size + 1 < w'.heap.size) := fun w' hc =>
    ⟨(Row.new1 w _ 27 zeroF).chg hc (by omega), (Row.new2 w _ 27 zeroF).chg hc (by omega), (((Chg.refl _ w).alloc _).alloc _).trans hc, Nat.lt_of_lt_of_le (by simp) hc.size⟩
  have HTL := Lib.hid hTl
  have HTKL := Lib.hid hTkl
  clear hTl hTkl
  have HFAIL := Lib.hid (fun w' st (h : RdS w' r Tr st) => failS_any w' r Tr st 3 h)
  have HBAD := Lib.hid (fun w' st (h : RdS w' r Tr st) => badS_any w' r Tr st h)
  have ht64 := rdInt_lt s hs.2
  have HNM : Hid (nextM s = match (if (rdInt s).2.2 = 0 then kdM (kindM (rdInt s).1) else none) with
    | none => ({}, failSt 3 (rdInt s).2)
    | some d => if (readAll (d.pf.parts (rdInt s).1) ({ kind := (kindM (rdInt s).1 : Nat), flag := d.flagged && decide ((rdInt s).1 % 2 = 1) }, (rdInt s).2)).2.2 = 0 ∧ hasB d (readAll (d.pf.parts (rdInt s).1) ({ kind := (kindM (rdInt s).1 : Nat), flag := d.flagged && decide ((rdInt s).1 % 2 = 1) }, (rdInt s).2)).1 = true then (readAll (d.pf.parts (rdInt s).1) ({ kind := (kindM (rdInt s).1 : Nat), flag := d.flagged && decide ((rdInt s).1 % 2 = 1) }, (rdInt s).2)) else ({}, failSt 3 (readAll (d.pf.parts (rdInt s).1) ({ kind := (kindM (rdInt s).1 : Nat), flag := d.flagged && decide ((rdInt s).1 % 2 = 1) }, (rdInt s).2)).2)) := rfl
  unfold NextPost
  generalize nextM s = NM at *
  rw [if_pos hb0, hkd] at HNM
  have hlt30 := kdM_lt hkd
  generalize hx : rdInt s = x at *
  obtain ⟨t, s1⟩ := x
  obtain ⟨xs, bad⟩ := s1
  simp only at hb0 hkd hlt30 ht64 HNM HRS
  subst hb0
  have HKO := Lib.hid (fun w' => kindOf_any t (by omega) w')
  generalize kindM t = kt at *
  have HKD := Lib.hid hkd
  have hkn : (kdM kt).isSome = true := by rw [hkd]; rfl
  clear hk hs hx hkd
  go_enter Tryd.func26, Tryd.ntmps26
  go_wp2
  refine wp_scope_fwd 0 rfl ?_
  go_wp2_with (first | (go_at_call 56; refine Calls.mono (HRS.out _ (HC0.out _ _)) ?_; rintro e w1 ⟨rfl, hs1, hc1⟩; have HS1 := Lib.hid hs1; have HC1 := Lib.hid hc1; obtain ⟨kc, hlk, h3, h1c, hkd⟩ := look_kind (HKS.out _ (((HC0.out _ _).mono (fun _ _ h => h.elim)).trans hc1)) kt; have hki := hkd d HKD.out; obtain ⟨pv, hpv, rfl⟩ := hki; have HPV := Lib.hid hpv; have hy1 := hpv.cell; have hz1 : (fitsV d.fits).oneCell' = true := (by cases d.fits <;> rfl); have hsy := fun (w : World) (a : Addr) => run_store Tryd.prog w a pv .plain hy1; have hsz := fun (w : World) (a : Addr) => run_store Tryd.prog w a (fitsV d.fits) .plain hz1; clear hs1 hc1 hkd h3 h1c hpv hy1 hz1) | (go_at_call 57; refine Calls.mono (HKO.out _) ?_; rintro e w2 ⟨rfl, rfl⟩) | (go_at_call 27; refine Calls.mono (HBAD.out _ _ (HS1.out.heapEq ((Chg.refl none_ _).alloc _))) ?_; rintro e w3 ⟨rfl, rfl⟩; clear hsy hsz hlk hkn))
  have hF := HR4.out w1 HC1.out
  obtain ⟨hr4, hr5, hcw, hsz⟩ := hF
  have hWk := Row.new w1 41 [Value.bool d.flagged, pv, fitsV d.fits]
  have hW4 := hr4.alloc (.cells [Value.bool d.flagged, pv, fitsV d.fits].toArray 41)
  have hW5 := hr5.alloc (.cells [Value.bool d.flagged, pv, fitsV d.fits].toArray 41)
  have hWc := hcw.alloc (.cells [Value.bool d.flagged, pv, fitsV d.fits].toArray 41)
  have hWr := HS1.out.heapEq ((Chg.refl none_ w1).alloc (.cells [Value.bool d.flagged, pv, fitsV d.fits].toArray 41))
  have hWp := HPV.out.chg ((Chg.refl none_ w1).alloc (.cells [Value.bool d.flagged, pv, fitsV d.fits].toArray 41)) (fun _ _ h => h)
  generalize w1.alloc (.cells [Value.bool d.flagged, pv, fitsV d.fits].toArray 41) = W at *
  generalize w1.heap.size = g at *
  have HWk := Lib.hid hWk
  have HW4 := Lib.hid hW4
  have HW5 := Lib.hid hW5
  have HWc := Lib.hid hWc
  have HWr := Lib.hid hWr
  have HWp := Lib.hid hWp
  clear hr4 hr5 hcw hWk hW4 hW5 hWc hWr hWp
  have hch0 : Chg (· = w.heap.size + 1) W W.drew := (Chg.refl _ W).drew
  have hp2 : t % 2 = 0 ∨ t % 2 = 1 := by omega
  have hand : bits .and .u64 (t : Int) 1 = ((t % 2 : Nat) : Int) := by
    have := u64_and_nat t 1 (by omega) (by omega)
    rw [Nat.and_one_is_mod] at this
    exact this
  have hcv : IntKind.i64.wrap (kt : Int) = (kt : Int) := IntWalk.i64_in _ ⟨by omega, by omega⟩
  have HAND := Lib.hid hand
  have HCVT := Lib.hid hcv
  have HP2 := Lib.hid hp2
  clear hand hcv hp2
  generalize hfl : d.flagged = fl at *
  have HFL := Lib.hid hfl
  clear hfl
  refine wp_region_held_drew (S := fun w' => Chg (· = w.heap.size + 1) W w') (by kernel_rfl) hch0 (fun _ => ?_)
  refine wpAnyH_take (i := 0) (v := .int .u64 t) rfl (by kernel_rfl) (by kernel_rfl) (by kernel_rfl) (fun _ _ _ h => h) (Or.inl ⟨by rfl, fun w' hw' => by go_simp⟩) hch0 ?_
  refine wpAnyH_take (i := 3) (v := .pointer (some ⟨g, 0, none⟩)) rfl (by kernel_rfl) (by kernel_rfl) (by kernel_rfl) (fun _ _ _ h => h) (Or.inl ⟨by rfl, fun w' hw' => by go_simp⟩) hch0 ?_
  refine wpAnyH_take (i := 4) (v := .bool fl) rfl (by kernel_rfl) (by kernel_rfl) (by kernel_rfl) (fun _ _ _ h => h) (Or.inl ⟨by rfl, fun w' hw' => by have hh := (HWk.out.chg hw' (by omega)).cell 0; simp at hh; go_simp⟩) hch0 ?_
  refine wpAnyH_ready (rs := [1]) (by kernel_rfl) (by simp) ?_
  refine AllReadyH.cons rfl (fun K hK => ?_) AllReadyH.nil
  rw [if_pos (by rfl)]
  try simp only [List.getElem_toArray, List.getElem_cons_succ, List.getElem_cons_zero]
  go_simp
  refine (HKO.out _).mono ?_
  rintro e w2 ⟨rfl, rfl⟩
  refine hK.out _ _ hch0 (fun _ => ?_)
  clear hK K
  try simp only [Act.put, List.setIfInBounds_toArray, List.set_cons_zero, List.set_cons_succ, List.getElem_toArray, List.getElem_cons_succ, List.getElem_cons_zero]
  refine wpAnyH_take (i := 2) (v := .int .i64 kt) rfl (by kernel_rfl) (by kernel_rfl) (by kernel_rfl) (fun _ _ _ h => h) (Or.inl ⟨by rfl, fun w' hw' => by have hcv := HCVT.out; go_simp⟩) hch0 ?_
  refine wpAnyH_take (i := 5) (v := .bool fl) rfl (by kernel_rfl) (by kernel_rfl) (by kernel_rfl) (fun _ _ _ h => h) (Or.inl ⟨by rfl, fun w' hw' => by go_simp⟩) hch0 ?_
  refine wpAnyH_take (i := 6) (v := if fl then .int .u64 t else undef) rfl (by kernel_rfl) (by kernel_rfl) (by kernel_rfl) (fun _ _ _ h => h) (by cases fl <;> first | exact Or.inr ⟨by rfl, rfl⟩ | exact Or.inl ⟨by rfl, fun w' hw' => by go_simp⟩) hch0 ?_
  refine wpAnyH_take (i := 7) (v := if fl then .int .u64 ((t % 2 : Nat) : Int) else undef) rfl (by kernel_rfl) (by kernel_rfl) (by kernel_rfl) (fun _ _ _ h => h) (by cases fl <;> first | exact Or.inr ⟨by rfl, rfl⟩ | exact Or.inl ⟨by rfl, fun w' hw' => by have hand := HAND.out; go_simp⟩) hch0 ?_
  refine wpAnyH_take (i := 8) (v := if fl then .bool (decide (t % 2 = 1)) else undef) rfl (by kernel_rfl) (by kernel_rfl) (by kernel_rfl) (fun _ _ _ h => h) (by cases fl <;> first | exact Or.inr ⟨by rfl, rfl⟩ | exact Or.inl ⟨by rfl, fun w' hw' => by rcases HP2.out with h2 | h2 <;> (rw [h2]; go_simp)⟩) hch0 ?_
  refine wpAnyH_take (i := 9) (v := .bool (fl && decide (t % 2 = 1))) rfl (by kernel_rfl) (by kernel_rfl) (by kernel_rfl) (fun _ _ _ h => h) (by cases fl <;> exact Or.inl ⟨by rfl, fun w' hw' => by go_simp⟩) hch0 ?_
  refine wpAnyH_take (i := 10) (v := .agg (cellsF { kind := kt, flag := fl && decide (t % 2 = 1) } (.slice none 0 0) (.slice none 0 0)).toArray) rfl (by kernel_rfl) (by kernel_rfl) (by kernel_rfl) (fun _ _ _ h => h) (Or.inl ⟨by rfl, fun w' hw' => by go_simp; try rfl⟩) hch0 ?_
  try simp only [Act.put, List.setIfInBounds_toArray, List.set_cons_zero, List.set_cons_succ, List.getElem_toArray, List.getElem_cons_succ, List.getElem_cons_zero]
  refine wpAnyH_ready (rs := [11]) (by kernel_rfl) (by simp) ?_
  refine AllReadyH.cons rfl (fun K hK => ?_) AllReadyH.nil
  rw [if_pos (by rfl)]
  try simp only [List.getElem_toArray, List.getElem_cons_succ, List.getElem_cons_zero]
  refine wp_store_Row rfl rfl HW5.out.drew rfl (by rfl) (by rfl) (by rfl) ?_
  intro w9 hr9 hch9
  have hc9 := hch9 (· = w.heap.size + 1) W hch0 (fun _ => rfl)
  refine hK.out _ _ hc9 (fun _ => ?_)
  clear hK K
  try simp only [Act.put]
  refine wpAnyH_done (by kernel_rfl) ?_ _
  try simp only [Act.put, List.setIfInBounds_toArray, List.set_cons_zero, List.set_cons_succ, List.getElem_toArray, List.getElem_cons_succ, List.getElem_cons_zero]
  generalize (if fl = true then Value.int .u64 (t : Int) else undef) = u33
  generalize (if fl = true then Value.int .u64 ((t % 2 : Nat) : Int) else undef) = u34
  generalize (if fl = true then Value.bool (decide (t % 2 = 1)) else undef) = u35
  have hgood := kdM_good HKD.out
  have hszW := HWk.out.lt
  have hB9 : w.heap.size + 2 ≤ w9.heap.size := by have := hc9.size; omega
  have HK9 : Hid (Row w9 g 41 [Value.bool fl, pv, fitsV d.fits]) := HWk.out.chg hc9 (by show ¬ _ = _; omega)
  have HZ9 : Hid (Row w9 w.heap.size 27 zeroF) := HW4.out.chg hc9 (by show ¬ _ = _; omega)
  have HR9 : Hid (RdS w9 r Tr (xs, 0)) := HWr.out.chg hc9 (by show ¬ _ = _; omega) (fun b hb e => by have := HTL.out b hb; have e2 : b = w.heap.size + 1 := e; omega)
  have HC9 : Hid (Chg (· = r) w w9) := HWc.out.andThen hc9 (fun b hb e => by have e2 : b = w.heap.size + 1 := e; omega)
  have HL9 : Hid (Lie w9 r (w.heap.size + 1) (w.heap.size + 2) Tr) := ⟨hB9, by omega, by omega, by omega, fun b hb => ⟨by have := HTL.out b hb; omega, fun e => hT (e ▸ hb), by have := HTL.out b hb; omega⟩⟩
  have HP9 := HWp.out.chg hc9 (fun b hb e => by have := HTKL.out b hb; have e2 : b = w.heap.size + 1 := e; omega)
  have HF9 : Hid (FrAt w9 (w.heap.size + 1) (fun b => w.heap.size + 2 ≤ b) { kind := kt, flag := fl && decide (t % 2 = 1) }) := ⟨_, _, hr9, rfl, ⟨none, 0, rfl, Nat.zero_le _, View.none_ _ _ _⟩, ⟨none, 0, rfl, ⟨Nat.zero_le _, Nat.zero_le _⟩, View.none_ _ _ _⟩⟩
  have hPD : ∀ w', Chg none_ w9 w' → Does pv #[.int .u64 t] w' (PartsNew w' (d.pf.parts t)) := fun w' hc => parts_does d.pf pv t w' _ (HP9.chg hc (fun _ _ h => h)) (by omega) hgood.1
  obtain ⟨pn, pcap, hpve, hpeg, _⟩ := hPD w9 (Chg.refl _ _)
  have HPC : Hid (∀ w', Chg none_ w9 w' → Calls Tryd.prog pn (#[.int .u64 t] ++ pcap) w' (PartsNew w' (d.pf.parts t))) := fun w' hc => (hPD w' hc).anyw hpve
  have k1 := HK9.out.cell 1
  simp at k1
  have HPSL := Lib.hid (parts_len d hgood t)
  have HACK : Hid (∀ (i : Nat) (h : i < (d.pf.parts t).length), (d.pf.parts t)[i] = .acked → i = 0) := acked_first' HKD.out t
  have HGOOD := Lib.hid hgood
  have HPF9 := Lib.hid HP9
  clear hPD HP9 hr9 hch9 hc9 hch0 hgood
  generalize d.pf.parts t = ps at *
  generalize hf0 : ({ kind := kt, flag := fl && decide (t % 2 = 1) } : Fr) = f0 at *
  have HF0 := Lib.hid hf0
  clear hf0
  subst hpve
  go_wp2_with (first | (refine Calls.mono (HPC.out _ (Chg.refl _ _)) ?_; rintro e w10 ⟨A, cap, pcs, rfl, hpa, hpv, hc10⟩; have HPA := Lib.hid hpa; have HPVW := Lib.hid hpv; have HC10 := Lib.hid hc10; clear hpa hpv hc10 k1))
  have hps := HPSL.out
  have hB10 : w.heap.size + 2 ≤ w10.heap.size := Nat.le_trans hB9 HC10.out.size
  have hL10 : Hid (Lie w10 r (w.heap.size + 1) (w.heap.size + 2) Tr) := HL9.out.step HC10.out
  go_loopw [43] (fun i wr => ∃ k : Nat, k ≤ ps.length ∧ i = .int .i64 k ∧ RdS wr r Tr (readAll (ps.take k) (f0, (xs, 0))).2 ∧ FrAt wr (w.heap.size + 1) (fun b => w.heap.size + 2 ≤ b) (readAll (ps.take k) (f0, (xs, 0))).1 ∧ Chg (inRG r (w.heap.size + 1)) w10 wr) (fun i _ => ps.length - (intOf i).toNat)
  case atStart => exact ⟨0, Nat.zero_le _, rfl, HR9.out.heapEq HC10.out, HF9.out.chg HC10.out (fun h => h) (fun _ _ h => h), Chg.refl _ _⟩
  case round =>
    obtain ⟨k, hk, rfl, hrd, hfa, hch⟩ := hrel
    have hrT : ∀ b, w9.heap.size ≤ b → ¬ inRG r (w.heap.size + 1) b := fun b hb e => by unfold inRG at e; omega
    have HLR : Hid (Lie wr r (w.heap.size + 1) (w.heap.size + 2) Tr) := hL10.out.step hch
    by_cases hlt : k < ps.length
    · obtain ⟨b, o, x, y, z, rfl, hb, _, p0, p1, p2, hp, hx1, hy1⟩ := part_at (HPA.out.chg hch hrT) (HPVW.out.chg hch hrT) k hlt
      have HTK : Hid (ps.take (k + 1) = ps.take k ++ [ps[k]]) := List.take_succ_eq_append_getElem hlt
      have hdat : ps[k] = .acked → (readAll (ps.take k) (f0, (xs, 0))).1.data = [] := fun e => by
        have := HACK.out k hlt e
        subst this
        show f0.data = []
        rw [← HF0.out]
      generalize ps[k] = p at *
      have HSN : Hid (readAll (ps.take (k + 1)) (f0, (xs, 0)) = readP p (readAll (ps.take k) (f0, (xs, 0))).1 (readAll (ps.take k) (f0, (xs, 0))).2) := by show _ = _; rw [HTK.out, readAll_snoc]
      generalize readAll (ps.take k) (f0, (xs, 0)) = X at *
      have HD : Hid (∀ w', Chg none_ wr w' → ∃ v, [x, y, z][1]? = some v ∧ Does v #[.pointer (some ⟨r, 0, none⟩), .pointer (some ⟨w.heap.size + 1, 0, none⟩)] w' (ReadPost w' r (w.heap.size + 1) (w.heap.size + 2) Tr (readP p X.1 X.2))) := fun w' hc => read_part p X.1 w' X.2 r (w.heap.size + 1) (w.heap.size + 2) Tr _ _ (hp.chg hc (fun _ _ h => h)) (HLR.out.step hc) (hrd.heapEq hc) (hfa.chg hc (fun h => h) (fun _ _ h => h)) hdat
      obtain ⟨v0, hv0, n, ycap, hve, hyeg, _⟩ := HD.out wr (Chg.refl _ _)
      have hyv : y = v0 := by simpa using hv0
      subst hyv
      have HE : Hid (∀ w', Chg none_ wr w' → Calls Tryd.prog n (#[.pointer (some ⟨r, 0, none⟩), .pointer (some ⟨w.heap.size + 1, 0, none⟩)] ++ ycap) w' (ReadPost w' r (w.heap.size + 1) (w.heap.size + 2) Tr (readP p X.1 X.2))) := fun w' hc => by
        obtain ⟨v', h1, h2⟩ := HD.out w' hc
        have h3 : y = v' := by simpa using h1
        subst h3
        exact h2.anyw hve
      have hz1c : z.oneCell' = true := by
        obtain ⟨a1, a2, a3, he, h1c⟩ := hp.three
        exact h1c z (by simp)
      clear hv0 hp HD hdat
      subst hve
      have hk0 : (0 : Int) ≤ (k : Int) := by omega
      have hk1 : (k : Int) < (ps.length : Int) := by omega
      have HCH := Lib.hid hch
      clear hch hrd hfa
      have hsx := fun (w : World) (a : Addr) => run_store Tryd.prog w a x .plain hx1
      have hsz := fun (w : World) (a : Addr) => run_store Tryd.prog w a z .plain hz1c
      have hst := fun (w : World) (a : Addr) (fn : Fn) (x y : Array Value) => run_store Tryd.prog w a (.func fn x y) .plain rfl
      clear hx1 hy1 hz1c
      go_wp2_with fail
      refine (HE.out _ ((Chg.refl none_ wr).alloc _)).mono ?_
      rintro e w4 ⟨rfl, hr4, hf4, hc4⟩
      have HR4x := Lib.hid hr4
      have HF4x := Lib.hid hf4
      have HC4x := Lib.hid hc4
      clear hsx hsz hst hr4 hf4 hc4
      go_wp2
      go_roundw
      case rel => exact ⟨k + 1, by omega, rfl, by rw [HSN.out]; exact HR4x.out, by rw [HSN.out]; exact HF4x.out, (HCH.out.alloc _).trans HC4x.out⟩
      case measure => simp [intOf]; omega
    · obtain rfl : k = ps.length := by omega
      rw [List.take_length] at hrd hfa
      have hlt' : ¬ ((ps.length : Nat) : Int) < ((ps.length : Nat) : Int) := by omega
      have HOKX := Lib.hid (readAll_ok ps (f0, (xs, 0)) (by rw [← HF0.out]; exact ⟨by show (-9223372036854775808 : Int) ≤ (kt : Int); omega, by show (kt : Int) < 9223372036854775808; omega, by show (0 : Nat) < _; omega, by show (0 : Nat) < _; omega, by show (0 : Nat) < _; omega, by show (0 : Nat) < _; omega, fun x hx => by simp at hx, fun x hx => by simp at hx, fun x hx => by rw [List.eq_of_mem_replicate hx]; omega⟩) HS1.out.2)
      have HKX : Hid (0 ≤ (readAll ps (f0, (xs, 0))).1.kind ∧ (readAll ps (f0, (xs, 0))).1.kind < 64) := by
        rw [(readAll_kind ps (f0, (xs, 0))).1, ← HF0.out]
        show (0 : Int) ≤ kt ∧ (kt : Int) < 64
        omega
      have HNX : Hid (NM = if (readAll ps (f0, (xs, 0))).2.2 = 0 ∧ hasB d (readAll ps (f0, (xs, 0))).1 = true then readAll ps (f0, (xs, 0)) else ({}, failSt 3 (readAll ps (f0, (xs, 0))).2)) := HNM.out
      clear HNM
      generalize readAll ps (f0, (xs, 0)) = X at *
      obtain ⟨fx, sx, bx⟩ := X
      obtain ⟨sd, sr, hrow, hfd⟩ := hfa
      simp only at hrd hrow hfd HOKX HKX HNX
      have HRX : Hid (∀ w', Chg none_ wr w' → RdS w' r Tr (sx, bx) ∧ Row w' w.heap.size 27 zeroF ∧ Chg (· = r) w w' ∧ Row w' (w.heap.size + 1) 27 (cellsF fx sd sr) ∧ FrD w' (fun b => w.heap.size + 2 ≤ b) fx sd sr ∧ Row w' g 41 [Value.bool fl, .func (.func pn) #[] pcap, fitsV d.fits]) := fun w' hc =>
        ⟨hrd.heapEq hc, ((HZ9.out.chg HC10.out (fun h => h)).chg hch (by unfold inRG; omega)).chg hc (fun h => h), (((HC9.out.andThen HC10.out (fun _ _ h => h.elim)).andThen hch (fun b hb e => by unfold inRG at e; show b = r; omega)).andThen hc (fun _ _ h => h.elim)), hrow.chg hc (fun h => h), hfd.chg hc (fun _ _ h => h), ((HK9.out.chg HC10.out (fun h => h)).chg hch (by unfold inRG; omega)).chg hc (fun h => h)⟩
      have HHAS : Hid (Calls Tryd.prog 16 #[.agg [Value.bool fl, .func (.func pn) #[] pcap, fitsV d.fits].toArray, .agg (cellsF fx sd sr).toArray] wr fun e w'' => e = .returned (.bool (hasB d fx)) ∧ Chg none_ wr w'') :=
        has_any d HGOOD.out Tk _ fx sd sr wr (fun b => w.heap.size + 2 ≤ b) ⟨_, (HPF9.out.chg HC10.out (fun _ _ h => h)).chg hch (fun b hb e => by unfold inRG at e; have := HTKL.out b hb; rcases e with e | e; exact hTk (e ▸ hb); omega), by rw [HFL.out]⟩ hfd HOKX.out HKX.out.1 HKX.out.2
      have H24 := Lib.hid (cF_len fx sd sr hfd.tok)
      have HONE : Hid ((cellsF fx sd sr).all (·.oneCell') = true) := by
        obtain ⟨_, ⟨A1, c1, rfl, _⟩, ⟨B1, d1, rfl, _⟩⟩ := hfd
        exact cF_one _ _ _ _ _ _ _
      have cX : Chg none_ wr wr := Chg.refl _ _
      have k0 := (HRX.out wr cX).2.2.2.2.2.cell 0
      have k1 := (HRX.out wr cX).2.2.2.2.2.cell 1
      have k2 := (HRX.out wr cX).2.2.2.2.2.cell 2
      simp at k0 k1 k2
      clear hrd hrow hfd hch
      have HCS : Hid (∀ w', FrD w' (fun b => w.heap.size + 2 ≤ b) fx sd sr → aggF fx sd sr = .agg (cellsF fx sd sr).toArray) := fun _ _ => rfl
      by_cases hbx : bx = 0
      · subst hbx
        cases hhb : hasB d fx
        · have HNQ : Hid (NM = ({}, failSt 3 (sx, 0))) := by
            show _ = _
            rw [HNX.out, if_neg]
            rw [hhb]; simp
          rw [hhb] at HHAS
          clear HNX hhb
          go_wp2_with (first | (go_at_call 27; refine Calls.mono (HBAD.out _ _ (HRX.out _ (by assumption)).1) ?_; rintro e w11 ⟨rfl, rfl⟩) | ((with_reducible show wpList _ _ _ (⟨_, .load 27 _, _, _, _, _⟩ :: _) _ _); refine wl27 rfl rfl rfl (HRX.out _ (by assumption)).2.2.2.1 H24.out ?_) | (go_at_call 16; refine Calls.mono HHAS.out ?_; rintro e w6 ⟨rfl, c6⟩; clear cX))
          go_step3
          simp only [Exit.then]
          refine jump_fwd ?_
          go_wp2_with (first | (go_at_call 28; refine Calls.mono (HFAIL.out _ _ (HRX.out _ (by assumption)).1) ?_; rintro e w7 ⟨rfl, hs7, hc7⟩; have HS7 := Lib.hid hs7; have HR7 := Lib.hid ((HRX.out _ (by assumption)).2.1.chg hc7 (by show ¬ _ = _; omega)); have HC7 := Lib.hid ((HRX.out _ (by assumption)).2.2.1.trans hc7); clear hs7 hc7) | ((with_reducible show wpList _ _ _ (⟨_, .store 27 _ _, _, _, _, _⟩ :: _) _ _); refine wpList_store_Row rfl rfl rfl (xs := zeroF) HR7.out rfl rfl size27 rfl ?_; intro w8 hr8 hch8 hs8))
          rw [Exit.noGoto_ret]
          refine ret_row rfl rfl hr8 Tryd.underlying27 rfl size27 rfl ?_
          rw [HNQ.out]
          exact ⟨.slice none 0 0, .slice none 0 0, rfl, ⟨rfl, ⟨none, 0, rfl, Nat.zero_le _, View.none_ _ _ _⟩, ⟨none, 0, rfl, ⟨Nat.zero_le _, Nat.zero_le _⟩, View.none_ _ _ _⟩⟩, HS7.out.chg (hch8 (· = w.heap.size) w7 (Chg.refl _ _) (fun _ => rfl)) (by show ¬ _ = _; omega) (fun b hb e => by have := HTL.out b hb; have e2 : b = w.heap.size := e; omega), hch8 (· = r) w HC7.out (fun h => absurd h (by omega))⟩
        · have HNQ : Hid (NM = (fx, (sx, 0))) := by
            show _ = _
            rw [HNX.out, if_pos]
            exact ⟨rfl, hhb⟩
          rw [hhb] at HHAS
          clear HNX hhb
          go_wp2_with (first | (go_at_call 27; refine Calls.mono (HBAD.out _ _ (HRX.out _ (by assumption)).1) ?_; rintro e w11 ⟨rfl, rfl⟩) | ((with_reducible show wpList _ _ _ (⟨_, .load 27 _, _, _, _, _⟩ :: _) _ _); refine wl27 rfl rfl rfl (HRX.out _ (by assumption)).2.2.2.1 H24.out ?_) | (go_at_call 16; refine Calls.mono HHAS.out ?_; rintro e w6 ⟨rfl, c6⟩; clear cX) | ((with_reducible show wpList _ _ _ (⟨_, .store 27 _ _, _, _, _, _⟩ :: _) _ _); refine wpList_store_Row rfl rfl rfl (xs := cellsF fx sd sr) (HRX.out _ (by assumption)).2.1 rfl (by rw [H24.out]; rfl) (by rw [H24.out]; exact size27) HONE.out ?_; intro w8 hr8 hch8 hs8))
          rw [jump_ret]
          refine ret_row rfl rfl hr8 Tryd.underlying27 rfl (by rw [H24.out]; exact size27) rfl ?_
          rw [HNQ.out]
          exact ⟨sd, sr, rfl, ((HRX.out _ c6).2.2.2.2.1.chg (hch8 (· = w.heap.size) _ (Chg.refl _ _) (fun _ => rfl)) (fun b hb e => by have e2 : b = w.heap.size := e; omega)).mono (fun b _ h => by omega), (HRX.out _ c6).1.chg (hch8 (· = w.heap.size) _ (Chg.refl _ _) (fun _ => rfl)) (by show ¬ _ = _; omega) (fun b hb e => by have := HTL.out b hb; have e2 : b = w.heap.size := e; omega), hch8 (· = r) w (HRX.out _ c6).2.2.1 (fun h => absurd h (by omega))⟩
      · have HNQ : Hid (NM = ({}, failSt 3 (sx, bx))) := by
          show _ = _
          rw [HNX.out, if_neg]
          exact fun h => hbx h.1
        have hb1 : (bx == 0) = false := by simpa using hbx
        have hb2 : decide (bx = 0) = false := by simpa using hbx
        clear HNX
        go_wp2_with (first | (go_at_call 27; refine Calls.mono (HBAD.out _ _ (HRX.out _ (by assumption)).1) ?_; rintro e w11 ⟨rfl, rfl⟩) | ((with_reducible show wpList _ _ _ (⟨_, .load 27 _, _, _, _, _⟩ :: _) _ _); refine wl27 rfl rfl rfl (HRX.out _ (by assumption)).2.2.2.1 H24.out ?_) | (go_at_call 16; refine Calls.mono HHAS.out ?_; rintro e w6 ⟨rfl, c6⟩; clear cX))
        go_step3
        simp only [Exit.then]
        refine jump_fwd ?_
        go_wp2_with (first | (go_at_call 28; refine Calls.mono (HFAIL.out _ _ (HRX.out _ (by assumption)).1) ?_; rintro e w7 ⟨rfl, hs7, hc7⟩; have HS7 := Lib.hid hs7; have HR7 := Lib.hid ((HRX.out _ (by assumption)).2.1.chg hc7 (by show ¬ _ = _; omega)); have HC7 := Lib.hid ((HRX.out _ (by assumption)).2.2.1.trans hc7); clear hs7 hc7) | ((with_reducible show wpList _ _ _ (⟨_, .store 27 _ _, _, _, _, _⟩ :: _) _ _); refine wpList_store_Row rfl rfl rfl (xs := zeroF) HR7.out rfl rfl size27 rfl ?_; intro w8 hr8 hch8 hs8))
        rw [Exit.noGoto_ret]
        refine ret_row rfl rfl hr8 Tryd.underlying27 rfl size27 rfl ?_
        rw [HNQ.out]
        exact ⟨.slice none 0 0, .slice none 0 0, rfl, ⟨rfl, ⟨none, 0, rfl, Nat.zero_le _, View.none_ _ _ _⟩, ⟨none, 0, rfl, ⟨Nat.zero_le _, Nat.zero_le _⟩, View.none_ _ _ _⟩⟩, HS7.out.chg (hch8 (· = w.heap.size) w7 (Chg.refl _ _) (fun _ => rfl)) (by show ¬ _ = _; omega) (fun b hb e => by have := HTL.out b hb; have e2 : b = w.heap.size := e; omega), hch8 (· = r) w HC7.out (fun h => absurd h (by omega))⟩

/-- The frame that stands there, and the reader behind it. -/
theorem next_any (s : St) (r gm : Nat) (w : World) (Tr Tk : Nat → Prop) (hs : RdS w r Tr s) (hT : ¬ Tr r) (hTl : ∀ b, Tr b → b < w.heap.size) (hk : KindsAt w Tk gm) (hTk : ¬ Tk r) (hTkl : ∀ b, Tk b → b < w.heap.size) (hgm : gm ≠ r) :
    Calls Tryd.prog 26 #[.pointer (some ⟨r, 0, none⟩), .map (some gm)] w (NextPost w r Tr s) := by
  by_cases hb0 : (rdInt s).2.2 = 0
  · cases hkd : kdM (kindM (rdInt s).1) with
    | some d => exact next_some s r gm w Tr Tk hs hT hTl hk hTk hTkl hgm hb0 d hkd
    | none =>
      refine (next_none s r gm w Tr Tk hs hT hTl hk hTk hgm (rdInt_64 s hs.2) (.inr hkd)).mono ?_
      rintro e w' ⟨rfl, h1, h2⟩
      have hn : nextM s = ({}, failSt 3 (rdInt s).2) := by unfold nextM; rw [if_pos hb0, hkd]
      unfold NextPost
      rw [hn]
      exact ⟨_, _, rfl, ⟨rfl, ⟨none, 0, rfl, Nat.zero_le _, View.none_ _ _ _⟩, ⟨none, 0, rfl, ⟨Nat.zero_le _, Nat.zero_le _⟩, View.none_ _ _ _⟩⟩, h1, h2⟩
  · refine (next_none s r gm w Tr Tk hs hT hTl hk hTk hgm (rdInt_64 s hs.2) (.inl hb0)).mono ?_
    rintro e w' ⟨rfl, h1, h2⟩
    have hn : nextM s = ({}, failSt 3 (rdInt s).2) := by unfold nextM; rw [if_neg hb0]
    unfold NextPost
    rw [hn]
    exact ⟨_, _, rfl, ⟨rfl, ⟨none, 0, rfl, Nat.zero_le _, View.none_ _ _ _⟩, ⟨none, 0, rfl, ⟨Nat.zero_le _, Nat.zero_le _⟩, View.none_ _ _ _⟩⟩, h1, h2⟩
end Go.Proofs.YtlcffjmbfpdlbaaDoor
