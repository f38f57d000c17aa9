/- Layer 3 (frames): Put. -/
import Derived.Test.YtlcffjmbfpdlbaaDoorV3Right
namespace Go.Proofs.YtlcffjmbfpdlbaaDoor
open Go.RowKit

/-- The parts that a frame is put by. -/
def partsOf (f : Fr) : List Part := match kdM (keyM f.kind) with | none => [] | some d => d.pf.parts (typM f)
def putAll (ps : List Part) (f : Fr) : List Nat := ps.flatMap fun p => putP p f
theorem putAll_snoc (ps : List Part) (p : Part) (f : Fr) : putAll (ps ++ [p]) f = putAll ps f ++ putP p f := by simp [putAll]
/-- A right frame's bytes; none of others. -/
def putM (f : Fr) : List Nat := if rightB f then encI (typM f) ++ putAll (partsOf f) f else []

theorem kd_fit : ∀ x ∈ kdL, ∀ t, ∀ p ∈ x.2.pf.parts t, (p = .zeros → x.2.fits = some 31) ∧ (p = .acked → x.2.fits = some 33) := by
  intro x hx t p hp
  simp only [kdL, List.mem_cons, List.not_mem_nil, or_false] at hx
  rcases hx with rfl | rfl | rfl | rfl | rfl | rfl | rfl | rfl | rfl | rfl | rfl | rfl | rfl | rfl | rfl | rfl | rfl | rfl | rfl | rfl
  all_goals simp only [PF.parts, ackParts, streamParts, closeParts] at hp
  all_goals refine ⟨fun h => ?_, fun h => ?_⟩
  all_goals subst h
  all_goals first | rfl | (exfalso; revert hp; (repeat' split) <;> simp) 
/-- A frame that has what its kind has has parts that can be put. -/
theorem fit_part {k : Nat} {d : KD} (hd : kdM k = some d) {f : Fr} (h : hasB d f = true) (t : Nat) (p : Part) (hp : p ∈ d.pf.parts t) : (p = .zeros → 1 ≤ f.a ∧ f.a ≤ 1200) ∧ (p = .acked → apart f.ranges) := by
  unfold kdM at hd
  simp only [Option.map_eq_some_iff] at hd
  obtain ⟨x, hx, rfl⟩ := hd
  have hm := kd_fit x (List.mem_of_find?_eq_some hx) t p hp
  simp only [hasB, Bool.and_eq_true] at h
  have h3 := h.2.2
  refine ⟨fun e => ?_, fun e => ?_⟩
  · rw [hm.1 e] at h3
    simpa [fitsB] using h3
  · rw [hm.2 e] at h3
    simpa [fitsB] using h3
theorem putP_len (p : Part) (f : Fr) (hd : f.data.length ≤ 1000000) (ht : f.tok.length = 16) (hz : p = .zeros → 1 ≤ f.a ∧ f.a ≤ 1200) (ha : p = .acked → apart f.ranges) : (putP p f).length ≤ 1000008 := by
  have hah := aheadM_len p f.data.length
  cases p
  case id => have := encI_len (getP .id f); simp only [putP]; omega
  case amount => have := encI_len (getP .amount f); simp only [putP]; omega
  case code => have := encI_len (getP .code f); simp only [putP]; omega
  case token => simp only [putP]; omega
  case zeros => have := hz rfl; simp only [putP, List.length_replicate]; omega
  case dropped => simp [putP]
  case acked =>
    have h16 := (ha rfl).2.1
    simp only [putP]
    cases hr : f.ranges with
    | nil => simp [ackBytes]
    | cons x xs =>
      rw [hr] at h16
      have h1 := encI_len x.2
      have h2 := encI_len f.b
      have h3 := encI_len xs.length
      have h4 := encI_len (x.2 - x.1)
      have h5 := ackRest_len xs x.1
      simp only [List.length_cons] at h16
      simp only [ackBytes, List.length_append]
      omega
  all_goals (simp only [putP, List.length_append]; omega)
theorem putAll_len (f : Fr) : ∀ (ps : List Part), (∀ p ∈ ps, (putP p f).length ≤ 1000008) → (putAll ps f).length ≤ 1000008 * ps.length
  | [], _ => Nat.zero_le _
  | p :: ps, h => by
    have h1 := putAll_len f ps (fun q hq => h q (by simp [hq]))
    have h2 := h p (by simp)
    simp only [putAll, List.flatMap_cons, List.length_append, List.length_cons] at h1 ⊢
    omega

/-- Bytes in memory of the call's own: they may be appended to. -/
def OwnNew (w : World) (l : List Nat) (e : Ending) (w' : World) : Prop := ∃ v, e = .returned v ∧ w'.ownsRow w.heap.size 5 1 v l.length (u8s l) ∧ Chg none_ w w'
theorem own_base {w : World} {b b' size n : Nat} {e : TypeId} {v : Value} {xs : List Value} (h : w.ownsRow b e size v n xs) (hb : b' ≤ b) : w.ownsRow b' e size v n xs := by
  refine ⟨h.1, ?_⟩
  rcases h.2 with h2 | ⟨g, cap, cur, h1, h2, h3⟩
  · exact .inl h2
  · exact .inr ⟨g, cap, cur, h1, Nat.le_trans hb h2, h3⟩
set_option maxRecDepth 100000 in
set_option maxHeartbeats 2000000 in
theorem Put_own (f : Fr) (sd sr : Value) (w : World) (T : Nat → Prop) (hT : Tab w) (hf : FrD w T f sd sr) (of : f.Ok) :
    Calls Tryd.prog 9 #[aggF f sd sr] w (OwnNew w (putM f)) := by
  have HFD := Lib.hid (hf.mono (T' := fun b => T b ∧ b < w.heap.size) (fun b hb h => ⟨h, hb⟩))
  have HOF := Lib.hid of
  have HTAB := Lib.hid hT
  have HCV := Lib.hid (keyM_wrap f.kind)
  obtain ⟨i0, hi, hz0, hz1, hz2⟩ := info_parts info5
  have c0 := cF_0 f sd sr
  have h24 := cF_len f sd sr hf.tok
  have HDL : Hid (f.data.length ≤ 1000000) := by obtain ⟨_, ⟨_, _, _, h, _⟩, _⟩ := hf; exact h
  have HPM : Hid (putM f = if (match kdM (keyM f.kind) with | none => false | some d => hasB d f) then encI (typM f) ++ putAll (match kdM (keyM f.kind) with | none => [] | some d => d.pf.parts (typM f)) f else []) := rfl
  generalize putM f = PM at *
  clear hf of hT
  have HTYP := Lib.hid (fun w' h0 h1 => typeOf_any f sd sr w' h0 h1)
  have HHASF := Lib.hid (fun d hd Tk kc w' h1 h2 h3 h4 => has_any d hd Tk kc f sd sr w' (fun b => T b ∧ b < w.heap.size) h1 h2 HOF.out h3 h4)
  have HPUT := Lib.hid (fun w' p Tp cs hp hT hf hz ha => put_part p f w' sd sr (fun b => T b ∧ b < w.heap.size) Tp cs hp hT hf HOF.out hz ha)
  unfold aggF at *
  generalize hcs : cellsF f sd sr = cs at *
  have H24 := Lib.hid h24
  have hRW := Row.new w 27 cs
  have hcW := (Chg.refl none_ w).alloc (.cells cs.toArray 27)
  clear hcs h24
  go_enter Tryd.func9, Tryd.ntmps9
  go_wp2
  generalize w.alloc (.cells cs.toArray 27) = W at *
  have HRW := Lib.hid hRW
  have HCW := Lib.hid hcW
  have hch0 : Chg none_ W W.drew := (Chg.refl none_ W).drew
  clear hRW hcW
  refine Code.wp_mono (Q := fun e a w' => e = .normal ∧ ∃ (g m : Nat) (u5 u10 : Value) (kc : List Value), a = ⟨#[.agg cs.toArray, .pointer (some ⟨w.heap.size, 0, none⟩), .slice none 0 0, .pointer (some ⟨g, 0, none⟩), .bool (kdM (keyM f.kind)).isSome, undef, undef, undef, undef, u5, .map (some m), .pointer (some ⟨w.heap.size, 0, none⟩), .int .i64 f.kind, .int .u64 (keyM f.kind), u10, .agg kc.toArray, .bool (kdM (keyM f.kind)).isSome, undef, undef, undef, undef, undef, undef, undef, undef, undef, undef, undef, undef, undef, undef, undef, undef, undef, undef, undef, undef, undef, undef, undef, undef, undef, undef, undef, undef, undef], []⟩ ∧ kc.length = 3 ∧ (∀ d, kdM (keyM f.kind) = some d → KindIs w' (fun b => b ≠ g) d kc) ∧ Row w' g 41 kc ∧ Chg none_ W w') ?hq ?_
  case hq =>
    rintro e a V ⟨rfl, g, m, u5, u10, kc, rfl, h3, hkd, hrg, hcw⟩
    have hkr := HRW.out.chg hcw (fun h => h)
    have HWW : Hid (Chg none_ w V) := HCW.out.trans hcw
    cases hkk : kdM (keyM f.kind) with
    | none =>
      rw [hkk] at HPM
      simp only [Option.isSome_none]
      clear hkr hrg hkd h3
      go_wp2
      go_ret
      rw [show PM = [] from HPM.out]
      exact ⟨_, rfl, World.ownsRow_nil _ _ _ _, HWW.out⟩
    | some d =>
      rw [hkk] at HPM
      simp only [Option.isSome_some]
      have hki := hkd d hkk
      have hgood := kdM_good hkk
      have hsm := keyM_small f.kind HOF.out.k0 HOF.out.k1 (kdM_lt hkk)
      have htM := typM_lt f (by omega)
      have HFIT := Lib.hid (fun h => fit_part (f := f) hkk h (typM f))
      have HPSL := Lib.hid (parts_len d hgood (typM f))
      have HHAS := Lib.hid (HHASF.out d hgood _ kc V hki (HFD.out.chg HWW.out (fun _ _ h => h)) hsm.1 hsm.2.1)
      have HTY := Lib.hid (fun w' => HTYP.out w' hsm.1 hsm.2.1)
      obtain ⟨pv, hpv, rfl⟩ := hki
      have hPD : ∀ w', Chg none_ V w' → Does pv #[.int .u64 (typM f)] w' (PartsNew w' (d.pf.parts (typM f))) := fun w' hc => parts_does d.pf pv (typM f) w' _ (hpv.chg hc (fun _ _ h => h)) (by omega) hgood.1
      obtain ⟨pn, pcap, hpve, hpeg, _⟩ := hPD V (Chg.refl _ _)
      have HPC : Hid (∀ w', Chg none_ V w' → Calls Tryd.prog pn (#[.int .u64 (typM f)] ++ pcap) w' (PartsNew w' (d.pf.parts (typM f)))) := fun w' hc => (hPD w' hc).anyw hpve
      have HROW : Hid (∀ w', Chg none_ V w' → Row w' w.heap.size 27 cs ∧ Row w' g 41 [Value.bool d.flagged, pv, fitsV d.fits] ∧ Chg none_ w w' ∧ Tab w') := fun w' hc => ⟨hkr.chg hc (fun h => h), hrg.chg hc (fun h => h), HWW.out.trans hc, HTAB.out.chg (HWW.out.trans hc) (fun h => h)⟩
      have HVS : Hid (w.heap.size < V.heap.size) := hkr.lt
      have k0 := hrg.cell 0
      have k1 := hrg.cell 1
      have k2 := hrg.cell 2
      simp at k0 k1 k2
      have cV : Chg none_ V V := Chg.refl _ _
      have HPM2 : Hid (PM = if hasB d f = true then encI (typM f) ++ putAll (d.pf.parts (typM f)) f else []) := HPM.out
      clear HPM
      clear hPD hpv hkd hkk hkr hrg hsm hgood h3 HHASF
      subst hpve
      generalize hasB d f = HB at *
      cases HB
      · go_wp2_with (first | ((with_reducible show wpList _ _ _ (⟨_, .load 27 _, _, _, _, _⟩ :: _) _ _); refine wl27 rfl rfl rfl (HROW.out _ (by assumption)).1 H24.out ?_) | (go_at_call 16; refine Calls.mono HHAS.out ?_; rintro e w5 ⟨rfl, c5⟩))
        go_ret
        rw [show PM = [] from HPM2.out]
        exact ⟨_, rfl, World.ownsRow_nil _ _ _ _, (HROW.out _ c5).2.2.1⟩
      · have hps := HPSL.out
        have HFT := Lib.hid (HFIT.out rfl)
        have HPE : Hid (PM = encI (typM f) ++ putAll (d.pf.parts (typM f)) f) := HPM2.out
        clear HPM2 HFIT
        generalize hpps : d.pf.parts (typM f) = ps at *
        have HTL := Lib.hid (encI_len (typM f))
        have HPUTV := Lib.hid (fun w' h => put_any (typM f) w' h)
        have HENC : Hid (wideB (typM f) (szN (typM f)) = encI (typM f)) := rfl
        clear hpps
        go_wp2_with (first | ((with_reducible show wpList _ _ _ (⟨_, .load 27 _, _, _, _, _⟩ :: _) _ _); refine wl27 rfl rfl rfl (HROW.out _ (by assumption)).1 H24.out ?_) | (go_at_call 16; refine Calls.mono HHAS.out ?_; rintro e w5 ⟨rfl, c5⟩) | (go_at_call 19; refine Calls.mono (HTY.out _) ?_; rintro e w6 ⟨rfl, hc6⟩; have c6 := c5.trans hc6; clear hc6) | (go_at_call 20; refine Calls.mono (HPUTV.out _ (HROW.out _ (by assumption)).2.2.2) ?_; rintro e w7 ⟨v7, rfl, hnb⟩; have HNB := Lib.hid hnb; have c7 := c6.trans hnb.1; have k1 := (HROW.out _ c7).2.1.cell 1; simp at k1; clear hnb) | (have _ := k1; refine Calls.mono (HPC.out _ (by assumption)) ?_; rintro e w8 ⟨A, cap, pcs, rfl, hpa, hpv8, hc8⟩; have HPA := Lib.hid hpa; have HPV := Lib.hid hpv8; have HC8 := Lib.hid hc8; clear hpa hpv8 hc8))
        have hsz6 : V.heap.size ≤ w6.heap.size := c6.size
        have hsz7 : w6.heap.size ≤ w7.heap.size := HNB.out.1.size
        have hsz8 : w7.heap.size ≤ w8.heap.size := HC8.out.size
        have hlen8 : (encI (typM f)).length ≤ 8 := HTL.out
        have HOWN : Hid (w8.ownsRow w6.heap.size 5 1 v7 (encI (typM f)).length (u8s (encI (typM f)))) := ownsRow_chg (own_of_new HNB.out (by show (encI (typM f)).length ≤ maxLen; unfold maxLen; omega)) HC8.out
        have HOB : Hid (∀ b, v7.ownBlock = some b → b < w7.heap.size) := fun b hb => ((own_of_new HNB.out (by show (encI (typM f)).length ≤ maxLen; unfold maxLen; omega)).lt b hb).2
        have HR8 : Hid (∀ w', Chg (fun b => w6.heap.size ≤ b ∧ b < w7.heap.size) w8 w' → Row w' w.heap.size 27 cs ∧ FrD w' (fun b => T b ∧ b < w.heap.size) f sd sr ∧ Tab w' ∧ Chg none_ w w') := fun w' hc => by
          obtain ⟨h1, _, h2, h3⟩ := HROW.out w8 (c7.trans HC8.out)
          have hvs := HVS.out
          have h4 : Chg none_ w w' := h2.andThen hc (fun b hb h => by omega)
          exact ⟨h1.chg hc (fun h => by omega), HFD.out.chg h4 (fun _ _ h => h), HTAB.out.chg h4 (fun h => h), h4⟩
        clear c5 c6 c7 k0 k1 k2 cV
        go_loopw [6, 34] (fun v i wr => ∃ k : Nat, k ≤ ps.length ∧ i = .int .i64 k ∧ wr.ownsRow w6.heap.size 5 1 v (encI (typM f) ++ putAll (ps.take k) f).length (u8s (encI (typM f) ++ putAll (ps.take k) f)) ∧ Hid (∀ b, v.ownBlock = some b → b < w7.heap.size ∨ w8.heap.size ≤ b) ∧ Chg (fun b => w6.heap.size ≤ b ∧ b < w7.heap.size) w8 wr) (fun _ i _ => ps.length - (intOf i).toNat)
        case atStart => exact ⟨0, Nat.zero_le _, rfl, by simpa [putAll] using HOWN.out, fun b hb => .inl (HOB.out b hb), Chg.refl _ _⟩
        case round =>
          obtain ⟨k, hk, rfl, hown, hob, hch⟩ := hrel
          have hrT : ∀ b, w7.heap.size ≤ b → ¬ (w6.heap.size ≤ b ∧ b < w7.heap.size) := fun b hb e => by omega
          by_cases hlt : k < ps.length
          · obtain ⟨b, o, x, y, z, rfl, hb, _, p0, p1, p2, hp, hx1, hy1⟩ := part_at (HPA.out.chg hch hrT) (HPV.out.chg hch hrT) k hlt
            have HTK : Hid (ps.take (k + 1) = ps.take k ++ [ps[k]]) := List.take_succ_eq_append_getElem hlt
            have hfit := HFT.out ps[k] (List.getElem_mem hlt)
            generalize ps[k] = p at *
            obtain ⟨_, hrow27, hfd8, htab8, hcw8⟩ : True ∧ _ := ⟨trivial, HR8.out wr hch⟩
            have HD : Hid (∀ w', Chg none_ wr w' → ∃ v, [x, y, z][0]? = some v ∧ Does v #[.agg cs.toArray] w' (BytesNew w' (putP p f))) := fun w' hc => HPUT.out w' p _ _ (hp.chg hc (fun _ _ h => h)) (htab8.chg hc (fun h => h)) (hfd8.chg hc (fun _ _ h => h)) hfit.1 hfit.2
            obtain ⟨v0, hv0, n, ycap, hve, hyeg, _⟩ := HD.out wr (Chg.refl _ _)
            have hxv : x = v0 := by simpa using hv0
            subst hxv
            have HE : Hid (∀ w', Chg none_ wr w' → Calls Tryd.prog n (#[.agg cs.toArray] ++ ycap) w' (BytesNew w' (putP p f))) := fun w' hc => by
              obtain ⟨v', h1, h2⟩ := HD.out w' hc
              have h3 : x = v' := by simpa using h1
              subst h3
              exact h2.anyw hve
            have hz1c : z.oneCell' = true := by
              obtain ⟨a1, a2, a3, he, h1c⟩ := hp.three
              exact h1c z (by simp)
            have HPL := Lib.hid (putP_len p f HDL.out HFD.out.tok hfit.1 hfit.2)
            have HAL := Lib.hid (putAll_len f (ps.take k) (fun q hq => putP_len q f HDL.out HFD.out.tok (HFT.out q (List.mem_of_mem_take hq)).1 (HFT.out q (List.mem_of_mem_take hq)).2))
            have hkl : (ps.take k).length = k := by rw [List.length_take]; omega
            have HBK : Hid ((encI (typM f) ++ putAll (ps.take k) f).length ≤ 100000808) := by
              have h1 := HAL.out
              have h2 := HTL.out
              rw [List.length_append]
              rw [hkl] at h1
              show _ ≤ _
              omega
            clear hv0 hp HD hkl hfit
            subst hve
            have hk0 : (0 : Int) ≤ (k : Int) := by omega
            have hk1 : (k : Int) < (ps.length : Int) := by omega
            have HCH := Lib.hid hch
            have HOW := Lib.hid hown
            have HRW8 := Lib.hid hrow27
            have HS8 : Hid (w8.heap.size ≤ wr.heap.size) := hch.size
            have HPEQ : Hid (encI (typM f) ++ putAll (ps.take (k + 1)) f = (encI (typM f) ++ putAll (ps.take k) f) ++ putP p f) := by show _ = _; rw [HTK.out, putAll_snoc, List.append_assoc]
            clear hown hch hrow27 hfd8 htab8 hcw8 HTK
            generalize encI (typM f) ++ putAll (ps.take k) f = pre at *
            generalize putP p f = new at *
            have hsy := fun (w : World) (a : Addr) => run_store Tryd.prog w a y .plain hy1
            have hsz := fun (w : World) (a : Addr) => run_store Tryd.prog w a z .plain hz1c
            have hst := fun (w : World) (a : Addr) (fn : Fn) (x y : Array Value) => run_store Tryd.prog w a (.func fn x y) .plain rfl
            clear hx1 hy1 hz1c
            go_wp2_with (first | ((with_reducible show wpList _ _ _ (⟨_, .load 27 _, _, _, _, _⟩ :: _) _ _); refine wl27 rfl rfl rfl (HRW8.out.alloc _) H24.out ?_) | (at_builtin; refine wpList_append_view rfl _ _ 23 rfl 5 i0 _ 1 Tryd.underlying23 hi hz0 hz1 hz2 rfl w6.heap.size _ pre.length (u8s pre) rfl (ownsRow_chg HOW.out hca4) (fun _ => True) A4 new.length c4 (u8s new) rfl (V4.out.mono (fun _ _ _ => trivial)) (u8s_one _) (by have := HBK.out; have := HPL.out; unfold maxLen; omega) (by have := HBK.out; have := HPL.out; omega) (by have := HS8.out; have := hca4.size; omega) ?_; intro v' w5 hown5 hgrow hob5) | (refine Calls.mono (HE.out _ ((Chg.refl none_ wr).alloc _)) ?_; rintro e w4 ⟨A4, c4, rfl, hv4, hc4⟩; have hca4 : Chg none_ wr w4 := ((Chg.refl none_ wr).alloc _).trans hc4; have V4 := Lib.hid hv4; clear hv4 hc4))
            have HOB4 := Lib.hid hob
            have HO5 := Lib.hid hown5
            have HOX := Lib.hid hob5
            have hS : Hid (Chg (fun b => w6.heap.size ≤ b ∧ b < w7.heap.size) w8 w5) := (HCH.out.andThen hca4 (fun _ _ h => h.elim)).grown hgrow (fun q hq hlt => by
              have h1 := hob.out q hq
              have h2 := (HOW.out.lt q hq).1
              show _ ∧ _
              omega)
            have HOBN : Hid (∀ b, v'.ownBlock = some b → b < w7.heap.size ∨ w8.heap.size ≤ b) := fun b hb => by
              have h8 := HS8.out
              have h9 := hca4.size
              rcases hob5 with h | h
              · exact hob.out b (h ▸ hb)
              · rw [h] at hb; injection hb with hb; omega
            clear hown5 hob5 hob hgrow hca4 hsy hsz hst
            go_wp2
            go_roundw
            case rel => exact ⟨k + 1, by omega, rfl, by rw [HPEQ.out, List.length_append, ← u8s_append']; exact HO5.out, HOBN, hS.out⟩
            case measure => simp [intOf]; omega
          · obtain rfl : k = ps.length := by omega
            have hlt' : ¬ ((ps.length : Nat) : Int) < ((ps.length : Nat) : Int) := by omega
            rw [List.take_length] at hown
            generalize encI (typM f) ++ putAll ps f = pre at *
            obtain ⟨A2, cap2, rfl, g1, g2, g3⟩ := View.own (T := fun b => w6.heap.size ≤ b) hown (fun _ h => h)
            have HC9 := Lib.hid (HR8.out wr hch).2.2.2
            have HOWE := Lib.hid hown
            have hB6 : w.heap.size ≤ w6.heap.size := by have := HVS.out; omega
            clear hown hob hch g1 g2 g3
            go_wp2
            go_ret
            rw [HPE.out]
            exact ⟨_, rfl, own_base HOWE.out hB6, HC9.out⟩
  refine wp_region_held_drew (S := fun w' => Chg none_ W w') (by kernel_rfl) hch0 (fun _ => ?_)
  refine wpAnyH_take (i := 1) (v := .pointer (some ⟨w.heap.size, 0, none⟩)) rfl (by kernel_rfl) (by kernel_rfl) (by kernel_rfl) (fun _ _ _ h => nomatch h.1) (Or.inl ⟨by rfl, fun w' hw' => by go_simp⟩) hch0 ?_
  refine wpAnyH_take (i := 2) (v := .int .i64 f.kind) rfl (by kernel_rfl) (by kernel_rfl) (by kernel_rfl) (fun _ _ _ h => nomatch h.1) (Or.inl ⟨by rfl, fun w' hw' => by have hh := ((HRW.out.chg hw' (fun h => h)).cell 0).trans c0; go_simp⟩) hch0 ?_
  refine wpAnyH_take (i := 3) (v := .int .u64 (keyM f.kind)) rfl (by kernel_rfl) (by kernel_rfl) (by kernel_rfl) (fun _ _ _ h => nomatch h.1) (Or.inl ⟨by rfl, fun w' hw' => by have hcv := HCV.out; go_simp⟩) hch0 ?_
  refine wpAnyH_ready (rs := [0, 8]) (by kernel_rfl) (by simp) ?_
  refine AllReadyH.cons rfl (fun K hK => ?_) (AllReadyH.cons rfl (fun K hK => ?_) AllReadyH.nil)
  · rw [if_pos (by rfl)]
    try simp only [List.getElem_toArray, List.getElem_cons_succ, List.getElem_cons_zero]
    go_simp
    refine (kinds_any _).mono ?_
    rintro e w1 ⟨rfl, hks, hc1⟩
    have hch1 : Chg none_ W w1 := (hch0).trans hc1
    refine hK.out _ _ hch1 (fun _ => ?_)
    clear hK K
    refine wpAnyH_ready (rs := [4, 8]) (by kernel_rfl) (by simp) ?_
    refine AllReadyH.cons rfl (fun K hK => ?_) (AllReadyH.cons rfl (fun K hK => ?_) AllReadyH.nil)
    · obtain ⟨kc, hlk, h3, h1c, hkd⟩ := look_kind hks (keyM f.kind)
      rw [if_pos (by rfl)]
      try simp only [List.getElem_toArray, List.getElem_cons_succ, List.getElem_cons_zero]
      refine wp_look_kind rfl rfl rfl hlk ?_
      clear hlk
      refine hK.out _ _ hch1 (fun _ => ?_)
      clear hK K
      try simp only [Act.put, List.setIfInBounds_toArray, List.set_cons_zero, List.set_cons_succ]
      refine wpAnyH_take (i := 5) (v := .tuple #[.agg kc.toArray, .bool (kdM (keyM f.kind)).isSome]) rfl (by kernel_rfl) (by kernel_rfl) (by kernel_rfl) (fun _ _ _ h => nomatch h.1) (Or.inl ⟨by rfl, fun w' hw' => by go_simp⟩) hch1 ?_
      refine wpAnyH_take (i := 6) (v := .agg kc.toArray) rfl (by kernel_rfl) (by kernel_rfl) (by kernel_rfl) (fun _ _ _ h => nomatch h.1) (Or.inl ⟨by rfl, fun w' hw' => by go_simp⟩) hch1 ?_
      refine wpAnyH_take (i := 7) (v := .bool (kdM (keyM f.kind)).isSome) rfl (by kernel_rfl) (by kernel_rfl) (by kernel_rfl) (fun _ _ _ h => nomatch h.1) (Or.inl ⟨by rfl, fun w' hw' => by go_simp⟩) hch1 ?_
      try simp only [Act.put, List.setIfInBounds_toArray, List.set_cons_zero, List.set_cons_succ, List.getElem_toArray, List.getElem_cons_succ, List.getElem_cons_zero]
      refine wpAnyH_ready (rs := [8]) (by kernel_rfl) (by simp) ?_
      refine AllReadyH.cons rfl (fun K hK => ?_) AllReadyH.nil
      rw [if_pos (by rfl)]
      try simp only [List.getElem_toArray, List.getElem_cons_succ, List.getElem_cons_zero]
      go_simp
      have hch2 : Chg none_ W _ := (hch1).alloc (.cells [Value.bool false, .nilFunc, .nilFunc].toArray 41)
      refine hK.out _ _ hch2 (fun _ => ?_)
      clear hK K
      try simp only [Act.put, List.setIfInBounds_toArray, List.set_cons_zero, List.set_cons_succ, List.getElem_toArray, List.getElem_cons_succ, List.getElem_cons_zero]
      have hrow := Row.new w1 41 [Value.bool false, .nilFunc, .nilFunc]
      have hsz1 := hch1.size
      have hkd2 : ∀ d, kdM (keyM f.kind) = some d → KindIs (w1.alloc (.cells [Value.bool false, .nilFunc, .nilFunc].toArray 41)) (fun b => b ≠ w1.heap.size) d kc := fun d hd => ((hkd d hd).mono (fun b hb _ => by omega)).chg ((Chg.refl none_ w1).alloc _) (fun _ _ h => h)
      refine wpAnyH_ready (rs := [9]) (by kernel_rfl) (by simp) ?_
      refine AllReadyH.cons rfl (fun K hK => ?_) AllReadyH.nil
      rw [if_pos (by rfl)]
      try simp only [List.getElem_toArray, List.getElem_cons_succ, List.getElem_cons_zero]
      refine wp_store_Row rfl rfl hrow rfl h3 (by rw [h3]; exact size47) h1c ?_
      intro w9 hr9 hch9
      have hc9 := hch9 none_ W hch2 (fun h => absurd h (by omega))
      refine hK.out _ _ hc9 (fun _ => ?_)
      clear hK K
      try simp only [Act.put]
      refine wpAnyH_take (i := 10) (v := .bool (kdM (keyM f.kind)).isSome) rfl (by kernel_rfl) (by kernel_rfl) (by kernel_rfl) (fun _ _ _ h => nomatch h.1) (Or.inl ⟨by rfl, fun w' hw' => by go_simp⟩) hc9 ?_
      refine wpAnyH_done (by kernel_rfl) ?_ _
      try simp only [Act.put, List.setIfInBounds_toArray, List.set_cons_zero, List.set_cons_succ, List.getElem_toArray, List.getElem_cons_succ, List.getElem_cons_zero]
      refine ⟨by first | rfl | trivial, w1.heap.size, W.drew.heap.size, _, _, kc, rfl, h3, ?_, hr9, hc9⟩
      intro d hd
      exact (hkd2 d hd).chg (hch9 (· = _) _ (Chg.refl _ _) (fun _ => rfl)) (fun b hb e => hb e)
    · rw [if_pos (by rfl)]
      try simp only [List.getElem_toArray, List.getElem_cons_succ, List.getElem_cons_zero]
      go_simp
      have hch2 : Chg none_ W _ := (hch1).alloc (.cells [Value.bool false, .nilFunc, .nilFunc].toArray 41)
      refine hK.out _ _ hch2 (fun _ => ?_)
      clear hK K
      refine wpAnyH_ready (rs := [4]) (by kernel_rfl) (by simp) ?_
      refine AllReadyH.cons rfl (fun K hK => ?_) AllReadyH.nil
      have hks2 : KindsAt (w1.alloc (.cells [Value.bool false, .nilFunc, .nilFunc].toArray 41)) (fun b => b < w1.heap.size) W.drew.heap.size := (hks.lift w1.heap.size (fun b hb _ => hb)).chg ((Chg.refl none_ w1).alloc _) (fun h => h) (fun _ _ h => h)
      obtain ⟨kc, hlk, h3, h1c, hkd⟩ := look_kind hks2 (keyM f.kind)
      rw [if_pos (by rfl)]
      try simp only [List.getElem_toArray, List.getElem_cons_succ, List.getElem_cons_zero]
      refine wp_look_kind rfl rfl rfl hlk ?_
      clear hlk
      refine hK.out _ _ hch2 (fun _ => ?_)
      clear hK K
      try simp only [Act.put, List.setIfInBounds_toArray, List.set_cons_zero, List.set_cons_succ]
      refine wpAnyH_take (i := 5) (v := .tuple #[.agg kc.toArray, .bool (kdM (keyM f.kind)).isSome]) rfl (by kernel_rfl) (by kernel_rfl) (by kernel_rfl) (fun _ _ _ h => nomatch h.1) (Or.inl ⟨by rfl, fun w' hw' => by go_simp⟩) hch2 ?_
      refine wpAnyH_take (i := 6) (v := .agg kc.toArray) rfl (by kernel_rfl) (by kernel_rfl) (by kernel_rfl) (fun _ _ _ h => nomatch h.1) (Or.inl ⟨by rfl, fun w' hw' => by go_simp⟩) hch2 ?_
      refine wpAnyH_take (i := 7) (v := .bool (kdM (keyM f.kind)).isSome) rfl (by kernel_rfl) (by kernel_rfl) (by kernel_rfl) (fun _ _ _ h => nomatch h.1) (Or.inl ⟨by rfl, fun w' hw' => by go_simp⟩) hch2 ?_
      try simp only [Act.put, List.setIfInBounds_toArray, List.set_cons_zero, List.set_cons_succ, List.getElem_toArray, List.getElem_cons_succ, List.getElem_cons_zero]
      have hrow := Row.new w1 41 [Value.bool false, .nilFunc, .nilFunc]
      have hsz1 := hch1.size
      have hkd2 : ∀ d, kdM (keyM f.kind) = some d → KindIs (w1.alloc (.cells [Value.bool false, .nilFunc, .nilFunc].toArray 41)) (fun b => b ≠ w1.heap.size) d kc := fun d hd => (hkd d hd).mono (fun b hb h => by omega)
      refine wpAnyH_ready (rs := [9]) (by kernel_rfl) (by simp) ?_
      refine AllReadyH.cons rfl (fun K hK => ?_) AllReadyH.nil
      rw [if_pos (by rfl)]
      try simp only [List.getElem_toArray, List.getElem_cons_succ, List.getElem_cons_zero]
      refine wp_store_Row rfl rfl hrow rfl h3 (by rw [h3]; exact size47) h1c ?_
      intro w9 hr9 hch9
      have hc9 := hch9 none_ W hch2 (fun h => absurd h (by omega))
      refine hK.out _ _ hc9 (fun _ => ?_)
      clear hK K
      try simp only [Act.put]
      refine wpAnyH_take (i := 10) (v := .bool (kdM (keyM f.kind)).isSome) rfl (by kernel_rfl) (by kernel_rfl) (by kernel_rfl) (fun _ _ _ h => nomatch h.1) (Or.inl ⟨by rfl, fun w' hw' => by go_simp⟩) hc9 ?_
      refine wpAnyH_done (by kernel_rfl) ?_ _
      try simp only [Act.put, List.setIfInBounds_toArray, List.set_cons_zero, List.set_cons_succ, List.getElem_toArray, List.getElem_cons_succ, List.getElem_cons_zero]
      refine ⟨by first | rfl | trivial, w1.heap.size, W.drew.heap.size, _, _, kc, rfl, h3, ?_, hr9, hc9⟩
      intro d hd
      exact (hkd2 d hd).chg (hch9 (· = _) _ (Chg.refl _ _) (fun _ => rfl)) (fun b hb e => hb e)
  · rw [if_pos (by rfl)]
    try simp only [List.getElem_toArray, List.getElem_cons_succ, List.getElem_cons_zero]
    go_simp
    have hch2 : Chg none_ W _ := (hch0).alloc (.cells [Value.bool false, .nilFunc, .nilFunc].toArray 41)
    refine hK.out _ _ hch2 (fun _ => ?_)
    clear hK K
    refine wpAnyH_ready (rs := [0]) (by kernel_rfl) (by simp) ?_
    refine AllReadyH.cons rfl (fun K hK => ?_) AllReadyH.nil
    rw [if_pos (by rfl)]
    try simp only [List.getElem_toArray, List.getElem_cons_zero]
    go_simp
    refine (kinds_any _).mono ?_
    rintro e w1 ⟨rfl, hks, hc1⟩
    have hch1 : Chg none_ W w1 := (hch2).trans hc1
    refine hK.out _ _ hch1 (fun _ => ?_)
    clear hK K
    refine wpAnyH_ready (rs := [4]) (by kernel_rfl) (by simp) ?_
    refine AllReadyH.cons rfl (fun K hK => ?_) AllReadyH.nil
    obtain ⟨kc, hlk, h3, h1c, hkd⟩ := look_kind hks (keyM f.kind)
    rw [if_pos (by rfl)]
    try simp only [List.getElem_toArray, List.getElem_cons_succ, List.getElem_cons_zero]
    refine wp_look_kind rfl rfl rfl hlk ?_
    clear hlk
    refine hK.out _ _ hch1 (fun _ => ?_)
    clear hK K
    try simp only [Act.put, List.setIfInBounds_toArray, List.set_cons_zero, List.set_cons_succ]
    refine wpAnyH_take (i := 5) (v := .tuple #[.agg kc.toArray, .bool (kdM (keyM f.kind)).isSome]) rfl (by kernel_rfl) (by kernel_rfl) (by kernel_rfl) (fun _ _ _ h => nomatch h.1) (Or.inl ⟨by rfl, fun w' hw' => by go_simp⟩) hch1 ?_
    refine wpAnyH_take (i := 6) (v := .agg kc.toArray) rfl (by kernel_rfl) (by kernel_rfl) (by kernel_rfl) (fun _ _ _ h => nomatch h.1) (Or.inl ⟨by rfl, fun w' hw' => by go_simp⟩) hch1 ?_
    refine wpAnyH_take (i := 7) (v := .bool (kdM (keyM f.kind)).isSome) rfl (by kernel_rfl) (by kernel_rfl) (by kernel_rfl) (fun _ _ _ h => nomatch h.1) (Or.inl ⟨by rfl, fun w' hw' => by go_simp⟩) hch1 ?_
    try simp only [Act.put, List.setIfInBounds_toArray, List.set_cons_zero, List.set_cons_succ, List.getElem_toArray, List.getElem_cons_succ, List.getElem_cons_zero]
    have hrow := (Row.new W.drew 41 [Value.bool false, .nilFunc, .nilFunc]).chg hc1 (fun h => h)
    have hsz1 : W.heap.size ≤ W.drew.heap.size := Nat.le_refl _
    have hkd2 : ∀ d, kdM (keyM f.kind) = some d → KindIs w1 (fun b => b ≠ W.drew.heap.size) d kc := fun d hd => (hkd d hd).mono (fun b _ h => by simp at h; show b ≠ W.heap.size; omega)
    refine wpAnyH_ready (rs := [9]) (by kernel_rfl) (by simp) ?_
    refine AllReadyH.cons rfl (fun K hK => ?_) AllReadyH.nil
    rw [if_pos (by rfl)]
    try simp only [List.getElem_toArray, List.getElem_cons_succ, List.getElem_cons_zero]
    refine wp_store_Row rfl rfl hrow rfl h3 (by rw [h3]; exact size47) h1c ?_
    intro w9 hr9 hch9
    have hc9 := hch9 none_ W hch1 (fun h => absurd h (by omega))
    refine hK.out _ _ hc9 (fun _ => ?_)
    clear hK K
    try simp only [Act.put]
    refine wpAnyH_take (i := 10) (v := .bool (kdM (keyM f.kind)).isSome) rfl (by kernel_rfl) (by kernel_rfl) (by kernel_rfl) (fun _ _ _ h => nomatch h.1) (Or.inl ⟨by rfl, fun w' hw' => by go_simp⟩) hc9 ?_
    refine wpAnyH_done (by kernel_rfl) ?_ _
    try simp only [Act.put, List.setIfInBounds_toArray, List.set_cons_zero, List.set_cons_succ, List.getElem_toArray, List.getElem_cons_succ, List.getElem_cons_zero]
    refine ⟨by first | rfl | trivial, W.drew.heap.size, _, _, _, kc, rfl, h3, ?_, hr9, hc9⟩
    intro d hd
    exact (hkd2 d hd).chg (hch9 (· = _) _ (Chg.refl _ _) (fun _ => rfl)) (fun b hb e => hb e)
theorem Put_any (f : Fr) (sd sr : Value) (w : World) (T : Nat → Prop) (hT : Tab w) (hf : FrD w T f sd sr) (of : f.Ok) :
    Calls Tryd.prog 9 #[aggF f sd sr] w (BytesNew w (putM f)) := by
  refine (Put_own f sd sr w T hT hf of).mono ?_
  rintro e w' ⟨v, rfl, ho, hc⟩
  obtain ⟨A, c, rfl, _, _, hv⟩ := View.own (T := fun b => w.heap.size ≤ b) ho (fun _ h => h)
  exact ⟨A, c, rfl, hv, hc⟩
end Go.Proofs.YtlcffjmbfpdlbaaDoor
