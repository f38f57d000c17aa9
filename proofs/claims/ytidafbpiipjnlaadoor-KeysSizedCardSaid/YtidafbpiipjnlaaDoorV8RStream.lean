/- Layer 8 (aes): a text enciphered, the document's. -/
import Derived.Test.YtidafbpiipjnlaaDoorV8REnc
import Derived.Test.YtidafbpiipjnlaaDoorKA2
namespace Go.Proofs.YtidafbpiipjnlaaDoor
open Go.RowKit

section
variable {o : Oper} {a : Act} {w : World} {Q : Exit → Act → World → Prop}
theorem wp_append_own2 {K : Act → World → Prop} (s x : Operand) (t : TypeId)
    (ho : o.op = .call { callee := .builtin .append, args := #[s, x], argTypes := #[t, t] }) (ht : Tryd.prog.underlying t = some (.slice 5)) {base : Nat} {v : Value} {L M : List Nat} {T : Nat → Prop} {A : Option Addr} {m c : Nat}
    (hs : a.eval s = v) (hown : Owned w base v L) (hx : a.eval x = .slice A m c) (hv : View w T A m (u8s M)) (hlen : L.length + m ≤ 1000000) (hbase : base ≤ w.heap.size)
    (k : ∀ v' w', Owned w' base v' (L ++ M) → Chg (fun b => v.ownBlock = some b) w w' → (v'.ownBlock = v.ownBlock ∨ v'.ownBlock = some w.heap.size) → K (a.put o.dst v') w') : Oper.wp Tryd.prog o a w K Q := by
  obtain ⟨i0, hi, hz0, hz1, hz2⟩ := info_parts info5
  have hm : M.length = m := by have := hv.1; simpa using this
  refine wp_append_view s x t ho 5 i0 _ 1 ht hi hz0 hz1 hz2 rfl base v L.length (u8s L) hs hown T A m c (u8s M) hx hv (u8s_one _) (by unfold maxLen; omega) (by omega) hbase fun v' w' h2 h3 h4 => k v' w' ?_ (Chg.of_grown h3) h4
  have e : u8s L ++ u8s M = u8s (L ++ M) := by simp [u8s]
  rw [e] at h2
  unfold Owned
  rw [List.length_append, hm]
  exact h2
end
theorem Owned.low {w : World} {base b : Nat} {v : Value} {l : List Nat} (h : Owned w base v l) (hb : b ≤ base) : Owned w b v l := by
  refine ⟨h.1, ?_⟩
  rcases h.2 with h2 | ⟨g, cap, cur, h1, hg, h3⟩
  · exact .inl h2
  · exact .inr ⟨g, cap, cur, h1, Nat.le_trans hb hg, h3⟩
theorem streamN_upto (f : Nat → Nat) (k : Nat) : (List.range (k + 1)).map f = (List.range k).map f ++ [f k] := by rw [List.range_succ, List.map_append]; rfl

set_option maxRecDepth 100000 in
set_option maxHeartbeats 4000000 in
theorem rstream_own (key first : List Nat) (T : Nat → Prop) (A : Option Addr) (cap : Nat) (text : List Nat) (w : World) (hk : key.length = 16) (hkb : ∀ x ∈ key, x < 256) (hf : first.length = 16) (hfb : ∀ x ∈ first, x < 256) (hv : View w T A text.length (u8s text)) (hl : text.length ≤ 100000) (ht : ∀ x ∈ text, x < 256) :
    Calls Tryd.prog 51 #[.agg (u8s key).toArray, .agg (u8s first).toArray, .slice A text.length cap] w fun e w' => ∃ v, e = .returned v ∧ Owned w' w.heap.size v (streamN key first text) ∧ Chg none_ w w' := by
  have HK := Lib.hid hk
  have HF := Lib.hid hf
  have HLEN := Lib.hid hl
  have HTX := Lib.hid (fun i => getD_lt ht i (by decide : 0 < 256))
  have HVT := Lib.hid (hv.mono (T' := fun b => b < w.heap.size) (fun _ h _ => h))
  have HKEYS := Lib.hid (fun w => rkeys_any key w hk hkb)
  have HKN := Lib.hid (keysN_len key 176)
  have HXLA := Lib.hid (ctrN_len first hf)
  have HXBA := Lib.hid (ctrN_lt hfb)
  have HBLKA : Hid (∀ X, X.length = 16 → (∀ x ∈ X, x < 256) → ∀ w, Calls Tryd.prog 69 #[.agg (u8s (keysN key 176)).toArray, .agg (u8s sboxL).toArray, .agg (u8s X).toArray] w fun e w' => e = .returned (.agg (u8s (cipherN key X)).toArray) ∧ Chg none_ w w') := Lib.hid (fun X hX hXb w => rblock_any (keysN key 176) X w (keysN_len _ _) (keysN_lt hkb _) hX hXb)
  have HELA := Lib.hid (fun X => cipherN_len key X)
  have HEBA : Hid (∀ X, (∀ x ∈ X, x < 256) → ∀ i, (cipherN key X).getD i 0 < 256) := Lib.hid (fun X hX i => getD_lt (cipherN_lt hkb hX) i (by decide))
  obtain ⟨outL, hout⟩ : ∃ f : Nat → List Nat, ∀ k, f k = (List.range k).map (fun i => text.getD i 0 ^^^ padAt key first i) := ⟨_, fun _ => rfl⟩
  have HOUT := Lib.hid hout
  have HOLn : Hid (∀ k, (outL k).length = k) := Lib.hid (fun k => by rw [hout]; simp)
  have HOSA : Hid (∀ k, outL (k + 1) = outL k ++ [text.getD k 0 ^^^ padAt key first k]) := Lib.hid (fun k => by rw [hout, hout, streamN_upto])
  have HOE : Hid (outL text.length = streamN key first text) := Lib.hid (hout _)
  have HO0 : Hid (outL 0 = []) := Lib.hid (by rw [hout]; rfl)
  generalize keysN key 176 = KN at HKEYS HBLKA HKN
  clear hk hkb hf hfb hv hl ht hout
  go_enter Tryd.func51, Tryd.ntmps51
  go_wp2_with (first | ((with_reducible show wpList _ _ _ (⟨some 3, .box 26 _, _, _, _, _⟩ :: _) _ _); refine wpList_box_Row rfl rfl (u8s key) rfl ?_; intro w1 hr1 hc1 hs1; have HRK := Lib.hid hr1; have HGA := Lib.hid (show w.heap.size < w1.heap.size from hr1.lt); have HC1 := Lib.hid hc1; clear hr1 hc1 hs1) | ((with_reducible show wpList _ _ _ (⟨some 4, .box 26 _, _, _, _, _⟩ :: _) _ _); refine wpList_box_Row rfl rfl (u8s first) rfl ?_; intro w2 hr2 hc2 hs2; have HRF := Lib.hid hr2; have HGB := Lib.hid (show w1.heap.size < w2.heap.size from hr2.lt); have HC2 := Lib.hid (HC1.out.trans hc2); have HRK := Lib.hid (HRK.out.chg hc2 (fun h => h)); clear hr2 hc2 hs2) | (go_at_call 67; refine (rtable_any _).mono ?_; rintro e w3 ⟨rfl, hc3⟩; have HGC := Lib.hid (show w2.heap.size ≤ w3.heap.size from hc3.size); have HC3 := Lib.hid (HC2.out.trans hc3); have HRK := Lib.hid (HRK.out.chg hc3 (fun h => h)); have HRF := Lib.hid (HRF.out.chg hc3 (fun h => h)); clear hc3) | ((with_reducible show wpList _ _ _ (⟨some 7, .alloc 105, _, _, _, _⟩ :: _) _ _); refine wpList_alloc_Row rfl rfl (u8s (List.replicate 256 0)) zero31 ?_; intro w4 hr4 hc4 hs4; have HR4 := Lib.hid hr4; have HC4 := Lib.hid hc4; clear hr4 hc4 hs4) | ((with_reducible show wpList _ _ _ (⟨_, .store 105 (.tmp 7) _, _, _, _, _⟩ :: _) _ _); refine wpList_store_Row (xs := u8s sboxL) rfl rfl rfl (HR4.out) (rfl) (by rw [u8s_length, u8s_length, sboxL_len, List.length_replicate]) (by rw [u8s_length, sboxL_len]; exact size31) (u8s_oneA _) ?_; intro w5 hr5 hc5 hs5; have HRT := Lib.hid hr5; have hc5_ := hc5 none_ w3 HC4.out (fun h => absurd h (Nat.lt_irrefl _)); have HGD := Lib.hid (show w3.heap.size < w5.heap.size from hr5.lt); have HC5 := Lib.hid (HC3.out.trans hc5_); have HRK := Lib.hid (HRK.out.chg hc5_ (fun h => h)); have HRF := Lib.hid (HRF.out.chg hc5_ (fun h => h)); clear hc5_; clear hr5 hc5 hs5) | ((with_reducible show wpList _ _ _ (⟨some 15, .load 26 _, _, _, _, _⟩ :: _) _ _); refine wpList_load_Row rfl rfl rfl (HRK.out) Tryd.underlying26 rfl (by rw [u8s_length, HK.out]; exact size26) ?_) | ((with_reducible show wpList _ _ _ (⟨some 16, .load 105 _, _, _, _, _⟩ :: _) _ _); refine wpList_load_Row rfl rfl rfl (HRT.out) Tryd.underlying105 rfl (by rw [u8s_length, sboxL_len]; exact size31) ?_) | (go_at_call 68; refine (HKEYS.out _).mono ?_; rintro e w6 ⟨rfl, hc6⟩; have HGE := Lib.hid (show w5.heap.size ≤ w6.heap.size from hc6.size); have HC6 := Lib.hid (HC5.out.trans hc6); have HRF := Lib.hid (HRF.out.chg hc6 (fun h => h)); have HRT := Lib.hid (HRT.out.chg hc6 (fun h => h)); clear hc6) | ((with_reducible show wpList _ _ _ (⟨some 8, .alloc 108, _, _, _, _⟩ :: _) _ _); refine wpList_alloc_Row rfl rfl (u8s (List.replicate 176 0)) zero28 ?_; intro w7 hr7 hc7 hs7; have HR7 := Lib.hid hr7; have HC7 := Lib.hid hc7; clear hr7 hc7 hs7) | ((with_reducible show wpList _ _ _ (⟨_, .store 108 (.tmp 8) _, _, _, _, _⟩ :: _) _ _); refine wpList_store_Row (xs := u8s KN) rfl rfl rfl (HR7.out) (rfl) (by rw [u8s_length, u8s_length, HKN.out, List.length_replicate]) (by rw [u8s_length, HKN.out]; exact size28) (u8s_oneA _) ?_; intro w8 hr8 hc8 hs8; have HRW := Lib.hid hr8; have hc8_ := hc8 none_ w6 HC7.out (fun h => absurd h (Nat.lt_irrefl _)); have HGG := Lib.hid (show w6.heap.size < w8.heap.size from hr8.lt); have HC8 := Lib.hid (HC6.out.trans hc8_); have HRT := Lib.hid (HRT.out.chg hc8_ (fun h => h)); have HRF := Lib.hid (HRF.out.chg hc8_ (fun h => h)); clear hc8_; clear hr8 hc8 hs8))
  have HG := Lib.hid (show w.heap.size < w1.heap.size ∧ w1.heap.size < w2.heap.size ∧ w2.heap.size ≤ w3.heap.size ∧ w3.heap.size < w5.heap.size ∧ w5.heap.size ≤ w6.heap.size ∧ w6.heap.size < w8.heap.size from ⟨HGA.out, HGB.out, HGC.out, HGD.out, HGE.out, HGG.out⟩)
  clear HGA HGB HGC HGD HGE HGG HC2 HC3 HC4 HC5 HC6 HC7 HRK HR4 HR7
  have HC8w : Hid (Chg none_ w w8) := HC8
  go_loopw [9, 10, 11, 12, 13] (fun ov iv _ _ _ wr => ∃ (J I : Nat) (ov' : Value), I = 16 * J ∧ I ≤ text.length + 15 ∧ iv = .int .i64 I ∧ ov' = ov ∧ Owned wr w8.heap.size ov' (outL (min I text.length)) ∧ Row wr w1.heap.size 26 (u8s (ctrN first J)) ∧ Chg (· = w1.heap.size) w8 wr) (fun _ iv _ _ _ _ => text.length + 16 - (intOf iv).toNat)
  case atStart => exact ⟨0, 0, _, rfl, by omega, rfl, rfl, by rw [Nat.zero_min, HO0.out]; exact Owned.nil _ _, HRF.out, Chg.refl _ _⟩
  case round =>
    obtain ⟨J, I, ov, hJ, hI, rfl, rfl, hown, hrow, hch⟩ := hrel
    have HOWI := Lib.hid hown
    have HRFr := Lib.hid hrow
    have HCI := Lib.hid hch
    have HJ := Lib.hid hJ
    obtain ⟨wB, hwB⟩ : ∃ x, x = wr := ⟨_, rfl⟩
    subst hwB
    have q0 : (0 : Int) ≤ (I : Int) := by omega
    have hlen := HLEN.out
    by_cases hlt : I < text.length
    · have q1 : (I : Int) < (text.length : Int) := by omega
      have HILT := Lib.hid (show I < text.length ∧ I ≤ 100000 from ⟨hlt, by omega⟩)
      obtain ⟨X, hX⟩ : ∃ X, ctrN first J = X := ⟨_, rfl⟩
      have HXL : Hid (X.length = 16) := Lib.hid (by rw [← hX]; exact HXLA.out J)
      have HXB : Hid (∀ x ∈ X, x < 256) := Lib.hid (by rw [← hX]; exact HXBA.out J)
      have HBLK := Lib.hid (HBLKA.out X HXL.out HXB.out)
      have HEL := Lib.hid (HELA.out X)
      have HEB := Lib.hid (HEBA.out X HXB.out)
      have HPAD : Hid (∀ m, I ≤ m → m < I + 16 → padAt key first m = (cipherN key X).getD (m - I) 0) := Lib.hid (fun m h1 h2 => by rw [padAt, show m / 16 = J from by omega, show m % 16 = m - I from by omega, hX])
      rw [hX] at HRFr
      have HXE := Lib.hid hX
      generalize cipherN key X = E at HBLK HEL HEB HPAD
      have HRWr := Lib.hid (HRW.out.chg hch (by have := HG.out; omega))
      have HRTr := Lib.hid (HRT.out.chg hch (by have := HG.out; omega))
      have HSZI := Lib.hid (show w8.heap.size ≤ wB.heap.size from hch.size)
      have hmin : min I text.length = I := by omega
      rw [hmin] at HOWI
      clear hown hrow hch hX hmin hJ
      go_wp2_with (first | ((with_reducible show wpList _ _ _ (⟨some 24, .load 108 _, _, _, _, _⟩ :: _) _ _); refine wpList_load_Row rfl rfl rfl (HRWr.out) Tryd.underlying108 rfl (by rw [u8s_length, HKN.out]; exact size28) ?_) | ((with_reducible show wpList _ _ _ (⟨some 25, .load 105 _, _, _, _, _⟩ :: _) _ _); refine wpList_load_Row rfl rfl rfl (HRTr.out) Tryd.underlying105 rfl (by rw [u8s_length, sboxL_len]; exact size31) ?_) | ((with_reducible show wpList _ _ _ (⟨some 26, .load 26 _, _, _, _, _⟩ :: _) _ _); refine wpList_load_Row rfl rfl rfl (HRFr.out) Tryd.underlying26 rfl (by rw [u8s_length, HXL.out]; exact size26) ?_) | (go_at_call 69; refine (HBLK.out _).mono ?_; rintro e w10 ⟨rfl, hc10⟩; have HC10 := Lib.hid hc10; clear hc10) | ((with_reducible show wpList _ _ _ (⟨some 11, .alloc 26, _, _, _, _⟩ :: _) _ _); refine wpList_alloc_Row rfl rfl (u8s (List.replicate 16 0)) zero26 ?_; intro w11 hr11 hc11 hs11; have HR11 := Lib.hid hr11; have HC11 := Lib.hid hc11; clear hr11 hc11 hs11) | ((with_reducible show wpList _ _ _ (⟨_, .store 26 (.tmp 11) _, _, _, _, _⟩ :: _) _ _); refine wpList_store_Row (xs := u8s E) rfl rfl rfl (HR11.out) (rfl) (by rw [u8s_length, u8s_length, HEL.out, List.length_replicate]) (by rw [u8s_length, HEL.out]; exact size26) (u8s_oneA _) ?_; intro w12 hr12 hc12 hs12; have HR12 := Lib.hid hr12; have HC12 := Lib.hid (HC10.out.trans (hc12 none_ w10 HC11.out (fun h => absurd h (Nat.lt_irrefl _)))); clear hr12 hc12 hs12))
      have HOW0 := Lib.hid (HOWI.out.chg HC12.out (fun _ _ h => h))
      have HRF0 := Lib.hid (HRFr.out.chg HC12.out (fun h => h))
      have HSZE := Lib.hid (show wB.heap.size ≤ w10.heap.size from HC10.out.size)
      have HNE0 : Hid (∀ b, ov.ownBlock = some b → b ≠ w10.heap.size) := Lib.hid (fun b h e => by have h1 := (HOWI.out.lt h).1; have h2 := HSZE.out; omega)
      have HC12w := Lib.hid (HCI.out.trans (HC12.out.mono (fun _ _ h => h.elim)))
      have HLE := Lib.hid (show w10.heap.size < w12.heap.size from HR12.out.lt)
      clear HOWI HC10 HR11 HC11 HCI HRFr HRWr HRTr
      go_loopw [9, 12] (fun ov kv wr => ∃ (m : Nat) (ov' : Value), I ≤ m ∧ m ≤ I + 16 ∧ m ≤ text.length ∧ kv = .int .i64 m ∧ ov' = ov ∧ Owned wr w8.heap.size ov' (outL m) ∧ Hid (∀ b, ov'.ownBlock = some b → b ≠ w10.heap.size) ∧ Chg (fun b => w8.heap.size ≤ b ∧ b ≠ w10.heap.size) w12 wr) (fun _ kv _ => text.length - (intOf kv).toNat)
      case atStart => exact ⟨I, ov, Nat.le_refl _, by omega, by omega, rfl, rfl, HOW0.out, HNE0, Chg.refl _ _⟩
      case round =>
        clear HOW0 HNE0
        obtain ⟨m, ov, hm1, hm2, hm3, rfl, rfl, hown, HNE, hch⟩ := hrel
        have HOW := Lib.hid hown
        have HCm := Lib.hid hch
        by_cases hgo : m < I + 16 ∧ m < text.length
        · obtain ⟨hg1, hg2⟩ := hgo
          have g1 : (m : Int) < (I : Int) + 16 := by omega
          have g2 : (m : Int) < (text.length : Int) := by omega
          have g0 : (0 : Int) ≤ (m : Int) := by omega
          obtain ⟨d, hd⟩ : ∃ d, m - I = d := ⟨_, rfl⟩
          have d0 : (m : Int) - (I : Int) = (d : Int) := by omega
          have d1 : (0 : Int) ≤ (d : Int) := by omega
          have QD : Hid (IntKind.i64.wrap (d : Int) = (d : Int)) := Lib.hid (IntWalk.i64_in _ (by omega))
          have d2 : (d : Int) < 16 := by omega
          obtain ⟨bt, ot, hA, hbt, hbT, ct⟩ := ((HVT.out.chg HC8w.out (fun _ _ h => h)).chg (HC12w.out.andThen hch (fun b hb h => absurd h.1 (by omega))) (fun b hb h => by have := HG.out; omega)).at_ hg2
          have CE0 := Row.u8 (HR12.out.chg hch (fun h => h.2 rfl)) (i := d) (by rw [HEL.out]; omega)
          have hpd := HPAD.out m hm1 hg1
          rw [hd] at hpd
          have HOS0 := HOSA.out m
          rw [hpd] at HOS0
          have hxb := HTX.out m
          have hyb := HEB.out d
          have HLTE := Lib.hid (show w10.heap.size < wr.heap.size from Nat.lt_of_lt_of_le HLE.out hch.size)
          subst hA
          obtain ⟨x, hx⟩ : ∃ x, text.getD m 0 = x := ⟨_, rfl⟩
          obtain ⟨y, hy⟩ : ∃ y, E.getD d 0 = y := ⟨_, rfl⟩
          rw [hx] at ct HOS0 hxb
          rw [hy] at CE0 HOS0 hyb
          have HOS : Hid (outL (m + 1) = outL m ++ [x ^^^ y]) := Lib.hid HOS0
          have xx := u8_xor_nat x y hxb hyb
          have CT : Hid (∀ w', Chg (fun b => ov.ownBlock = some b) wr w' → w'.cell? ⟨bt, ot + m, none⟩ = some (.int .u8 (x : Int))) := Lib.hid (fun w' hc => by rw [hc.cell _ hbt (fun h => by have h1 := (HOW.out.lt h).2; have := HG.out; omega)]; exact ct)
          have CE : Hid (∀ w', Chg (fun b => ov.ownBlock = some b) wr w' → w'.cell? ⟨w10.heap.size, d, none⟩ = some (.int .u8 (y : Int))) := Lib.hid (fun w' hc => by rw [hc.cell _ HLTE.out (fun h => HNE.out _ h rfl)]; exact CE0)
          have HSZ := Lib.hid (show w8.heap.size ≤ wr.heap.size by have := HG.out; have := HLE.out; have := hch.size; have := HSZI.out; have := HSZE.out; omega)
          clear hown hch ct CE0 hpd HOS0 hd hx hy
          go_wp2
          refine wp_region_held_drew (S := fun w' => Chg (fun b => ov.ownBlock = some b) wr w') (by kernel_rfl) ((Chg.refl _ wr).drew) (fun hch0 => ?_)
          refine wpAnyH_take (i := 0) (v := ov) rfl (by kernel_rfl) (by kernel_rfl) (by kernel_rfl) (by first | exact fun _ _ _ h => h | exact fun _ _ _ h => nomatch h.1) (Or.inl ⟨by rfl, fun w_ hw_ => by go_simp⟩) hch0 ?_
          refine wpAnyH_take (i := 1) (v := .slice (some ⟨bt, ot, none⟩) text.length cap) rfl (by kernel_rfl) (by kernel_rfl) (by kernel_rfl) (by first | exact fun _ _ _ h => h | exact fun _ _ _ h => nomatch h.1) (Or.inl ⟨by rfl, fun w_ hw_ => by go_simp⟩) hch0 ?_
          refine wpAnyH_take (i := 2) (v := .int .i64 m) rfl (by kernel_rfl) (by kernel_rfl) (by kernel_rfl) (by first | exact fun _ _ _ h => h | exact fun _ _ _ h => nomatch h.1) (Or.inl ⟨by rfl, fun w_ hw_ => by go_simp⟩) hch0 ?_
          refine wpAnyH_take (i := 3) (v := .pointer (some ⟨bt, ot + m, none⟩)) rfl (by kernel_rfl) (by kernel_rfl) (by kernel_rfl) (by first | exact fun _ _ _ h => h | exact fun _ _ _ h => nomatch h.1) (Or.inl ⟨by rfl, fun w_ hw_ => by go_simp⟩) hch0 ?_
          try simp only [Act.put, List.setIfInBounds_toArray, List.set_cons_zero, List.set_cons_succ, List.getElem_toArray, List.getElem_cons_succ, List.getElem_cons_zero]
          refine wpAnyH_take (i := 4) (v := .int .u8 x) rfl (by kernel_rfl) (by kernel_rfl) (by kernel_rfl) (by first | exact fun _ _ _ h => h | exact fun _ _ _ h => nomatch h.1) (Or.inl ⟨by rfl, fun w_ hw_ => by have hh := CT.out w_ hw_; go_simp⟩) hch0 ?_
          refine wpAnyH_take (i := 5) (v := .int .i64 m) rfl (by kernel_rfl) (by kernel_rfl) (by kernel_rfl) (by first | exact fun _ _ _ h => h | exact fun _ _ _ h => nomatch h.1) (Or.inl ⟨by rfl, fun w_ hw_ => by go_simp⟩) hch0 ?_
          refine wpAnyH_take (i := 6) (v := .int .i64 I) rfl (by kernel_rfl) (by kernel_rfl) (by kernel_rfl) (by first | exact fun _ _ _ h => h | exact fun _ _ _ h => nomatch h.1) (Or.inl ⟨by rfl, fun w_ hw_ => by go_simp⟩) hch0 ?_
          refine wpAnyH_take (i := 7) (v := .int .i64 d) rfl (by kernel_rfl) (by kernel_rfl) (by kernel_rfl) (by first | exact fun _ _ _ h => h | exact fun _ _ _ h => nomatch h.1) (Or.inl ⟨by rfl, fun w_ hw_ => by go_simp; exact QD.out⟩) hch0 ?_
          try simp only [Act.put, List.setIfInBounds_toArray, List.set_cons_zero, List.set_cons_succ, List.getElem_toArray, List.getElem_cons_succ, List.getElem_cons_zero]
          refine wpAnyH_take (i := 8) (v := .pointer (some ⟨w10.heap.size, d, none⟩)) rfl (by kernel_rfl) (by kernel_rfl) (by kernel_rfl) (by first | exact fun _ _ _ h => h | exact fun _ _ _ h => nomatch h.1) (Or.inl ⟨by rfl, fun w_ hw_ => by go_simp⟩) hch0 ?_
          refine wpAnyH_take (i := 9) (v := .int .u8 y) rfl (by kernel_rfl) (by kernel_rfl) (by kernel_rfl) (by first | exact fun _ _ _ h => h | exact fun _ _ _ h => nomatch h.1) (Or.inl ⟨by rfl, fun w_ hw_ => by have hh := CE.out w_ hw_; go_simp⟩) hch0 ?_
          refine wpAnyH_take (i := 10) (v := .int .u8 (x ^^^ y : Nat)) rfl (by kernel_rfl) (by kernel_rfl) (by kernel_rfl) (by first | exact fun _ _ _ h => h | exact fun _ _ _ h => nomatch h.1) (Or.inl ⟨by rfl, fun w_ hw_ => by go_simp⟩) hch0 ?_
          try simp only [Act.put, List.setIfInBounds_toArray, List.set_cons_zero, List.set_cons_succ, List.getElem_toArray, List.getElem_cons_succ, List.getElem_cons_zero]
          refine wpAnyH_ready (rs := [11]) (by kernel_rfl) (by simp) ?_
          refine AllReadyH.cons rfl (fun K hK => ?_) AllReadyH.nil
          rw [if_pos (by rfl)]
          try simp only [List.getElem_toArray, List.getElem_cons_succ, List.getElem_cons_zero]
          refine wp_new_row (v := fun g => .slice (some ⟨g, 0, none⟩) 1 1) (e := 5) (cs := [.int .u8 (x ^^^ y : Nat)]) (fun w_ => by go_simp) ?_
          intro x1 hr1 hc1 hs1
          have hch1 : Chg (fun b => ov.ownBlock = some b) wr x1 := hch0.trans (hc1.mono (fun _ _ h => h.elim))
          have hown1 : Owned x1 w8.heap.size ov (outL m) := HOW.out.chg' (((Chg.refl none_ wr).drew).trans hc1) (fun _ _ h => h)
          refine hK.out _ _ hch1 (fun _ => ?_)
          clear hK K
          try simp only [Act.put, List.setIfInBounds_toArray, List.set_cons_zero, List.set_cons_succ]
          refine wpAnyH_ready (rs := [12]) (by kernel_rfl) (by simp) ?_
          refine AllReadyH.cons rfl (fun K hK => ?_) AllReadyH.nil
          rw [if_pos (by rfl)]
          try simp only [List.getElem_toArray, List.getElem_cons_succ, List.getElem_cons_zero]
          refine wp_append_own2 _ _ 24 rfl Tryd.underlying24 (base := w8.heap.size) (v := ov) (L := outL m) (M := [x ^^^ y]) (T := fun b => b = wr.drew.heap.size) (A := some ⟨wr.drew.heap.size, 0, none⟩) (m := 1) (c := 1) rfl hown1 rfl (View.all hr1 rfl rfl) (by rw [HOLn.out]; omega) (by have := hch1.size; have := HSZ.out; omega) ?_
          intro v2 x2 hown2 hc2 hob2
          have hch2 : Chg (fun b => ov.ownBlock = some b) wr x2 := hch1.trans hc2
          refine hK.out _ _ hch2 (fun _ => ?_)
          clear hK K
          try simp only [Act.put, List.setIfInBounds_toArray, List.set_cons_zero, List.set_cons_succ]
          refine wpAnyH_take (i := 13) (v := v2) rfl (by kernel_rfl) (by kernel_rfl) (by kernel_rfl) (by first | exact fun _ _ _ h => h | exact fun _ _ _ h => nomatch h.1) (Or.inl ⟨by rfl, fun w_ hw_ => by go_simp⟩) hch2 ?_
          try simp only [Act.put, List.setIfInBounds_toArray, List.set_cons_zero, List.set_cons_succ, List.getElem_toArray, List.getElem_cons_succ, List.getElem_cons_zero]
          refine wpAnyH_done (by kernel_rfl) ?_ _
          have hsz1 : wr.heap.size ≤ x1.heap.size := hch1.size
          rw [← HOS.out] at hown2
          go_wp2
          go_roundw
          case rel => exact ⟨m + 1, v2, by omega, by omega, by omega, by go_num, rfl, hown2, Lib.hid (fun b hb => by rcases hob2 with h | h
                                                                                                                     · exact HNE.out b (h ▸ hb)
                                                                                                                     · rw [h] at hb; injection hb with hb; have := HLTE.out; omega), HCm.out.andThen hch2 (fun b hb h => ⟨(HOW.out.lt h).2, HNE.out b h⟩)⟩
          case measure => simp [intOf] <;> omega
        · have hmm : m = min (I + 16) text.length := by omega
          have HMM : Hid (outL m = outL (min (I + 16) text.length)) := Lib.hid (by rw [hmm])
          have HOWm := Lib.hid hown
          have HRFm := Lib.hid (HRF0.out.chg hch (fun h => by have := HG.out; omega))
          have HCM := Lib.hid (HC12w.out.andThen hch (fun b hb h => absurd h.1 (by omega)))
          obtain ⟨wM, hwM⟩ : ∃ x, x = wr := ⟨_, rfl⟩
          subst hwM
          have HGOD : Hid ((¬ (m : Int) < (I : Int) + 16 ∧ decide ((m : Int) < (I : Int) + 16) = false ∧ ¬ (m : Int) < (text.length : Int) ∧ decide ((m : Int) < (text.length : Int)) = false) ∨ (¬ (m : Int) < (I : Int) + 16 ∧ decide ((m : Int) < (I : Int) + 16) = false ∧ (m : Int) < (text.length : Int) ∧ decide ((m : Int) < (text.length : Int)) = true) ∨ ((m : Int) < (I : Int) + 16 ∧ decide ((m : Int) < (I : Int) + 16) = true ∧ ¬ (m : Int) < (text.length : Int) ∧ decide ((m : Int) < (text.length : Int)) = false)) := Lib.hid (by
            simp only [decide_eq_true_eq, decide_eq_false_iff_not]
            omega)
          clear hown hch hmm hgo hm1 hm2 hm3
          rcases HGOD.out with ⟨hp1, hd1, hp2, hd2⟩ | ⟨hp1, hd1, hp2, hd2⟩ | ⟨hp1, hd1, hp2, hd2⟩
          all_goals
            clear HGOD
            go_wp2
            go_loopw [13] (fun jv wr => ∃ (n : Nat) (s' : List Nat), n ≤ 4 ∧ jv = .int .i64 (11 + n : Nat) ∧ s'.length = 16 ∧ Hid (∀ x ∈ s', x < 256) ∧ Hid (incF s' n (11 + n) = oneMore X) ∧ Row wr w1.heap.size 26 (u8s s') ∧ Chg (· = w1.heap.size) wM wr) (fun jv _ => (intOf jv).toNat)
            case atStart => exact ⟨4, X, Nat.le_refl _, rfl, HXL.out, HXB, Lib.hid rfl, HRFm.out, Chg.refl _ _⟩
            case round =>
              obtain ⟨n, s', hn, rfl, hl, HB, HI, hrow, hch⟩ := hrel
              have HROW := Lib.hid hrow
              have HC := Lib.hid hch
              clear hch
              rcases n with _ | n
              · have HE : Hid (s' = oneMore X) := Lib.hid HI.out
                clear hrow
                go_wp2
                go_roundw
                case rel => exact ⟨J + 1, I + 16, ov, by have h1 := HJ.out; omega, by have h1 := HILT.out; omega, by go_num, rfl, by rw [← HMM.out]; exact HOWm.out.chg HC.out (fun b h e => by have h1 := HG.out; omega), by rw [show ctrN first (J + 1) = oneMore (ctrN first J) from rfl, HXE.out, ← HE.out]; exact HROW.out, HCM.out.trans HC.out⟩
                case measure => have h1 := HILT.out; simp [intOf] <;> omega
              · obtain ⟨i, hi⟩ : ∃ i, i = 11 + (n + 1) := ⟨_, rfl⟩
                have HI2 : Hid ((if (s'.getD i 0 + 1) % 256 = 0 then incF (s'.set i ((s'.getD i 0 + 1) % 256)) n (i - 1) else s'.set i ((s'.getD i 0 + 1) % 256)) = oneMore X) := Lib.hid (by rw [← HI.out, incF, hi])
                rw [← hi]
                have hi16 : i < 16 := by omega
                have hi12 : 12 ≤ i := by omega
                have HIN := Lib.hid hi
                clear hi HI
                have c1 := Row.u8 hrow (i := i) (by rw [hl]; exact hi16)
                have hf := hrow.frozen i
                have HV : Hid (((s'.getD i 0 + 1) % 256) < 256) := Lib.hid (Nat.mod_lt _ (by decide))
                have hx : s'.getD i 0 < 256 := getD_lt HB.out i (by decide)
                have HSET := Lib.hid (hrow.set i (.int .u8 (((s'.getD i 0 + 1) % 256 : Nat) : Int)))
                generalize s'.getD i 0 = x at c1 HI2 HSET HV hx
                clear hrow
                have HXV : Hid (((x : Int) + 1) % 256 = (((x + 1) % 256 : Nat) : Int)) := Lib.hid (by omega)
                have q0 : (0 : Int) ≤ (i : Int) := by omega
                have q1 : (i : Int) < 16 := by omega
                have q2 : (12 : Int) ≤ (i : Int) := by omega
                by_cases hz : (x + 1) % 256 = 0
                · rw [if_pos hz] at HI2
                  have hz2 : ((x : Int) + 1) % 256 = 0 := by omega
                  rw [hz] at HI2 HSET
                  clear hz hx
                  go_wp2
                  go_roundw
                  case rel => exact ⟨n, s'.set i 0, by omega, by congr 1; have := HIN.out; omega, by rw [List.length_set]; exact hl, Lib.hid (mem_set_lt HB.out i 0 (by decide)), Lib.hid (by rw [← HI2.out, HIN.out]; rfl), by rw [← u8s_set]; exact HSET.out, HC.out.setCell (fun _ => rfl) _⟩
                  case measure => simp [intOf] <;> omega
                · rw [if_neg hz] at HI2
                  have hz2 : (((x : Int) + 1) % 256 != 0) = true := by simp; omega
                  have HE := HI2
                  have HR8 : Hid (Row (wr.setCell ⟨w1.heap.size, i, none⟩ (.int .u8 (((x : Int) + 1) % 256))) w1.heap.size 26 (u8s (s'.set i ((x + 1) % 256)))) := Lib.hid (by rw [HXV.out, ← u8s_set]; exact HSET.out)
                  clear hx hz
                  go_wp2
                  go_roundw
                  case rel => exact ⟨J + 1, I + 16, ov, by have h1 := HJ.out; omega, by have h1 := HILT.out; omega, by go_num, rfl, by rw [← HMM.out]; exact HOWm.out.chg (HC.out.setCell (p := ⟨w1.heap.size, i, none⟩) (fun _ => rfl) (.int .u8 (((x : Int) + 1) % 256))) (fun b h e => by have h1 := HG.out; omega), by rw [show ctrN first (J + 1) = oneMore (ctrN first J) from rfl, HXE.out, ← HE.out]; exact HR8.out, HCM.out.trans (HC.out.setCell (fun _ => rfl) _)⟩
                  case measure => have h1 := HILT.out; simp [intOf] <;> omega
    · have hIl : min I text.length = text.length := by omega
      have q1 : ¬ (I : Int) < (text.length : Int) := by omega
      rw [hIl, HOE.out] at HOWI
      have HCE := Lib.hid (HC8w.out.andThen hch (fun b hb h => by have := HG.out; omega))
      have HSL := Lib.hid (streamN_len key first text)
      clear hown hrow hch hJ hI
      have HOWE := Lib.hid (HOWI.out.low (b := w.heap.size) (by have := HC8w.out.size; omega))
      obtain ⟨A', cap', e', _, _, _⟩ := HOWI.out.view
      rw [HSL.out] at e'
      subst e'
      go_wp2
      go_ret
      exact ⟨_, rfl, HOWE.out, HCE.out⟩
theorem rstream_any (key first : List Nat) (T : Nat → Prop) (A : Option Addr) (cap : Nat) (text : List Nat) (w : World) (hk : key.length = 16) (hkb : ∀ x ∈ key, x < 256) (hf : first.length = 16) (hfb : ∀ x ∈ first, x < 256) (hv : View w T A text.length (u8s text)) (hl : text.length ≤ 100000) (ht : ∀ x ∈ text, x < 256) :
    Calls Tryd.prog 51 #[.agg (u8s key).toArray, .agg (u8s first).toArray, .slice A text.length cap] w fun e w' => ∃ A' cap', e = .returned (.slice A' text.length cap') ∧ View w' (fun _ => True) A' text.length (u8s (streamN key first text)) ∧ Chg none_ w w' :=
  (rstream_own key first T A cap text w hk hkb hf hfb hv hl ht).mono fun e w' ⟨v, h1, h2, h3⟩ => by
    obtain ⟨A', cap', e', _, _, hv'⟩ := h2.view
    rw [streamN_len] at e' hv'
    subst e'
    exact ⟨A', cap', h1, hv'.mono (fun _ _ _ => trivial), h3⟩
end Go.Proofs.YtidafbpiipjnlaaDoor
