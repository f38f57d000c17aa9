/- Layer 15 (ledger): the law LedgerActs. -/
import Derived.Test.YtakoeamfmmbdiaaV15Both2
import Derived.Test.YtakoeamfmmbdiaaV15Alive
import Derived.Test.YtakoeamfmmbdiaaV15Few
import Derived.Test.YtakoeamfmmbdiaaHeldMore
namespace Go.Proofs.Ytakoeamfmmbdiaa
open Go.RowKit

theorem zeroRL : (Try.prog.info? 48).map (·.zero) = some (some (.agg #[.slice none 0 0, .int .i64 0, .int .i64 0])) := by kernel_rfl
theorem zeroLa : (Try.prog.info? 51).map (·.zero) = some (some (.agg (lac la0).toArray)) := by kernel_rfl
theorem sizeLa : (Try.prog.info? 51).map (·.size) = some 8 := by kernel_rfl
theorem Jt.start {w : World} {n0 g r : Nat} (h1 : Row w g 46 [.slice none 0 0, .int .i64 0, .int .i64 0]) (h2 : Row w r 48 [.slice none 0 0, .int .i64 0, .int .i64 0]) (hg : n0 ≤ g) (hr : n0 ≤ r) (hne : g ≠ r) :
    Jt w n0 g r none_ [] 0 0 [] 0 0 :=
  ⟨fun _ => False, .slice none 0 0, [], fun _ => False, none, 0, [], ⟨h1, OwnN.nil _ _ _ _ _, fun x hx => (nomatch hx), fun _ h => h.elim, fun _ h => h.elim, fun _ h => h.elim, fun e => (nomatch e)⟩, ⟨h2, Nat.le_refl _, View.none_ _ _ _, fun x hx => (nomatch hx), fun _ h => h.elim⟩, rfl, rfl,
    ⟨fun s hs => (nomatch hs), by decide, by decide, by decide⟩, ⟨fun s hs => (nomatch hs), by decide, by decide, by decide⟩, ⟨hg, hr, hne, by have := h1.lt; omega⟩, fun _ h => h.elim, fun e => (nomatch e), fun _ h => h.elim, fun _ h => h.elim⟩

theorem flNs_le' (S : List Sn) : flNs S ≤ S.length := List.length_filter_le _ _
theorem flBs_le' (S : List Sn) (h : ∀ s ∈ S, s.size ≤ 1200) : flBs S ≤ 1200 * S.length := by
  have e : ∀ (l : List Sn) (b : Nat), (∀ s ∈ l, s.size ≤ 1200) → l.foldl (fun b s => b + s.size.toNat) b ≤ b + 1200 * l.length := by
    intro l
    induction l with
    | nil => intro b _; simp
    | cons y l ih =>
      intro b hs
      rw [List.foldl_cons]
      have h1 := ih (b + y.size.toNat) (fun z hz => hs z (by simp [hz]))
      have h2 := hs y (by simp)
      simp only [List.length_cons]
      omega
  have h1 := e (S.filter (fun s => s.ask)) 0 (fun s hs => h s (List.mem_filter.1 hs).1)
  have h2 := List.length_filter_le (fun s : Sn => s.ask) S
  unfold flBs
  omega

set_option maxRecDepth 100000 in
set_option maxHeartbeats 8000000 in
theorem walk_LedgerActs (l : List La) (A : Option Addr) (c : Nat) (w : World) (_hb : l.length ≤ c ∧ c ≤ maxLen) (hv : View w (fun _ => True) A (l.length * 8) (l.flatMap lac)) (hi : ∀ x ∈ l, LaI w x) :
    Calls Try.prog 3 #[.slice A l.length c] w fun e w' => e = .returned (.bool true) ∧ Chg none_ w w' := by
  have HAL := Lib.hid (fun W => alive_any W)
  have HV := Lib.hid hv
  have HI := Lib.hid hi
  have HFW : Hid (∀ W, Chg none_ w W → Calls Try.prog 8 #[.slice A l.length c] W fun e w' => e = .returned (.bool (fewB l)) ∧ W = w') := Lib.hid (fun W hc => few_any l A c W (hv.chg hc (fun _ _ h => h)) (fun x hx => (hi x hx).chg hc))
  clear hv hi
  cases hf : fewB l with
  | false =>
    rw [hf] at HFW
    clear hf
    go_enter Try.func3, Try.ntmps3
    go_wp2_with (first | ((with_reducible show Calls _ 7 _ _ _); refine (HAL.out _).mono ?_; rintro e wv ⟨rfl, hc⟩; have HCV := Lib.hid hc; clear hc) | ((with_reducible show Calls _ 8 _ _ _); refine (HFW.out _ HCV.out).mono ?_; rintro e wf ⟨rfl, rfl⟩; skip))
    go_ret
    exact ⟨rfl, HCV.out⟩
  | true =>
    rw [hf] at HFW
    have HF := Lib.hid ((fewB_iff l).1 hf)
    have hlen := HF.out.len
    have HNS := Lib.hid (fun W => Send_nil it0 W)
    have HNA := Lib.hid (fun W => Ack_nil none 0 0 W)
    have HNL := Lib.hid (fun W => Last_nil W)
    have HNO := Lib.hid (fun W => Lost_nil 0 0 W)
    have HNI := Lib.hid (fun W => (List_nil W).mono (fun _ _ q => And.intro q.1 q.2.symm))
    have HND := Lib.hid (fun W => Drop_nil W)
    have HNU := Lib.hid (fun W => (Due_nil 0 W).mono (fun _ _ q => And.intro q.1 q.2.symm))
    have HNF : Hid (∀ W, Calls Try.prog 16 #[.pointer none] W fun e w' => e = .returned (.complex .f64 0 0) ∧ W = w') := Lib.hid (fun W => (Flight_nil W).mono (fun _ _ q => And.intro (by rw [q.1, dbl_zero]) q.2.symm))
    have HNN := Lib.hid (fun W => (Next_nil W).mono (fun _ _ q => And.intro q.1 q.2.symm))
    have HNK := Lib.hid (fun W => (Acked_nil W).mono (fun _ _ q => And.intro q.1 q.2.symm))
    clear hf
    go_enter Try.func3, Try.ntmps3
    go_wp2_with (first | ((with_reducible show Calls _ 7 _ _ _); refine (HAL.out _).mono ?_; rintro e wv ⟨rfl, hc⟩; have HCV := Lib.hid hc; clear hc) | ((with_reducible show Calls _ 8 _ _ _); refine (HFW.out _ HCV.out).mono ?_; rintro e wf ⟨rfl, rfl⟩; skip) | ((with_reducible show Calls _ 9 _ _ _); refine (HNS.out _).mono ?_; rintro e m1 ⟨rfl, hc⟩; have HM1 := Lib.hid (HCV.out.trans hc); clear hc) | ((with_reducible show Calls _ 10 _ _ _); refine (HNA.out _).mono ?_; rintro e m2 ⟨rfl, hc⟩; have HM2 := Lib.hid (HM1.out.trans hc); clear hc) | ((with_reducible show Calls _ 11 _ _ _); refine (HNL.out _).mono ?_; rintro e m3 ⟨rfl, hc⟩; have HM3 := Lib.hid (HM2.out.trans hc); clear hc) | ((with_reducible show Calls _ 12 _ _ _); refine (HNO.out _).mono ?_; rintro e m4 ⟨rfl, hc⟩; have HM4 := Lib.hid (HM3.out.trans hc); clear hc) | ((with_reducible show Calls _ 13 _ _ _); refine (HNI.out _).mono ?_; rintro e m5 ⟨rfl, rfl⟩; skip) | ((with_reducible show Calls _ 14 _ _ _); refine (HND.out _).mono ?_; rintro e m6 ⟨rfl, hc⟩; have HM6 := Lib.hid (HM4.out.trans hc); clear hc) | ((with_reducible show Calls _ 15 _ _ _); refine (HNU.out _).mono ?_; rintro e m7 ⟨rfl, rfl⟩; skip) | ((with_reducible show Calls _ 16 _ _ _); refine (HNF.out _).mono ?_; rintro e m8 ⟨rfl, rfl⟩; skip) | ((with_reducible show Calls _ 17 _ _ _); refine (HNN.out _).mono ?_; rintro e m9 ⟨rfl, rfl⟩; skip) | ((with_reducible show Calls _ 18 _ _ _); refine (HNK.out _).mono ?_; rintro e m0 ⟨rfl, rfl⟩; skip) | ((with_reducible show wpList _ _ _ (⟨some 10, .alloc _, _, _, _, _⟩ :: _) _ _); refine wpList_alloc_Row rfl rfl [.slice none 0 0, .int .i64 0, .int .i64 0] zeroLg ?_; intro w1 hr1 hc1 hs1; have HR1 := Lib.hid hr1; have HC1 := Lib.hid (HM6.out.trans hc1); have HS1 := Lib.hid hs1; clear hr1 hc1 hs1) | ((with_reducible show wpList _ _ _ (⟨some 11, .alloc _, _, _, _, _⟩ :: _) _ _); refine wpList_alloc_Row rfl rfl [.slice none 0 0, .int .i64 0, .int .i64 0] zeroRL ?_; intro w2 hr2 hc2 hs2; have HR2 := Lib.hid hr2; have HC2 := Lib.hid (HC1.out.trans hc2); have HR3 := Lib.hid (HR1.out.chg hc2 (fun h => h)); have HS2 := Lib.hid hs2; clear hr2 hc2 hs2))
    have HG0 : Hid (w.heap.size ≤ m6.heap.size) := Lib.hid HM6.out.size
    have HJ : Hid (Jt w2 m6.heap.size m6.heap.size w1.heap.size none_ [] 0 0 [] 0 0) := Lib.hid (Jt.start HR3.out HR2.out (Nat.le_refl _) (by rw [HS1.out]; omega) (by rw [HS1.out]; omega))
    clear HR1 HR2 HR3 HC1 HS1 HS2 HM1 HM2 HM3 HM4 HM6 HCV HAL HFW HNS HNA HNL HNO HNI HND HNU HNF HNN HNK
    generalize m6.heap.size = g at *
    generalize w1.heap.size = r at *
    go_loopw [12] (fun i wr => ∃ (j : Nat) (P : List Sn) (n a : Nat), i = .int .i64 (j : Int) ∧ j ≤ l.length ∧ n ≤ j ∧ Hid (Jt wr g g r none_ P n a P n a) ∧ Hid (Chg none_ w wr)) (fun i _ => l.length - (intOf i).toNat)
    case atStart => exact ⟨0, [], 0, 0, rfl, Nat.zero_le _, Nat.le_refl _, HJ, HC2⟩
    case round =>
      clear HJ HC2
      obtain ⟨j, P, n, a, rfl, hj, hn, HJ, HC⟩ := hrel
      by_cases hlt : j < l.length
      · have k1 : (j : Int) < (l.length : Int) := by omega
        have k0 : (0 : Int) ≤ (j : Int) := by omega
        obtain ⟨b, o, rfl, hb, _, hra⟩ := HV.out.elemAt lac_len (by decide) la0 hlt
        have hmx : l.getD j la0 ∈ l := getD_mem la0 hlt
        have hr := hra j hlt
        obtain ⟨x, hx⟩ : ∃ x, l.getD j la0 = x := ⟨_, rfl⟩
        rw [hx] at hr hmx
        have HXI := Lib.hid (HI.out x hmx)
        have hfx := HF.out.r x hmx
        have HXD : Hid (∀ y, Chg none_ w y → ItD y (fun b => b < g) x.p) := Lib.hid (fun y hy => ((HXI.out.p.small hfx.2 (HF.out.f x hmx)).mono (fun b hb _ => Nat.lt_of_lt_of_le hb HG0.out)).chg hy (fun _ _ h => h))
        have HRV : Hid (∀ y, Chg none_ w y → View y (fun b => b < g) x.rA (x.r.length * 2) (x.r.flatMap rgc)) := Lib.hid (fun y hy => (HXI.out.view.mono (fun b hb _ => Nat.lt_of_lt_of_le hb HG0.out)).chg hy (fun _ _ h => h))
        have HXT : Hid (x.d < 18446744073709551616 ∧ x.p.at_ < 18446744073709551616) := Lib.hid ⟨HXI.out.d, HXI.out.p.lt⟩
        have HRA : Hid (wr.rangeAt b (o + j * 8) (lac x)) := Lib.hid (rangeAt_keep hr HC.out hb (fun h => h))
        have hrl := hfx.1
        have HRQ : Hid (x.r.length ≤ 20) := Lib.hid hrl
        clear hra hr hx hmx hb hfx hrl
        by_cases hk0 : x.kind = 0
        · have q0 : (x.kind == 0) = true := by simpa using hk0
          as_aux_lemma =>
            have HSA : Hid (∀ y, Jt y g g r (fun b => b = wr.heap.size) P n a P n a → Chg none_ w y → Calls Try.prog 9 #[.pointer (some ⟨g, 0, none⟩), .agg (itc x.p).toArray] y fun e w' => e = .returned (.tuple #[.int .i64 (sndV P n x.p).1, .int .i64 (sndV P n x.p).2]) ∧ Jt w' g g r (fun b => b = wr.heap.size) (sndP P n x.p).1 (sndP P n x.p).2 a P n a ∧ Chg (Sj g (fun b => b = wr.heap.size)) y w') := Lib.hid (fun y h1 h2 => sSend h1 (HXD.out y h2) (by omega))
            have HSB : Hid (∀ y, Jt y g g r (fun b => b = wr.heap.size) (sndP P n x.p).1 (sndP P n x.p).2 a P n a → Chg none_ w y → Calls Try.prog 19 #[.pointer (some ⟨r, 0, none⟩), .agg (itc x.p).toArray] y fun e w' => e = .returned (.tuple #[.int .i64 (sndV P n x.p).1, .int .i64 (sndV P n x.p).2]) ∧ Jt w' g g r (fun b => b = wr.heap.size) (sndP P n x.p).1 (sndP P n x.p).2 a (sndP P n x.p).1 (sndP P n x.p).2 a ∧ Chg (· = r) y w') := Lib.hid (fun y h1 h2 => sRSend h1 (HXD.out y h2) (by omega))
            have hn1 : (sndP P n x.p).2 ≤ j + 1 := Nat.le_trans (sndP_le P n x.p) (by omega)
            generalize (sndV P n x.p).1 = v1 at *
            generalize (sndV P n x.p).2 = v2 at *
            generalize (sndP P n x.p).1 = P1 at *
            generalize (sndP P n x.p).2 = n1 at *
            clear hk0
            go_wp2_with (first | ((with_reducible show wpList _ _ _ (⟨some 101, .load _ _, _, _, _, _⟩ :: _) _ _); refine wpList_load_Mid (cs := lac x) rfl rfl rfl HRA.out Try.underlying51 rfl sizeLa ?_) | ((with_reducible show wpList _ _ _ (⟨some 13, .alloc _, _, _, _, _⟩ :: _) _ _); refine wpList_alloc_Row rfl rfl (lac la0) zeroLa ?_; intro w3 hr3 hc3 hs3; have HR3 := Lib.hid hr3; have HC3 := Lib.hid hc3; have HS3 := Lib.hid hs3; clear hr3 hc3 hs3) | ((with_reducible show wpList _ _ _ (⟨none, .store _ _ _, _, _, _, _⟩ :: _) _ _); refine wpList_store_Row (xs := lac x) rfl rfl rfl HR3.out rfl rfl sizeLa (lac_one x) ?_; intro w4 hr4 hc4 hs4; have HB := Lib.hid hr4; have HC4 := Lib.hid (hc4 none_ wr HC3.out (fun h => absurd h (Nat.lt_irrefl _))); have HJ := Lib.hid (HJ.out.fresh HC4.out (by rw [hs4, HS3.out]; omega)); have HC := Lib.hid (HC.out.trans HC4.out); have c0 : w4.cell? ⟨wr.heap.size, 0, none⟩ = some (.int .i64 x.kind) := HB.out.cell 0; skip; clear hr4 hc4 hs4) | ((with_reducible show wpList _ _ _ (⟨some 108, .load _ _, _, _, _, _⟩ :: _) _ _); refine wpList_load_Mid (cs := itc x.p) rfl rfl rfl (HB.out.rangeMid 1 _ (lac_mid x)) Try.underlying32 rfl sizeS ?_) | ((with_reducible show wpList _ _ _ (⟨some 114, .load _ _, _, _, _, _⟩ :: _) _ _); refine wpList_load_Mid (cs := itc x.p) rfl rfl rfl (HB.out.rangeMid 1 _ (lac_mid x)) Try.underlying32 rfl sizeS ?_) | ((with_reducible show Calls _ 9 _ _ _); refine (HSA.out _ HJ.out HC.out).mono ?_; rintro e w5 ⟨rfl, hj, hc⟩; have HJ := Lib.hid hj; have HB := Lib.hid (HB.out.chg hc (fun h => h.2 rfl)); have HC := Lib.hid (HC.out.andThen hc (fun b hb h => absurd h.1 (by have h2 := HG0.out; omega))); clear hj hc) | ((with_reducible show Calls _ 19 _ _ _); refine (HSB.out _ HJ.out HC.out).mono ?_; rintro e w6 ⟨rfl, hj, hcr⟩; have hc := HJ.out.rS hcr; have HJ := Lib.hid hj; have HB := Lib.hid (HB.out.chg hc (fun h => h.2 rfl)); have HC := Lib.hid (HC.out.andThen hc (fun b hb h => absurd h.1 (by have h2 := HG0.out; omega))); clear hj hc hcr) | ((with_reducible show Calls _ 23 _ _ _); refine (jRFlight HJ.out).mono ?_; rintro e wf ⟨rfl, rfl⟩; skip) | ((with_reducible show Calls _ 11 _ _ _); refine (jLast HJ.out).mono ?_; rintro e w8 ⟨rfl, hc⟩; have HJ := Lib.hid (HJ.out.quiet hc); have HB := Lib.hid (HB.out.chg hc (fun h => h)); have HC := Lib.hid (HC.out.trans hc); clear hc) | ((with_reducible show Calls _ 24 _ _ _); refine (jRLast HJ.out).mono ?_; rintro e wf ⟨rfl, rfl⟩; skip))
            obtain ⟨AL, cl, mL, hrow, hans, hmp⟩ := jL HJ.out
            have hok := HJ.out.ok.1
            have ha0 : (0 : Int) ≤ (a : Int) := by omega
            have ha1 : (a : Int) ≤ 1000000 := by have h1 := hok.above; have h2 := hok.next; omega
            have HRO := Lib.hid hrow
            have HAN := Lib.hid hans
            have HMP := Lib.hid hmp
            have HL0 : Hid (∀ y, Chg none_ w8 y → y.cell? ⟨r, 0, none⟩ = some (.slice AL mL.length cl)) := Lib.hid (fun y hy => (HRO.out.chg hy (fun h => h)).cell 0)
            have HL1 : Hid (∀ y, Chg none_ w8 y → y.cell? ⟨r, 1, none⟩ = some (.int .i64 (n1 : Int))) := Lib.hid (fun y hy => (HRO.out.chg hy (fun h => h)).cell 1)
            have HL2 : Hid (∀ y, Chg none_ w8 y → y.cell? ⟨r, 2, none⟩ = some (.int .i64 (a : Int))) := Lib.hid (fun y hy => (HRO.out.chg hy (fun h => h)).cell 2)
            have HD7 : Hid (∀ y, Chg none_ w8 y → y.cell? ⟨wr.heap.size, 7, none⟩ = some (.int .u64 (x.d : Int))) := Lib.hid (fun y hy => (HB.out.chg hy (fun h => h)).cell 7)
            have HFC : Hid (∀ y, Chg none_ w8 y → Calls Try.prog 16 #[.pointer (some ⟨g, 0, none⟩)] y fun e w' => e = .returned (.complex .f64 (floatOfInt .f64 ((flNs P1 : Nat) : Int)) (floatOfInt .f64 ((flBs P1 : Nat) : Int))) ∧ Chg none_ y w') := Lib.hid (fun y hy => jFlight (HJ.out.quiet hy))
            have HNX : Hid (∀ y, Chg none_ w8 y → Calls Try.prog 17 #[.pointer (some ⟨g, 0, none⟩)] y fun e w' => e = .returned (.int .i64 (n1 : Int)) ∧ Chg none_ y w') := Lib.hid (fun y hy => jNext (HJ.out.quiet hy))
            have HAC : Hid (∀ y, Chg none_ w8 y → Calls Try.prog 18 #[.pointer (some ⟨g, 0, none⟩)] y fun e w' => e = .returned (.int .i64 ((a : Int) - 1)) ∧ Chg none_ y w') := Lib.hid (fun y hy => jAcked (HJ.out.quiet hy))
            have HDU : Hid (∀ y, Chg none_ w8 y → Calls Try.prog 15 #[.pointer (some ⟨g, 0, none⟩), .int .u64 (x.d : Int)] y fun e w' => e = .returned (.int .u64 ((dueP a x.d P1 : Nat) : Int)) ∧ Chg none_ y w') := Lib.hid (fun y hy => jDue x.d (HJ.out.quiet hy))
            have HRU : Hid (∀ y, Chg none_ w8 y → Calls Try.prog 25 #[.pointer (some ⟨r, 0, none⟩), .int .u64 (x.d : Int)] y fun e w' => e = .returned (.int .u64 ((dueP a x.d P1 : Nat) : Int)) ∧ Chg none_ y w') := Lib.hid (fun y hy => jRDue x.d (HJ.out.quiet hy) HXT.out.1)
            have HLS : Hid (∀ y, Chg none_ w8 y → Calls Try.prog 13 #[.pointer (some ⟨g, 0, none⟩)] y fun e w' => ∃ AG cg G, e = .returned (.slice AG G.length cg) ∧ Ans w' r AG G ∧ G.map It.pl = P1 ∧ Chg none_ y w') := Lib.hid (fun y hy => jList (HJ.out.quiet hy))
            have hO1 : FloatKind.f64.format.order (floatOfInt .f64 ((flNs P1 : Nat) : Int)) (floatOfInt .f64 ((flNs P1 : Nat) : Int)) = some .eq := dbl_eq _ (by have h1 := flNs_le' P1; have h2 := hok.len; omega)
            have hO2 : FloatKind.f64.format.order (floatOfInt .f64 ((flBs P1 : Nat) : Int)) (floatOfInt .f64 ((flBs P1 : Nat) : Int)) = some .eq := dbl_eq _ (by have h1 := flBs_le' P1 (fun s hs => (hok.each s hs).2.2); have h2 := hok.len; omega)
            generalize flNs P1 = nN at *
            generalize flBs P1 = nB at *
            generalize (lastP P1).1 = lt at *
            generalize (lastP P1).2 = lo at *
            generalize dueP a x.d P1 = du at *
            clear hrow hans hmp hok
            refine wp_region_held_drew (S := fun y => Chg none_ w8 y) (by kernel_rfl) ((Chg.refl none_ w8).drew) (fun hch0 => ?_)
            have hz : Chg none_ w8 w8.drew := (Chg.refl none_ w8).drew
            generalize w8.drew = wz at hz ⊢
            clear hch0
            refine wpAnyH_take (i := 0) (v := .bool true) rfl (by kernel_rfl) (by kernel_rfl) (by kernel_rfl) (by first | exact fun _ _ _ h => h | exact fun _ _ _ h => nomatch h.1) (Or.inl ⟨by rfl, fun w_ hw_ => by go_simp⟩) hz ?_
            try simp only [Act.put, List.setIfInBounds_toArray, List.set_cons_zero, List.set_cons_succ, List.getElem_toArray, List.getElem_cons_zero]
            refine wpAnyH_take (i := 1) (v := .bool false) rfl (by kernel_rfl) (by kernel_rfl) (by kernel_rfl) (by first | exact fun _ _ _ h => h | exact fun _ _ _ h => nomatch h.1) (Or.inl ⟨by rfl, fun w_ hw_ => by go_simp⟩) hz ?_
            try simp only [Act.put, List.setIfInBounds_toArray, List.set_cons_zero, List.set_cons_succ, List.getElem_toArray, List.getElem_cons_succ, List.getElem_cons_zero]
            refine wpAnyH_take (i := 2) (v := .bool false) rfl (by kernel_rfl) (by kernel_rfl) (by kernel_rfl) (by first | exact fun _ _ _ h => h | exact fun _ _ _ h => nomatch h.1) (Or.inl ⟨by rfl, fun w_ hw_ => by go_simp⟩) hz ?_
            try simp only [Act.put, List.setIfInBounds_toArray, List.set_cons_zero, List.set_cons_succ, List.getElem_toArray, List.getElem_cons_succ, List.getElem_cons_zero]
            refine wpAnyH_take (i := 4) (v := .int .i64 (nN : Int)) rfl (by kernel_rfl) (by kernel_rfl) (by kernel_rfl) (by first | exact fun _ _ _ h => h | exact fun _ _ _ h => nomatch h.1) (Or.inl ⟨by rfl, fun w_ hw_ => by go_simp⟩) hz ?_
            try simp only [Act.put, List.setIfInBounds_toArray, List.set_cons_zero, List.set_cons_succ, List.getElem_toArray, List.getElem_cons_succ, List.getElem_cons_zero]
            refine wpAnyH_take (i := 5) (v := .float .f64 (floatOfInt .f64 (nN : Int))) rfl (by kernel_rfl) (by kernel_rfl) (by kernel_rfl) (by first | exact fun _ _ _ h => h | exact fun _ _ _ h => nomatch h.1) (Or.inl ⟨by rfl, fun w_ hw_ => by go_simp⟩) hz ?_
            try simp only [Act.put, List.setIfInBounds_toArray, List.set_cons_zero, List.set_cons_succ, List.getElem_toArray, List.getElem_cons_succ, List.getElem_cons_zero]
            refine wpAnyH_take (i := 6) (v := .int .i64 (nB : Int)) rfl (by kernel_rfl) (by kernel_rfl) (by kernel_rfl) (by first | exact fun _ _ _ h => h | exact fun _ _ _ h => nomatch h.1) (Or.inl ⟨by rfl, fun w_ hw_ => by go_simp⟩) hz ?_
            try simp only [Act.put, List.setIfInBounds_toArray, List.set_cons_zero, List.set_cons_succ, List.getElem_toArray, List.getElem_cons_succ, List.getElem_cons_zero]
            refine wpAnyH_take (i := 7) (v := .float .f64 (floatOfInt .f64 (nB : Int))) rfl (by kernel_rfl) (by kernel_rfl) (by kernel_rfl) (by first | exact fun _ _ _ h => h | exact fun _ _ _ h => nomatch h.1) (Or.inl ⟨by rfl, fun w_ hw_ => by go_simp⟩) hz ?_
            try simp only [Act.put, List.setIfInBounds_toArray, List.set_cons_zero, List.set_cons_succ, List.getElem_toArray, List.getElem_cons_succ, List.getElem_cons_zero]
            refine wpAnyH_take (i := 8) (v := .complex .f64 (floatOfInt .f64 (nN : Int)) (floatOfInt .f64 (nB : Int))) rfl (by kernel_rfl) (by kernel_rfl) (by kernel_rfl) (by first | exact fun _ _ _ h => h | exact fun _ _ _ h => nomatch h.1) (Or.inl ⟨by rfl, fun w_ hw_ => by go_simp⟩) hz ?_
            try simp only [Act.put, List.setIfInBounds_toArray, List.set_cons_zero, List.set_cons_succ, List.getElem_toArray, List.getElem_cons_succ, List.getElem_cons_zero]
            refine wpAnyH_ready (rs := [3]) (by kernel_rfl) (by simp) ?_
            refine AllReadyH.cons rfl (fun K hK => ?_) AllReadyH.nil
            rw [if_pos (by rfl)]
            try simp only [List.getElem_toArray, List.getElem_cons_succ, List.getElem_cons_zero]
            go_simp
            refine (HFC.out _ hz).mono ?_
            rintro e x1 ⟨rfl, hcx⟩
            have hz := hz.trans hcx
            refine hK.out _ _ hz (fun _ => ?_)
            clear hK K hcx
            try simp only [Act.put, List.setIfInBounds_toArray, List.set_cons_zero, List.set_cons_succ, List.getElem_toArray, List.getElem_cons_succ, List.getElem_cons_zero]
            refine wpAnyH_take (i := 9) (v := .bool false) rfl (by kernel_rfl) (by kernel_rfl) (by kernel_rfl) (by first | exact fun _ _ _ h => h | exact fun _ _ _ h => nomatch h.1) (Or.inl ⟨by rfl, fun w_ hw_ => by go_simp⟩) hz ?_
            try simp only [Act.put, List.setIfInBounds_toArray, List.set_cons_zero, List.set_cons_succ, List.getElem_toArray, List.getElem_cons_succ, List.getElem_cons_zero]
            refine wpAnyH_take (i := 10) (v := .bool false) rfl (by kernel_rfl) (by kernel_rfl) (by kernel_rfl) (by first | exact fun _ _ _ h => h | exact fun _ _ _ h => nomatch h.1) (Or.inl ⟨by rfl, fun w_ hw_ => by go_simp⟩) hz ?_
            try simp only [Act.put, List.setIfInBounds_toArray, List.set_cons_zero, List.set_cons_succ, List.getElem_toArray, List.getElem_cons_succ, List.getElem_cons_zero]
            refine wpAnyH_take (i := 11) (v := .bool false) rfl (by kernel_rfl) (by kernel_rfl) (by kernel_rfl) (by first | exact fun _ _ _ h => h | exact fun _ _ _ h => nomatch h.1) (Or.inl ⟨by rfl, fun w_ hw_ => by go_simp⟩) hz ?_
            try simp only [Act.put, List.setIfInBounds_toArray, List.set_cons_zero, List.set_cons_succ, List.getElem_toArray, List.getElem_cons_succ, List.getElem_cons_zero]
            refine wpAnyH_take (i := 13) (v := .pointer (some ⟨r, 1, none⟩)) rfl (by kernel_rfl) (by kernel_rfl) (by kernel_rfl) (by first | exact fun _ _ _ h => h | exact fun _ _ _ h => nomatch h.1) (Or.inl ⟨by rfl, fun w_ hw_ => by go_simp⟩) hz ?_
            try simp only [Act.put, List.setIfInBounds_toArray, List.set_cons_zero, List.set_cons_succ, List.getElem_toArray, List.getElem_cons_succ, List.getElem_cons_zero]
            refine wpAnyH_take (i := 14) (v := .int .i64 (n1 : Int)) rfl (by kernel_rfl) (by kernel_rfl) (by kernel_rfl) (by first | exact fun _ _ _ h => h | exact fun _ _ _ h => nomatch h.1) (Or.inl ⟨by rfl, fun w_ hw_ => by have q_ := HL1.out w_ hw_; go_simp⟩) hz ?_
            try simp only [Act.put, List.setIfInBounds_toArray, List.set_cons_zero, List.set_cons_succ, List.getElem_toArray, List.getElem_cons_succ, List.getElem_cons_zero]
            refine wpAnyH_ready (rs := [12]) (by kernel_rfl) (by simp) ?_
            refine AllReadyH.cons rfl (fun K hK => ?_) AllReadyH.nil
            rw [if_pos (by rfl)]
            try simp only [List.getElem_toArray, List.getElem_cons_succ, List.getElem_cons_zero]
            go_simp
            refine (HNX.out _ hz).mono ?_
            rintro e x2 ⟨rfl, hcx⟩
            have hz := hz.trans hcx
            refine hK.out _ _ hz (fun _ => ?_)
            clear hK K hcx
            try simp only [Act.put, List.setIfInBounds_toArray, List.set_cons_zero, List.set_cons_succ, List.getElem_toArray, List.getElem_cons_succ, List.getElem_cons_zero]
            refine wpAnyH_take (i := 15) (v := .bool false) rfl (by kernel_rfl) (by kernel_rfl) (by kernel_rfl) (by first | exact fun _ _ _ h => h | exact fun _ _ _ h => nomatch h.1) (Or.inl ⟨by rfl, fun w_ hw_ => by go_simp⟩) hz ?_
            try simp only [Act.put, List.setIfInBounds_toArray, List.set_cons_zero, List.set_cons_succ, List.getElem_toArray, List.getElem_cons_succ, List.getElem_cons_zero]
            refine wpAnyH_take (i := 16) (v := .bool false) rfl (by kernel_rfl) (by kernel_rfl) (by kernel_rfl) (by first | exact fun _ _ _ h => h | exact fun _ _ _ h => nomatch h.1) (Or.inl ⟨by rfl, fun w_ hw_ => by go_simp⟩) hz ?_
            try simp only [Act.put, List.setIfInBounds_toArray, List.set_cons_zero, List.set_cons_succ, List.getElem_toArray, List.getElem_cons_succ, List.getElem_cons_zero]
            refine wpAnyH_take (i := 17) (v := .bool false) rfl (by kernel_rfl) (by kernel_rfl) (by kernel_rfl) (by first | exact fun _ _ _ h => h | exact fun _ _ _ h => nomatch h.1) (Or.inl ⟨by rfl, fun w_ hw_ => by go_simp⟩) hz ?_
            try simp only [Act.put, List.setIfInBounds_toArray, List.set_cons_zero, List.set_cons_succ, List.getElem_toArray, List.getElem_cons_succ, List.getElem_cons_zero]
            refine wpAnyH_take (i := 19) (v := .pointer (some ⟨r, 2, none⟩)) rfl (by kernel_rfl) (by kernel_rfl) (by kernel_rfl) (by first | exact fun _ _ _ h => h | exact fun _ _ _ h => nomatch h.1) (Or.inl ⟨by rfl, fun w_ hw_ => by go_simp⟩) hz ?_
            try simp only [Act.put, List.setIfInBounds_toArray, List.set_cons_zero, List.set_cons_succ, List.getElem_toArray, List.getElem_cons_succ, List.getElem_cons_zero]
            refine wpAnyH_take (i := 20) (v := .int .i64 (a : Int)) rfl (by kernel_rfl) (by kernel_rfl) (by kernel_rfl) (by first | exact fun _ _ _ h => h | exact fun _ _ _ h => nomatch h.1) (Or.inl ⟨by rfl, fun w_ hw_ => by have q_ := HL2.out w_ hw_; go_simp⟩) hz ?_
            try simp only [Act.put, List.setIfInBounds_toArray, List.set_cons_zero, List.set_cons_succ, List.getElem_toArray, List.getElem_cons_succ, List.getElem_cons_zero]
            refine wpAnyH_take (i := 21) (v := .int .i64 ((a : Int) - 1)) rfl (by kernel_rfl) (by kernel_rfl) (by kernel_rfl) (by first | exact fun _ _ _ h => h | exact fun _ _ _ h => nomatch h.1) (Or.inl ⟨by rfl, fun w_ hw_ => by go_simp; exact IntWalk.i64_in _ (by omega)⟩) hz ?_
            try simp only [Act.put, List.setIfInBounds_toArray, List.set_cons_zero, List.set_cons_succ, List.getElem_toArray, List.getElem_cons_succ, List.getElem_cons_zero]
            refine wpAnyH_ready (rs := [18]) (by kernel_rfl) (by simp) ?_
            refine AllReadyH.cons rfl (fun K hK => ?_) AllReadyH.nil
            rw [if_pos (by rfl)]
            try simp only [List.getElem_toArray, List.getElem_cons_succ, List.getElem_cons_zero]
            go_simp
            refine (HAC.out _ hz).mono ?_
            rintro e x3 ⟨rfl, hcx⟩
            have hz := hz.trans hcx
            refine hK.out _ _ hz (fun _ => ?_)
            clear hK K hcx
            try simp only [Act.put, List.setIfInBounds_toArray, List.set_cons_zero, List.set_cons_succ, List.getElem_toArray, List.getElem_cons_succ, List.getElem_cons_zero]
            refine wpAnyH_take (i := 22) (v := .bool false) rfl (by kernel_rfl) (by kernel_rfl) (by kernel_rfl) (by first | exact fun _ _ _ h => h | exact fun _ _ _ h => nomatch h.1) (Or.inl ⟨by rfl, fun w_ hw_ => by go_simp⟩) hz ?_
            try simp only [Act.put, List.setIfInBounds_toArray, List.set_cons_zero, List.set_cons_succ, List.getElem_toArray, List.getElem_cons_succ, List.getElem_cons_zero]
            refine wpAnyH_take (i := 23) (v := .bool false) rfl (by kernel_rfl) (by kernel_rfl) (by kernel_rfl) (by first | exact fun _ _ _ h => h | exact fun _ _ _ h => nomatch h.1) (Or.inl ⟨by rfl, fun w_ hw_ => by go_simp⟩) hz ?_
            try simp only [Act.put, List.setIfInBounds_toArray, List.set_cons_zero, List.set_cons_succ, List.getElem_toArray, List.getElem_cons_succ, List.getElem_cons_zero]
            refine wpAnyH_take (i := 24) (v := .bool false) rfl (by kernel_rfl) (by kernel_rfl) (by kernel_rfl) (by first | exact fun _ _ _ h => h | exact fun _ _ _ h => nomatch h.1) (Or.inl ⟨by rfl, fun w_ hw_ => by go_simp⟩) hz ?_
            try simp only [Act.put, List.setIfInBounds_toArray, List.set_cons_zero, List.set_cons_succ, List.getElem_toArray, List.getElem_cons_succ, List.getElem_cons_zero]
            refine wpAnyH_take (i := 25) (v := .pointer (some ⟨wr.heap.size, 7, none⟩)) rfl (by kernel_rfl) (by kernel_rfl) (by kernel_rfl) (by first | exact fun _ _ _ h => h | exact fun _ _ _ h => nomatch h.1) (Or.inl ⟨by rfl, fun w_ hw_ => by go_simp⟩) hz ?_
            try simp only [Act.put, List.setIfInBounds_toArray, List.set_cons_zero, List.set_cons_succ, List.getElem_toArray, List.getElem_cons_succ, List.getElem_cons_zero]
            refine wpAnyH_take (i := 26) (v := .int .u64 (x.d : Int)) rfl (by kernel_rfl) (by kernel_rfl) (by kernel_rfl) (by first | exact fun _ _ _ h => h | exact fun _ _ _ h => nomatch h.1) (Or.inl ⟨by rfl, fun w_ hw_ => by have q_ := HD7.out w_ hw_; go_simp⟩) hz ?_
            try simp only [Act.put, List.setIfInBounds_toArray, List.set_cons_zero, List.set_cons_succ, List.getElem_toArray, List.getElem_cons_succ, List.getElem_cons_zero]
            refine wpAnyH_take (i := 28) (v := .pointer (some ⟨wr.heap.size, 7, none⟩)) rfl (by kernel_rfl) (by kernel_rfl) (by kernel_rfl) (by first | exact fun _ _ _ h => h | exact fun _ _ _ h => nomatch h.1) (Or.inl ⟨by rfl, fun w_ hw_ => by go_simp⟩) hz ?_
            try simp only [Act.put, List.setIfInBounds_toArray, List.set_cons_zero, List.set_cons_succ, List.getElem_toArray, List.getElem_cons_succ, List.getElem_cons_zero]
            refine wpAnyH_take (i := 29) (v := .int .u64 (x.d : Int)) rfl (by kernel_rfl) (by kernel_rfl) (by kernel_rfl) (by first | exact fun _ _ _ h => h | exact fun _ _ _ h => nomatch h.1) (Or.inl ⟨by rfl, fun w_ hw_ => by have q_ := HD7.out w_ hw_; go_simp⟩) hz ?_
            try simp only [Act.put, List.setIfInBounds_toArray, List.set_cons_zero, List.set_cons_succ, List.getElem_toArray, List.getElem_cons_succ, List.getElem_cons_zero]
            refine wpAnyH_ready (rs := [27]) (by kernel_rfl) (by simp) ?_
            refine AllReadyH.cons rfl (fun K hK => ?_) AllReadyH.nil
            rw [if_pos (by rfl)]
            try simp only [List.getElem_toArray, List.getElem_cons_succ, List.getElem_cons_zero]
            go_simp
            refine (HDU.out _ hz).mono ?_
            rintro e x4 ⟨rfl, hcx⟩
            have hz := hz.trans hcx
            refine hK.out _ _ hz (fun _ => ?_)
            clear hK K hcx
            try simp only [Act.put, List.setIfInBounds_toArray, List.set_cons_zero, List.set_cons_succ, List.getElem_toArray, List.getElem_cons_succ, List.getElem_cons_zero]
            refine wpAnyH_ready (rs := [30]) (by kernel_rfl) (by simp) ?_
            refine AllReadyH.cons rfl (fun K hK => ?_) AllReadyH.nil
            rw [if_pos (by rfl)]
            try simp only [List.getElem_toArray, List.getElem_cons_succ, List.getElem_cons_zero]
            go_simp
            refine (HRU.out _ hz).mono ?_
            rintro e x5 ⟨rfl, hcx⟩
            have hz := hz.trans hcx
            refine hK.out _ _ hz (fun _ => ?_)
            clear hK K hcx
            try simp only [Act.put, List.setIfInBounds_toArray, List.set_cons_zero, List.set_cons_succ, List.getElem_toArray, List.getElem_cons_succ, List.getElem_cons_zero]
            refine wpAnyH_take (i := 31) (v := .bool false) rfl (by kernel_rfl) (by kernel_rfl) (by kernel_rfl) (by first | exact fun _ _ _ h => h | exact fun _ _ _ h => nomatch h.1) (Or.inl ⟨by rfl, fun w_ hw_ => by go_simp⟩) hz ?_
            try simp only [Act.put, List.setIfInBounds_toArray, List.set_cons_zero, List.set_cons_succ, List.getElem_toArray, List.getElem_cons_succ, List.getElem_cons_zero]
            refine wpAnyH_take (i := 32) (v := .bool false) rfl (by kernel_rfl) (by kernel_rfl) (by kernel_rfl) (by first | exact fun _ _ _ h => h | exact fun _ _ _ h => nomatch h.1) (Or.inl ⟨by rfl, fun w_ hw_ => by go_simp⟩) hz ?_
            try simp only [Act.put, List.setIfInBounds_toArray, List.set_cons_zero, List.set_cons_succ, List.getElem_toArray, List.getElem_cons_succ, List.getElem_cons_zero]
            refine wpAnyH_take (i := 33) (v := .bool false) rfl (by kernel_rfl) (by kernel_rfl) (by kernel_rfl) (by first | exact fun _ _ _ h => h | exact fun _ _ _ h => nomatch h.1) (Or.inl ⟨by rfl, fun w_ hw_ => by go_simp⟩) hz ?_
            try simp only [Act.put, List.setIfInBounds_toArray, List.set_cons_zero, List.set_cons_succ, List.getElem_toArray, List.getElem_cons_succ, List.getElem_cons_zero]
            refine wpAnyH_take (i := 34) (v := .int .u64 (lt : Int)) rfl (by kernel_rfl) (by kernel_rfl) (by kernel_rfl) (by first | exact fun _ _ _ h => h | exact fun _ _ _ h => nomatch h.1) (Or.inl ⟨by rfl, fun w_ hw_ => by go_simp⟩) hz ?_
            try simp only [Act.put, List.setIfInBounds_toArray, List.set_cons_zero, List.set_cons_succ, List.getElem_toArray, List.getElem_cons_succ, List.getElem_cons_zero]
            refine wpAnyH_take (i := 35) (v := .int .u64 (lt : Int)) rfl (by kernel_rfl) (by kernel_rfl) (by kernel_rfl) (by first | exact fun _ _ _ h => h | exact fun _ _ _ h => nomatch h.1) (Or.inl ⟨by rfl, fun w_ hw_ => by go_simp⟩) hz ?_
            try simp only [Act.put, List.setIfInBounds_toArray, List.set_cons_zero, List.set_cons_succ, List.getElem_toArray, List.getElem_cons_succ, List.getElem_cons_zero]
            refine wpAnyH_take (i := 36) (v := .bool false) rfl (by kernel_rfl) (by kernel_rfl) (by kernel_rfl) (by first | exact fun _ _ _ h => h | exact fun _ _ _ h => nomatch h.1) (Or.inl ⟨by rfl, fun w_ hw_ => by go_simp⟩) hz ?_
            try simp only [Act.put, List.setIfInBounds_toArray, List.set_cons_zero, List.set_cons_succ, List.getElem_toArray, List.getElem_cons_succ, List.getElem_cons_zero]
            refine wpAnyH_take (i := 37) (v := .bool false) rfl (by kernel_rfl) (by kernel_rfl) (by kernel_rfl) (by first | exact fun _ _ _ h => h | exact fun _ _ _ h => nomatch h.1) (Or.inl ⟨by rfl, fun w_ hw_ => by go_simp⟩) hz ?_
            try simp only [Act.put, List.setIfInBounds_toArray, List.set_cons_zero, List.set_cons_succ, List.getElem_toArray, List.getElem_cons_succ, List.getElem_cons_zero]
            refine wpAnyH_take (i := 38) (v := .bool false) rfl (by kernel_rfl) (by kernel_rfl) (by kernel_rfl) (by first | exact fun _ _ _ h => h | exact fun _ _ _ h => nomatch h.1) (Or.inl ⟨by rfl, fun w_ hw_ => by go_simp⟩) hz ?_
            try simp only [Act.put, List.setIfInBounds_toArray, List.set_cons_zero, List.set_cons_succ, List.getElem_toArray, List.getElem_cons_succ, List.getElem_cons_zero]
            refine wpAnyH_take (i := 39) (v := .bool lo) rfl (by kernel_rfl) (by kernel_rfl) (by kernel_rfl) (by first | exact fun _ _ _ h => h | exact fun _ _ _ h => nomatch h.1) (Or.inl ⟨by rfl, fun w_ hw_ => by go_simp⟩) hz ?_
            try simp only [Act.put, List.setIfInBounds_toArray, List.set_cons_zero, List.set_cons_succ, List.getElem_toArray, List.getElem_cons_succ, List.getElem_cons_zero]
            refine wpAnyH_take (i := 40) (v := .bool lo) rfl (by kernel_rfl) (by kernel_rfl) (by kernel_rfl) (by first | exact fun _ _ _ h => h | exact fun _ _ _ h => nomatch h.1) (Or.inl ⟨by rfl, fun w_ hw_ => by go_simp⟩) hz ?_
            try simp only [Act.put, List.setIfInBounds_toArray, List.set_cons_zero, List.set_cons_succ, List.getElem_toArray, List.getElem_cons_succ, List.getElem_cons_zero]
            refine wpAnyH_take (i := 41) (v := .bool false) rfl (by kernel_rfl) (by kernel_rfl) (by kernel_rfl) (by first | exact fun _ _ _ h => h | exact fun _ _ _ h => nomatch h.1) (Or.inl ⟨by rfl, fun w_ hw_ => by go_simp⟩) hz ?_
            try simp only [Act.put, List.setIfInBounds_toArray, List.set_cons_zero, List.set_cons_succ, List.getElem_toArray, List.getElem_cons_succ, List.getElem_cons_zero]
            refine wpAnyH_take (i := 42) (v := .bool false) rfl (by kernel_rfl) (by kernel_rfl) (by kernel_rfl) (by first | exact fun _ _ _ h => h | exact fun _ _ _ h => nomatch h.1) (Or.inl ⟨by rfl, fun w_ hw_ => by go_simp⟩) hz ?_
            try simp only [Act.put, List.setIfInBounds_toArray, List.set_cons_zero, List.set_cons_succ, List.getElem_toArray, List.getElem_cons_succ, List.getElem_cons_zero]
            refine wpAnyH_take (i := 43) (v := .bool false) rfl (by kernel_rfl) (by kernel_rfl) (by kernel_rfl) (by first | exact fun _ _ _ h => h | exact fun _ _ _ h => nomatch h.1) (Or.inl ⟨by rfl, fun w_ hw_ => by go_simp⟩) hz ?_
            try simp only [Act.put, List.setIfInBounds_toArray, List.set_cons_zero, List.set_cons_succ, List.getElem_toArray, List.getElem_cons_succ, List.getElem_cons_zero]
            refine wpAnyH_take (i := 45) (v := .pointer (some ⟨r, 0, none⟩)) rfl (by kernel_rfl) (by kernel_rfl) (by kernel_rfl) (by first | exact fun _ _ _ h => h | exact fun _ _ _ h => nomatch h.1) (Or.inl ⟨by rfl, fun w_ hw_ => by go_simp⟩) hz ?_
            try simp only [Act.put, List.setIfInBounds_toArray, List.set_cons_zero, List.set_cons_succ, List.getElem_toArray, List.getElem_cons_succ, List.getElem_cons_zero]
            refine wpAnyH_take (i := 46) (v := .slice AL mL.length cl) rfl (by kernel_rfl) (by kernel_rfl) (by kernel_rfl) (by first | exact fun _ _ _ h => h | exact fun _ _ _ h => nomatch h.1) (Or.inl ⟨by rfl, fun w_ hw_ => by have q_ := HL0.out w_ hw_; go_simp⟩) hz ?_
            try simp only [Act.put, List.setIfInBounds_toArray, List.set_cons_zero, List.set_cons_succ, List.getElem_toArray, List.getElem_cons_succ, List.getElem_cons_zero]
            refine wpAnyH_ready (rs := [44]) (by kernel_rfl) (by simp) ?_
            refine AllReadyH.cons rfl (fun K hK => ?_) AllReadyH.nil
            rw [if_pos (by rfl)]
            try simp only [List.getElem_toArray, List.getElem_cons_succ, List.getElem_cons_zero]
            go_simp
            refine (HLS.out _ hz).mono ?_
            rintro e x6 ⟨AG9, cg9, G9, rfl, hag, hmg, hcx⟩
            have hax := HAN.out.chg (chg_none (hz.trans hcx))
            have hz := hz.trans hcx
            refine hK.out _ _ hz (fun _ => ?_)
            clear hK K hcx
            try simp only [Act.put, List.setIfInBounds_toArray, List.set_cons_zero, List.set_cons_succ, List.getElem_toArray, List.getElem_cons_succ, List.getElem_cons_zero]
            refine wpAnyH_ready (rs := [47]) (by kernel_rfl) (by simp) ?_
            refine AllReadyH.cons rfl (fun K hK => ?_) AllReadyH.nil
            rw [if_pos (by rfl)]
            try simp only [List.getElem_toArray, List.getElem_cons_succ, List.getElem_cons_zero]
            go_simp
            refine (hag.same hax (hmg.trans HMP.out.symm) _ _).mono ?_
            rintro e x7 ⟨rfl, hcx⟩
            have hz := hz.trans hcx
            refine hK.out _ _ hz (fun _ => ?_)
            clear hK K hcx
            try simp only [Act.put, List.setIfInBounds_toArray, List.set_cons_zero, List.set_cons_succ, List.getElem_toArray, List.getElem_cons_succ, List.getElem_cons_zero]
            refine wpAnyH_take (i := 48) (v := .bool false) rfl (by kernel_rfl) (by kernel_rfl) (by kernel_rfl) (by first | exact fun _ _ _ h => h | exact fun _ _ _ h => nomatch h.1) (Or.inl ⟨by rfl, fun w_ hw_ => by go_simp⟩) hz ?_
            try simp only [Act.put, List.setIfInBounds_toArray, List.set_cons_zero, List.set_cons_succ, List.getElem_toArray, List.getElem_cons_succ, List.getElem_cons_zero]
            refine wpAnyH_take (i := 49) (v := .bool false) rfl (by kernel_rfl) (by kernel_rfl) (by kernel_rfl) (by first | exact fun _ _ _ h => h | exact fun _ _ _ h => nomatch h.1) (Or.inl ⟨by rfl, fun w_ hw_ => by go_simp⟩) hz ?_
            try simp only [Act.put, List.setIfInBounds_toArray, List.set_cons_zero, List.set_cons_succ, List.getElem_toArray, List.getElem_cons_succ, List.getElem_cons_zero]
            refine wpAnyH_done (by kernel_rfl) ?_ _
            go_wp2
            go_roundw
            case rel => exact ⟨j + 1, P1, n1, a, by go_num, by omega, by omega, Lib.hid ((HJ.out.quiet hz).forget), Lib.hid (HC.out.trans hz)⟩
            case measure => simp [intOf]; omega
        · have q0 : (x.kind == 0) = false := by simpa using hk0
          by_cases hk1 : x.kind = 1
          · have q1 : (x.kind == 1) = true := by simpa using hk1
            as_aux_lemma =>
              have HSA : Hid (∀ y, Jt y g g r (fun b => b = wr.heap.size) P n a P n a → Chg none_ w y → Calls Try.prog 10 #[.pointer (some ⟨g, 0, none⟩), .slice x.rA x.r.length x.rc] y fun e w' => ∃ AG cg G, e = .returned (.tuple #[.slice AG G.length cg, .int .i64 (ackE x.r n)]) ∧ Ans w' r AG G ∧ G.map It.pl = ackG P x.r n ∧ Jt w' g g r (fun b => b = wr.heap.size) (ackP P x.r n) n (ackA P x.r n a) P n a ∧ Chg (Sj g (fun b => b = wr.heap.size)) y w') := Lib.hid (fun y h1 h2 => sAck h1 (HRV.out y h2) (by have := HRQ.out; omega))
              have HSB : Hid (∀ y, Jt y g g r (fun b => b = wr.heap.size) (ackP P x.r n) n (ackA P x.r n a) P n a → Chg none_ w y → Calls Try.prog 20 #[.pointer (some ⟨r, 0, none⟩), .slice x.rA x.r.length x.rc] y fun e w' => ∃ AG cg G, e = .returned (.tuple #[.slice AG G.length cg, .int .i64 (ackE x.r n)]) ∧ Ans w' r AG G ∧ G.map It.pl = ackG P x.r n ∧ Jt w' g g r (fun b => b = wr.heap.size) (ackP P x.r n) n (ackA P x.r n a) (ackP P x.r n) n (ackA P x.r n a) ∧ Chg (· = r) y w') := Lib.hid (fun y h1 h2 => sRAck h1 (HRV.out y h2) (fun b hb e => by have := h1.gr; omega) (by have := HRQ.out; omega))
              generalize ackE x.r n = v1 at *
              generalize ackG P x.r n = G1 at *
              generalize ackP P x.r n = P1 at *
              generalize ackA P x.r n a = a1 at *
              clear hk0 hk1
              go_wp2_with (first | ((with_reducible show wpList _ _ _ (⟨some 101, .load _ _, _, _, _, _⟩ :: _) _ _); refine wpList_load_Mid (cs := lac x) rfl rfl rfl HRA.out Try.underlying51 rfl sizeLa ?_) | ((with_reducible show wpList _ _ _ (⟨some 13, .alloc _, _, _, _, _⟩ :: _) _ _); refine wpList_alloc_Row rfl rfl (lac la0) zeroLa ?_; intro w3 hr3 hc3 hs3; have HR3 := Lib.hid hr3; have HC3 := Lib.hid hc3; have HS3 := Lib.hid hs3; clear hr3 hc3 hs3) | ((with_reducible show wpList _ _ _ (⟨none, .store _ _ _, _, _, _, _⟩ :: _) _ _); refine wpList_store_Row (xs := lac x) rfl rfl rfl HR3.out rfl rfl sizeLa (lac_one x) ?_; intro w4 hr4 hc4 hs4; have HB := Lib.hid hr4; have HC4 := Lib.hid (hc4 none_ wr HC3.out (fun h => absurd h (Nat.lt_irrefl _))); have HJ := Lib.hid (HJ.out.fresh HC4.out (by rw [hs4, HS3.out]; omega)); have HC := Lib.hid (HC.out.trans HC4.out); have c0 : w4.cell? ⟨wr.heap.size, 0, none⟩ = some (.int .i64 x.kind) := HB.out.cell 0; have c6 : w4.cell? ⟨wr.heap.size, 6, none⟩ = some (.slice x.rA x.r.length x.rc) := HB.out.cell 6; clear hr4 hc4 hs4) | ((with_reducible show Calls _ 10 _ _ _); refine (HSA.out _ HJ.out HC.out).mono ?_; rintro e w5 ⟨AG, cg, G, rfl, ha, hm, hj, hc⟩; have HJ := Lib.hid hj; have HB := Lib.hid (HB.out.chg hc (fun h => h.2 rfl)); have HC := Lib.hid (HC.out.andThen hc (fun b hb h => absurd h.1 (by have h2 := HG0.out; omega))); have HA1 := Lib.hid ha; have HM1 := Lib.hid hm; have c6 : w5.cell? ⟨wr.heap.size, 6, none⟩ = some (.slice x.rA x.r.length x.rc) := HB.out.cell 6; clear hj hc ha hm) | ((with_reducible show Calls _ 20 _ _ _); refine (HSB.out _ HJ.out HC.out).mono ?_; rintro e w6 ⟨AH, ch, H, rfl, ha, hm, hj, hcr⟩; have hc := HJ.out.rS hcr; have HJ := Lib.hid hj; have HB := Lib.hid (HB.out.chg hc (fun h => h.2 rfl)); have HC := Lib.hid (HC.out.andThen hc (fun b hb h => absurd h.1 (by have h2 := HG0.out; omega))); have HA1 := Lib.hid (HA1.out.chg hcr); have HA2 := Lib.hid ha; have HM2 := Lib.hid hm; clear hj hc hcr ha hm) | ((with_reducible show Calls _ 21 _ _ _); refine (HA1.out.same HA2.out (HM1.out.trans HM2.out.symm) _ _).mono ?_; rintro e w7 ⟨rfl, hc⟩; have HJ := Lib.hid (HJ.out.quiet hc); have HB := Lib.hid (HB.out.chg hc (fun h => h)); have HC := Lib.hid (HC.out.trans hc); clear hc) | ((with_reducible show Calls _ 23 _ _ _); refine (jRFlight HJ.out).mono ?_; rintro e wf ⟨rfl, rfl⟩; skip) | ((with_reducible show Calls _ 11 _ _ _); refine (jLast HJ.out).mono ?_; rintro e w8 ⟨rfl, hc⟩; have HJ := Lib.hid (HJ.out.quiet hc); have HB := Lib.hid (HB.out.chg hc (fun h => h)); have HC := Lib.hid (HC.out.trans hc); clear hc) | ((with_reducible show Calls _ 24 _ _ _); refine (jRLast HJ.out).mono ?_; rintro e wf ⟨rfl, rfl⟩; skip))
              obtain ⟨AL, cl, mL, hrow, hans, hmp⟩ := jL HJ.out
              have hok := HJ.out.ok.1
              have ha0 : (0 : Int) ≤ (a1 : Int) := by omega
              have ha1 : (a1 : Int) ≤ 1000000 := by have h1 := hok.above; have h2 := hok.next; omega
              have HRO := Lib.hid hrow
              have HAN := Lib.hid hans
              have HMP := Lib.hid hmp
              have HL0 : Hid (∀ y, Chg none_ w8 y → y.cell? ⟨r, 0, none⟩ = some (.slice AL mL.length cl)) := Lib.hid (fun y hy => (HRO.out.chg hy (fun h => h)).cell 0)
              have HL1 : Hid (∀ y, Chg none_ w8 y → y.cell? ⟨r, 1, none⟩ = some (.int .i64 (n : Int))) := Lib.hid (fun y hy => (HRO.out.chg hy (fun h => h)).cell 1)
              have HL2 : Hid (∀ y, Chg none_ w8 y → y.cell? ⟨r, 2, none⟩ = some (.int .i64 (a1 : Int))) := Lib.hid (fun y hy => (HRO.out.chg hy (fun h => h)).cell 2)
              have HD7 : Hid (∀ y, Chg none_ w8 y → y.cell? ⟨wr.heap.size, 7, none⟩ = some (.int .u64 (x.d : Int))) := Lib.hid (fun y hy => (HB.out.chg hy (fun h => h)).cell 7)
              have HFC : Hid (∀ y, Chg none_ w8 y → Calls Try.prog 16 #[.pointer (some ⟨g, 0, none⟩)] y fun e w' => e = .returned (.complex .f64 (floatOfInt .f64 ((flNs P1 : Nat) : Int)) (floatOfInt .f64 ((flBs P1 : Nat) : Int))) ∧ Chg none_ y w') := Lib.hid (fun y hy => jFlight (HJ.out.quiet hy))
              have HNX : Hid (∀ y, Chg none_ w8 y → Calls Try.prog 17 #[.pointer (some ⟨g, 0, none⟩)] y fun e w' => e = .returned (.int .i64 (n : Int)) ∧ Chg none_ y w') := Lib.hid (fun y hy => jNext (HJ.out.quiet hy))
              have HAC : Hid (∀ y, Chg none_ w8 y → Calls Try.prog 18 #[.pointer (some ⟨g, 0, none⟩)] y fun e w' => e = .returned (.int .i64 ((a1 : Int) - 1)) ∧ Chg none_ y w') := Lib.hid (fun y hy => jAcked (HJ.out.quiet hy))
              have HDU : Hid (∀ y, Chg none_ w8 y → Calls Try.prog 15 #[.pointer (some ⟨g, 0, none⟩), .int .u64 (x.d : Int)] y fun e w' => e = .returned (.int .u64 ((dueP a1 x.d P1 : Nat) : Int)) ∧ Chg none_ y w') := Lib.hid (fun y hy => jDue x.d (HJ.out.quiet hy))
              have HRU : Hid (∀ y, Chg none_ w8 y → Calls Try.prog 25 #[.pointer (some ⟨r, 0, none⟩), .int .u64 (x.d : Int)] y fun e w' => e = .returned (.int .u64 ((dueP a1 x.d P1 : Nat) : Int)) ∧ Chg none_ y w') := Lib.hid (fun y hy => jRDue x.d (HJ.out.quiet hy) HXT.out.1)
              have HLS : Hid (∀ y, Chg none_ w8 y → Calls Try.prog 13 #[.pointer (some ⟨g, 0, none⟩)] y fun e w' => ∃ AG cg G, e = .returned (.slice AG G.length cg) ∧ Ans w' r AG G ∧ G.map It.pl = P1 ∧ Chg none_ y w') := Lib.hid (fun y hy => jList (HJ.out.quiet hy))
              have hO1 : FloatKind.f64.format.order (floatOfInt .f64 ((flNs P1 : Nat) : Int)) (floatOfInt .f64 ((flNs P1 : Nat) : Int)) = some .eq := dbl_eq _ (by have h1 := flNs_le' P1; have h2 := hok.len; omega)
              have hO2 : FloatKind.f64.format.order (floatOfInt .f64 ((flBs P1 : Nat) : Int)) (floatOfInt .f64 ((flBs P1 : Nat) : Int)) = some .eq := dbl_eq _ (by have h1 := flBs_le' P1 (fun s hs => (hok.each s hs).2.2); have h2 := hok.len; omega)
              generalize flNs P1 = nN at *
              generalize flBs P1 = nB at *
              generalize (lastP P1).1 = lt at *
              generalize (lastP P1).2 = lo at *
              generalize dueP a1 x.d P1 = du at *
              clear hrow hans hmp hok
              refine wp_region_held_drew (S := fun y => Chg none_ w8 y) (by kernel_rfl) ((Chg.refl none_ w8).drew) (fun hch0 => ?_)
              have hz : Chg none_ w8 w8.drew := (Chg.refl none_ w8).drew
              generalize w8.drew = wz at hz ⊢
              clear hch0
              refine wpAnyH_take (i := 0) (v := .bool true) rfl (by kernel_rfl) (by kernel_rfl) (by kernel_rfl) (by first | exact fun _ _ _ h => h | exact fun _ _ _ h => nomatch h.1) (Or.inl ⟨by rfl, fun w_ hw_ => by go_simp⟩) hz ?_
              try simp only [Act.put, List.setIfInBounds_toArray, List.set_cons_zero, List.set_cons_succ, List.getElem_toArray, List.getElem_cons_zero]
              refine wpAnyH_take (i := 1) (v := .bool false) rfl (by kernel_rfl) (by kernel_rfl) (by kernel_rfl) (by first | exact fun _ _ _ h => h | exact fun _ _ _ h => nomatch h.1) (Or.inl ⟨by rfl, fun w_ hw_ => by go_simp⟩) hz ?_
              try simp only [Act.put, List.setIfInBounds_toArray, List.set_cons_zero, List.set_cons_succ, List.getElem_toArray, List.getElem_cons_succ, List.getElem_cons_zero]
              refine wpAnyH_take (i := 2) (v := .bool false) rfl (by kernel_rfl) (by kernel_rfl) (by kernel_rfl) (by first | exact fun _ _ _ h => h | exact fun _ _ _ h => nomatch h.1) (Or.inl ⟨by rfl, fun w_ hw_ => by go_simp⟩) hz ?_
              try simp only [Act.put, List.setIfInBounds_toArray, List.set_cons_zero, List.set_cons_succ, List.getElem_toArray, List.getElem_cons_succ, List.getElem_cons_zero]
              refine wpAnyH_take (i := 4) (v := .int .i64 (nN : Int)) rfl (by kernel_rfl) (by kernel_rfl) (by kernel_rfl) (by first | exact fun _ _ _ h => h | exact fun _ _ _ h => nomatch h.1) (Or.inl ⟨by rfl, fun w_ hw_ => by go_simp⟩) hz ?_
              try simp only [Act.put, List.setIfInBounds_toArray, List.set_cons_zero, List.set_cons_succ, List.getElem_toArray, List.getElem_cons_succ, List.getElem_cons_zero]
              refine wpAnyH_take (i := 5) (v := .float .f64 (floatOfInt .f64 (nN : Int))) rfl (by kernel_rfl) (by kernel_rfl) (by kernel_rfl) (by first | exact fun _ _ _ h => h | exact fun _ _ _ h => nomatch h.1) (Or.inl ⟨by rfl, fun w_ hw_ => by go_simp⟩) hz ?_
              try simp only [Act.put, List.setIfInBounds_toArray, List.set_cons_zero, List.set_cons_succ, List.getElem_toArray, List.getElem_cons_succ, List.getElem_cons_zero]
              refine wpAnyH_take (i := 6) (v := .int .i64 (nB : Int)) rfl (by kernel_rfl) (by kernel_rfl) (by kernel_rfl) (by first | exact fun _ _ _ h => h | exact fun _ _ _ h => nomatch h.1) (Or.inl ⟨by rfl, fun w_ hw_ => by go_simp⟩) hz ?_
              try simp only [Act.put, List.setIfInBounds_toArray, List.set_cons_zero, List.set_cons_succ, List.getElem_toArray, List.getElem_cons_succ, List.getElem_cons_zero]
              refine wpAnyH_take (i := 7) (v := .float .f64 (floatOfInt .f64 (nB : Int))) rfl (by kernel_rfl) (by kernel_rfl) (by kernel_rfl) (by first | exact fun _ _ _ h => h | exact fun _ _ _ h => nomatch h.1) (Or.inl ⟨by rfl, fun w_ hw_ => by go_simp⟩) hz ?_
              try simp only [Act.put, List.setIfInBounds_toArray, List.set_cons_zero, List.set_cons_succ, List.getElem_toArray, List.getElem_cons_succ, List.getElem_cons_zero]
              refine wpAnyH_take (i := 8) (v := .complex .f64 (floatOfInt .f64 (nN : Int)) (floatOfInt .f64 (nB : Int))) rfl (by kernel_rfl) (by kernel_rfl) (by kernel_rfl) (by first | exact fun _ _ _ h => h | exact fun _ _ _ h => nomatch h.1) (Or.inl ⟨by rfl, fun w_ hw_ => by go_simp⟩) hz ?_
              try simp only [Act.put, List.setIfInBounds_toArray, List.set_cons_zero, List.set_cons_succ, List.getElem_toArray, List.getElem_cons_succ, List.getElem_cons_zero]
              refine wpAnyH_ready (rs := [3]) (by kernel_rfl) (by simp) ?_
              refine AllReadyH.cons rfl (fun K hK => ?_) AllReadyH.nil
              rw [if_pos (by rfl)]
              try simp only [List.getElem_toArray, List.getElem_cons_succ, List.getElem_cons_zero]
              go_simp
              refine (HFC.out _ hz).mono ?_
              rintro e x1 ⟨rfl, hcx⟩
              have hz := hz.trans hcx
              refine hK.out _ _ hz (fun _ => ?_)
              clear hK K hcx
              try simp only [Act.put, List.setIfInBounds_toArray, List.set_cons_zero, List.set_cons_succ, List.getElem_toArray, List.getElem_cons_succ, List.getElem_cons_zero]
              refine wpAnyH_take (i := 9) (v := .bool false) rfl (by kernel_rfl) (by kernel_rfl) (by kernel_rfl) (by first | exact fun _ _ _ h => h | exact fun _ _ _ h => nomatch h.1) (Or.inl ⟨by rfl, fun w_ hw_ => by go_simp⟩) hz ?_
              try simp only [Act.put, List.setIfInBounds_toArray, List.set_cons_zero, List.set_cons_succ, List.getElem_toArray, List.getElem_cons_succ, List.getElem_cons_zero]
              refine wpAnyH_take (i := 10) (v := .bool false) rfl (by kernel_rfl) (by kernel_rfl) (by kernel_rfl) (by first | exact fun _ _ _ h => h | exact fun _ _ _ h => nomatch h.1) (Or.inl ⟨by rfl, fun w_ hw_ => by go_simp⟩) hz ?_
              try simp only [Act.put, List.setIfInBounds_toArray, List.set_cons_zero, List.set_cons_succ, List.getElem_toArray, List.getElem_cons_succ, List.getElem_cons_zero]
              refine wpAnyH_take (i := 11) (v := .bool false) rfl (by kernel_rfl) (by kernel_rfl) (by kernel_rfl) (by first | exact fun _ _ _ h => h | exact fun _ _ _ h => nomatch h.1) (Or.inl ⟨by rfl, fun w_ hw_ => by go_simp⟩) hz ?_
              try simp only [Act.put, List.setIfInBounds_toArray, List.set_cons_zero, List.set_cons_succ, List.getElem_toArray, List.getElem_cons_succ, List.getElem_cons_zero]
              refine wpAnyH_take (i := 13) (v := .pointer (some ⟨r, 1, none⟩)) rfl (by kernel_rfl) (by kernel_rfl) (by kernel_rfl) (by first | exact fun _ _ _ h => h | exact fun _ _ _ h => nomatch h.1) (Or.inl ⟨by rfl, fun w_ hw_ => by go_simp⟩) hz ?_
              try simp only [Act.put, List.setIfInBounds_toArray, List.set_cons_zero, List.set_cons_succ, List.getElem_toArray, List.getElem_cons_succ, List.getElem_cons_zero]
              refine wpAnyH_take (i := 14) (v := .int .i64 (n : Int)) rfl (by kernel_rfl) (by kernel_rfl) (by kernel_rfl) (by first | exact fun _ _ _ h => h | exact fun _ _ _ h => nomatch h.1) (Or.inl ⟨by rfl, fun w_ hw_ => by have q_ := HL1.out w_ hw_; go_simp⟩) hz ?_
              try simp only [Act.put, List.setIfInBounds_toArray, List.set_cons_zero, List.set_cons_succ, List.getElem_toArray, List.getElem_cons_succ, List.getElem_cons_zero]
              refine wpAnyH_ready (rs := [12]) (by kernel_rfl) (by simp) ?_
              refine AllReadyH.cons rfl (fun K hK => ?_) AllReadyH.nil
              rw [if_pos (by rfl)]
              try simp only [List.getElem_toArray, List.getElem_cons_succ, List.getElem_cons_zero]
              go_simp
              refine (HNX.out _ hz).mono ?_
              rintro e x2 ⟨rfl, hcx⟩
              have hz := hz.trans hcx
              refine hK.out _ _ hz (fun _ => ?_)
              clear hK K hcx
              try simp only [Act.put, List.setIfInBounds_toArray, List.set_cons_zero, List.set_cons_succ, List.getElem_toArray, List.getElem_cons_succ, List.getElem_cons_zero]
              refine wpAnyH_take (i := 15) (v := .bool false) rfl (by kernel_rfl) (by kernel_rfl) (by kernel_rfl) (by first | exact fun _ _ _ h => h | exact fun _ _ _ h => nomatch h.1) (Or.inl ⟨by rfl, fun w_ hw_ => by go_simp⟩) hz ?_
              try simp only [Act.put, List.setIfInBounds_toArray, List.set_cons_zero, List.set_cons_succ, List.getElem_toArray, List.getElem_cons_succ, List.getElem_cons_zero]
              refine wpAnyH_take (i := 16) (v := .bool false) rfl (by kernel_rfl) (by kernel_rfl) (by kernel_rfl) (by first | exact fun _ _ _ h => h | exact fun _ _ _ h => nomatch h.1) (Or.inl ⟨by rfl, fun w_ hw_ => by go_simp⟩) hz ?_
              try simp only [Act.put, List.setIfInBounds_toArray, List.set_cons_zero, List.set_cons_succ, List.getElem_toArray, List.getElem_cons_succ, List.getElem_cons_zero]
              refine wpAnyH_take (i := 17) (v := .bool false) rfl (by kernel_rfl) (by kernel_rfl) (by kernel_rfl) (by first | exact fun _ _ _ h => h | exact fun _ _ _ h => nomatch h.1) (Or.inl ⟨by rfl, fun w_ hw_ => by go_simp⟩) hz ?_
              try simp only [Act.put, List.setIfInBounds_toArray, List.set_cons_zero, List.set_cons_succ, List.getElem_toArray, List.getElem_cons_succ, List.getElem_cons_zero]
              refine wpAnyH_take (i := 19) (v := .pointer (some ⟨r, 2, none⟩)) rfl (by kernel_rfl) (by kernel_rfl) (by kernel_rfl) (by first | exact fun _ _ _ h => h | exact fun _ _ _ h => nomatch h.1) (Or.inl ⟨by rfl, fun w_ hw_ => by go_simp⟩) hz ?_
              try simp only [Act.put, List.setIfInBounds_toArray, List.set_cons_zero, List.set_cons_succ, List.getElem_toArray, List.getElem_cons_succ, List.getElem_cons_zero]
              refine wpAnyH_take (i := 20) (v := .int .i64 (a1 : Int)) rfl (by kernel_rfl) (by kernel_rfl) (by kernel_rfl) (by first | exact fun _ _ _ h => h | exact fun _ _ _ h => nomatch h.1) (Or.inl ⟨by rfl, fun w_ hw_ => by have q_ := HL2.out w_ hw_; go_simp⟩) hz ?_
              try simp only [Act.put, List.setIfInBounds_toArray, List.set_cons_zero, List.set_cons_succ, List.getElem_toArray, List.getElem_cons_succ, List.getElem_cons_zero]
              refine wpAnyH_take (i := 21) (v := .int .i64 ((a1 : Int) - 1)) rfl (by kernel_rfl) (by kernel_rfl) (by kernel_rfl) (by first | exact fun _ _ _ h => h | exact fun _ _ _ h => nomatch h.1) (Or.inl ⟨by rfl, fun w_ hw_ => by go_simp; exact IntWalk.i64_in _ (by omega)⟩) hz ?_
              try simp only [Act.put, List.setIfInBounds_toArray, List.set_cons_zero, List.set_cons_succ, List.getElem_toArray, List.getElem_cons_succ, List.getElem_cons_zero]
              refine wpAnyH_ready (rs := [18]) (by kernel_rfl) (by simp) ?_
              refine AllReadyH.cons rfl (fun K hK => ?_) AllReadyH.nil
              rw [if_pos (by rfl)]
              try simp only [List.getElem_toArray, List.getElem_cons_succ, List.getElem_cons_zero]
              go_simp
              refine (HAC.out _ hz).mono ?_
              rintro e x3 ⟨rfl, hcx⟩
              have hz := hz.trans hcx
              refine hK.out _ _ hz (fun _ => ?_)
              clear hK K hcx
              try simp only [Act.put, List.setIfInBounds_toArray, List.set_cons_zero, List.set_cons_succ, List.getElem_toArray, List.getElem_cons_succ, List.getElem_cons_zero]
              refine wpAnyH_take (i := 22) (v := .bool false) rfl (by kernel_rfl) (by kernel_rfl) (by kernel_rfl) (by first | exact fun _ _ _ h => h | exact fun _ _ _ h => nomatch h.1) (Or.inl ⟨by rfl, fun w_ hw_ => by go_simp⟩) hz ?_
              try simp only [Act.put, List.setIfInBounds_toArray, List.set_cons_zero, List.set_cons_succ, List.getElem_toArray, List.getElem_cons_succ, List.getElem_cons_zero]
              refine wpAnyH_take (i := 23) (v := .bool false) rfl (by kernel_rfl) (by kernel_rfl) (by kernel_rfl) (by first | exact fun _ _ _ h => h | exact fun _ _ _ h => nomatch h.1) (Or.inl ⟨by rfl, fun w_ hw_ => by go_simp⟩) hz ?_
              try simp only [Act.put, List.setIfInBounds_toArray, List.set_cons_zero, List.set_cons_succ, List.getElem_toArray, List.getElem_cons_succ, List.getElem_cons_zero]
              refine wpAnyH_take (i := 24) (v := .bool false) rfl (by kernel_rfl) (by kernel_rfl) (by kernel_rfl) (by first | exact fun _ _ _ h => h | exact fun _ _ _ h => nomatch h.1) (Or.inl ⟨by rfl, fun w_ hw_ => by go_simp⟩) hz ?_
              try simp only [Act.put, List.setIfInBounds_toArray, List.set_cons_zero, List.set_cons_succ, List.getElem_toArray, List.getElem_cons_succ, List.getElem_cons_zero]
              refine wpAnyH_take (i := 25) (v := .pointer (some ⟨wr.heap.size, 7, none⟩)) rfl (by kernel_rfl) (by kernel_rfl) (by kernel_rfl) (by first | exact fun _ _ _ h => h | exact fun _ _ _ h => nomatch h.1) (Or.inl ⟨by rfl, fun w_ hw_ => by go_simp⟩) hz ?_
              try simp only [Act.put, List.setIfInBounds_toArray, List.set_cons_zero, List.set_cons_succ, List.getElem_toArray, List.getElem_cons_succ, List.getElem_cons_zero]
              refine wpAnyH_take (i := 26) (v := .int .u64 (x.d : Int)) rfl (by kernel_rfl) (by kernel_rfl) (by kernel_rfl) (by first | exact fun _ _ _ h => h | exact fun _ _ _ h => nomatch h.1) (Or.inl ⟨by rfl, fun w_ hw_ => by have q_ := HD7.out w_ hw_; go_simp⟩) hz ?_
              try simp only [Act.put, List.setIfInBounds_toArray, List.set_cons_zero, List.set_cons_succ, List.getElem_toArray, List.getElem_cons_succ, List.getElem_cons_zero]
              refine wpAnyH_take (i := 28) (v := .pointer (some ⟨wr.heap.size, 7, none⟩)) rfl (by kernel_rfl) (by kernel_rfl) (by kernel_rfl) (by first | exact fun _ _ _ h => h | exact fun _ _ _ h => nomatch h.1) (Or.inl ⟨by rfl, fun w_ hw_ => by go_simp⟩) hz ?_
              try simp only [Act.put, List.setIfInBounds_toArray, List.set_cons_zero, List.set_cons_succ, List.getElem_toArray, List.getElem_cons_succ, List.getElem_cons_zero]
              refine wpAnyH_take (i := 29) (v := .int .u64 (x.d : Int)) rfl (by kernel_rfl) (by kernel_rfl) (by kernel_rfl) (by first | exact fun _ _ _ h => h | exact fun _ _ _ h => nomatch h.1) (Or.inl ⟨by rfl, fun w_ hw_ => by have q_ := HD7.out w_ hw_; go_simp⟩) hz ?_
              try simp only [Act.put, List.setIfInBounds_toArray, List.set_cons_zero, List.set_cons_succ, List.getElem_toArray, List.getElem_cons_succ, List.getElem_cons_zero]
              refine wpAnyH_ready (rs := [27]) (by kernel_rfl) (by simp) ?_
              refine AllReadyH.cons rfl (fun K hK => ?_) AllReadyH.nil
              rw [if_pos (by rfl)]
              try simp only [List.getElem_toArray, List.getElem_cons_succ, List.getElem_cons_zero]
              go_simp
              refine (HDU.out _ hz).mono ?_
              rintro e x4 ⟨rfl, hcx⟩
              have hz := hz.trans hcx
              refine hK.out _ _ hz (fun _ => ?_)
              clear hK K hcx
              try simp only [Act.put, List.setIfInBounds_toArray, List.set_cons_zero, List.set_cons_succ, List.getElem_toArray, List.getElem_cons_succ, List.getElem_cons_zero]
              refine wpAnyH_ready (rs := [30]) (by kernel_rfl) (by simp) ?_
              refine AllReadyH.cons rfl (fun K hK => ?_) AllReadyH.nil
              rw [if_pos (by rfl)]
              try simp only [List.getElem_toArray, List.getElem_cons_succ, List.getElem_cons_zero]
              go_simp
              refine (HRU.out _ hz).mono ?_
              rintro e x5 ⟨rfl, hcx⟩
              have hz := hz.trans hcx
              refine hK.out _ _ hz (fun _ => ?_)
              clear hK K hcx
              try simp only [Act.put, List.setIfInBounds_toArray, List.set_cons_zero, List.set_cons_succ, List.getElem_toArray, List.getElem_cons_succ, List.getElem_cons_zero]
              refine wpAnyH_take (i := 31) (v := .bool false) rfl (by kernel_rfl) (by kernel_rfl) (by kernel_rfl) (by first | exact fun _ _ _ h => h | exact fun _ _ _ h => nomatch h.1) (Or.inl ⟨by rfl, fun w_ hw_ => by go_simp⟩) hz ?_
              try simp only [Act.put, List.setIfInBounds_toArray, List.set_cons_zero, List.set_cons_succ, List.getElem_toArray, List.getElem_cons_succ, List.getElem_cons_zero]
              refine wpAnyH_take (i := 32) (v := .bool false) rfl (by kernel_rfl) (by kernel_rfl) (by kernel_rfl) (by first | exact fun _ _ _ h => h | exact fun _ _ _ h => nomatch h.1) (Or.inl ⟨by rfl, fun w_ hw_ => by go_simp⟩) hz ?_
              try simp only [Act.put, List.setIfInBounds_toArray, List.set_cons_zero, List.set_cons_succ, List.getElem_toArray, List.getElem_cons_succ, List.getElem_cons_zero]
              refine wpAnyH_take (i := 33) (v := .bool false) rfl (by kernel_rfl) (by kernel_rfl) (by kernel_rfl) (by first | exact fun _ _ _ h => h | exact fun _ _ _ h => nomatch h.1) (Or.inl ⟨by rfl, fun w_ hw_ => by go_simp⟩) hz ?_
              try simp only [Act.put, List.setIfInBounds_toArray, List.set_cons_zero, List.set_cons_succ, List.getElem_toArray, List.getElem_cons_succ, List.getElem_cons_zero]
              refine wpAnyH_take (i := 34) (v := .int .u64 (lt : Int)) rfl (by kernel_rfl) (by kernel_rfl) (by kernel_rfl) (by first | exact fun _ _ _ h => h | exact fun _ _ _ h => nomatch h.1) (Or.inl ⟨by rfl, fun w_ hw_ => by go_simp⟩) hz ?_
              try simp only [Act.put, List.setIfInBounds_toArray, List.set_cons_zero, List.set_cons_succ, List.getElem_toArray, List.getElem_cons_succ, List.getElem_cons_zero]
              refine wpAnyH_take (i := 35) (v := .int .u64 (lt : Int)) rfl (by kernel_rfl) (by kernel_rfl) (by kernel_rfl) (by first | exact fun _ _ _ h => h | exact fun _ _ _ h => nomatch h.1) (Or.inl ⟨by rfl, fun w_ hw_ => by go_simp⟩) hz ?_
              try simp only [Act.put, List.setIfInBounds_toArray, List.set_cons_zero, List.set_cons_succ, List.getElem_toArray, List.getElem_cons_succ, List.getElem_cons_zero]
              refine wpAnyH_take (i := 36) (v := .bool false) rfl (by kernel_rfl) (by kernel_rfl) (by kernel_rfl) (by first | exact fun _ _ _ h => h | exact fun _ _ _ h => nomatch h.1) (Or.inl ⟨by rfl, fun w_ hw_ => by go_simp⟩) hz ?_
              try simp only [Act.put, List.setIfInBounds_toArray, List.set_cons_zero, List.set_cons_succ, List.getElem_toArray, List.getElem_cons_succ, List.getElem_cons_zero]
              refine wpAnyH_take (i := 37) (v := .bool false) rfl (by kernel_rfl) (by kernel_rfl) (by kernel_rfl) (by first | exact fun _ _ _ h => h | exact fun _ _ _ h => nomatch h.1) (Or.inl ⟨by rfl, fun w_ hw_ => by go_simp⟩) hz ?_
              try simp only [Act.put, List.setIfInBounds_toArray, List.set_cons_zero, List.set_cons_succ, List.getElem_toArray, List.getElem_cons_succ, List.getElem_cons_zero]
              refine wpAnyH_take (i := 38) (v := .bool false) rfl (by kernel_rfl) (by kernel_rfl) (by kernel_rfl) (by first | exact fun _ _ _ h => h | exact fun _ _ _ h => nomatch h.1) (Or.inl ⟨by rfl, fun w_ hw_ => by go_simp⟩) hz ?_
              try simp only [Act.put, List.setIfInBounds_toArray, List.set_cons_zero, List.set_cons_succ, List.getElem_toArray, List.getElem_cons_succ, List.getElem_cons_zero]
              refine wpAnyH_take (i := 39) (v := .bool lo) rfl (by kernel_rfl) (by kernel_rfl) (by kernel_rfl) (by first | exact fun _ _ _ h => h | exact fun _ _ _ h => nomatch h.1) (Or.inl ⟨by rfl, fun w_ hw_ => by go_simp⟩) hz ?_
              try simp only [Act.put, List.setIfInBounds_toArray, List.set_cons_zero, List.set_cons_succ, List.getElem_toArray, List.getElem_cons_succ, List.getElem_cons_zero]
              refine wpAnyH_take (i := 40) (v := .bool lo) rfl (by kernel_rfl) (by kernel_rfl) (by kernel_rfl) (by first | exact fun _ _ _ h => h | exact fun _ _ _ h => nomatch h.1) (Or.inl ⟨by rfl, fun w_ hw_ => by go_simp⟩) hz ?_
              try simp only [Act.put, List.setIfInBounds_toArray, List.set_cons_zero, List.set_cons_succ, List.getElem_toArray, List.getElem_cons_succ, List.getElem_cons_zero]
              refine wpAnyH_take (i := 41) (v := .bool false) rfl (by kernel_rfl) (by kernel_rfl) (by kernel_rfl) (by first | exact fun _ _ _ h => h | exact fun _ _ _ h => nomatch h.1) (Or.inl ⟨by rfl, fun w_ hw_ => by go_simp⟩) hz ?_
              try simp only [Act.put, List.setIfInBounds_toArray, List.set_cons_zero, List.set_cons_succ, List.getElem_toArray, List.getElem_cons_succ, List.getElem_cons_zero]
              refine wpAnyH_take (i := 42) (v := .bool false) rfl (by kernel_rfl) (by kernel_rfl) (by kernel_rfl) (by first | exact fun _ _ _ h => h | exact fun _ _ _ h => nomatch h.1) (Or.inl ⟨by rfl, fun w_ hw_ => by go_simp⟩) hz ?_
              try simp only [Act.put, List.setIfInBounds_toArray, List.set_cons_zero, List.set_cons_succ, List.getElem_toArray, List.getElem_cons_succ, List.getElem_cons_zero]
              refine wpAnyH_take (i := 43) (v := .bool false) rfl (by kernel_rfl) (by kernel_rfl) (by kernel_rfl) (by first | exact fun _ _ _ h => h | exact fun _ _ _ h => nomatch h.1) (Or.inl ⟨by rfl, fun w_ hw_ => by go_simp⟩) hz ?_
              try simp only [Act.put, List.setIfInBounds_toArray, List.set_cons_zero, List.set_cons_succ, List.getElem_toArray, List.getElem_cons_succ, List.getElem_cons_zero]
              refine wpAnyH_take (i := 45) (v := .pointer (some ⟨r, 0, none⟩)) rfl (by kernel_rfl) (by kernel_rfl) (by kernel_rfl) (by first | exact fun _ _ _ h => h | exact fun _ _ _ h => nomatch h.1) (Or.inl ⟨by rfl, fun w_ hw_ => by go_simp⟩) hz ?_
              try simp only [Act.put, List.setIfInBounds_toArray, List.set_cons_zero, List.set_cons_succ, List.getElem_toArray, List.getElem_cons_succ, List.getElem_cons_zero]
              refine wpAnyH_take (i := 46) (v := .slice AL mL.length cl) rfl (by kernel_rfl) (by kernel_rfl) (by kernel_rfl) (by first | exact fun _ _ _ h => h | exact fun _ _ _ h => nomatch h.1) (Or.inl ⟨by rfl, fun w_ hw_ => by have q_ := HL0.out w_ hw_; go_simp⟩) hz ?_
              try simp only [Act.put, List.setIfInBounds_toArray, List.set_cons_zero, List.set_cons_succ, List.getElem_toArray, List.getElem_cons_succ, List.getElem_cons_zero]
              refine wpAnyH_ready (rs := [44]) (by kernel_rfl) (by simp) ?_
              refine AllReadyH.cons rfl (fun K hK => ?_) AllReadyH.nil
              rw [if_pos (by rfl)]
              try simp only [List.getElem_toArray, List.getElem_cons_succ, List.getElem_cons_zero]
              go_simp
              refine (HLS.out _ hz).mono ?_
              rintro e x6 ⟨AG9, cg9, G9, rfl, hag, hmg, hcx⟩
              have hax := HAN.out.chg (chg_none (hz.trans hcx))
              have hz := hz.trans hcx
              refine hK.out _ _ hz (fun _ => ?_)
              clear hK K hcx
              try simp only [Act.put, List.setIfInBounds_toArray, List.set_cons_zero, List.set_cons_succ, List.getElem_toArray, List.getElem_cons_succ, List.getElem_cons_zero]
              refine wpAnyH_ready (rs := [47]) (by kernel_rfl) (by simp) ?_
              refine AllReadyH.cons rfl (fun K hK => ?_) AllReadyH.nil
              rw [if_pos (by rfl)]
              try simp only [List.getElem_toArray, List.getElem_cons_succ, List.getElem_cons_zero]
              go_simp
              refine (hag.same hax (hmg.trans HMP.out.symm) _ _).mono ?_
              rintro e x7 ⟨rfl, hcx⟩
              have hz := hz.trans hcx
              refine hK.out _ _ hz (fun _ => ?_)
              clear hK K hcx
              try simp only [Act.put, List.setIfInBounds_toArray, List.set_cons_zero, List.set_cons_succ, List.getElem_toArray, List.getElem_cons_succ, List.getElem_cons_zero]
              refine wpAnyH_take (i := 48) (v := .bool false) rfl (by kernel_rfl) (by kernel_rfl) (by kernel_rfl) (by first | exact fun _ _ _ h => h | exact fun _ _ _ h => nomatch h.1) (Or.inl ⟨by rfl, fun w_ hw_ => by go_simp⟩) hz ?_
              try simp only [Act.put, List.setIfInBounds_toArray, List.set_cons_zero, List.set_cons_succ, List.getElem_toArray, List.getElem_cons_succ, List.getElem_cons_zero]
              refine wpAnyH_take (i := 49) (v := .bool false) rfl (by kernel_rfl) (by kernel_rfl) (by kernel_rfl) (by first | exact fun _ _ _ h => h | exact fun _ _ _ h => nomatch h.1) (Or.inl ⟨by rfl, fun w_ hw_ => by go_simp⟩) hz ?_
              try simp only [Act.put, List.setIfInBounds_toArray, List.set_cons_zero, List.set_cons_succ, List.getElem_toArray, List.getElem_cons_succ, List.getElem_cons_zero]
              refine wpAnyH_done (by kernel_rfl) ?_ _
              go_wp2
              go_roundw
              case rel => exact ⟨j + 1, P1, n, a1, by go_num, by omega, by omega, Lib.hid ((HJ.out.quiet hz).forget), Lib.hid (HC.out.trans hz)⟩
              case measure => simp [intOf]; omega
          · have q1 : (x.kind == 1) = false := by simpa using hk1
            by_cases hk2 : x.kind = 2
            · have q2 : (x.kind == 2) = true := by simpa using hk2
              as_aux_lemma =>
                clear hk0 hk1 hk2
                go_wp2_with (first | ((with_reducible show wpList _ _ _ (⟨some 101, .load _ _, _, _, _, _⟩ :: _) _ _); refine wpList_load_Mid (cs := lac x) rfl rfl rfl HRA.out Try.underlying51 rfl sizeLa ?_) | ((with_reducible show wpList _ _ _ (⟨some 13, .alloc _, _, _, _, _⟩ :: _) _ _); refine wpList_alloc_Row rfl rfl (lac la0) zeroLa ?_; intro w3 hr3 hc3 hs3; have HR3 := Lib.hid hr3; have HC3 := Lib.hid hc3; have HS3 := Lib.hid hs3; clear hr3 hc3 hs3) | ((with_reducible show wpList _ _ _ (⟨none, .store _ _ _, _, _, _, _⟩ :: _) _ _); refine wpList_store_Row (xs := lac x) rfl rfl rfl HR3.out rfl rfl sizeLa (lac_one x) ?_; intro w4 hr4 hc4 hs4; have HB := Lib.hid hr4; have HC4 := Lib.hid (hc4 none_ wr HC3.out (fun h => absurd h (Nat.lt_irrefl _))); have HJ := Lib.hid (HJ.out.fresh HC4.out (by rw [hs4, HS3.out]; omega)); have HC := Lib.hid (HC.out.trans HC4.out); have c0 : w4.cell? ⟨wr.heap.size, 0, none⟩ = some (.int .i64 x.kind) := HB.out.cell 0; skip; clear hr4 hc4 hs4) | ((with_reducible show Calls _ 23 _ _ _); refine (jRFlight HJ.out).mono ?_; rintro e wf ⟨rfl, rfl⟩; skip) | ((with_reducible show Calls _ 11 _ _ _); refine (jLast HJ.out).mono ?_; rintro e w8 ⟨rfl, hc⟩; have HJ := Lib.hid (HJ.out.quiet hc); have HB := Lib.hid (HB.out.chg hc (fun h => h)); have HC := Lib.hid (HC.out.trans hc); clear hc) | ((with_reducible show Calls _ 24 _ _ _); refine (jRLast HJ.out).mono ?_; rintro e wf ⟨rfl, rfl⟩; skip))
                have HP2 : Hid (∀ y, Chg (Sj g (fun b => b = wr.heap.size)) w4 y → y.cell? ⟨wr.heap.size, 2, none⟩ = some (.int .u64 (x.p.at_ : Int))) := Lib.hid (fun y hy => (HB.out.chg hy (fun h => h.2 rfl)).cell 2)
                have HP7 : Hid (∀ y, Chg (Sj g (fun b => b = wr.heap.size)) w4 y → y.cell? ⟨wr.heap.size, 7, none⟩ = some (.int .u64 (x.d : Int))) := Lib.hid (fun y hy => (HB.out.chg hy (fun h => h.2 rfl)).cell 7)
                refine wp_region_held_drew (S := fun y => Chg (Sj g (fun b => b = wr.heap.size)) w4 y) (by kernel_rfl) ((Chg.refl (Sj g (fun b => b = wr.heap.size)) w4).drew) (fun hch0 => ?_)
                have hz : Chg (Sj g (fun b => b = wr.heap.size)) w4 w4.drew := (Chg.refl (Sj g (fun b => b = wr.heap.size)) w4).drew
                have hq : Chg none_ w4 w4.drew := (Chg.refl none_ w4).drew
                generalize w4.drew = wz at hz hq ⊢
                clear hch0
                refine wpAnyH_take (i := 0) (v := .pointer (some ⟨wr.heap.size, 1, none⟩)) rfl (by kernel_rfl) (by kernel_rfl) (by kernel_rfl) (by first | exact fun _ _ _ h => h | exact fun _ _ _ h => nomatch h.1) (Or.inl ⟨by rfl, fun w_ hw_ => by go_simp⟩) hz ?_
                try simp only [Act.put, List.setIfInBounds_toArray, List.set_cons_zero, List.set_cons_succ, List.getElem_toArray, List.getElem_cons_zero]
                refine wpAnyH_take (i := 1) (v := .pointer (some ⟨wr.heap.size, 2, none⟩)) rfl (by kernel_rfl) (by kernel_rfl) (by kernel_rfl) (by first | exact fun _ _ _ h => h | exact fun _ _ _ h => nomatch h.1) (Or.inl ⟨by rfl, fun w_ hw_ => by go_simp⟩) hz ?_
                try simp only [Act.put, List.setIfInBounds_toArray, List.set_cons_zero, List.set_cons_succ, List.getElem_toArray, List.getElem_cons_succ, List.getElem_cons_zero]
                refine wpAnyH_take (i := 2) (v := .int .u64 (x.p.at_ : Int)) rfl (by kernel_rfl) (by kernel_rfl) (by kernel_rfl) (by first | exact fun _ _ _ h => h | exact fun _ _ _ h => nomatch h.1) (Or.inl ⟨by rfl, fun w_ hw_ => by have q_ := HP2.out w_ hw_; go_simp⟩) hz ?_
                try simp only [Act.put, List.setIfInBounds_toArray, List.set_cons_zero, List.set_cons_succ, List.getElem_toArray, List.getElem_cons_succ, List.getElem_cons_zero]
                refine wpAnyH_take (i := 3) (v := .pointer (some ⟨wr.heap.size, 7, none⟩)) rfl (by kernel_rfl) (by kernel_rfl) (by kernel_rfl) (by first | exact fun _ _ _ h => h | exact fun _ _ _ h => nomatch h.1) (Or.inl ⟨by rfl, fun w_ hw_ => by go_simp⟩) hz ?_
                try simp only [Act.put, List.setIfInBounds_toArray, List.set_cons_zero, List.set_cons_succ, List.getElem_toArray, List.getElem_cons_succ, List.getElem_cons_zero]
                refine wpAnyH_take (i := 4) (v := .int .u64 (x.d : Int)) rfl (by kernel_rfl) (by kernel_rfl) (by kernel_rfl) (by first | exact fun _ _ _ h => h | exact fun _ _ _ h => nomatch h.1) (Or.inl ⟨by rfl, fun w_ hw_ => by have q_ := HP7.out w_ hw_; go_simp⟩) hz ?_
                try simp only [Act.put, List.setIfInBounds_toArray, List.set_cons_zero, List.set_cons_succ, List.getElem_toArray, List.getElem_cons_succ, List.getElem_cons_zero]
                refine wpAnyH_take (i := 6) (v := .pointer (some ⟨wr.heap.size, 1, none⟩)) rfl (by kernel_rfl) (by kernel_rfl) (by kernel_rfl) (by first | exact fun _ _ _ h => h | exact fun _ _ _ h => nomatch h.1) (Or.inl ⟨by rfl, fun w_ hw_ => by go_simp⟩) hz ?_
                try simp only [Act.put, List.setIfInBounds_toArray, List.set_cons_zero, List.set_cons_succ, List.getElem_toArray, List.getElem_cons_succ, List.getElem_cons_zero]
                refine wpAnyH_take (i := 7) (v := .pointer (some ⟨wr.heap.size, 2, none⟩)) rfl (by kernel_rfl) (by kernel_rfl) (by kernel_rfl) (by first | exact fun _ _ _ h => h | exact fun _ _ _ h => nomatch h.1) (Or.inl ⟨by rfl, fun w_ hw_ => by go_simp⟩) hz ?_
                try simp only [Act.put, List.setIfInBounds_toArray, List.set_cons_zero, List.set_cons_succ, List.getElem_toArray, List.getElem_cons_succ, List.getElem_cons_zero]
                refine wpAnyH_take (i := 8) (v := .int .u64 (x.p.at_ : Int)) rfl (by kernel_rfl) (by kernel_rfl) (by kernel_rfl) (by first | exact fun _ _ _ h => h | exact fun _ _ _ h => nomatch h.1) (Or.inl ⟨by rfl, fun w_ hw_ => by have q_ := HP2.out w_ hw_; go_simp⟩) hz ?_
                try simp only [Act.put, List.setIfInBounds_toArray, List.set_cons_zero, List.set_cons_succ, List.getElem_toArray, List.getElem_cons_succ, List.getElem_cons_zero]
                refine wpAnyH_take (i := 9) (v := .pointer (some ⟨wr.heap.size, 7, none⟩)) rfl (by kernel_rfl) (by kernel_rfl) (by kernel_rfl) (by first | exact fun _ _ _ h => h | exact fun _ _ _ h => nomatch h.1) (Or.inl ⟨by rfl, fun w_ hw_ => by go_simp⟩) hz ?_
                try simp only [Act.put, List.setIfInBounds_toArray, List.set_cons_zero, List.set_cons_succ, List.getElem_toArray, List.getElem_cons_succ, List.getElem_cons_zero]
                refine wpAnyH_take (i := 10) (v := .int .u64 (x.d : Int)) rfl (by kernel_rfl) (by kernel_rfl) (by kernel_rfl) (by first | exact fun _ _ _ h => h | exact fun _ _ _ h => nomatch h.1) (Or.inl ⟨by rfl, fun w_ hw_ => by have q_ := HP7.out w_ hw_; go_simp⟩) hz ?_
                try simp only [Act.put, List.setIfInBounds_toArray, List.set_cons_zero, List.set_cons_succ, List.getElem_toArray, List.getElem_cons_succ, List.getElem_cons_zero]
                refine wpAnyH_ready (rs := [5]) (by kernel_rfl) (by simp) ?_
                refine AllReadyH.cons rfl (fun K hK => ?_) AllReadyH.nil
                rw [if_pos (by rfl)]
                try simp only [List.getElem_toArray, List.getElem_cons_succ, List.getElem_cons_zero]
                go_simp
                refine (jLost x.p.at_ x.d (HJ.out.quiet hq)).mono ?_
                rintro e w5 ⟨AG, cg, G, rfl, ha, hm, hj, hcx⟩
                have HJ := Lib.hid hj
                have HB := Lib.hid ((HB.out.chg hq (fun h => h)).chg hcx (fun h => h.2 rfl))
                have HC := Lib.hid ((HC.out.trans hq).andThen hcx (fun b hb h => absurd h.1 (by have h2 := HG0.out; omega)))
                have HA1 := Lib.hid ha
                have HM1 := Lib.hid hm
                clear ha hm hj hq
                have hz := hz.trans hcx
                refine hK.out _ _ hz (fun _ => ?_)
                clear hK K hcx
                try simp only [Act.put, List.setIfInBounds_toArray, List.set_cons_zero, List.set_cons_succ, List.getElem_toArray, List.getElem_cons_succ, List.getElem_cons_zero]
                refine wpAnyH_ready (rs := [11]) (by kernel_rfl) (by simp) ?_
                refine AllReadyH.cons rfl (fun K hK => ?_) AllReadyH.nil
                rw [if_pos (by rfl)]
                try simp only [List.getElem_toArray, List.getElem_cons_succ, List.getElem_cons_zero]
                go_simp
                refine (jRLost x.p.at_ x.d HJ.out HXT.out.1).mono ?_
                rintro e w6 ⟨AH, ch, H, rfl, ha, hm, hj, hcr⟩
                have hcx := HJ.out.rS hcr
                have HJ := Lib.hid hj
                have HB := Lib.hid (HB.out.chg hcx (fun h => h.2 rfl))
                have HC := Lib.hid (HC.out.andThen hcx (fun b hb h => absurd h.1 (by have h2 := HG0.out; omega)))
                have HA1 := Lib.hid (HA1.out.chg hcr)
                have HA2 := Lib.hid ha
                have HM2 := Lib.hid hm
                clear ha hm hj hcr
                have hz := hz.trans hcx
                refine hK.out _ _ hz (fun _ => ?_)
                clear hK K hcx
                try simp only [Act.put, List.setIfInBounds_toArray, List.set_cons_zero, List.set_cons_succ, List.getElem_toArray, List.getElem_cons_succ, List.getElem_cons_zero]
                refine wpAnyH_ready (rs := [12]) (by kernel_rfl) (by simp) ?_
                refine AllReadyH.cons rfl (fun K hK => ?_) AllReadyH.nil
                rw [if_pos (by rfl)]
                try simp only [List.getElem_toArray, List.getElem_cons_succ, List.getElem_cons_zero]
                go_simp
                refine (HA1.out.same HA2.out (HM1.out.trans HM2.out.symm) _ _).mono ?_
                rintro e w7 ⟨rfl, hc⟩
                have hcx := chg_none (S := Sj g (fun b => b = wr.heap.size)) hc
                have HJ := Lib.hid (HJ.out.quiet hc)
                have HB := Lib.hid (HB.out.chg hc (fun h => h))
                have HC := Lib.hid (HC.out.trans hc)
                clear hc
                have hz := hz.trans hcx
                refine hK.out _ _ hz (fun _ => ?_)
                clear hK K hcx
                try simp only [Act.put, List.setIfInBounds_toArray, List.set_cons_zero, List.set_cons_succ, List.getElem_toArray, List.getElem_cons_succ, List.getElem_cons_zero]
                refine wpAnyH_take (i := 13) (v := .bool true) rfl (by kernel_rfl) (by kernel_rfl) (by kernel_rfl) (by first | exact fun _ _ _ h => h | exact fun _ _ _ h => nomatch h.1) (Or.inl ⟨by rfl, fun w_ hw_ => by go_simp⟩) hz ?_
                try simp only [Act.put, List.setIfInBounds_toArray, List.set_cons_zero, List.set_cons_succ, List.getElem_toArray, List.getElem_cons_succ, List.getElem_cons_zero]
                refine wpAnyH_done (by kernel_rfl) ?_ _
                clear hz
                generalize P.filter (fun s => !lostS a x.d x.p.at_ s) = P1 at *
                go_wp2_with (first | ((with_reducible show Calls _ 23 _ _ _); refine (jRFlight HJ.out).mono ?_; rintro e wf ⟨rfl, rfl⟩; skip) | ((with_reducible show Calls _ 11 _ _ _); refine (jLast HJ.out).mono ?_; rintro e w8 ⟨rfl, hc⟩; have HJ := Lib.hid (HJ.out.quiet hc); have HB := Lib.hid (HB.out.chg hc (fun h => h)); have HC := Lib.hid (HC.out.trans hc); clear hc) | ((with_reducible show Calls _ 24 _ _ _); refine (jRLast HJ.out).mono ?_; rintro e wf ⟨rfl, rfl⟩; skip))
                obtain ⟨AL, cl, mL, hrow, hans, hmp⟩ := jL HJ.out
                have hok := HJ.out.ok.1
                have ha0 : (0 : Int) ≤ (a : Int) := by omega
                have ha1 : (a : Int) ≤ 1000000 := by have h1 := hok.above; have h2 := hok.next; omega
                have HRO := Lib.hid hrow
                have HAN := Lib.hid hans
                have HMP := Lib.hid hmp
                have HL0 : Hid (∀ y, Chg none_ w8 y → y.cell? ⟨r, 0, none⟩ = some (.slice AL mL.length cl)) := Lib.hid (fun y hy => (HRO.out.chg hy (fun h => h)).cell 0)
                have HL1 : Hid (∀ y, Chg none_ w8 y → y.cell? ⟨r, 1, none⟩ = some (.int .i64 (n : Int))) := Lib.hid (fun y hy => (HRO.out.chg hy (fun h => h)).cell 1)
                have HL2 : Hid (∀ y, Chg none_ w8 y → y.cell? ⟨r, 2, none⟩ = some (.int .i64 (a : Int))) := Lib.hid (fun y hy => (HRO.out.chg hy (fun h => h)).cell 2)
                have HD7 : Hid (∀ y, Chg none_ w8 y → y.cell? ⟨wr.heap.size, 7, none⟩ = some (.int .u64 (x.d : Int))) := Lib.hid (fun y hy => (HB.out.chg hy (fun h => h)).cell 7)
                have HFC : Hid (∀ y, Chg none_ w8 y → Calls Try.prog 16 #[.pointer (some ⟨g, 0, none⟩)] y fun e w' => e = .returned (.complex .f64 (floatOfInt .f64 ((flNs P1 : Nat) : Int)) (floatOfInt .f64 ((flBs P1 : Nat) : Int))) ∧ Chg none_ y w') := Lib.hid (fun y hy => jFlight (HJ.out.quiet hy))
                have HNX : Hid (∀ y, Chg none_ w8 y → Calls Try.prog 17 #[.pointer (some ⟨g, 0, none⟩)] y fun e w' => e = .returned (.int .i64 (n : Int)) ∧ Chg none_ y w') := Lib.hid (fun y hy => jNext (HJ.out.quiet hy))
                have HAC : Hid (∀ y, Chg none_ w8 y → Calls Try.prog 18 #[.pointer (some ⟨g, 0, none⟩)] y fun e w' => e = .returned (.int .i64 ((a : Int) - 1)) ∧ Chg none_ y w') := Lib.hid (fun y hy => jAcked (HJ.out.quiet hy))
                have HDU : Hid (∀ y, Chg none_ w8 y → Calls Try.prog 15 #[.pointer (some ⟨g, 0, none⟩), .int .u64 (x.d : Int)] y fun e w' => e = .returned (.int .u64 ((dueP a x.d P1 : Nat) : Int)) ∧ Chg none_ y w') := Lib.hid (fun y hy => jDue x.d (HJ.out.quiet hy))
                have HRU : Hid (∀ y, Chg none_ w8 y → Calls Try.prog 25 #[.pointer (some ⟨r, 0, none⟩), .int .u64 (x.d : Int)] y fun e w' => e = .returned (.int .u64 ((dueP a x.d P1 : Nat) : Int)) ∧ Chg none_ y w') := Lib.hid (fun y hy => jRDue x.d (HJ.out.quiet hy) HXT.out.1)
                have HLS : Hid (∀ y, Chg none_ w8 y → Calls Try.prog 13 #[.pointer (some ⟨g, 0, none⟩)] y fun e w' => ∃ AG cg G, e = .returned (.slice AG G.length cg) ∧ Ans w' r AG G ∧ G.map It.pl = P1 ∧ Chg none_ y w') := Lib.hid (fun y hy => jList (HJ.out.quiet hy))
                have hO1 : FloatKind.f64.format.order (floatOfInt .f64 ((flNs P1 : Nat) : Int)) (floatOfInt .f64 ((flNs P1 : Nat) : Int)) = some .eq := dbl_eq _ (by have h1 := flNs_le' P1; have h2 := hok.len; omega)
                have hO2 : FloatKind.f64.format.order (floatOfInt .f64 ((flBs P1 : Nat) : Int)) (floatOfInt .f64 ((flBs P1 : Nat) : Int)) = some .eq := dbl_eq _ (by have h1 := flBs_le' P1 (fun s hs => (hok.each s hs).2.2); have h2 := hok.len; omega)
                generalize flNs P1 = nN at *
                generalize flBs P1 = nB at *
                generalize (lastP P1).1 = lt at *
                generalize (lastP P1).2 = lo at *
                generalize dueP a x.d P1 = du at *
                clear hrow hans hmp hok
                refine wp_region_held_drew (S := fun y => Chg none_ w8 y) (by kernel_rfl) ((Chg.refl none_ w8).drew) (fun hch0 => ?_)
                have hz : Chg none_ w8 w8.drew := (Chg.refl none_ w8).drew
                generalize w8.drew = wz at hz ⊢
                clear hch0
                refine wpAnyH_take (i := 0) (v := .bool true) rfl (by kernel_rfl) (by kernel_rfl) (by kernel_rfl) (by first | exact fun _ _ _ h => h | exact fun _ _ _ h => nomatch h.1) (Or.inl ⟨by rfl, fun w_ hw_ => by go_simp⟩) hz ?_
                try simp only [Act.put, List.setIfInBounds_toArray, List.set_cons_zero, List.set_cons_succ, List.getElem_toArray, List.getElem_cons_zero]
                refine wpAnyH_take (i := 1) (v := .bool false) rfl (by kernel_rfl) (by kernel_rfl) (by kernel_rfl) (by first | exact fun _ _ _ h => h | exact fun _ _ _ h => nomatch h.1) (Or.inl ⟨by rfl, fun w_ hw_ => by go_simp⟩) hz ?_
                try simp only [Act.put, List.setIfInBounds_toArray, List.set_cons_zero, List.set_cons_succ, List.getElem_toArray, List.getElem_cons_succ, List.getElem_cons_zero]
                refine wpAnyH_take (i := 2) (v := .bool false) rfl (by kernel_rfl) (by kernel_rfl) (by kernel_rfl) (by first | exact fun _ _ _ h => h | exact fun _ _ _ h => nomatch h.1) (Or.inl ⟨by rfl, fun w_ hw_ => by go_simp⟩) hz ?_
                try simp only [Act.put, List.setIfInBounds_toArray, List.set_cons_zero, List.set_cons_succ, List.getElem_toArray, List.getElem_cons_succ, List.getElem_cons_zero]
                refine wpAnyH_take (i := 4) (v := .int .i64 (nN : Int)) rfl (by kernel_rfl) (by kernel_rfl) (by kernel_rfl) (by first | exact fun _ _ _ h => h | exact fun _ _ _ h => nomatch h.1) (Or.inl ⟨by rfl, fun w_ hw_ => by go_simp⟩) hz ?_
                try simp only [Act.put, List.setIfInBounds_toArray, List.set_cons_zero, List.set_cons_succ, List.getElem_toArray, List.getElem_cons_succ, List.getElem_cons_zero]
                refine wpAnyH_take (i := 5) (v := .float .f64 (floatOfInt .f64 (nN : Int))) rfl (by kernel_rfl) (by kernel_rfl) (by kernel_rfl) (by first | exact fun _ _ _ h => h | exact fun _ _ _ h => nomatch h.1) (Or.inl ⟨by rfl, fun w_ hw_ => by go_simp⟩) hz ?_
                try simp only [Act.put, List.setIfInBounds_toArray, List.set_cons_zero, List.set_cons_succ, List.getElem_toArray, List.getElem_cons_succ, List.getElem_cons_zero]
                refine wpAnyH_take (i := 6) (v := .int .i64 (nB : Int)) rfl (by kernel_rfl) (by kernel_rfl) (by kernel_rfl) (by first | exact fun _ _ _ h => h | exact fun _ _ _ h => nomatch h.1) (Or.inl ⟨by rfl, fun w_ hw_ => by go_simp⟩) hz ?_
                try simp only [Act.put, List.setIfInBounds_toArray, List.set_cons_zero, List.set_cons_succ, List.getElem_toArray, List.getElem_cons_succ, List.getElem_cons_zero]
                refine wpAnyH_take (i := 7) (v := .float .f64 (floatOfInt .f64 (nB : Int))) rfl (by kernel_rfl) (by kernel_rfl) (by kernel_rfl) (by first | exact fun _ _ _ h => h | exact fun _ _ _ h => nomatch h.1) (Or.inl ⟨by rfl, fun w_ hw_ => by go_simp⟩) hz ?_
                try simp only [Act.put, List.setIfInBounds_toArray, List.set_cons_zero, List.set_cons_succ, List.getElem_toArray, List.getElem_cons_succ, List.getElem_cons_zero]
                refine wpAnyH_take (i := 8) (v := .complex .f64 (floatOfInt .f64 (nN : Int)) (floatOfInt .f64 (nB : Int))) rfl (by kernel_rfl) (by kernel_rfl) (by kernel_rfl) (by first | exact fun _ _ _ h => h | exact fun _ _ _ h => nomatch h.1) (Or.inl ⟨by rfl, fun w_ hw_ => by go_simp⟩) hz ?_
                try simp only [Act.put, List.setIfInBounds_toArray, List.set_cons_zero, List.set_cons_succ, List.getElem_toArray, List.getElem_cons_succ, List.getElem_cons_zero]
                refine wpAnyH_ready (rs := [3]) (by kernel_rfl) (by simp) ?_
                refine AllReadyH.cons rfl (fun K hK => ?_) AllReadyH.nil
                rw [if_pos (by rfl)]
                try simp only [List.getElem_toArray, List.getElem_cons_succ, List.getElem_cons_zero]
                go_simp
                refine (HFC.out _ hz).mono ?_
                rintro e x1 ⟨rfl, hcx⟩
                have hz := hz.trans hcx
                refine hK.out _ _ hz (fun _ => ?_)
                clear hK K hcx
                try simp only [Act.put, List.setIfInBounds_toArray, List.set_cons_zero, List.set_cons_succ, List.getElem_toArray, List.getElem_cons_succ, List.getElem_cons_zero]
                refine wpAnyH_take (i := 9) (v := .bool false) rfl (by kernel_rfl) (by kernel_rfl) (by kernel_rfl) (by first | exact fun _ _ _ h => h | exact fun _ _ _ h => nomatch h.1) (Or.inl ⟨by rfl, fun w_ hw_ => by go_simp⟩) hz ?_
                try simp only [Act.put, List.setIfInBounds_toArray, List.set_cons_zero, List.set_cons_succ, List.getElem_toArray, List.getElem_cons_succ, List.getElem_cons_zero]
                refine wpAnyH_take (i := 10) (v := .bool false) rfl (by kernel_rfl) (by kernel_rfl) (by kernel_rfl) (by first | exact fun _ _ _ h => h | exact fun _ _ _ h => nomatch h.1) (Or.inl ⟨by rfl, fun w_ hw_ => by go_simp⟩) hz ?_
                try simp only [Act.put, List.setIfInBounds_toArray, List.set_cons_zero, List.set_cons_succ, List.getElem_toArray, List.getElem_cons_succ, List.getElem_cons_zero]
                refine wpAnyH_take (i := 11) (v := .bool false) rfl (by kernel_rfl) (by kernel_rfl) (by kernel_rfl) (by first | exact fun _ _ _ h => h | exact fun _ _ _ h => nomatch h.1) (Or.inl ⟨by rfl, fun w_ hw_ => by go_simp⟩) hz ?_
                try simp only [Act.put, List.setIfInBounds_toArray, List.set_cons_zero, List.set_cons_succ, List.getElem_toArray, List.getElem_cons_succ, List.getElem_cons_zero]
                refine wpAnyH_take (i := 13) (v := .pointer (some ⟨r, 1, none⟩)) rfl (by kernel_rfl) (by kernel_rfl) (by kernel_rfl) (by first | exact fun _ _ _ h => h | exact fun _ _ _ h => nomatch h.1) (Or.inl ⟨by rfl, fun w_ hw_ => by go_simp⟩) hz ?_
                try simp only [Act.put, List.setIfInBounds_toArray, List.set_cons_zero, List.set_cons_succ, List.getElem_toArray, List.getElem_cons_succ, List.getElem_cons_zero]
                refine wpAnyH_take (i := 14) (v := .int .i64 (n : Int)) rfl (by kernel_rfl) (by kernel_rfl) (by kernel_rfl) (by first | exact fun _ _ _ h => h | exact fun _ _ _ h => nomatch h.1) (Or.inl ⟨by rfl, fun w_ hw_ => by have q_ := HL1.out w_ hw_; go_simp⟩) hz ?_
                try simp only [Act.put, List.setIfInBounds_toArray, List.set_cons_zero, List.set_cons_succ, List.getElem_toArray, List.getElem_cons_succ, List.getElem_cons_zero]
                refine wpAnyH_ready (rs := [12]) (by kernel_rfl) (by simp) ?_
                refine AllReadyH.cons rfl (fun K hK => ?_) AllReadyH.nil
                rw [if_pos (by rfl)]
                try simp only [List.getElem_toArray, List.getElem_cons_succ, List.getElem_cons_zero]
                go_simp
                refine (HNX.out _ hz).mono ?_
                rintro e x2 ⟨rfl, hcx⟩
                have hz := hz.trans hcx
                refine hK.out _ _ hz (fun _ => ?_)
                clear hK K hcx
                try simp only [Act.put, List.setIfInBounds_toArray, List.set_cons_zero, List.set_cons_succ, List.getElem_toArray, List.getElem_cons_succ, List.getElem_cons_zero]
                refine wpAnyH_take (i := 15) (v := .bool false) rfl (by kernel_rfl) (by kernel_rfl) (by kernel_rfl) (by first | exact fun _ _ _ h => h | exact fun _ _ _ h => nomatch h.1) (Or.inl ⟨by rfl, fun w_ hw_ => by go_simp⟩) hz ?_
                try simp only [Act.put, List.setIfInBounds_toArray, List.set_cons_zero, List.set_cons_succ, List.getElem_toArray, List.getElem_cons_succ, List.getElem_cons_zero]
                refine wpAnyH_take (i := 16) (v := .bool false) rfl (by kernel_rfl) (by kernel_rfl) (by kernel_rfl) (by first | exact fun _ _ _ h => h | exact fun _ _ _ h => nomatch h.1) (Or.inl ⟨by rfl, fun w_ hw_ => by go_simp⟩) hz ?_
                try simp only [Act.put, List.setIfInBounds_toArray, List.set_cons_zero, List.set_cons_succ, List.getElem_toArray, List.getElem_cons_succ, List.getElem_cons_zero]
                refine wpAnyH_take (i := 17) (v := .bool false) rfl (by kernel_rfl) (by kernel_rfl) (by kernel_rfl) (by first | exact fun _ _ _ h => h | exact fun _ _ _ h => nomatch h.1) (Or.inl ⟨by rfl, fun w_ hw_ => by go_simp⟩) hz ?_
                try simp only [Act.put, List.setIfInBounds_toArray, List.set_cons_zero, List.set_cons_succ, List.getElem_toArray, List.getElem_cons_succ, List.getElem_cons_zero]
                refine wpAnyH_take (i := 19) (v := .pointer (some ⟨r, 2, none⟩)) rfl (by kernel_rfl) (by kernel_rfl) (by kernel_rfl) (by first | exact fun _ _ _ h => h | exact fun _ _ _ h => nomatch h.1) (Or.inl ⟨by rfl, fun w_ hw_ => by go_simp⟩) hz ?_
                try simp only [Act.put, List.setIfInBounds_toArray, List.set_cons_zero, List.set_cons_succ, List.getElem_toArray, List.getElem_cons_succ, List.getElem_cons_zero]
                refine wpAnyH_take (i := 20) (v := .int .i64 (a : Int)) rfl (by kernel_rfl) (by kernel_rfl) (by kernel_rfl) (by first | exact fun _ _ _ h => h | exact fun _ _ _ h => nomatch h.1) (Or.inl ⟨by rfl, fun w_ hw_ => by have q_ := HL2.out w_ hw_; go_simp⟩) hz ?_
                try simp only [Act.put, List.setIfInBounds_toArray, List.set_cons_zero, List.set_cons_succ, List.getElem_toArray, List.getElem_cons_succ, List.getElem_cons_zero]
                refine wpAnyH_take (i := 21) (v := .int .i64 ((a : Int) - 1)) rfl (by kernel_rfl) (by kernel_rfl) (by kernel_rfl) (by first | exact fun _ _ _ h => h | exact fun _ _ _ h => nomatch h.1) (Or.inl ⟨by rfl, fun w_ hw_ => by go_simp; exact IntWalk.i64_in _ (by omega)⟩) hz ?_
                try simp only [Act.put, List.setIfInBounds_toArray, List.set_cons_zero, List.set_cons_succ, List.getElem_toArray, List.getElem_cons_succ, List.getElem_cons_zero]
                refine wpAnyH_ready (rs := [18]) (by kernel_rfl) (by simp) ?_
                refine AllReadyH.cons rfl (fun K hK => ?_) AllReadyH.nil
                rw [if_pos (by rfl)]
                try simp only [List.getElem_toArray, List.getElem_cons_succ, List.getElem_cons_zero]
                go_simp
                refine (HAC.out _ hz).mono ?_
                rintro e x3 ⟨rfl, hcx⟩
                have hz := hz.trans hcx
                refine hK.out _ _ hz (fun _ => ?_)
                clear hK K hcx
                try simp only [Act.put, List.setIfInBounds_toArray, List.set_cons_zero, List.set_cons_succ, List.getElem_toArray, List.getElem_cons_succ, List.getElem_cons_zero]
                refine wpAnyH_take (i := 22) (v := .bool false) rfl (by kernel_rfl) (by kernel_rfl) (by kernel_rfl) (by first | exact fun _ _ _ h => h | exact fun _ _ _ h => nomatch h.1) (Or.inl ⟨by rfl, fun w_ hw_ => by go_simp⟩) hz ?_
                try simp only [Act.put, List.setIfInBounds_toArray, List.set_cons_zero, List.set_cons_succ, List.getElem_toArray, List.getElem_cons_succ, List.getElem_cons_zero]
                refine wpAnyH_take (i := 23) (v := .bool false) rfl (by kernel_rfl) (by kernel_rfl) (by kernel_rfl) (by first | exact fun _ _ _ h => h | exact fun _ _ _ h => nomatch h.1) (Or.inl ⟨by rfl, fun w_ hw_ => by go_simp⟩) hz ?_
                try simp only [Act.put, List.setIfInBounds_toArray, List.set_cons_zero, List.set_cons_succ, List.getElem_toArray, List.getElem_cons_succ, List.getElem_cons_zero]
                refine wpAnyH_take (i := 24) (v := .bool false) rfl (by kernel_rfl) (by kernel_rfl) (by kernel_rfl) (by first | exact fun _ _ _ h => h | exact fun _ _ _ h => nomatch h.1) (Or.inl ⟨by rfl, fun w_ hw_ => by go_simp⟩) hz ?_
                try simp only [Act.put, List.setIfInBounds_toArray, List.set_cons_zero, List.set_cons_succ, List.getElem_toArray, List.getElem_cons_succ, List.getElem_cons_zero]
                refine wpAnyH_take (i := 25) (v := .pointer (some ⟨wr.heap.size, 7, none⟩)) rfl (by kernel_rfl) (by kernel_rfl) (by kernel_rfl) (by first | exact fun _ _ _ h => h | exact fun _ _ _ h => nomatch h.1) (Or.inl ⟨by rfl, fun w_ hw_ => by go_simp⟩) hz ?_
                try simp only [Act.put, List.setIfInBounds_toArray, List.set_cons_zero, List.set_cons_succ, List.getElem_toArray, List.getElem_cons_succ, List.getElem_cons_zero]
                refine wpAnyH_take (i := 26) (v := .int .u64 (x.d : Int)) rfl (by kernel_rfl) (by kernel_rfl) (by kernel_rfl) (by first | exact fun _ _ _ h => h | exact fun _ _ _ h => nomatch h.1) (Or.inl ⟨by rfl, fun w_ hw_ => by have q_ := HD7.out w_ hw_; go_simp⟩) hz ?_
                try simp only [Act.put, List.setIfInBounds_toArray, List.set_cons_zero, List.set_cons_succ, List.getElem_toArray, List.getElem_cons_succ, List.getElem_cons_zero]
                refine wpAnyH_take (i := 28) (v := .pointer (some ⟨wr.heap.size, 7, none⟩)) rfl (by kernel_rfl) (by kernel_rfl) (by kernel_rfl) (by first | exact fun _ _ _ h => h | exact fun _ _ _ h => nomatch h.1) (Or.inl ⟨by rfl, fun w_ hw_ => by go_simp⟩) hz ?_
                try simp only [Act.put, List.setIfInBounds_toArray, List.set_cons_zero, List.set_cons_succ, List.getElem_toArray, List.getElem_cons_succ, List.getElem_cons_zero]
                refine wpAnyH_take (i := 29) (v := .int .u64 (x.d : Int)) rfl (by kernel_rfl) (by kernel_rfl) (by kernel_rfl) (by first | exact fun _ _ _ h => h | exact fun _ _ _ h => nomatch h.1) (Or.inl ⟨by rfl, fun w_ hw_ => by have q_ := HD7.out w_ hw_; go_simp⟩) hz ?_
                try simp only [Act.put, List.setIfInBounds_toArray, List.set_cons_zero, List.set_cons_succ, List.getElem_toArray, List.getElem_cons_succ, List.getElem_cons_zero]
                refine wpAnyH_ready (rs := [27]) (by kernel_rfl) (by simp) ?_
                refine AllReadyH.cons rfl (fun K hK => ?_) AllReadyH.nil
                rw [if_pos (by rfl)]
                try simp only [List.getElem_toArray, List.getElem_cons_succ, List.getElem_cons_zero]
                go_simp
                refine (HDU.out _ hz).mono ?_
                rintro e x4 ⟨rfl, hcx⟩
                have hz := hz.trans hcx
                refine hK.out _ _ hz (fun _ => ?_)
                clear hK K hcx
                try simp only [Act.put, List.setIfInBounds_toArray, List.set_cons_zero, List.set_cons_succ, List.getElem_toArray, List.getElem_cons_succ, List.getElem_cons_zero]
                refine wpAnyH_ready (rs := [30]) (by kernel_rfl) (by simp) ?_
                refine AllReadyH.cons rfl (fun K hK => ?_) AllReadyH.nil
                rw [if_pos (by rfl)]
                try simp only [List.getElem_toArray, List.getElem_cons_succ, List.getElem_cons_zero]
                go_simp
                refine (HRU.out _ hz).mono ?_
                rintro e x5 ⟨rfl, hcx⟩
                have hz := hz.trans hcx
                refine hK.out _ _ hz (fun _ => ?_)
                clear hK K hcx
                try simp only [Act.put, List.setIfInBounds_toArray, List.set_cons_zero, List.set_cons_succ, List.getElem_toArray, List.getElem_cons_succ, List.getElem_cons_zero]
                refine wpAnyH_take (i := 31) (v := .bool false) rfl (by kernel_rfl) (by kernel_rfl) (by kernel_rfl) (by first | exact fun _ _ _ h => h | exact fun _ _ _ h => nomatch h.1) (Or.inl ⟨by rfl, fun w_ hw_ => by go_simp⟩) hz ?_
                try simp only [Act.put, List.setIfInBounds_toArray, List.set_cons_zero, List.set_cons_succ, List.getElem_toArray, List.getElem_cons_succ, List.getElem_cons_zero]
                refine wpAnyH_take (i := 32) (v := .bool false) rfl (by kernel_rfl) (by kernel_rfl) (by kernel_rfl) (by first | exact fun _ _ _ h => h | exact fun _ _ _ h => nomatch h.1) (Or.inl ⟨by rfl, fun w_ hw_ => by go_simp⟩) hz ?_
                try simp only [Act.put, List.setIfInBounds_toArray, List.set_cons_zero, List.set_cons_succ, List.getElem_toArray, List.getElem_cons_succ, List.getElem_cons_zero]
                refine wpAnyH_take (i := 33) (v := .bool false) rfl (by kernel_rfl) (by kernel_rfl) (by kernel_rfl) (by first | exact fun _ _ _ h => h | exact fun _ _ _ h => nomatch h.1) (Or.inl ⟨by rfl, fun w_ hw_ => by go_simp⟩) hz ?_
                try simp only [Act.put, List.setIfInBounds_toArray, List.set_cons_zero, List.set_cons_succ, List.getElem_toArray, List.getElem_cons_succ, List.getElem_cons_zero]
                refine wpAnyH_take (i := 34) (v := .int .u64 (lt : Int)) rfl (by kernel_rfl) (by kernel_rfl) (by kernel_rfl) (by first | exact fun _ _ _ h => h | exact fun _ _ _ h => nomatch h.1) (Or.inl ⟨by rfl, fun w_ hw_ => by go_simp⟩) hz ?_
                try simp only [Act.put, List.setIfInBounds_toArray, List.set_cons_zero, List.set_cons_succ, List.getElem_toArray, List.getElem_cons_succ, List.getElem_cons_zero]
                refine wpAnyH_take (i := 35) (v := .int .u64 (lt : Int)) rfl (by kernel_rfl) (by kernel_rfl) (by kernel_rfl) (by first | exact fun _ _ _ h => h | exact fun _ _ _ h => nomatch h.1) (Or.inl ⟨by rfl, fun w_ hw_ => by go_simp⟩) hz ?_
                try simp only [Act.put, List.setIfInBounds_toArray, List.set_cons_zero, List.set_cons_succ, List.getElem_toArray, List.getElem_cons_succ, List.getElem_cons_zero]
                refine wpAnyH_take (i := 36) (v := .bool false) rfl (by kernel_rfl) (by kernel_rfl) (by kernel_rfl) (by first | exact fun _ _ _ h => h | exact fun _ _ _ h => nomatch h.1) (Or.inl ⟨by rfl, fun w_ hw_ => by go_simp⟩) hz ?_
                try simp only [Act.put, List.setIfInBounds_toArray, List.set_cons_zero, List.set_cons_succ, List.getElem_toArray, List.getElem_cons_succ, List.getElem_cons_zero]
                refine wpAnyH_take (i := 37) (v := .bool false) rfl (by kernel_rfl) (by kernel_rfl) (by kernel_rfl) (by first | exact fun _ _ _ h => h | exact fun _ _ _ h => nomatch h.1) (Or.inl ⟨by rfl, fun w_ hw_ => by go_simp⟩) hz ?_
                try simp only [Act.put, List.setIfInBounds_toArray, List.set_cons_zero, List.set_cons_succ, List.getElem_toArray, List.getElem_cons_succ, List.getElem_cons_zero]
                refine wpAnyH_take (i := 38) (v := .bool false) rfl (by kernel_rfl) (by kernel_rfl) (by kernel_rfl) (by first | exact fun _ _ _ h => h | exact fun _ _ _ h => nomatch h.1) (Or.inl ⟨by rfl, fun w_ hw_ => by go_simp⟩) hz ?_
                try simp only [Act.put, List.setIfInBounds_toArray, List.set_cons_zero, List.set_cons_succ, List.getElem_toArray, List.getElem_cons_succ, List.getElem_cons_zero]
                refine wpAnyH_take (i := 39) (v := .bool lo) rfl (by kernel_rfl) (by kernel_rfl) (by kernel_rfl) (by first | exact fun _ _ _ h => h | exact fun _ _ _ h => nomatch h.1) (Or.inl ⟨by rfl, fun w_ hw_ => by go_simp⟩) hz ?_
                try simp only [Act.put, List.setIfInBounds_toArray, List.set_cons_zero, List.set_cons_succ, List.getElem_toArray, List.getElem_cons_succ, List.getElem_cons_zero]
                refine wpAnyH_take (i := 40) (v := .bool lo) rfl (by kernel_rfl) (by kernel_rfl) (by kernel_rfl) (by first | exact fun _ _ _ h => h | exact fun _ _ _ h => nomatch h.1) (Or.inl ⟨by rfl, fun w_ hw_ => by go_simp⟩) hz ?_
                try simp only [Act.put, List.setIfInBounds_toArray, List.set_cons_zero, List.set_cons_succ, List.getElem_toArray, List.getElem_cons_succ, List.getElem_cons_zero]
                refine wpAnyH_take (i := 41) (v := .bool false) rfl (by kernel_rfl) (by kernel_rfl) (by kernel_rfl) (by first | exact fun _ _ _ h => h | exact fun _ _ _ h => nomatch h.1) (Or.inl ⟨by rfl, fun w_ hw_ => by go_simp⟩) hz ?_
                try simp only [Act.put, List.setIfInBounds_toArray, List.set_cons_zero, List.set_cons_succ, List.getElem_toArray, List.getElem_cons_succ, List.getElem_cons_zero]
                refine wpAnyH_take (i := 42) (v := .bool false) rfl (by kernel_rfl) (by kernel_rfl) (by kernel_rfl) (by first | exact fun _ _ _ h => h | exact fun _ _ _ h => nomatch h.1) (Or.inl ⟨by rfl, fun w_ hw_ => by go_simp⟩) hz ?_
                try simp only [Act.put, List.setIfInBounds_toArray, List.set_cons_zero, List.set_cons_succ, List.getElem_toArray, List.getElem_cons_succ, List.getElem_cons_zero]
                refine wpAnyH_take (i := 43) (v := .bool false) rfl (by kernel_rfl) (by kernel_rfl) (by kernel_rfl) (by first | exact fun _ _ _ h => h | exact fun _ _ _ h => nomatch h.1) (Or.inl ⟨by rfl, fun w_ hw_ => by go_simp⟩) hz ?_
                try simp only [Act.put, List.setIfInBounds_toArray, List.set_cons_zero, List.set_cons_succ, List.getElem_toArray, List.getElem_cons_succ, List.getElem_cons_zero]
                refine wpAnyH_take (i := 45) (v := .pointer (some ⟨r, 0, none⟩)) rfl (by kernel_rfl) (by kernel_rfl) (by kernel_rfl) (by first | exact fun _ _ _ h => h | exact fun _ _ _ h => nomatch h.1) (Or.inl ⟨by rfl, fun w_ hw_ => by go_simp⟩) hz ?_
                try simp only [Act.put, List.setIfInBounds_toArray, List.set_cons_zero, List.set_cons_succ, List.getElem_toArray, List.getElem_cons_succ, List.getElem_cons_zero]
                refine wpAnyH_take (i := 46) (v := .slice AL mL.length cl) rfl (by kernel_rfl) (by kernel_rfl) (by kernel_rfl) (by first | exact fun _ _ _ h => h | exact fun _ _ _ h => nomatch h.1) (Or.inl ⟨by rfl, fun w_ hw_ => by have q_ := HL0.out w_ hw_; go_simp⟩) hz ?_
                try simp only [Act.put, List.setIfInBounds_toArray, List.set_cons_zero, List.set_cons_succ, List.getElem_toArray, List.getElem_cons_succ, List.getElem_cons_zero]
                refine wpAnyH_ready (rs := [44]) (by kernel_rfl) (by simp) ?_
                refine AllReadyH.cons rfl (fun K hK => ?_) AllReadyH.nil
                rw [if_pos (by rfl)]
                try simp only [List.getElem_toArray, List.getElem_cons_succ, List.getElem_cons_zero]
                go_simp
                refine (HLS.out _ hz).mono ?_
                rintro e x6 ⟨AG9, cg9, G9, rfl, hag, hmg, hcx⟩
                have hax := HAN.out.chg (chg_none (hz.trans hcx))
                have hz := hz.trans hcx
                refine hK.out _ _ hz (fun _ => ?_)
                clear hK K hcx
                try simp only [Act.put, List.setIfInBounds_toArray, List.set_cons_zero, List.set_cons_succ, List.getElem_toArray, List.getElem_cons_succ, List.getElem_cons_zero]
                refine wpAnyH_ready (rs := [47]) (by kernel_rfl) (by simp) ?_
                refine AllReadyH.cons rfl (fun K hK => ?_) AllReadyH.nil
                rw [if_pos (by rfl)]
                try simp only [List.getElem_toArray, List.getElem_cons_succ, List.getElem_cons_zero]
                go_simp
                refine (hag.same hax (hmg.trans HMP.out.symm) _ _).mono ?_
                rintro e x7 ⟨rfl, hcx⟩
                have hz := hz.trans hcx
                refine hK.out _ _ hz (fun _ => ?_)
                clear hK K hcx
                try simp only [Act.put, List.setIfInBounds_toArray, List.set_cons_zero, List.set_cons_succ, List.getElem_toArray, List.getElem_cons_succ, List.getElem_cons_zero]
                refine wpAnyH_take (i := 48) (v := .bool false) rfl (by kernel_rfl) (by kernel_rfl) (by kernel_rfl) (by first | exact fun _ _ _ h => h | exact fun _ _ _ h => nomatch h.1) (Or.inl ⟨by rfl, fun w_ hw_ => by go_simp⟩) hz ?_
                try simp only [Act.put, List.setIfInBounds_toArray, List.set_cons_zero, List.set_cons_succ, List.getElem_toArray, List.getElem_cons_succ, List.getElem_cons_zero]
                refine wpAnyH_take (i := 49) (v := .bool false) rfl (by kernel_rfl) (by kernel_rfl) (by kernel_rfl) (by first | exact fun _ _ _ h => h | exact fun _ _ _ h => nomatch h.1) (Or.inl ⟨by rfl, fun w_ hw_ => by go_simp⟩) hz ?_
                try simp only [Act.put, List.setIfInBounds_toArray, List.set_cons_zero, List.set_cons_succ, List.getElem_toArray, List.getElem_cons_succ, List.getElem_cons_zero]
                refine wpAnyH_done (by kernel_rfl) ?_ _
                go_wp2
                go_roundw
                case rel => exact ⟨j + 1, P1, n, a, by go_num, by omega, by omega, Lib.hid ((HJ.out.quiet hz).forget), Lib.hid (HC.out.trans hz)⟩
                case measure => simp [intOf]; omega
            · have q2 : (x.kind == 2) = false := by simpa using hk2
              by_cases hk3 : x.kind = 3
              · have q3 : (x.kind == 3) = true := by simpa using hk3
                as_aux_lemma =>
                  clear hk0 hk1 hk2 hk3
                  go_wp2_with (first | ((with_reducible show wpList _ _ _ (⟨some 101, .load _ _, _, _, _, _⟩ :: _) _ _); refine wpList_load_Mid (cs := lac x) rfl rfl rfl HRA.out Try.underlying51 rfl sizeLa ?_) | ((with_reducible show wpList _ _ _ (⟨some 13, .alloc _, _, _, _, _⟩ :: _) _ _); refine wpList_alloc_Row rfl rfl (lac la0) zeroLa ?_; intro w3 hr3 hc3 hs3; have HR3 := Lib.hid hr3; have HC3 := Lib.hid hc3; have HS3 := Lib.hid hs3; clear hr3 hc3 hs3) | ((with_reducible show wpList _ _ _ (⟨none, .store _ _ _, _, _, _, _⟩ :: _) _ _); refine wpList_store_Row (xs := lac x) rfl rfl rfl HR3.out rfl rfl sizeLa (lac_one x) ?_; intro w4 hr4 hc4 hs4; have HB := Lib.hid hr4; have HC4 := Lib.hid (hc4 none_ wr HC3.out (fun h => absurd h (Nat.lt_irrefl _))); have HJ := Lib.hid (HJ.out.fresh HC4.out (by rw [hs4, HS3.out]; omega)); have HC := Lib.hid (HC.out.trans HC4.out); have c0 : w4.cell? ⟨wr.heap.size, 0, none⟩ = some (.int .i64 x.kind) := HB.out.cell 0; skip; clear hr4 hc4 hs4) | ((with_reducible show Calls _ 23 _ _ _); refine (jRFlight HJ.out).mono ?_; rintro e wf ⟨rfl, rfl⟩; skip) | ((with_reducible show Calls _ 11 _ _ _); refine (jLast HJ.out).mono ?_; rintro e w8 ⟨rfl, hc⟩; have HJ := Lib.hid (HJ.out.quiet hc); have HB := Lib.hid (HB.out.chg hc (fun h => h)); have HC := Lib.hid (HC.out.trans hc); clear hc) | ((with_reducible show Calls _ 24 _ _ _); refine (jRLast HJ.out).mono ?_; rintro e wf ⟨rfl, rfl⟩; skip))
                  obtain ⟨AL, cl, mL, hrow, _, hmp⟩ := jL HJ.out
                  have hml : mL.length = P.length := by rw [← hmp, List.length_map]
                  rw [hml] at hrow
                  have HRO := Lib.hid hrow
                  have HNE := Lib.hid HJ.out.ne
                  have HR0 : Hid (∀ y, Chg (· = g) w4 y → y.cell? ⟨r, 0, none⟩ = some (.slice AL P.length cl)) := Lib.hid (fun y hy => (HRO.out.chg hy (fun e => HNE.out e.symm)).cell 0)
                  clear hrow hmp hml
                  refine wp_region_held_drew (S := fun y => Chg (· = g) w4 y) (by kernel_rfl) ((Chg.refl (· = g) w4).drew) (fun hch0 => ?_)
                  have hz : Chg (· = g) w4 w4.drew := (Chg.refl (· = g) w4).drew
                  have hq : Chg none_ w4 w4.drew := (Chg.refl none_ w4).drew
                  generalize w4.drew = wz at hz hq ⊢
                  clear hch0
                  refine wpAnyH_take (i := 1) (v := .pointer (some ⟨r, 0, none⟩)) rfl (by kernel_rfl) (by kernel_rfl) (by kernel_rfl) (by first | exact fun _ _ _ h => h | exact fun _ _ _ h => nomatch h.1) (Or.inl ⟨by rfl, fun w_ hw_ => by go_simp⟩) hz ?_
                  try simp only [Act.put, List.setIfInBounds_toArray, List.set_cons_zero, List.set_cons_succ, List.getElem_toArray, List.getElem_cons_succ, List.getElem_cons_zero]
                  refine wpAnyH_take (i := 2) (v := .slice AL P.length cl) rfl (by kernel_rfl) (by kernel_rfl) (by kernel_rfl) (by first | exact fun _ _ _ h => h | exact fun _ _ _ h => nomatch h.1) (Or.inl ⟨by rfl, fun w_ hw_ => by have q_ := HR0.out w_ hw_; go_simp⟩) hz ?_
                  try simp only [Act.put, List.setIfInBounds_toArray, List.set_cons_zero, List.set_cons_succ, List.getElem_toArray, List.getElem_cons_succ, List.getElem_cons_zero]
                  refine wpAnyH_take (i := 3) (v := .int .i64 (P.length : Int)) rfl (by kernel_rfl) (by kernel_rfl) (by kernel_rfl) (by first | exact fun _ _ _ h => h | exact fun _ _ _ h => nomatch h.1) (Or.inl ⟨by rfl, fun w_ hw_ => by go_simp⟩) hz ?_
                  try simp only [Act.put, List.setIfInBounds_toArray, List.set_cons_zero, List.set_cons_succ, List.getElem_toArray, List.getElem_cons_succ, List.getElem_cons_zero]
                  refine wpAnyH_ready (rs := [0]) (by kernel_rfl) (by simp) ?_
                  refine AllReadyH.cons rfl (fun K hK => ?_) AllReadyH.nil
                  rw [if_pos (by rfl)]
                  try simp only [List.getElem_toArray, List.getElem_cons_zero]
                  go_simp
                  refine (jDrop' (HJ.out.quiet hq)).mono ?_
                  rintro e w5 ⟨rfl, hj, hcx⟩
                  have hcs := HJ.out.gS hcx
                  have HJ := Lib.hid hj
                  have HB := Lib.hid ((HB.out.chg hq (fun h => h)).chg hcs (fun h => h.2 rfl))
                  have HC := Lib.hid ((HC.out.trans hq).andThen hcs (fun b hb h => absurd h.1 (by have h2 := HG0.out; omega)))
                  have hz := hz.trans hcx
                  have r0 : w5.cell? ⟨r, 0, none⟩ = some (.slice AL P.length cl) := HR0.out w5 hz
                  have r1 : w5.frozen? ⟨r, 0, none⟩ = false := (HRO.out.chg hz (fun e => HNE.out e.symm)).frozen 0
                  refine hK.out _ _ hz (fun _ => ?_)
                  clear hK K hcx hcs hj hq
                  try simp only [Act.put, List.setIfInBounds_toArray, List.set_cons_zero, List.set_cons_succ, List.getElem_toArray, List.getElem_cons_succ, List.getElem_cons_zero]
                  refine wpAnyH_take (i := 4) (v := .bool true) rfl (by kernel_rfl) (by kernel_rfl) (by kernel_rfl) (by first | exact fun _ _ _ h => h | exact fun _ _ _ h => nomatch h.1) (Or.inl ⟨by rfl, fun w_ hw_ => by go_simp⟩) hz ?_
                  try simp only [Act.put, List.setIfInBounds_toArray, List.set_cons_zero, List.set_cons_succ, List.getElem_toArray, List.getElem_cons_succ, List.getElem_cons_zero]
                  refine wpAnyH_take (i := 5) (v := .bool true) rfl (by kernel_rfl) (by kernel_rfl) (by kernel_rfl) (by first | exact fun _ _ _ h => h | exact fun _ _ _ h => nomatch h.1) (Or.inl ⟨by rfl, fun w_ hw_ => by go_simp⟩) hz ?_
                  try simp only [Act.put, List.setIfInBounds_toArray, List.set_cons_zero, List.set_cons_succ, List.getElem_toArray, List.getElem_cons_succ, List.getElem_cons_zero]
                  refine wpAnyH_done (by kernel_rfl) ?_ _
                  clear hz
                  have HJN := Lib.hid (jNil HJ.out)
                  have HB := Lib.hid (HB.out.chg (HJ.out.rS HJN.out.2) (fun h => h.2 rfl))
                  have HC := Lib.hid (HC.out.andThen (HJ.out.rS HJN.out.2) (fun b hb h => absurd h.1 (by have h2 := HG0.out; omega)))
                  have HJ := Lib.hid HJN.out.1
                  obtain ⟨P1, hP1⟩ : ∃ P1, ([] : List Sn) = P1 := ⟨_, rfl⟩
                  rw [hP1] at HJ
                  clear hP1
                  go_wp2_with (first | ((with_reducible show Calls _ 23 _ _ _); refine (jRFlight HJ.out).mono ?_; rintro e wf ⟨rfl, rfl⟩; skip) | ((with_reducible show Calls _ 11 _ _ _); refine (jLast HJ.out).mono ?_; rintro e w8 ⟨rfl, hc⟩; have HJ := Lib.hid (HJ.out.quiet hc); have HB := Lib.hid (HB.out.chg hc (fun h => h)); have HC := Lib.hid (HC.out.trans hc); clear hc) | ((with_reducible show Calls _ 24 _ _ _); refine (jRLast HJ.out).mono ?_; rintro e wf ⟨rfl, rfl⟩; skip))
                  obtain ⟨AL, cl, mL, hrow, hans, hmp⟩ := jL HJ.out
                  have hok := HJ.out.ok.1
                  have ha0 : (0 : Int) ≤ (a : Int) := by omega
                  have ha1 : (a : Int) ≤ 1000000 := by have h1 := hok.above; have h2 := hok.next; omega
                  have HRO := Lib.hid hrow
                  have HAN := Lib.hid hans
                  have HMP := Lib.hid hmp
                  have HL0 : Hid (∀ y, Chg none_ w8 y → y.cell? ⟨r, 0, none⟩ = some (.slice AL mL.length cl)) := Lib.hid (fun y hy => (HRO.out.chg hy (fun h => h)).cell 0)
                  have HL1 : Hid (∀ y, Chg none_ w8 y → y.cell? ⟨r, 1, none⟩ = some (.int .i64 (n : Int))) := Lib.hid (fun y hy => (HRO.out.chg hy (fun h => h)).cell 1)
                  have HL2 : Hid (∀ y, Chg none_ w8 y → y.cell? ⟨r, 2, none⟩ = some (.int .i64 (a : Int))) := Lib.hid (fun y hy => (HRO.out.chg hy (fun h => h)).cell 2)
                  have HD7 : Hid (∀ y, Chg none_ w8 y → y.cell? ⟨wr.heap.size, 7, none⟩ = some (.int .u64 (x.d : Int))) := Lib.hid (fun y hy => (HB.out.chg hy (fun h => h)).cell 7)
                  have HFC : Hid (∀ y, Chg none_ w8 y → Calls Try.prog 16 #[.pointer (some ⟨g, 0, none⟩)] y fun e w' => e = .returned (.complex .f64 (floatOfInt .f64 ((flNs P1 : Nat) : Int)) (floatOfInt .f64 ((flBs P1 : Nat) : Int))) ∧ Chg none_ y w') := Lib.hid (fun y hy => jFlight (HJ.out.quiet hy))
                  have HNX : Hid (∀ y, Chg none_ w8 y → Calls Try.prog 17 #[.pointer (some ⟨g, 0, none⟩)] y fun e w' => e = .returned (.int .i64 (n : Int)) ∧ Chg none_ y w') := Lib.hid (fun y hy => jNext (HJ.out.quiet hy))
                  have HAC : Hid (∀ y, Chg none_ w8 y → Calls Try.prog 18 #[.pointer (some ⟨g, 0, none⟩)] y fun e w' => e = .returned (.int .i64 ((a : Int) - 1)) ∧ Chg none_ y w') := Lib.hid (fun y hy => jAcked (HJ.out.quiet hy))
                  have HDU : Hid (∀ y, Chg none_ w8 y → Calls Try.prog 15 #[.pointer (some ⟨g, 0, none⟩), .int .u64 (x.d : Int)] y fun e w' => e = .returned (.int .u64 ((dueP a x.d P1 : Nat) : Int)) ∧ Chg none_ y w') := Lib.hid (fun y hy => jDue x.d (HJ.out.quiet hy))
                  have HRU : Hid (∀ y, Chg none_ w8 y → Calls Try.prog 25 #[.pointer (some ⟨r, 0, none⟩), .int .u64 (x.d : Int)] y fun e w' => e = .returned (.int .u64 ((dueP a x.d P1 : Nat) : Int)) ∧ Chg none_ y w') := Lib.hid (fun y hy => jRDue x.d (HJ.out.quiet hy) HXT.out.1)
                  have HLS : Hid (∀ y, Chg none_ w8 y → Calls Try.prog 13 #[.pointer (some ⟨g, 0, none⟩)] y fun e w' => ∃ AG cg G, e = .returned (.slice AG G.length cg) ∧ Ans w' r AG G ∧ G.map It.pl = P1 ∧ Chg none_ y w') := Lib.hid (fun y hy => jList (HJ.out.quiet hy))
                  have hO1 : FloatKind.f64.format.order (floatOfInt .f64 ((flNs P1 : Nat) : Int)) (floatOfInt .f64 ((flNs P1 : Nat) : Int)) = some .eq := dbl_eq _ (by have h1 := flNs_le' P1; have h2 := hok.len; omega)
                  have hO2 : FloatKind.f64.format.order (floatOfInt .f64 ((flBs P1 : Nat) : Int)) (floatOfInt .f64 ((flBs P1 : Nat) : Int)) = some .eq := dbl_eq _ (by have h1 := flBs_le' P1 (fun s hs => (hok.each s hs).2.2); have h2 := hok.len; omega)
                  generalize flNs P1 = nN at *
                  generalize flBs P1 = nB at *
                  generalize (lastP P1).1 = lt at *
                  generalize (lastP P1).2 = lo at *
                  generalize dueP a x.d P1 = du at *
                  clear hrow hans hmp hok
                  refine wp_region_held_drew (S := fun y => Chg none_ w8 y) (by kernel_rfl) ((Chg.refl none_ w8).drew) (fun hch0 => ?_)
                  have hz : Chg none_ w8 w8.drew := (Chg.refl none_ w8).drew
                  generalize w8.drew = wz at hz ⊢
                  clear hch0
                  refine wpAnyH_take (i := 0) (v := .bool true) rfl (by kernel_rfl) (by kernel_rfl) (by kernel_rfl) (by first | exact fun _ _ _ h => h | exact fun _ _ _ h => nomatch h.1) (Or.inl ⟨by rfl, fun w_ hw_ => by go_simp⟩) hz ?_
                  try simp only [Act.put, List.setIfInBounds_toArray, List.set_cons_zero, List.set_cons_succ, List.getElem_toArray, List.getElem_cons_zero]
                  refine wpAnyH_take (i := 1) (v := .bool false) rfl (by kernel_rfl) (by kernel_rfl) (by kernel_rfl) (by first | exact fun _ _ _ h => h | exact fun _ _ _ h => nomatch h.1) (Or.inl ⟨by rfl, fun w_ hw_ => by go_simp⟩) hz ?_
                  try simp only [Act.put, List.setIfInBounds_toArray, List.set_cons_zero, List.set_cons_succ, List.getElem_toArray, List.getElem_cons_succ, List.getElem_cons_zero]
                  refine wpAnyH_take (i := 2) (v := .bool false) rfl (by kernel_rfl) (by kernel_rfl) (by kernel_rfl) (by first | exact fun _ _ _ h => h | exact fun _ _ _ h => nomatch h.1) (Or.inl ⟨by rfl, fun w_ hw_ => by go_simp⟩) hz ?_
                  try simp only [Act.put, List.setIfInBounds_toArray, List.set_cons_zero, List.set_cons_succ, List.getElem_toArray, List.getElem_cons_succ, List.getElem_cons_zero]
                  refine wpAnyH_take (i := 4) (v := .int .i64 (nN : Int)) rfl (by kernel_rfl) (by kernel_rfl) (by kernel_rfl) (by first | exact fun _ _ _ h => h | exact fun _ _ _ h => nomatch h.1) (Or.inl ⟨by rfl, fun w_ hw_ => by go_simp⟩) hz ?_
                  try simp only [Act.put, List.setIfInBounds_toArray, List.set_cons_zero, List.set_cons_succ, List.getElem_toArray, List.getElem_cons_succ, List.getElem_cons_zero]
                  refine wpAnyH_take (i := 5) (v := .float .f64 (floatOfInt .f64 (nN : Int))) rfl (by kernel_rfl) (by kernel_rfl) (by kernel_rfl) (by first | exact fun _ _ _ h => h | exact fun _ _ _ h => nomatch h.1) (Or.inl ⟨by rfl, fun w_ hw_ => by go_simp⟩) hz ?_
                  try simp only [Act.put, List.setIfInBounds_toArray, List.set_cons_zero, List.set_cons_succ, List.getElem_toArray, List.getElem_cons_succ, List.getElem_cons_zero]
                  refine wpAnyH_take (i := 6) (v := .int .i64 (nB : Int)) rfl (by kernel_rfl) (by kernel_rfl) (by kernel_rfl) (by first | exact fun _ _ _ h => h | exact fun _ _ _ h => nomatch h.1) (Or.inl ⟨by rfl, fun w_ hw_ => by go_simp⟩) hz ?_
                  try simp only [Act.put, List.setIfInBounds_toArray, List.set_cons_zero, List.set_cons_succ, List.getElem_toArray, List.getElem_cons_succ, List.getElem_cons_zero]
                  refine wpAnyH_take (i := 7) (v := .float .f64 (floatOfInt .f64 (nB : Int))) rfl (by kernel_rfl) (by kernel_rfl) (by kernel_rfl) (by first | exact fun _ _ _ h => h | exact fun _ _ _ h => nomatch h.1) (Or.inl ⟨by rfl, fun w_ hw_ => by go_simp⟩) hz ?_
                  try simp only [Act.put, List.setIfInBounds_toArray, List.set_cons_zero, List.set_cons_succ, List.getElem_toArray, List.getElem_cons_succ, List.getElem_cons_zero]
                  refine wpAnyH_take (i := 8) (v := .complex .f64 (floatOfInt .f64 (nN : Int)) (floatOfInt .f64 (nB : Int))) rfl (by kernel_rfl) (by kernel_rfl) (by kernel_rfl) (by first | exact fun _ _ _ h => h | exact fun _ _ _ h => nomatch h.1) (Or.inl ⟨by rfl, fun w_ hw_ => by go_simp⟩) hz ?_
                  try simp only [Act.put, List.setIfInBounds_toArray, List.set_cons_zero, List.set_cons_succ, List.getElem_toArray, List.getElem_cons_succ, List.getElem_cons_zero]
                  refine wpAnyH_ready (rs := [3]) (by kernel_rfl) (by simp) ?_
                  refine AllReadyH.cons rfl (fun K hK => ?_) AllReadyH.nil
                  rw [if_pos (by rfl)]
                  try simp only [List.getElem_toArray, List.getElem_cons_succ, List.getElem_cons_zero]
                  go_simp
                  refine (HFC.out _ hz).mono ?_
                  rintro e x1 ⟨rfl, hcx⟩
                  have hz := hz.trans hcx
                  refine hK.out _ _ hz (fun _ => ?_)
                  clear hK K hcx
                  try simp only [Act.put, List.setIfInBounds_toArray, List.set_cons_zero, List.set_cons_succ, List.getElem_toArray, List.getElem_cons_succ, List.getElem_cons_zero]
                  refine wpAnyH_take (i := 9) (v := .bool false) rfl (by kernel_rfl) (by kernel_rfl) (by kernel_rfl) (by first | exact fun _ _ _ h => h | exact fun _ _ _ h => nomatch h.1) (Or.inl ⟨by rfl, fun w_ hw_ => by go_simp⟩) hz ?_
                  try simp only [Act.put, List.setIfInBounds_toArray, List.set_cons_zero, List.set_cons_succ, List.getElem_toArray, List.getElem_cons_succ, List.getElem_cons_zero]
                  refine wpAnyH_take (i := 10) (v := .bool false) rfl (by kernel_rfl) (by kernel_rfl) (by kernel_rfl) (by first | exact fun _ _ _ h => h | exact fun _ _ _ h => nomatch h.1) (Or.inl ⟨by rfl, fun w_ hw_ => by go_simp⟩) hz ?_
                  try simp only [Act.put, List.setIfInBounds_toArray, List.set_cons_zero, List.set_cons_succ, List.getElem_toArray, List.getElem_cons_succ, List.getElem_cons_zero]
                  refine wpAnyH_take (i := 11) (v := .bool false) rfl (by kernel_rfl) (by kernel_rfl) (by kernel_rfl) (by first | exact fun _ _ _ h => h | exact fun _ _ _ h => nomatch h.1) (Or.inl ⟨by rfl, fun w_ hw_ => by go_simp⟩) hz ?_
                  try simp only [Act.put, List.setIfInBounds_toArray, List.set_cons_zero, List.set_cons_succ, List.getElem_toArray, List.getElem_cons_succ, List.getElem_cons_zero]
                  refine wpAnyH_take (i := 13) (v := .pointer (some ⟨r, 1, none⟩)) rfl (by kernel_rfl) (by kernel_rfl) (by kernel_rfl) (by first | exact fun _ _ _ h => h | exact fun _ _ _ h => nomatch h.1) (Or.inl ⟨by rfl, fun w_ hw_ => by go_simp⟩) hz ?_
                  try simp only [Act.put, List.setIfInBounds_toArray, List.set_cons_zero, List.set_cons_succ, List.getElem_toArray, List.getElem_cons_succ, List.getElem_cons_zero]
                  refine wpAnyH_take (i := 14) (v := .int .i64 (n : Int)) rfl (by kernel_rfl) (by kernel_rfl) (by kernel_rfl) (by first | exact fun _ _ _ h => h | exact fun _ _ _ h => nomatch h.1) (Or.inl ⟨by rfl, fun w_ hw_ => by have q_ := HL1.out w_ hw_; go_simp⟩) hz ?_
                  try simp only [Act.put, List.setIfInBounds_toArray, List.set_cons_zero, List.set_cons_succ, List.getElem_toArray, List.getElem_cons_succ, List.getElem_cons_zero]
                  refine wpAnyH_ready (rs := [12]) (by kernel_rfl) (by simp) ?_
                  refine AllReadyH.cons rfl (fun K hK => ?_) AllReadyH.nil
                  rw [if_pos (by rfl)]
                  try simp only [List.getElem_toArray, List.getElem_cons_succ, List.getElem_cons_zero]
                  go_simp
                  refine (HNX.out _ hz).mono ?_
                  rintro e x2 ⟨rfl, hcx⟩
                  have hz := hz.trans hcx
                  refine hK.out _ _ hz (fun _ => ?_)
                  clear hK K hcx
                  try simp only [Act.put, List.setIfInBounds_toArray, List.set_cons_zero, List.set_cons_succ, List.getElem_toArray, List.getElem_cons_succ, List.getElem_cons_zero]
                  refine wpAnyH_take (i := 15) (v := .bool false) rfl (by kernel_rfl) (by kernel_rfl) (by kernel_rfl) (by first | exact fun _ _ _ h => h | exact fun _ _ _ h => nomatch h.1) (Or.inl ⟨by rfl, fun w_ hw_ => by go_simp⟩) hz ?_
                  try simp only [Act.put, List.setIfInBounds_toArray, List.set_cons_zero, List.set_cons_succ, List.getElem_toArray, List.getElem_cons_succ, List.getElem_cons_zero]
                  refine wpAnyH_take (i := 16) (v := .bool false) rfl (by kernel_rfl) (by kernel_rfl) (by kernel_rfl) (by first | exact fun _ _ _ h => h | exact fun _ _ _ h => nomatch h.1) (Or.inl ⟨by rfl, fun w_ hw_ => by go_simp⟩) hz ?_
                  try simp only [Act.put, List.setIfInBounds_toArray, List.set_cons_zero, List.set_cons_succ, List.getElem_toArray, List.getElem_cons_succ, List.getElem_cons_zero]
                  refine wpAnyH_take (i := 17) (v := .bool false) rfl (by kernel_rfl) (by kernel_rfl) (by kernel_rfl) (by first | exact fun _ _ _ h => h | exact fun _ _ _ h => nomatch h.1) (Or.inl ⟨by rfl, fun w_ hw_ => by go_simp⟩) hz ?_
                  try simp only [Act.put, List.setIfInBounds_toArray, List.set_cons_zero, List.set_cons_succ, List.getElem_toArray, List.getElem_cons_succ, List.getElem_cons_zero]
                  refine wpAnyH_take (i := 19) (v := .pointer (some ⟨r, 2, none⟩)) rfl (by kernel_rfl) (by kernel_rfl) (by kernel_rfl) (by first | exact fun _ _ _ h => h | exact fun _ _ _ h => nomatch h.1) (Or.inl ⟨by rfl, fun w_ hw_ => by go_simp⟩) hz ?_
                  try simp only [Act.put, List.setIfInBounds_toArray, List.set_cons_zero, List.set_cons_succ, List.getElem_toArray, List.getElem_cons_succ, List.getElem_cons_zero]
                  refine wpAnyH_take (i := 20) (v := .int .i64 (a : Int)) rfl (by kernel_rfl) (by kernel_rfl) (by kernel_rfl) (by first | exact fun _ _ _ h => h | exact fun _ _ _ h => nomatch h.1) (Or.inl ⟨by rfl, fun w_ hw_ => by have q_ := HL2.out w_ hw_; go_simp⟩) hz ?_
                  try simp only [Act.put, List.setIfInBounds_toArray, List.set_cons_zero, List.set_cons_succ, List.getElem_toArray, List.getElem_cons_succ, List.getElem_cons_zero]
                  refine wpAnyH_take (i := 21) (v := .int .i64 ((a : Int) - 1)) rfl (by kernel_rfl) (by kernel_rfl) (by kernel_rfl) (by first | exact fun _ _ _ h => h | exact fun _ _ _ h => nomatch h.1) (Or.inl ⟨by rfl, fun w_ hw_ => by go_simp; exact IntWalk.i64_in _ (by omega)⟩) hz ?_
                  try simp only [Act.put, List.setIfInBounds_toArray, List.set_cons_zero, List.set_cons_succ, List.getElem_toArray, List.getElem_cons_succ, List.getElem_cons_zero]
                  refine wpAnyH_ready (rs := [18]) (by kernel_rfl) (by simp) ?_
                  refine AllReadyH.cons rfl (fun K hK => ?_) AllReadyH.nil
                  rw [if_pos (by rfl)]
                  try simp only [List.getElem_toArray, List.getElem_cons_succ, List.getElem_cons_zero]
                  go_simp
                  refine (HAC.out _ hz).mono ?_
                  rintro e x3 ⟨rfl, hcx⟩
                  have hz := hz.trans hcx
                  refine hK.out _ _ hz (fun _ => ?_)
                  clear hK K hcx
                  try simp only [Act.put, List.setIfInBounds_toArray, List.set_cons_zero, List.set_cons_succ, List.getElem_toArray, List.getElem_cons_succ, List.getElem_cons_zero]
                  refine wpAnyH_take (i := 22) (v := .bool false) rfl (by kernel_rfl) (by kernel_rfl) (by kernel_rfl) (by first | exact fun _ _ _ h => h | exact fun _ _ _ h => nomatch h.1) (Or.inl ⟨by rfl, fun w_ hw_ => by go_simp⟩) hz ?_
                  try simp only [Act.put, List.setIfInBounds_toArray, List.set_cons_zero, List.set_cons_succ, List.getElem_toArray, List.getElem_cons_succ, List.getElem_cons_zero]
                  refine wpAnyH_take (i := 23) (v := .bool false) rfl (by kernel_rfl) (by kernel_rfl) (by kernel_rfl) (by first | exact fun _ _ _ h => h | exact fun _ _ _ h => nomatch h.1) (Or.inl ⟨by rfl, fun w_ hw_ => by go_simp⟩) hz ?_
                  try simp only [Act.put, List.setIfInBounds_toArray, List.set_cons_zero, List.set_cons_succ, List.getElem_toArray, List.getElem_cons_succ, List.getElem_cons_zero]
                  refine wpAnyH_take (i := 24) (v := .bool false) rfl (by kernel_rfl) (by kernel_rfl) (by kernel_rfl) (by first | exact fun _ _ _ h => h | exact fun _ _ _ h => nomatch h.1) (Or.inl ⟨by rfl, fun w_ hw_ => by go_simp⟩) hz ?_
                  try simp only [Act.put, List.setIfInBounds_toArray, List.set_cons_zero, List.set_cons_succ, List.getElem_toArray, List.getElem_cons_succ, List.getElem_cons_zero]
                  refine wpAnyH_take (i := 25) (v := .pointer (some ⟨wr.heap.size, 7, none⟩)) rfl (by kernel_rfl) (by kernel_rfl) (by kernel_rfl) (by first | exact fun _ _ _ h => h | exact fun _ _ _ h => nomatch h.1) (Or.inl ⟨by rfl, fun w_ hw_ => by go_simp⟩) hz ?_
                  try simp only [Act.put, List.setIfInBounds_toArray, List.set_cons_zero, List.set_cons_succ, List.getElem_toArray, List.getElem_cons_succ, List.getElem_cons_zero]
                  refine wpAnyH_take (i := 26) (v := .int .u64 (x.d : Int)) rfl (by kernel_rfl) (by kernel_rfl) (by kernel_rfl) (by first | exact fun _ _ _ h => h | exact fun _ _ _ h => nomatch h.1) (Or.inl ⟨by rfl, fun w_ hw_ => by have q_ := HD7.out w_ hw_; go_simp⟩) hz ?_
                  try simp only [Act.put, List.setIfInBounds_toArray, List.set_cons_zero, List.set_cons_succ, List.getElem_toArray, List.getElem_cons_succ, List.getElem_cons_zero]
                  refine wpAnyH_take (i := 28) (v := .pointer (some ⟨wr.heap.size, 7, none⟩)) rfl (by kernel_rfl) (by kernel_rfl) (by kernel_rfl) (by first | exact fun _ _ _ h => h | exact fun _ _ _ h => nomatch h.1) (Or.inl ⟨by rfl, fun w_ hw_ => by go_simp⟩) hz ?_
                  try simp only [Act.put, List.setIfInBounds_toArray, List.set_cons_zero, List.set_cons_succ, List.getElem_toArray, List.getElem_cons_succ, List.getElem_cons_zero]
                  refine wpAnyH_take (i := 29) (v := .int .u64 (x.d : Int)) rfl (by kernel_rfl) (by kernel_rfl) (by kernel_rfl) (by first | exact fun _ _ _ h => h | exact fun _ _ _ h => nomatch h.1) (Or.inl ⟨by rfl, fun w_ hw_ => by have q_ := HD7.out w_ hw_; go_simp⟩) hz ?_
                  try simp only [Act.put, List.setIfInBounds_toArray, List.set_cons_zero, List.set_cons_succ, List.getElem_toArray, List.getElem_cons_succ, List.getElem_cons_zero]
                  refine wpAnyH_ready (rs := [27]) (by kernel_rfl) (by simp) ?_
                  refine AllReadyH.cons rfl (fun K hK => ?_) AllReadyH.nil
                  rw [if_pos (by rfl)]
                  try simp only [List.getElem_toArray, List.getElem_cons_succ, List.getElem_cons_zero]
                  go_simp
                  refine (HDU.out _ hz).mono ?_
                  rintro e x4 ⟨rfl, hcx⟩
                  have hz := hz.trans hcx
                  refine hK.out _ _ hz (fun _ => ?_)
                  clear hK K hcx
                  try simp only [Act.put, List.setIfInBounds_toArray, List.set_cons_zero, List.set_cons_succ, List.getElem_toArray, List.getElem_cons_succ, List.getElem_cons_zero]
                  refine wpAnyH_ready (rs := [30]) (by kernel_rfl) (by simp) ?_
                  refine AllReadyH.cons rfl (fun K hK => ?_) AllReadyH.nil
                  rw [if_pos (by rfl)]
                  try simp only [List.getElem_toArray, List.getElem_cons_succ, List.getElem_cons_zero]
                  go_simp
                  refine (HRU.out _ hz).mono ?_
                  rintro e x5 ⟨rfl, hcx⟩
                  have hz := hz.trans hcx
                  refine hK.out _ _ hz (fun _ => ?_)
                  clear hK K hcx
                  try simp only [Act.put, List.setIfInBounds_toArray, List.set_cons_zero, List.set_cons_succ, List.getElem_toArray, List.getElem_cons_succ, List.getElem_cons_zero]
                  refine wpAnyH_take (i := 31) (v := .bool false) rfl (by kernel_rfl) (by kernel_rfl) (by kernel_rfl) (by first | exact fun _ _ _ h => h | exact fun _ _ _ h => nomatch h.1) (Or.inl ⟨by rfl, fun w_ hw_ => by go_simp⟩) hz ?_
                  try simp only [Act.put, List.setIfInBounds_toArray, List.set_cons_zero, List.set_cons_succ, List.getElem_toArray, List.getElem_cons_succ, List.getElem_cons_zero]
                  refine wpAnyH_take (i := 32) (v := .bool false) rfl (by kernel_rfl) (by kernel_rfl) (by kernel_rfl) (by first | exact fun _ _ _ h => h | exact fun _ _ _ h => nomatch h.1) (Or.inl ⟨by rfl, fun w_ hw_ => by go_simp⟩) hz ?_
                  try simp only [Act.put, List.setIfInBounds_toArray, List.set_cons_zero, List.set_cons_succ, List.getElem_toArray, List.getElem_cons_succ, List.getElem_cons_zero]
                  refine wpAnyH_take (i := 33) (v := .bool false) rfl (by kernel_rfl) (by kernel_rfl) (by kernel_rfl) (by first | exact fun _ _ _ h => h | exact fun _ _ _ h => nomatch h.1) (Or.inl ⟨by rfl, fun w_ hw_ => by go_simp⟩) hz ?_
                  try simp only [Act.put, List.setIfInBounds_toArray, List.set_cons_zero, List.set_cons_succ, List.getElem_toArray, List.getElem_cons_succ, List.getElem_cons_zero]
                  refine wpAnyH_take (i := 34) (v := .int .u64 (lt : Int)) rfl (by kernel_rfl) (by kernel_rfl) (by kernel_rfl) (by first | exact fun _ _ _ h => h | exact fun _ _ _ h => nomatch h.1) (Or.inl ⟨by rfl, fun w_ hw_ => by go_simp⟩) hz ?_
                  try simp only [Act.put, List.setIfInBounds_toArray, List.set_cons_zero, List.set_cons_succ, List.getElem_toArray, List.getElem_cons_succ, List.getElem_cons_zero]
                  refine wpAnyH_take (i := 35) (v := .int .u64 (lt : Int)) rfl (by kernel_rfl) (by kernel_rfl) (by kernel_rfl) (by first | exact fun _ _ _ h => h | exact fun _ _ _ h => nomatch h.1) (Or.inl ⟨by rfl, fun w_ hw_ => by go_simp⟩) hz ?_
                  try simp only [Act.put, List.setIfInBounds_toArray, List.set_cons_zero, List.set_cons_succ, List.getElem_toArray, List.getElem_cons_succ, List.getElem_cons_zero]
                  refine wpAnyH_take (i := 36) (v := .bool false) rfl (by kernel_rfl) (by kernel_rfl) (by kernel_rfl) (by first | exact fun _ _ _ h => h | exact fun _ _ _ h => nomatch h.1) (Or.inl ⟨by rfl, fun w_ hw_ => by go_simp⟩) hz ?_
                  try simp only [Act.put, List.setIfInBounds_toArray, List.set_cons_zero, List.set_cons_succ, List.getElem_toArray, List.getElem_cons_succ, List.getElem_cons_zero]
                  refine wpAnyH_take (i := 37) (v := .bool false) rfl (by kernel_rfl) (by kernel_rfl) (by kernel_rfl) (by first | exact fun _ _ _ h => h | exact fun _ _ _ h => nomatch h.1) (Or.inl ⟨by rfl, fun w_ hw_ => by go_simp⟩) hz ?_
                  try simp only [Act.put, List.setIfInBounds_toArray, List.set_cons_zero, List.set_cons_succ, List.getElem_toArray, List.getElem_cons_succ, List.getElem_cons_zero]
                  refine wpAnyH_take (i := 38) (v := .bool false) rfl (by kernel_rfl) (by kernel_rfl) (by kernel_rfl) (by first | exact fun _ _ _ h => h | exact fun _ _ _ h => nomatch h.1) (Or.inl ⟨by rfl, fun w_ hw_ => by go_simp⟩) hz ?_
                  try simp only [Act.put, List.setIfInBounds_toArray, List.set_cons_zero, List.set_cons_succ, List.getElem_toArray, List.getElem_cons_succ, List.getElem_cons_zero]
                  refine wpAnyH_take (i := 39) (v := .bool lo) rfl (by kernel_rfl) (by kernel_rfl) (by kernel_rfl) (by first | exact fun _ _ _ h => h | exact fun _ _ _ h => nomatch h.1) (Or.inl ⟨by rfl, fun w_ hw_ => by go_simp⟩) hz ?_
                  try simp only [Act.put, List.setIfInBounds_toArray, List.set_cons_zero, List.set_cons_succ, List.getElem_toArray, List.getElem_cons_succ, List.getElem_cons_zero]
                  refine wpAnyH_take (i := 40) (v := .bool lo) rfl (by kernel_rfl) (by kernel_rfl) (by kernel_rfl) (by first | exact fun _ _ _ h => h | exact fun _ _ _ h => nomatch h.1) (Or.inl ⟨by rfl, fun w_ hw_ => by go_simp⟩) hz ?_
                  try simp only [Act.put, List.setIfInBounds_toArray, List.set_cons_zero, List.set_cons_succ, List.getElem_toArray, List.getElem_cons_succ, List.getElem_cons_zero]
                  refine wpAnyH_take (i := 41) (v := .bool false) rfl (by kernel_rfl) (by kernel_rfl) (by kernel_rfl) (by first | exact fun _ _ _ h => h | exact fun _ _ _ h => nomatch h.1) (Or.inl ⟨by rfl, fun w_ hw_ => by go_simp⟩) hz ?_
                  try simp only [Act.put, List.setIfInBounds_toArray, List.set_cons_zero, List.set_cons_succ, List.getElem_toArray, List.getElem_cons_succ, List.getElem_cons_zero]
                  refine wpAnyH_take (i := 42) (v := .bool false) rfl (by kernel_rfl) (by kernel_rfl) (by kernel_rfl) (by first | exact fun _ _ _ h => h | exact fun _ _ _ h => nomatch h.1) (Or.inl ⟨by rfl, fun w_ hw_ => by go_simp⟩) hz ?_
                  try simp only [Act.put, List.setIfInBounds_toArray, List.set_cons_zero, List.set_cons_succ, List.getElem_toArray, List.getElem_cons_succ, List.getElem_cons_zero]
                  refine wpAnyH_take (i := 43) (v := .bool false) rfl (by kernel_rfl) (by kernel_rfl) (by kernel_rfl) (by first | exact fun _ _ _ h => h | exact fun _ _ _ h => nomatch h.1) (Or.inl ⟨by rfl, fun w_ hw_ => by go_simp⟩) hz ?_
                  try simp only [Act.put, List.setIfInBounds_toArray, List.set_cons_zero, List.set_cons_succ, List.getElem_toArray, List.getElem_cons_succ, List.getElem_cons_zero]
                  refine wpAnyH_take (i := 45) (v := .pointer (some ⟨r, 0, none⟩)) rfl (by kernel_rfl) (by kernel_rfl) (by kernel_rfl) (by first | exact fun _ _ _ h => h | exact fun _ _ _ h => nomatch h.1) (Or.inl ⟨by rfl, fun w_ hw_ => by go_simp⟩) hz ?_
                  try simp only [Act.put, List.setIfInBounds_toArray, List.set_cons_zero, List.set_cons_succ, List.getElem_toArray, List.getElem_cons_succ, List.getElem_cons_zero]
                  refine wpAnyH_take (i := 46) (v := .slice AL mL.length cl) rfl (by kernel_rfl) (by kernel_rfl) (by kernel_rfl) (by first | exact fun _ _ _ h => h | exact fun _ _ _ h => nomatch h.1) (Or.inl ⟨by rfl, fun w_ hw_ => by have q_ := HL0.out w_ hw_; go_simp⟩) hz ?_
                  try simp only [Act.put, List.setIfInBounds_toArray, List.set_cons_zero, List.set_cons_succ, List.getElem_toArray, List.getElem_cons_succ, List.getElem_cons_zero]
                  refine wpAnyH_ready (rs := [44]) (by kernel_rfl) (by simp) ?_
                  refine AllReadyH.cons rfl (fun K hK => ?_) AllReadyH.nil
                  rw [if_pos (by rfl)]
                  try simp only [List.getElem_toArray, List.getElem_cons_succ, List.getElem_cons_zero]
                  go_simp
                  refine (HLS.out _ hz).mono ?_
                  rintro e x6 ⟨AG9, cg9, G9, rfl, hag, hmg, hcx⟩
                  have hax := HAN.out.chg (chg_none (hz.trans hcx))
                  have hz := hz.trans hcx
                  refine hK.out _ _ hz (fun _ => ?_)
                  clear hK K hcx
                  try simp only [Act.put, List.setIfInBounds_toArray, List.set_cons_zero, List.set_cons_succ, List.getElem_toArray, List.getElem_cons_succ, List.getElem_cons_zero]
                  refine wpAnyH_ready (rs := [47]) (by kernel_rfl) (by simp) ?_
                  refine AllReadyH.cons rfl (fun K hK => ?_) AllReadyH.nil
                  rw [if_pos (by rfl)]
                  try simp only [List.getElem_toArray, List.getElem_cons_succ, List.getElem_cons_zero]
                  go_simp
                  refine (hag.same hax (hmg.trans HMP.out.symm) _ _).mono ?_
                  rintro e x7 ⟨rfl, hcx⟩
                  have hz := hz.trans hcx
                  refine hK.out _ _ hz (fun _ => ?_)
                  clear hK K hcx
                  try simp only [Act.put, List.setIfInBounds_toArray, List.set_cons_zero, List.set_cons_succ, List.getElem_toArray, List.getElem_cons_succ, List.getElem_cons_zero]
                  refine wpAnyH_take (i := 48) (v := .bool false) rfl (by kernel_rfl) (by kernel_rfl) (by kernel_rfl) (by first | exact fun _ _ _ h => h | exact fun _ _ _ h => nomatch h.1) (Or.inl ⟨by rfl, fun w_ hw_ => by go_simp⟩) hz ?_
                  try simp only [Act.put, List.setIfInBounds_toArray, List.set_cons_zero, List.set_cons_succ, List.getElem_toArray, List.getElem_cons_succ, List.getElem_cons_zero]
                  refine wpAnyH_take (i := 49) (v := .bool false) rfl (by kernel_rfl) (by kernel_rfl) (by kernel_rfl) (by first | exact fun _ _ _ h => h | exact fun _ _ _ h => nomatch h.1) (Or.inl ⟨by rfl, fun w_ hw_ => by go_simp⟩) hz ?_
                  try simp only [Act.put, List.setIfInBounds_toArray, List.set_cons_zero, List.set_cons_succ, List.getElem_toArray, List.getElem_cons_succ, List.getElem_cons_zero]
                  refine wpAnyH_done (by kernel_rfl) ?_ _
                  go_wp2
                  go_roundw
                  case rel => exact ⟨j + 1, P1, n, a, by go_num, by omega, by omega, Lib.hid ((HJ.out.quiet hz).forget), Lib.hid (HC.out.trans hz)⟩
                  case measure => simp [intOf]; omega
              · have q3 : (x.kind == 3) = false := by simpa using hk3
                as_aux_lemma =>
                  clear hk0 hk1 hk2 hk3
                  go_wp2_with (first | ((with_reducible show wpList _ _ _ (⟨some 101, .load _ _, _, _, _, _⟩ :: _) _ _); refine wpList_load_Mid (cs := lac x) rfl rfl rfl HRA.out Try.underlying51 rfl sizeLa ?_) | ((with_reducible show wpList _ _ _ (⟨some 13, .alloc _, _, _, _, _⟩ :: _) _ _); refine wpList_alloc_Row rfl rfl (lac la0) zeroLa ?_; intro w3 hr3 hc3 hs3; have HR3 := Lib.hid hr3; have HC3 := Lib.hid hc3; have HS3 := Lib.hid hs3; clear hr3 hc3 hs3) | ((with_reducible show wpList _ _ _ (⟨none, .store _ _ _, _, _, _, _⟩ :: _) _ _); refine wpList_store_Row (xs := lac x) rfl rfl rfl HR3.out rfl rfl sizeLa (lac_one x) ?_; intro w4 hr4 hc4 hs4; have HB := Lib.hid hr4; have HC4 := Lib.hid (hc4 none_ wr HC3.out (fun h => absurd h (Nat.lt_irrefl _))); have HJ := Lib.hid (HJ.out.fresh HC4.out (by rw [hs4, HS3.out]; omega)); have HC := Lib.hid (HC.out.trans HC4.out); have c0 : w4.cell? ⟨wr.heap.size, 0, none⟩ = some (.int .i64 x.kind) := HB.out.cell 0; skip; clear hr4 hc4 hs4) | ((with_reducible show Calls _ 23 _ _ _); refine (jRFlight HJ.out).mono ?_; rintro e wf ⟨rfl, rfl⟩; skip) | ((with_reducible show Calls _ 11 _ _ _); refine (jLast HJ.out).mono ?_; rintro e w8 ⟨rfl, hc⟩; have HJ := Lib.hid (HJ.out.quiet hc); have HB := Lib.hid (HB.out.chg hc (fun h => h)); have HC := Lib.hid (HC.out.trans hc); clear hc) | ((with_reducible show Calls _ 24 _ _ _); refine (jRLast HJ.out).mono ?_; rintro e wf ⟨rfl, rfl⟩; skip))
                  obtain ⟨AL, cl, mL, hrow, hans, hmp⟩ := jL HJ.out
                  have hok := HJ.out.ok.1
                  have ha0 : (0 : Int) ≤ (a : Int) := by omega
                  have ha1 : (a : Int) ≤ 1000000 := by have h1 := hok.above; have h2 := hok.next; omega
                  have HRO := Lib.hid hrow
                  have HAN := Lib.hid hans
                  have HMP := Lib.hid hmp
                  have HL0 : Hid (∀ y, Chg none_ w8 y → y.cell? ⟨r, 0, none⟩ = some (.slice AL mL.length cl)) := Lib.hid (fun y hy => (HRO.out.chg hy (fun h => h)).cell 0)
                  have HL1 : Hid (∀ y, Chg none_ w8 y → y.cell? ⟨r, 1, none⟩ = some (.int .i64 (n : Int))) := Lib.hid (fun y hy => (HRO.out.chg hy (fun h => h)).cell 1)
                  have HL2 : Hid (∀ y, Chg none_ w8 y → y.cell? ⟨r, 2, none⟩ = some (.int .i64 (a : Int))) := Lib.hid (fun y hy => (HRO.out.chg hy (fun h => h)).cell 2)
                  have HD7 : Hid (∀ y, Chg none_ w8 y → y.cell? ⟨wr.heap.size, 7, none⟩ = some (.int .u64 (x.d : Int))) := Lib.hid (fun y hy => (HB.out.chg hy (fun h => h)).cell 7)
                  have HFC : Hid (∀ y, Chg none_ w8 y → Calls Try.prog 16 #[.pointer (some ⟨g, 0, none⟩)] y fun e w' => e = .returned (.complex .f64 (floatOfInt .f64 ((flNs P : Nat) : Int)) (floatOfInt .f64 ((flBs P : Nat) : Int))) ∧ Chg none_ y w') := Lib.hid (fun y hy => jFlight (HJ.out.quiet hy))
                  have HNX : Hid (∀ y, Chg none_ w8 y → Calls Try.prog 17 #[.pointer (some ⟨g, 0, none⟩)] y fun e w' => e = .returned (.int .i64 (n : Int)) ∧ Chg none_ y w') := Lib.hid (fun y hy => jNext (HJ.out.quiet hy))
                  have HAC : Hid (∀ y, Chg none_ w8 y → Calls Try.prog 18 #[.pointer (some ⟨g, 0, none⟩)] y fun e w' => e = .returned (.int .i64 ((a : Int) - 1)) ∧ Chg none_ y w') := Lib.hid (fun y hy => jAcked (HJ.out.quiet hy))
                  have HDU : Hid (∀ y, Chg none_ w8 y → Calls Try.prog 15 #[.pointer (some ⟨g, 0, none⟩), .int .u64 (x.d : Int)] y fun e w' => e = .returned (.int .u64 ((dueP a x.d P : Nat) : Int)) ∧ Chg none_ y w') := Lib.hid (fun y hy => jDue x.d (HJ.out.quiet hy))
                  have HRU : Hid (∀ y, Chg none_ w8 y → Calls Try.prog 25 #[.pointer (some ⟨r, 0, none⟩), .int .u64 (x.d : Int)] y fun e w' => e = .returned (.int .u64 ((dueP a x.d P : Nat) : Int)) ∧ Chg none_ y w') := Lib.hid (fun y hy => jRDue x.d (HJ.out.quiet hy) HXT.out.1)
                  have HLS : Hid (∀ y, Chg none_ w8 y → Calls Try.prog 13 #[.pointer (some ⟨g, 0, none⟩)] y fun e w' => ∃ AG cg G, e = .returned (.slice AG G.length cg) ∧ Ans w' r AG G ∧ G.map It.pl = P ∧ Chg none_ y w') := Lib.hid (fun y hy => jList (HJ.out.quiet hy))
                  have hO1 : FloatKind.f64.format.order (floatOfInt .f64 ((flNs P : Nat) : Int)) (floatOfInt .f64 ((flNs P : Nat) : Int)) = some .eq := dbl_eq _ (by have h1 := flNs_le' P; have h2 := hok.len; omega)
                  have hO2 : FloatKind.f64.format.order (floatOfInt .f64 ((flBs P : Nat) : Int)) (floatOfInt .f64 ((flBs P : Nat) : Int)) = some .eq := dbl_eq _ (by have h1 := flBs_le' P (fun s hs => (hok.each s hs).2.2); have h2 := hok.len; omega)
                  generalize flNs P = nN at *
                  generalize flBs P = nB at *
                  generalize (lastP P).1 = lt at *
                  generalize (lastP P).2 = lo at *
                  generalize dueP a x.d P = du at *
                  clear hrow hans hmp hok
                  refine wp_region_held_drew (S := fun y => Chg none_ w8 y) (by kernel_rfl) ((Chg.refl none_ w8).drew) (fun hch0 => ?_)
                  have hz : Chg none_ w8 w8.drew := (Chg.refl none_ w8).drew
                  generalize w8.drew = wz at hz ⊢
                  clear hch0
                  refine wpAnyH_take (i := 0) (v := .bool true) rfl (by kernel_rfl) (by kernel_rfl) (by kernel_rfl) (by first | exact fun _ _ _ h => h | exact fun _ _ _ h => nomatch h.1) (Or.inl ⟨by rfl, fun w_ hw_ => by go_simp⟩) hz ?_
                  try simp only [Act.put, List.setIfInBounds_toArray, List.set_cons_zero, List.set_cons_succ, List.getElem_toArray, List.getElem_cons_zero]
                  refine wpAnyH_take (i := 1) (v := .bool false) rfl (by kernel_rfl) (by kernel_rfl) (by kernel_rfl) (by first | exact fun _ _ _ h => h | exact fun _ _ _ h => nomatch h.1) (Or.inl ⟨by rfl, fun w_ hw_ => by go_simp⟩) hz ?_
                  try simp only [Act.put, List.setIfInBounds_toArray, List.set_cons_zero, List.set_cons_succ, List.getElem_toArray, List.getElem_cons_succ, List.getElem_cons_zero]
                  refine wpAnyH_take (i := 2) (v := .bool false) rfl (by kernel_rfl) (by kernel_rfl) (by kernel_rfl) (by first | exact fun _ _ _ h => h | exact fun _ _ _ h => nomatch h.1) (Or.inl ⟨by rfl, fun w_ hw_ => by go_simp⟩) hz ?_
                  try simp only [Act.put, List.setIfInBounds_toArray, List.set_cons_zero, List.set_cons_succ, List.getElem_toArray, List.getElem_cons_succ, List.getElem_cons_zero]
                  refine wpAnyH_take (i := 4) (v := .int .i64 (nN : Int)) rfl (by kernel_rfl) (by kernel_rfl) (by kernel_rfl) (by first | exact fun _ _ _ h => h | exact fun _ _ _ h => nomatch h.1) (Or.inl ⟨by rfl, fun w_ hw_ => by go_simp⟩) hz ?_
                  try simp only [Act.put, List.setIfInBounds_toArray, List.set_cons_zero, List.set_cons_succ, List.getElem_toArray, List.getElem_cons_succ, List.getElem_cons_zero]
                  refine wpAnyH_take (i := 5) (v := .float .f64 (floatOfInt .f64 (nN : Int))) rfl (by kernel_rfl) (by kernel_rfl) (by kernel_rfl) (by first | exact fun _ _ _ h => h | exact fun _ _ _ h => nomatch h.1) (Or.inl ⟨by rfl, fun w_ hw_ => by go_simp⟩) hz ?_
                  try simp only [Act.put, List.setIfInBounds_toArray, List.set_cons_zero, List.set_cons_succ, List.getElem_toArray, List.getElem_cons_succ, List.getElem_cons_zero]
                  refine wpAnyH_take (i := 6) (v := .int .i64 (nB : Int)) rfl (by kernel_rfl) (by kernel_rfl) (by kernel_rfl) (by first | exact fun _ _ _ h => h | exact fun _ _ _ h => nomatch h.1) (Or.inl ⟨by rfl, fun w_ hw_ => by go_simp⟩) hz ?_
                  try simp only [Act.put, List.setIfInBounds_toArray, List.set_cons_zero, List.set_cons_succ, List.getElem_toArray, List.getElem_cons_succ, List.getElem_cons_zero]
                  refine wpAnyH_take (i := 7) (v := .float .f64 (floatOfInt .f64 (nB : Int))) rfl (by kernel_rfl) (by kernel_rfl) (by kernel_rfl) (by first | exact fun _ _ _ h => h | exact fun _ _ _ h => nomatch h.1) (Or.inl ⟨by rfl, fun w_ hw_ => by go_simp⟩) hz ?_
                  try simp only [Act.put, List.setIfInBounds_toArray, List.set_cons_zero, List.set_cons_succ, List.getElem_toArray, List.getElem_cons_succ, List.getElem_cons_zero]
                  refine wpAnyH_take (i := 8) (v := .complex .f64 (floatOfInt .f64 (nN : Int)) (floatOfInt .f64 (nB : Int))) rfl (by kernel_rfl) (by kernel_rfl) (by kernel_rfl) (by first | exact fun _ _ _ h => h | exact fun _ _ _ h => nomatch h.1) (Or.inl ⟨by rfl, fun w_ hw_ => by go_simp⟩) hz ?_
                  try simp only [Act.put, List.setIfInBounds_toArray, List.set_cons_zero, List.set_cons_succ, List.getElem_toArray, List.getElem_cons_succ, List.getElem_cons_zero]
                  refine wpAnyH_ready (rs := [3]) (by kernel_rfl) (by simp) ?_
                  refine AllReadyH.cons rfl (fun K hK => ?_) AllReadyH.nil
                  rw [if_pos (by rfl)]
                  try simp only [List.getElem_toArray, List.getElem_cons_succ, List.getElem_cons_zero]
                  go_simp
                  refine (HFC.out _ hz).mono ?_
                  rintro e x1 ⟨rfl, hcx⟩
                  have hz := hz.trans hcx
                  refine hK.out _ _ hz (fun _ => ?_)
                  clear hK K hcx
                  try simp only [Act.put, List.setIfInBounds_toArray, List.set_cons_zero, List.set_cons_succ, List.getElem_toArray, List.getElem_cons_succ, List.getElem_cons_zero]
                  refine wpAnyH_take (i := 9) (v := .bool false) rfl (by kernel_rfl) (by kernel_rfl) (by kernel_rfl) (by first | exact fun _ _ _ h => h | exact fun _ _ _ h => nomatch h.1) (Or.inl ⟨by rfl, fun w_ hw_ => by go_simp⟩) hz ?_
                  try simp only [Act.put, List.setIfInBounds_toArray, List.set_cons_zero, List.set_cons_succ, List.getElem_toArray, List.getElem_cons_succ, List.getElem_cons_zero]
                  refine wpAnyH_take (i := 10) (v := .bool false) rfl (by kernel_rfl) (by kernel_rfl) (by kernel_rfl) (by first | exact fun _ _ _ h => h | exact fun _ _ _ h => nomatch h.1) (Or.inl ⟨by rfl, fun w_ hw_ => by go_simp⟩) hz ?_
                  try simp only [Act.put, List.setIfInBounds_toArray, List.set_cons_zero, List.set_cons_succ, List.getElem_toArray, List.getElem_cons_succ, List.getElem_cons_zero]
                  refine wpAnyH_take (i := 11) (v := .bool false) rfl (by kernel_rfl) (by kernel_rfl) (by kernel_rfl) (by first | exact fun _ _ _ h => h | exact fun _ _ _ h => nomatch h.1) (Or.inl ⟨by rfl, fun w_ hw_ => by go_simp⟩) hz ?_
                  try simp only [Act.put, List.setIfInBounds_toArray, List.set_cons_zero, List.set_cons_succ, List.getElem_toArray, List.getElem_cons_succ, List.getElem_cons_zero]
                  refine wpAnyH_take (i := 13) (v := .pointer (some ⟨r, 1, none⟩)) rfl (by kernel_rfl) (by kernel_rfl) (by kernel_rfl) (by first | exact fun _ _ _ h => h | exact fun _ _ _ h => nomatch h.1) (Or.inl ⟨by rfl, fun w_ hw_ => by go_simp⟩) hz ?_
                  try simp only [Act.put, List.setIfInBounds_toArray, List.set_cons_zero, List.set_cons_succ, List.getElem_toArray, List.getElem_cons_succ, List.getElem_cons_zero]
                  refine wpAnyH_take (i := 14) (v := .int .i64 (n : Int)) rfl (by kernel_rfl) (by kernel_rfl) (by kernel_rfl) (by first | exact fun _ _ _ h => h | exact fun _ _ _ h => nomatch h.1) (Or.inl ⟨by rfl, fun w_ hw_ => by have q_ := HL1.out w_ hw_; go_simp⟩) hz ?_
                  try simp only [Act.put, List.setIfInBounds_toArray, List.set_cons_zero, List.set_cons_succ, List.getElem_toArray, List.getElem_cons_succ, List.getElem_cons_zero]
                  refine wpAnyH_ready (rs := [12]) (by kernel_rfl) (by simp) ?_
                  refine AllReadyH.cons rfl (fun K hK => ?_) AllReadyH.nil
                  rw [if_pos (by rfl)]
                  try simp only [List.getElem_toArray, List.getElem_cons_succ, List.getElem_cons_zero]
                  go_simp
                  refine (HNX.out _ hz).mono ?_
                  rintro e x2 ⟨rfl, hcx⟩
                  have hz := hz.trans hcx
                  refine hK.out _ _ hz (fun _ => ?_)
                  clear hK K hcx
                  try simp only [Act.put, List.setIfInBounds_toArray, List.set_cons_zero, List.set_cons_succ, List.getElem_toArray, List.getElem_cons_succ, List.getElem_cons_zero]
                  refine wpAnyH_take (i := 15) (v := .bool false) rfl (by kernel_rfl) (by kernel_rfl) (by kernel_rfl) (by first | exact fun _ _ _ h => h | exact fun _ _ _ h => nomatch h.1) (Or.inl ⟨by rfl, fun w_ hw_ => by go_simp⟩) hz ?_
                  try simp only [Act.put, List.setIfInBounds_toArray, List.set_cons_zero, List.set_cons_succ, List.getElem_toArray, List.getElem_cons_succ, List.getElem_cons_zero]
                  refine wpAnyH_take (i := 16) (v := .bool false) rfl (by kernel_rfl) (by kernel_rfl) (by kernel_rfl) (by first | exact fun _ _ _ h => h | exact fun _ _ _ h => nomatch h.1) (Or.inl ⟨by rfl, fun w_ hw_ => by go_simp⟩) hz ?_
                  try simp only [Act.put, List.setIfInBounds_toArray, List.set_cons_zero, List.set_cons_succ, List.getElem_toArray, List.getElem_cons_succ, List.getElem_cons_zero]
                  refine wpAnyH_take (i := 17) (v := .bool false) rfl (by kernel_rfl) (by kernel_rfl) (by kernel_rfl) (by first | exact fun _ _ _ h => h | exact fun _ _ _ h => nomatch h.1) (Or.inl ⟨by rfl, fun w_ hw_ => by go_simp⟩) hz ?_
                  try simp only [Act.put, List.setIfInBounds_toArray, List.set_cons_zero, List.set_cons_succ, List.getElem_toArray, List.getElem_cons_succ, List.getElem_cons_zero]
                  refine wpAnyH_take (i := 19) (v := .pointer (some ⟨r, 2, none⟩)) rfl (by kernel_rfl) (by kernel_rfl) (by kernel_rfl) (by first | exact fun _ _ _ h => h | exact fun _ _ _ h => nomatch h.1) (Or.inl ⟨by rfl, fun w_ hw_ => by go_simp⟩) hz ?_
                  try simp only [Act.put, List.setIfInBounds_toArray, List.set_cons_zero, List.set_cons_succ, List.getElem_toArray, List.getElem_cons_succ, List.getElem_cons_zero]
                  refine wpAnyH_take (i := 20) (v := .int .i64 (a : Int)) rfl (by kernel_rfl) (by kernel_rfl) (by kernel_rfl) (by first | exact fun _ _ _ h => h | exact fun _ _ _ h => nomatch h.1) (Or.inl ⟨by rfl, fun w_ hw_ => by have q_ := HL2.out w_ hw_; go_simp⟩) hz ?_
                  try simp only [Act.put, List.setIfInBounds_toArray, List.set_cons_zero, List.set_cons_succ, List.getElem_toArray, List.getElem_cons_succ, List.getElem_cons_zero]
                  refine wpAnyH_take (i := 21) (v := .int .i64 ((a : Int) - 1)) rfl (by kernel_rfl) (by kernel_rfl) (by kernel_rfl) (by first | exact fun _ _ _ h => h | exact fun _ _ _ h => nomatch h.1) (Or.inl ⟨by rfl, fun w_ hw_ => by go_simp; exact IntWalk.i64_in _ (by omega)⟩) hz ?_
                  try simp only [Act.put, List.setIfInBounds_toArray, List.set_cons_zero, List.set_cons_succ, List.getElem_toArray, List.getElem_cons_succ, List.getElem_cons_zero]
                  refine wpAnyH_ready (rs := [18]) (by kernel_rfl) (by simp) ?_
                  refine AllReadyH.cons rfl (fun K hK => ?_) AllReadyH.nil
                  rw [if_pos (by rfl)]
                  try simp only [List.getElem_toArray, List.getElem_cons_succ, List.getElem_cons_zero]
                  go_simp
                  refine (HAC.out _ hz).mono ?_
                  rintro e x3 ⟨rfl, hcx⟩
                  have hz := hz.trans hcx
                  refine hK.out _ _ hz (fun _ => ?_)
                  clear hK K hcx
                  try simp only [Act.put, List.setIfInBounds_toArray, List.set_cons_zero, List.set_cons_succ, List.getElem_toArray, List.getElem_cons_succ, List.getElem_cons_zero]
                  refine wpAnyH_take (i := 22) (v := .bool false) rfl (by kernel_rfl) (by kernel_rfl) (by kernel_rfl) (by first | exact fun _ _ _ h => h | exact fun _ _ _ h => nomatch h.1) (Or.inl ⟨by rfl, fun w_ hw_ => by go_simp⟩) hz ?_
                  try simp only [Act.put, List.setIfInBounds_toArray, List.set_cons_zero, List.set_cons_succ, List.getElem_toArray, List.getElem_cons_succ, List.getElem_cons_zero]
                  refine wpAnyH_take (i := 23) (v := .bool false) rfl (by kernel_rfl) (by kernel_rfl) (by kernel_rfl) (by first | exact fun _ _ _ h => h | exact fun _ _ _ h => nomatch h.1) (Or.inl ⟨by rfl, fun w_ hw_ => by go_simp⟩) hz ?_
                  try simp only [Act.put, List.setIfInBounds_toArray, List.set_cons_zero, List.set_cons_succ, List.getElem_toArray, List.getElem_cons_succ, List.getElem_cons_zero]
                  refine wpAnyH_take (i := 24) (v := .bool false) rfl (by kernel_rfl) (by kernel_rfl) (by kernel_rfl) (by first | exact fun _ _ _ h => h | exact fun _ _ _ h => nomatch h.1) (Or.inl ⟨by rfl, fun w_ hw_ => by go_simp⟩) hz ?_
                  try simp only [Act.put, List.setIfInBounds_toArray, List.set_cons_zero, List.set_cons_succ, List.getElem_toArray, List.getElem_cons_succ, List.getElem_cons_zero]
                  refine wpAnyH_take (i := 25) (v := .pointer (some ⟨wr.heap.size, 7, none⟩)) rfl (by kernel_rfl) (by kernel_rfl) (by kernel_rfl) (by first | exact fun _ _ _ h => h | exact fun _ _ _ h => nomatch h.1) (Or.inl ⟨by rfl, fun w_ hw_ => by go_simp⟩) hz ?_
                  try simp only [Act.put, List.setIfInBounds_toArray, List.set_cons_zero, List.set_cons_succ, List.getElem_toArray, List.getElem_cons_succ, List.getElem_cons_zero]
                  refine wpAnyH_take (i := 26) (v := .int .u64 (x.d : Int)) rfl (by kernel_rfl) (by kernel_rfl) (by kernel_rfl) (by first | exact fun _ _ _ h => h | exact fun _ _ _ h => nomatch h.1) (Or.inl ⟨by rfl, fun w_ hw_ => by have q_ := HD7.out w_ hw_; go_simp⟩) hz ?_
                  try simp only [Act.put, List.setIfInBounds_toArray, List.set_cons_zero, List.set_cons_succ, List.getElem_toArray, List.getElem_cons_succ, List.getElem_cons_zero]
                  refine wpAnyH_take (i := 28) (v := .pointer (some ⟨wr.heap.size, 7, none⟩)) rfl (by kernel_rfl) (by kernel_rfl) (by kernel_rfl) (by first | exact fun _ _ _ h => h | exact fun _ _ _ h => nomatch h.1) (Or.inl ⟨by rfl, fun w_ hw_ => by go_simp⟩) hz ?_
                  try simp only [Act.put, List.setIfInBounds_toArray, List.set_cons_zero, List.set_cons_succ, List.getElem_toArray, List.getElem_cons_succ, List.getElem_cons_zero]
                  refine wpAnyH_take (i := 29) (v := .int .u64 (x.d : Int)) rfl (by kernel_rfl) (by kernel_rfl) (by kernel_rfl) (by first | exact fun _ _ _ h => h | exact fun _ _ _ h => nomatch h.1) (Or.inl ⟨by rfl, fun w_ hw_ => by have q_ := HD7.out w_ hw_; go_simp⟩) hz ?_
                  try simp only [Act.put, List.setIfInBounds_toArray, List.set_cons_zero, List.set_cons_succ, List.getElem_toArray, List.getElem_cons_succ, List.getElem_cons_zero]
                  refine wpAnyH_ready (rs := [27]) (by kernel_rfl) (by simp) ?_
                  refine AllReadyH.cons rfl (fun K hK => ?_) AllReadyH.nil
                  rw [if_pos (by rfl)]
                  try simp only [List.getElem_toArray, List.getElem_cons_succ, List.getElem_cons_zero]
                  go_simp
                  refine (HDU.out _ hz).mono ?_
                  rintro e x4 ⟨rfl, hcx⟩
                  have hz := hz.trans hcx
                  refine hK.out _ _ hz (fun _ => ?_)
                  clear hK K hcx
                  try simp only [Act.put, List.setIfInBounds_toArray, List.set_cons_zero, List.set_cons_succ, List.getElem_toArray, List.getElem_cons_succ, List.getElem_cons_zero]
                  refine wpAnyH_ready (rs := [30]) (by kernel_rfl) (by simp) ?_
                  refine AllReadyH.cons rfl (fun K hK => ?_) AllReadyH.nil
                  rw [if_pos (by rfl)]
                  try simp only [List.getElem_toArray, List.getElem_cons_succ, List.getElem_cons_zero]
                  go_simp
                  refine (HRU.out _ hz).mono ?_
                  rintro e x5 ⟨rfl, hcx⟩
                  have hz := hz.trans hcx
                  refine hK.out _ _ hz (fun _ => ?_)
                  clear hK K hcx
                  try simp only [Act.put, List.setIfInBounds_toArray, List.set_cons_zero, List.set_cons_succ, List.getElem_toArray, List.getElem_cons_succ, List.getElem_cons_zero]
                  refine wpAnyH_take (i := 31) (v := .bool false) rfl (by kernel_rfl) (by kernel_rfl) (by kernel_rfl) (by first | exact fun _ _ _ h => h | exact fun _ _ _ h => nomatch h.1) (Or.inl ⟨by rfl, fun w_ hw_ => by go_simp⟩) hz ?_
                  try simp only [Act.put, List.setIfInBounds_toArray, List.set_cons_zero, List.set_cons_succ, List.getElem_toArray, List.getElem_cons_succ, List.getElem_cons_zero]
                  refine wpAnyH_take (i := 32) (v := .bool false) rfl (by kernel_rfl) (by kernel_rfl) (by kernel_rfl) (by first | exact fun _ _ _ h => h | exact fun _ _ _ h => nomatch h.1) (Or.inl ⟨by rfl, fun w_ hw_ => by go_simp⟩) hz ?_
                  try simp only [Act.put, List.setIfInBounds_toArray, List.set_cons_zero, List.set_cons_succ, List.getElem_toArray, List.getElem_cons_succ, List.getElem_cons_zero]
                  refine wpAnyH_take (i := 33) (v := .bool false) rfl (by kernel_rfl) (by kernel_rfl) (by kernel_rfl) (by first | exact fun _ _ _ h => h | exact fun _ _ _ h => nomatch h.1) (Or.inl ⟨by rfl, fun w_ hw_ => by go_simp⟩) hz ?_
                  try simp only [Act.put, List.setIfInBounds_toArray, List.set_cons_zero, List.set_cons_succ, List.getElem_toArray, List.getElem_cons_succ, List.getElem_cons_zero]
                  refine wpAnyH_take (i := 34) (v := .int .u64 (lt : Int)) rfl (by kernel_rfl) (by kernel_rfl) (by kernel_rfl) (by first | exact fun _ _ _ h => h | exact fun _ _ _ h => nomatch h.1) (Or.inl ⟨by rfl, fun w_ hw_ => by go_simp⟩) hz ?_
                  try simp only [Act.put, List.setIfInBounds_toArray, List.set_cons_zero, List.set_cons_succ, List.getElem_toArray, List.getElem_cons_succ, List.getElem_cons_zero]
                  refine wpAnyH_take (i := 35) (v := .int .u64 (lt : Int)) rfl (by kernel_rfl) (by kernel_rfl) (by kernel_rfl) (by first | exact fun _ _ _ h => h | exact fun _ _ _ h => nomatch h.1) (Or.inl ⟨by rfl, fun w_ hw_ => by go_simp⟩) hz ?_
                  try simp only [Act.put, List.setIfInBounds_toArray, List.set_cons_zero, List.set_cons_succ, List.getElem_toArray, List.getElem_cons_succ, List.getElem_cons_zero]
                  refine wpAnyH_take (i := 36) (v := .bool false) rfl (by kernel_rfl) (by kernel_rfl) (by kernel_rfl) (by first | exact fun _ _ _ h => h | exact fun _ _ _ h => nomatch h.1) (Or.inl ⟨by rfl, fun w_ hw_ => by go_simp⟩) hz ?_
                  try simp only [Act.put, List.setIfInBounds_toArray, List.set_cons_zero, List.set_cons_succ, List.getElem_toArray, List.getElem_cons_succ, List.getElem_cons_zero]
                  refine wpAnyH_take (i := 37) (v := .bool false) rfl (by kernel_rfl) (by kernel_rfl) (by kernel_rfl) (by first | exact fun _ _ _ h => h | exact fun _ _ _ h => nomatch h.1) (Or.inl ⟨by rfl, fun w_ hw_ => by go_simp⟩) hz ?_
                  try simp only [Act.put, List.setIfInBounds_toArray, List.set_cons_zero, List.set_cons_succ, List.getElem_toArray, List.getElem_cons_succ, List.getElem_cons_zero]
                  refine wpAnyH_take (i := 38) (v := .bool false) rfl (by kernel_rfl) (by kernel_rfl) (by kernel_rfl) (by first | exact fun _ _ _ h => h | exact fun _ _ _ h => nomatch h.1) (Or.inl ⟨by rfl, fun w_ hw_ => by go_simp⟩) hz ?_
                  try simp only [Act.put, List.setIfInBounds_toArray, List.set_cons_zero, List.set_cons_succ, List.getElem_toArray, List.getElem_cons_succ, List.getElem_cons_zero]
                  refine wpAnyH_take (i := 39) (v := .bool lo) rfl (by kernel_rfl) (by kernel_rfl) (by kernel_rfl) (by first | exact fun _ _ _ h => h | exact fun _ _ _ h => nomatch h.1) (Or.inl ⟨by rfl, fun w_ hw_ => by go_simp⟩) hz ?_
                  try simp only [Act.put, List.setIfInBounds_toArray, List.set_cons_zero, List.set_cons_succ, List.getElem_toArray, List.getElem_cons_succ, List.getElem_cons_zero]
                  refine wpAnyH_take (i := 40) (v := .bool lo) rfl (by kernel_rfl) (by kernel_rfl) (by kernel_rfl) (by first | exact fun _ _ _ h => h | exact fun _ _ _ h => nomatch h.1) (Or.inl ⟨by rfl, fun w_ hw_ => by go_simp⟩) hz ?_
                  try simp only [Act.put, List.setIfInBounds_toArray, List.set_cons_zero, List.set_cons_succ, List.getElem_toArray, List.getElem_cons_succ, List.getElem_cons_zero]
                  refine wpAnyH_take (i := 41) (v := .bool false) rfl (by kernel_rfl) (by kernel_rfl) (by kernel_rfl) (by first | exact fun _ _ _ h => h | exact fun _ _ _ h => nomatch h.1) (Or.inl ⟨by rfl, fun w_ hw_ => by go_simp⟩) hz ?_
                  try simp only [Act.put, List.setIfInBounds_toArray, List.set_cons_zero, List.set_cons_succ, List.getElem_toArray, List.getElem_cons_succ, List.getElem_cons_zero]
                  refine wpAnyH_take (i := 42) (v := .bool false) rfl (by kernel_rfl) (by kernel_rfl) (by kernel_rfl) (by first | exact fun _ _ _ h => h | exact fun _ _ _ h => nomatch h.1) (Or.inl ⟨by rfl, fun w_ hw_ => by go_simp⟩) hz ?_
                  try simp only [Act.put, List.setIfInBounds_toArray, List.set_cons_zero, List.set_cons_succ, List.getElem_toArray, List.getElem_cons_succ, List.getElem_cons_zero]
                  refine wpAnyH_take (i := 43) (v := .bool false) rfl (by kernel_rfl) (by kernel_rfl) (by kernel_rfl) (by first | exact fun _ _ _ h => h | exact fun _ _ _ h => nomatch h.1) (Or.inl ⟨by rfl, fun w_ hw_ => by go_simp⟩) hz ?_
                  try simp only [Act.put, List.setIfInBounds_toArray, List.set_cons_zero, List.set_cons_succ, List.getElem_toArray, List.getElem_cons_succ, List.getElem_cons_zero]
                  refine wpAnyH_take (i := 45) (v := .pointer (some ⟨r, 0, none⟩)) rfl (by kernel_rfl) (by kernel_rfl) (by kernel_rfl) (by first | exact fun _ _ _ h => h | exact fun _ _ _ h => nomatch h.1) (Or.inl ⟨by rfl, fun w_ hw_ => by go_simp⟩) hz ?_
                  try simp only [Act.put, List.setIfInBounds_toArray, List.set_cons_zero, List.set_cons_succ, List.getElem_toArray, List.getElem_cons_succ, List.getElem_cons_zero]
                  refine wpAnyH_take (i := 46) (v := .slice AL mL.length cl) rfl (by kernel_rfl) (by kernel_rfl) (by kernel_rfl) (by first | exact fun _ _ _ h => h | exact fun _ _ _ h => nomatch h.1) (Or.inl ⟨by rfl, fun w_ hw_ => by have q_ := HL0.out w_ hw_; go_simp⟩) hz ?_
                  try simp only [Act.put, List.setIfInBounds_toArray, List.set_cons_zero, List.set_cons_succ, List.getElem_toArray, List.getElem_cons_succ, List.getElem_cons_zero]
                  refine wpAnyH_ready (rs := [44]) (by kernel_rfl) (by simp) ?_
                  refine AllReadyH.cons rfl (fun K hK => ?_) AllReadyH.nil
                  rw [if_pos (by rfl)]
                  try simp only [List.getElem_toArray, List.getElem_cons_succ, List.getElem_cons_zero]
                  go_simp
                  refine (HLS.out _ hz).mono ?_
                  rintro e x6 ⟨AG9, cg9, G9, rfl, hag, hmg, hcx⟩
                  have hax := HAN.out.chg (chg_none (hz.trans hcx))
                  have hz := hz.trans hcx
                  refine hK.out _ _ hz (fun _ => ?_)
                  clear hK K hcx
                  try simp only [Act.put, List.setIfInBounds_toArray, List.set_cons_zero, List.set_cons_succ, List.getElem_toArray, List.getElem_cons_succ, List.getElem_cons_zero]
                  refine wpAnyH_ready (rs := [47]) (by kernel_rfl) (by simp) ?_
                  refine AllReadyH.cons rfl (fun K hK => ?_) AllReadyH.nil
                  rw [if_pos (by rfl)]
                  try simp only [List.getElem_toArray, List.getElem_cons_succ, List.getElem_cons_zero]
                  go_simp
                  refine (hag.same hax (hmg.trans HMP.out.symm) _ _).mono ?_
                  rintro e x7 ⟨rfl, hcx⟩
                  have hz := hz.trans hcx
                  refine hK.out _ _ hz (fun _ => ?_)
                  clear hK K hcx
                  try simp only [Act.put, List.setIfInBounds_toArray, List.set_cons_zero, List.set_cons_succ, List.getElem_toArray, List.getElem_cons_succ, List.getElem_cons_zero]
                  refine wpAnyH_take (i := 48) (v := .bool false) rfl (by kernel_rfl) (by kernel_rfl) (by kernel_rfl) (by first | exact fun _ _ _ h => h | exact fun _ _ _ h => nomatch h.1) (Or.inl ⟨by rfl, fun w_ hw_ => by go_simp⟩) hz ?_
                  try simp only [Act.put, List.setIfInBounds_toArray, List.set_cons_zero, List.set_cons_succ, List.getElem_toArray, List.getElem_cons_succ, List.getElem_cons_zero]
                  refine wpAnyH_take (i := 49) (v := .bool false) rfl (by kernel_rfl) (by kernel_rfl) (by kernel_rfl) (by first | exact fun _ _ _ h => h | exact fun _ _ _ h => nomatch h.1) (Or.inl ⟨by rfl, fun w_ hw_ => by go_simp⟩) hz ?_
                  try simp only [Act.put, List.setIfInBounds_toArray, List.set_cons_zero, List.set_cons_succ, List.getElem_toArray, List.getElem_cons_succ, List.getElem_cons_zero]
                  refine wpAnyH_done (by kernel_rfl) ?_ _
                  go_wp2
                  go_roundw
                  case rel => exact ⟨j + 1, P, n, a, by go_num, by omega, by omega, Lib.hid ((HJ.out.quiet hz).forget), Lib.hid (HC.out.trans hz)⟩
                  case measure => simp [intOf]; omega
      · have d0 : ¬ (j : Int) < (l.length : Int) := by omega
        clear hlt hj hn
        go_wp2
        go_ret
        exact ⟨rfl, HC.out⟩
end Go.Proofs.Ytakoeamfmmbdiaa
