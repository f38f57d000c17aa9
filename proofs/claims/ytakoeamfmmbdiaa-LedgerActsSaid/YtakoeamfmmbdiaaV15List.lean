/- Layer 15 (ledger): List. -/
import Derived.Test.YtakoeamfmmbdiaaV15Small
import Derived.Test.YtakoeamfmmbdiaaV15Apart
namespace Go.Proofs.Ytakoeamfmmbdiaa
open Go.RowKit

theorem List_nil (w : World) : Calls Try.prog 13 #[.pointer none] w fun e w' => e = .returned (.slice none 0 0) ∧ w' = w := by
  have HP := Lib.hid ((packets_nil w).mono (fun _ _ q => And.intro q.1 q.2.symm))
  go_enter Try.func13, Try.ntmps13
  go_wp2_with ((with_reducible show Calls _ 33 _ _ _); refine HP.out.mono ?_; rintro e w1 ⟨rfl, rfl⟩)
  go_loopw [3, 9] (fun i3_ i wr => i = .int .i64 0 ∧ i3_ = .slice none 0 0 ∧ w = wr) (fun _ _ _ => 0)
  case atStart => exact ⟨rfl, rfl, rfl⟩
  case round =>
    obtain ⟨rfl, rfl, rfl⟩ := hrel
    go_wp2
    go_ret
    exact ⟨rfl, rfl⟩

set_option maxRecDepth 100000 in
set_option maxHeartbeats 4000000 in
theorem List_any (base g next above : Nat) (T : Nat → Prop) (v : Value) (l : List It) (w : World) (h : LedAt w base g T v l next above) (hl : l.length ≤ 1000) :
    Calls Try.prog 13 #[.pointer (some ⟨g, 0, none⟩)] w fun e w' => ∃ gv L, e = .returned gv ∧ OwnS w' w.heap.size gv L ∧ L.map It.pl = l.map It.pl ∧ (∀ x ∈ L, ItD w' (fun b => w.heap.size ≤ b) x) ∧ Chg none_ w w' := by
  have HP := Lib.hid ((packets_any h).mono (fun _ _ q => And.intro q.1 q.2.symm))
  obtain ⟨A, c, rfl, _, _, hv⟩ := h.own.view
  obtain ⟨i5, hi5⟩ := infoS
  have HV : Hid (∀ W, Chg none_ w W → View W (fun b => (Value.slice A l.length c).ownBlock = some b) A (l.length * 5) (l.flatMap itc)) := Lib.hid (fun W hc => hv.chg hc (fun _ _ h => h))
  have HIT := Lib.hid h.its
  clear h hv
  go_enter Try.func13, Try.ntmps13
  go_wp2_with ((with_reducible show Calls _ 33 _ _ _); refine HP.out.mono ?_; rintro e w1 ⟨rfl, rfl⟩)
  go_loopw [3, 9] (fun i3_ i wr => ∃ (k : Nat) (gv : Value) (L : List It), i = .int .i64 (k : Int) ∧ gv = i3_ ∧ k ≤ l.length ∧ Hid (OwnS wr w.heap.size gv L) ∧ Hid (L.map It.pl = (l.take k).map It.pl) ∧ Hid (∀ x ∈ L, ItD wr (fun b => w.heap.size ≤ b ∧ gv.ownBlock ≠ some b) x) ∧ Hid (Chg none_ w wr)) (fun _ i _ => l.length - (intOf i).toNat)
  case atStart => exact ⟨0, _, [], rfl, rfl, Nat.zero_le _, Lib.hid (OwnN.nil _ _ _ _ _), Lib.hid rfl, Lib.hid (fun x hx => nomatch hx), Lib.hid (Chg.refl _ _)⟩
  case round =>
    obtain ⟨k, gv, L, rfl, rfl, hk, HO, HM, HD, HC⟩ := hrel
    by_cases hlt : k < l.length
    · have k1 : (k : Int) < (l.length : Int) := by omega
      have k0 : (0 : Int) ≤ (k : Int) := by omega
      obtain ⟨b, o, rfl, hb, _, hra⟩ := (HV.out wr HC.out).elemAt itc_len (by decide) it0 hlt
      have hr := hra k hlt
      have hmx : l.getD k it0 ∈ l := getD_mem it0 hlt
      obtain ⟨x, hx⟩ : ∃ x, l.getD k it0 = x := ⟨_, rfl⟩
      rw [hx] at hr hmx
      have HRX := Lib.hid hr
      have HXD : Hid (∀ W, Chg none_ w W → ItD W T x) := Lib.hid (fun W hc => (HIT.out x hmx).chg hc (fun _ _ h => h))
      have HNX : Hid ((l.take (k + 1)).map It.pl = (l.take k).map It.pl ++ [x.pl]) := Lib.hid (by rw [take_snoc it0 hlt, hx]; simp)
      have HLL : Hid (L.length + 1 ≤ 1000000) := Lib.hid (by
        have h1 := congrArg List.length HM.out
        simp only [List.length_map, List.length_take] at h1
        omega)
      clear hra hr hx hb hmx
      go_wp2_with (first | ((with_reducible show wpList _ _ _ (⟨some 12, .load _ _, _, _, _, _⟩ :: _) _ _); refine wpList_load_Mid (cs := itc x) rfl rfl rfl HRX.out Try.underlying32 rfl sizeS ?_) | ((with_reducible show wpList _ _ _ (⟨some 5, .alloc _, _, _, _, _⟩ :: _) _ _); refine wpList_alloc_Row rfl rfl (itc it0) zeroS ?_; intro w4 hr4 hc4 hs4; have HR4 := Lib.hid hr4; have HC4 := Lib.hid hc4; clear hr4 hc4 hs4) | ((with_reducible show wpList _ _ _ (⟨none, .store _ (.tmp 5) _, _, _, _, _⟩ :: _) _ _); refine wpList_store_Row (xs := itc x) rfl rfl rfl HR4.out rfl rfl sizeS (List.all_eq_true.2 (itc_one x)) ?_; intro w5 hr5 hc5 hs5; have HR5 := Lib.hid hr5; have HC5 := Lib.hid (hc5 none_ wr HC4.out (fun h => absurd h (Nat.lt_irrefl _))); clear hr5 hc5 hs5) | ((with_reducible show wpList _ _ _ (⟨some 14, .load _ _, _, _, _, _⟩ :: _) _ _); refine wpList_load_Row rfl rfl rfl HR5.out Try.underlying32 rfl sizeS ?_) | ((with_reducible show Calls _ 26 _ _ _); refine (apart_any x T _ (HXD.out _ (HC.out.trans HC5.out))).mono ?_; rintro e w6 ⟨y, rfl, hpl, hy, hc6⟩; have HPL := Lib.hid hpl; have HY := Lib.hid hy; have HC6 := Lib.hid hc6; clear hpl hy hc6) | ((with_reducible show wpList _ _ _ (⟨some 16, _, _, _, _, _⟩ :: _) _ _); refine wpList_newN (f := fun g => .slice (some ⟨g, 0, none⟩) 1 1) (e := 32) (cs := itc y) rfl (fun w_ => by have := run_sliceS y w_; simp [execOp, Act.eval, this]) ?_; intro w7 hr7 hc7 hs7; have HR7 := Lib.hid hr7; have HC7 := Lib.hid hc7; clear hr7 hc7 hs7) | ((with_reducible show wpList _ _ _ (⟨some 17, _, _, _, _, _⟩ :: _) _ _); refine wpList_append_N rfl (c := itc) (e := 32) (s := 5) (base := w.heap.size) (v := gv) (L := L) (M := [y]) (T := fun b => b = w6.heap.size) (A := some ⟨w6.heap.size, 0, none⟩) (m := 1) (cp := 1) (i := i5) (z := .agg (itc it0).toArray) _ _ 33 rfl Try.underlying33 hi5 rfl (by decide) itc_one itc_len rfl (((HO.out.chg HC5.out (fun _ _ h => h)).chg HC6.out (fun _ _ h => h)).chg HC7.out (fun _ _ h => h)) rfl (viewS HR7.out) HLL.out (((HC.out.trans HC5.out).trans HC6.out).trans HC7.out).size ?_; intro v8 w8 o8 c8 n8; have HO8 : Hid (OwnS w8 w.heap.size v8 (L ++ [y])) := Lib.hid o8; have HC8 := Lib.hid c8; have HN8 := Lib.hid n8; clear o8 c8 n8))
      go_roundw
      case rel =>
        have hcw : Chg none_ w w8 := (((HC.out.trans HC5.out).trans HC6.out).trans HC7.out).andThen HC8.out (fun b hb e => by have := (HO.out.lt e).1; omega)
        have h5 := HC5.out.size
        have h6 := HC6.out.size
        have h7 := HC7.out.size
        have hw := HC.out.size
        refine ⟨k + 1, v8, L ++ [y], by go_num, rfl, by omega, HO8, Lib.hid ?_, Lib.hid (fun z hz => ?_), Lib.hid hcw⟩
        · rw [HNX.out, List.map_append, HM.out, ← HPL.out]
          rfl
        · rcases List.mem_append.1 hz with hz | hz
          · refine ((((HD.out z hz).mono (T' := fun b => w.heap.size ≤ b ∧ gv.ownBlock ≠ some b ∧ b < wr.heap.size) (fun b hb h => ⟨h.1, h.2, hb⟩)).chg ((HC5.out.trans HC6.out).trans HC7.out) (fun _ _ h => h)).chg HC8.out (fun b hb e => hb.2.1 e)).mono (fun b _ hb => ⟨hb.1, fun e => ?_⟩)
            rcases HN8.out b e with h | h
            · exact hb.2.1 h
            · omega
          · obtain rfl : z = y := by simpa using hz
            refine ((HY.out.mono (T' := fun b => w5.heap.size ≤ b ∧ b < w6.heap.size) (fun b hb h => ⟨h, hb⟩)).chg HC7.out (fun _ _ h => h)).chg HC8.out (fun b hb e => by have := (HO.out.lt e).2; omega) |>.mono (fun b _ hb => ⟨by omega, fun e => ?_⟩)
            rcases HN8.out b e with h | h
            · have := (HO.out.lt h).2; omega
            · omega
      case measure => simp [intOf]; omega
    · have hke : k = l.length := by omega
      subst hke
      rw [List.take_of_length_le (Nat.le_refl _)] at HM
      clear hlt hk
      go_wp2
      go_ret
      exact ⟨gv, L, rfl, HO.out, HM.out, fun x hx => (HD.out x hx).mono (fun _ _ h => h.1), HC.out⟩
end Go.Proofs.Ytakoeamfmmbdiaa
