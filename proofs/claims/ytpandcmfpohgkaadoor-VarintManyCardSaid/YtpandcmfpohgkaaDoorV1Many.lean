/- Layer 1 (varint): the walk of VarintMany. -/
import Derived.Test.YtpandcmfpohgkaaDoorV1Order
import Derived.Deep.RegionWith
import Derived.Deep.RegionHeld3
namespace Go.Proofs.YtpandcmfpohgkaaDoor
open Go.RowKit

/-- Integers one behind the other. -/
def enc (l : List Nat) : List Nat := l.flatMap fun n => wideB n (szN n)
def u64s (l : List Nat) : List Value := l.map fun (x : Nat) => Value.int .u64 (x : Int)
theorem enc_nil : enc [] = [] := rfl
theorem enc_snoc (l : List Nat) (n : Nat) : enc (l ++ [n]) = enc l ++ wideB n (szN n) := by simp [enc]
theorem enc_cons (n : Nat) (l : List Nat) : enc (n :: l) = wideB n (szN n) ++ enc l := by simp [enc]
theorem wideB_len (n : Nat) : (wideB n (szN n)).length ≤ 8 := by
  by_cases h : n < 4611686018427387904
  · obtain ⟨h1, h2, _⟩ := wideB_put n h
    rw [h1, be_len]
    unfold isW at h2
    omega
  · rw [wideB_big n (by omega)]; simp
theorem enc_len : ∀ l : List Nat, (enc l).length ≤ 8 * l.length
  | [] => by simp [enc]
  | n :: l => by
    have := enc_len l
    have := wideB_len n
    rw [enc_cons, List.length_append, List.length_cons]
    omega
theorem wideB_lt (n : Nat) : ∀ x ∈ wideB n (szN n), x < 256 := by
  by_cases h : n < 4611686018427387904
  · obtain ⟨h1, h2, h3⟩ := wideB_put n h
    rw [h1]
    exact be_lt n _ h2 h3
  · rw [wideB_big n (by omega)]; simp
theorem enc_lt (l : List Nat) : ∀ x ∈ enc l, x < 256 := by
  intro x hx
  obtain ⟨n, _, hn⟩ := List.mem_flatMap.1 hx
  exact wideB_lt n x hn

theorem View.at64 {w : World} {T : Nat → Prop} {A : Option Addr} {n i : Nat} {l : List Nat} (h : View w T A n (u64s l)) (hi : i < n) :
    ∃ b o, A = some ⟨b, o, none⟩ ∧ b < w.heap.size ∧ T b ∧ w.cell? ⟨b, o + i, none⟩ = some (.int .u64 ((l.getD i 0 : Nat) : Int)) := by
  obtain ⟨b, o, ha, hb, ht, hc⟩ := h.2 (by omega)
  have hl : i < l.length := by have := h.1; simp [u64s] at this; omega
  exact ⟨b, o, ha, hb, ht, by rw [hc i hi]; simp [u64s, hl, List.getD_eq_getElem?_getD]⟩

theorem walk_many_long (l : List Nat) (A : Option Addr) (cap : Nat) (w : World) (hT : Tab w) (hl : 60 < l.length) (hm : l.length ≤ maxLen) :
    Calls Tryd.prog 7 #[.slice A l.length cap] w fun e w' => e = .returned (.bool true) ∧ Chg none_ w w' := by
  unfold maxLen at hm
  go_enter Tryd.func7, Tryd.ntmps7
  go_wp2_with (go_at_call 8; refine (alive_any _ hT).mono ?_; rintro e w1 ⟨rfl, hc⟩)
  go_ret
  exact ⟨rfl, hc⟩

set_option maxHeartbeats 1000000 in
theorem walk_many (l : List Nat) (A : Option Addr) (cap : Nat) (w : World) (hv : View w (fun _ => True) A l.length (u64s l)) (hT : Tab w) (hl : l.length ≤ 60) :
    Calls Tryd.prog 7 #[.slice A l.length cap] w fun e w' => e = .returned (.bool true) ∧ Chg none_ w w' := by
  have HT := Lib.hid hT
  have HV := Lib.hid hv
  clear hT hv
  obtain ⟨i0, hi, hz0, hz1, hz2⟩ := info_parts info5
  go_enter Tryd.func7, Tryd.ntmps7
  go_wp2_with (go_at_call 8; refine (alive_any _ HT.out).mono ?_; rintro e w1 ⟨rfl, hc⟩)
  have C1 := Lib.hid hc
  clear hc
  go_loopw [3, 4] (fun t i wr => ∃ (k : Nat) (v : Value), v = t ∧ k ≤ l.length ∧ i = .int .i64 k ∧ Hid (wr.ownsRow w1.heap.size 5 1 v (enc (l.take k)).length (u8s (enc (l.take k)))) ∧ Hid (Chg none_ w wr) ∧ w1.heap.size ≤ wr.heap.size) (fun _ i _ => l.length - (intOf i).toNat)
  case atStart => exact ⟨0, _, rfl, Nat.zero_le _, rfl, World.ownsRow_nil _ _ _ _, C1, Nat.le_refl _⟩
  case round =>
    obtain ⟨k, v, rfl, hk, rfl, hown, hch, hsz⟩ := hrel
    by_cases hlt : k < l.length
    · obtain ⟨b, o, rfl, hb, _, hcell⟩ := HV.out.at64 hlt
      have hcr : wr.cell? ⟨b, o + k, none⟩ = some (.int .u64 ((l.getD k 0 : Nat) : Int)) := (hch.out.cell _ hb (fun h => h)).trans hcell
      have hstep : enc (l.take (k + 1)) = enc (l.take k) ++ wideB (l.getD k 0) (szN (l.getD k 0)) := by
        rw [List.take_succ_eq_append_getElem hlt, enc_snoc]
        simp [List.getD_eq_getElem?_getD, hlt]
      have HS := Lib.hid hstep
      have hlen : (enc (l.take k)).length ≤ 480 := by have := enc_len (l.take k); rw [List.length_take] at this; omega
      generalize l.getD k 0 = n at hcr HS
      have hwl := wideB_len n
      clear hcell hstep
      go_wp2_with fail
      refine (put_any n wr (HT.out.chg hch.out (fun h => h))).mono ?_
      rintro e w2 ⟨v2, rfl, hnb⟩
      have C2 := Lib.hid (hch.out.trans hnb.1)
      have hown2 := hown.out.kept (w' := w2) (row := none) ⟨hnb.1.os, hnb.1.tape, hnb.1.output, hnb.1.size, fun j hj _ => hnb.1.block j hj (fun h => h)⟩ (by cases v.ownBlock <;> simp)
      have hs2 : w1.heap.size ≤ w2.heap.size := Nat.le_trans hsz hnb.1.size
      have hk2 := hnb.view
      obtain ⟨A2, cap2, rfl, hv2⟩ := hk2
      have V2 := Lib.hid hv2
      have O2 := Lib.hid hown2
      clear hnb hown2 hv2
      have hB : w.heap.size ≤ w1.heap.size := C1.out.size
      generalize hpre : enc (l.take k) = pre at O2 HS hlen
      generalize hnew : wideB n (szN n) = new at V2 HS hwl
      have HP := Lib.hid hpre
      have HN := Lib.hid hnew
      clear hpre hnew
      go_wp2_with (at_builtin; refine wpList_append_view rfl _ _ 26 rfl 5 i0 _ 1 Tryd.underlying26 hi hz0 hz1 hz2 rfl w1.heap.size v pre.length (u8s pre) rfl O2.out (fun b => wr.heap.size ≤ b) A2 new.length cap2 (u8s new) rfl V2.out (u8s_one _) (by unfold maxLen; omega) (by omega) hs2 ?_; intro v' w3 hown hgrow _)
      have C3 := Lib.hid (C2.out.append hB O2.out hgrow)
      have S3 := Lib.hid (Nat.le_trans hs2 hgrow.size)
      have O3 := Lib.hid hown
      clear hown hgrow
      go_wp2
      go_roundw
      case rel =>
        refine ⟨k + 1, v', rfl, by omega, by go_num, ?_, C3.out, S3.out⟩
        have := O3.out
        rw [u8s_append, ← List.length_append] at this
        rw [HS.out]
        exact this
      case measure => simp [intOf]; omega
    · have hkl : k = l.length := by omega
      have hno : ¬ (k : Int) < (l.length : Int) := by omega
      have hbytes : enc (l.take k) = enc l := by rw [List.take_of_length_le (by omega)]
      rw [hbytes] at hown
      have hel : (enc l).length ≤ 480 := by have := enc_len l; omega
      obtain ⟨A3, cap3, rfl, _, _, hv3⟩ := View.own (T := fun b => w1.heap.size ≤ b) hown.out (fun _ h => h)
      have hrd := read_any wr _ A3 cap3 (enc l) hv3 (by omega)
      have HRD := Lib.hid hrd
      clear hbytes hown hv3 hrd
      go_wp2_with fail
      refine HRD.out.mono ?_
      rintro e w4 ⟨g, rfl, hg, hr, hc4⟩
      have hst : St w g (fun b => wr.heap.size ≤ b ∧ b ≠ g) w4 (enc l) 0 :=
        ⟨hch.out.trans hc4, hr, HT.out.chg (hch.out.trans hc4) (fun h => h), Nat.le_trans hch.out.size hg, fun h => h.2 rfl, fun b h => Nat.le_trans hch.out.size h.1⟩
      generalize (fun b => wr.heap.size ≤ b ∧ b ≠ g) = T at hst
      have S4 := Lib.hid hst
      have HK := Lib.hid hkl
      clear hr hc4 hg hst hkl
      go_wp2
      go_loopw [6] (fun i wr => ∃ j : Nat, j ≤ l.length ∧ i = .int .i64 j ∧ Hid (St w g T wr (enc (l.drop j)) 0)) (fun i _ => l.length - (intOf i).toNat)
      case atStart => exact ⟨0, Nat.zero_le _, rfl, S4⟩
      case round =>
        obtain ⟨j, hj, rfl, hst⟩ := hrel
        by_cases hjl : j < l.length
        · obtain ⟨b, o, rfl, hb, _, hcell⟩ := HV.out.at64 hjl
          have hcr : wr.cell? ⟨b, o + j, none⟩ = some (.int .u64 ((l.getD j 0 : Nat) : Int)) := (hst.out.chg.cell _ hb (fun h => h)).trans hcell
          have hdrop : enc (l.drop j) = wideB (l.getD j 0) (szN (l.getD j 0)) ++ enc (l.drop (j + 1)) := by
            rw [List.drop_eq_getElem_cons hjl, enc_cons]
            simp [List.getD_eq_getElem?_getD, hjl]
          rw [hdrop] at hst
          generalize l.getD j 0 = n at hcr hst
          have hbg : b ≠ g := by have := hst.out.new; omega
          have b1 : (0 : Int) ≤ (j : Int) := by omega
          have b2 : (j : Int) < (l.length : Int) := by omega
          clear hcell hdrop
          by_cases hn : n < 4611686018427387904
          · obtain ⟨e1, e2, e3⟩ := wideB_put n hn
            rw [e1] at hst
            obtain ⟨f, r, hfr, hf, hr, hneed, hfold⟩ := back_math n _ e2 e3 (enc (l.drop (j + 1)))
            rw [hfr] at hst
            have hst2 := hst.out.step ((Chg.refl none_ wr).drew)
            have hit := int_ok wr.drew g T f (r ++ enc (l.drop (j + 1))) hst2.rd hst2.apart hf (fun x hx => by
              rcases List.mem_append.1 hx with h | h
              · exact hr x h
              · exact enc_lt _ x h) (by rw [List.length_append]; omega)
            rw [hneed, List.take_left, List.drop_left, hfold] at hit
            have HI := Lib.hid hit
            have S2 := Lib.hid hst2
            have hp : 0 < szN n := by unfold isW at e2; omega
            have HBG := Lib.hid hbg
            have HBL := Lib.hid (show b < wr.heap.size from Nat.lt_of_lt_of_le hb hst.out.chg.size)
            have hgt : (0 : Int) < ((szN n : Nat) : Int) := by omega
            have hdz : decide (0 < szN n) = true := decide_eq_true hp
            clear e1 e2 e3 hfr hf hr hneed hfold hit hn hbg hgt hst2
            go_wp2
            go_region_held3 (fun w' => w'.cell? ⟨b, o + j, none⟩ = some (.int .u64 (n : Int))) (first | go_keep | exact (hcI.cell _ HBL.out HBG.out).trans hcr) (first | (go_at_call 9; refine (size_any n _).mono ?_; rintro e w' ⟨rfl, rfl⟩) | (go_at_call 19; refine HI.out.mono ?_; rintro e wI ⟨rfl, hrI, hcI⟩))
            have S3 := Lib.hid (S2.out.read HT.out hcI hrI)
            clear hcI hrI
            go_wp2
            go_roundw
            case rel => exact ⟨j + 1, by omega, by go_num, S3⟩
            case measure => simp [intOf]; omega
          · have e0 := szN_0 (show 4611686018427387904 ≤ n by omega)
            rw [wideB_big n (by omega), List.nil_append] at hst
            have hsz := size_any n
            rw [e0] at hsz
            have HZ := Lib.hid hsz
            clear e0 hn hbg hsz
            go_wp2
            go_quiet ((go_at_call 9; exact Calls.quiet_of_same ((HZ.out _).mono fun _ _ h => ⟨h.1, h.2.symm⟩)))
            go_wp2
            go_roundw
            case rel => exact ⟨j + 1, by omega, by go_num, hst.out.step ((Chg.refl none_ wr).drewN _)⟩
            case measure => simp [intOf]; omega
        · have hjk : j = l.length := by omega
          have hno2 : ¬ (j : Int) < (l.length : Int) := by omega
          have he : enc (l.drop j) = [] := by rw [List.drop_eq_nil_of_le (by omega)]; rfl
          rw [he] at hst
          have HJ := Lib.hid hjk
          have HL0 := Lib.hid (left_ok wr g T [] 0 hst.out.rd)
          have HB0 := Lib.hid (bad_ok wr g T [] 0 hst.out.rd)
          clear hjk he
          go_wp2_with (first | (go_at_call 18; refine HL0.out.mono ?_; rintro e w' ⟨rfl, rfl⟩) | (go_at_call 17; refine HB0.out.mono ?_; rintro e w' ⟨rfl, rfl⟩))
          go_ret
          exact ⟨rfl, hst.out.chg⟩

theorem row_u64 {w : World} {a : Option Addr} {len cap : Nat} {zs : List Int} (h : IsRow .u64 w a len cap zs) :
    ∃ xs : List Nat, xs.length = len ∧ len ≤ cap ∧ cap ≤ maxLen ∧ View w (fun _ => True) a xs.length (u64s xs) := by
  obtain ⟨xs, h1, h2, h3, h4, h5⟩ := h.view
  refine ⟨xs.map Int.toNat, by simpa using h1, h2, h3, ?_⟩
  have e : u64s (xs.map Int.toNat) = ints .u64 xs := by
    simp only [u64s, ints, List.map_map]
    apply List.map_congr_left
    intro x hx
    obtain ⟨n, rfl⟩ := nat_of_wf (h4 x hx) rfl
    simp
  rw [e, List.length_map]
  exact h5

theorem walk_VarintMany (a0 : Option Addr) (len0 cap0 : Nat) (z0 : List Int) (w : World) (w0 : IsRow .u64 w a0 len0 cap0 z0) (hT : Tab w) :
    Calls Tryd.prog 7 #[.slice a0 len0 cap0] w fun e w' => e = .returned (.bool true) ∧ Chg none_ w w' := by
  obtain ⟨l, rfl, h1, h2, hv⟩ := row_u64 w0
  by_cases hl : 60 < l.length
  · exact walk_many_long l a0 cap0 w hT hl (Nat.le_trans h1 h2)
  · exact walk_many l a0 cap0 w hv hT (by omega)
end Go.Proofs.YtpandcmfpohgkaaDoor
