/- Layer 1 (varint): the walk of VarintBack. -/
import Derived.Test.YtpandcmfpohgkaaDoorV1Puts
namespace Go.Proofs.YtpandcmfpohgkaaDoor
open Go.RowKit

/-- An integer's bytes: the first tells how many there are, and all of them the integer. -/
theorem back_math (n s : Nat) (hs : isW s) (hn : n ≤ gr s) (more : List Nat) :
    ∃ f r, be n s ++ more = f :: (r ++ more) ∧ f < 256 ∧ (∀ x ∈ r, x < 256) ∧ needs f = r.length ∧ foldB (f % 64) r = n := by
  rcases hs with rfl | rfl | rfl | rfl
  · rw [gr_1] at hn
    refine ⟨n % 256, [], ?_, by omega, by simp, ?_, ?_⟩
    · simp [be, arr, lg, List.range_succ]
    · have : n % 256 / 64 = 0 := by omega
      simp [needs, this]
    · simp [foldB]; omega
  · rw [gr_2] at hn
    refine ⟨n / 256 % 256 + 64, [n % 256], ?_, by omega, by simp; omega, ?_, ?_⟩
    · simp [be, arr, lg, List.range_succ]
    · have : (n / 256 % 256 + 64) / 64 = 1 := by omega
      simp [needs, this]
    · simp [foldB]; omega
  · rw [gr_4] at hn
    refine ⟨n / 16777216 % 256 + 128, [n / 65536 % 256, n / 256 % 256, n % 256], ?_, by omega, by simp; omega, ?_, ?_⟩
    · simp [be, arr, lg, List.range_succ]
    · have : (n / 16777216 % 256 + 128) / 64 = 2 := by omega
      simp [needs, this]
    · simp [foldB]; omega
  · rw [gr_8] at hn
    refine ⟨n / 72057594037927936 % 256 + 192, [n / 281474976710656 % 256, n / 1099511627776 % 256, n / 4294967296 % 256, n / 16777216 % 256, n / 65536 % 256, n / 256 % 256, n % 256], ?_, by omega, by simp; omega, ?_, ?_⟩
    · simp [be, arr, lg, List.range_succ]
    · have : (n / 72057594037927936 % 256 + 192) / 64 = 3 := by omega
      simp [needs, this]
    · simp [foldB]; omega


theorem wideB_some {n : Nat} {s : Int} (h : wideB n s ≠ []) : ∃ t : Nat, s = (t : Int) ∧ isW t ∧ n ≤ gr t ∧ wideB n s = be n t := by
  unfold wideB at h ⊢
  by_cases hc : (s = 1 ∨ s = 2 ∨ s = 4 ∨ s = 8) ∧ n ≤ gr s.toNat
  · rw [if_pos hc]
    exact ⟨s.toNat, by omega, by unfold isW; omega, hc.2, rfl⟩
  · rw [if_neg hc] at h
    exact absurd rfl h

theorem szN_fits (n t : Nat) (ht : isW t) (hn : n ≤ gr t) : isW (szN n) ∧ n ≤ gr (szN n) ∧ szN n ≤ t := by
  have hb : n < 4611686018427387904 := by
    rcases ht with rfl | rfl | rfl | rfl
    · rw [gr_1] at hn; omega
    · rw [gr_2] at hn; omega
    · rw [gr_4] at hn; omega
    · rw [gr_8] at hn; omega
  by_cases h1 : n < 64
  · rw [szN_1 h1, gr_1]; unfold isW at ht ⊢; omega
  by_cases h2 : n < 16384
  · rw [szN_2 (by omega) h2, gr_2]
    refine ⟨by simp [isW], by omega, ?_⟩
    rcases ht with rfl | rfl | rfl | rfl
    · rw [gr_1] at hn; omega
    all_goals omega
  by_cases h4 : n < 1073741824
  · rw [szN_4 (by omega) h4, gr_4]
    refine ⟨by simp [isW], by omega, ?_⟩
    rcases ht with rfl | rfl | rfl | rfl
    · rw [gr_1] at hn; omega
    · rw [gr_2] at hn; omega
    all_goals omega
  · rw [szN_8 (by omega) hb, gr_8]
    refine ⟨by simp [isW], by omega, ?_⟩
    rcases ht with rfl | rfl | rfl | rfl
    · rw [gr_1] at hn; omega
    · rw [gr_2] at hn; omega
    · rw [gr_4] at hn; omega
    all_goals omega

theorem put_len (n t : Nat) (ht : isW t) (hn : n ≤ gr t) : (wideB n (szN n)).length = szN n ∧ szN n ≤ t := by
  obtain ⟨h1, h2, h3⟩ := szN_fits n t ht hn
  refine ⟨?_, h3⟩
  unfold wideB
  rw [if_pos ⟨by unfold isW at h1; omega, by simpa using h2⟩]
  simp [be_len]

theorem own_of_new {w w' : World} {v : Value} {l : List Nat} (h : NewBytes w w' v l) (hl : l.length ≤ maxLen) : w'.ownsRow w.heap.size 5 1 v l.length (u8s l) := by
  rcases h.2 with ⟨rfl, rfl⟩ | ⟨_, rfl, hr⟩
  · exact World.ownsRow_nil _ _ _ _
  · exact own_of_row hr (Nat.le_refl _) (by simp) hl

theorem Chg.append {w0 w w' : World} {base n : Nat} {e : TypeId} {v : Value} {xs : List Value} (h : Chg none_ w0 w) (hb : w0.heap.size ≤ base) (hown : w.ownsRow base e 1 v n xs) (hg : w.grownBy w' v.ownBlock) : Chg none_ w0 w' :=
  h.grown hg (fun k hk hlt => by have := (hown.lt k hk).1; omega)
theorem u8s_append (l m : List Nat) : u8s l ++ u8s m = u8s (l ++ m) := by simp [u8s]

set_option maxHeartbeats 1000000 in
theorem walk_back (n : Nat) (s : Int) (A : Option Addr) (cap : Nat) (more : List Nat) (w : World) (hv : View w (fun _ => True) A more.length (u8s more)) (h256 : ∀ x ∈ more, x < 256) (hT : Tab w) :
    Calls Tryd.prog 5 #[.int .u64 n, .int .i64 s, .slice A more.length cap] w fun e w' => e = .returned (.bool true) ∧ Chg none_ w w' := by
  have HT := Lib.hid hT
  have HV := Lib.hid hv
  have H256 := Lib.hid h256
  clear hT hv h256
  obtain ⟨i0, hi, hz0, hz1, hz2⟩ := info_parts info5
  by_cases hemp : wideB n s = []
  · go_enter Tryd.func5, Tryd.ntmps5
    have HE := Lib.hid hemp
    clear hemp
    go_wp2_with fail
    refine (alive_any _ HT.out).mono ?_
    rintro e w1 ⟨rfl, hc⟩
    have C1 := Lib.hid hc
    clear hc
    go_wp2_with fail
    refine (wide_all n s _ (HT.out.chg C1.out (fun h => h))).mono ?_
    rintro e w2 ⟨v, rfl, hnb⟩
    rw [HE.out] at hnb
    obtain ⟨A2, cap2, rfl, hv2⟩ := hnb.view
    have C2 := Lib.hid (C1.out.trans hnb.1)
    clear hnb hv2
    go_wp2
    go_ret
    exact ⟨rfl, C2.out⟩
  obtain ⟨t, rfl, ht, hn, hbe⟩ := wideB_some hemp
  obtain ⟨f, r, hfr, hf, hr, hneed, hfold⟩ := back_math n t ht hn more
  have hblen := be_len n t
  have hput := put_len n t ht hn
  have ht8 : t ≤ 8 := by unfold isW at ht; omega
  have ht1 : 1 ≤ t := by unfold isW at ht; omega
  have hl0 : ((t : Int) == 0) = false := by simp; omega
  by_cases hmore : 200 < more.length
  · have HE := Lib.hid hbe
    have HB := Lib.hid hblen
    clear hbe hblen hput hfold hneed hfr hemp
    go_enter Tryd.func5, Tryd.ntmps5
    go_wp2_with fail
    refine (alive_any _ HT.out).mono ?_
    rintro e w1 ⟨rfl, hc⟩
    have C1 := Lib.hid hc
    clear hc
    go_wp2_with fail
    refine (wide_all n t _ (HT.out.chg C1.out (fun h => h))).mono ?_
    rintro e w2 ⟨v, rfl, hnb⟩
    rw [HE.out] at hnb
    obtain ⟨A2, cap2, rfl, hv2⟩ := hnb.view
    have C2 := Lib.hid (C1.out.trans hnb.1)
    clear hnb hv2
    rw [HB.out]
    go_wp2
    go_ret
    exact ⟨rfl, C2.out⟩
  have HE := Lib.hid hbe
  have HB := Lib.hid hblen
  have HP := Lib.hid hput
  have HF := Lib.hid hfold
  have HN := Lib.hid hneed
  have HR := Lib.hid hfr
  have HX := Lib.hid hr
  have hsz : szN n ≤ t := hput.2
  clear hbe hblen hput hfold hneed hfr hemp hr
  go_enter Tryd.func5, Tryd.ntmps5
  go_wp2_with fail
  refine (alive_any _ HT.out).mono ?_
  rintro e w1 ⟨rfl, hc⟩
  have C1 := Lib.hid hc
  clear hc
  go_wp2_with fail
  refine (wide_all n t _ (HT.out.chg C1.out (fun h => h))).mono ?_
  rintro e w2 ⟨v, rfl, hnb⟩
  rw [HE.out] at hnb
  have C2 := Lib.hid (C1.out.trans hnb.1)
  have hown := own_of_new hnb (by rw [HB.out]; unfold maxLen; omega)
  obtain ⟨A2, cap2, rfl, _⟩ := hnb.view
  rw [HB.out] at hown
  have HO := Lib.hid hown
  have V2 := Lib.hid (HV.out.chg C2.out (fun _ _ h => h))
  have h12 := Lib.hid (hnb.1.size)
  rw [HB.out]
  clear hnb hown
  go_wp2_with (at_builtin; refine wpList_append_view rfl _ _ 26 rfl 5 i0 _ 1 Tryd.underlying26 hi hz0 hz1 hz2 rfl w1.heap.size (.slice A2 t cap2) t (u8s (be n t)) rfl HO.out (fun _ => True) _ more.length cap (u8s more) rfl V2.out (u8s_one _) (by unfold maxLen; omega) (by omega) h12.out ?_; intro v' w3 hown hgrow _)
  have C3 := Lib.hid (C2.out.append C1.out.size HO.out hgrow)
  obtain ⟨A3, cap3, rfl, _, _, hv3⟩ := View.own (T := fun b => w1.heap.size ≤ b) hown (fun _ h => h)
  rw [u8s_append, HR.out] at hv3
  have hlen : (f :: (r ++ more)).length = t + more.length := by rw [← HR.out, List.length_append, HB.out]
  have hrd := read_any w3 _ A3 cap3 (f :: (r ++ more)) (by rw [hlen]; exact hv3) (by rw [hlen]; omega)
  rw [hlen] at hrd
  have HRD := Lib.hid hrd
  clear hgrow hown hv3 hrd hlen
  go_wp2_with fail
  refine HRD.out.mono ?_
  rintro e w4 ⟨g, rfl, hg, hr, hch⟩
  have hst : St w g (fun b => w3.heap.size ≤ b ∧ b ≠ g) w4 (f :: (r ++ more)) 0 :=
    ⟨C3.out.trans hch, hr, HT.out.chg (C3.out.trans hch) (fun h => h), Nat.le_trans C3.out.size hg, fun h => h.2 rfl, fun b h => Nat.le_trans C3.out.size h.1⟩
  generalize (fun b => w3.heap.size ≤ b ∧ b ≠ g) = T at hst
  have S4 := Lib.hid hst
  clear hr hch hg hst
  go_wp2_with fail
  have hlr : r.length = needs f := HN.out.symm
  have hit := int_ok w4 g T f (r ++ more) S4.out.rd S4.out.apart hf (fun x hx => by
    rcases List.mem_append.1 hx with h | h
    · exact HX.out x h
    · exact H256.out x h) (by rw [List.length_append]; omega)
  rw [← hlr, List.take_left, List.drop_left, HF.out] at hit
  have HI := Lib.hid hit
  clear hit hlr
  refine HI.out.mono ?_
  rintro e w5 ⟨rfl, hr, hc⟩
  have S5 := Lib.hid (S4.out.read HT.out hc hr)
  clear hr hc
  go_wp2_with fail
  refine (left_ok w5 g T more 0 S5.out.rd).mono ?_
  rintro e w6 ⟨rfl, rfl⟩
  go_wp2_with fail
  refine (bad_ok w5 g T more 0 S5.out.rd).mono ?_
  rintro e w6 ⟨rfl, rfl⟩
  go_wp2_with fail
  refine (put_any n w5 S5.out.tab).mono ?_
  rintro e w6 ⟨v, rfl, hnb⟩
  obtain ⟨A6, cap6, rfl, _⟩ := hnb.view
  have C6 := Lib.hid (S5.out.chg.trans hnb.1)
  have T6 := Lib.hid (S5.out.tab.chg hnb.1 (fun h => h))
  clear hnb
  rw [HP.out.1]
  go_wp2_with fail
  refine (put_any n w6 T6.out).mono ?_
  rintro e w7 ⟨v, rfl, hnb⟩
  obtain ⟨A7, cap7, rfl, _⟩ := hnb.view
  have C7 := Lib.hid (C6.out.trans hnb.1)
  clear hnb
  rw [HP.out.1]
  go_wp2_with fail
  refine (size_any n w7).mono ?_
  rintro e w8 ⟨rfl, rfl⟩
  go_wp2
  go_ret
  exact ⟨rfl, C7.out⟩

theorem walk_VarintBack (a0 a1 : Int) (a2 : Option Addr) (len2 cap2 : Nat) (z2 : List Int) (w : World) (w0 : (Lit.int .u64 a0).wf = true) (_ : (Lit.int .i64 a1).wf = true) (w2 : IsRow .u8 w a2 len2 cap2 z2) (hT : Tab w) :
    Calls Tryd.prog 5 #[.int .u64 a0, .int .i64 a1, .slice a2 len2 cap2] w fun e w' => e = .returned (.bool true) ∧ Chg none_ w w' := by
  obtain ⟨n, rfl⟩ := nat_of_wf w0 rfl
  obtain ⟨more, rfl, _, _, h256, hv⟩ := w2.u8
  exact walk_back n a1 a2 cap2 more w hv h256 hT
end Go.Proofs.YtpandcmfpohgkaaDoor
