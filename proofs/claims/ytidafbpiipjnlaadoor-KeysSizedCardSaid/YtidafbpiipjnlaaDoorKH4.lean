/- Texts joined: V7RExpand, V7RLabel. -/
import Derived.Test.YtidafbpiipjnlaaDoorKH3
import Derived.Test.YtidafbpiipjnlaaDoorK0
import Derived.Test.YtidafbpiipjnlaaDoorKH2

namespace Go.Proofs.YtidafbpiipjnlaaDoor
open Go.RowKit

/-- Bytes in view are handed back. -/
def SeenBytes (w : World) (l : List Nat) (e : Ending) (w' : World) : Prop :=
  ∃ A cap, e = .returned (.slice A l.length cap) ∧ View w' (fun b => w.heap.size ≤ b) A l.length (u8s l) ∧ Chg none_ w w'

theorem rexpand_none (s : List Nat) (n : Int) (v : Value) (w : World) (hn : n < 0 ∨ 255 < n) :
    Calls Tryd.prog 47 #[.agg (u8s s).toArray, v, .int .i64 n] w fun e w' => e = .returned (.slice none 0 0) ∧ Chg none_ w w' := by
  have hb : decide (n < 0) = true ∨ (decide (n < 0) = false ∧ decide (255 < n) = true) := by
    by_cases h : n < 0
    · left; simpa using h
    · right; simp; omega
  clear hn
  rcases hb with h1 | ⟨h1, h2⟩
  all_goals
    go_enter Tryd.func47, Tryd.ntmps47
    go_wp2_with (first | ((with_reducible show wpList _ _ _ (⟨_, .box 23 _, _, _, _, _⟩ :: _) _ _); refine wpList_box_Row rfl rfl (u8s s) rfl ?_; intro w1 hr1 hc1 hs1; have HR1 := Lib.hid hr1; have HC1 := Lib.hid hc1; clear hr1 hc1 hs1))
    go_ret
    exact ⟨rfl, HC1.out⟩

set_option maxRecDepth 100000 in
set_option maxHeartbeats 2000000 in
theorem rexpand_ok (s info : List Nat) (n m : Nat) (hm : (n + 31) / 32 = m) (Ti : Nat → Prop) (Ai : Option Addr) (ci : Nat) (w : World) (hn : n ≤ 255) (hs : s.length = 32) (hsb : ∀ x ∈ s, x < 256) (hvi : View w Ti Ai info.length (u8s info)) (hil : info.length ≤ 300000) (hib : ∀ x ∈ info, x < 256) (hT : HTab w) :
    Calls Tryd.prog 47 #[.agg (u8s s).toArray, .slice Ai info.length ci, .int .i64 n] w fun e w' => SeenBytes w ((allN s info m).take n) e w' := by
  have HS := Lib.hid hs
  have HSB := Lib.hid hsb
  have HIB := Lib.hid hib
  have HM := Lib.hid hm
  have HTX : Hid (∀ w', Chg none_ w w' → HTab w') := Lib.hid (fun w' hc => hT.chg hc (fun h => h) (fun h => h))
  have HVI0 : Hid (∀ w', Chg none_ w w' → View w' (fun b => b < w.heap.size) Ai info.length (u8s info)) := Lib.hid (fun w' hc => (hvi.mono (T' := fun b => b < w.heap.size) (fun _ h _ => h)).chg hc (fun _ _ h => h))
  clear hs hsb hib hT hvi hm
  go_enter Tryd.func47, Tryd.ntmps47
  go_wp2_with (first | ((with_reducible show wpList _ _ _ (⟨_, .box 23 _, _, _, _, _⟩ :: _) _ _); refine wpList_box_Row rfl rfl (u8s s) rfl ?_; intro w1 hr1 hc1 hs1; have HR1 := Lib.hid hr1; have HC1 := Lib.hid hc1; clear hr1 hc1 hs1))
  have hd1 : decide ((n : Int) < 0) = false := by simp
  have hd2 : decide ((255 : Int) < (n : Int)) = false := by simp; omega
  try simp only [hd1, hd2, Bool.or_self]
  clear hd1 hd2
  have hm8 : m ≤ 8 := by have := HM.out; omega
  have HVI : Hid (∀ w', Chg none_ w1 w' → View w' (fun b => b < w.heap.size) Ai info.length (u8s info)) := Lib.hid (fun w' hc => HVI0.out _ (HC1.out.trans hc))
  have HTAG0 : Hid (∀ (LL : List Nat) (T0 : Nat → Prop) A0 c0 w', LL.length ≤ 400000 → (∀ x ∈ LL, x < 256) → View w' T0 A0 LL.length (u8s LL) → Chg none_ w1 w' → Calls Tryd.prog 32 #[.slice (some ⟨w.heap.size, 0, none⟩) 32 32, .slice A0 LL.length c0] w' fun e w'' => e = .returned (.agg (u8s (tagN s LL)).toArray) ∧ Chg none_ w' w'') := Lib.hid (fun LL T0 A0 c0 w' hl hb hv hc => by
    have hvs := View.all (T := fun _ => True) (HR1.out.chg hc (fun h => h)) (n := s.length) (by rw [u8s_length]) trivial
    have hh := rtag_any _ _ (some ⟨w.heap.size, 0, none⟩) A0 32 c0 s LL w' hvs hv (by rw [HS.out]; omega) hl HSB.out hb (HTX.out _ (HC1.out.trans hc))
    rw [HS.out] at hh
    exact hh)
  clear HVI0 HTX
  go_loopw [7, 8, 9] (fun o a i wr => ∃ (k : Nat) (Ao Aa : Option Addr) (co ca : Nat), k ≤ m ∧ i = .int .i64 ((k : Int) + 1) ∧ o = .slice Ao (32 * k) co ∧ 32 * k ≤ co ∧ a = .slice Aa (chainN s info k).length ca ∧ Owned wr w1.heap.size o (allN s info k) ∧ View wr (fun b => o.ownBlock ≠ some b) Aa (chainN s info k).length (u8s (chainN s info k)) ∧ Chg none_ w1 wr) (fun o _ _ _ => 32 * m - (match o with | .slice _ n _ => n | _ => 0))
  case atStart => exact ⟨0, none, none, 0, 0, Nat.zero_le _, rfl, rfl, Nat.le_refl _, rfl, Owned.nil _ _, View.none_ _ _ _, Chg.refl _ _⟩
  case round =>
    obtain ⟨k, Ao, Aa, co, ca, hk, rfl, rfl, hco, rfl, hao, hva, hcr⟩ := hrel
    have HAO := Lib.hid hao
    have HVL := Lib.hid hva
    have HCR := Lib.hid hcr
    have HCL := Lib.hid (chainN_le s info k)
    have HAL := Lib.hid (allN_len s info k)
    clear hao hva hcr
    by_cases hlt : k < m
    · have hkn : 32 * k < n := by have := HM.out; omega
      have HNX : Hid (chainN s info (k + 1) = tagN s (chainN s info k ++ info ++ [k + 1])) := Lib.hid (by rw [chainN, Nat.mod_eq_of_lt (by omega)])
      have HCB := Lib.hid (chainN_lt s info k)
      have HAN : Hid (allN s info (k + 1) = allN s info k ++ chainN s info (k + 1)) := Lib.hid rfl
      generalize chainN s info k = C at HVL HCL HNX HCB ⊢
      obtain ⟨LL, hLL⟩ : ∃ LL, [] ++ C ++ info ++ [k + 1] = LL := ⟨_, rfl⟩
      have hLL2 : C ++ info ++ [k + 1] = LL := hLL
      rw [hLL2] at HNX
      have HTAG : Hid (∀ (T0 : Nat → Prop) A0 c0 w', View w' T0 A0 LL.length (u8s LL) → Chg none_ w1 w' → Calls Tryd.prog 32 #[.slice (some ⟨w.heap.size, 0, none⟩) 32 32, .slice A0 LL.length c0] w' fun e w'' => e = .returned (.agg (u8s (tagN s LL)).toArray) ∧ Chg none_ w' w'') := Lib.hid (fun T0 A0 c0 w' hv hc => HTAG0.out LL T0 A0 c0 w' (by rw [← hLL2]; have := HCL.out; simp; omega) (by
        intro x hx
        rw [← hLL2] at hx
        simp only [List.mem_append, List.mem_singleton] at hx
        rcases hx with (h | h) | rfl
        · exact HCB.out x h
        · exact HIB.out x h
        · omega) hv hc)
      have HLL := Lib.hid hLL
      clear hLL hLL2
      obtain ⟨TG, hTG⟩ : ∃ TG, tagN s LL = TG := ⟨_, rfl⟩
      rw [hTG] at HNX HTAG
      have HTGL : Hid (TG.length = 32) := Lib.hid (by rw [← hTG]; exact tagN_len _ _)
      clear hTG
      go_wp2_with (first | ((with_reducible show wpList _ _ _ (⟨some 24, _, _, _, _, _⟩ :: _) _ _); refine wpList_new_row (v := fun g => .slice (some ⟨g, 0, none⟩) 0 0) (e := 5) (cs := []) rfl (fun w_ => by go_simp) ?_; intro w2 hr2 hc2 hs2; have HR2 := Lib.hid hr2; have HC2 := Lib.hid hc2; clear hr2 hc2 hs2) | ((with_reducible show wpList _ _ _ (⟨some 26, _, _, _, _, _⟩ :: _) _ _); refine wpList_append_bytes (v := .slice (some ⟨wr.heap.size, 0, none⟩) 0 0) rfl _ _ 24 rfl Tryd.underlying24 rfl (Owned.row (l := []) HR2.out (Nat.le_refl _) rfl (by simp [maxLen])) rfl (HVL.out.chg HC2.out (fun _ _ h => h)) (by have := HCL.out; simp; omega) (HC2.out.size) (HC2.out) (Nat.le_refl _) ?_; intro v3 w3 hown3 hc3; have HOWN3 := Lib.hid hown3; have HC3 := Lib.hid hc3; clear hown3 hc3) | ((with_reducible show wpList _ _ _ (⟨some 28, _, _, _, _, _⟩ :: _) _ _); refine wpList_append_bytes (v := v3) rfl _ _ 24 rfl Tryd.underlying24 rfl (HOWN3.out) rfl (HVI.out _ (HCR.out.trans HC3.out)) (by have := HCL.out; simp; omega) (HC3.out.size) (HC3.out) (Nat.le_refl _) ?_; intro v4 w4 hown4 hc4; have HOWN4 := Lib.hid hown4; have HC4 := Lib.hid hc4; clear hown4 hc4) | ((with_reducible show wpList _ _ _ (⟨some 31, _, _, _, _, _⟩ :: _) _ _); refine wpList_new_row (v := fun g => .slice (some ⟨g, 0, none⟩) 1 1) (e := 5) (cs := [.int .u8 ((k : Int) + 1)]) rfl (fun w_ => by go_simp) ?_; intro w5 hr5 hc5 hs5; have HR5 := Lib.hid hr5; have HC5 := Lib.hid hc5; clear hr5 hc5 hs5) | ((with_reducible show wpList _ _ _ (⟨some 32, _, _, _, _, _⟩ :: _) _ _); refine wpList_append_bytes (v := v4) rfl _ _ 24 rfl Tryd.underlying24 rfl (HOWN4.out.chg HC5.out (fun _ _ h => h)) rfl (View.all (T := fun _ => True) (cs := u8s [k + 1]) HR5.out rfl trivial) (by have := HCL.out; simp; omega) ((HC4.out.trans HC5.out).size) (HC4.out.trans HC5.out) (Nat.le_refl _) ?_; intro v6 w6 hown6 hc6; have HOWN6 := Lib.hid hown6; have HC6 := Lib.hid hc6; rw [HLL.out] at hown6; obtain ⟨A6, c6, e6, hcap6, _, hv6⟩ := hown6.view; subst e6; have HV6 := Lib.hid hv6; clear hown6 hc6 hv6 hcap6 HOWN6) | (go_at_call 32; refine (HTAG.out _ A6 c6 _ HV6.out (HCR.out.trans HC6.out)).mono ?_; rintro e w7 ⟨rfl, hc7⟩; have HC7 := Lib.hid hc7; clear hc7) | ((with_reducible show wpList _ _ _ (⟨some 11, .alloc 23, _, _, _, _⟩ :: _) _ _); refine wpList_alloc_Row rfl rfl (u8s (List.replicate 32 0)) zero25 ?_; intro w8 hr8 hc8 hs8; have HR8 := Lib.hid hr8; have HC8 := Lib.hid hc8; clear hr8 hc8 hs8) | ((with_reducible show wpList _ _ _ (⟨_, .store 23 (.tmp 11) _, _, _, _, _⟩ :: _) _ _); refine wpList_store_Row (xs := u8s TG) rfl rfl rfl (HR8.out) (rfl) (by rw [u8s_length, HTGL.out, u8s_length]; rfl) (by rw [u8s_length, HTGL.out]; exact size25) (u8s_oneA _) ?_; intro w9 hr9 hc9 hs9; have HR9 := Lib.hid hr9; have HC9 := Lib.hid hc9; have HC69 : Hid (Chg none_ w6 w9) := Lib.hid (hc9 none_ w6 (HC7.out.trans HC8.out) (fun h => by have := HC7.out.size; omega)); clear hr9 hc9 hs9) | ((with_reducible show wpList _ _ _ (⟨some 36, _, _, _, _, _⟩ :: _) _ _); refine wpList_new_row (v := fun g => .slice (some ⟨g, 0, none⟩) 0 0) (e := 5) (cs := []) rfl (fun w_ => by go_simp) ?_; intro w10 hr10 hc10 hs10; have HR10 := Lib.hid hr10; have HC10 := Lib.hid hc10; clear hr10 hc10 hs10) | ((with_reducible show wpList _ _ _ (⟨some 38, _, _, _, _, _⟩ :: _) _ _); refine wpList_append_bytes (v := .slice (some ⟨w9.heap.size, 0, none⟩) 0 0) rfl _ _ 24 rfl Tryd.underlying24 rfl (Owned.row (l := []) HR10.out (Nat.le_refl _) rfl (by simp [maxLen])) rfl (View.all (T := fun _ => True) (cs := u8s TG) (HR9.out.chg HC10.out (fun h => h)) (by rw [u8s_length, HTGL.out]) trivial) (by simp) (HC10.out.size) (HC10.out) (Nat.le_refl _) ?_; intro v11 w11 hown11 hc11; have HOWN11 := Lib.hid hown11; have HC11 := Lib.hid hc11; rw [List.nil_append] at hown11; have HLT11 := Lib.hid (fun b hb => hown11.lt (b := b) hb); obtain ⟨A11, c11, e11, hcap11, hv11⟩ := hown11.viewIn; subst e11; have HV11 := Lib.hid hv11; clear hown11 hc11 hv11 hcap11 HOWN11) | ((with_reducible show wpList _ _ _ (⟨some 41, _, _, _, _, _⟩ :: _) _ _); refine wpList_append_own2 (v := .slice Ao (32 * k) co) rfl _ _ 24 rfl Tryd.underlying24 rfl (HAO.out.chg (HC6.out.trans (HC69.out.trans HC11.out)) (fun _ _ h => h)) rfl (HV11.out) (by rw [HAL.out]; have := HTGL.out; omega) ((HCR.out.trans (HC6.out.trans (HC69.out.trans HC11.out))).size) ?_; intro v12 w12 hown12 hc12 ho12; have HOWN12 := Lib.hid hown12; have HC12 := Lib.hid hc12; have HO12 := Lib.hid ho12; clear hown12 hc12 ho12))
      obtain ⟨A12, c12, e12, hcap12, _⟩ := HOWN12.out.viewIn
      have h32 : (allN s info k ++ TG).length = 32 * (k + 1) := by rw [List.length_append, HAL.out, HTGL.out]; omega
      rw [h32] at e12 hcap12
      have HO12b : Hid (∀ b, (Value.slice A11 TG.length c11).ownBlock = some b → v12.ownBlock ≠ some b) := Lib.hid (fun b h1 h2 => by
        have l1 := HLT11.out b h1
        have l9 := (HC6.out.trans HC69.out).size
        rcases HO12.out with h | h
        · have := (HAO.out.lt (h ▸ h2)).1
          omega
        · rw [h] at h2
          injection h2 with h2
          omega)
      subst e12
      go_roundw
      case rel =>
        refine ⟨k + 1, A12, A11, c12, c11, by omega, by go_num, rfl, hcap12, by rw [HNX.out], ?_, ?_, ?_⟩
        · rw [HAN.out, HNX.out]; exact HOWN12.out
        · rw [HNX.out]
          exact (HV11.out.chg HC12.out (fun b hb h => by have l1 := HLT11.out b hb; have l9 := (HC6.out.trans HC69.out).size; have := (HAO.out.lt h).1; omega)).mono (fun b _ h => HO12b.out b h)
        · exact (HCR.out.trans (HC6.out.trans (HC69.out.trans HC11.out))).andThen HC12.out (fun b hb h => by have := (HAO.out.lt h).2; omega)
      case measure => simp; omega
    · have hkm : k = m := by omega
      subst hkm
      have hle : n ≤ 32 * k := by have := HM.out; omega
      have hn0 : ¬ 32 * k < n := by omega
      have hncap : n ≤ co := by omega
      have HVA : Hid (View wr (fun b => w.heap.size ≤ b) Ao (32 * k) (u8s (allN s info k))) := Lib.hid (by
        obtain ⟨_, _, hh⟩ := HAO.out.slice
        rw [HAL.out] at hh
        exact hh.mono (fun b _ h => Nat.le_trans HC1.out.size h))
      have HSEE : Hid (∃ A, (Instr.slice 24 (.slice Ao (32 * k) co) none (some (.int .i64 (n : Int))) none).run Tryd.prog wr = .ok (.slice A n co) wr ∧ View wr (fun b => w.heap.size ≤ b) A n (u8s ((allN s info k).take n))) := Lib.hid ⟨_, run_slice_high wr _ _ _ _ _ _ Tryd.underlying24 size5h hncap, by
        have hh := (HVA.out.take (k := n) hle).high co
        rw [show (u8s (allN s info k)).take n = u8s ((allN s info k).take n) from by simp [u8s]] at hh
        exact hh⟩
      obtain ⟨A9, hrun, hv9⟩ := HSEE.out
      have HV9 := Lib.hid hv9
      clear hv9 HSEE hlt
      go_wp2
      go_ret
      have hl : ((allN s info k).take n).length = n := by rw [List.length_take, allN_len]; omega
      refine ⟨A9, co, by rw [hl]; rfl, by rw [hl]; exact HV9.out, HC1.out.trans HCR.out⟩

theorem rexpand_any (s info : List Nat) (n : Int) (Ti : Nat → Prop) (Ai : Option Addr) (ci : Nat) (w : World) (hs : s.length = 32) (hsb : ∀ x ∈ s, x < 256) (hvi : View w Ti Ai info.length (u8s info)) (hil : info.length ≤ 300000) (hib : ∀ x ∈ info, x < 256) (hT : HTab w) :
    Calls Tryd.prog 47 #[.agg (u8s s).toArray, .slice Ai info.length ci, .int .i64 n] w fun e w' => SeenBytes w (expandN s info n) e w' := by
  by_cases hn : n < 0 ∨ 255 < n
  · refine (rexpand_none s n _ w hn).mono fun e w' ⟨h1, h2⟩ => ?_
    unfold expandN
    rw [if_pos hn]
    exact ⟨none, 0, h1, View.none_ _ _ _, h2⟩
  · obtain ⟨N, rfl⟩ : ∃ N : Nat, n = (N : Int) := ⟨n.toNat, by omega⟩
    unfold expandN
    rw [if_neg hn]
    exact rexpand_ok s info N _ rfl Ti Ai ci w (by omega) hs hsb hvi hil hib hT
end Go.Proofs.YtidafbpiipjnlaaDoor

namespace Go.Proofs.YtidafbpiipjnlaaDoor
open Go.RowKit

theorem rlabel_none (s : List Nat) (L : ByteArray) (n : Int) (w : World) (hm : L.size ≤ 9223372036854775807) (h : 60 < L.size ∨ n < 0 ∨ 255 < n) :
    Calls Tryd.prog 34 #[.agg (u8s s).toArray, .string L, .int .i64 n] w fun e w' => e = .returned (.slice none 0 0) ∧ Chg none_ w w' := by
  have hb : decide ((60 : Int) < (L.size : Int)) = true ∨ (decide ((60 : Int) < (L.size : Int)) = false ∧ decide (n < 0) = true) ∨ (decide ((60 : Int) < (L.size : Int)) = false ∧ decide (n < 0) = false ∧ decide (255 < n) = true) := by
    by_cases h1 : 60 < L.size
    · left; simp; omega
    · right
      by_cases h2 : n < 0
      · left; simp; omega
      · right; simp; omega
  clear h
  rcases hb with h1 | ⟨h1, h2⟩ | ⟨h1, h2, h3⟩
  all_goals
    go_enter Tryd.func34, Tryd.ntmps34
    go_wp2_with (first | ((with_reducible show wpList _ _ _ (⟨_, .box 23 _, _, _, _, _⟩ :: _) _ _); refine wpList_box_Row rfl rfl (u8s s) rfl ?_; intro w1 hr1 hc1 hs1; have HR1 := Lib.hid hr1; have HC1 := Lib.hid hc1; clear hr1 hc1 hs1))
    go_ret
    exact ⟨rfl, HC1.out⟩

set_option maxRecDepth 100000 in
set_option maxHeartbeats 1000000 in
theorem rlabel_ok (s : List Nat) (L : ByteArray) (N : Nat) (w : World) (hL : L.size ≤ 60) (hN : N ≤ 255) (hs : s.length = 32) (hsb : ∀ x ∈ s, x < 256) (hT : HTab w) :
    Calls Tryd.prog 34 #[.agg (u8s s).toArray, .string L, .int .i64 N] w fun e w' => SeenBytes w (expandN s (infoN (bsN L) N) N) e w' := by
  have HTB := Lib.hid (tls_bytes L)
  have HTS := Lib.hid (tls_size L)
  have HS := Lib.hid hs
  have HI0 : Hid ([0, N, 6 + L.size] ++ (tlsN ++ bsN L) ++ [0] = infoN (bsN L) N) := Lib.hid (by simp [infoN, tlsN, bsN_len])
  have HEX := Lib.hid (fun w1 Ti Ai ci (hv : View w1 Ti Ai (infoN (bsN L) N).length (u8s (infoN (bsN L) N))) (hc : Chg none_ w w1) => rexpand_any s (infoN (bsN L) N) (N : Int) Ti Ai ci w1 hs hsb hv (by rw [← HI0.out]; simp [tlsN, bsN_len]; omega) (by
    rw [← HI0.out]
    intro x hx
    simp only [tlsN, List.mem_append, List.mem_cons, List.not_mem_nil, or_false] at hx
    rcases hx with ((rfl | rfl | rfl) | ((rfl | rfl | rfl | rfl | rfl | rfl) | h)) | rfl
    all_goals first | omega | exact bsN_lt L x h) (hT.chg hc (fun h => h) (fun h => h)))
  clear hs hsb hT
  obtain ⟨I, hI⟩ : ∃ I, infoN (bsN L) N = I := ⟨_, rfl⟩
  rw [hI] at HEX HI0
  have HI := HI0
  rw [hI]
  clear hI HI0
  go_enter Tryd.func34, Tryd.ntmps34
  go_wp2_with (first | ((with_reducible show wpList _ _ _ (⟨_, .box 23 _, _, _, _, _⟩ :: _) _ _); refine wpList_box_Row rfl rfl (u8s s) rfl ?_; intro w1 hr1 hc1 hs1; have HR1 := Lib.hid hr1; have HC1 := Lib.hid hc1; clear hr1 hc1 hs1) | ((with_reducible show wpList _ _ _ (⟨some 25, _, _, _, _, _⟩ :: _) _ _); refine wpList_new_row (v := fun g => .slice (some ⟨g, 0, none⟩) 3 3) (e := 5) (cs := [.int .u8 0, .int .u8 (N : Int), .int .u8 (6 + (L.size : Int))]) rfl (fun w_ => by go_simp) ?_; intro w2 hr2 hc2 hs2; have HR2 := Lib.hid hr2; have HC2 := Lib.hid hc2; clear hr2 hc2 hs2) | ((with_reducible show wpList _ _ _ (⟨some 28, _, _, _, _, _⟩ :: _) _ _); refine wpList_bytes_string rfl rfl rfl Tryd.underlying9 Tryd.underlying24 Tryd.underlying5 ?_; intro w3 c3 hv3 hl3 hc3; rw [HTB.out, HTS.out] at hv3; rw [HTS.out] at hl3 ⊢; have HV3 := Lib.hid hv3; have HL3 := Lib.hid hl3; have HC3 := Lib.hid hc3; clear hv3 hl3 hc3) | ((with_reducible show wpList _ _ _ (⟨some 29, _, _, _, _, _⟩ :: _) _ _); refine wpList_append_bytes (v := .slice (some ⟨w1.heap.size, 0, none⟩) 3 3) (L := [0, N, 6 + L.size]) rfl _ _ 24 rfl Tryd.underlying24 rfl ((Owned.row (l := [0, N, 6 + L.size]) HR2.out (Nat.le_refl _) rfl (by simp [maxLen])).chg HC3.out (fun _ _ h => h)) rfl (HV3.out) (by simp; omega) ((HC2.out.trans HC3.out).size) (HC2.out.trans HC3.out) (Nat.le_refl _) ?_; intro v4 w4 hown4 hc4; have HOWN4 := Lib.hid hown4; have HC4 := Lib.hid hc4; clear hown4 hc4))
  refine wp_region_held_drew (S := fun w' => Chg none_ w1 w') (by kernel_rfl) (HC4.out.drew) (fun hch0 => ?_)
  refine wpAnyH_take (i := 0) (v := .agg (u8s s).toArray) rfl (by kernel_rfl) (by kernel_rfl) (by kernel_rfl) (by first | exact fun _ _ _ h => h | exact fun _ _ _ h => nomatch h.1) (yieldsIf_load_mid (by rfl) 23 _ rfl w.heap.size 0 rfl (u8s s) _ (fun w' hw' => (HR1.out.chg hw' (fun h => h)).range) Tryd.underlying23 rfl (by rw [u8s_length, HS.out]; exact size25)) hch0 ?_
  refine wpAnyH_take (i := 1) (v := v4) rfl (by kernel_rfl) (by kernel_rfl) (by kernel_rfl) (by first | exact fun _ _ _ h => h | exact fun _ _ _ h => nomatch h.1) (Or.inl ⟨by rfl, fun w_ hw_ => by go_simp⟩) hch0 ?_
  refine wpAnyH_take (i := 4) (v := .int .i64 (N : Nat)) rfl (by kernel_rfl) (by kernel_rfl) (by kernel_rfl) (by first | exact fun _ _ _ h => h | exact fun _ _ _ h => nomatch h.1) (Or.inl ⟨by rfl, fun w_ hw_ => by go_simp⟩) hch0 ?_
  refine wpAnyH_ready (rs := [2]) (by kernel_rfl) (by simp) ?_
  refine AllReadyH.cons rfl (fun K hK => ?_) AllReadyH.nil
  rw [if_pos (by rfl)]
  try simp only [Act.put, List.setIfInBounds_toArray, List.set_cons_zero, List.set_cons_succ, List.getElem_toArray, List.getElem_cons_succ, List.getElem_cons_zero]
  refine wp_new_row (v := fun g => .slice (some ⟨g, 0, none⟩) 1 1) (e := 5) (cs := [.int .u8 0]) (fun w_ => by go_simp) ?_
  intro w5 hr5 hc5 hs5
  have hch1 : Chg none_ w1 w5 := hch0.trans hc5
  have hown4 := (show Owned w4.drew w1.heap.size v4 _ from HOWN4.out).chg hc5 (fun _ _ h => h)
  refine hK.out _ _ hch1 (fun _ => ?_)
  clear hK K hs5
  try simp only [Act.put, List.setIfInBounds_toArray, List.set_cons_zero, List.set_cons_succ]
  refine wpAnyH_ready (rs := [3]) (by kernel_rfl) (by simp) ?_
  refine AllReadyH.cons rfl (fun K hK => ?_) AllReadyH.nil
  rw [if_pos (by rfl)]
  try simp only [List.getElem_toArray, List.getElem_cons_succ, List.getElem_cons_zero]
  refine wp_append_bytes (v := v4) (w0 := w1) _ _ 24 rfl Tryd.underlying24 rfl hown4 rfl (View.all (T := fun _ => True) (cs := u8s [0]) hr5 rfl trivial) (by rw [List.length_append, List.length_append, bsN_len]; simp [tlsN]; omega) hch1.size hch1 (Nat.le_refl _) ?_
  intro v6 w6 hown6 hch2
  rw [HI.out] at hown6
  obtain ⟨A6, c6, e6, _, _, hv6⟩ := hown6.view
  subst e6
  refine hK.out _ _ hch2 (fun _ => ?_)
  clear hK K
  try simp only [Act.put, List.setIfInBounds_toArray, List.set_cons_zero, List.set_cons_succ]
  refine wpAnyH_ready (rs := [5]) (by kernel_rfl) (by simp) ?_
  refine AllReadyH.cons rfl (fun K hK => ?_) AllReadyH.nil
  rw [if_pos (by rfl)]
  try simp only [List.getElem_toArray, List.getElem_cons_succ, List.getElem_cons_zero]
  go_simp
  refine (HEX.out _ _ _ _ hv6 (HC1.out.trans hch2)).mono ?_
  rintro e w7 ⟨A7, c7, rfl, hv7, hc7⟩
  have hch3 : Chg none_ w1 w7 := hch2.trans hc7
  refine hK.out _ _ (hch3) (fun _ => ?_)
  clear hK K
  try simp only [Act.put, List.setIfInBounds_toArray, List.set_cons_zero, List.set_cons_succ, List.getElem_toArray, List.getElem_cons_succ, List.getElem_cons_zero]
  refine wpAnyH_take (i := 6) (v := .slice A7 (expandN s I (N : Int)).length c7) rfl (by kernel_rfl) (by kernel_rfl) (by kernel_rfl) (by first | exact fun _ _ _ h => h | exact fun _ _ _ h => nomatch h.1) (Or.inl ⟨by rfl, fun w_ hw_ => by go_simp⟩) hch3 ?_
  refine wpAnyH_done (by kernel_rfl) ?_ _
  go_wp2
  go_ret
  exact ⟨A7, c7, rfl, hv7.mono (fun b _ h => Nat.le_trans (HC1.out.trans hch2).size h), HC1.out.trans hch3⟩

theorem rlabel_any (s : List Nat) (L : ByteArray) (n : Int) (w : World) (hm : L.size ≤ 9223372036854775807) (hs : s.length = 32) (hsb : ∀ x ∈ s, x < 256) (hT : HTab w) :
    Calls Tryd.prog 34 #[.agg (u8s s).toArray, .string L, .int .i64 n] w fun e w' => SeenBytes w (labelN s (bsN L) n) e w' := by
  by_cases h : 60 < L.size ∨ n < 0 ∨ 255 < n
  · have e1 : labelN s (bsN L) n = [] := by
      unfold labelN expandN
      rw [bsN_len]
      split
      · rfl
      · rw [if_pos (by omega)]
    rw [e1]
    exact (rlabel_none s L n w hm h).mono fun e w' ⟨h1, h2⟩ => ⟨none, 0, h1, View.none_ _ _ _, h2⟩
  · obtain ⟨N, rfl⟩ : ∃ N : Nat, n = (N : Int) := ⟨n.toNat, by omega⟩
    unfold labelN
    rw [bsN_len, if_neg (by omega)]
    exact rlabel_ok s L N w (by omega) (by omega) hs hsb hT
end Go.Proofs.YtidafbpiipjnlaaDoor
