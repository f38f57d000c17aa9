/- Layer 7 (hash): what a secret is expanded to by a label. -/
import Derived.Test.YtodcjcpbigggfaaDoorV7Expand
import Derived.Test.YtodcjcpbigggfaaDoorStr
namespace Go.Proofs.YtodcjcpbigggfaaDoor
open Go.RowKit

theorem cat3n (w : World) (g : Nat) (e : TypeId) (A1 A2 A3 : Option Addr) (n1 n2 n3 c1 c2 c3 : Nat) (l1 l2 l3 : List Nat) (T1 T2 T3 : Nat → Prop) (e1 : l1.length = n1) (e2 : l2.length = n2) (e3 : l3.length = n3) (hr : Row w g e [.slice A1 n1 c1, .slice A2 n2 c2, .slice A3 n3 c3])
    (h1 : View w T1 A1 n1 (u8s l1)) (h2 : View w T2 A2 n2 (u8s l2)) (h3 : View w T3 A3 n3 (u8s l3)) (ht : n1 + (n2 + n3) ≤ 1000000) :
    Calls Tryd.prog 22 #[.slice (some ⟨g, 0, none⟩) 3 3] w (GotBytes w (l1 ++ (l2 ++ l3))) := by
  subst e1; subst e2; subst e3
  exact cat3 w g e A1 A2 A3 c1 c2 c3 l1 l2 l3 T1 T2 T3 hr h1 h2 h3 ht

/-- "tls13 " -/
def tlsN : List Nat := [116, 108, 115, 49, 51, 32]
theorem tls_bytes (L : ByteArray) : bsN (({ data := #[116, 108, 115, 49, 51, 32] } : ByteArray) ++ L) = tlsN ++ bsN L := by
  simp [bsN, tlsN, ByteArray.data_append]
theorem tls_size (L : ByteArray) : (({ data := #[116, 108, 115, 49, 51, 32] } : ByteArray) ++ L).size = 6 + L.size := by
  rw [ByteArray.size_append]; rfl

/-- The info of a label, whatever is asked. -/
def infoZ (l : List Nat) (n : Int) : List Nat := [(n / 256 % 256).toNat, (n % 256).toNat, 6 + l.length] ++ ((tlsN ++ l) ++ [0])
theorem infoZ_in (l : List Nat) (n : Int) (h0 : 0 ≤ n) (h1 : n ≤ 255) : infoZ l n = infoN l n.toNat := by
  unfold infoZ infoN tlsN
  rw [show (n / 256 % 256).toNat = 0 from by omega, show (n % 256).toNat = n.toNat from by omega]
  simp
theorem infoZ_lt (l : List Nat) (n : Int) (hl : l.length ≤ 60) (hb : ∀ x ∈ l, x < 256) : ∀ x ∈ infoZ l n, x < 256 := by
  intro x hx
  simp only [infoZ, tlsN, List.mem_append, List.mem_cons, List.not_mem_nil, or_false] at hx
  rcases hx with (rfl | rfl | rfl) | ((rfl | rfl | rfl | rfl | rfl | rfl) | h) | rfl
  all_goals first | omega | exact hb x h

theorem label_long (s : List Nat) (L : ByteArray) (v : Value) (w : World) (hL : 60 < L.size) (hm : L.size ≤ 9223372036854775807) :
    Calls Tryd.prog 17 #[.agg (u8s s).toArray, .string L, v] w fun e w' => e = .returned (.slice none 0 0) ∧ Chg none_ w w' := by
  have hd : decide ((60 : Int) < (L.size : Int)) = true := by simp; omega
  go_enter Tryd.func17, Tryd.ntmps17
  go_wp2_with (first | ((with_reducible show wpList _ _ _ (⟨_, .box 25 _, _, _, _, _⟩ :: _) _ _); refine wpList_box_Row rfl rfl (u8s s) rfl ?_; intro w1 hr1 hc1 hs1; have HR1 := Lib.hid hr1; have HC1 := Lib.hid hc1; clear hr1 hc1 hs1))
  go_ret
  exact ⟨rfl, HC1.out⟩

set_option maxRecDepth 100000 in
set_option maxHeartbeats 1000000 in
theorem label_ok (s : List Nat) (L : ByteArray) (n : Int) (w : World) (hL : L.size ≤ 60) (hs : s.length = 32) (hsb : ∀ x ∈ s, x < 256) (hT : HTab w) :
    Calls Tryd.prog 17 #[.agg (u8s s).toArray, .string L, .int .i64 n] w fun e w' => GotBytes w (expandN s (infoZ (bsN L) n) n) e w' := by
  have HTB := Lib.hid (tls_bytes L)
  have HTS := Lib.hid (tls_size L)
  have HS := Lib.hid hs
  have HEX := Lib.hid (fun w1 Ti Ai ci (hv : View w1 Ti Ai (infoZ (bsN L) n).length (u8s (infoZ (bsN L) n))) (hc : Chg none_ w w1) hcap => expand_any s (infoZ (bsN L) n) n Ti Ai ci w1 hs hsb hv (by simp [infoZ, tlsN, bsN_len]; omega) hcap (infoZ_lt _ _ (by rw [bsN_len]; omega) (bsN_lt L)) (hT.chg hc (fun h => h) (fun h => h)))
  have HIZ : Hid (infoZ (bsN L) n = [(n / 256 % 256).toNat, (n % 256).toNat, 6 + L.size] ++ ((tlsN ++ bsN L) ++ [0])) := Lib.hid (by rw [infoZ, bsN_len])
  clear hs hsb hT
  generalize infoZ (bsN L) n = I at HEX HIZ ⊢
  go_enter Tryd.func17, Tryd.ntmps17
  go_wp2_with (first | ((with_reducible show wpList _ _ _ (⟨_, .box 25 _, _, _, _, _⟩ :: _) _ _); refine wpList_box_Row rfl rfl (u8s s) rfl ?_; intro w1 hr1 hc1 hs1; have HR1 := Lib.hid hr1; have HC1 := Lib.hid hc1; clear hr1 hc1 hs1) | ((with_reducible show wpList _ _ _ (⟨some 22, _, _, _, _, _⟩ :: _) _ _); refine wpList_new_row (v := fun g => .slice (some ⟨g, 0, none⟩) 3 3) (e := 5) (cs := [.int .u8 (n / 256 % 256), .int .u8 (n % 256), .int .u8 (6 + (L.size : Int))]) rfl (fun w_ => by go_simp) ?_; intro w2 hr2 hc2 hs2; have HR2 := Lib.hid hr2; have HC2 := Lib.hid hc2; clear hr2 hc2 hs2) | ((with_reducible show wpList _ _ _ (⟨some 24, _, _, _, _, _⟩ :: _) _ _); refine wpList_bytes_string rfl rfl rfl Tryd.underlying9 Tryd.underlying22 Tryd.underlying5 ?_; intro w3 c3 hv3 hl3 hc3; rw [HTB.out, HTS.out] at hv3; rw [HTS.out] at hl3 ⊢; have HV3 := Lib.hid hv3; have HL3 := Lib.hid hl3; have HC3 := Lib.hid hc3; clear hv3 hl3 hc3) | ((with_reducible show wpList _ _ _ (⟨some 25, _, _, _, _, _⟩ :: _) _ _); refine wpList_new_row (v := fun g => .slice (some ⟨g, 0, none⟩) 1 1) (e := 5) (cs := [.int .u8 0]) rfl (fun w_ => by go_simp) ?_; intro w4 hr4 hc4 hs4; have HR4 := Lib.hid hr4; have HC4 := Lib.hid hc4; clear hr4 hc4 hs4) | ((with_reducible show wpList _ _ _ (⟨some 26, _, _, _, _, _⟩ :: _) _ _); refine wpList_new_row (v := fun g => .slice (some ⟨g, 0, none⟩) 3 3) (e := 22) (cs := [.slice (some ⟨w1.heap.size, 0, none⟩) 3 3, .slice (some ⟨w2.heap.size, 0, none⟩) (6 + L.size) c3, .slice (some ⟨w3.heap.size, 0, none⟩) 1 1]) rfl (fun w_ => by go_simp) ?_; intro w5 hr5 hc5 hs5; have HR5 := Lib.hid hr5; have HC5 := Lib.hid hc5; clear hr5 hc5 hs5))
  have HC15 := Lib.hid (((HC2.out.trans HC3.out).trans HC4.out).trans HC5.out)
  have HCT := Lib.hid (by
    have h2 : Row w5 w1.heap.size 5 (u8s [(n / 256 % 256).toNat, (n % 256).toNat, 6 + L.size]) := by
      have e : u8s [(n / 256 % 256).toNat, (n % 256).toNat, 6 + L.size] = [.int .u8 (n / 256 % 256), .int .u8 (n % 256), .int .u8 (6 + (L.size : Int))] := by
        simp only [u8s, List.map_cons, List.map_nil]
        rw [Int.toNat_of_nonneg (by omega), Int.toNat_of_nonneg (by omega)]
        rfl
      rw [e]
      exact ((HR2.out.chg HC3.out (fun h => h)).chg HC4.out (fun h => h)).chg HC5.out (fun h => h)
    have v2 := View.row (T := fun _ => True) h2 (n := 3) (by simp) trivial
    have h4 : Row w5 w3.heap.size 5 (u8s [0]) := HR4.out.chg HC5.out (fun h => h)
    have v4 := View.row (T := fun _ => True) h4 (n := 1) (by simp) trivial
    have v3 := (HV3.out.chg HC4.out (fun _ _ h => h)).chg HC5.out (fun _ _ h => h)
    rw [← HTS.out, ← bsN_len, HTB.out] at v3
    exact cat3n w5 w4.heap.size _ _ _ _ 3 (tlsN ++ bsN L).length 1 3 c3 1 [(n / 256 % 256).toNat, (n % 256).toNat, 6 + L.size] (tlsN ++ bsN L) [0] _ _ _ rfl rfl rfl (by rw [List.length_append, bsN_len]; exact HR5.out) v2 v3 v4 (by simp [tlsN, bsN_len]; omega))
  rw [← HIZ.out] at HCT
  refine HCT.out.mono ?_
  rintro e w6 ⟨A6, c6, rfl, hf6, hc6⟩
  have HF6 := Lib.hid hf6
  have HC16 := Lib.hid (HC15.out.trans hc6)
  clear hf6 hc6 HCT
  go_wp2_with (first | ((with_reducible show wpList _ _ _ (⟨_, .load 25 _, _, _, _, _⟩ :: _) _ _); refine wpList_load_Row rfl rfl rfl (HR1.out.chg HC16.out (fun h => h)) Tryd.underlying25 rfl (by rw [u8s_length, HS.out]; exact size25) ?_) | (go_at_call 15; refine (HEX.out _ _ _ _ HF6.out.view (HC1.out.trans HC16.out) HF6.out.le).mono ?_; rintro e w7 ⟨A7, c7, rfl, hf7, hc7⟩; have HF7 := Lib.hid hf7; have HC7 := Lib.hid hc7; clear hf7 hc7))
  go_ret
  exact ⟨A7, c7, rfl, HF7.out.base (HC1.out.trans HC16.out).size, (HC1.out.trans HC16.out).trans HC7.out⟩

theorem label_any (s : List Nat) (L : ByteArray) (n : Int) (w : World) (hm : L.size ≤ 9223372036854775807) (hs : s.length = 32) (hsb : ∀ x ∈ s, x < 256) (hT : HTab w) :
    Calls Tryd.prog 17 #[.agg (u8s s).toArray, .string L, .int .i64 n] w fun e w' => GotBytes w (labelN s (bsN L) n) e w' := by
  unfold labelN
  rw [bsN_len]
  by_cases hL : 60 < L.size
  · rw [if_pos hL]
    exact (label_long s L _ w hL hm).mono fun e w' ⟨h1, h2⟩ => ⟨none, 0, h1, Fresh.nil _ _, h2⟩
  · rw [if_neg hL]
    have hh := label_ok s L n w (by omega) hs hsb hT
    by_cases hn : n < 0 ∨ 255 < n
    · have e1 : expandN s (infoN (bsN L) n.toNat) n = [] := by unfold expandN; rw [if_pos hn]
      have e2 : expandN s (infoZ (bsN L) n) n = [] := by unfold expandN; rw [if_pos hn]
      rw [e1]; rw [e2] at hh; exact hh
    · rw [infoZ_in _ _ (by omega) (by omega)] at hh
      exact hh
end Go.Proofs.YtodcjcpbigggfaaDoor
