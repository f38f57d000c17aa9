/- Layer 7 (hash): the walks of the laws HashKeys and HashLong. -/
import Derived.Test.YtodcjcpbigggfaaDoorV7Alive
import Derived.Test.YtodcjcpbigggfaaDoorZerosOn
namespace Go.Proofs.YtodcjcpbigggfaaDoor
open Go.RowKit

theorem maxl2 (n : Nat) (h : n ≤ maxLen) : n ≤ 9223372036854775807 := by unfold maxLen at h; omega
theorem infoZ5 : (Tryd.prog.info? 5).map (fun i => (i.zero, i.size, i.bytes)) = some (some (.int .u8 0), 1, 1) := info5
section
variable {ops : Array Oper} {rest : List Oper} {o : Oper} {a : Act} {w w0 : World} {Q : Exit → Act → World → Prop}
theorem wpList_append_zeros_own (hgd : o.guard = none) (s x : Operand) (t tn : TypeId)
    (ho : o.op = .call { callee := .builtin .append, args := #[s, x], argTypes := #[t, tn] }) (ht : Tryd.prog.underlying t = some (.slice 5)) (htn : Tryd.prog.underlying tn = some (.int .i64)) {base : Nat} {v : Value} {L : List Nat} {z : Int} (k : Nat) (hz : z = (k : Int))
    (hs : a.eval s = v) (hown : Owned w base v L) (hx : a.eval x = .int .i64 z) (hlen : L.length + k ≤ 1000000) (hbase : base ≤ w.heap.size) (hc0 : Chg none_ w0 w) (hb0 : w0.heap.size ≤ base)
    (kk : ∀ v' w', Owned w' base v' (L ++ List.replicate k 0) → Chg none_ w0 w' → wpList Tryd.prog ops Q rest (a.put o.dst v') w') : wpList Tryd.prog ops Q (o :: rest) a w :=
  wpList_plain hgd fun _ hK => by
    subst hz
    obtain ⟨i0, hi, hz0, hz1, hz2⟩ := info_parts info5
    obtain ⟨v', w', hr, h2, h3⟩ := run_append_zeros (P := Tryd.prog) w base t tn o.type 5 i0 _ .i64 .i64 ht htn hi hz0 hz1 hz2 rfl rfl v L.length (u8s L) hown k hlen hbase
    unfold Oper.wp execOp
    simp only [ho, resolve, invoke, builtin, Sem.run_bind, Sem.run_pure, Result.andThen_ok, List.map_toArray, List.map_cons, List.map_nil, hs, hx, hr]
    refine hK _ _ (kk v' w' ?_ (chg_grown hc0 hb0 hown h3))
    have e : u8s L ++ List.replicate k (.int .u8 0) = u8s (L ++ List.replicate k 0) := by simp [u8s]
    rw [e] at h2
    unfold Owned
    rw [List.length_append, List.length_replicate]
    exact h2
end
theorem keyN_keyN (k : List Nat) (h : k.length ≤ 64) : keyN (keyN k) = keyN k := by
  have := keyN_len k h
  rw [keyN, this]
  simp
theorem tag_keyN (k l : List Nat) (h : k.length ≤ 64) : tagN (keyN k) l = tagN k l := by
  have := keyN_len k h
  unfold tagN
  rw [if_neg (by omega), if_neg (by omega)]
  unfold tagS
  rw [keyN_keyN k h]
theorem tag_long_eq (k l : List Nat) (h : 64 < k.length) : tagN (sumN k) l = tagN k l := by
  have := sumN_len k
  unfold tagN
  rw [if_neg (by omega), if_pos h]

set_option maxRecDepth 100000 in
set_option maxHeartbeats 1000000 in
theorem walk_HashKeys (A : Option Addr) (len cap : Nat) (zs : List Int) (A' : Option Addr) (len' cap' : Nat) (zs' : List Int) (W : World) (x0 : IsRow .u8 W A len cap zs) (x1 : IsRow .u8 W A' len' cap' zs') (hT : HTab W) :
    Calls Tryd.prog 7 #[.slice A len cap, .slice A' len' cap'] W fun e w' => e = .returned (.bool true) ∧ Chg none_ W w' := by
  obtain ⟨k, rfl, hkc, hkm, hkb, hvk⟩ := x0.u8
  obtain ⟨l, rfl, hlc, hlm, hlb, hvl⟩ := x1.u8
  have hlm2 := maxl2 _ (Nat.le_trans hlc hlm)
  have hkm2 := maxl2 _ (Nat.le_trans hkc hkm)
  have HAL := Lib.hid (fun w' (hc : Chg none_ W w') => alive_any w' (hT.chg hc (fun h => h) (fun h => h)))
  have HC0 := Lib.hid (Chg.refl none_ W)
  by_cases hk : 64 < k.length
  · have hd1 : decide ((64 : Int) < (k.length : Int)) = true := by simp; omega
    clear hvk hvl hkb hlb hT x0 x1
    go_enter Tryd.func7, Tryd.ntmps7
    go_wp2_with (go_at_call 8; refine (HAL.out _ HC0.out).mono ?_; rintro e w1 ⟨rfl, hc1⟩; have HC1 := Lib.hid (HC0.out.trans hc1); clear hc1)
    go_ret
    exact ⟨rfl, HC1.out⟩
  have hd1 : decide ((64 : Int) < (k.length : Int)) = false := by simp; omega
  by_cases hl : 200 < l.length
  · have hd2 : decide ((200 : Int) < (l.length : Int)) = true := by simp; omega
    clear hvk hvl hkb hlb hT x0 x1
    go_enter Tryd.func7, Tryd.ntmps7
    go_wp2_with (go_at_call 8; refine (HAL.out _ HC0.out).mono ?_; rintro e w1 ⟨rfl, hc1⟩; have HC1 := Lib.hid (HC0.out.trans hc1); clear hc1)
    go_ret
    exact ⟨rfl, HC1.out⟩
  have hd2 : decide ((200 : Int) < (l.length : Int)) = false := by simp; omega
  have HT1 := Lib.hid (fun w' (hc : Chg none_ W w') => tag_any _ _ A A' cap cap' k l w' (hvk.chg hc (fun _ _ h => h)) (hvl.chg hc (fun _ _ h => h)) (by omega) (by omega) hkc hlc hkb hlb (hT.chg hc (fun h => h) (fun h => h)))
  have HE1 := Lib.hid (fun w' (hc : Chg none_ W w') => extract_any _ _ A A' cap cap' k l w' (hvk.chg hc (fun _ _ h => h)) (hvl.chg hc (fun _ _ h => h)) (by omega) (by omega) hkc hlc hkb hlb (hT.chg hc (fun h => h) (fun h => h)))
  have hKNL : (keyN k).length = 64 := keyN_len k (by omega)
  have hKNE := tag_keyN k l (by omega)
  have hkl := keyN_lt hkb
  have HT2 := Lib.hid (fun (T : Nat → Prop) Al cl w' (hv : View w' T Al (keyN k).length (u8s (keyN k))) (hcap : (keyN k).length ≤ cl) (hc : Chg none_ W w') => hKNE ▸ tag_any T _ Al A' cl cap' (keyN k) l w' hv (hvl.chg hc (fun _ _ h => h)) (by omega) (by omega) hcap hlc hkl hlb (hT.chg hc (fun h => h) (fun h => h)))
  have HE2 := Lib.hid (fun (T : Nat → Prop) Al cl w' (hv : View w' T Al (keyN k).length (u8s (keyN k))) (hcap : (keyN k).length ≤ cl) (hc : Chg none_ W w') => hKNE ▸ extract_any T _ Al A' cl cap' (keyN k) l w' hv (hvl.chg hc (fun _ _ h => h)) (by omega) (by omega) hcap hlc hkl hlb (hT.chg hc (fun h => h) (fun h => h)))
  have HKN : Hid ([] ++ k ++ List.replicate (64 - k.length) 0 = keyN k) := Lib.hid (by simp [keyN])
  have HVK := Lib.hid hvk
  generalize keyN k = KN at HT2 HE2 HKN
  have HTL := Lib.hid (tagN_len k l)
  generalize tagN k l = TG at HT1 HT2 HE1 HE2 HTL
  clear hvk hvl hkb hlb hT x0 x1 hKNL hKNE hkl
  go_enter Tryd.func7, Tryd.ntmps7
  go_wp2_with (first | (go_at_call 8; refine (HAL.out _ HC0.out).mono ?_; rintro e w1 ⟨rfl, hc1⟩; have HC1 := Lib.hid (HC0.out.trans hc1); clear hc1) | ((with_reducible show wpList _ _ _ (⟨some 16, _, _, _, _, _⟩ :: _) _ _); refine wpList_new_row (v := fun g => .slice (some ⟨g, 0, none⟩) 0 0) (e := 5) (cs := []) rfl (fun w_ => by go_simp) ?_; intro w2 hr2 hc2 hs2; have HR2 := Lib.hid hr2; have HC2 := Lib.hid (HC1.out.trans hc2); clear hr2 hc2 hs2) | ((with_reducible show wpList _ _ _ (⟨some 18, _, _, _, _, _⟩ :: _) _ _); refine wpList_append_bytes (v := .slice (some ⟨w1.heap.size, 0, none⟩) 0 0) (w0 := W) rfl _ _ 22 rfl Tryd.underlying22 rfl (Owned.row (l := []) HR2.out HC1.out.size rfl (by simp [maxLen])) rfl (HVK.out.chg HC2.out (fun _ _ h => h)) (by simp; omega) HC2.out.size HC2.out (Nat.le_refl _) ?_; intro v3 w3 hown3 hc3; have HOWN3 := Lib.hid hown3; have HC3 := Lib.hid hc3; clear hown3 hc3) | ((with_reducible show wpList _ _ _ (⟨some 22, _, _, _, _, _⟩ :: _) _ _); refine wpList_append_zeros_own (v := v3) (w0 := W) rfl _ _ 22 3 rfl Tryd.underlying22 Tryd.underlying3 (64 - k.length) (by omega) rfl HOWN3.out rfl (by simp; omega) HC3.out.size HC3.out (Nat.le_refl _) ?_; intro v4 w4 hown4 hc4; rw [HKN.out] at hown4; obtain ⟨A4, c4, e4, hcap4, _, hv4⟩ := hown4.view; subst e4; have HV4 := Lib.hid hv4; have HCAP4 := Lib.hid hcap4; have HC4 := Lib.hid hc4; clear hown4 hc4 hv4 hcap4) | (go_at_call 11; first | ((with_reducible refine (HT1.out w4 HC4.out).mono ?_); rintro e w5 ⟨rfl, hc5⟩; have HC5 := Lib.hid hc5; have HC5' := Lib.hid (HC4.out.trans hc5); clear hc5) | ((with_reducible refine (HT2.out _ A4 c4 w5 (HV4.out.chg HC5.out (fun _ _ h => h)) HCAP4.out HC5'.out).mono ?_); rintro e w6 ⟨rfl, hc6⟩; have HC6 := Lib.hid (HC5.out.trans hc6); have HC6' := Lib.hid (HC5'.out.trans hc6); clear hc6)) | ((with_reducible show wpList _ _ _ (⟨some 29, _, _, _, _, _⟩ :: _) _ _); refine wpList_hash_eq rfl _ _ rfl (TG) (HTL.out) rfl rfl ?_) | (go_at_call 13; first | ((with_reducible refine (HE1.out w6 HC6'.out).mono ?_); rintro e w7 ⟨rfl, hc7⟩; have HC7 := Lib.hid (HC6.out.trans hc7); have HC7' := Lib.hid (HC6'.out.trans hc7); clear hc7) | ((with_reducible refine (HE2.out _ A4 c4 w7 (HV4.out.chg HC7.out (fun _ _ h => h)) HCAP4.out HC7'.out).mono ?_); rintro e w8 ⟨rfl, hc8⟩; have HC8' := Lib.hid (HC7'.out.trans hc8); clear hc8)) | ((with_reducible show wpList _ _ _ (⟨some 37, _, _, _, _, _⟩ :: _) _ _); refine wpList_hash_eq rfl _ _ rfl (TG) (HTL.out) rfl rfl ?_))
  go_ret
  exact ⟨rfl, HC8'.out⟩
end Go.Proofs.YtodcjcpbigggfaaDoor
