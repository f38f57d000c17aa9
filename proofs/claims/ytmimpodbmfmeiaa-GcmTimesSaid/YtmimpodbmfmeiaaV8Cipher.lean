/- Layer 8 (aes): a cipher, and what is enciphered by it, the program's. -/
import Derived.Test.YtmimpodbmfmeiaaV8Keys
namespace Go.Proofs.Ytmimpodbmfmeiaa
open Go.RowKit

theorem fill_run (g : Nat) (xs : List Value) (hx : xs.length = 176) (zs : List Value) (hz : zs.length = 177) :
    Instr.fill (fun i => (#[(0, 1), (1, 176)] : Array (Nat × Nat))[i]?) zs.toArray [(0, .pointer (some ⟨g, 0, none⟩)), (1, .agg xs.toArray)] = some (.pointer (some ⟨g, 0, none⟩) :: xs).toArray := by
  cases zs with
  | nil => cases hz
  | cons z zs =>
    have hzl : zs.length = 176 := by simp at hz; omega
    have h := setList_all xs zs [.pointer (some ⟨g, 0, none⟩)] (by omega)
    have e : ∀ (l : List (Value × Nat)) (cs : List Value), (l.foldl (fun (cs : Array Value) (x : Value × Nat) => cs.setIfInBounds (1 + x.2) x.1) cs.toArray) = (l.foldl (fun (cs : List Value) (x : Value × Nat) => cs.set (1 + x.2) x.1) cs).toArray := by
      intro l
      induction l with
      | nil => intro cs; rfl
      | cons a l ih => intro cs; simp only [List.foldl_cons, List.setIfInBounds_toArray]; exact ih _
    simp [Instr.fill, Value.cells, hx]
    refine ⟨by omega, ?_⟩
    rw [e]
    simp at h
    rw [h]
theorem built57 (parts : List (Nat × Value)) : Try.prog.built 84 parts = Instr.fill (fun i => (#[(0, 1), (1, 176)] : Array (Nat × Nat))[i]?) (Value.pointer none :: u8s (List.replicate 176 0)).toArray parts := by kernel_rfl
theorem run_build57 (g : Nat) (l : List Nat) (hl : l.length = 176) (w : World) : (Instr.build 84 #[(0, .pointer (some ⟨g, 0, none⟩)), (1, .agg (u8s l).toArray)]).run Try.prog w = .ok (.agg (.pointer (some ⟨g, 0, none⟩) :: u8s l).toArray) w :=
  run_build w _ _ _ (by rw [built57]; exact fill_run g (u8s l) (by rw [u8s_length]; exact hl) _ (by rw [List.length_cons, u8s_length, List.length_replicate]))
theorem cipherN_len (key s : List Nat) : (cipherN key s).length = 16 := encN_len _ _
theorem cipherN_lt {key s : List Nat} (hk : ∀ x ∈ key, x < 256) (hs : ∀ x ∈ s, x < 256) : ∀ x ∈ cipherN key s, x < 256 := encN_lt hs (keysN_lt hk _)
theorem zero26 : (Try.prog.info? 22).map (·.zero) = some (some (.agg (u8s (List.replicate 16 0)).toArray)) := by kernel_rfl

set_option maxRecDepth 100000 in
set_option maxHeartbeats 1000000 in
theorem cipherOf_any (key : List Nat) (w : World) (hk : key.length = 16) (hkb : ∀ x ∈ key, x < 256) : Calls Try.prog 37 #[.agg (u8s key).toArray] w fun e w' => ∃ cb tb, e = .returned (.pointer (some ⟨cb, 0, none⟩)) ∧ (w.heap.size ≤ cb ∧ w.heap.size ≤ tb) ∧ CiphAt w' cb tb (keysN key 176) ∧ Chg none_ w w' := by
  have HK := Lib.hid hk
  have HKB := Lib.hid hkb
  clear hk hkb
  go_enter Try.func37, Try.ntmps37
  go_wp2_with (first | ((with_reducible show wpList _ _ _ (⟨_, .box 22 _, _, _, _, _⟩ :: _) _ _); refine wpList_box_Row rfl rfl (u8s key) rfl ?_; intro w1 hr1 hc1 hs1; have HR1 := Lib.hid hr1; have HC1 := Lib.hid hc1; clear hr1 hc1 hs1) | (go_at_call 45; refine (allBoxes_any _).mono ?_; rintro e w2 ⟨t, rfl, hge, hbx, hc2⟩; have HBX := Lib.hid hbx; have HC2 := Lib.hid (HC1.out.trans hc2); have HR2 := Lib.hid (HR1.out.chg hc2 (fun h => h)); have HGE := Lib.hid (Nat.le_trans HC1.out.size hge); clear hbx hc2 hge) | ((with_reducible show wpList _ _ _ (⟨_, .load 22 _, _, _, _, _⟩ :: _) _ _); refine wpList_load_Row rfl rfl rfl HR2.out Try.underlying22 rfl (by rw [u8s_length, HK.out]; exact size26) ?_) | (go_at_call 46; refine (keys_any t key _ HK.out HKB.out HBX.out).mono ?_; rintro e w3 ⟨rfl, hc3⟩; have HC3 := Lib.hid (HC2.out.trans hc3); have HB3 := Lib.hid (HBX.out.chg hc3 (fun h => h)); clear hc3) | ((with_reducible show wpList _ _ _ (⟨_, .build 84 _, _, _, _, _⟩ :: _) _ _); refine wpList_val rfl (.agg (.pointer (some ⟨t, 0, none⟩) :: u8s (keysN key 176)).toArray) (fun w => by unfold execOp; simp [Act.eval, run_build57 t _ (keysN_len key 176)]) ?_) | ((with_reducible show wpList _ _ _ (⟨_, .box 84 _, _, _, _, _⟩ :: _) _ _); refine wpList_box_Row rfl rfl (.pointer (some ⟨t, 0, none⟩) :: u8s (keysN key 176)) rfl ?_; intro w4 hr4 hc4 hs4; have HR4 := Lib.hid hr4; have HC4 := Lib.hid (HC3.out.trans hc4); have HB4 := Lib.hid (HB3.out.chg hc4 (fun h => h)); clear hr4 hc4 hs4))
  go_ret
  exact ⟨_, t, rfl, ⟨HC3.out.size, HGE.out⟩, ⟨HR4.out, HB4.out⟩, HC4.out⟩

set_option maxRecDepth 100000 in
set_option maxHeartbeats 1000000 in
theorem Encipher_any (key s : List Nat) (w : World) (hk : key.length = 16) (hkb : ∀ x ∈ key, x < 256) (hs : s.length = 16) (hsb : ∀ x ∈ s, x < 256) : Calls Try.prog 36 #[.agg (u8s key).toArray, .agg (u8s s).toArray] w fun e w' => e = .returned (.agg (u8s (cipherN key s)).toArray) ∧ Chg none_ w w' := by
  have HK := Lib.hid hk
  have HKB := Lib.hid hkb
  have HS := Lib.hid hs
  have HSB := Lib.hid hsb
  clear hk hkb hs hsb
  go_enter Try.func36, Try.ntmps36
  go_wp2_with (first | ((with_reducible show wpList _ _ _ (⟨some 2, .box 22 _, _, _, _, _⟩ :: _) _ _); refine wpList_box_Row rfl rfl (u8s key) rfl ?_; intro w0 hr0 hc0 hs0; have HR0 := Lib.hid hr0; have HC0 := Lib.hid hc0; clear hr0 hc0 hs0) | ((with_reducible show wpList _ _ _ (⟨some 3, .box 22 _, _, _, _, _⟩ :: _) _ _); refine wpList_box_Row rfl rfl (u8s s) rfl ?_; intro w1 hr1 hc1 hs1; have HR1 := Lib.hid hr1; have HC1 := Lib.hid (HC0.out.trans hc1); have HR0b := Lib.hid (HR0.out.chg hc1 (fun h => h)); clear hr1 hc1 hs1) | ((with_reducible show wpList _ _ _ (⟨some 4, .alloc 22, _, _, _, _⟩ :: _) _ _); refine wpList_alloc_Row rfl rfl (u8s (List.replicate 16 0)) zero26 ?_; intro w2 hr2 hc2 hs2; have HR2 := Lib.hid hr2; have HC2 := Lib.hid (HC1.out.trans hc2); have HR1b := Lib.hid (HR1.out.chg hc2 (fun h => h)); have HR0c := Lib.hid (HR0b.out.chg hc2 (fun h => h)); clear hr2 hc2 hs2))
  have HG0 := Lib.hid (show w.heap.size < w0.heap.size from HR0.out.lt)
  have HG1 := Lib.hid (show w0.heap.size < w1.heap.size from HR1.out.lt)
  have HRK : Hid (∀ w', Chg (· = w1.heap.size) w2 w' → Row w' w.heap.size 22 (u8s key)) := Lib.hid (fun w' hc => HR0c.out.chg hc (by have := HG0.out; have := HG1.out; omega))
  have HRS : Hid (∀ w', Chg (· = w1.heap.size) w2 w' → Row w' w0.heap.size 22 (u8s s)) := Lib.hid (fun w' hc => HR1b.out.chg hc (by have := HG1.out; omega))
  simp only [Act.put, List.setIfInBounds_toArray, List.set_cons_zero, List.set_cons_succ]
  refine wp_region_held_drew (S := fun w' => Chg (· = w1.heap.size) w2 w') (by kernel_rfl) ((Chg.refl _ _).drew) (fun hch0 => ?_)
  refine wpAnyH_take (i := 0) (v := .agg (u8s key).toArray) rfl (by kernel_rfl) (by kernel_rfl) (by kernel_rfl) (by first | exact fun _ _ _ h => h | exact fun _ _ _ h => nomatch h.1) (yieldsIf_load_mid (by rfl) 22 _ rfl w.heap.size 0 rfl (u8s key) _ (fun w' hw' => (HRK.out w' hw').range) Try.underlying22 rfl (by rw [u8s_length, HK.out]; exact size26)) hch0 ?_
  refine wpAnyH_take (i := 2) (v := .agg (u8s s).toArray) rfl (by kernel_rfl) (by kernel_rfl) (by kernel_rfl) (by first | exact fun _ _ _ h => h | exact fun _ _ _ h => nomatch h.1) (yieldsIf_load_mid (by rfl) 22 _ rfl w0.heap.size 0 rfl (u8s s) _ (fun w' hw' => (HRS.out w' hw').range) Try.underlying22 rfl (by rw [u8s_length, HS.out]; exact size26)) hch0 ?_
  refine wpAnyH_ready (rs := [1]) (by kernel_rfl) (by simp) ?_
  refine AllReadyH.cons rfl (fun K hK => ?_) AllReadyH.nil
  rw [if_pos (by rfl)]
  try simp only [Act.put, List.setIfInBounds_toArray, List.set_cons_zero, List.set_cons_succ, List.getElem_toArray, List.getElem_cons_succ, List.getElem_cons_zero]
  go_simp
  refine (cipherOf_any key _ HK.out HKB.out).mono ?_
  rintro e w4 ⟨cb, tb, rfl, hcge, hci, hc4⟩
  have hch1 : Chg (· = w1.heap.size) w2 w4 := hch0.trans (hc4.mono (fun _ _ h => h.elim))
  refine hK.out _ _ (hch1) (fun _ => ?_)
  clear hK K
  try simp only [Act.put, List.setIfInBounds_toArray, List.set_cons_zero, List.set_cons_succ, List.getElem_toArray, List.getElem_cons_succ, List.getElem_cons_zero]
  refine wpAnyH_ready (rs := [3]) (by kernel_rfl) (by simp) ?_
  refine AllReadyH.cons rfl (fun K hK => ?_) AllReadyH.nil
  rw [if_pos (by rfl)]
  try simp only [List.getElem_toArray, List.getElem_cons_succ, List.getElem_cons_zero]
  go_simp
  refine (encipher_any cb tb (keysN key 176) s _ HS.out HSB.out (keysN_len _ _) (keysN_lt HKB.out _) hci).mono ?_
  rintro e w5 ⟨rfl, hc5⟩
  have hch2 : Chg (· = w1.heap.size) w2 w5 := hch1.trans (hc5.mono (fun _ _ h => h.elim))
  have hrow5 := (HR2.out.drew.chg hc4 (fun h => h)).chg hc5 (fun h => h)
  refine hK.out _ _ (hch2) (fun _ => ?_)
  clear hK K
  try simp only [Act.put, List.setIfInBounds_toArray, List.set_cons_zero, List.set_cons_succ, List.getElem_toArray, List.getElem_cons_succ, List.getElem_cons_zero]
  refine wpAnyH_ready (rs := [4]) (by kernel_rfl) (by simp) ?_
  refine AllReadyH.cons rfl (fun K hK => ?_) AllReadyH.nil
  rw [if_pos (by rfl)]
  try simp only [List.getElem_toArray, List.getElem_cons_succ, List.getElem_cons_zero]
  refine wp_store_row (ty := 22) (xs := u8s (cipherN key s)) rfl rfl (hrow5) rfl (by rw [u8s_length, u8s_length, cipherN_len, List.length_replicate]) (by rw [u8s_length, cipherN_len]; exact size26) (u8s_oneA _) ?_
  intro w6 hr_w6 hc_w6 hs_w6
  refine hK.out _ _ (hc_w6 _ w2 hch2 (fun _ => rfl)) (fun _ => ?_)
  clear hK K
  try simp only [Act.put]
  refine wpAnyH_done (by kernel_rfl) ?_ _
  go_wp2
  refine ret_row rfl rfl hr_w6 Try.underlying22 rfl (by rw [u8s_length, cipherN_len]; exact size26) rfl ?_
  exact ⟨rfl, HC2.out.andThen (hc_w6 (· = w1.heap.size) w2 hch2 (fun _ => rfl)) (fun b h e => by have := HG0.out; have := HG1.out; omega)⟩
end Go.Proofs.Ytmimpodbmfmeiaa
