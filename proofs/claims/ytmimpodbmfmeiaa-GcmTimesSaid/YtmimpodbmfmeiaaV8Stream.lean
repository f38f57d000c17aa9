/- Layer 8 (aes): a text enciphered, the program's. -/
import Derived.Test.YtmimpodbmfmeiaaV8Cipher
import Derived.Test.YtmimpodbmfmeiaaOwn
import Derived.Deep.OwnRows
namespace Go.Proofs.Ytmimpodbmfmeiaa
open Go.RowKit

theorem incF_len : ∀ n (s : List Nat) i, (incF s n i).length = s.length
  | 0, _, _ => rfl
  | n + 1, s, i => by
    rw [incF]
    split
    · rw [incF_len n, List.length_set]
    · rw [List.length_set]
theorem mem_set_lt {s : List Nat} (hs : ∀ x ∈ s, x < 256) (i v : Nat) (hv : v < 256) : ∀ x ∈ s.set i v, x < 256 := by
  intro x hx
  rcases List.mem_or_eq_of_mem_set hx with h | h
  · exact hs x h
  · rw [h]; exact hv
theorem incF_lt : ∀ n {s : List Nat} (_ : ∀ x ∈ s, x < 256) i, ∀ x ∈ incF s n i, x < 256
  | 0, _, hs, _ => hs
  | n + 1, s, hs, i => by
    rw [incF]
    have h := mem_set_lt hs i ((s.getD i 0 + 1) % 256) (Nat.mod_lt _ (by decide))
    split
    · exact incF_lt n h _
    · exact h
theorem ctrN_len (s : List Nat) (hs : s.length = 16) : ∀ j, (ctrN s j).length = 16
  | 0 => hs
  | j + 1 => by rw [ctrN, oneMore, incF_len, ctrN_len s hs j]
theorem ctrN_lt {s : List Nat} (hs : ∀ x ∈ s, x < 256) : ∀ j, ∀ x ∈ ctrN s j, x < 256
  | 0 => hs
  | j + 1 => incF_lt 4 (ctrN_lt hs j) 15

set_option maxRecDepth 100000 in
set_option maxHeartbeats 1000000 in
theorem oneMore_any (s : List Nat) (w : World) (hs : s.length = 16) (hsb : ∀ x ∈ s, x < 256) : Calls Try.prog 39 #[.agg (u8s s).toArray] w fun e w' => e = .returned (.agg (u8s (oneMore s)).toArray) ∧ Chg none_ w w' := by
  have HS := Lib.hid hs
  have HSB := Lib.hid hsb
  have HOL : Hid ((oneMore s).length = 16) := Lib.hid (by rw [oneMore, incF_len]; exact hs)
  clear hs hsb
  go_enter Try.func39, Try.ntmps39
  go_wp2_with (first | ((with_reducible show wpList _ _ _ (⟨_, .box 68 _, _, _, _, _⟩ :: _) _ _); refine wpList_box_Row rfl rfl (u8s s) rfl ?_; intro w1 hr1 hc1 hs1; have HR1 := Lib.hid hr1; have HC1 := Lib.hid hc1; clear hr1 hc1 hs1) | ((with_reducible show wpList _ _ _ (⟨_, .alloc 68, _, _, _, _⟩ :: _) _ _); refine wpList_alloc_Row rfl rfl (u8s (List.replicate 16 0)) zero47 ?_; intro w2 hr2 hc2 hs2; have HR2 := Lib.hid hr2; have HC2 := Lib.hid (HC1.out.trans hc2); have HRG := Lib.hid (HR1.out.chg hc2 (fun h => h)); clear hr2 hc2 hs2))
  have HG := Lib.hid (show w.heap.size < w1.heap.size from HR1.out.lt)
  clear HR1 HC1
  go_loopw [3] (fun i wr => ∃ (n : Nat) (s' : List Nat), n ≤ 4 ∧ i = .int .i64 (11 + n : Nat) ∧ s'.length = 16 ∧ Hid (∀ x ∈ s', x < 256) ∧ Hid (incF s' n (11 + n) = oneMore s) ∧ Row wr w.heap.size 68 (u8s s') ∧ Chg (· = w.heap.size) w2 wr) (fun i _ => (intOf i).toNat)
  case atStart => exact ⟨4, s, Nat.le_refl _, rfl, HS.out, HSB, Lib.hid rfl, HRG.out, Chg.refl _ _⟩
  case round =>
    obtain ⟨n, s', hn, rfl, hl, HB, HI, hrow, hch⟩ := hrel
    have HROW := Lib.hid hrow
    have HC := Lib.hid hch
    clear hch
    rcases n with _ | n
    · have HE : Hid (s' = oneMore s) := Lib.hid HI.out
      clear hrow
      go_wp2_with (first | ((with_reducible show wpList _ _ _ (⟨some 17, .load 68 _, _, _, _, _⟩ :: _) _ _); refine wpList_load_Row rfl rfl rfl HROW.out Try.underlying68 rfl (by rw [u8s_length, hl]; exact size47) ?_) | ((with_reducible show wpList _ _ _ (⟨_, .store 68 _ _, _, _, _, _⟩ :: _) _ _); refine wpList_store_Row (xs := u8s s') rfl rfl rfl (HR2.out.chg HC.out (by have := HG.out; omega)) rfl (by rw [u8s_length, u8s_length, hl, List.length_replicate]) (by rw [u8s_length, hl]; exact size47) (u8s_oneA _) ?_; intro w9 hr9 hc9 hs9; have HR9 := Lib.hid hr9; have HC9 := Lib.hid hc9; clear hr9 hc9 hs9))
      refine ret_row rfl rfl HR9.out Try.underlying68 rfl (by rw [u8s_length, hl]; exact size47) rfl ?_
      exact ⟨by rw [HE.out], HC9.out none_ w (HC2.out.andThen HC.out (fun b h e => by omega)) (fun h => by have := HG.out; omega)⟩
    · obtain ⟨i, hi⟩ : ∃ i, i = 11 + (n + 1) := ⟨_, rfl⟩
      have HI2 : Hid ((if (s'.getD i 0 + 1) % 256 = 0 then incF (s'.set i ((s'.getD i 0 + 1) % 256)) n (i - 1) else s'.set i ((s'.getD i 0 + 1) % 256)) = oneMore s) := Lib.hid (by rw [← HI.out, incF, hi])
      rw [← hi]
      have hi16 : i < 16 := by omega
      have hi12 : 12 ≤ i := by omega
      have HIN := Lib.hid hi
      clear hi HI
      have c1 := Row.u8 hrow (i := i) (by rw [hl]; exact hi16)
      have hf := hrow.frozen i
      have HV : Hid (((s'.getD i 0 + 1) % 256) < 256) := Lib.hid (Nat.mod_lt _ (by decide))
      have hx : s'.getD i 0 < 256 := getD_lt HB.out i (by decide)
      have HSET := Lib.hid (hrow.set i (.int .u8 (((s'.getD i 0 + 1) % 256 : Nat) : Int)))
      generalize s'.getD i 0 = x at c1 HI2 HSET HV hx
      clear hrow
      have HXV : Hid (((x : Int) + 1) % 256 = (((x + 1) % 256 : Nat) : Int)) := Lib.hid (by omega)
      have q0 : (0 : Int) ≤ (i : Int) := by omega
      have q1 : (i : Int) < 16 := by omega
      have q2 : (12 : Int) ≤ (i : Int) := by omega
      by_cases hz : (x + 1) % 256 = 0
      · rw [if_pos hz] at HI2
        have hz2 : ((x : Int) + 1) % 256 = 0 := by omega
        rw [hz] at HI2 HSET
        clear hz hx
        go_wp2
        go_roundw
        case rel => exact ⟨n, s'.set i 0, by omega, by congr 1; have := HIN.out; omega, by rw [List.length_set]; exact hl, Lib.hid (mem_set_lt HB.out i 0 (by decide)), Lib.hid (by rw [← HI2.out, HIN.out]; rfl), by rw [← u8s_set]; exact HSET.out, HC.out.setCell (fun _ => rfl) _⟩
        case measure => simp [intOf]; omega
      · rw [if_neg hz] at HI2
        have hz2 : (((x : Int) + 1) % 256 != 0) = true := by simp; omega
        have HE := HI2
        have HLO : Hid ((s'.set i ((x + 1) % 256)).length = 16) := Lib.hid (by rw [List.length_set]; exact hl)
        have HR8 : Hid (Row (wr.setCell ⟨w.heap.size, i, none⟩ (.int .u8 (((x : Int) + 1) % 256))) w.heap.size 68 (u8s (s'.set i ((x + 1) % 256)))) := Lib.hid (by rw [HXV.out, ← u8s_set]; exact HSET.out)
        have HC8 : Hid (Chg (· = w.heap.size) w2 (wr.setCell ⟨w.heap.size, i, none⟩ (.int .u8 (((x : Int) + 1) % 256)))) := Lib.hid (HC.out.setCell (fun _ => rfl) _)
        clear hx hz
        go_wp2_with (first | ((with_reducible show wpList _ _ _ (⟨some 17, .load 68 _, _, _, _, _⟩ :: _) _ _); refine wpList_load_Row rfl rfl rfl HR8.out Try.underlying68 rfl (by rw [u8s_length, HLO.out]; exact size47) ?_) | ((with_reducible show wpList _ _ _ (⟨_, .store 68 _ _, _, _, _, _⟩ :: _) _ _); refine wpList_store_Row (xs := u8s (s'.set i ((x + 1) % 256))) rfl rfl rfl (HR2.out.chg HC8.out (by have := HG.out; omega)) rfl (by rw [u8s_length, u8s_length, HLO.out, List.length_replicate]) (by rw [u8s_length, HLO.out]; exact size47) (u8s_oneA _) ?_; intro w9 hr9 hc9 hs9; have HR9 := Lib.hid hr9; have HC9 := Lib.hid hc9; clear hr9 hc9 hs9))
        refine ret_row rfl rfl HR9.out Try.underlying68 rfl (by rw [u8s_length, HLO.out]; exact size47) rfl ?_
        exact ⟨by rw [HE.out], HC9.out none_ w (HC2.out.andThen HC8.out (fun b h e => by omega)) (fun h => by have := HG.out; omega)⟩

theorem streamN_len (key first text : List Nat) : (streamN key first text).length = text.length := by simp [streamN]
theorem streamN_lt {key first text : List Nat} (hk : ∀ x ∈ key, x < 256) (hf : ∀ x ∈ first, x < 256) (ht : ∀ x ∈ text, x < 256) : ∀ x ∈ streamN key first text, x < 256 := by
  intro x hx
  simp only [streamN, List.mem_map] at hx
  obtain ⟨i, _, rfl⟩ := hx
  exact xor8_lt (getD_lt ht i (by decide)) (getD_lt (cipherN_lt hk (ctrN_lt hf _)) _ (by decide))

section
variable {P : Program} {ops : Array Oper} {rest : List Oper} {o : Oper} {a : Act} {w : World} {Q : Exit → Act → World → Prop}
/-- make of bytes: a row of zeros. -/
theorem wpList_make_bytes (hg : o.guard = none) (l c : Operand) (t : TypeId) (hop : o.op = Op.makeSlice t l c)
    (e : TypeId) (ht : P.underlying t = some (.slice e)) (hinfo : (P.info? e).map (fun i => (i.zero, i.size, i.bytes)) = some (some (.int .u8 0), 1, 1))
    (n : Nat) (hl : a.eval l = .int .i64 (n : Int)) (hc : a.eval c = .int .i64 (n : Int)) (hn : n ≤ 1000000)
    (k : ∀ w', Row w' w.heap.size e (u8s (List.replicate n 0)) → Chg none_ w w' → wpList P ops Q rest (a.put o.dst (.slice (some ⟨w.heap.size, 0, none⟩) n n)) w') :
    wpList P ops Q (o :: rest) a w := by
  refine wpList_plain hg fun K hK' => ?_
  have hrun := run_make_row' (P := P) t e (.int .u8 0) 1 ht hinfo rfl .i64 .i64 n (by omega) (by omega) w
  unfold Oper.wp
  simp [execOp, hop, hl, hc, hrun, Result.andThen]
  refine hK' _ _ (k _ ?_ ((Chg.refl _ _).alloc _))
  have := Row.new w e (u8s (List.replicate n 0))
  have e2 : (u8s (List.replicate n 0)).toArray = madeCells #[.int .u8 0] n := by
    apply Array.toList_inj.1
    rw [toList_madeCells_one]
    simp [u8s]
  rw [e2] at this
  exact this
end
theorem info5' : (Try.prog.info? 5).map (fun i => (i.zero, i.size, i.bytes)) = some (some (.int .u8 0), 1, 1) := by kernel_rfl

set_option maxRecDepth 100000 in
set_option maxHeartbeats 1500000 in
theorem Stream_any (key first : List Nat) (T : Nat → Prop) (A : Option Addr) (cap : Nat) (text : List Nat) (w : World) (hk : key.length = 16) (hkb : ∀ x ∈ key, x < 256) (hf : first.length = 16) (hfb : ∀ x ∈ first, x < 256) (hv : View w T A text.length (u8s text)) (hl : text.length ≤ 1000000) (ht : ∀ x ∈ text, x < 256) :
    Calls Try.prog 29 #[.agg (u8s key).toArray, .agg (u8s first).toArray, .slice A text.length cap] w fun e w' => ∃ g, e = .returned (.slice (some ⟨g, 0, none⟩) text.length text.length) ∧ w.heap.size ≤ g ∧ Row w' g 5 (u8s (streamN key first text)) ∧ Chg none_ w w' := by
  have HK := Lib.hid hk
  have HKB := Lib.hid hkb
  have HF := Lib.hid hf
  have HFB := Lib.hid hfb
  have HV := Lib.hid hv
  have HTB := Lib.hid (fun i => getD_lt ht i (by decide))
  clear hk hkb hf hfb hv ht
  go_enter Try.func29, Try.ntmps29
  go_wp2_with (first | ((with_reducible show wpList _ _ _ (⟨some 3, .box 22 _, _, _, _, _⟩ :: _) _ _); refine wpList_box_Row rfl rfl (u8s key) rfl ?_; intro w0 hr0 hc0 hs0; have HR0 := Lib.hid hr0; have HC0 := Lib.hid hc0; clear hr0 hc0 hs0) | ((with_reducible show wpList _ _ _ (⟨some 4, .box 22 _, _, _, _, _⟩ :: _) _ _); refine wpList_box_Row rfl rfl (u8s first) rfl ?_; intro w1 hr1 hc1 hs1; have HR1 := Lib.hid hr1; have HC1 := Lib.hid (HC0.out.trans hc1); have HR0b := Lib.hid (HR0.out.chg hc1 (fun h => h)); clear hr1 hc1 hs1) | (at_make; refine wpList_make_bytes rfl _ _ _ rfl 5 Try.underlying23 info5' text.length rfl rfl hl ?_; intro w2 hr2 hc2; have HR2 := Lib.hid hr2; have HC2 := Lib.hid (HC1.out.trans hc2); have HR0c := Lib.hid (HR0b.out.chg hc2 (fun h => h)); have HR1c := Lib.hid (HR1.out.chg hc2 (fun h => h)); clear hr2 hc2) | ((with_reducible show wpList _ _ _ (⟨some 16, .load 22 _, _, _, _, _⟩ :: _) _ _); refine wpList_load_Row rfl rfl rfl HR0c.out Try.underlying22 rfl (by rw [u8s_length, HK.out]; exact size26) ?_) | (go_at_call 37; refine (cipherOf_any key w2 HK.out HKB.out).mono ?_; rintro e w3 ⟨cb, tb, rfl, hge, hci, hc3⟩; have HCI := Lib.hid hci; have HGE := Lib.hid hge; have HC3 := Lib.hid (HC2.out.trans hc3); have HR2d := Lib.hid (HR2.out.chg hc3 (fun h => h)); have HR1d := Lib.hid (HR1c.out.chg hc3 (fun h => h)); clear hge hci hc3) | ((with_reducible show wpList _ _ _ (⟨some 18, .load 22 _, _, _, _, _⟩ :: _) _ _); refine wpList_load_Row rfl rfl rfl HR1d.out Try.underlying22 rfl (by rw [u8s_length, HF.out]; exact size26) ?_) | ((with_reducible show wpList _ _ _ (⟨some 9, .alloc 68, _, _, _, _⟩ :: _) _ _); refine wpList_alloc_Row rfl rfl (u8s (List.replicate 16 0)) zero47 ?_; intro w4 hr4 hc4 hs4; have HR4 := Lib.hid hr4; have HC4 := Lib.hid hc4; clear hr4 hc4 hs4) | ((with_reducible show wpList _ _ _ (⟨_, .store 68 _ _, _, _, _, _⟩ :: _) _ _); refine wpList_store_Row (xs := u8s first) rfl rfl rfl HR4.out rfl (by rw [u8s_length, u8s_length, HF.out, List.length_replicate]) (by rw [u8s_length, HF.out]; exact size47) (u8s_oneA _) ?_; intro w5 hr5 hc5 hs5; have HR5 := Lib.hid hr5; have HC5 := Lib.hid (hc5 none_ w3 HC4.out (fun h => absurd h (Nat.lt_irrefl _))); clear hr5 hc5 hs5) | ((with_reducible show wpList _ _ _ (⟨some 10, .alloc 68, _, _, _, _⟩ :: _) _ _); refine wpList_alloc_Row rfl rfl (u8s (List.replicate 16 0)) zero47 ?_; intro w6 hr6 hc6 hs6; have HR6 := Lib.hid hr6; have HC6 := Lib.hid (HC5.out.trans hc6); have HR5b := Lib.hid (HR5.out.chg hc6 (fun h => h)); clear hr6 hc6 hs6))
  have HG0 := Lib.hid (show w.heap.size < w0.heap.size from HR0.out.lt)
  have HG1 := Lib.hid (show w0.heap.size < w1.heap.size from HR1.out.lt)
  have HG2 := Lib.hid (show w1.heap.size < w2.heap.size from HR2.out.lt)
  have HG3 := Lib.hid (show w2.heap.size ≤ w3.heap.size ∧ cb < w3.heap.size ∧ tb < w3.heap.size from ⟨by have := HGE.out.1; have := HCI.out.row.lt; omega, HCI.out.row.lt, HCI.out.box.lt⟩)
  have HG5 := Lib.hid (show w3.heap.size < w5.heap.size from Nat.lt_of_lt_of_le HR5.out.lt (Nat.le_refl _))
  have HCW := Lib.hid (HC3.out.trans HC6.out)
  have HCI6 := Lib.hid (HCI.out.chg HC6.out (fun h => h) (fun h => h))
  have HR2e := Lib.hid (HR2d.out.chg HC6.out (fun h => h))
  have HVX := Lib.hid ((HV.out.mono (T' := fun b => b < w.heap.size) (fun _ h _ => h)).chg HCW.out (fun _ _ h => h))
  clear HR0 HR0b HR0c HR1 HR1c HR1d HR2 HR2d HC0 HC1 HC2 HC3 HC4 HC5 HC6 HR4 HR5 HCI HV
  go_loopw [11, 12, 21] (fun _ _ i wr => ∃ (k : Nat) (E : List Nat), k ≤ text.length ∧ i = .int .i64 k ∧ E.length = 16 ∧ Hid (0 < k → E = cipherN key (ctrN first ((k - 1) / 16))) ∧ Row wr w1.heap.size 5 (u8s (fillN (fun i => text.getD i 0 ^^^ padAt key first i) text.length k)) ∧ Row wr w3.heap.size 68 (u8s (ctrN first ((k + 15) / 16))) ∧ Row wr w5.heap.size 68 (u8s E) ∧ Chg (fun b => b = w1.heap.size ∨ b = w3.heap.size ∨ b = w5.heap.size) w6 wr) (fun _ _ i _ => text.length - (intOf i).toNat)
  case atStart => exact ⟨0, List.replicate 16 0, Nat.zero_le _, rfl, by simp, Lib.hid (fun h => absurd h (Nat.lt_irrefl _)), by rw [fillN_0]; exact HR2e.out, HR5b.out, HR6.out, Chg.refl _ _⟩
  case round =>
    obtain ⟨k, E, hk, rfl, hEl, HE, hrowO, hrowC, hrowE, hch⟩ := hrel
    have HRO := Lib.hid hrowO
    have HRC := Lib.hid hrowC
    have HRE := Lib.hid hrowE
    have HC := Lib.hid hch
    clear hrowO hrowC hrowE hch
    by_cases hlt : k < text.length
    · obtain ⟨b, o, rfl, hb, hbT, c1⟩ := (HVX.out.chg (S := fun b => b = w1.heap.size ∨ b = w3.heap.size ∨ b = w5.heap.size) HC.out (fun b hb h => by have := HG0.out; have := HG1.out; have := HG2.out; have := HG3.out; have := HG5.out; omega)).at_ hlt
      obtain ⟨x, hx⟩ : ∃ x, text.getD k 0 = x := ⟨_, rfl⟩
      have HN3 := Lib.hid (show w3.heap.size ≠ w1.heap.size by have := HG2.out; have := HG3.out; omega)
      have HN5 := Lib.hid (show w5.heap.size ≠ w1.heap.size by have := HG2.out; have := HG3.out; have := HG5.out; omega)
      have HFS : Hid ((fillN (fun i => text.getD i 0 ^^^ padAt key first i) text.length k).set k (x ^^^ padAt key first k) = fillN (fun i => text.getD i 0 ^^^ padAt key first i) text.length (k + 1)) := Lib.hid (by rw [← hx]; exact fillN_set (fun i => text.getD i 0 ^^^ padAt key first i) text.length k hlt)
      have HPL : Hid (∀ j, (cipherN key (ctrN first j)).length = 16) := Lib.hid (fun j => cipherN_len _ _)
      have HPB : Hid (∀ i, padAt key first i < 256) := Lib.hid (fun i => getD_lt (cipherN_lt HKB.out (ctrN_lt HFB.out _)) _ (by decide))
      have HXV := Lib.hid (u8_xor_nat x (padAt key first k) (by rw [← hx]; exact HTB.out k) (HPB.out k))
      rw [hx] at c1
      clear hx
      have q0 : (0 : Int) ≤ (k : Int) := by omega
      have q1 : (k : Int) < (text.length : Int) := by omega
      have q2 : (0 : Int) ≤ (k : Int) % 16 := by omega
      have q3 : (k : Int) % 16 < 16 := by omega
      by_cases hm : k % 16 = 0
      · have hmi : (k : Int) % 16 = 0 := by omega
        have HEQ : Hid (cipherN key (ctrN first (k / 16)) = cipherN key (ctrN first ((k + 1 - 1) / 16))) := Lib.hid (by rw [Nat.add_sub_cancel])
        have HC0 : Hid (ctrN first ((k + 15) / 16) = ctrN first (k / 16)) := Lib.hid (by rw [show (k + 15) / 16 = k / 16 from by omega])
        have HCT : Hid (ctrN first ((k + 1 + 15) / 16) = oneMore (ctrN first (k / 16))) := Lib.hid (by rw [show (k + 1 + 15) / 16 = k / 16 + 1 from by omega, ctrN])
        have HPA : Hid ((cipherN key (ctrN first (k / 16))).getD 0 0 = padAt key first k) := Lib.hid (by rw [padAt, hm])
        have HCL := Lib.hid (ctrN_len first HF.out (k / 16))
        have HCB := Lib.hid (ctrN_lt HFB.out (k / 16))
        have HOL : Hid ((oneMore (ctrN first (k / 16))).length = 16) := Lib.hid (by rw [oneMore, incF_len]; exact HCL.out)
        rw [HC0.out] at HRC
        have HCIr := Lib.hid (HCI6.out.chg HC.out (by have := HG0.out; have := HG1.out; have := HG2.out; have := HG3.out; have := HG5.out; have := HGE.out; omega) (by have := HG0.out; have := HG1.out; have := HG2.out; have := HG3.out; have := HG5.out; have := HGE.out; omega))
        clear hm HC0 HE
        go_wp2_with (first | ((with_reducible show wpList _ _ _ (⟨some 30, .load 68 _, _, _, _, _⟩ :: _) _ _); refine wpList_load_Row rfl rfl rfl HRC.out Try.underlying68 rfl (by rw [u8s_length, HCL.out]; exact size47) ?_) | (go_at_call 38; refine (encipher_any cb tb (keysN key 176) (ctrN first (k / 16)) _ HCL.out HCB.out (keysN_len _ _) (keysN_lt HKB.out _) HCIr.out).mono ?_; rintro e w7 ⟨rfl, hc7⟩; have HC7 := Lib.hid (HC.out.trans (hc7.mono (fun _ _ h => h.elim))); have HRE7 := Lib.hid (HRE.out.chg hc7 (fun h => h)); have HRC7 := Lib.hid (HRC.out.chg hc7 (fun h => h)); have HRO7 := Lib.hid (HRO.out.chg hc7 (fun h => h)); clear hc7) | ((with_reducible show wpList _ _ _ (⟨_, .store 68 _ (.tmp 31), _, _, _, _⟩ :: _) _ _); refine wpList_store_Row (xs := u8s (cipherN key (ctrN first (k / 16)))) rfl rfl rfl HRE7.out rfl (by rw [u8s_length, u8s_length, HPL.out, hEl]) (by rw [u8s_length, HPL.out]; exact size47) (u8s_oneA _) ?_; intro w8 hr8 hc8 hs8; have HRE8 := Lib.hid hr8; have HC8 := Lib.hid (hc8 _ _ HC7.out (fun _ => Or.inr (Or.inr rfl))); have HCx := Lib.hid (hc8 (· = w5.heap.size) w7 (Chg.refl _ _) (fun _ => rfl)); have HRC8 := Lib.hid (HRC7.out.chg HCx.out (by have := HG5.out; omega)); have HRO8 := Lib.hid (HRO7.out.chg HCx.out (by have := HG5.out; have := HG3.out; have := HG2.out; omega)); clear hr8 hc8 hs8) | ((with_reducible show wpList _ _ _ (⟨some 32, .load 68 _, _, _, _, _⟩ :: _) _ _); refine wpList_load_Row rfl rfl rfl HRC8.out Try.underlying68 rfl (by rw [u8s_length, HCL.out]; exact size47) ?_) | (go_at_call 39; refine (oneMore_any (ctrN first (k / 16)) _ HCL.out HCB.out).mono ?_; rintro e w9 ⟨rfl, hc9⟩; have HC9 := Lib.hid (HC8.out.trans (hc9.mono (fun _ _ h => h.elim))); have HRE9 := Lib.hid (HRE8.out.chg hc9 (fun h => h)); have HRC9 := Lib.hid (HRC8.out.chg hc9 (fun h => h)); have HRO9 := Lib.hid (HRO8.out.chg hc9 (fun h => h)); clear hc9) | ((with_reducible show wpList _ _ _ (⟨_, .store 68 _ (.tmp 33), _, _, _, _⟩ :: _) _ _); refine wpList_store_Row (xs := u8s (oneMore (ctrN first (k / 16)))) rfl rfl rfl HRC9.out rfl (by rw [u8s_length, u8s_length, HOL.out, HCL.out]) (by rw [u8s_length, HOL.out]; exact size47) (u8s_oneA _) ?_; intro w10 hr10 hc10 hs10; have HRC10 := Lib.hid hr10; have HC10 := Lib.hid (hc10 _ _ HC9.out (fun _ => Or.inr (Or.inl rfl))); have HCy := Lib.hid (hc10 (· = w3.heap.size) w9 (Chg.refl _ _) (fun _ => rfl)); have HRE10 := Lib.hid (HRE9.out.chg HCy.out (by have := HG5.out; omega)); have HRO10 := Lib.hid (HRO9.out.chg HCy.out (by have := HG3.out; have := HG2.out; omega)); have cE := Row.u8 HRE10.out (i := 0) (by rw [HPL.out]; decide); have cO := Row.u8 HRO10.out (i := k) (by rw [fillN_len _ _ _ hk]; exact hlt); have fO := HRO10.out.frozen k; rw [HPA.out] at cE; clear hr10 hc10 hs10))
        go_roundw
        case rel =>
          refine ⟨k + 1, cipherN key (ctrN first (k / 16)), by omega, by go_num, HPL.out _, ?_, ?_, ?_, ?_, ?_⟩
          · exact Lib.hid (fun _ => HEQ.out)
          · rw [HXV.out, ← HFS.out, ← u8s_set]; exact (HRO10.out).set k _
          · rw [HCT.out]; exact (HRC10.out).far HN3.out _
          · exact (HRE10.out).far HN5.out _
          · exact (HC10.out).setCell (fun _ => Or.inl rfl) _
        case measure => simp [intOf]; omega
      · have hmi : ¬ (k : Int) % 16 = 0 := by omega
        have HEk : Hid (E = cipherN key (ctrN first (k / 16))) := Lib.hid (by rw [HE.out (by omega), show (k - 1) / 16 = k / 16 from by omega])
        have HEQ : Hid (E = cipherN key (ctrN first ((k + 1 - 1) / 16))) := Lib.hid (by rw [Nat.add_sub_cancel]; exact HEk.out)
        have HCT : Hid (ctrN first ((k + 1 + 15) / 16) = ctrN first ((k + 15) / 16)) := Lib.hid (by rw [show (k + 1 + 15) / 16 = (k + 15) / 16 from by omega])
        have cE := Row.u8 HRE.out (i := k % 16) (by rw [hEl]; omega)
        have cO := Row.u8 HRO.out (i := k) (by rw [fillN_len _ _ _ hk]; exact hlt)
        have fO := HRO.out.frozen k
        have HPA : Hid (E.getD (k % 16) 0 = padAt key first k) := Lib.hid (by rw [HEk.out, padAt])
        rw [HPA.out] at cE
        clear hm HE
        go_wp2
        go_roundw
        case rel =>
          refine ⟨k + 1, E, by omega, by go_num, hEl, ?_, ?_, ?_, ?_, ?_⟩
          · exact Lib.hid (fun _ => HEQ.out)
          · rw [HXV.out, ← HFS.out, ← u8s_set]; exact (HRO.out).set k _
          · rw [HCT.out]; exact (HRC.out).far HN3.out _
          · exact (HRE.out).far HN5.out _
          · exact (HC.out).setCell (fun _ => Or.inl rfl) _
        case measure => simp [intOf]; omega
    · have hkl : k = text.length := by omega
      have HEND : Hid (fillN (fun i => text.getD i 0 ^^^ padAt key first i) text.length k = streamN key first text) := Lib.hid (by rw [hkl, fillN_all, streamN])
      have hnl : ¬ (k : Int) < (text.length : Int) := by omega
      rw [HEND.out] at HRO
      clear hk hkl hlt HEND
      go_wp2
      go_ret
      exact ⟨_, rfl, by have := HG0.out; have := HG1.out; omega, HRO.out, HCW.out.andThen HC.out (fun b h e => by have := HG0.out; have := HG1.out; have := HG2.out; have := HG3.out; have := HG5.out; omega)⟩
end Go.Proofs.Ytmimpodbmfmeiaa
