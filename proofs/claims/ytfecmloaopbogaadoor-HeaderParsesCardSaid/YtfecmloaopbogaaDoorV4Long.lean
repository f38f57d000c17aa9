/- Layer 4 (header): a long header behind its first byte. -/
import Derived.Test.YtfecmloaopbogaaDoorV4Step
namespace Go.Proofs.YtfecmloaopbogaaDoor
open Go.RowKit

set_option maxRecDepth 100000 in
set_option maxHeartbeats 1000000 in
theorem readLong0_bad (w : World) (g gh : Nat) (T : Nat → Prop) (s : St) (h : Hd) (v : Four) (x : Two_ w g gh T s h v) (size : Nat) (_hsize : size ≤ 4) (hkind : h.kind = 0) (h1 : Hd) (s1 : St) (ew : whoM h s = (h1, s1)) (m1 : Nat) (m2 : St) (em : rdByte s1 = (m1, m2)) (sr : List Nat × St) (es : rdBytes m1 m2 = sr)
    (i1 : Nat) (i2 : St) (tk : List Nat × St) (ei : rdInt sr.2 = (i1, i2)) (et : rdBytes i1 i2 = tk) (a1 : Nat) (a2 : St) (ea : rdInt tk.2 = (a1, a2)) (hq : a1 < size) :
    Calls Tryd.prog 36 #[.pointer (some ⟨g, 0, none⟩), .pointer (some ⟨gh, 0, none⟩), .int .u64 size] w fun e w' =>
      e = .returned (.tuple #[]) ∧ (∃ v', Two_ w' g gh T (failSt 3 a2) { h1 with src := sr.1, token := tk.1 } v') ∧ Chg (fun b => b = g ∨ b = gh) w w' := by
  have HW := Lib.hid (readWhose_any w g gh T s h v x)
  rw [ew] at HW
  have hk1 : h1.kind = 0 := by rw [← hkind, show h1 = (whoM h s).1 from by rw [ew]]; rfl
  have EM := Lib.hid em
  have ES := Lib.hid es
  have EA := Lib.hid ea
  have EI := Lib.hid ei
  have ET := Lib.hid et
  clear x ew em es ea hkind ei et
  go_enter Tryd.func36, Tryd.ntmps36
  go_wp2_with fail
  refine wp_scope_fwd 0 rfl ?_
  go_wp2_with fail
  refine HW.out.mono ?_
  rintro e w1 ⟨rfl, ⟨A1, c1, x1⟩, hc1⟩
  try simp only at x1
  have HT1 := Lib.hid x1
  have HC1 := Lib.hid hc1
  clear x1 hc1 HW
  go_wp2_with fail
  refine (byte_two HT1.out).mono ?_
  have hm256 := (rdByte_mem s1 HT1.out.rd.2).1
  rw [EM.out] at hm256 ⊢
  try simp only at hm256
  rintro e w2 ⟨rfl, x2, hc2⟩
  try simp only at x2
  have hwm : IntKind.u64.wrap ((m1 : Nat) : Int) = (m1 : Int) := IntWalk.u64_in _ (by omega)
  have HT2 := Lib.hid x2
  have HC2 := Lib.hid (HC1.out.trans hc2)
  clear x2 hc2 HC1 HT1
  go_wp2_with fail
  refine (bytes_two HT2.out m1).mono ?_
  rw [ES.out]
  rintro e w3 ⟨A3, c3, rfl, b3, x3, hc3⟩
  have HT3 := Lib.hid x3
  have HB3 := Lib.hid b3
  have HC3 := Lib.hid (HC2.out.trans hc3)
  clear x3 b3 hc3 HC2 HT2
  have hk5 := HT3.out.row.cell 5
  have hf5 := HT3.out.row.frozen 5
  rw [cH_5] at hk5
  have hk2 := HT3.out.row.cell 2
  rw [cH_2, hk1] at hk2
  go_wp2_with fail
  have HT4 := Lib.hid (HT3.out.set5 HB3.out)
  have HC4 := Lib.hid (HC3.out.setCell (p := ⟨gh, 5, none⟩) (fun _ => .inr rfl) (.slice A3 sr.1.length c3))
  clear HT3 HB3 HC3 hk5 hf5
  generalize w3.setCell ⟨gh, 5, none⟩ (.slice A3 sr.1.length c3) = w4 at *
  clear hk2
  refine (int_two HT4.out).mono ?_
  rw [EI.out]
  rintro e w5 ⟨rfl, x5, hc5⟩
  try simp only at x5
  have HT5 := Lib.hid x5
  have HC5 := Lib.hid (HC4.out.trans hc5)
  clear x5 hc5 HC4 HT4
  go_wp2_with fail
  refine (bytes_two HT5.out i1).mono ?_
  rw [ET.out]
  rintro e w6 ⟨A6, c6, rfl, b6, x6, hc6⟩
  have HT6 := Lib.hid x6
  have HB6 := Lib.hid b6
  have HC6 := Lib.hid (HC5.out.trans hc6)
  clear x6 b6 hc6 HC5 HT5
  have hk6 := HT6.out.row.cell 6
  have hf6 := HT6.out.row.frozen 6
  rw [cH_6] at hk6
  go_wp2_with fail
  have HT7 := Lib.hid (HT6.out.set6 HB6.out)
  have HC7 := Lib.hid (HC6.out.setCell (p := ⟨gh, 6, none⟩) (fun _ => .inr rfl) (.slice A6 tk.1.length c6))
  clear HT6 HB6 HC6 hk6 hf6
  generalize w6.setCell ⟨gh, 6, none⟩ (.slice A6 tk.1.length c6) = w7 at *
  refine (int_two HT7.out).mono ?_
  have ha62 := rdInt_lt tk.2 HT7.out.rd.2
  rw [EA.out] at ha62 ⊢
  try simp only at ha62
  rintro e w8 ⟨rfl, x8, hc8⟩
  try simp only at x8
  have HT8 := Lib.hid x8
  have HC8 := Lib.hid (HC7.out.trans hc8)
  clear x8 hc8 HC7 HT7
  go_wp2_with fail
  go_step3
  simp only [Exit.then]
  refine jump_fwd ?_
  go_wp2_with fail
  refine (fail_two HT8.out 3).mono ?_
  rintro e w9 ⟨rfl, x9, hc9⟩
  go_wp2_with fail
  rw [Exit.noGoto_normal]
  go_end0
  exact ⟨rfl, ⟨_, x9⟩, HC8.out.trans hc9⟩

set_option maxRecDepth 100000 in
set_option maxHeartbeats 1000000 in
theorem readLong0_short (w : World) (g gh : Nat) (T : Nat → Prop) (s : St) (h : Hd) (v : Four) (x : Two_ w g gh T s h v) (size : Nat) (_hsize : size ≤ 4) (hkind : h.kind = 0) (h1 : Hd) (s1 : St) (ew : whoM h s = (h1, s1)) (m1 : Nat) (m2 : St) (em : rdByte s1 = (m1, m2)) (sr : List Nat × St) (es : rdBytes m1 m2 = sr)
    (i1 : Nat) (i2 : St) (tk : List Nat × St) (ei : rdInt sr.2 = (i1, i2)) (et : rdBytes i1 i2 = tk) (a1 : Nat) (a2 : St) (ea : rdInt tk.2 = (a1, a2)) (hq : ¬ a1 < size) (hq2 : a2.1.length < a1) :
    Calls Tryd.prog 36 #[.pointer (some ⟨g, 0, none⟩), .pointer (some ⟨gh, 0, none⟩), .int .u64 size] w fun e w' =>
      e = .returned (.tuple #[]) ∧ (∃ v', Two_ w' g gh T (failSt 2 a2) { h1 with src := sr.1, token := tk.1 } v') ∧ Chg (fun b => b = g ∨ b = gh) w w' := by
  have HW := Lib.hid (readWhose_any w g gh T s h v x)
  rw [ew] at HW
  have hk1 : h1.kind = 0 := by rw [← hkind, show h1 = (whoM h s).1 from by rw [ew]]; rfl
  have EM := Lib.hid em
  have ES := Lib.hid es
  have EA := Lib.hid ea
  have EI := Lib.hid ei
  have ET := Lib.hid et
  clear x ew em es ea hkind ei et
  go_enter Tryd.func36, Tryd.ntmps36
  go_wp2_with fail
  refine wp_scope_fwd 1 rfl ?_
  go_wp2_with fail
  refine HW.out.mono ?_
  rintro e w1 ⟨rfl, ⟨A1, c1, x1⟩, hc1⟩
  try simp only at x1
  have HT1 := Lib.hid x1
  have HC1 := Lib.hid hc1
  clear x1 hc1 HW
  go_wp2_with fail
  refine (byte_two HT1.out).mono ?_
  have hm256 := (rdByte_mem s1 HT1.out.rd.2).1
  rw [EM.out] at hm256 ⊢
  try simp only at hm256
  rintro e w2 ⟨rfl, x2, hc2⟩
  try simp only at x2
  have hwm : IntKind.u64.wrap ((m1 : Nat) : Int) = (m1 : Int) := IntWalk.u64_in _ (by omega)
  have HT2 := Lib.hid x2
  have HC2 := Lib.hid (HC1.out.trans hc2)
  clear x2 hc2 HC1 HT1
  go_wp2_with fail
  refine (bytes_two HT2.out m1).mono ?_
  rw [ES.out]
  rintro e w3 ⟨A3, c3, rfl, b3, x3, hc3⟩
  have HT3 := Lib.hid x3
  have HB3 := Lib.hid b3
  have HC3 := Lib.hid (HC2.out.trans hc3)
  clear x3 b3 hc3 HC2 HT2
  have hk5 := HT3.out.row.cell 5
  have hf5 := HT3.out.row.frozen 5
  rw [cH_5] at hk5
  have hk2 := HT3.out.row.cell 2
  rw [cH_2, hk1] at hk2
  go_wp2_with fail
  have HT4 := Lib.hid (HT3.out.set5 HB3.out)
  have HC4 := Lib.hid (HC3.out.setCell (p := ⟨gh, 5, none⟩) (fun _ => .inr rfl) (.slice A3 sr.1.length c3))
  clear HT3 HB3 HC3 hk5 hf5
  generalize w3.setCell ⟨gh, 5, none⟩ (.slice A3 sr.1.length c3) = w4 at *
  clear hk2
  refine (int_two HT4.out).mono ?_
  rw [EI.out]
  rintro e w5 ⟨rfl, x5, hc5⟩
  try simp only at x5
  have HT5 := Lib.hid x5
  have HC5 := Lib.hid (HC4.out.trans hc5)
  clear x5 hc5 HC4 HT4
  go_wp2_with fail
  refine (bytes_two HT5.out i1).mono ?_
  rw [ET.out]
  rintro e w6 ⟨A6, c6, rfl, b6, x6, hc6⟩
  have HT6 := Lib.hid x6
  have HB6 := Lib.hid b6
  have HC6 := Lib.hid (HC5.out.trans hc6)
  clear x6 b6 hc6 HC5 HT5
  have hk6 := HT6.out.row.cell 6
  have hf6 := HT6.out.row.frozen 6
  rw [cH_6] at hk6
  go_wp2_with fail
  have HT7 := Lib.hid (HT6.out.set6 HB6.out)
  have HC7 := Lib.hid (HC6.out.setCell (p := ⟨gh, 6, none⟩) (fun _ => .inr rfl) (.slice A6 tk.1.length c6))
  clear HT6 HB6 HC6 hk6 hf6
  generalize w6.setCell ⟨gh, 6, none⟩ (.slice A6 tk.1.length c6) = w7 at *
  refine (int_two HT7.out).mono ?_
  have ha62 := rdInt_lt tk.2 HT7.out.rd.2
  rw [EA.out] at ha62 ⊢
  try simp only at ha62
  rintro e w8 ⟨rfl, x8, hc8⟩
  try simp only at x8
  have HT8 := Lib.hid x8
  have HC8 := Lib.hid (HC7.out.trans hc8)
  clear x8 hc8 HC7 HT7
  have hln := HT8.out.rd.len
  have hwl : IntKind.u64.wrap ((a2.1.length : Nat) : Int) = (a2.1.length : Int) := IntWalk.u64_in _ (by omega)
  go_wp2_with (go_at_call 39; refine (leftS_any w8 g T a2 HT8.out.rd).mono ?_; rintro e w9 ⟨rfl, rfl⟩)
  go_step3
  simp only [Exit.then]
  refine jump_fwd ?_
  go_wp2_with fail
  refine (fail_two HT8.out 2).mono ?_
  rintro e w9 ⟨rfl, x9, hc9⟩
  go_wp2_with fail
  rw [Exit.noGoto_ret]
  refine bodyPost_ret (results_none rfl _ _ _) rfl ?_
  exact ⟨rfl, ⟨_, x9⟩, HC8.out.trans hc9⟩

set_option maxRecDepth 100000 in
set_option maxHeartbeats 1000000 in
theorem readLong0_ok (w : World) (g gh : Nat) (T : Nat → Prop) (s : St) (h : Hd) (v : Four) (x : Two_ w g gh T s h v) (size : Nat) (hsize : size ≤ 4) (hkind : h.kind = 0) (h1 : Hd) (s1 : St) (ew : whoM h s = (h1, s1)) (m1 : Nat) (m2 : St) (em : rdByte s1 = (m1, m2)) (sr : List Nat × St) (es : rdBytes m1 m2 = sr)
    (i1 : Nat) (i2 : St) (tk : List Nat × St) (ei : rdInt sr.2 = (i1, i2)) (et : rdBytes i1 i2 = tk) (a1 : Nat) (a2 : St) (ea : rdInt tk.2 = (a1, a2)) (cu : List Nat × St) (ec : rdBytes size a2 = cu) (hq : ¬ a1 < size) (hq2 : ¬ a2.1.length < a1) :
    Calls Tryd.prog 36 #[.pointer (some ⟨g, 0, none⟩), .pointer (some ⟨gh, 0, none⟩), .int .u64 size] w fun e w' =>
      e = .returned (.tuple #[]) ∧ (∃ v', Two_ w' g gh T cu.2 { h1 with src := sr.1, token := tk.1, cut := cu.1, rest := ((a1 - size : Nat) : Int) } v') ∧ Chg (fun b => b = g ∨ b = gh) w w' := by
  have HW := Lib.hid (readWhose_any w g gh T s h v x)
  rw [ew] at HW
  have hk1 : h1.kind = 0 := by rw [← hkind, show h1 = (whoM h s).1 from by rw [ew]]; rfl
  have EM := Lib.hid em
  have ES := Lib.hid es
  have EA := Lib.hid ea
  have EI := Lib.hid ei
  have ET := Lib.hid et
  have EC := Lib.hid ec
  clear x ew em es ea hkind ei et ec
  go_enter Tryd.func36, Tryd.ntmps36
  go_wp2_with fail
  refine wp_scope_fwd 0 rfl ?_
  go_wp2_with fail
  refine HW.out.mono ?_
  rintro e w1 ⟨rfl, ⟨A1, c1, x1⟩, hc1⟩
  try simp only at x1
  have HT1 := Lib.hid x1
  have HC1 := Lib.hid hc1
  clear x1 hc1 HW
  go_wp2_with fail
  refine (byte_two HT1.out).mono ?_
  have hm256 := (rdByte_mem s1 HT1.out.rd.2).1
  rw [EM.out] at hm256 ⊢
  try simp only at hm256
  rintro e w2 ⟨rfl, x2, hc2⟩
  try simp only at x2
  have hwm : IntKind.u64.wrap ((m1 : Nat) : Int) = (m1 : Int) := IntWalk.u64_in _ (by omega)
  have HT2 := Lib.hid x2
  have HC2 := Lib.hid (HC1.out.trans hc2)
  clear x2 hc2 HC1 HT1
  go_wp2_with fail
  refine (bytes_two HT2.out m1).mono ?_
  rw [ES.out]
  rintro e w3 ⟨A3, c3, rfl, b3, x3, hc3⟩
  have HT3 := Lib.hid x3
  have HB3 := Lib.hid b3
  have HC3 := Lib.hid (HC2.out.trans hc3)
  clear x3 b3 hc3 HC2 HT2
  have hk5 := HT3.out.row.cell 5
  have hf5 := HT3.out.row.frozen 5
  rw [cH_5] at hk5
  have hk2 := HT3.out.row.cell 2
  rw [cH_2, hk1] at hk2
  go_wp2_with fail
  have HT4 := Lib.hid (HT3.out.set5 HB3.out)
  have HC4 := Lib.hid (HC3.out.setCell (p := ⟨gh, 5, none⟩) (fun _ => .inr rfl) (.slice A3 sr.1.length c3))
  clear HT3 HB3 HC3 hk5 hf5
  generalize w3.setCell ⟨gh, 5, none⟩ (.slice A3 sr.1.length c3) = w4 at *
  clear hk2
  refine (int_two HT4.out).mono ?_
  rw [EI.out]
  rintro e w5 ⟨rfl, x5, hc5⟩
  try simp only at x5
  have HT5 := Lib.hid x5
  have HC5 := Lib.hid (HC4.out.trans hc5)
  clear x5 hc5 HC4 HT4
  go_wp2_with fail
  refine (bytes_two HT5.out i1).mono ?_
  rw [ET.out]
  rintro e w6 ⟨A6, c6, rfl, b6, x6, hc6⟩
  have HT6 := Lib.hid x6
  have HB6 := Lib.hid b6
  have HC6 := Lib.hid (HC5.out.trans hc6)
  clear x6 b6 hc6 HC5 HT5
  have hk6 := HT6.out.row.cell 6
  have hf6 := HT6.out.row.frozen 6
  rw [cH_6] at hk6
  go_wp2_with fail
  have HT7 := Lib.hid (HT6.out.set6 HB6.out)
  have HC7 := Lib.hid (HC6.out.setCell (p := ⟨gh, 6, none⟩) (fun _ => .inr rfl) (.slice A6 tk.1.length c6))
  clear HT6 HB6 HC6 hk6 hf6
  generalize w6.setCell ⟨gh, 6, none⟩ (.slice A6 tk.1.length c6) = w7 at *
  refine (int_two HT7.out).mono ?_
  have ha62 := rdInt_lt tk.2 HT7.out.rd.2
  rw [EA.out] at ha62 ⊢
  try simp only at ha62
  rintro e w8 ⟨rfl, x8, hc8⟩
  try simp only at x8
  have HT8 := Lib.hid x8
  have HC8 := Lib.hid (HC7.out.trans hc8)
  clear x8 hc8 HC7 HT7
  have hln := HT8.out.rd.len
  have hwl : IntKind.u64.wrap ((a2.1.length : Nat) : Int) = (a2.1.length : Int) := IntWalk.u64_in _ (by omega)
  have hws : IntKind.u64.wrap ((size : Nat) : Int) = (size : Int) := IntWalk.u64_in _ (by omega)
  have hwd : (a1 : Int) - (size : Int) = ((a1 - size : Nat) : Int) := by omega
  go_wp2_with (go_at_call 39; refine (leftS_any w8 g T a2 HT8.out.rd).mono ?_; rintro e w9 ⟨rfl, rfl⟩)
  refine (bytes_two HT8.out size).mono ?_
  rw [EC.out]
  rintro e w9 ⟨A9, c9, rfl, b9, x9, hc9⟩
  have HT9 := Lib.hid x9
  have HB9 := Lib.hid b9
  have HC9 := Lib.hid (HC8.out.trans hc9)
  clear x9 b9 hc9 HC8 HT8
  have hk7 := HT9.out.row.cell 7
  have hf7 := HT9.out.row.frozen 7
  rw [cH_7] at hk7
  have hk8 := HT9.out.row.cell 8
  have hf8 := HT9.out.row.frozen 8
  rw [cH_8] at hk8
  go_wp2_with fail
  rw [jump_ret]
  refine bodyPost_ret (results_none rfl _ _ _) rfl ?_
  exact ⟨rfl, ⟨_, (HT9.out.set7 HB9.out).set8 _⟩, (HC9.out.setCell (p := ⟨gh, 7, none⟩) (fun _ => .inr rfl) _).setCell (p := ⟨gh, 8, none⟩) (fun _ => .inr rfl) _⟩

set_option maxRecDepth 100000 in
set_option maxHeartbeats 1000000 in
theorem readLong2_bad (w : World) (g gh : Nat) (T : Nat → Prop) (s : St) (h : Hd) (v : Four) (x : Two_ w g gh T s h v) (size : Nat) (_hsize : size ≤ 4) (hkind : h.kind = 2) (h1 : Hd) (s1 : St) (ew : whoM h s = (h1, s1)) (m1 : Nat) (m2 : St) (em : rdByte s1 = (m1, m2)) (sr : List Nat × St) (es : rdBytes m1 m2 = sr)
    (a1 : Nat) (a2 : St) (ea : rdInt sr.2 = (a1, a2)) (hq : a1 < size) :
    Calls Tryd.prog 36 #[.pointer (some ⟨g, 0, none⟩), .pointer (some ⟨gh, 0, none⟩), .int .u64 size] w fun e w' =>
      e = .returned (.tuple #[]) ∧ (∃ v', Two_ w' g gh T (failSt 3 a2) { h1 with src := sr.1 } v') ∧ Chg (fun b => b = g ∨ b = gh) w w' := by
  have HW := Lib.hid (readWhose_any w g gh T s h v x)
  rw [ew] at HW
  have hk1 : h1.kind = 2 := by rw [← hkind, show h1 = (whoM h s).1 from by rw [ew]]; rfl
  have EM := Lib.hid em
  have ES := Lib.hid es
  have EA := Lib.hid ea
  clear x ew em es ea hkind
  go_enter Tryd.func36, Tryd.ntmps36
  go_wp2_with fail
  refine wp_scope_fwd 0 rfl ?_
  go_wp2_with fail
  refine HW.out.mono ?_
  rintro e w1 ⟨rfl, ⟨A1, c1, x1⟩, hc1⟩
  try simp only at x1
  have HT1 := Lib.hid x1
  have HC1 := Lib.hid hc1
  clear x1 hc1 HW
  go_wp2_with fail
  refine (byte_two HT1.out).mono ?_
  have hm256 := (rdByte_mem s1 HT1.out.rd.2).1
  rw [EM.out] at hm256 ⊢
  try simp only at hm256
  rintro e w2 ⟨rfl, x2, hc2⟩
  try simp only at x2
  have hwm : IntKind.u64.wrap ((m1 : Nat) : Int) = (m1 : Int) := IntWalk.u64_in _ (by omega)
  have HT2 := Lib.hid x2
  have HC2 := Lib.hid (HC1.out.trans hc2)
  clear x2 hc2 HC1 HT1
  go_wp2_with fail
  refine (bytes_two HT2.out m1).mono ?_
  rw [ES.out]
  rintro e w3 ⟨A3, c3, rfl, b3, x3, hc3⟩
  have HT3 := Lib.hid x3
  have HB3 := Lib.hid b3
  have HC3 := Lib.hid (HC2.out.trans hc3)
  clear x3 b3 hc3 HC2 HT2
  have hk5 := HT3.out.row.cell 5
  have hf5 := HT3.out.row.frozen 5
  rw [cH_5] at hk5
  have hk2 := HT3.out.row.cell 2
  rw [cH_2, hk1] at hk2
  go_wp2_with fail
  have HT4 := Lib.hid (HT3.out.set5 HB3.out)
  have HC4 := Lib.hid (HC3.out.setCell (p := ⟨gh, 5, none⟩) (fun _ => .inr rfl) (.slice A3 sr.1.length c3))
  clear HT3 HB3 HC3 hk5 hf5
  generalize w3.setCell ⟨gh, 5, none⟩ (.slice A3 sr.1.length c3) = w4 at *
  clear hk2
  refine (int_two HT4.out).mono ?_
  have ha62 := rdInt_lt sr.2 HT4.out.rd.2
  rw [EA.out] at ha62 ⊢
  try simp only at ha62
  rintro e w8 ⟨rfl, x8, hc8⟩
  try simp only at x8
  have HT8 := Lib.hid x8
  have HC8 := Lib.hid (HC4.out.trans hc8)
  clear x8 hc8 HC4 HT4
  go_wp2_with fail
  go_step3
  simp only [Exit.then]
  refine jump_fwd ?_
  go_wp2_with fail
  refine (fail_two HT8.out 3).mono ?_
  rintro e w9 ⟨rfl, x9, hc9⟩
  go_wp2_with fail
  rw [Exit.noGoto_normal]
  go_end0
  exact ⟨rfl, ⟨_, x9⟩, HC8.out.trans hc9⟩

set_option maxRecDepth 100000 in
set_option maxHeartbeats 1000000 in
theorem readLong2_short (w : World) (g gh : Nat) (T : Nat → Prop) (s : St) (h : Hd) (v : Four) (x : Two_ w g gh T s h v) (size : Nat) (_hsize : size ≤ 4) (hkind : h.kind = 2) (h1 : Hd) (s1 : St) (ew : whoM h s = (h1, s1)) (m1 : Nat) (m2 : St) (em : rdByte s1 = (m1, m2)) (sr : List Nat × St) (es : rdBytes m1 m2 = sr)
    (a1 : Nat) (a2 : St) (ea : rdInt sr.2 = (a1, a2)) (hq : ¬ a1 < size) (hq2 : a2.1.length < a1) :
    Calls Tryd.prog 36 #[.pointer (some ⟨g, 0, none⟩), .pointer (some ⟨gh, 0, none⟩), .int .u64 size] w fun e w' =>
      e = .returned (.tuple #[]) ∧ (∃ v', Two_ w' g gh T (failSt 2 a2) { h1 with src := sr.1 } v') ∧ Chg (fun b => b = g ∨ b = gh) w w' := by
  have HW := Lib.hid (readWhose_any w g gh T s h v x)
  rw [ew] at HW
  have hk1 : h1.kind = 2 := by rw [← hkind, show h1 = (whoM h s).1 from by rw [ew]]; rfl
  have EM := Lib.hid em
  have ES := Lib.hid es
  have EA := Lib.hid ea
  clear x ew em es ea hkind
  go_enter Tryd.func36, Tryd.ntmps36
  go_wp2_with fail
  refine wp_scope_fwd 1 rfl ?_
  go_wp2_with fail
  refine HW.out.mono ?_
  rintro e w1 ⟨rfl, ⟨A1, c1, x1⟩, hc1⟩
  try simp only at x1
  have HT1 := Lib.hid x1
  have HC1 := Lib.hid hc1
  clear x1 hc1 HW
  go_wp2_with fail
  refine (byte_two HT1.out).mono ?_
  have hm256 := (rdByte_mem s1 HT1.out.rd.2).1
  rw [EM.out] at hm256 ⊢
  try simp only at hm256
  rintro e w2 ⟨rfl, x2, hc2⟩
  try simp only at x2
  have hwm : IntKind.u64.wrap ((m1 : Nat) : Int) = (m1 : Int) := IntWalk.u64_in _ (by omega)
  have HT2 := Lib.hid x2
  have HC2 := Lib.hid (HC1.out.trans hc2)
  clear x2 hc2 HC1 HT1
  go_wp2_with fail
  refine (bytes_two HT2.out m1).mono ?_
  rw [ES.out]
  rintro e w3 ⟨A3, c3, rfl, b3, x3, hc3⟩
  have HT3 := Lib.hid x3
  have HB3 := Lib.hid b3
  have HC3 := Lib.hid (HC2.out.trans hc3)
  clear x3 b3 hc3 HC2 HT2
  have hk5 := HT3.out.row.cell 5
  have hf5 := HT3.out.row.frozen 5
  rw [cH_5] at hk5
  have hk2 := HT3.out.row.cell 2
  rw [cH_2, hk1] at hk2
  go_wp2_with fail
  have HT4 := Lib.hid (HT3.out.set5 HB3.out)
  have HC4 := Lib.hid (HC3.out.setCell (p := ⟨gh, 5, none⟩) (fun _ => .inr rfl) (.slice A3 sr.1.length c3))
  clear HT3 HB3 HC3 hk5 hf5
  generalize w3.setCell ⟨gh, 5, none⟩ (.slice A3 sr.1.length c3) = w4 at *
  clear hk2
  refine (int_two HT4.out).mono ?_
  have ha62 := rdInt_lt sr.2 HT4.out.rd.2
  rw [EA.out] at ha62 ⊢
  try simp only at ha62
  rintro e w8 ⟨rfl, x8, hc8⟩
  try simp only at x8
  have HT8 := Lib.hid x8
  have HC8 := Lib.hid (HC4.out.trans hc8)
  clear x8 hc8 HC4 HT4
  have hln := HT8.out.rd.len
  have hwl : IntKind.u64.wrap ((a2.1.length : Nat) : Int) = (a2.1.length : Int) := IntWalk.u64_in _ (by omega)
  go_wp2_with (go_at_call 39; refine (leftS_any w8 g T a2 HT8.out.rd).mono ?_; rintro e w9 ⟨rfl, rfl⟩)
  go_step3
  simp only [Exit.then]
  refine jump_fwd ?_
  go_wp2_with fail
  refine (fail_two HT8.out 2).mono ?_
  rintro e w9 ⟨rfl, x9, hc9⟩
  go_wp2_with fail
  rw [Exit.noGoto_ret]
  refine bodyPost_ret (results_none rfl _ _ _) rfl ?_
  exact ⟨rfl, ⟨_, x9⟩, HC8.out.trans hc9⟩

set_option maxRecDepth 100000 in
set_option maxHeartbeats 1000000 in
theorem readLong2_ok (w : World) (g gh : Nat) (T : Nat → Prop) (s : St) (h : Hd) (v : Four) (x : Two_ w g gh T s h v) (size : Nat) (hsize : size ≤ 4) (hkind : h.kind = 2) (h1 : Hd) (s1 : St) (ew : whoM h s = (h1, s1)) (m1 : Nat) (m2 : St) (em : rdByte s1 = (m1, m2)) (sr : List Nat × St) (es : rdBytes m1 m2 = sr)
    (a1 : Nat) (a2 : St) (ea : rdInt sr.2 = (a1, a2)) (cu : List Nat × St) (ec : rdBytes size a2 = cu) (hq : ¬ a1 < size) (hq2 : ¬ a2.1.length < a1) :
    Calls Tryd.prog 36 #[.pointer (some ⟨g, 0, none⟩), .pointer (some ⟨gh, 0, none⟩), .int .u64 size] w fun e w' =>
      e = .returned (.tuple #[]) ∧ (∃ v', Two_ w' g gh T cu.2 { h1 with src := sr.1, cut := cu.1, rest := ((a1 - size : Nat) : Int) } v') ∧ Chg (fun b => b = g ∨ b = gh) w w' := by
  have HW := Lib.hid (readWhose_any w g gh T s h v x)
  rw [ew] at HW
  have hk1 : h1.kind = 2 := by rw [← hkind, show h1 = (whoM h s).1 from by rw [ew]]; rfl
  have EM := Lib.hid em
  have ES := Lib.hid es
  have EA := Lib.hid ea
  have EC := Lib.hid ec
  clear x ew em es ea hkind ec
  go_enter Tryd.func36, Tryd.ntmps36
  go_wp2_with fail
  refine wp_scope_fwd 0 rfl ?_
  go_wp2_with fail
  refine HW.out.mono ?_
  rintro e w1 ⟨rfl, ⟨A1, c1, x1⟩, hc1⟩
  try simp only at x1
  have HT1 := Lib.hid x1
  have HC1 := Lib.hid hc1
  clear x1 hc1 HW
  go_wp2_with fail
  refine (byte_two HT1.out).mono ?_
  have hm256 := (rdByte_mem s1 HT1.out.rd.2).1
  rw [EM.out] at hm256 ⊢
  try simp only at hm256
  rintro e w2 ⟨rfl, x2, hc2⟩
  try simp only at x2
  have hwm : IntKind.u64.wrap ((m1 : Nat) : Int) = (m1 : Int) := IntWalk.u64_in _ (by omega)
  have HT2 := Lib.hid x2
  have HC2 := Lib.hid (HC1.out.trans hc2)
  clear x2 hc2 HC1 HT1
  go_wp2_with fail
  refine (bytes_two HT2.out m1).mono ?_
  rw [ES.out]
  rintro e w3 ⟨A3, c3, rfl, b3, x3, hc3⟩
  have HT3 := Lib.hid x3
  have HB3 := Lib.hid b3
  have HC3 := Lib.hid (HC2.out.trans hc3)
  clear x3 b3 hc3 HC2 HT2
  have hk5 := HT3.out.row.cell 5
  have hf5 := HT3.out.row.frozen 5
  rw [cH_5] at hk5
  have hk2 := HT3.out.row.cell 2
  rw [cH_2, hk1] at hk2
  go_wp2_with fail
  have HT4 := Lib.hid (HT3.out.set5 HB3.out)
  have HC4 := Lib.hid (HC3.out.setCell (p := ⟨gh, 5, none⟩) (fun _ => .inr rfl) (.slice A3 sr.1.length c3))
  clear HT3 HB3 HC3 hk5 hf5
  generalize w3.setCell ⟨gh, 5, none⟩ (.slice A3 sr.1.length c3) = w4 at *
  clear hk2
  refine (int_two HT4.out).mono ?_
  have ha62 := rdInt_lt sr.2 HT4.out.rd.2
  rw [EA.out] at ha62 ⊢
  try simp only at ha62
  rintro e w8 ⟨rfl, x8, hc8⟩
  try simp only at x8
  have HT8 := Lib.hid x8
  have HC8 := Lib.hid (HC4.out.trans hc8)
  clear x8 hc8 HC4 HT4
  have hln := HT8.out.rd.len
  have hwl : IntKind.u64.wrap ((a2.1.length : Nat) : Int) = (a2.1.length : Int) := IntWalk.u64_in _ (by omega)
  have hws : IntKind.u64.wrap ((size : Nat) : Int) = (size : Int) := IntWalk.u64_in _ (by omega)
  have hwd : (a1 : Int) - (size : Int) = ((a1 - size : Nat) : Int) := by omega
  go_wp2_with (go_at_call 39; refine (leftS_any w8 g T a2 HT8.out.rd).mono ?_; rintro e w9 ⟨rfl, rfl⟩)
  refine (bytes_two HT8.out size).mono ?_
  rw [EC.out]
  rintro e w9 ⟨A9, c9, rfl, b9, x9, hc9⟩
  have HT9 := Lib.hid x9
  have HB9 := Lib.hid b9
  have HC9 := Lib.hid (HC8.out.trans hc9)
  clear x9 b9 hc9 HC8 HT8
  have hk7 := HT9.out.row.cell 7
  have hf7 := HT9.out.row.frozen 7
  rw [cH_7] at hk7
  have hk8 := HT9.out.row.cell 8
  have hf8 := HT9.out.row.frozen 8
  rw [cH_8] at hk8
  go_wp2_with fail
  rw [jump_ret]
  refine bodyPost_ret (results_none rfl _ _ _) rfl ?_
  exact ⟨rfl, ⟨_, (HT9.out.set7 HB9.out).set8 _⟩, (HC9.out.setCell (p := ⟨gh, 7, none⟩) (fun _ => .inr rfl) _).setCell (p := ⟨gh, 8, none⟩) (fun _ => .inr rfl) _⟩

end Go.Proofs.YtfecmloaopbogaaDoor
