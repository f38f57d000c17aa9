/- Layer 4 (header): Parse, by the document's answer. -/
import Derived.Test.YtfecmloaopbogaaDoorV4RTwo
import Derived.Test.YtfecmloaopbogaaDoorV4Parse
namespace Go.Proofs.YtfecmloaopbogaaDoor
open Go.RowKit

/-- The three headers and the reader, just made. -/
theorem rmade (w : World) (A : Option Addr) (c : Nat) (b : List Nat) (hv : View w (fun _ => True) A b.length (u8s b)) (hm : b.length ≤ 1000000) (hcap : b.length ≤ c) (hb : ∀ x ∈ b, x < 256) (W : World)
    (hW : W = (((w.alloc (.cells (cellsH {} nil4).toArray 25)).alloc (.cells (cellsH {} nil4).toArray 25)).alloc (.cells (cellsH {} nil4).toArray 25)).alloc (.cells [.slice A b.length c, .int .i64 0, .int .i64 0].toArray 60)) :
    RTwo W (w.heap.size + 1 + 1 + 1) (w.heap.size + 1) (fun k => k < w.heap.size) b (b, 0) {} nil4 ∧ Row W w.heap.size 25 (cellsH {} nil4) ∧ Row W (w.heap.size + 1 + 1) 25 (cellsH {} nil4) ∧ Chg none_ w W := by
  subst hW
  have hc : Chg none_ w ((((w.alloc (.cells (cellsH {} nil4).toArray 25)).alloc (.cells (cellsH {} nil4).toArray 25)).alloc (.cells (cellsH {} nil4).toArray 25)).alloc (.cells [.slice A b.length c, .int .i64 0, .int .i64 0].toArray 60)) := ((((Chg.refl none_ w).alloc _).alloc _).alloc _).alloc _
  refine ⟨⟨⟨0, ⟨A, c, ?_, hcap, Nat.zero_le _, hm, ?_⟩, fun _ => rfl, fun q => absurd rfl q, hb⟩, ?_, by omega, by omega, by omega, nil4_d _ _⟩, ?_, ?_, hc⟩
  · have q := Row.new (((w.alloc (.cells (cellsH {} nil4).toArray 25)).alloc (.cells (cellsH {} nil4).toArray 25)).alloc (.cells (cellsH {} nil4).toArray 25)) 60 [.slice A b.length c, .int .i64 0, .int .i64 0]
    simpa using q
  · exact (hv.mono (fun k hk _ => hk)).chg hc (fun _ _ h => h)
  · exact ((Row.new1 (w.alloc (.cells (cellsH {} nil4).toArray 25)) (.cells (cellsH {} nil4).toArray 25) 25 (cellsH {} nil4)).alloc _) |> fun q => by simpa using q
  · exact ((Row.new1 w (.cells (cellsH {} nil4).toArray 25) 25 (cellsH {} nil4)).alloc _).alloc _
  · have q := (Row.new ((w.alloc (.cells (cellsH {} nil4).toArray 25)).alloc (.cells (cellsH {} nil4).toArray 25)) 25 (cellsH {} nil4)).alloc (.cells [.slice A b.length c, .int .i64 0, .int .i64 0].toArray 60)
    simpa using q

set_option maxRecDepth 100000 in
set_option maxHeartbeats 1000000 in
theorem rparse_low (w : World) (A : Option Addr) (c : Nat) (b : List Nat) (hv : View w (fun _ => True) A b.length (u8s b)) (hm : b.length ≤ 1000000) (hcap : b.length ≤ c) (hb : ∀ x ∈ b, x < 256) (f : Nat) (s : St) (ef : rdByte (b, 0) = (f, s)) (hne : 0 < b.length) (hq : f / 64 % 2 = 0) :
    Calls Tryd.prog 20 #[.slice A b.length c] w (ParsePost w {} 0 3) := by
  have EF := Lib.hid ef
  have hn0 : ((b.length : Nat) : Int) ≠ 0 := by omega
  clear ef
  have HVV := Lib.hid hv
  have HBB := Lib.hid hb
  clear hv hb
  go_enter Tryd.func20, Tryd.ntmps20
  go_wp2_with fail
  obtain ⟨x1, rr1, rz1, cc1⟩ := rmade w A c b HVV.out hm hcap HBB.out _ rfl
  have HT1 := Lib.hid x1
  have HR1 := Lib.hid rr1
  have HZ1 := Lib.hid rz1
  have HC1 := Lib.hid cc1
  clear x1 rr1 rz1 cc1
  refine (byte_rtwo HT1.out).mono ?_
  have hf256 := (rdByte_mem (b, 0) HT1.out.rd.mem).1
  rw [EF.out] at hf256 ⊢
  try simp only at hf256
  rintro e w2 ⟨rfl, x2, hc2⟩
  try simp only at x2
  have HT2 := Lib.hid x2
  have HR2 := Lib.hid (HR1.out.chg hc2 (fun e => by omega))
  have HZ2 := Lib.hid (HZ1.out.chg hc2 (fun e => by omega))
  have HC2 := Lib.hid (chg_up HC1.out hc2 (by omega) (by omega))
  clear x2 hc2 HT1 HR1 HZ1 HC1
  have hi1 : ((f : Int) / 64 % 2) = 0 := by omega
  go_wp2_with (first | ((with_reducible show wpList _ _ _ (⟨_, .load 25 (.tmp 6), _, _, _, _⟩ :: _) _ _); refine wlH rfl rfl rfl HZ2.out rfl ?_) | ((with_reducible show wpList _ _ _ (⟨_, .store 25 _ _, _, _, _, _⟩ :: _) _ _); refine wpList_store_Row (xs := cellsH {} nil4) rfl rfl rfl HR2.out rfl rfl (by exact sizeH) rfl ?_; intro w11 hr11 hch11 _; have HC11 := Lib.hid (hch11 none_ w HC2.out (fun h => absurd h (Nat.lt_irrefl _))); have HR11 := Lib.hid hr11; clear hr11 hch11))
  refine ret_row3 rfl rfl HR11.out Tryd.underlying25 rfl sizeH rfl ?_
  exact ⟨nil4, rfl, nil4_d _ _, HC11.out⟩

set_option maxRecDepth 100000 in
set_option maxHeartbeats 1000000 in
theorem rparse_nil (w : World) (A : Option Addr) (c : Nat) (b : List Nat) (hv : View w (fun _ => True) A b.length (u8s b)) (hm : b.length ≤ 1000000) (hcap : b.length ≤ c) (hb : ∀ x ∈ b, x < 256) (hq : b.length = 0) :
    Calls Tryd.prog 20 #[.slice A b.length c] w (ParsePost w {} 0 2) := by
  have hn0 : ((b.length : Nat) : Int) = 0 := by omega
  have HC3 : Hid (Chg none_ w (((w.alloc (.cells (cellsH {} nil4).toArray 25)).alloc (.cells (cellsH {} nil4).toArray 25)).alloc (.cells (cellsH {} nil4).toArray 25))) := (((Chg.refl none_ w).alloc _).alloc _).alloc _
  have HR3 : Hid (Row (((w.alloc (.cells (cellsH {} nil4).toArray 25)).alloc (.cells (cellsH {} nil4).toArray 25)).alloc (.cells (cellsH {} nil4).toArray 25)) w.heap.size 25 (cellsH {} nil4)) := (Row.new1 w (.cells (cellsH {} nil4).toArray 25) 25 (cellsH {} nil4)).alloc _
  have HZ3 : Hid (Row (((w.alloc (.cells (cellsH {} nil4).toArray 25)).alloc (.cells (cellsH {} nil4).toArray 25)).alloc (.cells (cellsH {} nil4).toArray 25)) (w.heap.size + 1 + 1) 25 (cellsH {} nil4)) := by
    have q := Row.new ((w.alloc (.cells (cellsH {} nil4).toArray 25)).alloc (.cells (cellsH {} nil4).toArray 25)) 25 (cellsH {} nil4)
    show Row _ _ _ _
    simpa using q
  rw [hq]
  clear hv hm hb hcap hq
  go_enter Tryd.func20, Tryd.ntmps20
  go_wp2_with fail
  refine ret_row3 rfl rfl HR3.out Tryd.underlying25 rfl sizeH rfl ?_
  exact ⟨nil4, rfl, nil4_d _ _, HC3.out⟩

set_option maxRecDepth 100000 in
set_option maxHeartbeats 1000000 in
theorem rparse_szero (w : World) (A : Option Addr) (c : Nat) (b : List Nat) (hv : View w (fun _ => True) A b.length (u8s b)) (hm : b.length ≤ 1000000) (hcap : b.length ≤ c) (hb : ∀ x ∈ b, x < 256) (f : Nat) (s : St) (ef : rdByte (b, 0) = (f, s)) (hne : 0 < b.length) (h64 : f / 64 % 2 = 1) (hl : f < 128) (hq : ¬ f / 8 % 8 = 0) :
    Calls Tryd.prog 20 #[.slice A b.length c] w (ParsePost w {} 0 3) := by
  have EF := Lib.hid ef
  have hn0 : ((b.length : Nat) : Int) ≠ 0 := by omega
  clear ef
  have HVV := Lib.hid hv
  have HBB := Lib.hid hb
  clear hv hb
  go_enter Tryd.func20, Tryd.ntmps20
  go_wp2_with fail
  obtain ⟨x1, rr1, rz1, cc1⟩ := rmade w A c b HVV.out hm hcap HBB.out _ rfl
  have HT1 := Lib.hid x1
  have HR1 := Lib.hid rr1
  have HZ1 := Lib.hid rz1
  have HC1 := Lib.hid cc1
  clear x1 rr1 rz1 cc1
  refine (byte_rtwo HT1.out).mono ?_
  have hf256 := (rdByte_mem (b, 0) HT1.out.rd.mem).1
  rw [EF.out] at hf256 ⊢
  try simp only at hf256
  rintro e w2 ⟨rfl, x2, hc2⟩
  try simp only at x2
  have HT2 := Lib.hid x2
  have HR2 := Lib.hid (HR1.out.chg hc2 (fun e => by omega))
  have HZ2 := Lib.hid (HZ1.out.chg hc2 (fun e => by omega))
  have HC2 := Lib.hid (chg_up HC1.out hc2 (by omega) (by omega))
  clear x2 hc2 HT1 HR1 HZ1 HC1
  have hi1 : ((f : Int) / 64 % 2) = 1 := by omega
  have hi8 : ¬ ((f : Int) / 8 % 8) = 0 := by omega
  have hli : ¬ ((128 : Int) ≤ (f : Int)) := by omega
  have hdd : decide ((128 : Int) ≤ (f : Int)) = false := decide_eq_false hli
  have hk0 := HT2.out.row.cell 0
  have hf0 := HT2.out.row.frozen 0
  rw [cH_0] at hk0
  have HR3 := Lib.hid (HR2.out.far (p := ⟨w.heap.size + 1, 0, none⟩) (by simp) (.bool false))
  have HZ3 := Lib.hid (HZ2.out.far (p := ⟨w.heap.size + 1, 0, none⟩) (by simp) (.bool false))
  have HC3 := Lib.hid (HC2.out.setCell (p := ⟨w.heap.size + 1, 0, none⟩) (fun h => absurd h (by simp)) (.bool false))
  go_wp2_with (first | ((with_reducible show wpList _ _ _ (⟨_, .load 25 (.tmp 6), _, _, _, _⟩ :: _) _ _); refine wlH rfl rfl rfl HZ3.out rfl ?_) | ((with_reducible show wpList _ _ _ (⟨_, .store 25 _ _, _, _, _, _⟩ :: _) _ _); refine wpList_store_Row (xs := cellsH {} nil4) rfl rfl rfl HR3.out rfl rfl (by exact sizeH) rfl ?_; intro w11 hr11 hch11 _; have HC11 := Lib.hid (hch11 none_ w HC3.out (fun h => absurd h (Nat.lt_irrefl _))); have HR11 := Lib.hid hr11; clear hr11 hch11))
  refine ret_row3 rfl rfl HR11.out Tryd.underlying25 rfl sizeH rfl ?_
  exact ⟨nil4, rfl, nil4_d _ _, HC11.out⟩

set_option maxRecDepth 100000 in
set_option maxHeartbeats 1000000 in
theorem rparse_lz (w : World) (A : Option Addr) (c : Nat) (b : List Nat) (hv : View w (fun _ => True) A b.length (u8s b)) (hm : b.length ≤ 1000000) (hcap : b.length ≤ c) (hb : ∀ x ∈ b, x < 256) (f : Nat) (s : St) (ef : rdByte (b, 0) = (f, s)) (hne : 0 < b.length) (h64 : f / 64 % 2 = 1) (hl : 128 ≤ f) (hq : ¬ f / 4 % 4 = 0) :
    Calls Tryd.prog 20 #[.slice A b.length c] w (ParsePost w {} 0 3) := by
  have EF := Lib.hid ef
  have hn0 : ((b.length : Nat) : Int) ≠ 0 := by omega
  clear ef
  have HVV := Lib.hid hv
  have HBB := Lib.hid hb
  clear hv hb
  go_enter Tryd.func20, Tryd.ntmps20
  go_wp2_with fail
  obtain ⟨x1, rr1, rz1, cc1⟩ := rmade w A c b HVV.out hm hcap HBB.out _ rfl
  have HT1 := Lib.hid x1
  have HR1 := Lib.hid rr1
  have HZ1 := Lib.hid rz1
  have HC1 := Lib.hid cc1
  clear x1 rr1 rz1 cc1
  refine (byte_rtwo HT1.out).mono ?_
  have hf256 := (rdByte_mem (b, 0) HT1.out.rd.mem).1
  rw [EF.out] at hf256 ⊢
  try simp only at hf256
  rintro e w2 ⟨rfl, x2, hc2⟩
  try simp only at x2
  have HT2 := Lib.hid x2
  have HR2 := Lib.hid (HR1.out.chg hc2 (fun e => by omega))
  have HZ2 := Lib.hid (HZ1.out.chg hc2 (fun e => by omega))
  have HC2 := Lib.hid (chg_up HC1.out hc2 (by omega) (by omega))
  clear x2 hc2 HT1 HR1 HZ1 HC1
  have hi1 : ((f : Int) / 64 % 2) = 1 := by omega
  have hli : ((128 : Int) ≤ (f : Int)) := by omega
  have hi4 : ¬ ((f : Int) / 4 % 4) = 0 := by omega
  have hk0 := HT2.out.row.cell 0
  have hf0 := HT2.out.row.frozen 0
  rw [cH_0] at hk0
  have hk2 := HT2.out.row.cell 2
  have hf2 := HT2.out.row.frozen 2
  rw [cH_2] at hk2
  have HR3 := Lib.hid ((HR2.out.far (p := ⟨w.heap.size + 1, 0, none⟩) (by simp) (.bool true)).far (p := ⟨w.heap.size + 1, 2, none⟩) (by simp) (.int .i64 ((f : Int) / 16 % 4)))
  have HZ3 := Lib.hid ((HZ2.out.far (p := ⟨w.heap.size + 1, 0, none⟩) (by simp) (.bool true)).far (p := ⟨w.heap.size + 1, 2, none⟩) (by simp) (.int .i64 ((f : Int) / 16 % 4)))
  have HC3 := Lib.hid ((HC2.out.setCell (p := ⟨w.heap.size + 1, 0, none⟩) (fun h => absurd h (by simp)) (.bool true)).setCell (p := ⟨w.heap.size + 1, 2, none⟩) (fun h => absurd h (by simp)) (.int .i64 ((f : Int) / 16 % 4)))
  go_wp2_with (first | ((with_reducible show wpList _ _ _ (⟨_, .load 25 (.tmp 6), _, _, _, _⟩ :: _) _ _); refine wlH rfl rfl rfl HZ3.out rfl ?_) | ((with_reducible show wpList _ _ _ (⟨_, .store 25 _ _, _, _, _, _⟩ :: _) _ _); refine wpList_store_Row (xs := cellsH {} nil4) rfl rfl rfl HR3.out rfl rfl (by exact sizeH) rfl ?_; intro w11 hr11 hch11 _; have HC11 := Lib.hid (hch11 none_ w HC3.out (fun h => absurd h (Nat.lt_irrefl _))); have HR11 := Lib.hid hr11; clear hr11 hch11))
  refine ret_row3 rfl rfl HR11.out Tryd.underlying25 rfl sizeH rfl ?_
  exact ⟨nil4, rfl, nil4_d _ _, HC11.out⟩

set_option maxRecDepth 100000 in
set_option maxHeartbeats 1000000 in
theorem rparse_lk1 (w : World) (A : Option Addr) (c : Nat) (b : List Nat) (hv : View w (fun _ => True) A b.length (u8s b)) (hm : b.length ≤ 1000000) (hcap : b.length ≤ c) (hb : ∀ x ∈ b, x < 256) (f : Nat) (s : St) (ef : rdByte (b, 0) = (f, s)) (hne : 0 < b.length) (h64 : f / 64 % 2 = 1) (hl : 128 ≤ f) (hq4 : f / 4 % 4 = 0) (hq : f / 16 % 4 = 1) :
    Calls Tryd.prog 20 #[.slice A b.length c] w (ParsePost w {} 0 3) := by
  have EF := Lib.hid ef
  have hn0 : ((b.length : Nat) : Int) ≠ 0 := by omega
  clear ef
  have HVV := Lib.hid hv
  have HBB := Lib.hid hb
  clear hv hb
  go_enter Tryd.func20, Tryd.ntmps20
  go_wp2_with fail
  obtain ⟨x1, rr1, rz1, cc1⟩ := rmade w A c b HVV.out hm hcap HBB.out _ rfl
  have HT1 := Lib.hid x1
  have HR1 := Lib.hid rr1
  have HZ1 := Lib.hid rz1
  have HC1 := Lib.hid cc1
  clear x1 rr1 rz1 cc1
  refine (byte_rtwo HT1.out).mono ?_
  have hf256 := (rdByte_mem (b, 0) HT1.out.rd.mem).1
  rw [EF.out] at hf256 ⊢
  try simp only at hf256
  rintro e w2 ⟨rfl, x2, hc2⟩
  try simp only at x2
  have HT2 := Lib.hid x2
  have HR2 := Lib.hid (HR1.out.chg hc2 (fun e => by omega))
  have HZ2 := Lib.hid (HZ1.out.chg hc2 (fun e => by omega))
  have HC2 := Lib.hid (chg_up HC1.out hc2 (by omega) (by omega))
  clear x2 hc2 HT1 HR1 HZ1 HC1
  have hi1 : ((f : Int) / 64 % 2) = 1 := by omega
  have hli : ((128 : Int) ≤ (f : Int)) := by omega
  have hi4 : ((f : Int) / 4 % 4) = 0 := by omega
  have hi16 : ((f : Int) / 16 % 4) = 1 := by omega
  have hk0 := HT2.out.row.cell 0
  have hf0 := HT2.out.row.frozen 0
  rw [cH_0] at hk0
  have hk2 := HT2.out.row.cell 2
  have hf2 := HT2.out.row.frozen 2
  rw [cH_2] at hk2
  have HR3 := Lib.hid ((HR2.out.far (p := ⟨w.heap.size + 1, 0, none⟩) (by simp) (.bool true)).far (p := ⟨w.heap.size + 1, 2, none⟩) (by simp) (.int .i64 1))
  have HZ3 := Lib.hid ((HZ2.out.far (p := ⟨w.heap.size + 1, 0, none⟩) (by simp) (.bool true)).far (p := ⟨w.heap.size + 1, 2, none⟩) (by simp) (.int .i64 1))
  have HC3 := Lib.hid ((HC2.out.setCell (p := ⟨w.heap.size + 1, 0, none⟩) (fun h => absurd h (by simp)) (.bool true)).setCell (p := ⟨w.heap.size + 1, 2, none⟩) (fun h => absurd h (by simp)) (.int .i64 1))
  go_wp2_with (first | ((with_reducible show wpList _ _ _ (⟨_, .load 25 (.tmp 6), _, _, _, _⟩ :: _) _ _); refine wlH rfl rfl rfl HZ3.out rfl ?_) | ((with_reducible show wpList _ _ _ (⟨_, .store 25 _ _, _, _, _, _⟩ :: _) _ _); refine wpList_store_Row (xs := cellsH {} nil4) rfl rfl rfl HR3.out rfl rfl (by exact sizeH) rfl ?_; intro w11 hr11 hch11 _; have HC11 := Lib.hid (hch11 none_ w HC3.out (fun h => absurd h (Nat.lt_irrefl _))); have HR11 := Lib.hid hr11; clear hr11 hch11))
  refine ret_row3 rfl rfl HR11.out Tryd.underlying25 rfl sizeH rfl ?_
  exact ⟨nil4, rfl, nil4_d _ _, HC11.out⟩

set_option maxRecDepth 100000 in
set_option maxHeartbeats 1000000 in
theorem rparse_lk3 (w : World) (A : Option Addr) (c : Nat) (b : List Nat) (hv : View w (fun _ => True) A b.length (u8s b)) (hm : b.length ≤ 1000000) (hcap : b.length ≤ c) (hb : ∀ x ∈ b, x < 256) (f : Nat) (s : St) (ef : rdByte (b, 0) = (f, s)) (hne : 0 < b.length) (h64 : f / 64 % 2 = 1) (hl : 128 ≤ f) (hq4 : f / 4 % 4 = 0) (hq : f / 16 % 4 = 3) :
    Calls Tryd.prog 20 #[.slice A b.length c] w (ParsePost w {} 0 3) := by
  have EF := Lib.hid ef
  have hn0 : ((b.length : Nat) : Int) ≠ 0 := by omega
  clear ef
  have HVV := Lib.hid hv
  have HBB := Lib.hid hb
  clear hv hb
  go_enter Tryd.func20, Tryd.ntmps20
  go_wp2_with fail
  obtain ⟨x1, rr1, rz1, cc1⟩ := rmade w A c b HVV.out hm hcap HBB.out _ rfl
  have HT1 := Lib.hid x1
  have HR1 := Lib.hid rr1
  have HZ1 := Lib.hid rz1
  have HC1 := Lib.hid cc1
  clear x1 rr1 rz1 cc1
  refine (byte_rtwo HT1.out).mono ?_
  have hf256 := (rdByte_mem (b, 0) HT1.out.rd.mem).1
  rw [EF.out] at hf256 ⊢
  try simp only at hf256
  rintro e w2 ⟨rfl, x2, hc2⟩
  try simp only at x2
  have HT2 := Lib.hid x2
  have HR2 := Lib.hid (HR1.out.chg hc2 (fun e => by omega))
  have HZ2 := Lib.hid (HZ1.out.chg hc2 (fun e => by omega))
  have HC2 := Lib.hid (chg_up HC1.out hc2 (by omega) (by omega))
  clear x2 hc2 HT1 HR1 HZ1 HC1
  have hi1 : ((f : Int) / 64 % 2) = 1 := by omega
  have hli : ((128 : Int) ≤ (f : Int)) := by omega
  have hi4 : ((f : Int) / 4 % 4) = 0 := by omega
  have hi16 : ((f : Int) / 16 % 4) = 3 := by omega
  have hk0 := HT2.out.row.cell 0
  have hf0 := HT2.out.row.frozen 0
  rw [cH_0] at hk0
  have hk2 := HT2.out.row.cell 2
  have hf2 := HT2.out.row.frozen 2
  rw [cH_2] at hk2
  have HR3 := Lib.hid ((HR2.out.far (p := ⟨w.heap.size + 1, 0, none⟩) (by simp) (.bool true)).far (p := ⟨w.heap.size + 1, 2, none⟩) (by simp) (.int .i64 3))
  have HZ3 := Lib.hid ((HZ2.out.far (p := ⟨w.heap.size + 1, 0, none⟩) (by simp) (.bool true)).far (p := ⟨w.heap.size + 1, 2, none⟩) (by simp) (.int .i64 3))
  have HC3 := Lib.hid ((HC2.out.setCell (p := ⟨w.heap.size + 1, 0, none⟩) (fun h => absurd h (by simp)) (.bool true)).setCell (p := ⟨w.heap.size + 1, 2, none⟩) (fun h => absurd h (by simp)) (.int .i64 3))
  go_wp2_with (first | ((with_reducible show wpList _ _ _ (⟨_, .load 25 (.tmp 6), _, _, _, _⟩ :: _) _ _); refine wlH rfl rfl rfl HZ3.out rfl ?_) | ((with_reducible show wpList _ _ _ (⟨_, .store 25 _ _, _, _, _, _⟩ :: _) _ _); refine wpList_store_Row (xs := cellsH {} nil4) rfl rfl rfl HR3.out rfl rfl (by exact sizeH) rfl ?_; intro w11 hr11 hch11 _; have HC11 := Lib.hid (hch11 none_ w HC3.out (fun h => absurd h (Nat.lt_irrefl _))); have HR11 := Lib.hid hr11; clear hr11 hch11))
  refine ret_row3 rfl rfl HR11.out Tryd.underlying25 rfl sizeH rfl ?_
  exact ⟨nil4, rfl, nil4_d _ _, HC11.out⟩

end Go.Proofs.YtfecmloaopbogaaDoor
