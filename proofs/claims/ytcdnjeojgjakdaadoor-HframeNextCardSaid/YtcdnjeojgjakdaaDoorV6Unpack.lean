/- Layer 6 (hframe): a field is read; Unpack. -/
import Derived.Test.YtcdnjeojgjakdaaDoorV6Take
import Derived.Test.YtcdnjeojgjakdaaDoorV6Wrong
import Derived.Test.YtcdnjeojgjakdaaDoorV3RdB
import Derived.Test.YtcdnjeojgjakdaaDoorEqual
namespace Go.Proofs.YtcdnjeojgjakdaaDoor
open Go.RowKit

theorem sizeF' : (Tryd.prog.info? 52).map (·.size) = some 2 := by kernel_rfl
theorem infoF : (Tryd.prog.info? 52).map (fun i => (i.zero, i.size, i.bytes)) = some (some (.agg #[.string ByteArray.empty, .string ByteArray.empty]), 2, 32) := by kernel_rfl

theorem readF_eq (s : St) (b : Nat × St) (s1 : St) (n : Nat × St) (nm : List Nat × St) (m : Nat × St) (vl : List Nat × St) (h1 : rdByte s = b) (h2 : (if b.1 ≠ 32 then failSt 3 b.2 else b.2) = s1) (h3 : rdInt s1 = n) (h4 : rdBytes n.1 n.2 = nm) (h5 : rdInt nm.2 = m) (h6 : rdBytes m.1 m.2 = vl) :
    readF s = ((sb nm.1, sb vl.1), vl.2) := by subst h1; subst h2; subst h3; subst h4; subst h5; subst h6; rfl

set_option maxRecDepth 100000 in
set_option maxHeartbeats 1000000 in
theorem readField0 (w : World) (r : Nat) (T : Nat → Prop) (s : St) (h : RdS w r T s) (hT : ¬ T r) (hTl : ∀ b, T b → b < w.heap.size) :
    Calls Tryd.prog 41 #[.pointer (some ⟨r, 0, none⟩)] w fun e w' => e = .returned (.agg #[.string (readF s).1.1, .string (readF s).1.2]) ∧ RdS w' r T (readF s).2 ∧ Chg (· = r) w w' := by
  have HT := Lib.hid hT
  have HTL := Lib.hid hTl
  have HA := Lib.hid ((Chg.refl (· = r) w).alloc (.cells #[.string ByteArray.empty, .string ByteArray.empty] 52))
  have HRW := Lib.hid (Row.new w 52 [.string ByteArray.empty, .string ByteArray.empty])
  have HRL := Lib.hid h.lt
  have HR0 := Lib.hid (h.chg ((Chg.refl none_ w).alloc (.cells #[.string ByteArray.empty, .string ByteArray.empty] 52)) (fun h => h) (fun _ _ h => h))
  have HBY := Lib.hid (byte_any _ r T s HR0.out hT)
  have HE := Lib.hid (readF_eq s)
  generalize readF s = R at *
  obtain ⟨b, hb⟩ : ∃ b, rdByte s = b := ⟨_, rfl⟩
  rw [hb] at HBY
  have HE1 := Lib.hid (fun s1 => HE.out b s1)
  clear hT h HE hTl
  have hbn : b.1 = 32 ∨ b.1 ≠ 32 := by omega
  obtain ⟨s1, hs1⟩ : ∃ s1, (if b.1 ≠ 32 then failSt 3 b.2 else b.2) = s1 := ⟨_, rfl⟩
  have HE2 : Hid (∀ (n : Nat × St) (nm : List Nat × St) (m : Nat × St) (vl : List Nat × St), rdInt s1 = n → rdBytes n.1 n.2 = nm → rdInt nm.2 = m → rdBytes m.1 m.2 = vl → R = ((sb nm.1, sb vl.1), vl.2)) := fun n nm m vl a1 a2 a3 a4 => HE1.out s1 n nm m vl hb hs1 a1 a2 a3 a4
  have HS1 := Lib.hid hs1
  clear hs1 hb HE1
  rcases hbn with hb32 | hb32
  all_goals
    first | (have hbt : ((b.1 : Int) != 32) = false := by (rw [bne_eq_false_iff_eq]; omega)) | (have hbt : ((b.1 : Int) != 32) = true := by (rw [bne_iff_ne]; omega))
    have HB32 := Lib.hid hb32
    clear hb32
    go_enter Tryd.func41, Tryd.ntmps41
    go_wp2_with fail
    refine HBY.out.mono ?_
    rintro e w1 ⟨rfl, r1, c1⟩
    have R1 := Lib.hid r1
    have C1 := Lib.hid (HA.out.trans c1)
    have K1 := Lib.hid (HRW.out.chg c1 (fun e => by have h1 : w.heap.size = r := e; have := HRL.out; omega))
    clear r1 c1 HBY
    go_wp2_with (go_at_call 42; refine (failS_any _ r T b.2 3 R1.out).mono ?_; rintro e w2 ⟨rfl, r2, c2⟩; have R2 := Lib.hid r2; have C2 := Lib.hid (C1.out.trans c2); have K2 := Lib.hid (K1.out.chg c2 (fun e => by have h1 : w.heap.size = r := e; have := HRL.out; omega)); clear r2 c2)
    first
      | (have RX : Hid (RdS w2 r T s1) := (by rw [← HS1.out, if_pos HB32.out]; exact R2.out); have CX : Hid (Chg (· = r) w w2) := C2.out; have KX : Hid (Row w2 w.heap.size 52 [.string ByteArray.empty, .string ByteArray.empty]) := K2.out)
      | (have RX : Hid (RdS w1 r T s1) := (by rw [← HS1.out, if_neg (by simpa using HB32.out)]; exact R1.out); have CX : Hid (Chg (· = r) w w1) := C1.out; have KX : Hid (Row w1 w.heap.size 52 [.string ByteArray.empty, .string ByteArray.empty]) := K1.out)
    refine (int_any _ r T s1 RX.out HT.out).mono ?_
    rintro e w3 ⟨rfl, r3, c3⟩
    obtain ⟨n, hn⟩ : ∃ n, rdInt s1 = n := ⟨_, rfl⟩
    rw [hn] at r3 ⊢
    have HE3 := Lib.hid (fun nm m vl => HE2.out n nm m vl hn)
    have R3 := Lib.hid r3
    have C3 := Lib.hid (CX.out.trans c3)
    have K3 := Lib.hid (KX.out.chg c3 (fun e => by have h1 : w.heap.size = r := e; have := HRL.out; omega))
    clear r3 c3 hn HE2 RX CX KX
    go_wp2_with fail
    refine (bytes_any _ r T n.2 n.1 R3.out HT.out).mono ?_
    rintro e w4 ⟨A4, c4', rfl, v4, r4, c4⟩
    obtain ⟨nm, hnm⟩ : ∃ nm, rdBytes n.1 n.2 = nm := ⟨_, rfl⟩
    rw [hnm] at v4 r4 ⊢
    have HE4 := Lib.hid (fun m vl => HE3.out nm m vl hnm)
    have R4 := Lib.hid r4
    have V4 := Lib.hid v4
    have C4 := Lib.hid (C3.out.trans c4)
    have K4 := Lib.hid (K3.out.chg c4 (fun e => by have h1 : w.heap.size = r := e; have := HRL.out; omega))
    have HL3 : Hid (w.heap.size ≤ w3.heap.size) := C3.out.size
    clear r4 c4 v4 hnm HE3
    go_wp2_with fail
    refine (int_any _ r T nm.2 R4.out HT.out).mono ?_
    rintro e w5 ⟨rfl, r5, c5⟩
    obtain ⟨m, hm⟩ : ∃ m, rdInt nm.2 = m := ⟨_, rfl⟩
    rw [hm] at r5 ⊢
    have HE5 := Lib.hid (fun vl => HE4.out m vl hm)
    have R5 := Lib.hid r5
    have C5 := Lib.hid c5
    clear r5 c5 hm HE4
    go_wp2_with fail
    refine (bytes_any _ r T m.2 m.1 R5.out HT.out).mono ?_
    rintro e w6 ⟨A6, c6', rfl, v6, r6, c6⟩
    obtain ⟨vl, hvl⟩ : ∃ vl, rdBytes m.1 m.2 = vl := ⟨_, rfl⟩
    rw [hvl] at v6 r6 ⊢
    have HE6 := Lib.hid (HE5.out vl hvl)
    have C46 := C5.out.trans c6
    have hv4 : View w6 (fun b => w3.heap.size ≤ b) A4 nm.1.length (u8s nm.1) := V4.out.chg C46 (fun b hb e => by have h1 : b = r := e; have h2 : w3.heap.size ≤ b := hb; have := HRL.out; have := HL3.out; omega)
    have hcv1 := run_string_view w6 _ A4 nm.1.length c4' nm.1 hv4
    have hcv2 := run_string_view w6 _ A6 vl.1.length c6' vl.1 v6
    have R6 := Lib.hid r6
    have C6 := Lib.hid (C4.out.trans C46)
    have hk6 := K4.out.chg C46 (fun e => by have h1 : w.heap.size = r := e; have := HRL.out; omega)
    have K6 := Lib.hid hk6
    clear r6 c6 v6 C46 hv4 hk6 hvl HE5
    go_wp2_with ((with_reducible show wpList _ _ _ (⟨_, .store 52 _ _, _, _, _, _⟩ :: _) _ _); refine wpList_store_Row (xs := [.string (sb nm.1), .string (sb vl.1)]) rfl rfl rfl K6.out rfl rfl sizeF' rfl ?_; intro w7 hr7 hch7 hs7; have HR7 := Lib.hid hr7; have HC7 := Lib.hid (hch7 (· = w.heap.size) w6 (Chg.refl _ _) (fun _ => rfl)); clear hr7 hch7 hs7)
    refine ret_row rfl rfl HR7.out Tryd.underlying52 rfl sizeF' rfl ?_
    rw [HE6.out]
    exact ⟨rfl, R6.out.chg HC7.out (fun e => by have h1 : r = w.heap.size := e; have := HRL.out; omega) (fun b hb e => by have h1 : b = w.heap.size := e; have := HTL.out b hb; omega), C6.out.andThen HC7.out (fun b hb e => by have h1 : b = w.heap.size := e; omega)⟩
theorem readField_any (w : World) (r : Nat) (T : Nat → Prop) (s : St) (h : RdS w r T s) (hT : ¬ T r) :
    Calls Tryd.prog 41 #[.pointer (some ⟨r, 0, none⟩)] w fun e w' => e = .returned (.agg #[.string (readF s).1.1, .string (readF s).1.2]) ∧ RdS w' r T (readF s).2 ∧ Chg (· = r) w w' :=
  (readField0 w r (fun b => T b ∧ b < w.heap.size) s (h.mono (fun _ hb ht => ⟨ht, hb⟩)) (fun h => hT h.1) (fun _ h => h.2)).mono fun _ _ ⟨h1, h2, h3⟩ => ⟨h1, h2.mono (fun _ _ h => h.1), h3⟩

theorem loopU_stop (l : List Fld) (s : St) (h : s.1 = []) : loopU l s = (l, s) := by
  unfold loopU; rw [dif_pos h]
theorem loopU_on (l : List Fld) (s : St) (h : s.1 ≠ []) : loopU l s = loopU (stepU l (readF s).1) (readF s).2 := by
  conv => lhs; unfold loopU
  rw [dif_neg h]
/-- How many bytes a reader has left, in memory. -/
def leftAt (w : World) (g : Nat) : Nat := match w.cell? ⟨g, 0, none⟩ with | some (.slice _ n _) => n | _ => 0
theorem RdS.left {w : World} {g : Nat} {T : Nat → Prop} {s : St} (h : RdS w g T s) : leftAt w g = s.1.length := by
  obtain ⟨⟨A, cap, h1, _⟩, _⟩ := h
  have : w.cell? ⟨g, 0, none⟩ = some (.slice A s.1.length cap) := h1.cell 0
  unfold leftAt; rw [this]
/-- The fields, and an error. -/
def UnpackPost (m : List Fld × Int) (w : World) (e : Ending) (w' : World) : Prop :=
  ∃ A c, e = .returned (.tuple #[.slice A m.1.length c, .int .i64 m.2]) ∧ View w' (fun b => w.heap.size ≤ b) A (2 * m.1.length) (fcells m.1) ∧ Chg none_ w w'
theorem unpackH_eq (b : List Nat) (l : List Fld) (s s2 : St) (h : loopU [] (b, 0) = (l, s)) (h2 : (if fieldsB l then s else failSt 3 s) = s2) : unpackH b = if s2.2 ≠ 0 then ([], s2.2) else (l, 0) := by
  unfold unpackH; rw [h]; subst h2; rfl

set_option maxRecDepth 100000 in
set_option maxHeartbeats 2000000 in
theorem unpack_any (w : World) (T : Nat → Prop) (A : Option Addr) (c : Nat) (bb : List Nat) (hv : View w T A bb.length (u8s bb)) (hl : bb.length ≤ 1000000) (hx : ∀ x ∈ bb, x < 256) :
    Calls Tryd.prog 24 #[.slice A bb.length c] w (UnpackPost (unpackH bb) w) := by
  obtain ⟨i0, hinf, hi0, hi1, hi2⟩ := info_parts infoF
  have HRD := Lib.hid (read_mine w T A c bb hv hl hx)
  have HU := Lib.hid (unpackH_eq bb)
  clear hv
  generalize unpackH bb = U at *
  go_enter Tryd.func24, Tryd.ntmps24
  go_wp2_with fail
  refine HRD.out.mono ?_
  rintro e w1 ⟨r, rfl, m1⟩
  have HG : Hid (w.heap.size ≤ r ∧ r < w1.heap.size ∧ w.heap.size ≤ w1.heap.size) := ⟨m1.new, m1.rd.lt, m1.chg.size⟩
  have R0 : RdS w1 r (fun b => w.heap.size ≤ b ∧ b ≠ r ∧ b < w1.heap.size) (bb, 0) := m1.rd.mono (fun b hb h => ⟨h.1, h.2, hb⟩)
  have HC1 := Lib.hid m1.chg
  clear m1 HRD
  go_wp2_with fail
  go_loopw [4] (fun v wr => ∃ (l : List Fld) (s : St), l.length ≤ 33 ∧ wr.ownsRow w1.heap.size 52 2 v l.length (fcells l) ∧ RdS wr r (fun b => w.heap.size ≤ b ∧ b ≠ r ∧ b < w1.heap.size) s ∧ Chg (fun b => b = r) w1 wr ∧ Hid (loopU [] (bb, 0) = loopU l s)) (fun _ wr => leftAt wr r)
  case atStart => exact ⟨[], (bb, 0), by simp, World.ownsRow_nil _ _ _ _, R0, Chg.refl _ _, rfl⟩
  case round =>
    obtain ⟨l, s, hll, hown, hrd, hch, heq⟩ := hrel
    clear R0
    obtain ⟨A1, cap1, rfl, hnc, hmc, hvw⟩ := view_ownN hown
    have HOWN := Lib.hid hown
    have HVW := Lib.hid hvw
    have HLEN := Lib.hid hrd.left
    have HCH := Lib.hid hch
    have HRDS := Lib.hid hrd
    clear hown hvw hch hrd
    by_cases hs : s.1 = []
    · have hz : s.1.length = 0 := by rw [hs]; rfl
      have hz1 : ¬ (0 : Int) < (s.1.length : Int) := by omega
      have HE := Lib.hid ((heq.out).trans (loopU_stop l s hs))
      have HU2 := Lib.hid (fun s2 => HU.out l s s2 HE.out)
      clear hs hz heq HU HE
      have HF := Lib.hid (fields_any wr _ A1 cap1 l (by rw [Nat.mul_comm]; exact HVW.out))
      have HCW : Hid (Chg none_ w wr) := HC1.out.andThen HCH.out (fun b hb h => by have h5 : b = r := h; have := HG.out; omega)
      cases hfb : fieldsB l
      · rw [hfb] at HF
        have HU3 := Lib.hid (HU2.out (failSt 3 s) (by rw [hfb]; rfl))
        clear hfb HU2
        have hbn : (failSt 3 s).2 ≠ 0 := by
          unfold failSt; split
          · rename_i h; rcases h with h | h
            · exact h
            · cases h
          · decide
        have hbz : ((failSt 3 s).2 != 0) = true := by rw [bne_iff_ne]; exact hbn
        have HBN := Lib.hid hbn
        clear hbn
        go_wp2_with (first | (go_at_call 40; refine (leftS_any _ r _ s HRDS.out).mono ?_; rintro e w' ⟨rfl, rfl⟩) | (go_at_call 22; refine HF.out.mono ?_; rintro e w2 ⟨rfl, hc2⟩; have HC2 := Lib.hid hc2; have HR2 := Lib.hid (HRDS.out.chg hc2 (fun h => h) (fun _ _ h => h)); clear hc2) | (go_at_call 42; refine (failS_any _ r _ s 3 HR2.out).mono ?_; rintro e w3 ⟨rfl, r3, c3⟩; have R3 := Lib.hid r3; have C3 := Lib.hid c3; clear r3 c3) | (go_at_call 43; refine (badS_any _ r _ (failSt 3 s) R3.out).mono ?_; rintro e w' ⟨rfl, rfl⟩))
        go_ret2
        rw [HU3.out, if_pos HBN.out]
        exact ⟨none, 0, rfl, View.none_ _ _ _, (HCW.out.trans HC2.out).andThen C3.out (fun b hb h => by have h5 : b = r := h; have := HG.out; omega)⟩
      · rw [hfb] at HF
        have HU3 := Lib.hid (HU2.out s (by rw [hfb]; rfl))
        clear hfb HU2
        by_cases hb : s.2 = 0
        · have hbz : (s.2 != 0) = false := by rw [bne_eq_false_iff_eq]; exact hb
          have HB := Lib.hid hb
          clear hb
          go_wp2_with (first | (go_at_call 40; refine (leftS_any _ r _ s HRDS.out).mono ?_; rintro e w' ⟨rfl, rfl⟩) | (go_at_call 22; refine HF.out.mono ?_; rintro e w2 ⟨rfl, hc2⟩; have HC2 := Lib.hid hc2; have HR2 := Lib.hid (HRDS.out.chg hc2 (fun h => h) (fun _ _ h => h)); clear hc2) | (go_at_call 43; refine (badS_any _ r _ s HR2.out).mono ?_; rintro e w' ⟨rfl, rfl⟩))
          go_ret2
          rw [HU3.out, if_neg (by simpa using HB.out)]
          exact ⟨A1, cap1, rfl, by rw [Nat.mul_comm]; exact (HVW.out.chg HC2.out (fun _ _ h => h)).mono (fun b _ h => Nat.le_trans HG.out.2.2 h), HCW.out.trans HC2.out⟩
        · have hbz : (s.2 != 0) = true := by rw [bne_iff_ne]; exact hb
          have HB := Lib.hid hb
          clear hb
          go_wp2_with (first | (go_at_call 40; refine (leftS_any _ r _ s HRDS.out).mono ?_; rintro e w' ⟨rfl, rfl⟩) | (go_at_call 22; refine HF.out.mono ?_; rintro e w2 ⟨rfl, hc2⟩; have HC2 := Lib.hid hc2; have HR2 := Lib.hid (HRDS.out.chg hc2 (fun h => h) (fun _ _ h => h)); clear hc2) | (go_at_call 43; refine (badS_any _ r _ s HR2.out).mono ?_; rintro e w' ⟨rfl, rfl⟩))
          go_ret2
          rw [HU3.out, if_pos HB.out]
          exact ⟨none, 0, rfl, View.none_ _ _ _, HCW.out.trans HC2.out⟩
    · have hz1 : (0 : Int) < (s.1.length : Int) := by have := List.length_pos_iff.2 hs; omega
      have HLT := Lib.hid (readF_lt s hs)
      have HE := Lib.hid ((heq.out).trans (loopU_on l s hs))
      clear heq hs
      have HRF := Lib.hid (readField_any wr r _ s HRDS.out (fun h => h.2.1 rfl))
      by_cases h32 : l.length ≤ 32
      · have h1 : (l.length : Int) ≤ 32 := by omega
        have hst : stepU l (readF s).1 = l ++ [(readF s).1] := if_pos h32
        rw [hst] at HE
        clear hst
        generalize readF s = R at *
        have hll2 : l.length ≤ 32 := h32
        clear h32
        go_wp2_with (first | (go_at_call 40; refine (leftS_any _ r _ s HRDS.out).mono ?_; rintro e w' ⟨rfl, rfl⟩) | (go_at_call 41; refine HRF.out.mono ?_; rintro e w2 ⟨rfl, h2, c2⟩; have HR2 := Lib.hid h2; have HC2 := Lib.hid c2; clear h2 c2) | ((with_reducible show wpList _ _ _ (⟨_, .store 52 _ _, _, _, _, _⟩ :: _) _ _); refine wpList_store_Row (xs := [.string R.1.1, .string R.1.2]) rfl rfl rfl (Row.new w2 52 [.string ByteArray.empty, .string ByteArray.empty]) rfl rfl sizeF' rfl ?_; intro w3 hr3 hch3 hs3; have HD3 := Lib.hid (hch3 none_ w2 ((Chg.refl none_ w2).alloc _) (fun h => absurd h (by omega))); have HR3 := Lib.hid hr3; have HC3 := Lib.hid (HC2.out.trans (HD3.out.mono (fun _ _ h => h.elim))); have HOWN3 := Lib.hid (ownsRow_chg HOWN.out HC3.out (fun b hb e => by have h5 : b = r := e; have := HG.out; omega)); have HSZ3 := Lib.hid (HCH.out.trans HC3.out).size; clear hr3 hch3 hs3) | ((with_reducible show wpList _ _ _ (⟨_, .load 52 (.tmp 6), _, _, _, _⟩ :: _) _ _); refine wpList_load_Row rfl rfl rfl HR3.out Tryd.underlying52 rfl sizeF' ?_) | (at_builtin; refine wpList_append_own_at _ rfl _ _ 38 rfl w1.heap.size 52 i0 _ 2 32 Tryd.underlying38 hinf hi0 hi1 hi2 rfl (by omega) (.slice A1 l.length cap1) l.length (fcells l) rfl (ownsRow_chg HOWN3.out ((Chg.refl none_ w3).alloc (.cells [.string R.1.1, .string R.1.2].toArray 52)) (fun _ _ h => h)) ⟨w3.heap.size, 0, none⟩ 1 1 [.string R.1.1, .string R.1.2] rfl rfl (cells_new w3 _ _) (by intro u hu; simp at hu; rcases hu with rfl | rfl <;> rfl) (by unfold maxLen; omega) (by omega) (by have := HSZ3.out; simp; omega) ?_; intro v' w4 hown4 hgrow4 _ _))
        have hchg : Chg (fun k => w1.heap.size ≤ k) w3 w4 := ((Chg.refl (fun k => w1.heap.size ≤ k) w3).alloc _).grown hgrow4 (fun k hk _ => (HOWN3.out.lt k hk).1)
        have hrd4 := (HR2.out.chg HD3.out (fun h => h) (fun _ _ h => h)).chg hchg (fun h => by have h5 : w1.heap.size ≤ r := h; have := HG.out; omega) (fun b hb h => by have h5 : w1.heap.size ≤ b := h; have := hb.2.2; omega)
        have hown5 : w4.ownsRow w1.heap.size 52 2 v' (l ++ [R.1]).length (fcells (l ++ [R.1])) := by
          rw [fcells_append, List.length_append]
          exact hown4
        have hch5 : Chg (fun b => b = r) w1 w4 := (HCH.out.trans HC3.out).andThen hchg (fun b hb h => by have h5 : w1.heap.size ≤ b := h; omega)
        clear hown4 hgrow4
        go_roundw
        case rel => exact ⟨l ++ [R.1], R.2, by simp; omega, hown5, hrd4, hch5, HE.out⟩
        case measure =>
          rw [hrd4.left, HLEN.out]
          exact HLT.out
      · have h1 : ¬ (l.length : Int) ≤ 32 := by omega
        have hst : stepU l (readF s).1 = l := if_neg h32
        rw [hst] at HE
        clear hst h32
        generalize readF s = R at *
        go_wp2_with (first | (go_at_call 40; refine (leftS_any _ r _ s HRDS.out).mono ?_; rintro e w' ⟨rfl, rfl⟩) | (go_at_call 41; refine HRF.out.mono ?_; rintro e w2 ⟨rfl, h2, c2⟩; have HR2 := Lib.hid h2; have HC2 := Lib.hid c2; clear h2 c2) | ((with_reducible show wpList _ _ _ (⟨_, .store 52 _ _, _, _, _, _⟩ :: _) _ _); refine wpList_store_Row (xs := [.string R.1.1, .string R.1.2]) rfl rfl rfl (Row.new w2 52 [.string ByteArray.empty, .string ByteArray.empty]) rfl rfl sizeF' rfl ?_; intro w3 hr3 hch3 hs3; have HD3 := Lib.hid (hch3 none_ w2 ((Chg.refl none_ w2).alloc _) (fun h => absurd h (by omega))); clear hr3 hch3 hs3))
        have hc3 := HC2.out.trans (HD3.out.mono (fun _ _ h => h.elim))
        have hrd3 := HR2.out.chg HD3.out (fun h => h) (fun _ _ h => h)
        refine ⟨⟨l, R.2, hll, ownsRow_chg HOWN.out hc3 (fun b hb e => by have h5 : b = r := e; have := HG.out; omega), hrd3, HCH.out.trans hc3, HE.out⟩, ?_⟩
        rw [hrd3.left, HLEN.out]
        exact HLT.out
end Go.Proofs.YtcdnjeojgjakdaaDoor
