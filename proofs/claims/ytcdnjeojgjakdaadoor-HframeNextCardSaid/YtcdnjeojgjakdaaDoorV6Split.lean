/- Layer 6 (hframe): a frame's kind, and its own bytes, out of bytes. -/
import Derived.Test.YtcdnjeojgjakdaaDoorV6Rd
import Derived.Test.YtcdnjeojgjakdaaDoorV6Sets
import Derived.Test.YtcdnjeojgjakdaaDoorV6Fd
import Derived.RegionTactic
namespace Go.Proofs.YtcdnjeojgjakdaaDoor
open Go.RowKit

theorem splitM_eq (b : List Nat) (r1 r2 : Nat × St) (s1 s2 : St) (start : Nat) (h1 : rdInt (b.take 16, 0) = r1) (h2 : (if forbN r1.1 then failSt 3 r1.2 else r1.2) = s1) (h3 : rdInt s1 = r2)
    (h4 : (b.take 16).length - r2.2.1.length = start) (h5 : (if b.length - start < r2.1 then failSt 2 r2.2 else r2.2) = s2) :
    splitM b = if s2.2 ≠ 0 then (0, [], 0, s2.2) else (r1.1, (b.drop start).take r2.1, start + r2.1, 0) := by
  subst h1; subst h2; subst h3; subst h4; subst h5; rfl
def SplitPost (m : Nat × List Nat × Nat × Int) (w : World) (T : Nat → Prop) (e : Ending) (w' : World) : Prop :=
  ∃ A' c', e = .returned (.tuple #[.int .u64 (m.1 : Nat), .slice A' m.2.1.length c', .int .i64 (m.2.2.1 : Nat), .int .i64 m.2.2.2]) ∧ m.2.1.length ≤ c' ∧ View w' T A' m.2.1.length (u8s m.2.1) ∧ Chg none_ w w'
theorem SplitPost.bad {m : Nat × List Nat × Nat × Int} {w w' : World} {T : Nat → Prop} {x : Int} (h : m = (0, [], 0, x)) (hc : Chg none_ w w') : SplitPost m w T (.returned (.tuple #[.int .u64 0, .slice none 0 0, .int .i64 0, .int .i64 x])) w' := by
  subst h; exact ⟨none, 0, rfl, Nat.le_refl _, View.none_ _ _ _, hc⟩

set_option maxRecDepth 100000 in
set_option maxHeartbeats 2000000 in
theorem split_any (w : World) (T : Nat → Prop) (A : Option Addr) (c : Nat) (b : List Nat) (hv : View w T A b.length (u8s b)) (hl : b.length ≤ 1000000) (hcap : b.length ≤ c) (hx : ∀ x ∈ b, x < 256) :
    Calls Tryd.prog 32 #[.slice A b.length c] w (SplitPost (splitM b) w T) := by
  have hP1 : (b.take 16).length = min b.length 16 := by rw [List.length_take, Nat.min_comm]
  have hP2 : (b.take 16).length ≤ b.length := by omega
  have hP3 : (b.take 16).length ≤ 16 := by omega
  have hmn : ∀ t ats w, (Builtin.min_ ats t #[.int .i64 (b.length : Nat), .int .i64 16]).run Tryd.prog w = .ok (.int .i64 ((b.take 16).length : Nat)) w := fun t ats w => by rw [hP1]; exact run_min2 b.length 16 t ats w
  have HSP := Lib.hid (splitM_eq b)
  have HPV : Hid (View w T A (b.take 16).length (u8s (b.take 16))) := by
    have h := hv.take (k := (b.take 16).length) hP2
    rw [u8s_take] at h
    have e : b.take (b.take 16).length = b.take 16 := by
      by_cases h16 : 16 ≤ b.length
      · rw [hP1, Nat.min_eq_right h16]
      · rw [List.take_of_length_le (show b.length ≤ 16 by omega), List.take_length]
    rwa [e] at h
  have HV := Lib.hid hv
  have HRD := Lib.hid (read_mine w T A c (b.take 16) HPV.out (by omega) (fun x h => hx x (List.mem_of_mem_take h)))
  clear hv hP1 hx HPV
  generalize b.take 16 = P at *
  have hi0 : (0 : Int) ≤ (P.length : Int) := by omega
  have hi1 : (P.length : Int) ≤ (c : Int) := by omega
  go_enter Tryd.func32, Tryd.ntmps32
  go_wp2_with fail
  refine HRD.out.mono ?_
  rintro e w1 ⟨g, rfl, m1⟩
  have M1 := Lib.hid m1
  clear m1 HRD hmn
  go_wp2_with fail
  refine (int_mine M1.out).mono ?_
  rintro e w2 ⟨rfl, m2, _⟩
  have hle1 := rdInt_le (P, 0)
  have HQ1 := Lib.hid (rdInt_lt (P, 0) M1.out.rd.2)
  generalize hr1 : rdInt (P, 0) = r1 at *
  have HR1 := Lib.hid hr1
  have M2 := Lib.hid m2
  clear hr1 m2 M1
  simp only at hle1
  have HFB := Lib.hid (fun w => forbN_any r1.1 w)
  have HE : Hid (∀ x, forbN r1.1 = x → ∀ s1, (if x then failSt 3 r1.2 else r1.2) = s1 → ∀ r2, rdInt s1 = r2 → ∀ start, P.length - r2.2.1.length = start → ∀ s2, (if b.length - start < r2.1 then failSt 2 r2.2 else r2.2) = s2 →
      splitM b = if s2.2 ≠ 0 then (0, [], 0, s2.2) else (r1.1, (b.drop start).take r2.1, start + r2.1, 0)) := fun x hx s1 h1 r2 h2 start h3 s2 h4 => HSP.out r1 r2 s1 s2 start rfl (by rw [hx]; exact h1) h2 h3 h4
  have hle2 := failSt_le 3 r1.2
  have key : ∀ (x : Bool), forbN r1.1 = x → ∃ s1 : St, (if x then failSt 3 r1.2 else r1.2) = s1 ∧ s1.1.length ≤ P.length := fun x _ => ⟨_, rfl, by split <;> omega⟩
  have HKEY := Lib.hid key
  clear key hle1 hle2 HSP HR1
  cases hfb : forbN r1.1
  all_goals
    rw [hfb] at HFB
    obtain ⟨s1, hs1, hsl⟩ := HKEY.out _ hfb
    have HE2 := Lib.hid (HE.out _ hfb s1 hs1)
    have HS1 := Lib.hid hs1
    clear hfb hs1 HE HKEY
    go_wp2_with (first | (go_at_call 59; refine (HFB.out _).mono ?_; rintro e w' ⟨rfl, rfl⟩) | (go_at_call 42; refine (fail_mine 3 M2.out).mono ?_; rintro e w3 ⟨rfl, m3, _⟩; have M3 := Lib.hid m3; clear m3))
    first | (have MX : Hid (Mine w g w3 s1) := by rw [← HS1.out]; exact M3.out) | (have MX : Hid (Mine w g w2 s1) := by rw [← HS1.out]; exact M2.out)
    refine (int_mine MX.out).mono ?_
    rintro e w4 ⟨rfl, m4, _⟩
    have hle4 := rdInt_le s1
    obtain ⟨r2, hr2⟩ : ∃ r2, rdInt s1 = r2 := ⟨_, rfl⟩
    have HE3 := Lib.hid (HE2.out r2 hr2)
    rw [hr2] at m4 hle4 ⊢
    have M4 := Lib.hid m4
    clear m4 hr2 HE2 MX HS1
    obtain ⟨start, hst⟩ : ∃ start, P.length - r2.2.1.length = start := ⟨_, rfl⟩
    have HE4 := Lib.hid (HE3.out start hst)
    obtain ⟨rest, hrs⟩ : ∃ rest, b.length - start = rest := ⟨_, rfl⟩
    rw [hrs] at HE4
    have hst2 : (P.length : Int) - (r2.2.1.length : Int) = (start : Int) := by omega
    have hrs2 : (b.length : Int) - (start : Int) = (rest : Int) := by omega
    have hrb : rest ≤ 1000000 := by omega
    have hsb : start + rest = b.length := by omega
    have HST := Lib.hid hst
    clear hst hrs HE3
    by_cases hbig : rest < r2.1
    · have HE5 := Lib.hid (HE4.out _ (if_pos hbig))
      have hbn : ((failSt 2 r2.2).2 != 0) = true := by
        rw [bne_iff_ne]; unfold failSt; split
        · rename_i h; rcases h with h | h
          · exact h
          · cases h
        · decide
      have HBN := Lib.hid hbn
      have hbig2 : (rest : Int) < (r2.1 : Int) := by omega
      clear HE4 hbig
      go_wp2_with (first | (go_at_call 40; refine (left_mine M4.out).mono ?_; rintro e w' ⟨rfl, rfl⟩) | (go_at_call 42; refine (fail_mine 2 M4.out).mono ?_; rintro e w5 ⟨rfl, m5, _⟩; have M5 := Lib.hid m5; clear m5) | (go_at_call 43; refine (bad_mine M5.out).mono ?_; rintro e w' ⟨rfl, rfl⟩))
      refine bodyPost_ret (v := .tuple #[.int .u64 0, .slice none 0 0, .int .i64 0, .int .i64 (failSt 2 r2.2).2]) (by simp [results, Tryd.results32, go_sem]) rfl ?_
      exact SplitPost.bad (by rw [HE5.out, if_pos (by simpa using HBN.out)]) M5.out.chg
    · have HE5 := Lib.hid (HE4.out _ (if_neg hbig))
      have hbig2 : (r2.1 : Int) ≤ (rest : Int) := by omega
      by_cases hbad : r2.2.2 = 0
      · have hbz : (r2.2.2 != 0) = false := by rw [bne_eq_false_iff_eq]; exact hbad
        have HE6 : Hid (splitM b = (r1.1, (b.drop start).take r2.1, start + r2.1, 0)) := by show _ = _; rw [HE5.out, if_neg (by simpa using hbad)]
        have hlen : ((b.drop start).take r2.1).length = r2.1 := by rw [List.length_take, List.length_drop]; omega
        have HLEN := Lib.hid hlen
        have j0 : (0 : Int) ≤ (start : Int) := by omega
        have j1 : (start : Int) ≤ (start : Int) + (r2.1 : Int) := by omega
        have j2 : (start : Int) + (r2.1 : Int) ≤ (c : Int) := by omega
        have hvd : View w T (A.map (·.add start)) r2.1 (u8s ((b.drop start).take r2.1)) := by
          have h1 := (HV.out.drop (k := start)).take (k := r2.1) (by omega)
          rwa [u8s_drop, u8s_take] at h1
        have HVD := Lib.hid hvd
        clear hbad HE4 HE5 hbig hvd hlen
        by_cases hcs : c = start
        · subst hcs
          have hz : r2.1 = 0 := by omega
          have HZ := Lib.hid hz
          go_wp2_with (first | (go_at_call 40; refine (left_mine M4.out).mono ?_; rintro e w' ⟨rfl, rfl⟩) | (go_at_call 43; refine (bad_mine M4.out).mono ?_; rintro e w' ⟨rfl, rfl⟩))
          go_quiet (fail)
          go_wp2
          refine bodyPost_ret (v := .tuple #[.int .u64 (r1.1 : Nat), .slice A 0 0, .int .i64 (c : Int), .int .i64 0]) (by simp [results, Tryd.results32, go_sem]) rfl ?_
          rw [HE6.out]
          have hl0 : ((b.drop c).take r2.1).length = 0 := by rw [HLEN.out, HZ.out]
          refine ⟨A, 0, ?_, by rw [hl0]; exact Nat.le_refl _, ?_, M4.out.chg.drewN _⟩
          · simp only [HZ.out, Nat.add_zero, List.take_zero, List.length_nil]
          · simp only [hl0]
            rw [List.eq_nil_of_length_eq_zero hl0]
            exact View.none_ _ _ _
        · go_wp2_with (first | (go_at_call 40; refine (left_mine M4.out).mono ?_; rintro e w' ⟨rfl, rfl⟩) | (go_at_call 43; refine (bad_mine M4.out).mono ?_; rintro e w' ⟨rfl, rfl⟩))
          go_quiet (fail)
          go_wp2
          refine bodyPost_ret (v := .tuple #[.int .u64 (r1.1 : Nat), .slice (A.map (·.add start)) (start + r2.1 - start) (c - start), .int .i64 ((start : Int) + (r2.1 : Int)), .int .i64 0]) (by simp [results, Tryd.results32, go_sem]) rfl ?_
          rw [HE6.out]
          refine ⟨A.map (·.add start), c - start, ?_, by simp only [HLEN.out]; omega, ?_, M4.out.chg.drewN _⟩
          · simp only [HLEN.out, Nat.add_sub_cancel_left, Int.natCast_add]
          · simp only [HLEN.out]
            exact HVD.out.chg (M4.out.chg.drewN _) (fun _ _ h => h)
      · have hbz : (r2.2.2 != 0) = true := by rw [bne_iff_ne]; exact hbad
        have HBN := Lib.hid hbz
        clear HE4 hbad hbig
        go_wp2_with (first | (go_at_call 40; refine (left_mine M4.out).mono ?_; rintro e w' ⟨rfl, rfl⟩) | (go_at_call 43; refine (bad_mine M4.out).mono ?_; rintro e w' ⟨rfl, rfl⟩))
        refine bodyPost_ret (v := .tuple #[.int .u64 0, .slice none 0 0, .int .i64 0, .int .i64 r2.2.2]) (by simp [results, Tryd.results32, go_sem]) rfl ?_
        exact SplitPost.bad (by rw [HE5.out, if_pos (by simpa using HBN.out)]) M4.out.chg
end Go.Proofs.YtcdnjeojgjakdaaDoor
