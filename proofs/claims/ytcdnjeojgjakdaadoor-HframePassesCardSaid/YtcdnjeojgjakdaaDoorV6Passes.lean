/- Layer 6 (hframe): the law HframePasses. -/
import Derived.Test.YtcdnjeojgjakdaaDoorV6Alive
import Derived.Test.YtcdnjeojgjakdaaDoorV6Open
namespace Go.Proofs.YtcdnjeojgjakdaaDoor
open Go.RowKit

set_option maxRecDepth 100000 in
set_option maxHeartbeats 2000000 in
theorem passes_any (n : Nat) (hn : n < 256) (A : Option Addr) (c : Nat) (m : List Nat) (W : World) (hv : View W (fun _ => True) A m.length (u8s m)) (hx : ∀ x ∈ m, x < 256) (hT : Tab W) :
    Calls Tryd.prog 7 #[.int .u8 n, .slice A m.length c] W fun e w' => e = .returned (.bool true) ∧ Chg none_ W w' := by
  have HAL := Lib.hid (alive_any W hT)
  have HV := Lib.hid hv
  have HX := Lib.hid hx
  clear hv hx hT
  by_cases h63 : 63 < m.length
  · have h1 : (63 : Int) < (m.length : Int) := by omega
    go_enter Tryd.func7, Tryd.ntmps7
    go_wp2_with (go_at_call 10; refine HAL.out.mono ?_; rintro e w1 ⟨rfl, hc1⟩)
    go_ret
    exact ⟨rfl, hc1⟩
  · have h1 : ¬ (63 : Int) < (m.length : Int) := by omega
    obtain ⟨i0, hi, hz0, hz1, hz2⟩ := info_parts info5
    go_enter Tryd.func7, Tryd.ntmps7
    have hu : u8s [14 + n % 50, m.length] = [Value.int .u8 (14 + (n : Int) % 50), Value.int .u8 (m.length : Int)] := by simp [u8s]
    have HO0 : Hid (∀ w : World, (w.alloc (.cells [Value.int .u8 (14 + (n : Int) % 50), Value.int .u8 (m.length : Int)].toArray 5)).ownsRow w.heap.size 5 1 (.slice (some ⟨w.heap.size, 0, none⟩) 2 2) 2 (u8s [14 + n % 50, m.length])) := fun w => own_of_row (by rw [hu]; exact Row.new _ _ _) (Nat.le_refl _) rfl (by simp [maxLen])
    clear hu
    go_wp2_with (first | (go_at_call 10; refine HAL.out.mono ?_; rintro e w1 ⟨rfl, hc1⟩) | (at_builtin; refine wpList_append_view rfl _ _ 24 rfl 5 i0 _ 1 Tryd.underlying24 hi hz0 hz1 hz2 rfl w1.heap.size (.slice (some ⟨w1.heap.size, 0, none⟩) 2 2) 2 (u8s [14 + n % 50, m.length]) rfl (HO0.out w1) (fun _ => True) A m.length c (u8s m) rfl (HV.out.chg (hc1.alloc _) (fun _ _ h => h)) (u8s_one _) (by unfold maxLen; omega) (by omega) (by simp) ?_; intro v3 w3 hown3 hgrow3 _; have hc3 := ((Chg.refl none_ w1).alloc (.cells [Value.int .u8 (14 + (n : Int) % 50), Value.int .u8 (m.length : Int)].toArray 5)).append (Nat.le_refl _) (HO0.out w1) hgrow3; rw [u8s_append] at hown3; obtain ⟨A3, k3, rfl, _, _, _⟩ := View.own (T := fun _ => True) hown3 (fun _ _ => trivial); have HOW3 := Lib.hid hown3; have HC3 := Lib.hid (hc1.trans hc3); have HS3 := Lib.hid hc3.size; clear hown3 hgrow3 hc3) | (at_builtin; refine wpList_append_view rfl _ _ 24 rfl 5 i0 _ 1 Tryd.underlying24 hi hz0 hz1 hz2 rfl w1.heap.size (.slice A3 (2 + m.length) k3) (2 + m.length) (u8s ([14 + n % 50, m.length] ++ m)) rfl (own_chg HOW3.out ((Chg.refl none_ w3).alloc (.cells [Value.int .u8 7, .int .u8 1, .int .u8 4].toArray 5)) (fun _ _ h => h)) (fun _ => True) _ 3 _ (u8s [7, 1, 4]) rfl (View.row (cs := u8s [7, 1, 4]) (Row.new w3 _ (u8s [7, 1, 4])) (by simp) trivial) (u8s_one _) (by unfold maxLen; omega) (by omega) (by have := HS3.out; simp; omega) ?_; intro v4 w4 hown4 hgrow4 _; have hc4 := ((HC3.out.alloc (.cells [Value.int .u8 7, .int .u8 1, .int .u8 4].toArray 5))).grown hgrow4 (fun k hk hlt => by have := ((own_chg HOW3.out ((Chg.refl none_ w3).alloc (.cells [Value.int .u8 7, .int .u8 1, .int .u8 4].toArray 5)) (fun _ _ h => h)).lt k hk).1; have := hc1.size; omega); rw [u8s_append] at hown4; have HOW4 := Lib.hid hown4; have HC4 := Lib.hid hc4; clear hown4 hgrow4 hc4))
    obtain ⟨A4, k4, rfl, hk4, _, hv4⟩ := View.own (T := fun _ => True) HOW4.out (fun _ _ => trivial)
    have hL : (([14 + n % 50, m.length] ++ m) ++ [7, 1, 4]).length = 2 + m.length + 3 := by simp; omega
    have HN := Lib.hid (next_any w4 (fun _ => True) A4 k4 (([14 + n % 50, m.length] ++ m) ++ [7, 1, 4]) (by rw [hL]; exact hv4) (by rw [hL]; omega) (by rw [hL]; exact hk4) (fun x hx => by
      simp only [List.mem_append, List.mem_cons, List.not_mem_nil, or_false] at hx
      rcases hx with ((rfl | rfl) | hx) | rfl | rfl | rfl
      · omega
      · omega
      · exact HX.out x hx
      all_goals omega))
    have heq : (((2 + m.length : Nat) : Int) == 2 + (m.length : Int)) = true := by simp
    have hnx : nextH (([14 + n % 50, m.length] ++ m) ++ [7, 1, 4]) = ({}, 2 + m.length, 6) := by
      rw [List.append_assoc, Nat.add_comm 2]
      exact next_pass (14 + n % 50) m (by omega) (by omega) (by omega) [7, 1, 4]
    rw [hnx, hL] at HN
    clear hnx hL hv4 hk4
    refine HN.out.mono ?_
    rintro e w6 ⟨ss6, sd6, rfl, hd6, hc6⟩
    have HC6 := Lib.hid (HC4.out.trans hc6)
    have h1s6 : Hid ((cellsH {} ss6 sd6).all (·.oneCell') = true) := by
      obtain ⟨⟨_, _, rfl, _⟩, ⟨_, _, rfl, _⟩⟩ := hd6; rfl
    have HSM := Lib.hid (fun w' (hc : Chg none_ w6 w') => sameH_any {} {} ss6 sd6 (.slice none 0 0) (.slice none 0 0) w' _ _ (hd6.chg hc (fun _ _ h => h)) (zeroD w' (fun _ => True)) (by simp) (by simp))
    rw [decide_eq_true rfl] at HSM
    clear hc6 hd6 HN
    unfold aggH at HSM ⊢
    simp only
    go_wp2_with (first | ((with_reducible show wpList _ _ _ (⟨_, .store 26 (.tmp 7) _, _, _, _, _⟩ :: _) _ _); refine wpList_store_Row (xs := cellsH {} ss6 sd6) rfl rfl rfl (Row.new w6 26 zcH) rfl rfl sizeH h1s6.out ?_; intro w7 hr7 hch7 hs7; have c7 := hch7 none_ w6 ((Chg.refl none_ w6).alloc _) (fun h => absurd h (by omega)); clear hch7 hs7) | ((with_reducible show wpList _ _ _ (⟨_, .load 26 (.tmp 7), _, _, _, _⟩ :: _) _ _); refine wpList_load_Row rfl rfl rfl hr7 Tryd.underlying26 rfl sizeH ?_) | (go_at_call 17; refine (HSM.out _ c7).mono ?_; rintro e w8 ⟨rfl, c8⟩))
    go_ret
    exact ⟨rfl, (HC6.out.trans c7).trans c8⟩

theorem walk_HframePasses (a : Int) (A : Option Addr) (len c : Nat) (zs : List Int) (W : World) (ha : (Lit.int .u8 a).wf = true) (hz : IsRow .u8 W A len c zs) (hT : Tab W) :
    Calls Tryd.prog 7 #[.int .u8 a, .slice A len c] W fun e w' => e = .returned (.bool true) ∧ Chg none_ W w' := by
  obtain ⟨m, rfl, _, _, hmb, hvm⟩ := hz.u8
  obtain ⟨n, rfl⟩ := nat_of_wf ha rfl
  have hn : n < 256 := by
    have h2 : (decide ((0 : Int) ≤ n) && decide ((n : Int) ≤ 255)) = true := ha
    simp only [Bool.and_eq_true, decide_eq_true_eq] at h2
    omega
  exact passes_any n hn A c m W hvm hmb hT
end Go.Proofs.YtcdnjeojgjakdaaDoor
