/- Layer 5 (params): the law ParamsBack. -/
import Derived.Test.YtgdkfeifijkknaaDoorV5Twice
import Derived.Test.YtgdkfeifijkknaaDoorV5PutG
namespace Go.Proofs.YtgdkfeifijkknaaDoor
open Go.RowKit

theorem idle_comm (a b : Nat) : idleM b a = idleM a b := by
  unfold idleM
  by_cases h : a = 0 ∨ b = 0
  · rw [if_pos h, if_pos (by omega)]; omega
  · rw [if_neg h, if_neg (by omega)]; omega
theorem idle_what (a b : Nat) : (idleM a b = a ∨ idleM a b = b) ∧ (0 < idleM a b ∨ (a = 0 ∧ b = 0)) ∧ (a = 0 ∨ b = 0 ∨ (idleM a b ≤ a ∧ idleM a b ≤ b)) := by
  unfold idleM
  by_cases h : a = 0 ∨ b = 0
  · rw [if_pos h]; omega
  · rw [if_neg h]; omega
theorem back_put (p : Pm) (o : p.Ok) (hm : mayB p = true) (m : List Nat) (hl : m.length < 64) : readM (putP p ++ [33, m.length] ++ m) = (p, 0) := by
  have := read_more p hm o.tok m hl
  unfold putP
  rw [hm, if_pos rfl]
  simpa using this

set_option maxRecDepth 100000 in
set_option maxHeartbeats 4000000 in
theorem back_no (p : Pm) (A : Option Addr) (cap a b : Nat) (m : List Nat) (W : World) (o : p.Ok) (hm : ∀ x ∈ m, x < 256) (hv : View W (fun _ => True) A m.length (u8s m)) (hcap : m.length ≤ cap ∧ cap ≤ maxLen) (hT : Tab W) (hmay : mayB p = false) : Calls Tryd.prog 5 #[aggP p, .slice A m.length cap, .int .u64 a, .int .u64 b] W fun e w' => e = .returned (.bool true) ∧ Chg none_ W w' := by
  have HLp := Lib.hid (cP_len p o.tok)
  have HC0 := Lib.hid ((Chg.refl none_ W).alloc (.cells (cellsP p).toArray 25))
  have HXp := Lib.hid (fun w' (hc : Chg none_ (W.alloc (.cells (cellsP p).toArray 25)) w') => (Row.new W 25 (cellsP p)).chg hc (fun h => h))
  have HAL := Lib.hid (alive_any _ (hT.chg HC0.out (fun h => h)))
  have HMp := Lib.hid (fun w => may_any p o.tok w)
  simp only [hmay] at HMp
  have hcap1 := hcap.1
  have hcap2 := hcap.2
  unfold maxLen at hcap2
  clear o hT hmay hv hcap hm
  unfold aggP at *
  generalize cellsP p = cp at *
  go_enter Tryd.func5, Tryd.ntmps5
  go_wp2_with (first | ((with_reducible show wpList _ _ _ (⟨_, .load 25 (.tmp 4), _, _, _, _⟩ :: _) _ _); refine wlP rfl rfl rfl (HXp.out _ (by assumption)) HLp.out ?_) | (go_at_call 9; refine HAL.out.mono ?_; rintro e w1 ⟨rfl, hc1⟩) | (go_at_call 10; refine (HMp.out _).mono ?_; rintro e w2 ⟨rfl, hm2⟩; have hc2 := hc1.trans hm2))
  go_ret
  exact ⟨rfl, HC0.out.trans hc2⟩

set_option maxRecDepth 100000 in
set_option maxHeartbeats 4000000 in
theorem back_long (p : Pm) (A : Option Addr) (cap a b : Nat) (m : List Nat) (W : World) (o : p.Ok) (hm : ∀ x ∈ m, x < 256) (hv : View W (fun _ => True) A m.length (u8s m)) (hcap : m.length ≤ cap ∧ cap ≤ maxLen) (hT : Tab W) (hmay : mayB p = true) (hl : 60 < m.length) : Calls Tryd.prog 5 #[aggP p, .slice A m.length cap, .int .u64 a, .int .u64 b] W fun e w' => e = .returned (.bool true) ∧ Chg none_ W w' := by
  have HLp := Lib.hid (cP_len p o.tok)
  have HC0 := Lib.hid ((Chg.refl none_ W).alloc (.cells (cellsP p).toArray 25))
  have HXp := Lib.hid (fun w' (hc : Chg none_ (W.alloc (.cells (cellsP p).toArray 25)) w') => (Row.new W 25 (cellsP p)).chg hc (fun h => h))
  have HAL := Lib.hid (alive_any _ (hT.chg HC0.out (fun h => h)))
  have HMp := Lib.hid (fun w => may_any p o.tok w)
  simp only [hmay] at HMp
  have hcap1 := hcap.1
  have hcap2 := hcap.2
  unfold maxLen at hcap2
  have hl2 : (60 : Int) < (m.length : Int) := by omega
  clear o hT hmay hv hcap hm hl
  unfold aggP at *
  generalize cellsP p = cp at *
  go_enter Tryd.func5, Tryd.ntmps5
  go_wp2_with (first | ((with_reducible show wpList _ _ _ (⟨_, .load 25 (.tmp 4), _, _, _, _⟩ :: _) _ _); refine wlP rfl rfl rfl (HXp.out _ (by assumption)) HLp.out ?_) | (go_at_call 9; refine HAL.out.mono ?_; rintro e w1 ⟨rfl, hc1⟩) | (go_at_call 10; refine (HMp.out _).mono ?_; rintro e w2 ⟨rfl, hm2⟩; have hc2 := hc1.trans hm2))
  go_ret
  exact ⟨rfl, HC0.out.trans hc2⟩

set_option maxRecDepth 100000 in
set_option maxHeartbeats 4000000 in
theorem back_yes (p : Pm) (A : Option Addr) (cap a b : Nat) (m : List Nat) (W : World) (o : p.Ok) (hm : ∀ x ∈ m, x < 256) (hv : View W (fun _ => True) A m.length (u8s m)) (hcap : m.length ≤ cap ∧ cap ≤ maxLen) (hT : Tab W) (hmay : mayB p = true) (hl : m.length ≤ 60) : Calls Tryd.prog 5 #[aggP p, .slice A m.length cap, .int .u64 a, .int .u64 b] W fun e w' => e = .returned (.bool true) ∧ Chg none_ W w' := by
  have HLp := Lib.hid (cP_len p o.tok)
  have HC0 := Lib.hid ((Chg.refl none_ W).alloc (.cells (cellsP p).toArray 25))
  have HXp := Lib.hid (fun w' (hc : Chg none_ (W.alloc (.cells (cellsP p).toArray 25)) w') => (Row.new W 25 (cellsP p)).chg hc (fun h => h))
  have HAL := Lib.hid (alive_any _ (hT.chg HC0.out (fun h => h)))
  have HMp := Lib.hid (fun w => may_any p o.tok w)
  simp only [hmay] at HMp
  have hcap1 := hcap.1
  have hcap2 := hcap.2
  unfold maxLen at hcap2
  have hl2 : ¬ (60 : Int) < (m.length : Int) := by omega
  have hw8 : IntKind.u8.wrap (m.length : Int) = (m.length : Int) := IntWalk.u8_in _ (by omega)
  have HTX := Lib.hid (fun w' (hc : Chg none_ (W.alloc (.cells (cellsP p).toArray 25)) w') => (hT.chg HC0.out (fun h => h)).chg hc (fun h => h))
  have HPp := Lib.hid (fun w hT => putP_got p w o.tok hT)
  have HLL := Lib.hid (putP_len p o.tok)
  have HLT := Lib.hid (putP_lt p o)
  have HRB := Lib.hid (back_put p o hmay m (by omega))
  have HPE := Lib.hid (pm_eql p p o o)
  rw [decide_eq_true rfl] at HPE
  have HLe := Lib.hid (cP_len p o.tok)
  have HI := Lib.hid (fun w => idle_any a b w)
  have HJ := Lib.hid (fun w => idle_any b a w)
  rw [idle_comm a b] at HJ
  have HIW := Lib.hid (idle_what a b)
  have HVM0 := Lib.hid hv
  have HM := Lib.hid hm
  clear o hT hmay hv hcap hm
  unfold aggP at *
  obtain ⟨L, hL⟩ : ∃ L, putP p = L := ⟨_, rfl⟩
  rw [hL] at HLT HLL HRB HPp
  clear hL
  have hl200 := HLL.out
  obtain ⟨i0, hi, hz0, hz1, hz2⟩ := info_parts info5
  generalize idleM a b = z at *
  go_enter Tryd.func5, Tryd.ntmps5
  go_wp2_with (first | ((with_reducible show wpList _ _ _ (⟨_, .load 25 (.tmp 4), _, _, _, _⟩ :: _) _ _); refine wlP rfl rfl rfl (HXp.out _ (by assumption)) HLp.out ?_) | (go_at_call 9; refine HAL.out.mono ?_; rintro e w1 ⟨rfl, hc1⟩) | (go_at_call 10; refine (HMp.out _).mono ?_; rintro e w2 ⟨rfl, hm2⟩; have hc2 := hc1.trans hm2))
  refine (HPp.out _ (HTX.out _ hc2)).mono ?_
  rintro e w3 ⟨A3, k3, rfl, f3, hc3⟩
  have HC3 := Lib.hid (hc2.trans hc3)
  have HC23 := Lib.hid hc3
  have HOWN := Lib.hid (own_chg f3.own ((Chg.refl none_ w3).alloc (.cells (u8s [33, m.length]).toArray 5)) (fun _ _ h => h))
  have HCA := Lib.hid (hc3.alloc (.cells (u8s [33, m.length]).toArray 5))
  have HVB := Lib.hid (View.row (T := fun _ => True) (Row.new w3 5 (u8s [33, m.length])) (n := 2) (Nat.le_refl _) trivial)
  have HSZ := Lib.hid HCA.out.size
  have HVM := Lib.hid (HVM0.out.chg (HC0.out.trans hc2) (fun _ _ h => h))
  have HC02 := Lib.hid hc2
  clear hc1 hm2 hc2 hc3 f3
  go_wp2_with (at_builtin; first | (refine wpList_append_view rfl _ _ 29 rfl 5 i0 _ 1 Tryd.underlying29 hi hz0 hz1 hz2 rfl w2.heap.size (.slice A3 L.length k3) L.length (u8s L) rfl HOWN.out (fun _ => True) (some ⟨w3.heap.size, 0, none⟩) 2 2 (u8s [33, m.length]) rfl HVB.out (u8s_one _) (by unfold maxLen; omega) (by omega) HSZ.out ?_; intro v6 w6 hown6 hgrow6 hob6; have hc6 := HCA.out.append (Nat.le_refl _) HOWN.out hgrow6; rw [u8s_append] at hown6; have HOWN6 := Lib.hid hown6; have HC6 := Lib.hid hc6; clear hown6 hc6 hgrow6 hob6) | (refine wpList_append_view rfl _ _ 29 rfl 5 i0 _ 1 Tryd.underlying29 hi hz0 hz1 hz2 rfl w2.heap.size v6 (L.length + 2) (u8s (L ++ [33, m.length])) rfl HOWN6.out (fun _ => True) A m.length cap (u8s m) rfl (HVM.out.chg HC6.out (fun _ _ h => h)) (u8s_one _) (by unfold maxLen; omega) (by omega) HC6.out.size ?_; intro v7 w7 hown7 hgrow7 hob7; have hc7 := HC6.out.append (Nat.le_refl _) HOWN6.out hgrow7; rw [u8s_append] at hown7; have HOWN7 := Lib.hid hown7; have HC7 := Lib.hid hc7; clear hown7 hc7 hgrow7 hob7))
  obtain ⟨A7, k7, rfl, _, _, hv7⟩ := View.own (T := fun _ => True) HOWN7.out (fun _ _ => trivial)
  have hLL : (L ++ [33, m.length] ++ m).length = L.length + 2 + m.length := by simp; omega
  have HRD2 := Lib.hid (pread_any w7 (fun _ => True) A7 k7 (L ++ [33, m.length] ++ m) (by rw [hLL]; exact hv7) (by rw [hLL]; omega) (fun x hx => by
    simp only [List.mem_append, List.mem_cons, List.not_mem_nil, or_false] at hx
    rcases hx with (h | h | h) | h
    · exact HLT.out x h
    · omega
    · omega
    · exact HM.out x h))
  rw [HRB.out, hLL] at HRD2
  clear hv7 hLL
  go_wp2_with fail
  refine HRD2.out.mono ?_
  rintro e w8 ⟨rfl, _, hc8⟩
  have HC8 := Lib.hid hc8
  clear hc8 HRD2
  unfold aggP
  simp only
  have HX4 := Lib.hid (fun w' (hc : Chg none_ w8 w') => HXp.out w' (((HC02.out.trans HC7.out).trans HC8.out).trans hc))
  have hpe := HPE.out
  go_wp2_with (first | ((with_reducible show wpList _ _ _ (⟨_, .store 25 _ _, _, _, _, _⟩ :: _) _ _); refine wpList_store_Row (xs := cellsP p) rfl rfl rfl (Row.new w8 25 (cellsP {})) rfl HLe.out (by rw [HLp.out]; exact sizeP) (cellsA_one _) ?_; intro w9 hr9 hch9 hs9; have hc9 := hch9 none_ w8 ((Chg.refl none_ w8).alloc _) (fun h => absurd h (by omega)); clear hch9 hs9) | ((with_reducible show wpList _ _ _ (⟨_, .load 25 (.tmp 10), _, _, _, _⟩ :: _) _ _); refine wlP rfl rfl rfl hr9 HLp.out ?_) | ((with_reducible show wpList _ _ _ (⟨_, .load 25 (.tmp 4), _, _, _, _⟩ :: _) _ _); refine wlP rfl rfl rfl (HX4.out _ (by assumption)) HLp.out ?_) | (go_at_call 15; first | (with_reducible refine (HI.out _).mono ?_; rintro e w10 ⟨rfl, rfl⟩) | (refine (HJ.out _).mono ?_; rintro e w11 ⟨rfl, rfl⟩)))
  all_goals
    go_ret
    refine ⟨ret_bool ?_, ((((HC0.out.trans HC02.out).trans HC7.out).trans HC8.out).trans hc9)⟩
    have hiw := HIW.out
    clear hpe HPE HI HJ HX4 hr9 HXp HIW
    first | rfl | (exfalso; omega) | ((have hab : a ≤ b := (by omega)); simp [hab])

theorem back_walk (p : Pm) (A : Option Addr) (len cap : Nat) (zs : List Int) (a b : Int) (W : World) (o : p.Ok) (hr : IsRow .u8 W A len cap zs) (wa : (Lit.int .u64 a).wf = true) (wb : (Lit.int .u64 b).wf = true) (hT : Tab W) :
    Calls Tryd.prog 5 #[aggP p, .slice A len cap, .int .u64 a, .int .u64 b] W fun e w' => e = .returned (.bool true) ∧ Chg none_ W w' := by
  obtain ⟨n, rfl⟩ := nat_of_wf wa rfl
  obtain ⟨k, rfl⟩ := nat_of_wf wb rfl
  obtain ⟨m, rfl, h1, h2, h3, h4⟩ := hr.u8
  cases hmay : mayB p
  · exact back_no p A cap n k m W o h3 h4 ⟨h1, h2⟩ hT hmay
  · by_cases hl : m.length ≤ 60
    · exact back_yes p A cap n k m W o h3 h4 ⟨h1, h2⟩ hT hmay hl
    · exact back_long p A cap n k m W o h3 h4 ⟨h1, h2⟩ hT hmay (by omega)
end Go.Proofs.YtgdkfeifijkknaaDoor
