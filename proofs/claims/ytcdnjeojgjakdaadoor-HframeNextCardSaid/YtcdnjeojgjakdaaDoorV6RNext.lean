/- Layer 6 (hframe), the document's words: the frame that bytes begin with. -/
import Derived.Test.YtcdnjeojgjakdaaDoorV6RRight
import Derived.Test.YtcdnjeojgjakdaaDoorV6Hf
import Derived.Test.YtcdnjeojgjakdaaDoorV6Math
import Derived.Test.YtcdnjeojgjakdaaDoorV6Next
import Derived.Test.YtcdnjeojgjakdaaDoorV4RSt
import Derived.Test.YtcdnjeojgjakdaaDoorRes
import Derived.Test.YtcdnjeojgjakdaaDoorAppN
namespace Go.Proofs.YtcdnjeojgjakdaaDoor
open Go.RowKit

theorem rdInt_cut (xs : List Nat) (hx : ∀ x ∈ xs, x < 256) (m : Nat) (hm : 8 ≤ m) :
    (rdInt (xs, 0) = (0, ([], 2)) ∧ rdInt (xs.take m, 0) = (0, ([], 2))) ∨
    ∃ n k, k ≤ 8 ∧ k ≤ xs.length ∧ rdInt (xs, 0) = (n, (xs.drop k, 0)) ∧ rdInt (xs.take m, 0) = (n, ((xs.drop k).take (m - k), 0)) := by
  cases xs with
  | nil => left; simp [rdInt]
  | cons f r =>
    have hf := needs_le f (hx f (by simp))
    obtain ⟨m', rfl⟩ : ∃ m', m = m' + 1 := ⟨m - 1, by omega⟩
    rw [List.take_succ_cons]
    by_cases h : needs f ≤ r.length
    · right
      refine ⟨foldB (f % 64) (r.take (needs f)), needs f + 1, by omega, by simp; omega, ?_, ?_⟩
      · simp [rdInt, h]
      · have h2 : needs f ≤ (r.take m').length := by rw [List.length_take]; omega
        have e1 : (r.take m').take (needs f) = r.take (needs f) := by rw [List.take_take, Nat.min_eq_left (by omega)]
        have e2 : (r.take m').drop (needs f) = (r.drop (needs f)).take (m' - needs f) := by rw [List.drop_take]
        have e3 : m' + 1 - (needs f + 1) = m' - needs f := by omega
        simp only [rdInt, h2, if_pos, e1, e2, e3, List.drop_succ_cons, ne_eq, not_true_eq_false, if_false]
    · left
      have e : r.take m' = r := List.take_of_length_le (by omega)
      rw [e]
      simp [rdInt, h]

/-- What the document reads ahead of a frame's own bytes. -/
def rsplitM (b : List Nat) : Nat × List Nat × Nat × Int :=
  if (rdInt (b, 0)).2.2 = 0 ∧ forbN (rdInt (b, 0)).1 = true then (0, [], 0, 3)
  else if (rdBytes (rdInt (rdInt (b, 0)).2).1 (rdInt (rdInt (b, 0)).2).2).2.2 ≠ 0 then (0, [], 0, 2)
  else ((rdInt (b, 0)).1, (rdBytes (rdInt (rdInt (b, 0)).2).1 (rdInt (rdInt (b, 0)).2).2).1, b.length - (rdBytes (rdInt (rdInt (b, 0)).2).1 (rdInt (rdInt (b, 0)).2).2).2.1.length, 0)

theorem split_same (b : List Nat) (hb : ∀ x ∈ b, x < 256) : splitM b = rsplitM b := by
  have bad2 : rdInt (([] : List Nat), (2 : Int)) = (0, ([], 2)) := by simp [rdInt]
  have bad3 : rdInt (([] : List Nat), (3 : Int)) = (0, ([], 3)) := by simp [rdInt]
  have bb2 : rdBytes 0 (([] : List Nat), (2 : Int)) = ([], ([], 2)) := by simp [rdBytes]
  have f0 : forbN 0 = false := by decide
  rcases rdInt_cut b hb 16 (by omega) with ⟨h1, h2⟩ | ⟨n1, k1, hk1, hl1, h1, h2⟩
  · unfold splitM rsplitM
    simp only [h1, h2, f0, bad2, bb2]
    simp [bad2]
  · cases hf : forbN n1 with
    | true =>
      unfold splitM rsplitM
      simp only [h1, h2, hf]
      simp [failSt, bad3]
    | false =>
      rcases rdInt_cut (b.drop k1) (fun x hx => hb x (List.mem_of_mem_drop hx)) (16 - k1) (by omega) with ⟨h3, h4⟩ | ⟨n2, k2, hk2, hl2, h3, h4⟩
      · unfold splitM rsplitM
        simp only [h1, h2, hf, h3, bb2]
        simp [h4]
      · have hq : ((b.drop k1).drop k2).length = b.length - k1 - k2 := by rw [List.length_drop, List.length_drop]
        have hst : (b.take 16).length - (((b.drop k1).drop k2).take (16 - k1 - k2)).length = k1 + k2 := by
          rw [List.length_take, List.length_take, hq]
          rw [List.length_drop] at hl2
          omega
        have hdd : (b.drop k1).drop k2 = b.drop (k1 + k2) := by rw [List.drop_drop]
        rw [List.length_drop] at hl2
        have hbl : b.length - (k1 + k2) = b.length - k1 - k2 := by omega
        by_cases hn : n2 ≤ b.length - k1 - k2
        · have e1 : rdBytes n2 ((b.drop k1).drop k2, 0) = (((b.drop k1).drop k2).take n2, (((b.drop k1).drop k2).drop n2, 0)) := by simp only [rdBytes, hq, hn]; simp
          have e2 : ¬ (b.length - (k1 + k2) < n2) := by omega
          have e3 : b.length - ((((b.drop k1).drop k2).drop n2).length) = k1 + k2 + n2 := by rw [List.length_drop, hq]; omega
          unfold splitM rsplitM
          simp only [h1, h2, hf, h3, h4, e1, Bool.false_eq_true, if_false, hst, e2, e3, and_false, ne_eq, not_true_eq_false]
          rw [hdd]
        · have e1 : rdBytes n2 ((b.drop k1).drop k2, 0) = ([], ([], 2)) := by simp only [rdBytes, hq, hn]; simp
          have e2 : b.length - (k1 + k2) < n2 := by omega
          unfold splitM rsplitM
          simp only [h1, h2, hf, h3, h4, e1, Bool.false_eq_true, if_false, hst, e2, if_true, and_false, ne_eq]
          simp [failSt]

/-- A frame's own bytes, as the document takes them. -/
def rtakeK : KK → List Nat → Hf → Hf × Bool
  | .data, own, f => ({ f with data := own }, true)
  | .id, own, f => ({ f with id := (rdInt (own, 0)).1 }, decide ((rdInt (own, 0)).2.2 = 0 ∧ (rdInt (own, 0)).2.1 = []))
  | .sets, own, f => ({ f with sets := (takeS 17 [] (own, 0)).1 }, decide ((takeS 17 [] (own, 0)).2.2 = 0 ∧ (takeS 17 [] (own, 0)).2.1 = []))
theorem takeS_end : ∀ (n : Nat) (l : List (Nat × Nat)) (s : St), (takeS n l s).1.length < l.length + n → (takeS n l s).2.1 = [] := by
  intro n
  induction n with
  | zero => intro l s h; simp [takeS] at h
  | succ n ih =>
    intro l s h
    unfold takeS at h ⊢
    by_cases hs : s.1 = []
    · rw [if_pos hs]; exact hs
    · rw [if_neg hs] at h ⊢
      exact ih _ _ (by simp only [List.length_append, List.length_singleton]; omega)
theorem take_same (k : KK) (own : List Nat) (f : Hf) : ((takeK k own f).2 && hasK k (takeK k own f).1) = ((rtakeK k own f).2 && hasK k (rtakeK k own f).1) ∧ (takeK k own f).1 = (rtakeK k own f).1 := by
  cases k with
  | data => exact ⟨rfl, rfl⟩
  | id => exact ⟨rfl, rfl⟩
  | sets =>
    refine ⟨?_, rfl⟩
    show (decide _ && (setsB (takeS 17 [] (own, 0)).1 && _)) = (decide _ && (setsB (takeS 17 [] (own, 0)).1 && _))
    cases hs : setsB (takeS 17 [] (own, 0)).1 with
    | false => simp
    | true =>
      have h16 := (of_decide_eq_true hs).1
      have e := takeS_end 17 [] (own, 0) (by simp; omega)
      rw [e]
      simp only [and_true]
      rfl

/-- The document's answer, told plainly. -/
def rnextM (b : List Nat) : Hf × Nat × Int :=
  match rsplitM b with
  | (number, own, n, e) => if e ≠ 0 then ({}, 0, e) else match kkM number with
    | none => ({}, n, 6)
    | some k => if (rtakeK k own { kind := number }).2 && hasK k (rtakeK k own { kind := number }).1 then ((rtakeK k own { kind := number }).1, n, 0) else ({}, 0, 3)
theorem next_same (b : List Nat) (hb : ∀ x ∈ b, x < 256) : nextH b = rnextM b := by
  unfold nextH rnextM
  rw [split_same b hb]
  obtain ⟨number, own, n, e⟩ := rsplitM b
  simp only
  split
  · rfl
  · cases kkM number with
    | none => rfl
    | some k =>
      have h := take_same k own { kind := number }
      simp only
      rw [h.1, h.2]

/-- The document's answer. -/
def RNextPost (m : Hf × Nat × Int) (w : World) (e : Ending) (w' : World) : Prop :=
  ∃ ss sd, e = .returned (.tuple #[aggH m.1 ss sd, .int .i64 (m.2.1 : Nat), .int .i64 m.2.2]) ∧ HfD w' (fun _ => True) m.1 ss sd ∧ Chg none_ w w'
theorem chg_up1 {w w1 w2 : World} {g : Nat} (h : Chg none_ w w1) (k : Chg (· = g) w1 w2) (hg : w.heap.size ≤ g) : Chg none_ w w2 :=
  h.andThen k (fun b hb e => by omega)

theorem rdBytes_le2 (n : Nat) (s : St) (hs : s.1.length ≤ 1000000) : (rdBytes n s).1.length ≤ 1000000 := by
  unfold rdBytes
  split
  · simp
  · split
    · rw [List.length_take]; omega
    · simp
theorem set4 {w W : World} (h : Chg none_ w W) (a b c d : Value) : Chg none_ w ((((W.setCell ⟨w.heap.size, 0, none⟩ a).setCell ⟨w.heap.size, 1, none⟩ b).setCell ⟨w.heap.size, 2, none⟩ c).setCell ⟨w.heap.size, 3, none⟩ d) :=
  Chg.setCell (S := none_) (Chg.setCell (S := none_) (Chg.setCell (S := none_) (Chg.setCell (S := none_) h (p := ⟨w.heap.size, 0, none⟩) (fun q => absurd q (Nat.lt_irrefl _)) a) (p := ⟨w.heap.size, 1, none⟩) (fun q => absurd q (Nat.lt_irrefl _)) b) (p := ⟨w.heap.size, 2, none⟩) (fun q => absurd q (Nat.lt_irrefl _)) c) (p := ⟨w.heap.size, 3, none⟩) (fun q => absurd q (Nat.lt_irrefl _)) d
theorem set4s (W : World) (g : Nat) (a b c d : Value) : Chg (· = g) W ((((W.setCell ⟨g, 0, none⟩ a).setCell ⟨g, 1, none⟩ b).setCell ⟨g, 2, none⟩ c).setCell ⟨g, 3, none⟩ d).drew :=
  (Chg.setCell (S := (· = g)) (Chg.setCell (S := (· = g)) (Chg.setCell (S := (· = g)) (Chg.setCell (S := (· = g)) (Chg.refl _ W) (p := ⟨g, 0, none⟩) (fun _ => rfl) a) (p := ⟨g, 1, none⟩) (fun _ => rfl) b) (p := ⟨g, 2, none⟩) (fun _ => rfl) c) (p := ⟨g, 3, none⟩) (fun _ => rfl) d).drew
/-- The two frames and the reader, just made. -/
structure RMade (w W : World) (b : List Nat) (s : St) : Prop where
  rd : RS W (w.heap.size + 1 + 1) (fun k => k < w.heap.size) b s
  res : Row W w.heap.size 26 zcH
  box : Row W (w.heap.size + 1) 26 zcH
  chg : Chg none_ w W
theorem rmade (w : World) (A : Option Addr) (c : Nat) (b : List Nat) (hv : View w (fun _ => True) A b.length (u8s b)) (hm : b.length ≤ 1000000) (hcap : b.length ≤ c) (hb : ∀ x ∈ b, x < 256) (W : World)
    (hW : W = ((w.alloc (.cells zcH.toArray 26)).alloc (.cells zcH.toArray 26)).alloc (.cells [.slice A b.length c, .int .i64 0, .int .i64 0].toArray 67)) : RMade w W b (b, 0) := by
  subst hW
  have hc : Chg none_ w (((w.alloc (.cells zcH.toArray 26)).alloc (.cells zcH.toArray 26)).alloc (.cells [.slice A b.length c, .int .i64 0, .int .i64 0].toArray 67)) := (((Chg.refl none_ w).alloc _).alloc _).alloc _
  refine ⟨⟨0, ⟨A, c, ?_, hcap, Nat.zero_le _, hm, ?_⟩, fun _ => rfl, fun q => absurd rfl q, hb⟩, ?_, ?_, hc⟩
  · have q := Row.new ((w.alloc (.cells zcH.toArray 26)).alloc (.cells zcH.toArray 26)) 67 [.slice A b.length c, .int .i64 0, .int .i64 0]
    simpa using q
  · exact (hv.mono (fun k hk _ => hk)).chg hc (fun _ _ h => h)
  · exact (Row.new1 w (.cells zcH.toArray 26) 26 zcH).alloc _
  · have q := (Row.new (w.alloc (.cells zcH.toArray 26)) 26 zcH).alloc (.cells [.slice A b.length c, .int .i64 0, .int .i64 0].toArray 67)
    simpa using q
/-- The reader reads. -/
theorem RMade.read {w W W' : World} {b : List Nat} {s s' : St} (h : RMade w W b s) (hr : RS W' (w.heap.size + 1 + 1) (fun k => k < w.heap.size) b s') (hc : Chg (· = w.heap.size + 1 + 1) W W') : RMade w W' b s' :=
  ⟨hr, h.res.chg hc (by omega), h.box.chg hc (by omega), chg_up1 h.chg hc (by omega)⟩
theorem RMade.bad {w W : World} {b : List Nat} {s : St} (h : RMade w W b s) : W.cell? ⟨w.heap.size + 1 + 1, 2, none⟩ = some (.int .i64 s.2) := by
  obtain ⟨_, _, _, h1⟩ := h.rd.bad
  exact h1.cell 2

theorem rright_four (f : Hf) (ss sd : Value) (w : World) (T : Nat → Prop) (hf : HfD w T f ss sd) (hk : f.kind = 4) : Calls Tryd.prog 13 #[aggH f ss sd] w fun e w' => e = .returned (.bool (rightH f)) ∧ Chg none_ w w' := by
  by_cases h2 : f.id = 0 ∧ f.data.length = 0 ∧ f.sets.length ≤ 16
  · exact rright_sets f ss sd w T hf hk h2.1 h2.2.1 h2.2.2
  · exact rright_sets_no f ss sd w T hf hk h2

section
variable (w : World) (A : Option Addr) (c : Nat) (b : List Nat)

set_option maxRecDepth 100000 in
set_option maxHeartbeats 2000000 in
theorem rnext_forb (hv : View w (fun _ => True) A b.length (u8s b)) (hm : b.length ≤ 1000000) (hcap : b.length ≤ c) (hb : ∀ x ∈ b, x < 256) (tag : Nat) (s1 : St) (e1 : rdInt (b, 0) = (tag, s1)) (hz : s1.2 = 0) (hf : tag = 2 ∨ tag = 6 ∨ tag = 8 ∨ tag = 9) :
    Calls Tryd.prog 20 #[.slice A b.length c] w (RNextPost ({}, 0, 3) w) := by
  have E1 := Lib.hid e1
  clear e1
  have HV := Lib.hid hv
  have HB := Lib.hid hb
  clear hv hb
  go_enter Tryd.func20, Tryd.ntmps20
  go_wp2_with fail
  have HM0 := Lib.hid (rmade w A c b HV.out hm hcap HB.out _ rfl)
  refine (rint_st HM0.out.rd (by omega)).mono ?_
  rw [E1.out]
  simp only
  rintro e w2 ⟨rfl, x2, d2⟩
  have HM := Lib.hid (HM0.out.read x2 d2)
  have hbad := HM.out.bad
  rw [hz] at hbad
  clear x2 d2 HM0 hz E1
  rcases hf with rfl | rfl | rfl | rfl
  all_goals
    go_wp2_with (first | ((with_reducible show wpList _ _ _ (⟨_, .load 26 (.tmp 5), _, _, _, _⟩ :: _) _ _); refine wpList_load_Row rfl rfl rfl HM.out.box Tryd.underlying26 rfl sizeH ?_) | ((with_reducible show wpList _ _ _ (⟨_, .store 26 (.tmp 2) _, _, _, _, _⟩ :: _) _ _); refine wpList_store_Row (xs := zcH) rfl rfl rfl HM.out.res rfl rfl sizeH rfl ?_; intro w9 hr9 hch9 _; have c9 := hch9 none_ w HM.out.chg (fun h => absurd h (Nat.lt_irrefl _))))
    refine ret_row3 rfl rfl hr9 Tryd.underlying26 rfl sizeH rfl ?_
    exact ⟨_, _, rfl, zeroD _ _, c9⟩

set_option maxRecDepth 100000 in
set_option maxHeartbeats 2000000 in
theorem rnext_short (hv : View w (fun _ => True) A b.length (u8s b)) (hm : b.length ≤ 1000000) (hcap : b.length ≤ c) (hb : ∀ x ∈ b, x < 256) (tag n : Nat) (s1 s2 : St) (rb : List Nat × St) (e1 : rdInt (b, 0) = (tag, s1)) (hf : ¬ (s1.2 = 0 ∧ (tag = 2 ∨ tag = 6 ∨ tag = 8 ∨ tag = 9))) (e2 : rdInt s1 = (n, s2)) (e3 : rdBytes n s2 = rb) (hz : rb.2.2 ≠ 0) :
    Calls Tryd.prog 20 #[.slice A b.length c] w (RNextPost ({}, 0, 2) w) := by
  have E1 := Lib.hid e1
  have E2 := Lib.hid e2
  have E3 := Lib.hid e3
  clear e1 e2 e3
  have HV := Lib.hid hv
  have HB := Lib.hid hb
  clear hv hb
  go_enter Tryd.func20, Tryd.ntmps20
  go_wp2_with fail
  have HM0 := Lib.hid (rmade w A c b HV.out hm hcap HB.out _ rfl)
  refine (rint_st HM0.out.rd (by omega)).mono ?_
  rw [E1.out]
  simp only
  rintro e w2 ⟨rfl, x2, d2⟩
  have HM := Lib.hid (HM0.out.read x2 d2)
  have hbad := HM.out.bad
  clear x2 d2 HM0 E1
  by_cases hb1 : s1.2 = 0
  · rw [hb1] at hbad
    have hnf : ¬ (tag = 2 ∨ tag = 6 ∨ tag = 8 ∨ tag = 9) := fun q => hf ⟨hb1, q⟩
    clear hf hb1
    have n2 : ((tag : Int) == 2) = false := by rw [beq_eq_false_iff_ne]; omega
    have n6 : ((tag : Int) == 6) = false := by rw [beq_eq_false_iff_ne]; omega
    have n8 : ((tag : Int) == 8) = false := by rw [beq_eq_false_iff_ne]; omega
    have n9 : ((tag : Int) == 9) = false := by rw [beq_eq_false_iff_ne]; omega
    go_wp2_with fail
    refine (rint_st HM.out.rd (by omega)).mono ?_
    rw [E2.out]
    simp only
    rintro e w3 ⟨rfl, x3, d3⟩
    have HM3 := Lib.hid (HM.out.read x3 d3)
    clear x3 d3 HM hbad
    go_wp2_with fail
    refine (rbytes_stc n HM3.out.rd (by omega)).mono ?_
    rw [E3.out]
    rintro e w4 ⟨A4, k4, rfl, hk4, hv4, x4, d4⟩
    have HM := Lib.hid (HM3.out.read x4 d4)
    have hbad := HM.out.bad
    have nz : (rb.2.2 != 0) = true := by rw [bne_iff_ne]; exact hz
    clear x4 d4 HM3 hv4
    go_wp2_with (first | ((with_reducible show wpList _ _ _ (⟨_, .load 26 (.tmp 5), _, _, _, _⟩ :: _) _ _); refine wpList_load_Row rfl rfl rfl HM.out.box Tryd.underlying26 rfl sizeH ?_) | ((with_reducible show wpList _ _ _ (⟨_, .store 26 (.tmp 2) _, _, _, _, _⟩ :: _) _ _); refine wpList_store_Row (xs := zcH) rfl rfl rfl HM.out.res rfl rfl sizeH rfl ?_; intro w9 hr9 hch9 _; have c9 := hch9 none_ w HM.out.chg (fun h => absurd h (Nat.lt_irrefl _))))
    refine ret_row3 rfl rfl hr9 Tryd.underlying26 rfl sizeH rfl ?_
    exact ⟨_, _, rfl, zeroD _ _, c9⟩
  · have nb : (s1.2 == 0) = false := by rw [beq_eq_false_iff_ne]; exact hb1
    clear hf
    go_wp2_with fail
    refine (rint_st HM.out.rd (by omega)).mono ?_
    rw [E2.out]
    simp only
    rintro e w3 ⟨rfl, x3, d3⟩
    have HM3 := Lib.hid (HM.out.read x3 d3)
    clear x3 d3 HM hbad
    go_wp2_with fail
    refine (rbytes_stc n HM3.out.rd (by omega)).mono ?_
    rw [E3.out]
    rintro e w4 ⟨A4, k4, rfl, hk4, hv4, x4, d4⟩
    have HM := Lib.hid (HM3.out.read x4 d4)
    have hbad := HM.out.bad
    have nz : (rb.2.2 != 0) = true := by rw [bne_iff_ne]; exact hz
    clear x4 d4 HM3 hv4
    go_wp2_with (first | ((with_reducible show wpList _ _ _ (⟨_, .load 26 (.tmp 5), _, _, _, _⟩ :: _) _ _); refine wpList_load_Row rfl rfl rfl HM.out.box Tryd.underlying26 rfl sizeH ?_) | ((with_reducible show wpList _ _ _ (⟨_, .store 26 (.tmp 2) _, _, _, _, _⟩ :: _) _ _); refine wpList_store_Row (xs := zcH) rfl rfl rfl HM.out.res rfl rfl sizeH rfl ?_; intro w9 hr9 hch9 _; have c9 := hch9 none_ w HM.out.chg (fun h => absurd h (Nat.lt_irrefl _))))
    refine ret_row3 rfl rfl hr9 Tryd.underlying26 rfl sizeH rfl ?_
    exact ⟨_, _, rfl, zeroD _ _, c9⟩

set_option maxRecDepth 100000 in
set_option maxHeartbeats 4000000 in
theorem rnext_none (hv : View w (fun _ => True) A b.length (u8s b)) (hm : b.length ≤ 1000000) (hcap : b.length ≤ c) (hb : ∀ x ∈ b, x < 256) (tag n : Nat) (s1 s2 : St) (own : List Nat) (s3 : St) (e1 : rdInt (b, 0) = (tag, s1)) (hf : ¬ (tag = 2 ∨ tag = 6 ∨ tag = 8 ∨ tag = 9)) (e2 : rdInt s1 = (n, s2)) (e3 : rdBytes n s2 = (own, s3)) (hz1 : s1.2 = 0) (hz3 : s3.2 = 0) (hk : ¬ (tag = 0 ∨ tag = 1 ∨ tag = 3 ∨ tag = 7 ∨ tag = 13 ∨ tag = 4)) :
    Calls Tryd.prog 20 #[.slice A b.length c] w (RNextPost ({}, b.length - s3.1.length, 6) w) := by
  have E1 := Lib.hid e1
  have E2 := Lib.hid e2
  have E3 := Lib.hid e3
  clear e1 e2 e3
  have HV := Lib.hid hv
  have HB := Lib.hid hb
  clear hv hb
  go_enter Tryd.func20, Tryd.ntmps20
  go_wp2_with fail
  have HM0 := Lib.hid (rmade w A c b HV.out hm hcap HB.out _ rfl)
  refine (rint_st HM0.out.rd (by omega)).mono ?_
  rw [E1.out]
  simp only
  rintro e w2 ⟨rfl, x2, d2⟩
  have HM := Lib.hid (HM0.out.read x2 d2)
  have hbad := HM.out.bad
  rw [hz1] at hbad
  clear x2 d2 HM0 E1 hz1
  have n2 : ((tag : Int) == 2) = false := by rw [beq_eq_false_iff_ne]; omega
  have n6 : ((tag : Int) == 6) = false := by rw [beq_eq_false_iff_ne]; omega
  have n8 : ((tag : Int) == 8) = false := by rw [beq_eq_false_iff_ne]; omega
  have n9 : ((tag : Int) == 9) = false := by rw [beq_eq_false_iff_ne]; omega
  go_wp2_with fail
  refine (rint_st HM.out.rd (by omega)).mono ?_
  rw [E2.out]
  simp only
  rintro e w3 ⟨rfl, x3, d3⟩
  have HM3 := Lib.hid (HM.out.read x3 d3)
  clear x3 d3 HM hbad n2 n6 n8 n9
  go_wp2_with fail
  refine (rbytes_stc n HM3.out.rd (by omega)).mono ?_
  rw [E3.out]
  simp only
  rintro e w4 ⟨A4, k4, rfl, hk4, hv4, x4, d4⟩
  have HM := Lib.hid (HM3.out.read x4 d4)
  have hbad := HM.out.bad
  rw [hz3] at hbad
  obtain ⟨Ar, cr, hrow⟩ := HM.out.rd.place hz3
  have hol : own.length ≤ 1000000 := by
    have q := congrArg (fun x => x.1.length) E3.out
    have h3 := HM3.out.rd.len
    have h4 := rdBytes_le2 n s2 h3
    simp only at q
    omega
  have hob : ∀ x ∈ own, x < 256 := by
    have q := rdBytes_mem n s2 HM3.out.rd.mem
    rw [E3.out] at q
    exact q.1
  have HROW := Lib.hid hrow
  have hlt3 := HM3.out.rd.lt
  have HV4 := Lib.hid (hv4.mono (T' := fun k => w.heap.size + 1 + 1 < k ∧ k < w4.heap.size) (fun k hk q => ⟨Nat.lt_of_lt_of_le hlt3 q, hk⟩))
  have HK4 := Lib.hid hk4
  have HOB := Lib.hid hob
  clear x4 d4 HM3 hv4 hrow hk4 hob E2 E3
  have t0 : ((tag : Int) == 0) = false := by rw [beq_eq_false_iff_ne]; omega
  have t1 : ((tag : Int) == 1) = false := by rw [beq_eq_false_iff_ne]; omega
  have t3 : ((tag : Int) == 3) = false := by rw [beq_eq_false_iff_ne]; omega
  have t7 : ((tag : Int) == 7) = false := by rw [beq_eq_false_iff_ne]; omega
  have t13 : ((tag : Int) == 13) = false := by rw [beq_eq_false_iff_ne]; omega
  have t4 : ((tag : Int) == 4) = false := by rw [beq_eq_false_iff_ne]; omega
  have HX := Lib.hid (fun w' (hc : Chg none_ w4 w') => (⟨(HM.out.box.chg hc (fun h => h)), (HROW.out.chg hc (fun h => h)), (HM.out.res.chg hc (fun h => h))⟩ : _ ∧ _ ∧ _))
  go_wp2_with fail
  obtain ⟨w5, hw5⟩ : ∃ u, u = w4.alloc (.cells [Value.slice A4 own.length k4, .int .i64 0, .int .i64 0].toArray 67) := ⟨_, rfl⟩
  have c5 : Chg none_ w4 w5 := by rw [hw5]; exact (Chg.refl none_ w4).alloc _
  rw [← hw5]
  have HK : Hid (∀ w', Chg none_ w5 w' → w'.cell? ⟨w.heap.size + 1, 0, none⟩ = some (.int .i64 0) ∧ w'.cell? ⟨w.heap.size + 1, 1, none⟩ = some (.int .u64 0) ∧ w'.cell? ⟨w.heap.size + 1, 2, none⟩ = some (.slice none 0 0) ∧ w'.cell? ⟨w.heap.size + 1, 3, none⟩ = some (.slice none 0 0) ∧ w'.cell? ⟨w.heap.size + 1 + 1, 1, none⟩ = some (.int .i64 ((b.length : Int) - (s3.1.length : Int)))) := fun w' hc => by
    obtain ⟨q1, q2, _⟩ := HX.out w' (c5.trans hc)
    exact ⟨q1.cell 0, q1.cell 1, q1.cell 2, q1.cell 3, q2.cell 1⟩
  have r2 := (HX.out w5 c5).2.2
  have g0 : w5.cell? ⟨w.heap.size, 0, none⟩ = some (.int .i64 0) := r2.cell 0
  have g1 : w5.cell? ⟨w.heap.size, 1, none⟩ = some (.int .u64 0) := r2.cell 1
  have g2 : w5.cell? ⟨w.heap.size, 2, none⟩ = some (.slice none 0 0) := r2.cell 2
  have g3 : w5.cell? ⟨w.heap.size, 3, none⟩ = some (.slice none 0 0) := r2.cell 3
  have z0 := r2.frozen 0
  have z1 := r2.frozen 1
  have z2 := r2.frozen 2
  have z3 := r2.frozen 3
  obtain ⟨p1, p2, p3, p4, p5⟩ := HK.out w5 (Chg.refl _ _)
  clear hw5
  have ne1 : ¬ w.heap.size + 1 + 1 = w.heap.size := by omega
  have ne2 : ¬ w.heap.size = w.heap.size + 1 + 1 := by omega
  have hch0 : Chg none_ w5 w5.drew := (Chg.refl _ _).drew
  go_region_held3 (fun w' => w'.cell? ⟨w.heap.size + 1, 0, none⟩ = some (.int .i64 0) ∧ w'.cell? ⟨w.heap.size + 1, 1, none⟩ = some (.int .u64 0) ∧ w'.cell? ⟨w.heap.size + 1, 2, none⟩ = some (.slice none 0 0) ∧ w'.cell? ⟨w.heap.size + 1, 3, none⟩ = some (.slice none 0 0) ∧ w'.cell? ⟨w.heap.size + 1 + 1, 1, none⟩ = some (.int .i64 ((b.length : Int) - (s3.1.length : Int)))) (first | exact HK.out _ (by assumption) | go_keep) (fail)
  have hrE := ((((r2.set 0 (.int .i64 0)).set 1 (.int .u64 0)).set 2 (.slice none 0 0)).set 3 (.slice none 0 0)).drew
  have hcE := (set4 (HM.out.chg.trans c5) (.int .i64 0) (.int .u64 0) (.slice none 0 0) (.slice none 0 0)).drew
  have hcast : ((b.length - s3.1.length : Nat) : Int) = (b.length : Int) - (s3.1.length : Int) := by have := HM.out.rd.le; omega
  go_wp2_with fail
  refine ret_row3 rfl rfl hrE Tryd.underlying26 rfl sizeH rfl ?_
  refine ⟨.slice none 0 0, .slice none 0 0, ?_, zeroD _ _, hcE⟩
  simp only [hcast]
  rfl

end
end Go.Proofs.YtcdnjeojgjakdaaDoor
