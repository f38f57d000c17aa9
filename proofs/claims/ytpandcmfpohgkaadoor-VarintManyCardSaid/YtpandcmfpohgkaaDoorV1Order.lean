/- Layer 1 (varint): the walk of VarintOrder. -/
import Derived.Test.YtpandcmfpohgkaaDoorV1Back
namespace Go.Proofs.YtpandcmfpohgkaaDoor
open Go.RowKit

/-- A slice in view, as a string. -/
theorem run_string_view (w : World) (T : Nat → Prop) (A : Option Addr) (n cap : Nat) (l : List Nat) (h : View w T A n (u8s l)) (hn : 0 < n) :
    (convert 26 9 (.slice A n cap)).run Tryd.prog w = .ok (.string (strOfNums (l.map fun (x : Nat) => (x : Int)))) w := by
  obtain ⟨b, o, ha, _, _, hc⟩ := h.2 hn
  subst ha
  have hl := h.1
  simp at hl
  refine run_convert_bytes_arg w 26 5 Tryd.underlying26 Tryd.underlying5 b o n cap (l.map fun (x : Nat) => (x : Int)) (by simpa using hl) (fun i hi => ?_) 9 Tryd.underlying9
  have hi2 : i < l.length := by omega
  rw [hc i hi, u8s_get]
  simp [hi2, List.getD_eq_getElem?_getD]

/-- The number that bytes are, the first being the highest. -/
def val (l : List Nat) : Nat := l.foldl (fun n b => n * 256 + b) 0
theorem foldB_val (l : List Nat) : ∀ f, foldB f l = f * 256 ^ l.length + val l := by
  induction l with
  | nil => intro f; simp [foldB, val]
  | cons b l ih =>
    intro f
    have h1 : foldB f (b :: l) = foldB (f * 256 + b) l := rfl
    have h2 : val (b :: l) = foldB b l := by simp [val, foldB]
    rw [h1, h2, ih, ih, List.length_cons, Nat.pow_succ, Nat.add_mul, Nat.mul_assoc, Nat.mul_comm 256]
    omega
theorem val_cons (b : Nat) (l : List Nat) : val (b :: l) = b * 256 ^ l.length + val l := by
  have : val (b :: l) = foldB b l := by simp [val, foldB]
  rw [this, foldB_val]
theorem val_lt (l : List Nat) (h : ∀ x ∈ l, x < 256) : val l < 256 ^ l.length := by
  have := foldB_lt l h 0 1 (by omega)
  rw [foldB_val] at this
  simpa using this

theorem less_of_val : ∀ (x y : List Nat), x.length = y.length → (∀ a ∈ x, a < 256) → (∀ a ∈ y, a < 256) → val x < val y → Op.bytesLess (x.map UInt8.ofNat) (y.map UInt8.ofNat) = true
  | [], [], _, _, _, h => by simp [val] at h
  | a :: x, b :: y, hl, hx, hy, h => by
    have hl2 : x.length = y.length := by simpa using hl
    have ha := hx a (by simp)
    have hb := hy b (by simp)
    have hvx := val_lt x (fun z hz => hx z (by simp [hz]))
    have hvy := val_lt y (fun z hz => hy z (by simp [hz]))
    rw [val_cons, val_cons, hl2] at h
    rw [hl2] at hvx
    generalize 256 ^ y.length = P at h hvx hvy
    simp only [List.map_cons, Op.bytesLess, Bool.or_eq_true, decide_eq_true_eq, Bool.and_eq_true, beq_iff_eq]
    by_cases hab : a < b
    · left
      rw [UInt8.lt_iff_toNat_lt]
      simp
      omega
    · have hab2 : a = b := by
        by_cases h2 : a = b
        · exact h2
        · exfalso
          have : b + 1 ≤ a := by omega
          have h3 : (b + 1) * P ≤ a * P := Nat.mul_le_mul_right P this
          rw [Nat.add_mul] at h3
          omega
      subst hab2
      right
      exact ⟨rfl, less_of_val x y hl2 (fun z hz => hx z (by simp [hz])) (fun z hz => hy z (by simp [hz])) (by omega)⟩

theorem val_be (n s : Nat) (hs : isW s) (hn : n ≤ gr s) : val (be n s) = lg s * 64 * 256 ^ (s - 1) + n := by
  rcases hs with rfl | rfl | rfl | rfl
  · rw [gr_1] at hn; simp [be, arr, lg, List.range_succ, val]; omega
  · rw [gr_2] at hn; simp [be, arr, lg, List.range_succ, val]; omega
  · rw [gr_4] at hn; simp [be, arr, lg, List.range_succ, val]; omega
  · rw [gr_8] at hn; simp [be, arr, lg, List.range_succ, val]; omega
theorem be_lt (n s : Nat) (hs : isW s) (hn : n ≤ gr s) : ∀ x ∈ be n s, x < 256 := by
  obtain ⟨f, r, h1, h2, h3, _⟩ := back_math n s hs hn []
  simp only [List.append_nil] at h1
  rw [h1]
  intro x hx
  rcases List.mem_cons.1 hx with rfl | h
  · exact h2
  · exact h3 x h

/-- The string of an integer's bytes. -/
def strB (n s : Nat) : ByteArray := strOfNums ((be n s).map fun (x : Nat) => (x : Int))
theorem strB_list (n s : Nat) : (strB n s).toList = (be n s).map UInt8.ofNat := by
  unfold strB
  rw [ByteArray.toList_eq, strOfNums_data, List.map_map]
  rfl
theorem strB_inj {a b s t : Nat} (hs : isW s) (ht : isW t) (ha : a ≤ gr s) (hb : b ≤ gr t) (h1 : (strB a s).toList = (strB b t).toList) : s = t ∧ a = b := by
  simp only [strB_list] at h1
  have hl : s = t := by
    have := congrArg List.length h1
    simpa [be_len] using this
  subst hl
  refine ⟨rfl, ?_⟩
  have hm : ∀ (x y : List Nat), (∀ a ∈ x, a < 256) → (∀ a ∈ y, a < 256) → x.map UInt8.ofNat = y.map UInt8.ofNat → x = y := by
    intro x
    induction x with
    | nil => intro y _ _ h; simpa using h.symm
    | cons c x ih =>
      intro y hx hy h
      cases y with
      | nil => simp at h
      | cons d y =>
        simp only [List.map_cons, List.cons.injEq] at h
        have h2 := ih y (fun z hz => hx z (by simp [hz])) (fun z hz => hy z (by simp [hz])) h.2
        have h3 := congrArg UInt8.toNat h.1
        have hc := hx c (by simp)
        have hd := hy d (by simp)
        simp at h3
        rw [h2, show c = d from by omega]
  have h2 := hm _ _ (be_lt a s hs ha) (be_lt b s hs hb) h1
  have h3 := congrArg val h2
  rw [val_be a s hs ha, val_be b s hs hb] at h3
  omega
theorem strB_le {a b s : Nat} (hs : isW s) (ha : a ≤ gr s) (hb : b ≤ gr s) (hab : a ≤ b) : (Op.bytesLess (strB a s).toList (strB b s).toList || (strB a s).toList == (strB b s).toList) = true := by
  rw [strB_list, strB_list]
  by_cases h : a = b
  · subst h; simp
  · rw [less_of_val _ _ (by rw [be_len, be_len]) (be_lt a s hs ha) (be_lt b s hs hb) (by rw [val_be a s hs ha, val_be b s hs hb]; omega)]
    rfl

theorem wideB_put (n : Nat) (h : n < 4611686018427387904) : wideB n (szN n) = be n (szN n) ∧ isW (szN n) ∧ n ≤ gr (szN n) := by
  obtain ⟨h1, h2, _⟩ := szN_fits n 8 (by simp [isW]) (by rw [gr_8]; omega)
  refine ⟨?_, h1, h2⟩
  unfold wideB
  rw [if_pos ⟨by unfold isW at h1; omega, by simpa using h2⟩]
  simp
theorem wideB_big (n : Nat) (h : 4611686018427387904 ≤ n) : wideB n (szN n) = [] := by
  unfold wideB
  rw [szN_0 h, if_neg (by omega)]
theorem szN_mono {a b : Nat} (h : a ≤ b) (hb : b < 4611686018427387904) : szN a ≤ szN b := (szN_fits a (szN b) (wideB_put b hb).2.1 (Nat.le_trans h (wideB_put b hb).2.2)).2.2

/-- Where the first is more, or the second is none. -/
theorem walk_order_no (a b : Nat) (w : World) (hT : Tab w) (h : b < a ∨ 4611686018427387904 ≤ b) : Calls Tryd.prog 6 #[.int .u64 a, .int .u64 b] w fun e w' => e = .returned (.bool true) ∧ Chg none_ w w' := by
  have HT := Lib.hid hT
  have hl : b < a ∨ (¬ b < a ∧ ((wideB b (szN b)).length : Int) == 0) := by
    by_cases hb : b < a
    · exact .inl hb
    · rcases h with h | h
      · exact absurd h hb
      · exact .inr ⟨hb, by rw [wideB_big b h]; rfl⟩
  clear hT h
  rcases hl with hlt | ⟨hge, hz⟩
  all_goals
    go_enter Tryd.func6, Tryd.ntmps6
    go_wp2_with fail
    refine (alive_any _ HT.out).mono ?_
    rintro e w1 ⟨rfl, hc⟩
    have C1 := Lib.hid hc
    clear hc
    go_wp2_with fail
    refine (put_any a _ (HT.out.chg C1.out (fun h => h))).mono ?_
    rintro e w2 ⟨v, rfl, hnb⟩
    obtain ⟨A2, cap2, rfl, _⟩ := hnb.view
    have C2 := Lib.hid (C1.out.trans hnb.1)
    clear hnb
    go_wp2_with fail
    refine (put_any b _ (HT.out.chg C2.out (fun h => h))).mono ?_
    rintro e w3 ⟨v, rfl, hnb⟩
    obtain ⟨A3, cap3, rfl, _⟩ := hnb.view
    have C3 := Lib.hid (C2.out.trans hnb.1)
    clear hnb
    go_wp2
    go_ret
    exact ⟨rfl, C3.out⟩

theorem walk_order_yes (a b : Nat) (w : World) (hT : Tab w) (hab : a ≤ b) (hb : b < 4611686018427387904) : Calls Tryd.prog 6 #[.int .u64 a, .int .u64 b] w fun e w' => e = .returned (.bool true) ∧ Chg none_ w w' := by
  have HT := Lib.hid hT
  have hs := szN_mono hab hb
  obtain ⟨a1, a2, a3⟩ := wideB_put a (by omega)
  obtain ⟨b1, b2, b3⟩ := wideB_put b hb
  have p1 : 0 < szN a := by unfold isW at a2; omega
  have p2 : 0 < szN b := by unfold isW at b2; omega
  have p3 : szN b ≤ 8 := by unfold isW at b2; omega
  have hz : (((szN b : Nat) : Int) == 0) = false := by simp; omega
  have hge : ¬ b < a := by omega
  have hcases : (szN a < szN b ∧ ((strB a (szN a)).toList == (strB b (szN b)).toList) = false ∧ ((a : Int) == (b : Int)) = false) ∨
      (¬ szN a < szN b ∧ szN a = szN b ∧ (Op.bytesLess (strB a (szN a)).toList (strB b (szN b)).toList || (strB a (szN a)).toList == (strB b (szN b)).toList) = true ∧
        ((((strB a (szN a)).toList == (strB b (szN b)).toList) = true ∧ ((a : Int) == (b : Int)) = true) ∨ (((strB a (szN a)).toList == (strB b (szN b)).toList) = false ∧ ((a : Int) == (b : Int)) = false))) := by
    by_cases hlt : szN a < szN b
    · left
      refine ⟨hlt, ?_, ?_⟩
      · rw [beq_eq_false_iff_ne]
        intro e
        have := (strB_inj a2 b2 a3 b3 e).1
        omega
      · rw [beq_eq_false_iff_ne]
        intro e
        have : a = b := by omega
        subst this
        omega
    · right
      have he : szN a = szN b := by omega
      refine ⟨hlt, he, ?_, ?_⟩
      · rw [he]
        exact strB_le b2 (by rw [← he]; exact a3) b3 hab
      · by_cases e : a = b
        · left
          subst e
          exact ⟨beq_self_eq_true _, beq_self_eq_true _⟩
        · right
          refine ⟨?_, ?_⟩
          · rw [beq_eq_false_iff_ne]
            intro e2
            exact e (strB_inj a2 b2 a3 b3 e2).2
          · rw [beq_eq_false_iff_ne]
            omega
  have hconv : ∀ (W : World) (T : Nat → Prop) (A : Option Addr) (c n : Nat), 0 < szN n → Hid (View W T A (szN n) (u8s (be n (szN n)))) → (convert 26 9 (.slice A (szN n) c)).run Tryd.prog W = .ok (.string (strB n (szN n))) W := fun W T A c n hn h => run_string_view W T A _ c _ h.out hn
  have HC := Lib.hid hconv
  have HA := Lib.hid a1
  have HB := Lib.hid b1
  have HS := Lib.hid hcases
  clear hT hconv a1 b1 hcases a2 a3 b2 b3
  go_enter Tryd.func6, Tryd.ntmps6
  go_wp2_with fail
  refine (alive_any _ HT.out).mono ?_
  rintro e w1 ⟨rfl, hc⟩
  have C1 := Lib.hid hc
  clear hc
  go_wp2_with fail
  refine (put_any a _ (HT.out.chg C1.out (fun h => h))).mono ?_
  rintro e w2 ⟨v, rfl, hnb⟩
  rw [HA.out] at hnb
  obtain ⟨A2, cap2, rfl, hv2⟩ := hnb.view
  have C2 := Lib.hid (C1.out.trans hnb.1)
  rw [be_len] at hv2 ⊢
  have V2 := Lib.hid hv2
  clear hnb hv2
  go_wp2_with fail
  refine (put_any b _ (HT.out.chg C2.out (fun h => h))).mono ?_
  rintro e w3 ⟨v, rfl, hnb⟩
  rw [HB.out] at hnb
  obtain ⟨A3, cap3, rfl, hv3⟩ := hnb.view
  have C3 := Lib.hid (C2.out.trans hnb.1)
  rw [be_len] at hv3 ⊢
  have V3 := Lib.hid hv3
  have V23 := Lib.hid (V2.out.chg hnb.1 (fun _ _ h => h))
  have k1 := HC.out w3 _ A2 cap2 a p1 V23
  have k2 := HC.out w3 _ A3 cap3 b p2 V3
  clear hnb hv3
  rcases HS.out with ⟨h1, h2, h3⟩ | ⟨h1, h2, h3, h4⟩
  · go_wp2
    go_ret
    exact ⟨ret_bool (by simp), C3.out⟩
  · have H2 := Lib.hid h2
    have hle : (binOp .leq 9 (.string (strB a (szN a))) (.string (strB b (szN b)))).run Tryd.prog w3 = .ok (.bool true) w3 := by
      rw [← h3]
      simp [binOp, Op.stringOp]
    clear h2 h3
    rcases h4 with ⟨h4, h5⟩ | ⟨h4, h5⟩
    · go_wp2
      go_ret
      exact ⟨ret_bool (by simp), C3.out⟩
    · go_wp2
      go_ret
      exact ⟨ret_bool (by simp), C3.out⟩

theorem walk_VarintOrder (a0 a1 : Int) (w : World) (w0 : (Lit.int .u64 a0).wf = true) (w1 : (Lit.int .u64 a1).wf = true) (hT : Tab w) : Calls Tryd.prog 6 #[.int .u64 a0, .int .u64 a1] w fun e w' => e = .returned (.bool true) ∧ Chg none_ w w' := by
  obtain ⟨a, rfl⟩ := nat_of_wf w0 rfl
  obtain ⟨b, rfl⟩ := nat_of_wf w1 rfl
  by_cases h : b < a ∨ 4611686018427387904 ≤ b
  · exact walk_order_no a b w hT h
  · exact walk_order_yes a b w hT (by omega) (by omega)
end Go.Proofs.YtpandcmfpohgkaaDoor
