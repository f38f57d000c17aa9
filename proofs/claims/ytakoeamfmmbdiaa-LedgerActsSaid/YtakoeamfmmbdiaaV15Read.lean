/- Layer 15 (ledger): Due and Flight. -/
import Derived.Test.YtakoeamfmmbdiaaV15Small
import Derived.Test.YtakoeamfmmbdiaaV15Apart
import Derived.Test.YtakoeamfmmbdiaaV11Add
import Derived.Test.YtakoeamfmmbdiaaDbl
namespace Go.Proofs.Ytakoeamfmmbdiaa
open Go.RowKit

/-- When one would be lost. -/
def dueS (above delay d : Nat) (x : It) : Nat := if x.num < (above : Int) - 1 then min d (addN x.at_ delay) else d
def dueN (above delay : Nat) (l : List It) : Nat := l.foldl (dueS above delay) 18446744073709551615
theorem dueN_snoc (above delay : Nat) (l : List It) (x : It) : dueN above delay (l ++ [x]) = dueS above delay (dueN above delay l) x := by simp [dueN]
theorem dueN_lt (above delay : Nat) (l : List It) : dueN above delay l < 18446744073709551616 := by
  unfold dueN
  have : ∀ (l : List It) (d : Nat), d < 18446744073709551616 → l.foldl (dueS above delay) d < 18446744073709551616 := by
    intro l
    induction l with
    | nil => intro d h; exact h
    | cons x l ih =>
      intro d h
      rw [List.foldl_cons]
      refine ih _ ?_
      unfold dueS
      split <;> omega
  exact this l _ (by omega)

theorem Due_nil (delay : Nat) (w : World) : Calls Try.prog 15 #[.pointer none, .int .u64 (delay : Int)] w fun e w' => e = .returned (.int .u64 18446744073709551615) ∧ w' = w := by
  have HA := Lib.hid ((Acked_nil w).mono (fun _ _ q => And.intro q.1 q.2.symm))
  have HP := Lib.hid ((packets_nil w).mono (fun _ _ q => And.intro q.1 q.2.symm))
  go_enter Try.func15, Try.ntmps15
  go_wp2_with (first | ((with_reducible show Calls _ 18 _ _ _); refine HA.out.mono ?_; rintro e w1 ⟨rfl, rfl⟩) | ((with_reducible show Calls _ 33 _ _ _); refine HP.out.mono ?_; rintro e w1 ⟨rfl, rfl⟩))
  go_loopw [5, 14] (fun i5_ i wr => i = .int .i64 0 ∧ i5_ = .int .u64 18446744073709551615 ∧ w = wr) (fun _ _ _ => 0)
  case atStart => exact ⟨rfl, rfl, rfl⟩
  case round =>
    obtain ⟨rfl, rfl, rfl⟩ := hrel
    go_wp2
    go_ret
    exact ⟨rfl, rfl⟩

set_option maxRecDepth 100000 in
set_option maxHeartbeats 4000000 in
theorem Due_any (base g next above delay : Nat) (T : Nat → Prop) (v : Value) (l : List It) (w : World) (h : LedAt w base g T v l next above) (hl : l.length ≤ 1000000) (ha : above < 4611686018427387904) :
    Calls Try.prog 15 #[.pointer (some ⟨g, 0, none⟩), .int .u64 (delay : Int)] w fun e w' => e = .returned (.int .u64 (dueN above delay l : Nat)) ∧ Chg none_ w w' := by
  have HA := Lib.hid ((Acked_any h ha).mono (fun _ _ q => And.intro q.1 q.2.symm))
  have HP := Lib.hid ((packets_any h).mono (fun _ _ q => And.intro q.1 q.2.symm))
  have HTA := Lib.hid (fun x : It => tadd_any x.at_ delay)
  obtain ⟨A, c, rfl, _, _, hv⟩ := h.own.view
  have HV : Hid (∀ W, Chg none_ w W → View W (fun b => (Value.slice A l.length c).ownBlock = some b) A (l.length * 5) (l.flatMap itc)) := Lib.hid (fun W hc => hv.chg hc (fun _ _ h => h))
  have hab : (above : Int) < 4611686018427387904 := by omega
  clear h hv
  go_enter Try.func15, Try.ntmps15
  go_wp2_with (first | ((with_reducible show Calls _ 18 _ _ _); refine HA.out.mono ?_; rintro e w1 ⟨rfl, rfl⟩) | ((with_reducible show Calls _ 33 _ _ _); refine HP.out.mono ?_; rintro e w1 ⟨rfl, rfl⟩))
  go_loopw [5, 14] (fun i5_ i wr => ∃ k d : Nat, i = .int .i64 (k : Int) ∧ i5_ = .int .u64 (d : Int) ∧ k ≤ l.length ∧ d < 18446744073709551616 ∧ Hid (d = dueN above delay (l.take k)) ∧ Hid (Chg none_ w wr)) (fun _ i _ => l.length - (intOf i).toNat)
  case atStart => exact ⟨0, 18446744073709551615, rfl, rfl, Nat.zero_le _, by decide, Lib.hid rfl, Lib.hid (Chg.refl _ _)⟩
  case round =>
    obtain ⟨k, d, rfl, rfl, hk, hd, HDD, HC⟩ := hrel
    by_cases hlt : k < l.length
    · have k1 : (k : Int) < (l.length : Int) := by omega
      have k0 : (0 : Int) ≤ (k : Int) := by omega
      obtain ⟨b, o, rfl, hb, _, hra⟩ := (HV.out wr HC.out).elemAt itc_len (by decide) it0 hlt
      have hr := hra k hlt
      obtain ⟨x, hx⟩ : ∃ x, l.getD k it0 = x := ⟨_, rfl⟩
      rw [hx] at hr
      have HRX := Lib.hid hr
      have HNX : Hid (dueN above delay (l.take (k + 1)) = dueS above delay d x) := Lib.hid (by rw [take_snoc it0 hlt, dueN_snoc, hx, ← HDD.out])
      clear hra hr hx hb
      by_cases h1 : x.num < (above : Int) - 1
      · have q1 : decide (x.num < (above : Int) - 1) = true := by simpa using h1
        obtain ⟨s, hs⟩ : ∃ s, s = addN x.at_ delay := ⟨_, rfl⟩
        have HTX : Hid (∀ W, Calls Try.prog 35 #[.int .u64 (x.at_ : Int), .int .u64 (delay : Int)] W fun e w' => e = .returned (.int .u64 (s : Int)) ∧ Chg none_ W w') := Lib.hid (fun W => by rw [hs]; exact HTA.out x W)
        by_cases h2 : s < d
        · have q2 : (s : Int) < (d : Int) := by omega
          have HE : Hid (dueN above delay (l.take (k + 1)) = s) := Lib.hid (by rw [HNX.out]; unfold dueS; rw [if_pos h1, ← hs]; omega)
          have HSL : Hid (s < 18446744073709551616) := Lib.hid (by omega)
          clear h1 h2 hs
          go_wp2_with (first | ((with_reducible show wpList _ _ _ (⟨some 17, .load _ _, _, _, _, _⟩ :: _) _ _); refine wpList_load_Mid (cs := itc x) rfl rfl rfl HRX.out Try.underlying32 rfl sizeS ?_) | ((with_reducible show wpList _ _ _ (⟨some 8, .alloc _, _, _, _, _⟩ :: _) _ _); refine wpList_alloc_Row rfl rfl (itc it0) zeroS ?_; intro w4 hr4 hc4 hs4; have HR4 := Lib.hid hr4; have HC4 := Lib.hid hc4; clear hr4 hc4 hs4) | ((with_reducible show wpList _ _ _ (⟨none, .store _ (.tmp 8) _, _, _, _, _⟩ :: _) _ _); refine wpList_store_Row (xs := itc x) rfl rfl rfl HR4.out rfl rfl sizeS (List.all_eq_true.2 (itc_one x)) ?_; intro w5 hr5 hc5 hs5; have HC5 := Lib.hid (hc5 none_ wr HC4.out (fun h => absurd h (Nat.lt_irrefl _))); have x0 := hr5.cell 0; have x1 := hr5.cell 1; simp only [itc, List.getElem?_cons_zero, List.getElem?_cons_succ] at x0 x1; clear hr5 hc5 hs5) | ((with_reducible show Calls _ 35 _ _ _); refine (HTX.out _).mono ?_; rintro e w6 ⟨rfl, hc6⟩; have HC6 := Lib.hid hc6; clear hc6))
          go_roundw
          case rel => exact ⟨k + 1, s, by go_num, rfl, by omega, HSL.out, Lib.hid HE.out.symm, Lib.hid ((HC.out.trans HC5.out).trans HC6.out)⟩
          case measure => simp [intOf]; omega
        · have q2 : ¬ (s : Int) < (d : Int) := by omega
          have HE : Hid (dueN above delay (l.take (k + 1)) = d) := Lib.hid (by rw [HNX.out]; unfold dueS; rw [if_pos h1, ← hs]; omega)
          clear h1 h2 hs
          go_wp2_with (first | ((with_reducible show wpList _ _ _ (⟨some 17, .load _ _, _, _, _, _⟩ :: _) _ _); refine wpList_load_Mid (cs := itc x) rfl rfl rfl HRX.out Try.underlying32 rfl sizeS ?_) | ((with_reducible show wpList _ _ _ (⟨some 8, .alloc _, _, _, _, _⟩ :: _) _ _); refine wpList_alloc_Row rfl rfl (itc it0) zeroS ?_; intro w4 hr4 hc4 hs4; have HR4 := Lib.hid hr4; have HC4 := Lib.hid hc4; clear hr4 hc4 hs4) | ((with_reducible show wpList _ _ _ (⟨none, .store _ (.tmp 8) _, _, _, _, _⟩ :: _) _ _); refine wpList_store_Row (xs := itc x) rfl rfl rfl HR4.out rfl rfl sizeS (List.all_eq_true.2 (itc_one x)) ?_; intro w5 hr5 hc5 hs5; have HC5 := Lib.hid (hc5 none_ wr HC4.out (fun h => absurd h (Nat.lt_irrefl _))); have x0 := hr5.cell 0; have x1 := hr5.cell 1; simp only [itc, List.getElem?_cons_zero, List.getElem?_cons_succ] at x0 x1; clear hr5 hc5 hs5) | ((with_reducible show Calls _ 35 _ _ _); refine (HTX.out _).mono ?_; rintro e w6 ⟨rfl, hc6⟩; have HC6 := Lib.hid hc6; clear hc6))
          go_roundw
          case rel => exact ⟨k + 1, d, by go_num, rfl, by omega, hd, Lib.hid HE.out.symm, Lib.hid ((HC.out.trans HC5.out).trans HC6.out)⟩
          case measure => simp [intOf]; omega
      · have q1 : decide (x.num < (above : Int) - 1) = false := by simpa using h1
        have HE : Hid (dueN above delay (l.take (k + 1)) = d) := Lib.hid (by rw [HNX.out]; unfold dueS; rw [if_neg h1])
        clear h1
        go_wp2_with (first | ((with_reducible show wpList _ _ _ (⟨some 17, .load _ _, _, _, _, _⟩ :: _) _ _); refine wpList_load_Mid (cs := itc x) rfl rfl rfl HRX.out Try.underlying32 rfl sizeS ?_) | ((with_reducible show wpList _ _ _ (⟨some 8, .alloc _, _, _, _, _⟩ :: _) _ _); refine wpList_alloc_Row rfl rfl (itc it0) zeroS ?_; intro w4 hr4 hc4 hs4; have HR4 := Lib.hid hr4; have HC4 := Lib.hid hc4; clear hr4 hc4 hs4) | ((with_reducible show wpList _ _ _ (⟨none, .store _ (.tmp 8) _, _, _, _, _⟩ :: _) _ _); refine wpList_store_Row (xs := itc x) rfl rfl rfl HR4.out rfl rfl sizeS (List.all_eq_true.2 (itc_one x)) ?_; intro w5 hr5 hc5 hs5; have HC5 := Lib.hid (hc5 none_ wr HC4.out (fun h => absurd h (Nat.lt_irrefl _))); have x0 := hr5.cell 0; have x1 := hr5.cell 1; simp only [itc, List.getElem?_cons_zero, List.getElem?_cons_succ] at x0 x1; clear hr5 hc5 hs5))
        go_roundw
        case rel => exact ⟨k + 1, d, by go_num, rfl, by omega, hd, Lib.hid HE.out.symm, Lib.hid (HC.out.trans HC5.out)⟩
        case measure => simp [intOf]; omega
    · have hke : k = l.length := by omega
      subst hke
      have HE : Hid (d = dueN above delay l) := Lib.hid (by have := HDD.out; rwa [List.take_of_length_le (Nat.le_refl _)] at this)
      clear hlt hk HDD
      go_wp2
      go_ret
      exact ⟨ret_u64 (by rw [HE.out]), HC.out⟩

/-- How many ask, and how many bytes they have. -/
def flN (l : List It) : Nat := (l.filter (fun x => x.ask)).length
def flB (l : List It) : Nat := (l.filter (fun x => x.ask)).foldl (fun b x => b + x.size.toNat) 0
theorem flN_snoc (l : List It) (x : It) : flN (l ++ [x]) = flN l + if x.ask then 1 else 0 := by
  unfold flN
  cases h : x.ask <;> simp [h]
theorem flB_snoc (l : List It) (x : It) : flB (l ++ [x]) = flB l + if x.ask then x.size.toNat else 0 := by
  unfold flB
  cases h : x.ask <;> simp [h]
theorem flN_le (l : List It) : flN l ≤ l.length := List.length_filter_le _ _
theorem flB_le : ∀ (l : List It), (∀ x ∈ l, x.size ≤ 1200) → flB l ≤ 1200 * l.length := by
  have : ∀ (l : List It) (b : Nat), (∀ x ∈ l, x.size ≤ 1200) → l.foldl (fun b x => b + x.size.toNat) b ≤ b + 1200 * l.length := by
    intro l
    induction l with
    | nil => intro b _; simp
    | cons x l ih =>
      intro b h
      rw [List.foldl_cons, List.length_cons]
      have := ih (b + x.size.toNat) (fun y hy => h y (by simp [hy]))
      have := h x (by simp)
      omega
  intro l h
  unfold flB
  have h1 := this (l.filter (fun x => x.ask)) 0 (fun x hx => h x (List.mem_filter.1 hx).1)
  have h2 := List.length_filter_le (fun x : It => x.ask) l
  omega
theorem dbl_one : dbl 1 = 4607182418800017408 := by rw [dbl_def]; decide

theorem Flight_nil (w : World) : Calls Try.prog 16 #[.pointer none] w fun e w' => e = .returned (.complex .f64 (dbl 0) (dbl 0)) ∧ w' = w := by
  rw [dbl_zero]
  have HP := Lib.hid ((packets_nil w).mono (fun _ _ q => And.intro q.1 q.2.symm))
  go_enter Try.func16, Try.ntmps16
  go_wp2_with ((with_reducible show Calls _ 33 _ _ _); refine HP.out.mono ?_; rintro e w1 ⟨rfl, rfl⟩)
  go_loopw [3, 9] (fun i3_ i wr => i = .int .i64 0 ∧ i3_ = .complex .f64 0 0 ∧ w = wr) (fun _ _ _ => 0)
  case atStart => exact ⟨rfl, rfl, rfl⟩
  case round =>
    obtain ⟨rfl, rfl, rfl⟩ := hrel
    go_wp2
    go_ret
    exact ⟨rfl, rfl⟩

set_option maxRecDepth 100000 in
set_option maxHeartbeats 4000000 in
theorem Flight_any (base g next above : Nat) (T : Nat → Prop) (v : Value) (l : List It) (w : World) (h : LedAt w base g T v l next above) (hl : l.length ≤ 1000000) (hs : ∀ x ∈ l, 0 ≤ x.size ∧ x.size ≤ 1200) :
    Calls Try.prog 16 #[.pointer (some ⟨g, 0, none⟩)] w fun e w' => e = .returned (.complex .f64 (dbl (flN l)) (dbl (flB l))) ∧ Chg none_ w w' := by
  have HP := Lib.hid ((packets_any h).mono (fun _ _ q => And.intro q.1 q.2.symm))
  obtain ⟨A, c, rfl, _, _, hv⟩ := h.own.view
  have HV : Hid (∀ W, Chg none_ w W → View W (fun b => (Value.slice A l.length c).ownBlock = some b) A (l.length * 5) (l.flatMap itc)) := Lib.hid (fun W hc => hv.chg hc (fun _ _ h => h))
  have HSZ := Lib.hid hs
  clear h hv hs
  go_enter Try.func16, Try.ntmps16
  go_wp2_with ((with_reducible show Calls _ 33 _ _ _); refine HP.out.mono ?_; rintro e w1 ⟨rfl, rfl⟩)
  go_loopw [3, 9] (fun i3_ i wr => ∃ k : Nat, i = .int .i64 (k : Int) ∧ i3_ = .complex .f64 (dbl (flN (l.take k))) (dbl (flB (l.take k))) ∧ k ≤ l.length ∧ Hid (Chg none_ w wr)) (fun _ i _ => l.length - (intOf i).toNat)
  case atStart => exact ⟨0, rfl, by show Value.complex .f64 0 0 = .complex .f64 (dbl 0) (dbl 0); rw [dbl_zero], Nat.zero_le _, Lib.hid (Chg.refl _ _)⟩
  case round =>
    obtain ⟨k, rfl, rfl, hk, HC⟩ := hrel
    by_cases hlt : k < l.length
    · have k1 : (k : Int) < (l.length : Int) := by omega
      have k0 : (0 : Int) ≤ (k : Int) := by omega
      obtain ⟨b, o, rfl, hb, _, hra⟩ := (HV.out wr HC.out).elemAt itc_len (by decide) it0 hlt
      have hr := hra k hlt
      have hmx : l.getD k it0 ∈ l := getD_mem it0 hlt
      obtain ⟨x, hx⟩ : ∃ x, l.getD k it0 = x := ⟨_, rfl⟩
      rw [hx] at hr hmx
      have HRX := Lib.hid hr
      have hsz := HSZ.out x hmx
      have HNX : Hid (flN (l.take (k + 1)) = flN (l.take k) + (if x.ask then 1 else 0) ∧ flB (l.take (k + 1)) = flB (l.take k) + (if x.ask then x.size.toNat else 0)) := Lib.hid (by rw [take_snoc it0 hlt, flN_snoc, flB_snoc, hx]; exact ⟨rfl, rfl⟩)
      have HLE : Hid (flN (l.take k) ≤ 1000000 ∧ flB (l.take k) ≤ 1200000000) := Lib.hid (by
        have h1 := flN_le (l.take k)
        have h2 := flB_le (l.take k) (fun y hy => (HSZ.out y (List.mem_of_mem_take hy)).2)
        rw [List.length_take] at h1 h2
        omega)
      clear hra hr hx hb hmx
      generalize flN (l.take k) = n at *
      generalize flB (l.take k) = m at *
      cases hq : x.ask with
      | true =>
        rw [hq] at HNX
        obtain ⟨s, hs⟩ : ∃ s : Nat, x.size = (s : Int) := ⟨x.size.toNat, by omega⟩
        have hop : ∀ t W, (binOp .add t (.complex .f64 (dbl n) (dbl m)) (.complex .f64 4607182418800017408 (floatOfInt .f64 (s : Int)))).run Try.prog W = .ok (.complex .f64 (dbl (n + 1)) (dbl (m + s))) W := fun t W => by
          refine run_complex_sum W .add (Or.inl rfl) t .f64 _ _ _ _ _ _ ?_
          unfold cSumBits
          have e1 := dbl_add n 1 (by have := HLE.out.1; omega)
          have e2 := dbl_add m s (by have := HLE.out.2; omega)
          rw [dbl_one] at e1
          rw [e1, show floatOfInt .f64 (s : Int) = dbl s from rfl, e2]
          rfl
        have HE : Hid (flN (l.take (k + 1)) = n + 1 ∧ flB (l.take (k + 1)) = m + s) := Lib.hid (by
          have h1 := HNX.out
          rw [if_pos rfl, if_pos rfl, hs, Int.toNat_natCast] at h1
          exact h1)
        have HOP := Lib.hid hop
        clear hop hsz HNX
        go_wp2_with (first | ((with_reducible show wpList _ _ _ (⟨some 12, .load _ _, _, _, _, _⟩ :: _) _ _); refine wpList_load_Mid (cs := itc x) rfl rfl rfl HRX.out Try.underlying32 rfl sizeS ?_) | ((with_reducible show wpList _ _ _ (⟨some 5, .alloc _, _, _, _, _⟩ :: _) _ _); refine wpList_alloc_Row rfl rfl (itc it0) zeroS ?_; intro w4 hr4 hc4 hs4; have HR4 := Lib.hid hr4; have HC4 := Lib.hid hc4; clear hr4 hc4 hs4) | ((with_reducible show wpList _ _ _ (⟨none, .store _ (.tmp 5) _, _, _, _, _⟩ :: _) _ _); refine wpList_store_Row (xs := itc x) rfl rfl rfl HR4.out rfl rfl sizeS (List.all_eq_true.2 (itc_one x)) ?_; intro w5 hr5 hc5 hs5; have HC5 := Lib.hid (hc5 none_ wr HC4.out (fun h => absurd h (Nat.lt_irrefl _))); have x2 := hr5.cell 2; have x3 := hr5.cell 3; simp only [itc, List.getElem?_cons_zero, List.getElem?_cons_succ] at x2 x3; rw [hq] at x3; rw [hs] at x2; clear hr5 hc5 hs5) | (simp only [HOP.out]))
        go_roundw
        case rel => exact ⟨k + 1, by go_num, by rw [HE.out.1, HE.out.2], by omega, Lib.hid (HC.out.trans HC5.out)⟩
        case measure => simp [intOf]; omega
      | false =>
        rw [hq] at HNX
        have HE : Hid (flN (l.take (k + 1)) = n ∧ flB (l.take (k + 1)) = m) := Lib.hid (by have h1 := HNX.out; simpa using h1)
        clear hsz HNX
        go_wp2_with (first | ((with_reducible show wpList _ _ _ (⟨some 12, .load _ _, _, _, _, _⟩ :: _) _ _); refine wpList_load_Mid (cs := itc x) rfl rfl rfl HRX.out Try.underlying32 rfl sizeS ?_) | ((with_reducible show wpList _ _ _ (⟨some 5, .alloc _, _, _, _, _⟩ :: _) _ _); refine wpList_alloc_Row rfl rfl (itc it0) zeroS ?_; intro w4 hr4 hc4 hs4; have HR4 := Lib.hid hr4; have HC4 := Lib.hid hc4; clear hr4 hc4 hs4) | ((with_reducible show wpList _ _ _ (⟨none, .store _ (.tmp 5) _, _, _, _, _⟩ :: _) _ _); refine wpList_store_Row (xs := itc x) rfl rfl rfl HR4.out rfl rfl sizeS (List.all_eq_true.2 (itc_one x)) ?_; intro w5 hr5 hc5 hs5; have HC5 := Lib.hid (hc5 none_ wr HC4.out (fun h => absurd h (Nat.lt_irrefl _))); have x2 := hr5.cell 2; have x3 := hr5.cell 3; simp only [itc, List.getElem?_cons_zero, List.getElem?_cons_succ] at x2 x3; rw [hq] at x3; clear hr5 hc5 hs5))
        go_roundw
        case rel => exact ⟨k + 1, by go_num, by rw [HE.out.1, HE.out.2], by omega, Lib.hid (HC.out.trans HC5.out)⟩
        case measure => simp [intOf]; omega
    · have hke : k = l.length := by omega
      subst hke
      rw [List.take_of_length_le (Nat.le_refl _)]
      clear hlt hk
      go_wp2
      go_ret
      exact ⟨rfl, HC.out⟩
end Go.Proofs.Ytakoeamfmmbdiaa
