/- Layer 1 (varint): an integer in so many bytes (Wide), and Put. -/
import Derived.Test.YtlcffjmbfpdlbaaDoorV1Small
import Derived.Test.YtlcffjmbfpdlbaaDoorBytes
import Derived.Deep.RegionHeld3
import Derived.Deep.RegionWith
import Derived.StillTailTactics
namespace Go.Proofs.YtlcffjmbfpdlbaaDoor
open Go.RowKit

/-- The table of math/bits, as far as 1, 2, 4, 8 read it. -/
def Tab (w : World) : Prop := 1 < w.heap.size ∧ w.cell? ⟨1, 0, none⟩ = some (.int .u8 0) ∧ w.cell? ⟨1, 1, none⟩ = some (.int .u8 1) ∧ w.cell? ⟨1, 3, none⟩ = some (.int .u8 2) ∧ w.cell? ⟨1, 7, none⟩ = some (.int .u8 3)
theorem Tab.chg {w w' : World} {S : Nat → Prop} (h : Tab w) (hc : Chg S w w') (hs : ¬ S 1) : Tab w' :=
  ⟨Nat.lt_of_lt_of_le h.1 hc.size, (hc.cell _ h.1 hs).trans h.2.1, (hc.cell _ h.1 hs).trans h.2.2.1, (hc.cell _ h.1 hs).trans h.2.2.2.1, (hc.cell _ h.1 hs).trans h.2.2.2.2⟩

def lg (s : Nat) : Nat := if s = 1 then 0 else if s = 2 then 1 else if s = 4 then 2 else 3

theorem tzIx (s : Nat) (hs : isW s) : IntKind.u64.wrap (bits BinOp.and IntKind.u64 (s : Int) (IntKind.u64.wrap (-(s : Int))) * 285870213051353865) / 288230376151711744 = (if s = 1 then 0 else if s = 2 then 1 else if s = 4 then 3 else 7) := by
  rcases hs with rfl | rfl | rfl | rfl <;> decide +kernel

theorem tz64_any (s : Nat) (hs : isW s) (w : World) (hT : Tab w) : Calls Tryd.prog 98 #[.int .u64 s] w fun e w' => e = .returned (.int .i64 (lg s)) ∧ w = w' := by
  obtain ⟨h, t0, t1, t2, t3⟩ := hT
  have hk := tzIx s hs
  rcases hs with rfl | rfl | rfl | rfl
  all_goals
    simp at hk
    go_enter Tryd.func98, Tryd.ntmps98
    go_wp2
    go_ret
    exact ⟨rfl, rfl⟩

theorem tz_any (s : Nat) (hs : isW s) (w : World) (hT : Tab w) : Calls Tryd.prog 81 #[.int .u64 s] w fun e w' => e = .returned (.int .i64 (lg s)) ∧ w = w' := by
  go_enter Tryd.func81, Tryd.ntmps81
  go_wp2_with (go_at_call 98; refine (tz64_any s hs _ hT).mono ?_; rintro e w' ⟨rfl, rfl⟩)
  go_ret
  exact ⟨rfl, rfl⟩


theorem sw (s : Nat) (hs : isW s) : ((s : Int) == 1) = true ∨ (((s : Int) == 1) = false ∧ ((s : Int) == 2) = true) ∨ (((s : Int) == 1) = false ∧ ((s : Int) == 2) = false ∧ ((s : Int) == 4) = true)
    ∨ (((s : Int) == 1) = false ∧ ((s : Int) == 2) = false ∧ ((s : Int) == 4) = false ∧ ((s : Int) == 8) = true) := by
  rcases hs with rfl | rfl | rfl | rfl <;> simp

/-- An integer's bytes in s of them: the mark is laid into the first. -/
def be (n s : Nat) : List Nat := (arr n s s).set 0 ((arr n s s).getD 0 0 + lg s * 64)
theorem be_len (n s : Nat) : (be n s).length = s := by simp [be, arr_len]
theorem arr_head (n s : Nat) (hs : 0 < s) : (arr n s s).getD 0 0 = n / 2 ^ (8 * (s - 1)) % 256 := by
  have h : 0 < (arr n s s).length := by rw [arr_len]; exact hs
  rw [List.getD_eq_getElem?_getD, List.getElem?_eq_getElem h]
  simp only [Option.getD_some, arr, List.getElem_map, List.getElem_range]
  rw [if_pos (by omega)]
  simp
theorem head_lt (n s : Nat) (hs : isW s) (hn : n ≤ gr s) : (arr n s s).getD 0 0 < 64 := by
  rw [arr_head n s (by unfold isW at hs; omega)]
  rcases hs with rfl | rfl | rfl | rfl
  · rw [gr_1] at hn; simp; omega
  · rw [gr_2] at hn; simp; omega
  · rw [gr_4] at hn; simp; omega
  · rw [gr_8] at hn; simp; omega
theorem lg_lt (s : Nat) : lg s < 4 := by unfold lg; repeat' split
                                         all_goals omega
theorem or_mark (h m : Nat) (hh : h < 64) (hm : m < 4) : bits .or .u8 (h : Int) ((m : Int) * 64 % 256) = ((h + m * 64 : Nat) : Int) := by
  have e : ((m : Int) * 64 % 256) = ((m * 64 : Nat) : Int) := by omega
  rw [e, u8_or_nat h (m * 64) (by omega) (by omega)]
  congr 1
  have := Nat.two_pow_add_eq_or_of_lt (i := 6) (b := h) (by omega) m
  rw [Nat.or_comm, Nat.mul_comm m 64, show (64 : Nat) = 2 ^ 6 from rfl, ← this]
  omega

theorem wide_none1 (n : Nat) (s : Int) (w : World) (hs : ¬ (s = 1 ∨ s = 2 ∨ s = 4 ∨ s = 8)) : Calls Tryd.prog 51 #[.int .u64 n, .int .i64 s] w fun e w' => e = .returned (.slice none 0 0) ∧ w = w' := by
  have b1 : (s == 1) = false := by simp; omega
  have b2 : (s == 2) = false := by simp; omega
  have b4 : (s == 4) = false := by simp; omega
  have b8 : (s == 8) = false := by simp; omega
  clear hs
  go_enter Tryd.func51, Tryd.ntmps51
  go_wp2
  go_ret
  exact ⟨rfl, rfl⟩

theorem wide_none2 (n s : Nat) (w : World) (hs : isW s) (hn : gr s < n) : Calls Tryd.prog 51 #[.int .u64 n, .int .i64 s] w fun e w' => e = .returned (.slice none 0 0) ∧ w = w' := by
  rcases sw s hs with h1 | ⟨h1, h2⟩ | ⟨h1, h2, h3⟩ | ⟨h1, h2, h3, h4⟩
  all_goals
    go_enter Tryd.func51, Tryd.ntmps51
    go_wp2_with (go_at_call 80; refine (greatest_any s hs _).mono ?_; rintro e w' ⟨rfl, rfl⟩)
    go_ret
    exact ⟨rfl, rfl⟩

set_option maxRecDepth 100000 in
set_option maxHeartbeats 2000000 in
theorem wide_any (n s : Nat) (w : World) (hT : Tab w) (hs : isW s) (hn : n ≤ gr s) : Calls Tryd.prog 51 #[.int .u64 n, .int .i64 s] w fun e w' =>
    e = .returned (.slice (some ⟨w.heap.size, 0, none⟩) s s) ∧ Row w' w.heap.size 5 (u8s (be n s)) ∧ Chg none_ w w' := by
  have hs8 : s ≤ 8 := by unfold isW at hs; omega
  have hs1 : 1 ≤ s := by unfold isW at hs; omega
  obtain ⟨i0, hi, hz0, hz1, hz2⟩ := info_parts info5
  have hg : ¬ gr s < n := by omega
  rcases sw s hs with h1 | ⟨h1, h2⟩ | ⟨h1, h2, h3⟩ | ⟨h1, h2, h3, h4⟩
  all_goals
    go_enter Tryd.func51, Tryd.ntmps51
    go_wp2_with (first | (go_at_call 80; refine (greatest_any s hs _).mono ?_; rintro e w' ⟨rfl, rfl⟩) | (at_make; refine wpList_make_full _ rfl _ _ _ rfl w.heap.size 5 i0 _ 1 Tryd.underlying23 hi hz0 hz1 _ _ _ _ s rfl rfl rfl rfl (by rw [hz2]; omega) (by unfold maxLen; omega) (Nat.le_refl _) ?_; intro w1 hown hgrow))
    have hR : Row w1 w.heap.size 5 (u8s (arr n s 0)) := by
      have := Row.of_made hown
      rw [show (Value.int .u8 0).cells = #[.int .u8 0] from rfl, toList_madeCells_one] at this
      simpa [arr_0, u8s] using this
    have hC : Chg none_ w w1 := (Chg.refl none_ w).grown hgrow (by intro k hk; cases hk)
    clear hown hgrow
    go_loopw [21] (fun i wr => ∃ k : Nat, k ≤ s ∧ i = .int .i64 k ∧ Row wr w.heap.size 5 (u8s (arr n s k)) ∧ Chg none_ w wr) (fun i _ => s - (intOf i).toNat)
    case atStart => exact ⟨0, Nat.zero_le _, rfl, hR, hC⟩
    case round =>
      obtain ⟨k, hk, rfl, hrow, hch⟩ := hrel
      clear hR hC
      by_cases hlt : k < s
      · have hf := hrow.frozen (s - 1 - k)
        have hc : wr.cell? ⟨w.heap.size, s - 1 - k, none⟩ = some (.int .u8 (((arr n s k).getD (s - 1 - k) 0 : Nat) : Int)) := by
          rw [hrow.cell, u8s_get]
          have : s - 1 - k < (arr n s k).length := by rw [arr_len]; omega
          simp [this, List.getD]
        go_wp2
        go_roundw
        case rel =>
          refine ⟨k + 1, by omega, by go_num, ?_, hch.setCell (fun h => absurd h (by simp)) _⟩
          have := hrow.set (s - 1 - k) (.int .u8 ((n / 2 ^ (8 * k) % 256 : Nat) : Int))
          rw [u8s_set, arr_set n s k hlt] at this
          simpa using this
        case measure => simp [intOf]; omega
      · have hks : k = s := by omega
        subst hks
        have hf := hrow.frozen 0
        have hk0 : 0 < k := hs1
        have hTr : Tab wr.drew := hT.chg hch.drew (fun h => h)
        have hc : wr.cell? ⟨w.heap.size, 0, none⟩ = some (.int .u8 (((arr n k k).getD 0 0 : Nat) : Int)) := by
          rw [hrow.cell, u8s_get]
          have : 0 < (arr n k k).length := by rw [arr_len]; omega
          simp [this, List.getD]
        go_wp2
        have hw1 : IntKind.u64.wrap (k : Int) = (k : Int) := by rcases hs with rfl | rfl | rfl | rfl <;> rfl
        have hw2 : IntKind.u8.wrap (lg k : Int) = (lg k : Int) := by rcases hs with rfl | rfl | rfl | rfl <;> rfl
        refine wp_region_still_tail 9 (by kernel_rfl) (by kernel_rfl) ?_
        simp only [List.take_succ_cons, List.take_zero, List.drop_succ_cons, List.drop_zero]
        iterate 5 still_step
        still_call ((tz_any k hs _ hTr).mono fun _ _ h => ⟨h.1, h.2.symm⟩)
        iterate 3 still_step
        refine wpStill_nil ?_
        change wpList _ _ _ _ _ wr.drew
        go_wp2
        go_ret
        have ho := or_mark ((arr n k k).getD 0 0) (lg k) (head_lt n k hs hn) (lg_lt k)
        simp only [List.getD_eq_getElem?_getD] at ho
        refine ⟨rfl, ?_, ?_⟩
        · rw [ho]
          have := hrow.set 0 (.int .u8 (((arr n k k).getD 0 0 + lg k * 64 : Nat) : Int))
          rw [u8s_set] at this
          simp only [List.getD_eq_getElem?_getD] at this
          simp only [be, List.getD_eq_getElem?_getD]
          exact this.drew
        · exact (hch.setCell (fun h => absurd h (by simp)) _).drew

/-- Wide, whatever it is asked: none, or the bytes in new memory. -/
def wideB (n : Nat) (s : Int) : List Nat := if (s = 1 ∨ s = 2 ∨ s = 4 ∨ s = 8) ∧ n ≤ gr s.toNat then be n s.toNat else []
theorem wide_all (n : Nat) (s : Int) (w : World) (hT : Tab w) : Calls Tryd.prog 51 #[.int .u64 n, .int .i64 s] w fun e w' =>
    ∃ v, e = .returned v ∧ NewBytes w w' v (wideB n s) := by
  by_cases hs : s = 1 ∨ s = 2 ∨ s = 4 ∨ s = 8
  · obtain ⟨t, rfl⟩ : ∃ t : Nat, s = (t : Int) := ⟨s.toNat, by omega⟩
    have ht : isW t := by unfold isW; omega
    by_cases hn : n ≤ gr t
    · have e : wideB n t = be n t := by unfold wideB; rw [if_pos ⟨hs, by simpa using hn⟩]; simp
      have h0 : be n t ≠ [] := by intro h; have := be_len n t; rw [h] at this; simp at this; unfold isW at ht; omega
      refine (wide_any n t w hT ht hn).mono fun _ _ ⟨h1, h2, h3⟩ => ⟨_, h1, h3, .inr ⟨by rw [e]; exact h0, by rw [e, be_len], by rw [e]; exact h2⟩⟩
    · have e : wideB n t = [] := by unfold wideB; rw [if_neg (by intro h; exact hn (by simpa using h.2))]
      refine (wide_none2 n t w ht (by omega)).mono fun _ _ ⟨h1, h2⟩ => ⟨_, h1, h2 ▸ Chg.refl _ _, .inl ⟨e, rfl⟩⟩
  · have e : wideB n s = [] := by unfold wideB; rw [if_neg (fun h => hs h.1)]
    exact (wide_none1 n s w hs).mono fun _ _ ⟨h1, h2⟩ => ⟨_, h1, h2 ▸ Chg.refl _ _, .inl ⟨e, rfl⟩⟩

theorem put_any (n : Nat) (w : World) (hT : Tab w) : Calls Tryd.prog 20 #[.int .u64 n] w fun e w' =>
    ∃ v, e = .returned v ∧ NewBytes w w' v (wideB n (szN n)) := by
  go_enter Tryd.func20, Tryd.ntmps20
  go_wp2_with (first | (go_at_call 52; refine (size_any n _).mono ?_; rintro e w' ⟨rfl, rfl⟩) | (go_at_call 51; refine (wide_all n _ _ hT).mono ?_; rintro e w' ⟨v, rfl, hv⟩))
  go_ret
  exact ⟨v, rfl, hv⟩

end Go.Proofs.YtlcffjmbfpdlbaaDoor
