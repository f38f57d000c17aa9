/- Layer 1: what integers' bytes come to, without a call. -/
import Derived.Test.YtlcffjmbfpdlbaaDoorV1Reads
namespace Go.Proofs.YtlcffjmbfpdlbaaDoor
open Go.RowKit

/-- An integer's bytes: the first tells how many there are, and all of them the integer. -/
theorem back_math (n s : Nat) (hs : isW s) (hn : n ≤ gr s) (more : List Nat) :
    ∃ f r, be n s ++ more = f :: (r ++ more) ∧ f < 256 ∧ (∀ x ∈ r, x < 256) ∧ needs f = r.length ∧ foldB (f % 64) r = n := by
  rcases hs with rfl | rfl | rfl | rfl
  · rw [gr_1] at hn
    refine ⟨n % 256, [], ?_, by omega, by simp, ?_, ?_⟩
    · simp [be, arr, lg, List.range_succ]
    · have : n % 256 / 64 = 0 := by omega
      simp [needs, this]
    · simp [foldB]; omega
  · rw [gr_2] at hn
    refine ⟨n / 256 % 256 + 64, [n % 256], ?_, by omega, by simp; omega, ?_, ?_⟩
    · simp [be, arr, lg, List.range_succ]
    · have : (n / 256 % 256 + 64) / 64 = 1 := by omega
      simp [needs, this]
    · simp [foldB]; omega
  · rw [gr_4] at hn
    refine ⟨n / 16777216 % 256 + 128, [n / 65536 % 256, n / 256 % 256, n % 256], ?_, by omega, by simp; omega, ?_, ?_⟩
    · simp [be, arr, lg, List.range_succ]
    · have : (n / 16777216 % 256 + 128) / 64 = 2 := by omega
      simp [needs, this]
    · simp [foldB]; omega
  · rw [gr_8] at hn
    refine ⟨n / 72057594037927936 % 256 + 192, [n / 281474976710656 % 256, n / 1099511627776 % 256, n / 4294967296 % 256, n / 16777216 % 256, n / 65536 % 256, n / 256 % 256, n % 256], ?_, by omega, by simp; omega, ?_, ?_⟩
    · simp [be, arr, lg, List.range_succ]
    · have : (n / 72057594037927936 % 256 + 192) / 64 = 3 := by omega
      simp [needs, this]
    · simp [foldB]; omega


theorem wideB_some {n : Nat} {s : Int} (h : wideB n s ≠ []) : ∃ t : Nat, s = (t : Int) ∧ isW t ∧ n ≤ gr t ∧ wideB n s = be n t := by
  unfold wideB at h ⊢
  by_cases hc : (s = 1 ∨ s = 2 ∨ s = 4 ∨ s = 8) ∧ n ≤ gr s.toNat
  · rw [if_pos hc]
    exact ⟨s.toNat, by omega, by unfold isW; omega, hc.2, rfl⟩
  · rw [if_neg hc] at h
    exact absurd rfl h

theorem szN_fits (n t : Nat) (ht : isW t) (hn : n ≤ gr t) : isW (szN n) ∧ n ≤ gr (szN n) ∧ szN n ≤ t := by
  have hb : n < 4611686018427387904 := by
    rcases ht with rfl | rfl | rfl | rfl
    · rw [gr_1] at hn; omega
    · rw [gr_2] at hn; omega
    · rw [gr_4] at hn; omega
    · rw [gr_8] at hn; omega
  by_cases h1 : n < 64
  · rw [szN_1 h1, gr_1]; unfold isW at ht ⊢; omega
  by_cases h2 : n < 16384
  · rw [szN_2 (by omega) h2, gr_2]
    refine ⟨by simp [isW], by omega, ?_⟩
    rcases ht with rfl | rfl | rfl | rfl
    · rw [gr_1] at hn; omega
    all_goals omega
  by_cases h4 : n < 1073741824
  · rw [szN_4 (by omega) h4, gr_4]
    refine ⟨by simp [isW], by omega, ?_⟩
    rcases ht with rfl | rfl | rfl | rfl
    · rw [gr_1] at hn; omega
    · rw [gr_2] at hn; omega
    all_goals omega
  · rw [szN_8 (by omega) hb, gr_8]
    refine ⟨by simp [isW], by omega, ?_⟩
    rcases ht with rfl | rfl | rfl | rfl
    · rw [gr_1] at hn; omega
    · rw [gr_2] at hn; omega
    · rw [gr_4] at hn; omega
    all_goals omega

theorem put_len (n t : Nat) (ht : isW t) (hn : n ≤ gr t) : (wideB n (szN n)).length = szN n ∧ szN n ≤ t := by
  obtain ⟨h1, h2, h3⟩ := szN_fits n t ht hn
  refine ⟨?_, h3⟩
  unfold wideB
  rw [if_pos ⟨by unfold isW at h1; omega, by simpa using h2⟩]
  simp [be_len]

theorem own_of_new {w w' : World} {v : Value} {l : List Nat} (h : NewBytes w w' v l) (hl : l.length ≤ maxLen) : w'.ownsRow w.heap.size 5 1 v l.length (u8s l) := by
  rcases h.2 with ⟨rfl, rfl⟩ | ⟨_, rfl, hr⟩
  · exact World.ownsRow_nil _ _ _ _
  · exact own_of_row hr (Nat.le_refl _) (by simp) hl

theorem Chg.append {w0 w w' : World} {base n : Nat} {e : TypeId} {v : Value} {xs : List Value} (h : Chg none_ w0 w) (hb : w0.heap.size ≤ base) (hown : w.ownsRow base e 1 v n xs) (hg : w.grownBy w' v.ownBlock) : Chg none_ w0 w' :=
  h.grown hg (fun k hk hlt => by have := (hown.lt k hk).1; omega)
theorem u8s_append (l m : List Nat) : u8s l ++ u8s m = u8s (l ++ m) := by simp [u8s]

theorem be_lt (n s : Nat) (hs : isW s) (hn : n ≤ gr s) : ∀ x ∈ be n s, x < 256 := by
  obtain ⟨f, r, h1, h2, h3, _⟩ := back_math n s hs hn []
  simp only [List.append_nil] at h1
  rw [h1]
  intro x hx
  rcases List.mem_cons.1 hx with rfl | h
  · exact h2
  · exact h3 x h

theorem wideB_put (n : Nat) (h : n < 4611686018427387904) : wideB n (szN n) = be n (szN n) ∧ isW (szN n) ∧ n ≤ gr (szN n) := by
  obtain ⟨h1, h2, _⟩ := szN_fits n 8 (by simp [isW]) (by rw [gr_8]; omega)
  refine ⟨?_, h1, h2⟩
  unfold wideB
  rw [if_pos ⟨by unfold isW at h1; omega, by simpa using h2⟩]
  simp
theorem wideB_big (n : Nat) (h : 4611686018427387904 ≤ n) : wideB n (szN n) = [] := by
  unfold wideB
  rw [szN_0 h, if_neg (by omega)]
theorem szN_mono {a b : Nat} (h : a ≤ b) (hb : b < 4611686018427387904) : szN a ≤ szN b := (szN_fits a (szN b) (wideB_put b hb).2.1 (Nat.le_trans h (wideB_put b hb).2.2)).2.2


/-- Integers one behind the other. -/
def enc (l : List Nat) : List Nat := l.flatMap fun n => wideB n (szN n)
def u64s (l : List Nat) : List Value := l.map fun (x : Nat) => Value.int .u64 (x : Int)
theorem enc_nil : enc [] = [] := rfl
theorem enc_snoc (l : List Nat) (n : Nat) : enc (l ++ [n]) = enc l ++ wideB n (szN n) := by simp [enc]
theorem enc_cons (n : Nat) (l : List Nat) : enc (n :: l) = wideB n (szN n) ++ enc l := by simp [enc]
theorem wideB_len (n : Nat) : (wideB n (szN n)).length ≤ 8 := by
  by_cases h : n < 4611686018427387904
  · obtain ⟨h1, h2, _⟩ := wideB_put n h
    rw [h1, be_len]
    unfold isW at h2
    omega
  · rw [wideB_big n (by omega)]; simp
theorem enc_len : ∀ l : List Nat, (enc l).length ≤ 8 * l.length
  | [] => by simp [enc]
  | n :: l => by
    have := enc_len l
    have := wideB_len n
    rw [enc_cons, List.length_append, List.length_cons]
    omega
theorem wideB_lt (n : Nat) : ∀ x ∈ wideB n (szN n), x < 256 := by
  by_cases h : n < 4611686018427387904
  · obtain ⟨h1, h2, h3⟩ := wideB_put n h
    rw [h1]
    exact be_lt n _ h2 h3
  · rw [wideB_big n (by omega)]; simp
theorem enc_lt (l : List Nat) : ∀ x ∈ enc l, x < 256 := by
  intro x hx
  obtain ⟨n, _, hn⟩ := List.mem_flatMap.1 hx
  exact wideB_lt n x hn

theorem View.at64 {w : World} {T : Nat → Prop} {A : Option Addr} {n i : Nat} {l : List Nat} (h : View w T A n (u64s l)) (hi : i < n) :
    ∃ b o, A = some ⟨b, o, none⟩ ∧ b < w.heap.size ∧ T b ∧ w.cell? ⟨b, o + i, none⟩ = some (.int .u64 ((l.getD i 0 : Nat) : Int)) := by
  obtain ⟨b, o, ha, hb, ht, hc⟩ := h.2 (by omega)
  have hl : i < l.length := by have := h.1; simp [u64s] at this; omega
  exact ⟨b, o, ha, hb, ht, by rw [hc i hi]; simp [u64s, hl, List.getD_eq_getElem?_getD]⟩

end Go.Proofs.YtlcffjmbfpdlbaaDoor
