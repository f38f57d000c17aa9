/- Layer 11 (ticks): no more are let out than the size and one each time, walked. -/
import Derived.Test.YtiflcanfjmmdjaaV11Laws2
namespace Go.Proofs.Ytiflcanfjmmdjaa
open Go.RowKit

theorem u8_lt {l : List Nat} (hl : ∀ x ∈ l, x < 256) (k : Nat) : l.getD k 0 < 256 := by
  rw [List.getD_eq_getElem?_getD]
  cases h : l[k]? with
  | none => simp
  | some v => exact hl v (List.mem_of_getElem? h)

set_option maxRecDepth 100000 in
set_option maxHeartbeats 4000000 in
theorem slow_nil (S E : Nat) (l : List Nat) (A : Option Addr) (cap : Nat) (w : World) (hS : S < 256) (hE : E < 256) (h : E = 0 ∨ 200 < l.length) :
    Calls Try.prog 5 #[.int .u8 (S : Int), .int .u8 (E : Int), .slice A l.length cap] w fun e w' => e = .returned (.bool true) ∧ Chg none_ w w' := by
  have HN0 := Lib.hid (fun w => new_nil S w)
  have HN := Lib.hid (fun hE0 w => new_any S E hE0 w)
  obtain ⟨n, hn⟩ : ∃ n, n = l.length := ⟨_, rfl⟩
  rw [← hn] at h ⊢
  clear hn
  by_cases hz : E = 0
  · subst hz
    by_cases h2 : (200 : Int) < (n : Int)
    · go_enter Try.func5, Try.ntmps5
      go_wp2_with (first | (go_at_call 10; refine (alive_any _).mono ?_; rintro e w9 ⟨rfl, hc⟩; have HC := Lib.hid hc; clear hc) | (go_at_call 20; refine (HN0.out _).mono ?_; rintro e w8 ⟨rfl, rfl⟩))
      go_ret
      exact ⟨rfl, HC.out⟩
    · go_enter Try.func5, Try.ntmps5
      go_wp2_with (first | (go_at_call 10; refine (alive_any _).mono ?_; rintro e w9 ⟨rfl, hc⟩; have HC := Lib.hid hc; clear hc) | (go_at_call 20; refine (HN0.out _).mono ?_; rintro e w8 ⟨rfl, rfl⟩))
      go_ret
      exact ⟨rfl, HC.out⟩
  · have h2 : (200 : Int) < (n : Int) := by omega
    have HNE := Lib.hid (fun w => HN.out (by omega) w)
    go_enter Try.func5, Try.ntmps5
    go_wp2_with (first | (go_at_call 10; refine (alive_any _).mono ?_; rintro e w9 ⟨rfl, hc⟩; have HC := Lib.hid hc; clear hc) | (go_at_call 20; refine (HNE.out _).mono ?_; rintro e w8 ⟨rfl, hr, hc, hs⟩; have HC := Lib.hid (HC.out.trans hc); clear hr hc hs))
    go_ret
    exact ⟨rfl, HC.out⟩

/-- What is known of a bucket along the way. -/
structure Slow (S E k N m t u : Nat) : Prop where
  ok : BkOk S E t u
  hn : N ≤ 255 * k
  hm : m ≤ k
  hu : u ≤ N
  b : m + t ≤ S + u / E

theorem Slow.start (S E : Nat) (hS : S < 256) (hE : 0 < E) (hE2 : E < 256) : Slow S E 0 0 0 S 0 :=
  ⟨⟨by omega, hE, by omega, Nat.le_refl _, by omega⟩, by omega, by omega, by omega, by rw [Nat.zero_add]; exact Nat.le_add_right _ _⟩

theorem Slow.next {S E k N m t u x : Nat} (h : Slow S E k N m t u) (hk : k < 200) (hx : x < 256) :
    let p := atN S E t u (N + x)
    let m' := if 0 < p.1 then m + 1 else m
    Slow S E (k + 1) (N + x) m' (takeN p.1) p.2 ∧ m' ≤ S + (N + x) / E := by
  intro p m'
  have hn := h.hn
  have hN : N + x < 18446744073709551616 := by omega
  have hb : BkOk S E p.1 p.2 := at_bound S E t u (N + x) h.ok hN
  have hs : m + p.1 ≤ S + p.2 / E := at_slow S E t u (N + x) m h.ok.e0 h.ok.t (by have := h.hu; omega) h.b
  have hu : p.2 ≤ N + x := at_up S E t u (N + x) (by have := h.hu; omega)
  have hd : p.2 / E ≤ (N + x) / E := Nat.div_le_div_right hu
  have hm := h.hm
  have hmp : m' + takeN p.1 = m + p.1 := by
    show (if 0 < p.1 then m + 1 else m) + (p.1 - 1) = m + p.1
    split <;> omega
  have hm' : m' ≤ m + 1 := by
    show (if 0 < p.1 then m + 1 else m) ≤ m + 1
    split <;> omega
  refine ⟨⟨⟨hb.s, hb.e0, hb.e, ?_, hb.u⟩, by omega, by omega, hu, ?_⟩, ?_⟩
  · have := hb.t
    show p.1 - 1 ≤ S
    omega
  · rw [hmp]; exact hs
  · have : m' ≤ m + p.1 := by rw [← hmp]; exact Nat.le_add_right _ _
    omega

set_option maxRecDepth 100000 in
set_option maxHeartbeats 4000000 in
theorem slow_walk (S E : Nat) (l : List Nat) (A : Option Addr) (cap : Nat) (w : World) (hS : S < 256) (hE0 : 0 < E) (hE : E < 256) (hl : l.length ≤ 200) (hb : ∀ x ∈ l, x < 256) (hv : View w (fun _ => True) A l.length (u8s l)) :
    Calls Try.prog 5 #[.int .u8 (S : Int), .int .u8 (E : Int), .slice A l.length cap] w fun e w' => e = .returned (.bool true) ∧ Chg none_ w w' := by
  have HN := Lib.hid (fun w => new_any S E hE0 w)
  have HB := Lib.hid hb
  have HV := Lib.hid hv
  have h2 : ¬ (200 : Int) < (l.length : Int) := by omega
  have HTA := Lib.hid (fun (g t u now : Nat) h hn w hr => take_any g S E t u now h hn w hr)
  have HE := Lib.hid hE0
  have hE2 : ((E : Int) == 0) = false := by rw [beq_eq_false_iff_ne]; omega
  clear hb hv
  go_enter Try.func5, Try.ntmps5
  go_wp2_with (first | (go_at_call 10; refine (alive_any _).mono ?_; rintro e w9 ⟨rfl, hc⟩; have HC := Lib.hid hc; clear hc) | (go_at_call 20; refine (HN.out _).mono ?_; rintro e w1 ⟨rfl, hr, hc, hs⟩; have HR := Lib.hid hr; have HC1 := Lib.hid (HC.out.trans hc); have HG := Lib.hid HC.out.size; clear hr hc hs))
  obtain ⟨g, hg⟩ : ∃ g, g = w9.heap.size := ⟨_, rfl⟩
  rw [← hg] at HR HG ⊢
  clear hg
  go_loopw [8, 9, 10] (fun now n i wr => ∃ k N m t u : Nat, k ≤ l.length ∧ now = .int .u64 (N : Int) ∧ n = .int .u64 (m : Int) ∧ i = .int .i64 (k : Int) ∧ Hid (Slow S E k N m t u) ∧ Hid (Row wr g 51 (bk S E t u)) ∧ Hid (Chg none_ w wr)) (fun _ _ i _ => l.length - (intOf i).toNat)
  case atStart => exact ⟨0, 0, 0, S, 0, by omega, rfl, rfl, rfl, Lib.hid (Slow.start S E hS HE.out hE), HR, HC1⟩
  case round =>
    obtain ⟨k, N, m, t, u, hk, rfl, rfl, rfl, HS, HRk, HCk⟩ := hrel
    by_cases hlt : k < l.length
    · obtain ⟨b, o, rfl, hbl, _, c0⟩ := HV.out.at_ hlt
      have c1 := (HCk.out.cell (o + k) hbl (fun h => h)).trans c0
      have hx := u8_lt HB.out k
      have hN : N ≤ 51000 := by have := HS.out.hn; omega
      have hm : m ≤ 200 := by have := HS.out.hm; omega
      have HNX := Lib.hid (HS.out.next (by omega) hx)
      generalize l.getD k 0 = x at c0 c1 hx HNX
      have HTK := Lib.hid (HTA.out g t u (N + x) HS.out.ok (by omega) wr HRk.out)
      have hc2 : (N : Int) + (x : Int) = ((N + x : Nat) : Int) := by omega
      obtain ⟨t', ht'⟩ : ∃ t', t' = (atN S E t u (N + x)).1 := ⟨_, rfl⟩
      obtain ⟨u', hu'⟩ : ∃ u', u' = (atN S E t u (N + x)).2 := ⟨_, rfl⟩
      simp only [← ht', ← hu'] at HNX HTK
      clear ht' hu' c0
      obtain ⟨q, hq⟩ : ∃ q, q = (N + x) / E := ⟨_, rfl⟩
      rw [← hq] at HNX
      have hq2 : ((N : Int) + (x : Int)) / (E : Int) = (q : Int) := by rw [hq, hc2]; simp
      have hq3 : q ≤ 60000 := by rw [hq]; exact Nat.le_trans (Nat.div_le_self _ _) (by omega)
      clear hq
      rw [Int.natCast_add] at HTK
      clear hc2
      by_cases hp : 0 < t'
      · have hd : decide (0 < t') = true := by simp; omega
        rw [hd] at HTK
        rw [if_pos hp] at HNX
        have hle : ¬ (S : Int) + (q : Int) < (m : Int) + 1 := by have := HNX.out.2; omega
        have HS2 := Lib.hid HNX.out.1
        clear hd hp
        go_wp2_with (go_at_call 21; refine (HTK.out).mono ?_; rintro e w8 ⟨rfl, hr, hc8⟩; have HR8 := Lib.hid hr; have HC8 := Lib.hid (HCk.out.past hc8 HG.out); clear hr hc8)
        go_roundw
        case rel => exact ⟨k + 1, N + x, m + 1, takeN t', u', by omega, by go_num, by go_num, by go_num, HS2, HR8, HC8⟩
        case measure => simp [intOf]; omega
      · have hd : decide (0 < t') = false := by simp; omega
        rw [hd] at HTK
        rw [if_neg hp] at HNX
        have hle : ¬ (S : Int) + (q : Int) < (m : Int) := by have := HNX.out.2; omega
        have HS2 := Lib.hid HNX.out.1
        clear hd hp
        go_wp2_with (go_at_call 21; refine (HTK.out).mono ?_; rintro e w8 ⟨rfl, hr, hc8⟩; have HR8 := Lib.hid hr; have HC8 := Lib.hid (HCk.out.past hc8 HG.out); clear hr hc8)
        go_roundw
        case rel => exact ⟨k + 1, N + x, m, takeN t', u', by omega, by go_num, rfl, by go_num, HS2, HR8, HC8⟩
        case measure => simp [intOf]; omega
    · have hkl : k = l.length := by omega
      clear hlt hk
      subst hkl
      go_wp2
      go_ret
      exact ⟨rfl, HCk.out⟩

theorem walk_TicksSlow (s0 e0 : Int) (a : Option Addr) (len cap : Nat) (zs : List Int) (w : World) (hs : (Lit.int .u8 s0).wf = true) (he : (Lit.int .u8 e0).wf = true) (h : IsRow .u8 w a len cap zs) :
    Calls Try.prog 5 #[.int .u8 s0, .int .u8 e0, .slice a len cap] w fun e w' => e = .returned (.bool true) ∧ Chg none_ w w' := by
  obtain ⟨S, rfl⟩ := nat_of_wf hs rfl
  obtain ⟨E, rfl⟩ := nat_of_wf he rfl
  have hS := u8_of_wf hs
  have hE := u8_of_wf he
  obtain ⟨l, rfl, _, _, hb, hv⟩ := h.u8
  by_cases hc : E = 0 ∨ 200 < l.length
  · exact slow_nil S E l a cap w hS hE hc
  · exact slow_walk S E l a cap w hS (by omega) hE (by omega) hb hv
end Go.Proofs.Ytiflcanfjmmdjaa
