/- Layer 15 (ledger): the law LedgerNumbers. -/
import Derived.Test.YtakoeamfmmbdiaaV15Alive
namespace Go.Proofs.Ytakoeamfmmbdiaa
open Go.RowKit

/-- The law's packet, and so many of them. -/
def pn (m : Nat) : It := ⟨77, 0, (m : Int), true, none, 0, []⟩
def NS (m n : Nat) : List Sn := (List.range n).map fun (i : Nat) => ⟨(i : Int), 0, (m : Int), true, []⟩
theorem NS_succ (m n : Nat) : NS m (n + 1) = NS m n ++ [{ (pn m).pl with num := (n : Int) }] := by
  unfold NS
  rw [List.range_succ, List.map_append]
  rfl
theorem NS_len (m n : Nat) : (NS m n).length = n := by simp [NS]
theorem pn_D (m : Nat) (w : World) : ItD w (fun _ => False) (pn m) := ⟨View.none_ _ _ _, fun y hy => (nomatch hy), by show 0 ≤ 1000; decide, by show 0 < 18446744073709551616; decide⟩
theorem NS_fl (m : Nat) : ∀ n, flNs (NS m n) = n ∧ flBs (NS m n) = n * m
  | 0 => ⟨rfl, by rw [Nat.zero_mul]; rfl⟩
  | n + 1 => by
    have ih := NS_fl m n
    rw [NS_succ]
    unfold flNs flBs at ih ⊢
    rw [List.filter_append]
    have e : [({ (pn m).pl with num := (n : Int) } : Sn)].filter (fun s => s.ask) = [{ (pn m).pl with num := (n : Int) }] := rfl
    rw [e, List.length_append, List.foldl_append, ih.1, ih.2]
    refine ⟨rfl, ?_⟩
    show n * m + ((m : Int)).toNat = _
    rw [Int.toNat_natCast, Nat.add_mul, Nat.one_mul]
section
variable {w : World} {B g : Nat}
theorem nSend (m n : Nat) (hm : m ≤ 1200) (h : LedP w B g (NS m n) n 0) (hn : n < 64) :
    Calls Try.prog 9 #[.pointer (some ⟨g, 0, none⟩), .agg (itc (pn m)).toArray] w fun e w' => e = .returned (.tuple #[.int .i64 (n : Int), .int .i64 0]) ∧ LedP w' B g (NS m (n + 1)) (n + 1) 0 ∧ Chg (Tn B g) w w' := by
  rw [NS_succ]
  exact pSend h (pn_D m w) (by show 0 ≤ (m : Int); omega) (by show (m : Int) ≤ 1200; omega) (by rw [NS_len]; exact hn) (by omega)
theorem nList (m n : Nat) (h : LedP w B g (NS m n) n 0) : Calls Try.prog 13 #[.pointer (some ⟨g, 0, none⟩)] w fun e w' => ∃ AG cg, e = .returned (.slice AG n cg) ∧ Chg none_ w w' := by
  refine (pList h).mono ?_
  rintro e w' ⟨AG, cg, G, rfl, _, _, h4⟩
  exact ⟨AG, cg, by rw [NS_len], h4⟩
theorem nFlight (m n : Nat) (h : LedP w B g (NS m n) n 0) : Calls Try.prog 16 #[.pointer (some ⟨g, 0, none⟩)] w fun e w' => e = .returned (.complex .f64 (dbl n) (dbl (n * m))) ∧ Chg none_ w w' := by
  have := pFlight h
  rwa [(NS_fl m n).1, (NS_fl m n).2] at this
theorem nDrop (m n : Nat) (h : LedP w B g (NS m n) n 0) : Calls Try.prog 14 #[.pointer (some ⟨g, 0, none⟩)] w fun e w' => e = .returned (.int .i64 (n : Int)) ∧ LedP w' B g [] n 0 ∧ Chg (Tn B g) w w' := by
  have := pDrop h
  rwa [NS_len] at this
theorem nFlight0 (n : Nat) (h : LedP w B g [] n 0) : Calls Try.prog 16 #[.pointer (some ⟨g, 0, none⟩)] w fun e w' => e = .returned (.complex .f64 0 0) ∧ Chg none_ w w' := by
  have := pFlight h
  rwa [show flNs [] = 0 from rfl, show flBs [] = 0 from rfl, dbl_zero] at this
end

set_option maxRecDepth 100000 in
set_option maxHeartbeats 4000000 in
theorem walk_LedgerNumbers (n0 s0 : Int) (w : World) (hn : (Lit.int .u8 n0).wf = true) (hs : (Lit.int .u16 s0).wf = true) :
    Calls Try.prog 6 #[.int .u8 n0, .int .u16 s0] w fun e w' => e = .returned (.bool true) ∧ Chg none_ w w' := by
  have hn' : 0 ≤ n0 ∧ n0 ≤ 255 := by simpa [Lit.wf, IntKind.min, IntKind.max, IntKind.bits, IntKind.signed] using hn
  have hs' : 0 ≤ s0 ∧ s0 ≤ 65535 := by simpa [Lit.wf, IntKind.min, IntKind.max, IntKind.bits, IntKind.signed] using hs
  obtain ⟨n, rfl⟩ : ∃ n : Nat, n0 = (n : Int) := ⟨n0.toNat, by omega⟩
  obtain ⟨s, rfl⟩ : ∃ s : Nat, s0 = (s : Int) := ⟨s0.toNat, by omega⟩
  obtain ⟨k, hk⟩ : ∃ k, k = n % 65 := ⟨_, rfl⟩
  obtain ⟨m, hm⟩ : ∃ m, m = s % 1201 := ⟨_, rfl⟩
  have e1 : (n : Int) % 65 = (k : Int) := by omega
  have e2 : (s : Int) % 1201 = (m : Int) := by omega
  have e1t : Int.tmod (n : Int) 65 = (k : Int) := by rw [Int.tmod_eq_emod_of_nonneg (by omega)]; exact e1
  have e2t : Int.tmod (s : Int) 1201 = (m : Int) := by rw [Int.tmod_eq_emod_of_nonneg (by omega)]; exact e2
  have hk64 : k ≤ 64 := by omega
  have hm12 : m ≤ 1200 := by omega
  obtain ⟨hn1, hn2⟩ := hn'
  obtain ⟨hs1, hs2⟩ := hs'
  obtain ⟨q, hq⟩ : ∃ q, q = k * m := ⟨_, rfl⟩
  have hq2 : q ≤ 76800 := by rw [hq]; exact Nat.le_trans (Nat.mul_le_mul hk64 hm12) (by decide)
  have HQ : Hid ((k : Int) * (m : Int) = (q : Int)) := Lib.hid (by rw [hq]; simp)
  have HQN := Lib.hid hq
  have hwq : IntKind.i64.wrap ((k : Int) * (m : Int)) = (q : Int) := by rw [HQ.out]; simp [IntKind.wrap, IntKind.bits, IntKind.signed]; omega
  have hoK : FloatKind.f64.format.order (dbl k) (floatOfInt .f64 (k : Int)) = some .eq := dbl_eq k (by omega)
  have hoQ : FloatKind.f64.format.order (dbl q) (floatOfInt .f64 (q : Int)) = some .eq := dbl_eq q (by omega)
  have ho0 : FloatKind.f64.format.order 0 0 = some .eq := by decide
  have ho4 : (some Ordering.eq == some Ordering.eq) = true := rfl
  clear hk hm hq e1 e2 hn hs
  have HAL := Lib.hid (alive_any w)
  go_enter Try.func6, Try.ntmps6
  go_wp2_with (first | ((with_reducible show Calls _ 7 _ _ _); refine HAL.out.mono ?_; rintro e wv ⟨rfl, hc⟩; have HCV := Lib.hid hc; clear hc) | ((with_reducible show wpList _ _ _ (⟨some 5, .alloc _, _, _, _, _⟩ :: _) _ _); refine wpList_alloc_Row rfl rfl [.slice none 0 0, .int .i64 0, .int .i64 0] zeroLg ?_; intro w1 hr1 hc1 hs1; have HL := Lib.hid (LedP.zero hr1); have HC := Lib.hid (HCV.out.trans hc1); have HF := Lib.hid (And.intro HCV.out.size hr1.lt); clear hr1 hc1 hs1))
  go_loopw [8] (fun i wr => ∃ j : Nat, i = .int .i64 (j : Int) ∧ j ≤ k ∧ Hid (LedP wr w1.heap.size wv.heap.size (NS m j) j 0) ∧ Hid (Chg none_ w wr)) (fun i _ => k - (intOf i).toNat)
  case atStart => exact ⟨0, rfl, Nat.zero_le _, HL, HC⟩
  case round =>
    clear HL HC HCV
    obtain ⟨j, rfl, hj, HL, HC⟩ := hrel
    by_cases hlt : j < k
    · have k1 : (j : Int) < (k : Int) := by omega
      go_wp2_with ((with_reducible show Calls _ 9 _ _ _); refine (nSend m j hm12 HL.out (by omega)).mono ?_; rintro e w6 ⟨rfl, hl, hc⟩; have HL := Lib.hid hl; have HC := Lib.hid (HC.out.andThen hc (turnW HF.out.1 HF.out.2)); clear hl hc)
      go_roundw
      case rel => exact ⟨j + 1, by go_num, by omega, HL, HC⟩
      case measure => simp [intOf]; omega
    · have hke : j = k := by omega
      subst hke
      clear hlt hj
      go_wp2_with (first | ((with_reducible show Calls _ 17 _ _ _); refine (pNext HL.out).mono ?_; rintro e w9 ⟨rfl, rfl⟩) | ((with_reducible show Calls _ 13 _ _ _); refine (nList m j HL.out).mono ?_; rintro e w9 ⟨AX, cx, rfl, hc⟩; have HL := Lib.hid (HL.out.quiet hc); have HC := Lib.hid (HC.out.trans hc); clear hc) | ((with_reducible show Calls _ 16 _ _ _); refine (nFlight m j HL.out).mono ?_; rintro e w9 ⟨rfl, hc⟩; simp only [← HQN.out]; have HL := Lib.hid (HL.out.quiet hc); have HC := Lib.hid (HC.out.trans hc); clear hc) | ((with_reducible show Calls _ 16 _ _ _); refine (nFlight0 j HL.out).mono ?_; rintro e w9 ⟨rfl, hc⟩; have HL := Lib.hid (HL.out.quiet hc); have HC := Lib.hid (HC.out.trans hc); clear hc) | ((with_reducible show Calls _ 14 _ _ _); refine (nDrop m j HL.out).mono ?_; rintro e w9 ⟨rfl, hl, hc⟩; have HL := Lib.hid hl; have HC := Lib.hid (HC.out.andThen hc (turnW HF.out.1 HF.out.2)); clear hl hc))
      go_ret
      exact ⟨rfl, HC.out⟩
end Go.Proofs.Ytakoeamfmmbdiaa
