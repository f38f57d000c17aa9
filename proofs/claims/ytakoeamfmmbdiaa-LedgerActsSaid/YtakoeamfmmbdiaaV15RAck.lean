/- Layer 15 (ledger): the document's ledger: Ack. -/
import Derived.Test.YtakoeamfmmbdiaaV15RRead
namespace Go.Proofs.Ytakoeamfmmbdiaa
open Go.RowKit

def bad1 (next : Nat) (y : Nat × Nat) : Bool := decide (y.1 ≤ y.2) && decide (next ≤ y.2)
theorem badR_any (r : List (Nat × Nat)) (next : Nat) : badR r next = r.any (bad1 next) := rfl
set_option maxRecDepth 100000 in
set_option maxHeartbeats 4000000 in
theorem RAck_bad (r c next acked : Nat) (T T0 : Nat → Prop) (A B : Option Addr) (cr : Nat) (m : List It) (rs : List (Nat × Nat)) (w : World) (h : RLed w r T A c m next acked) (hn : next < 4611686018427387904) (hv : View w T0 B (rs.length * 2) (rs.flatMap rgc)) (hr : rs.length ≤ 1000000) (hb : badR rs next = true) :
    Calls Try.prog 20 #[.pointer (some ⟨r, 0, none⟩), .slice B rs.length cr] w fun e w' => e = .returned (.tuple #[.slice none 0 0, .int .i64 3]) ∧ Chg none_ w w' := by
  have HV : Hid (∀ W, Chg none_ w W → View W T0 B (rs.length * 2) (rs.flatMap rgc)) := Lib.hid (fun W hc => hv.chg hc (fun _ _ h => h))
  have HRW : Hid (∀ W, Chg none_ w W → Row W r 48 [.slice A m.length c, .int .i64 (next : Int), .int .i64 (acked : Int)]) := Lib.hid (fun W hc => h.row.chg hc (fun h => h))
  have HB := Lib.hid hb
  have hw : IntKind.u64.wrap (next : Int) = (next : Int) := wrapN next (by omega)
  clear h hv hb
  go_enter Try.func20, Try.ntmps20
  go_wp2
  go_loopw [6] (fun i wr => ∃ k : Nat, i = .int .i64 (k : Int) ∧ k ≤ rs.length ∧ Hid (Chg none_ w wr) ∧ Hid (∀ j, j < k → bad1 next (rs.getD j (0, 0)) = false)) (fun i _ => rs.length - (intOf i).toNat)
  case atStart => exact ⟨0, rfl, Nat.zero_le _, Lib.hid (Chg.refl _ _), Lib.hid (fun j hj => absurd hj (by omega))⟩
  case round =>
    obtain ⟨k, rfl, hk, HC, HP⟩ := hrel
    by_cases hlt : k < rs.length
    · have k1 : (k : Int) < (rs.length : Int) := by omega
      have k0 : (0 : Int) ≤ (k : Int) := by omega
      obtain ⟨b, o, rfl, hbl, _, hra⟩ := (HV.out wr HC.out).elemAt rgc_len (by decide) (0, 0) hlt
      have hr2 := hra k hlt
      obtain ⟨x, hx⟩ : ∃ x, rs.getD k (0, 0) = x := ⟨_, rfl⟩
      rw [hx] at hr2
      have HXX := Lib.hid hx
      have c0 : wr.cell? ⟨b, o + k * 2, none⟩ = some (.int .u64 (x.1 : Int)) := hr2 0 _ rfl
      have c1 : wr.cell? ⟨b, o + k * 2 + 1, none⟩ = some (.int .u64 (x.2 : Int)) := hr2 1 _ rfl
      have n1 := (HRW.out wr HC.out).cell 1
      simp only [List.getElem?_cons_zero, List.getElem?_cons_succ] at n1
      clear hra hr2 hx hbl
      by_cases h1 : x.1 ≤ x.2
      · have q1 : decide ((x.1 : Int) ≤ (x.2 : Int)) = true := by simpa using h1
        have q1' : decide (x.1 ≤ x.2) = true := by simpa using h1
        by_cases h2 : next ≤ x.2
        · have q2 : decide ((next : Int) ≤ (x.2 : Int)) = true := by simpa using h2
          have q2' : decide (next ≤ x.2) = true := by simpa using h2
          clear h1 h2
          go_wp2
          go_quiet (fail)
          go_wp2
          refine bodyPost_ret (results_tmp2 rfl _ _ _) rfl ?_
          exact ⟨rfl, HC.out.drewN _⟩
        · have q2 : decide ((next : Int) ≤ (x.2 : Int)) = false := by simpa using h2
          have q2' : decide (next ≤ x.2) = false := by simpa using h2
          have HNO : Hid (bad1 next x = false) := Lib.hid (by unfold bad1; rw [q2', Bool.and_false])
          clear h1 h2
          go_wp2
          go_quiet (fail)
          go_wp2
          go_roundw
          case rel =>
            refine ⟨k + 1, by go_num, by omega, Lib.hid (HC.out.drewN _), Lib.hid (fun j hj => ?_)⟩
            rcases Nat.lt_or_ge j k with h | h
            · exact HP.out j h
            · rw [show j = k by omega, HXX.out]; exact HNO.out
          case measure => simp [intOf]; omega
      · have q1 : decide ((x.1 : Int) ≤ (x.2 : Int)) = false := by simpa using h1
        have q1' : decide (x.1 ≤ x.2) = false := by simpa using h1
        have HNO : Hid (bad1 next x = false) := Lib.hid (by unfold bad1; rw [q1', Bool.false_and])
        clear h1
        go_wp2
        go_quiet (fail)
        go_wp2
        go_roundw
        case rel =>
          refine ⟨k + 1, by go_num, by omega, Lib.hid (HC.out.drewN _), Lib.hid (fun j hj => ?_)⟩
          rcases Nat.lt_or_ge j k with h | h
          · exact HP.out j h
          · rw [show j = k by omega, HXX.out]; exact HNO.out
        case measure => simp [intOf]; omega
    · exfalso
      have hke : k = rs.length := by omega
      subst hke
      have h1 := HB.out
      rw [badR_any] at h1
      obtain ⟨y, hy, e⟩ := List.any_eq_true.1 h1
      obtain ⟨j, hj, e2⟩ := List.mem_iff_getElem.1 hy
      have := HP.out j hj
      rw [getD_lt (0, 0) hj, e2, e] at this
      cases this

set_option maxRecDepth 100000 in
set_option maxHeartbeats 8000000 in
theorem RAck_any (r c next acked : Nat) (T T0 : Nat → Prop) (A B : Option Addr) (cr : Nat) (m : List It) (rs : List (Nat × Nat)) (w : World) (h : RLed w r T A c m next acked) (hn : next < 4611686018427387904) (ha : acked ≤ next) (hl : m.length ≤ 64) (hx : ∀ x ∈ m, 0 ≤ x.num ∧ x.num < (next : Int))
    (hv : View w T0 B (rs.length * 2) (rs.flatMap rgc)) (hvr : ∀ b, T0 b → b ≠ r) (hr : rs.length ≤ 1000000) (hb : badR rs next = false) :
    Calls Try.prog 20 #[.pointer (some ⟨r, 0, none⟩), .slice B rs.length cr] w fun e w' => ∃ AG cg A' c', e = .returned (.tuple #[.slice AG (m.filter (inR rs)).length cg, .int .i64 0]) ∧ OwnS w' w.heap.size (.slice AG (m.filter (inR rs)).length cg) (m.filter (inR rs)) ∧
      RLed w' r (fun b => T b ∨ w.heap.size ≤ b) A' c' (m.filter (fun x => !inR rs x)) next (maxA acked (m.filter (inR rs))) ∧ Chg (· = r) w w' := by
  have HH := Lib.hid h
  have HV : Hid (∀ W, Chg (· = r) w W → View W T0 B (rs.length * 2) (rs.flatMap rgc)) := Lib.hid (fun W hc => hv.chg hc hvr)
  have HLV : Hid (∀ W, Chg (· = r) w W → View W T A (m.length * 5) (m.flatMap itc)) := Lib.hid (fun W hc => h.view.chg hc h.nr)
  have HRW : Hid (∀ W, Chg none_ w W → Row W r 48 [.slice A m.length c, .int .i64 (next : Int), .int .i64 (acked : Int)]) := Lib.hid (fun W hc => h.row.chg hc (fun h => h))
  have HB : Hid (∀ j, j < rs.length → bad1 next (rs.getD j (0, 0)) = false) := Lib.hid (fun j hj => by
    rw [badR_any, List.any_eq_false] at hb
    have := hb _ (getD_mem (0, 0) hj)
    simpa using this)
  have HIN : Hid (∀ (x : Nat) W, Chg (· = r) w W → Calls Try.prog 37 #[.slice B rs.length cr, .int .u64 (x : Int)] W fun e w' => e = .returned (.bool (rs.any fun y => decide (y.1 ≤ x) && decide (x ≤ y.2))) ∧ W = w') := Lib.hid (fun x W hc => In_any x rs T0 B cr W (hv.chg hc hvr) hr)
  have HX := Lib.hid hx
  have HNB : Hid (next < 4611686018427387904 ∧ acked ≤ next) := Lib.hid ⟨hn, ha⟩
  have HRLT := Lib.hid h.row.lt
  have hw : IntKind.u64.wrap (next : Int) = (next : Int) := wrapN next (by omega)
  obtain ⟨i5, hi5⟩ := infoS
  clear h hv hb hx
  go_enter Try.func20, Try.ntmps20
  go_wp2
  go_loopw [6] (fun i wr => ∃ k : Nat, i = .int .i64 (k : Int) ∧ k ≤ rs.length ∧ Hid (Chg none_ w wr)) (fun i _ => rs.length - (intOf i).toNat)
  case atStart => exact ⟨0, rfl, Nat.zero_le _, Lib.hid (Chg.refl _ _)⟩
  case round =>
    obtain ⟨k, rfl, hk, HC⟩ := hrel
    by_cases hlt : k < rs.length
    · have k1 : (k : Int) < (rs.length : Int) := by omega
      have k0 : (0 : Int) ≤ (k : Int) := by omega
      obtain ⟨b, o, rfl, hbl, _, hra⟩ := (HV.out wr (HC.out.mono (fun _ _ h => h.elim))).elemAt rgc_len (by decide) (0, 0) hlt
      have hr2 := hra k hlt
      obtain ⟨x, hx⟩ : ∃ x, rs.getD k (0, 0) = x := ⟨_, rfl⟩
      rw [hx] at hr2
      have HXX := Lib.hid hx
      have c0 : wr.cell? ⟨b, o + k * 2, none⟩ = some (.int .u64 (x.1 : Int)) := hr2 0 _ rfl
      have c1 : wr.cell? ⟨b, o + k * 2 + 1, none⟩ = some (.int .u64 (x.2 : Int)) := hr2 1 _ rfl
      have n1 := (HRW.out wr HC.out).cell 1
      simp only [List.getElem?_cons_zero, List.getElem?_cons_succ] at n1
      clear hra hr2 hx hbl
      by_cases h1 : x.1 ≤ x.2
      · have q1 : decide ((x.1 : Int) ≤ (x.2 : Int)) = true := by simpa using h1
        have q1' : decide (x.1 ≤ x.2) = true := by simpa using h1
        by_cases h2 : next ≤ x.2
        · have q2 : decide ((next : Int) ≤ (x.2 : Int)) = true := by simpa using h2
          have q2' : decide (next ≤ x.2) = true := by simpa using h2
          exfalso
          have := HB.out k hlt
          rw [HXX.out] at this
          unfold bad1 at this
          rw [q1', q2'] at this
          cases this
        · have q2 : decide ((next : Int) ≤ (x.2 : Int)) = false := by simpa using h2
          have q2' : decide (next ≤ x.2) = false := by simpa using h2
          have HNO : Hid (bad1 next x = false) := Lib.hid (by unfold bad1; rw [q2', Bool.and_false])
          clear h1 h2
          go_wp2
          go_quiet (fail)
          go_wp2
          go_roundw
          case rel => exact ⟨k + 1, by go_num, by omega, Lib.hid (HC.out.drewN _)⟩
          case measure => simp [intOf]; omega
      · have q1 : decide ((x.1 : Int) ≤ (x.2 : Int)) = false := by simpa using h1
        have q1' : decide (x.1 ≤ x.2) = false := by simpa using h1
        have HNO : Hid (bad1 next x = false) := Lib.hid (by unfold bad1; rw [q1', Bool.false_and])
        clear h1
        go_wp2
        go_quiet (fail)
        go_wp2
        go_roundw
        case rel => exact ⟨k + 1, by go_num, by omega, Lib.hid (HC.out.drewN _)⟩
        case measure => simp [intOf]; omega
    · have hke : k = rs.length := by omega
      subst hke
      clear hlt hk
      go_wp2
      go_loopw [7, 8, 9] (fun i7 i8 i wQ => ∃ (k a : Nat) (gv lv : Value), i = .int .i64 (k : Int) ∧ gv = i7 ∧ lv = i8 ∧ k ≤ m.length ∧ a ≤ next ∧ Hid (a = maxA acked ((m.take k).filter (inR rs))) ∧ Hid (Row wQ r 48 [.slice A m.length c, .int .i64 (next : Int), .int .i64 (a : Int)]) ∧ Hid (Chg (· = r) w wQ) ∧ Hid (OwnS wQ w.heap.size gv ((m.take k).filter (inR rs))) ∧ Hid (OwnS wQ w.heap.size lv ((m.take k).filter (fun x => !inR rs x))) ∧ Hid (∀ b, gv.ownBlock = some b → lv.ownBlock ≠ some b)) (fun _ _ i _ => m.length - (intOf i).toNat)
      case atStart => exact ⟨0, acked, _, _, rfl, rfl, rfl, Nat.zero_le _, HNB.out.2, Lib.hid rfl, Lib.hid (HRW.out _ HC.out), Lib.hid (HC.out.mono (fun _ _ h => h.elim)), Lib.hid (OwnN.nil _ _ _ _ _), Lib.hid (OwnN.nil _ _ _ _ _), Lib.hid (fun b e => nomatch e)⟩
      case round =>
        clear HC
        obtain ⟨k, a, gv, lv, rfl, rfl, rfl, hk, han, HA, HR, HC, HGV, HLV2, HDJ⟩ := hrel
        have r0 := HR.out.cell 0
        have r2 := HR.out.cell 2
        have rf := HR.out.frozen 2
        simp only [List.getElem?_cons_zero, List.getElem?_cons_succ] at r0 r2
        by_cases hlt : k < m.length
        · have k1 : (k : Int) < (m.length : Int) := by omega
          have k0 : (0 : Int) ≤ (k : Int) := by omega
          obtain ⟨b, o, rfl, hbl, hTb, hra⟩ := (HLV.out wr HC.out).elemAt itc_len (by decide) it0 hlt
          have hmx : m.getD k it0 ∈ m := getD_mem it0 hlt
          have hr2 := hra k hlt
          obtain ⟨x, hx⟩ : ∃ x, m.getD k it0 = x := ⟨_, rfl⟩
          rw [hx] at hr2 hmx
          obtain ⟨hx0, hx1⟩ := HX.out x hmx
          obtain ⟨q, hqn⟩ : ∃ q : Nat, x.num = (q : Int) := ⟨x.num.toNat, by omega⟩
          have HQN := Lib.hid hqn
          have c0 : wr.cell? ⟨b, o + k * 5, none⟩ = some (.int .i64 (q : Int)) := by rw [← hqn]; exact hr2 0 _ rfl
          rw [hqn] at hx1
          have hxb : (q : Int) < 4611686018427387904 := by have := HNB.out.1; omega
          have hx00 : (0 : Int) ≤ (q : Int) := by omega
          have HRX := Lib.hid hr2
          have HXK := Lib.hid hx
          have HTK : Hid (m.take (k + 1) = m.take k ++ [x]) := Lib.hid (by rw [take_snoc it0 hlt, hx])
          have hwx : IntKind.u64.wrap (q : Int) = (q : Int) := wrapN q (by omega)
          have HLE : Hid (((m.take k).filter (inR rs)).length + 1 ≤ 1000000 ∧ ((m.take k).filter (fun x => !inR rs x)).length + 1 ≤ 1000000) := Lib.hid (by
            have h1 := List.length_filter_le (inR rs) (m.take k)
            have h2 := List.length_filter_le (fun x => !inR rs x) (m.take k)
            rw [List.length_take] at h1 h2
            omega)
          have HNW : Hid (∀ b, gv.ownBlock = some b → w.heap.size ≤ b) := Lib.hid (fun b e => (HGV.out.lt e).1)
          have HLW : Hid (∀ b, lv.ownBlock = some b → w.heap.size ≤ b) := Lib.hid (fun b e => (HLV2.out.lt e).1)
          clear hra hr2 hx hbl hmx hTb hx0 hqn
          cases hq : inR rs x with
          | true =>
            have HQ := Lib.hid hq
            have HQX : Hid (∀ W, Chg (· = r) w W → Calls Try.prog 37 #[.slice B rs.length cr, .int .u64 (q : Int)] W fun e w' => e = .returned (.bool true) ∧ W = w') := Lib.hid (fun W hc => by have h1 := HIN.out q W hc; unfold inR at hq; rw [HQN.out, Int.toNat_natCast] at hq; rwa [hq] at h1)
            by_cases hge : (a : Int) ≤ (q : Int)
            · have HMA : Hid (max a (q + 1) = q + 1) := Lib.hid (by omega)
              clear hq
              go_wp2_with (first | ((with_reducible show Calls _ 37 _ _ _); refine (HQX.out _ HC.out).mono ?_; rintro e w6 ⟨rfl, rfl⟩) | ((with_reducible show wpList _ _ _ (⟨some 69, .load _ _, _, _, _, _⟩ :: _) _ _); refine wpList_load_Mid (cs := itc x) rfl rfl rfl HRX.out Try.underlying32 rfl sizeS ?_) | ((with_reducible show wpList _ _ _ (⟨some 70, _, _, _, _, _⟩ :: _) _ _); refine wpList_newN (f := fun g => .slice (some ⟨g, 0, none⟩) 1 1) (e := 32) (cs := itc x) rfl (fun w_ => by have := run_sliceS x w_; simp [execOp, Act.eval, Act.put, this]) ?_; intro w7 hr7 hc7 hs7; have HR7 := Lib.hid hr7; have HC7 := Lib.hid hc7; clear hr7 hc7 hs7) | ((with_reducible show wpList _ _ _ (⟨some 71, _, _, _, _, _⟩ :: _) _ _); refine wpList_append_N rfl (c := itc) (e := 32) (s := 5) (base := w.heap.size) (v := gv) (L := ((m.take k).filter (inR rs))) (M := [x]) (T := fun b => b = wr.heap.size) (A := some ⟨wr.heap.size, 0, none⟩) (m := 1) (cp := 1) (i := i5) (z := .agg (itc it0).toArray) _ _ 33 rfl Try.underlying33 hi5 rfl (by decide) itc_one itc_len rfl (HGV.out.chg HC7.out (fun _ _ h => h)) rfl (viewS HR7.out) HLE.out.1 (Nat.le_trans HC.out.size HC7.out.size) ?_; intro v8 w8 o8 c8 n8; have HO8 : Hid (OwnS w8 w.heap.size v8 (((m.take k).filter (inR rs)) ++ [x])) := Lib.hid o8; have HN8 : Hid (∀ b, v8.ownBlock = some b → w.heap.size ≤ b) := Lib.hid (fun b e => (o8.lt e).1); have HOT : Hid (OwnS w8 w.heap.size lv ((m.take k).filter (fun x => !inR rs x))) := Lib.hid ((HLV2.out.chg HC7.out (fun _ _ h => h)).chg c8 (fun b e h => HDJ.out b h e)); have HC8 : Hid (Chg (· = r) w w8) := Lib.hid ((HC.out.trans (HC7.out.mono (fun _ _ h => h.elim))).andThen c8 (fun b hb e => by have := HNW.out b e; omega)); have HR8 := Lib.hid ((HR.out.chg HC7.out (fun h => h)).chg c8 (fun e => by have h1 := HNW.out r e; have h2 := HRLT.out; omega)); have HDJ8 : Hid (∀ b, v8.ownBlock = some b → lv.ownBlock ≠ some b) := Lib.hid (fun b e1 e2 => by rcases n8 b e1 with h | h; (· exact HDJ.out b h e2); (· have h1 := (HLV2.out.lt e2).2; have h2 := HC7.out.size; omega)); have r28 := HR8.out.cell 2; have rf8 := HR8.out.frozen 2; simp only [List.getElem?_cons_zero, List.getElem?_cons_succ] at r28; clear o8 c8 n8))
              have hcc := Lib.hid (Chg.setCell (S := (· = r)) (HC8.out) (p := ⟨r, 2, none⟩) (fun _ => rfl) (.int .i64 ((q : Int) + 1)))
              have hcs := Lib.hid (Chg.setCell (S := (· = r)) (Chg.refl _ w8) (p := ⟨r, 2, none⟩) (fun _ => rfl) (.int .i64 ((q : Int) + 1)))
              have hrs := Lib.hid (HR8.out.set 2 (.int .i64 ((q : Int) + 1)))
              go_roundw
              case rel =>
                refine ⟨k + 1, q + 1, v8, lv, by go_num, rfl, rfl, by omega, by omega, Lib.hid ?_, Lib.hid ?_, hcc, Lib.hid ?_, Lib.hid ?_, Lib.hid (fun b e1 e2 => ?_)⟩
                · rw [HTK.out, List.filter_append, List.filter_cons_of_pos (by simpa using HQ.out), List.filter_nil, maxA_snoc, ← HA.out, HQN.out, Int.toNat_natCast, HMA.out]
                · have h1 := hrs.out
                  rw [show (q : Int) + 1 = ((q + 1 : Nat) : Int) by omega] at h1
                  exact h1
                · rw [HTK.out, List.filter_append, List.filter_cons_of_pos (by simpa using HQ.out), List.filter_nil]
                  exact HO8.out.chg hcs.out (fun b e h => by have h1 := HN8.out b e; have h2 := HRLT.out; omega)
                · rw [HTK.out, List.filter_append, List.filter_cons_of_neg (by simp [HQ.out]), List.filter_nil, List.append_nil]
                  exact HOT.out.chg hcs.out (fun b e h => by have h1 := HLW.out b e; have h2 := HRLT.out; omega)
                · exact HDJ8.out b e1 e2
              case measure =>
                clear hcc hcs hrs hwx hxb hge hx1
                simp [intOf]; omega
            · have HMA : Hid (max a (q + 1) = a) := Lib.hid (by omega)
              have hgd : decide ((a : Int) ≤ (q : Int)) = false := by simpa using hge
              have hgd2 : decide (a ≤ q) = false := by simpa using hge
              clear hq hge hxb hx1
              go_wp2_with (first | ((with_reducible show Calls _ 37 _ _ _); refine (HQX.out _ HC.out).mono ?_; rintro e w6 ⟨rfl, rfl⟩) | ((with_reducible show wpList _ _ _ (⟨some 69, .load _ _, _, _, _, _⟩ :: _) _ _); refine wpList_load_Mid (cs := itc x) rfl rfl rfl HRX.out Try.underlying32 rfl sizeS ?_) | ((with_reducible show wpList _ _ _ (⟨some 70, _, _, _, _, _⟩ :: _) _ _); refine wpList_newN (f := fun g => .slice (some ⟨g, 0, none⟩) 1 1) (e := 32) (cs := itc x) rfl (fun w_ => by have := run_sliceS x w_; simp [execOp, Act.eval, Act.put, this]) ?_; intro w7 hr7 hc7 hs7; have HR7 := Lib.hid hr7; have HC7 := Lib.hid hc7; clear hr7 hc7 hs7) | ((with_reducible show wpList _ _ _ (⟨some 71, _, _, _, _, _⟩ :: _) _ _); refine wpList_append_N rfl (c := itc) (e := 32) (s := 5) (base := w.heap.size) (v := gv) (L := ((m.take k).filter (inR rs))) (M := [x]) (T := fun b => b = wr.heap.size) (A := some ⟨wr.heap.size, 0, none⟩) (m := 1) (cp := 1) (i := i5) (z := .agg (itc it0).toArray) _ _ 33 rfl Try.underlying33 hi5 rfl (by decide) itc_one itc_len rfl (HGV.out.chg HC7.out (fun _ _ h => h)) rfl (viewS HR7.out) HLE.out.1 (Nat.le_trans HC.out.size HC7.out.size) ?_; intro v8 w8 o8 c8 n8; have HO8 : Hid (OwnS w8 w.heap.size v8 (((m.take k).filter (inR rs)) ++ [x])) := Lib.hid o8; have HN8 : Hid (∀ b, v8.ownBlock = some b → w.heap.size ≤ b) := Lib.hid (fun b e => (o8.lt e).1); have HOT : Hid (OwnS w8 w.heap.size lv ((m.take k).filter (fun x => !inR rs x))) := Lib.hid ((HLV2.out.chg HC7.out (fun _ _ h => h)).chg c8 (fun b e h => HDJ.out b h e)); have HC8 : Hid (Chg (· = r) w w8) := Lib.hid ((HC.out.trans (HC7.out.mono (fun _ _ h => h.elim))).andThen c8 (fun b hb e => by have := HNW.out b e; omega)); have HR8 := Lib.hid ((HR.out.chg HC7.out (fun h => h)).chg c8 (fun e => by have h1 := HNW.out r e; have h2 := HRLT.out; omega)); have HDJ8 : Hid (∀ b, v8.ownBlock = some b → lv.ownBlock ≠ some b) := Lib.hid (fun b e1 e2 => by rcases n8 b e1 with h | h; (· exact HDJ.out b h e2); (· have h1 := (HLV2.out.lt e2).2; have h2 := HC7.out.size; omega)); have r28 := HR8.out.cell 2; have rf8 := HR8.out.frozen 2; simp only [List.getElem?_cons_zero, List.getElem?_cons_succ] at r28; clear o8 c8 n8))
              go_roundw
              case rel =>
                refine ⟨k + 1, a, v8, lv, by go_num, rfl, rfl, by omega, han, Lib.hid ?_, HR8, HC8, Lib.hid ?_, Lib.hid ?_, HDJ8⟩
                · rw [HTK.out, List.filter_append, List.filter_cons_of_pos (by simpa using HQ.out), List.filter_nil, maxA_snoc, ← HA.out, HQN.out, Int.toNat_natCast, HMA.out]
                · rw [HTK.out, List.filter_append, List.filter_cons_of_pos (by simpa using HQ.out), List.filter_nil]
                  exact HO8.out
                · rw [HTK.out, List.filter_append, List.filter_cons_of_neg (by simp [HQ.out]), List.filter_nil, List.append_nil]
                  exact HOT.out
              case measure => simp [intOf]; omega
          | false =>
            have HQ := Lib.hid hq
            have HQX : Hid (∀ W, Chg (· = r) w W → Calls Try.prog 37 #[.slice B rs.length cr, .int .u64 (q : Int)] W fun e w' => e = .returned (.bool false) ∧ W = w') := Lib.hid (fun W hc => by have h1 := HIN.out q W hc; unfold inR at hq; rw [HQN.out, Int.toNat_natCast] at hq; rwa [hq] at h1)
            clear hq
            go_wp2_with (first | ((with_reducible show Calls _ 37 _ _ _); refine (HQX.out _ HC.out).mono ?_; rintro e w6 ⟨rfl, rfl⟩) | ((with_reducible show wpList _ _ _ (⟨some 90, .load _ _, _, _, _, _⟩ :: _) _ _); refine wpList_load_Mid (cs := itc x) rfl rfl rfl HRX.out Try.underlying32 rfl sizeS ?_) | ((with_reducible show wpList _ _ _ (⟨some 91, _, _, _, _, _⟩ :: _) _ _); refine wpList_newN (f := fun g => .slice (some ⟨g, 0, none⟩) 1 1) (e := 32) (cs := itc x) rfl (fun w_ => by have := run_sliceS x w_; simp [execOp, Act.eval, Act.put, this]) ?_; intro w7 hr7 hc7 hs7; have HR7 := Lib.hid hr7; have HC7 := Lib.hid hc7; clear hr7 hc7 hs7) | ((with_reducible show wpList _ _ _ (⟨some 92, _, _, _, _, _⟩ :: _) _ _); refine wpList_append_N rfl (c := itc) (e := 32) (s := 5) (base := w.heap.size) (v := lv) (L := ((m.take k).filter (fun x => !inR rs x))) (M := [x]) (T := fun b => b = wr.heap.size) (A := some ⟨wr.heap.size, 0, none⟩) (m := 1) (cp := 1) (i := i5) (z := .agg (itc it0).toArray) _ _ 33 rfl Try.underlying33 hi5 rfl (by decide) itc_one itc_len rfl (HLV2.out.chg HC7.out (fun _ _ h => h)) rfl (viewS HR7.out) HLE.out.2 (Nat.le_trans HC.out.size HC7.out.size) ?_; intro v8 w8 o8 c8 n8; have HO8 : Hid (OwnS w8 w.heap.size v8 (((m.take k).filter (fun x => !inR rs x)) ++ [x])) := Lib.hid o8; have HN8 : Hid (∀ b, v8.ownBlock = some b → w.heap.size ≤ b) := Lib.hid (fun b e => (o8.lt e).1); have HOT : Hid (OwnS w8 w.heap.size gv ((m.take k).filter (inR rs))) := Lib.hid ((HGV.out.chg HC7.out (fun _ _ h => h)).chg c8 (fun b e h => HDJ.out b e h)); have HC8 : Hid (Chg (· = r) w w8) := Lib.hid ((HC.out.trans (HC7.out.mono (fun _ _ h => h.elim))).andThen c8 (fun b hb e => by have := HLW.out b e; omega)); have HR8 := Lib.hid ((HR.out.chg HC7.out (fun h => h)).chg c8 (fun e => by have h1 := HLW.out r e; have h2 := HRLT.out; omega)); have HDJ8 : Hid (∀ b, gv.ownBlock = some b → v8.ownBlock ≠ some b) := Lib.hid (fun b e1 e2 => by rcases n8 b e2 with h | h; (· exact HDJ.out b e1 h); (· have h1 := (HGV.out.lt e1).2; have h2 := HC7.out.size; omega)); have r28 := HR8.out.cell 2; have rf8 := HR8.out.frozen 2; simp only [List.getElem?_cons_zero, List.getElem?_cons_succ] at r28; clear o8 c8 n8))
            go_roundw
            case rel =>
              refine ⟨k + 1, a, gv, v8, by go_num, rfl, rfl, by omega, han, Lib.hid ?_, HR8, HC8, Lib.hid ?_, Lib.hid ?_, HDJ8⟩
              · rw [HTK.out, List.filter_append, List.filter_cons_of_neg (by simp [HQ.out]), List.filter_nil, List.append_nil, ← HA.out]
              · rw [HTK.out, List.filter_append, List.filter_cons_of_neg (by simp [HQ.out]), List.filter_nil, List.append_nil]
                exact HOT.out
              · rw [HTK.out, List.filter_append, List.filter_cons_of_pos (by simp [HQ.out]), List.filter_nil]
                exact HO8.out
            case measure => simp [intOf]; omega
        · have hke : k = m.length := by omega
          subst hke
          rw [List.take_of_length_le (Nat.le_refl _)] at HGV HLV2 HA
          obtain ⟨AG, cg, rfl, _, _⟩ := shapeS HGV.out
          obtain ⟨AL, cl, rfl, hcl, _⟩ := shapeS HLV2.out
          have rf0 := HR.out.frozen 0
          have HRW2 := Lib.hid (HR.out.set 0 (.slice AL (m.filter (fun x => !inR rs x)).length cl))
          have HCW := Lib.hid (Chg.setCell (S := (· = r)) HC.out (p := ⟨r, 0, none⟩) (fun _ => rfl) (.slice AL (m.filter (fun x => !inR rs x)).length cl))
          have HCS := Lib.hid (Chg.setCell (S := (· = r)) (Chg.refl _ wr) (p := ⟨r, 0, none⟩) (fun _ => rfl) (.slice AL (m.filter (fun x => !inR rs x)).length cl))
          clear hlt hk r2 rf
          go_wp2
          refine bodyPost_ret (results_tmp2 rfl _ _ _) rfl ?_
          have hgl := HRLT.out
          have hg1 := HGV.out.chg HCS.out (fun b e h => by have := (HGV.out.lt e).1; omega)
          have hl1 := HLV2.out.chg HCS.out (fun b e h => by have := (HLV2.out.lt e).1; omega)
          obtain ⟨A4, c4, e4, h4, _, v4⟩ := hl1.view
          injection e4 with e5 _ e6
          subst e5; subst e6
          refine ⟨AG, cg, AL, cl, rfl, hg1, ⟨?_, hcl, v4.mono (fun b _ hb => Or.inr (hl1.lt hb).1), fun z hz => ((HH.out.its z (List.mem_filter.1 hz).1).chg HCW.out (fun b hb e => HH.out.nr b hb e)).mono (fun _ _ h => Or.inl h), fun b hb => ?_⟩, HCW.out⟩
          · rw [← HA.out]
            exact HRW2.out
          · rcases hb with hb | hb
            · exact HH.out.nr b hb
            · intro e; omega
end Go.Proofs.Ytakoeamfmmbdiaa
