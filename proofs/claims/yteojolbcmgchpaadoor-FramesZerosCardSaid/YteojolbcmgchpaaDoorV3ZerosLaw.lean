/- Layer 3 (frames): the walk of the law FramesZeros. -/
import Derived.Test.YteojolbcmgchpaaDoorV3Alive
import Derived.Test.YteojolbcmgchpaaDoorV3ZerosM
import Derived.Test.YteojolbcmgchpaaDoorMakeB
namespace Go.Proofs.YteojolbcmgchpaaDoor
open Go.RowKit

theorem info5z : (Tryd.prog.info? 5).map (fun i => (i.zero, i.size, i.bytes)) = some (some (.int .u8 0), 1, 1) := by kernel_rfl
theorem u16_of_wf {n : Nat} (h : (Lit.int .u16 (n : Int)).wf = true) : n < 65536 := by
  rw [show (Lit.int .u16 (n : Int)).wf = (decide ((0 : Int) ≤ n) && decide ((n : Int) ≤ 65535)) from rfl] at h
  simp at h; omega
theorem wpList_make_bytes {P : Program} {ops : Array Oper} {rest : List Oper} {o : Oper} {a : Act} {w : World} {Q : Exit → Act → World → Prop} (l c : Operand) (t : TypeId) (hop : o.op = Op.makeSlice t l c) (hw : Region.wanted o (yielded ops a.tmps) = true)
    (e : TypeId) (ht : P.underlying t = some (.slice e)) (hinfo : (P.info? e).map (fun i => (i.zero, i.size, i.bytes)) = some (some (.int .u8 0), 1, 1))
    (n : Nat) (hl : a.eval l = .int .i64 (n : Int)) (hc : a.eval c = .int .i64 (n : Int)) (hn : n ≤ 1000000)
    (k : ∀ w', Row w' w.heap.size e (u8s (List.replicate n 0)) → Chg none_ w w' → wpList P ops Q rest (a.put o.dst (.slice (some ⟨w.heap.size, 0, none⟩) n n)) w') : wpList P ops Q (o :: rest) a w :=
  BigFrame.wpList_want hw fun _ hK => wp_make_bytes l c t hop e ht hinfo n hl hc hn fun w' h1 h2 => hK _ _ (k w' h1 h2)
theorem fcellsL_get : ∀ (L : List FrV), (∀ x ∈ L, x.1.tok.length = 16) → ∀ (j : Nat) (x : FrV) (c : Nat), L[j]? = some x → c < 24 → (fcellsL L)[j * 24 + c]? = (cellsF x.1 x.2.1 x.2.2)[c]?
  | [], _, j, x, c, h, _ => by simp at h
  | y :: L, ht, j, x, c, h, hc => by
    have hl : (cellsF y.1 y.2.1 y.2.2).length = 24 := cF_len _ _ _ (ht y (by simp))
    show (cellsF y.1 y.2.1 y.2.2 ++ fcellsL L)[j * 24 + c]? = _
    cases j with
    | zero =>
      obtain rfl : y = x := by simpa using h
      rw [Nat.zero_mul, Nat.zero_add, List.getElem?_append_left (by omega)]
    | succ j =>
      rw [List.getElem?_append_right (by omega), hl, show (j + 1) * 24 + c - 24 = j * 24 + c by omega]
      exact fcellsL_get L (fun z hz => ht z (by simp [hz])) j x c (by simpa using h) hc

set_option maxRecDepth 100000 in
set_option maxHeartbeats 4000000 in
theorem walk_FramesZeros (n0 : Int) (w : World) (hn : (Lit.int .u16 n0).wf = true) (hT : Tab w) : Calls Tryd.prog 8 #[.int .u16 n0] w fun e w' => e = .returned (.bool true) ∧ Chg none_ w w' := by
  obtain ⟨n, rfl⟩ := nat_of_wf hn rfl
  have hN := u16_of_wf hn
  clear hn
  obtain ⟨k, hk⟩ : ∃ k, k = 1 + n % 4000 := ⟨_, rfl⟩
  have hk1 : 1 + (n : Int) % 4000 = (k : Int) := by omega
  have hk2 : 1 ≤ k := by omega
  have hk3 : k ≤ 4000 := by omega
  obtain ⟨z1, z2, z3⟩ := zL_facts k hk2 hk3
  have HPZ := parse_zeros k hk2 hk3
  have HAL := Lib.hid (alive_any w hT)
  obtain ⟨m, hm⟩ : ∃ m, m = (zL k).length := ⟨_, rfl⟩
  have hm1 : ((k : Int) + 1199) / 1200 = (m : Int) := by rw [hm, z1]; omega
  have hm4 : m ≤ 4 := by rw [hm, z1]; omega
  have HPR : Hid (∀ x g, Row x g 5 (u8s (List.replicate k 0)) → Calls Tryd.prog 20 #[.slice (some ⟨g, 0, none⟩) k k] x (ParsePost ((zL k).map fZ, 0) x)) := Lib.hid (fun x g hr => by
    have hv : View x (fun _ => True) (some ⟨g, 0, none⟩) (List.replicate k 0).length (u8s (List.replicate k 0)) := by
      have := View.row (T := fun _ => True) hr (n := (List.replicate k 0).length) (by simp) trivial
      rwa [List.take_of_length_le (by simp)] at this
    have := parse_any x (fun _ => True) (some ⟨g, 0, none⟩) k (List.replicate k 0) hv (by simp; omega) (fun y hy => by rw [List.eq_of_mem_replicate hy]; omega)
    rw [HPZ, List.length_replicate] at this
    exact this)
  clear HPZ hk hT
  go_enter Tryd.func8, Tryd.ntmps8
  go_wp2_with (first | (go_at_call 10; refine HAL.out.mono ?_; rintro e w1 ⟨rfl, hc1⟩; have HC1 := Lib.hid hc1; clear hc1) | ((with_reducible show wpList _ _ _ (⟨some 16, _, _, _, _, _⟩ :: _) _ _); refine wpList_make_bytes _ _ _ rfl rfl 5 Tryd.underlying23 info5z k rfl rfl (by omega) ?_; intro w2 hr2 hc2; have HR2 := Lib.hid hr2; have HC2 := Lib.hid hc2; clear hr2 hc2) | (go_at_call 20; refine (HPR.out _ _ HR2.out).mono ?_; rintro e w3 ⟨v3, L, base, T3, rfl, hfs, hbase, hL, hc3⟩; have HFS := Lib.hid hfs; have HL := Lib.hid hL; have HC3 := Lib.hid hc3; clear hfs hbase hL hc3))
  have hL : L.map (·.1) = (zL k).map fZ := HL.out
  have hlen : L.length = m := by have := congrArg List.length hL; rw [List.length_map, List.length_map] at this; omega
  obtain ⟨A, cap, hv3, _, _, hvw⟩ := view_ownN HFS.out.own
  rw [hlen] at hv3 hvw
  subst hv3
  have HV := Lib.hid hvw
  have HEL : Hid (∀ j, j < m → ∃ x, L[j]? = some x ∧ x.1 = fZ ((zL k).getD j 0)) := Lib.hid (fun j hj => by
    have h1 : j < L.length := by omega
    have h2 : j < (zL k).length := by omega
    refine ⟨L[j], List.getElem?_eq_getElem h1, ?_⟩
    have h3 := congrArg (fun l => l[j]?) hL
    simp only [List.getElem?_map, List.getElem?_eq_getElem h1, List.getElem?_eq_getElem h2, Option.map_some, Option.some.injEq] at h3
    rw [h3, List.getD_eq_getElem?_getD, List.getElem?_eq_getElem h2]
    rfl)
  have HTOK : Hid (∀ x ∈ L, x.1.tok.length = 16) := Lib.hid (fun x hx => (HFS.out.at_ x hx).tok)
  have HSUM : Hid (∀ j, ((zL k).take j).sum ≤ 4000) := Lib.hid (fun j => by
    have h := congrArg List.sum (List.take_append_drop j (zL k))
    rw [List.sum_append, z2] at h
    omega)
  have HZ2 := Lib.hid z2
  have HZ3 := Lib.hid z3
  have HM := Lib.hid hm
  have HCW := Lib.hid ((HC1.out.trans HC2.out).trans HC3.out)
  clear hL hlen hvw z1 z2 z3 hm HFS HL HC1 HC2 HC3 HR2
  go_loopw [6, 7] (fun t i wr => ∃ j : Nat, j ≤ m ∧ i = .int .i64 (j : Int) ∧ t = .int .u64 (((zL k).take j).sum : Nat) ∧ w3 = wr) (fun _ i _ => m - (intOf i).toNat)
  case atStart => exact ⟨0, Nat.zero_le _, rfl, rfl, rfl⟩
  case round =>
    obtain ⟨j, hj, rfl, rfl, rfl⟩ := hrel
    by_cases hlt : j < m
    · obtain ⟨b, o, hA, hb, _, hcell⟩ := HV.out.2 (by omega)
      subst hA
      obtain ⟨x, hx, hx1⟩ := HEL.out j hlt
      have c0 : w3.cell? ⟨b, o + j * 24, none⟩ = some (.int .i64 0) := by
        have h1 := hcell (j * 24 + 0) (by omega)
        rw [fcellsL_get L HTOK.out j x 0 hx (by decide), hx1] at h1
        exact h1
      have c2 : w3.cell? ⟨b, o + j * 24 + 2, none⟩ = some (.int .u64 (((zL k).getD j 0 : Nat) : Int)) := by
        have h1 := hcell (j * 24 + 2) (by omega)
        rw [fcellsL_get L HTOK.out j x 2 hx (by decide), hx1, ← Nat.add_assoc] at h1
        exact h1
      have hj2 : j < (zL k).length := by rw [← HM.out]; exact hlt
      have HT1 : Hid (((zL k).take (j + 1)).sum = ((zL k).take j).sum + (zL k).getD j 0) := Lib.hid (by
        rw [List.take_succ_eq_append_getElem hj2, List.sum_append, List.getD_eq_getElem?_getD, List.getElem?_eq_getElem hj2]
        simp)
      have hle : (zL k).getD j 0 ≤ 1200 := by
        rw [List.getD_eq_getElem?_getD, List.getElem?_eq_getElem hj2]
        exact HZ3.out _ (List.getElem_mem hj2)
      have hs := HSUM.out j
      generalize ((zL k).take j).sum = t at *
      generalize (zL k).getD j 0 = y at *
      clear hcell hx hx1 hj
      go_wp2
      go_roundw
      case rel => exact ⟨j + 1, by omega, by go_num, by rw [HT1.out]; go_num, trivial⟩
      case measure => simp [intOf]; omega
    · have hjm : j = m := by omega
      have hE : ((zL k).take j).sum = k := by rw [hjm, HM.out, List.take_of_length_le (Nat.le_refl _)]; exact HZ2.out
      rw [hE]
      subst hjm
      clear hlt hj hE
      go_wp2
      go_ret
      exact ⟨rfl, HCW.out⟩
end Go.Proofs.YteojolbcmgchpaaDoor
