/- Layer 15 (ledger): the law LedgerOnce. -/
import Derived.Test.YtakoeamfmmbdiaaV15Alive
import Derived.Test.YtakoeamfmmbdiaaV15Few
namespace Go.Proofs.Ytakoeamfmmbdiaa
open Go.RowKit

/-! ### plainly: how often each number has gone -/
def cnt (S : List Sn) (n : Nat) : Nat := (S.map (·.num)).count (n : Int)
theorem cnt_nil (n : Nat) : cnt [] n = 0 := rfl
theorem cnt_app (S R : List Sn) (n : Nat) : cnt (S ++ R) n = cnt S n + cnt R n := by simp [cnt]
theorem cnt_one (s : Sn) (n : Nat) : cnt [s] n = if s.num = (n : Int) then 1 else 0 := by
  unfold cnt
  rw [List.map_singleton, List.count_singleton]
  by_cases h : s.num = (n : Int)
  · rw [if_pos h, if_pos (by simpa using h)]
  · rw [if_neg h, if_neg (by simpa using h)]
theorem cnt_part (q : Sn → Bool) (n : Nat) : ∀ S : List Sn, cnt (S.filter q) n + cnt (S.filter (fun s => !q s)) n = cnt S n
  | [] => rfl
  | s :: S => by
    have ih := cnt_part q n S
    have e : s :: S = [s] ++ S := rfl
    rw [e, List.filter_append, List.filter_append, cnt_app, cnt_app, cnt_app, ← ih]
    cases hq : q s with
    | true => rw [List.filter_cons_of_pos hq, List.filter_nil, List.filter_cons_of_neg (by simp [hq]), List.filter_nil, cnt_nil]; omega
    | false => rw [List.filter_cons_of_neg (by simp [hq]), List.filter_nil, List.filter_cons_of_pos (by simp [hq]), List.filter_nil, cnt_nil]; omega
/-- The numbers' places. -/
def hc (had : List Nat) : List Value := had.map fun (x : Nat) => Value.int .i64 (x : Int)
theorem hc_get (had : List Nat) (i : Nat) (h : i < had.length) : (hc had)[i]? = some (.int .i64 ((had.getD i 0 : Nat) : Int)) := by
  unfold hc
  rw [List.getElem?_map, List.getElem?_eq_getElem h, getD_lt 0 h]
  rfl
theorem hc_set (had : List Nat) (i x : Nat) : (hc had).set i (.int .i64 (x : Int)) = hc (had.set i x) := by
  unfold hc
  rw [List.map_set]
theorem getD_set {l : List Nat} {i j x : Nat} (h : i < l.length) : (l.set i x).getD j 0 = if i = j then x else l.getD j 0 := by
  by_cases e : i = j
  · subst e
    rw [if_pos rfl, getD_set_self _ _ _ _ h]
  · rw [if_neg e, getD_set_other _ _ _ _ _ e]
/-- Each number that was given has gone, or is there, just once. -/
def Inv (had : List Nat) (P : List Sn) (next : Nat) : Prop := had.length = 200 ∧ ∀ n, n < 200 → had.getD n 0 + cnt P n = if n < next then 1 else 0
/-- .. with those that just went. -/
def Inv2 (had : List Nat) (G P : List Sn) (next : Nat) : Prop := had.length = 200 ∧ ∀ n, n < 200 → had.getD n 0 + cnt G n + cnt P n = if n < next then 1 else 0
theorem Inv.zero : Inv (List.replicate 200 0) [] 0 := ⟨List.length_replicate, fun n hn => by
  rw [cnt_nil, List.getD_eq_getElem?_getD, List.getElem?_replicate, if_pos hn, if_neg (Nat.not_lt_zero _)]
  rfl⟩
theorem Inv.send {had : List Nat} {P : List Sn} {next : Nat} (h : Inv had P next) (s : Sn) (hs : s.num = (next : Int)) : Inv had (P ++ [s]) (next + 1) := ⟨h.1, fun n hn => by
  have := h.2 n hn
  rw [cnt_app, cnt_one, hs]
  by_cases e : next = n
  · subst e
    rw [if_pos rfl]
    rw [if_neg (Nat.lt_irrefl _)] at this
    rw [if_pos (by omega)]
    omega
  · rw [if_neg (by omega)]
    by_cases h2 : n < next
    · rw [if_pos h2] at this; rw [if_pos (by omega)]; omega
    · rw [if_neg h2] at this; rw [if_neg (by omega)]; omega⟩
theorem Inv.part {had : List Nat} {P : List Sn} {next : Nat} (h : Inv had P next) (q : Sn → Bool) : Inv2 had (P.filter q) (P.filter (fun s => !q s)) next := ⟨h.1, fun n hn => by
  have := h.2 n hn
  have h2 := cnt_part q n P
  omega⟩
theorem Inv.none {had : List Nat} {P : List Sn} {next : Nat} (h : Inv had P next) : Inv2 had [] P next := ⟨h.1, fun n hn => by rw [cnt_nil]; exact h.2 n hn⟩
/-- One of those that went is told. -/
theorem Inv2.step {had : List Nat} {s : Sn} {G P : List Sn} {next m : Nat} (h : Inv2 had (s :: G) P next) (hs : s.num = (m : Int)) (hm : m < 200) : Inv2 (had.set m (had.getD m 0 + 1)) G P next ∧ had.getD m 0 ≤ 1 := by
  have hc1 : ∀ n, cnt (s :: G) n = cnt [s] n + cnt G n := fun n => cnt_app [s] G n
  refine ⟨⟨by rw [List.length_set]; exact h.1, fun n hn => ?_⟩, ?_⟩
  · have := h.2 n hn
    rw [hc1, cnt_one, hs] at this
    rw [getD_set (by rw [h.1]; exact hm)]
    by_cases e : m = n
    · subst e
      rw [if_pos rfl] at this ⊢
      omega
    · rw [if_neg (by omega)] at this
      rw [if_neg e]
      omega
  · have := h.2 m hm
    split at this <;> omega
theorem Inv2.done {had : List Nat} {P : List Sn} {next : Nat} (h : Inv2 had [] P next) : Inv had P next := ⟨h.1, fun n hn => by have := h.2 n hn; rw [cnt_nil] at this; omega⟩
theorem Inv2.all {had : List Nat} {next : Nat} (h : Inv2 had [] [] next) : ∀ n, n < 200 → n < next → had.getD n 0 = 1 := fun n hn hl => by
  have := h.2 n hn
  rw [cnt_nil, if_pos hl] at this
  omega
theorem Inv.rest {had : List Nat} {P : List Sn} {next : Nat} (h : Inv had P next) : Inv2 had P [] next := ⟨h.1, fun n hn => by rw [cnt_nil]; exact h.2 n hn⟩
theorem flNs_snoc (S : List Sn) (s : Sn) : flNs (S ++ [s]) = flNs S + if s.ask then 1 else 0 := by
  unfold flNs
  cases h : s.ask <;> simp [h]
theorem flBs_snoc (S : List Sn) (s : Sn) : flBs (S ++ [s]) = flBs S + if s.ask then s.size.toNat else 0 := by
  unfold flBs
  cases h : s.ask <;> simp [h]
theorem flNs_le (S : List Sn) : flNs S ≤ S.length := List.length_filter_le _ _
theorem flBs_le : ∀ (S : List Sn), (∀ s ∈ S, s.size ≤ 1200) → flBs S ≤ 1200 * S.length := by
  have : ∀ (S : List Sn) (b : Nat), (∀ s ∈ S, s.size ≤ 1200) → S.foldl (fun b s => b + s.size.toNat) b ≤ b + 1200 * S.length := by
    intro S
    induction S with
    | nil => intro b _; simp
    | cons s S ih =>
      intro b h
      rw [List.foldl_cons, List.length_cons]
      have := ih (b + s.size.toNat) (fun y hy => h y (by simp [hy]))
      have := h s (by simp)
      omega
  intro S h
  unfold flBs
  have h1 := this (S.filter (fun s => s.ask)) 0 (fun s hs => h s (List.mem_filter.1 hs).1)
  have h2 := List.length_filter_le (fun s : Sn => s.ask) S
  omega

theorem zero200 : (Try.prog.info? 60).map (·.zero) = some (some (.agg (hc (List.replicate 200 0)).toArray)) := by kernel_rfl
theorem size200 : (Try.prog.info? 60).map (·.size) = some 200 := by kernel_rfl

section
variable {w : World} {B g next above : Nat} {P : List Sn}
theorem qAck {T0 : Nat → Prop} {r : List (Nat × Nat)} {A : Option Addr} {c : Nat} (h : LedP w B g P next above) (hv : View w T0 A (r.length * 2) (r.flatMap rgc)) (hr : r.length ≤ 1000000) (hb : badS r next = false) :
    Calls Try.prog 10 #[.pointer (some ⟨g, 0, none⟩), .slice A r.length c] w fun e w' => ∃ AG cg G, e = .returned (.tuple #[.slice AG G.length cg, .int .i64 0]) ∧ OwnS w' w.heap.size (.slice AG G.length cg) G ∧ G.map It.pl = P.filter (inS r) ∧
      LedP w' B g (P.filter (fun s => !inS r s)) next (maxS above (P.filter (inS r))) ∧ Chg (Tn B g) w w' := by
  refine (pAck (c := c) h hv hr hb).mono ?_
  rintro e w' ⟨AG, cg, G, rfl, h1, h2, h3, h4⟩
  rw [← h2, List.length_map] at h1 ⊢
  exact ⟨AG, cg, G, rfl, h1, rfl, by rw [h2]; exact h3, h4⟩
theorem qLost (now delay : Nat) (h : LedP w B g P next above) :
    Calls Try.prog 12 #[.pointer (some ⟨g, 0, none⟩), .int .u64 (now : Int), .int .u64 (delay : Int)] w fun e w' => ∃ AG cg G, e = .returned (.slice AG G.length cg) ∧ OwnS w' w.heap.size (.slice AG G.length cg) G ∧ G.map It.pl = P.filter (lostS above delay now) ∧
      LedP w' B g (P.filter (fun s => !lostS above delay now s)) next above ∧ Chg (Tn B g) w w' := by
  refine (pLost now delay h).mono ?_
  rintro e w' ⟨AG, cg, G, rfl, h1, h2, h3, h4⟩
  rw [← h2, List.length_map] at h1 ⊢
  exact ⟨AG, cg, G, rfl, h1, rfl, h3, h4⟩
theorem qList (h : LedP w B g P next above) : Calls Try.prog 13 #[.pointer (some ⟨g, 0, none⟩)] w fun e w' => ∃ AG cg G, e = .returned (.slice AG G.length cg) ∧ OwnS w' w.heap.size (.slice AG G.length cg) G ∧ G.map It.pl = P ∧ Chg none_ w w' := by
  refine (pList h).mono ?_
  rintro e w' ⟨AG, cg, G, rfl, h1, rfl, h4⟩
  rw [List.length_map] at h1 ⊢
  exact ⟨AG, cg, G, rfl, h1, rfl, h4⟩
theorem nums_lt (h : LedP w B g P next above) (hn : next ≤ 120) {q : Sn → Bool} {G : List It} (hG : G.map It.pl = P.filter q) : ∀ y ∈ G, ∃ j : Nat, y.num = (j : Int) ∧ j < 200 := fun y hy => by
  have hm : y.pl ∈ P.filter q := by rw [← hG]; exact List.mem_map_of_mem hy
  have := (h.ok.each _ (List.mem_filter.1 hm).1).1
  exact ⟨y.num.toNat, by have h1 : 0 ≤ y.num := this.1; omega, by have h1 : y.num < (next : Int) := this.2; omega⟩
theorem len_le (h : LedP w B g P next above) {q : Sn → Bool} {G : List It} (hG : G.map It.pl = P.filter q) : G.length ≤ 64 := by
  have h1 := congrArg List.length hG
  rw [List.length_map] at h1
  rw [h1]
  exact Nat.le_trans (List.length_filter_le _ _) h.ok.len
theorem drop_pl {G : List It} {m : Nat} (h : m < G.length) : (G.drop m).map It.pl = (G.getD m it0).pl :: (G.drop (m + 1)).map It.pl := by
  rw [List.drop_eq_getElem_cons h, List.map_cons, getD_lt it0 h]
end

set_option maxRecDepth 100000 in
set_option maxHeartbeats 8000000 in
theorem walk_LedgerOnce (l : List La) (A : Option Addr) (c : Nat) (w : World) (_hb : l.length ≤ c ∧ c ≤ maxLen) (hv : View w (fun _ => True) A (l.length * 8) (l.flatMap lac)) (hi : ∀ x ∈ l, LaI w x) :
    Calls Try.prog 4 #[.slice A l.length c] w fun e w' => e = .returned (.bool true) ∧ Chg none_ w w' := by
  have HAL := Lib.hid (fun W => alive_any W)
  have HV := Lib.hid hv
  have HI := Lib.hid hi
  have HFW : Hid (∀ W, Chg none_ w W → Calls Try.prog 8 #[.slice A l.length c] W fun e w' => e = .returned (.bool (fewB l)) ∧ W = w') := Lib.hid (fun W hc => few_any l A c W (hv.chg hc (fun _ _ h => h)) (fun x hx => (hi x hx).chg hc))
  clear hv hi
  cases hf : fewB l with
  | false =>
    rw [hf] at HFW
    clear hf
    go_enter Try.func4, Try.ntmps4
    go_wp2_with (first | ((with_reducible show Calls _ 7 _ _ _); refine (HAL.out _).mono ?_; rintro e wv ⟨rfl, hc⟩; have HCV := Lib.hid hc; clear hc) | ((with_reducible show Calls _ 8 _ _ _); refine (HFW.out _ HCV.out).mono ?_; rintro e wf ⟨rfl, rfl⟩))
    go_ret
    exact ⟨rfl, HCV.out⟩
  | true =>
    rw [hf] at HFW
    have HF := Lib.hid ((fewB_iff l).1 hf)
    have hlen := HF.out.len
    clear hf
    go_enter Try.func4, Try.ntmps4
    go_wp2_with (first | ((with_reducible show Calls _ 7 _ _ _); refine (HAL.out _).mono ?_; rintro e wv ⟨rfl, hc⟩; have HCV := Lib.hid hc; clear hc) | ((with_reducible show Calls _ 8 _ _ _); refine (HFW.out _ HCV.out).mono ?_; rintro e wf ⟨rfl, rfl⟩) | ((with_reducible show wpList _ _ _ (⟨some 3, .alloc _, _, _, _, _⟩ :: _) _ _); refine wpList_alloc_Row rfl rfl [.slice none 0 0, .int .i64 0, .int .i64 0] zeroLg ?_; intro w1 hr1 hc1 hs1; have HR1 := Lib.hid hr1; have HC1 := Lib.hid (HCV.out.trans hc1); clear hr1 hc1 hs1) | ((with_reducible show wpList _ _ _ (⟨some 4, .alloc _, _, _, _, _⟩ :: _) _ _); refine wpList_alloc_Row rfl rfl (hc (List.replicate 200 0)) zero200 ?_; intro w2 hr2 hc2 hs2; have HH := Lib.hid hr2; have HL := Lib.hid (LedP.zeroB (HR1.out.chg hc2 (fun h => h)) (Nat.lt_of_lt_of_le HR1.out.lt hc2.size) (Nat.le_refl w2.heap.size)); have HC := Lib.hid (HC1.out.trans hc2); have HLT := Lib.hid (And.intro HCV.out.size (And.intro HR1.out.lt hr2.lt)); clear hr2 hc2 hs2))
    go_loopw [5] (fun i wr => ∃ (k : Nat) (P : List Sn) (next above : Nat) (had : List Nat), i = .int .i64 (k : Int) ∧ k ≤ l.length ∧ next ≤ k ∧ Hid (LedP wr w2.heap.size wv.heap.size P next above) ∧ Hid (Row wr w1.heap.size 60 (hc had)) ∧ Hid (Inv had P next) ∧ Hid (Chg none_ w wr)) (fun i _ => l.length - (intOf i).toNat)
    case atStart => exact ⟨0, [], 0, 0, _, rfl, Nat.zero_le _, Nat.le_refl _, HL, HH, Lib.hid Inv.zero, HC⟩
    case round =>
      clear HL HH HC HCV HC1 HR1
      obtain ⟨k, P, next, above, had, rfl, hk, hnk, HL, HH, HID, HC⟩ := hrel
      by_cases hlt : k < l.length
      · have k1 : (k : Int) < (l.length : Int) := by omega
        have k0 : (0 : Int) ≤ (k : Int) := by omega
        obtain ⟨b, o, rfl, hb, _, hra⟩ := HV.out.elemAt lac_len (by decide) la0 hlt
        have hmx : l.getD k la0 ∈ l := getD_mem la0 hlt
        have hr := hra k hlt
        obtain ⟨x, hx⟩ : ∃ x, l.getD k la0 = x := ⟨_, rfl⟩
        rw [hx] at hr hmx
        have HXI := Lib.hid (HI.out x hmx)
        have hfx := HF.out.r x hmx
        have HXD : Hid (ItD wr (fun _ => True) x.p) := Lib.hid (((HXI.out.p.small hfx.2 (HF.out.f x hmx))).chg HC.out (fun _ _ h => h))
        have HRW : Hid (∀ y, Chg none_ w y → y.rangeAt b (o + k * 8) (lac x)) := Lib.hid (fun y hy => rangeAt_keep hr hy hb (fun h => h))
        have c0 : wr.cell? ⟨b, o + k * 8, none⟩ = some (.int .i64 x.kind) := HRW.out wr HC.out 0 _ rfl
        have c6 : wr.cell? ⟨b, o + k * 8 + 6, none⟩ = some (.slice x.rA x.r.length x.rc) := HRW.out wr HC.out 6 _ rfl
        have HRV : Hid (View wr (fun _ => True) x.rA (x.r.length * 2) (x.r.flatMap rgc)) := Lib.hid (HXI.out.view.chg HC.out (fun _ _ h => h))
        have hrl := hfx.1
        clear hra hr hx hmx hb
        by_cases hk0 : x.kind = 0
        · have q0 : (x.kind == 0) = true := by simpa using hk0
          have HRP : Hid (wr.rangeAt b (o + k * 8 + 1) (itc x.p)) := Lib.hid (fun j v hv => by
            have hj : j < 5 := by
              have := (List.getElem?_eq_some_iff.1 hv).1
              rwa [itc_len] at this
            rw [Nat.add_assoc (o + k * 8)]
            refine HRW.out wr HC.out (1 + j) v ?_
            rw [← hv]
            have : j = 0 ∨ j = 1 ∨ j = 2 ∨ j = 3 ∨ j = 4 := by omega
            rcases this with rfl | rfl | rfl | rfl | rfl <;> rfl)
          clear hk0 c6
          by_cases hsz : x.p.size < 0 ∨ 1200 < x.p.size
          · have hbad := hsz
            go_wp2_with (first | ((with_reducible show wpList _ _ _ (⟨some 34, .load _ _, _, _, _, _⟩ :: _) _ _); refine wpList_load_Mid (cs := itc x.p) rfl rfl rfl HRP.out Try.underlying32 rfl sizeS ?_) | ((with_reducible show Calls _ 9 _ _ _); refine (pSend_bad hbad).mono ?_; rintro e wx ⟨rfl, hc⟩; have HL := Lib.hid (HL.out.quiet hc); have HH := Lib.hid (HH.out.chg hc (fun h => h)); have HC := Lib.hid (HC.out.trans hc); clear hc))
            go_loopw [7] (fun i wr' => i = .int .i64 0 ∧ wx = wr') (fun _ _ => 0)
            case atStart => exact ⟨rfl, rfl⟩
            case round =>
              obtain ⟨rfl, rfl⟩ := hrel
              go_wp2
              go_roundw
              case rel => exact ⟨k + 1, P, next, above, had, by go_num, by omega, by omega, HL, HH, HID, HC⟩
              case measure => simp [intOf]; omega
          · have hs0 : 0 ≤ x.p.size := by omega
            have hs1 : x.p.size ≤ 1200 := by omega
            clear hsz
            by_cases hfu : 64 ≤ P.length
            · have HFU := Lib.hid hfu
              clear hfu
              go_wp2_with (first | ((with_reducible show wpList _ _ _ (⟨some 34, .load _ _, _, _, _, _⟩ :: _) _ _); refine wpList_load_Mid (cs := itc x.p) rfl rfl rfl HRP.out Try.underlying32 rfl sizeS ?_) | ((with_reducible show Calls _ 9 _ _ _); refine (pSend_full HL.out hs0 hs1 HFU.out).mono ?_; rintro e wx ⟨rfl, hc⟩; have HL := Lib.hid (HL.out.quiet hc); have HH := Lib.hid (HH.out.chg hc (fun h => h)); have HC := Lib.hid (HC.out.trans hc); clear hc))
              go_loopw [7] (fun i wr' => i = .int .i64 0 ∧ wx = wr') (fun _ _ => 0)
              case atStart => exact ⟨rfl, rfl⟩
              case round =>
                obtain ⟨rfl, rfl⟩ := hrel
                go_wp2
                go_roundw
                case rel => exact ⟨k + 1, P, next, above, had, by go_num, by omega, by omega, HL, HH, HID, HC⟩
                case measure => simp [intOf]; omega
            · have HFU : Hid (P.length < 64) := Lib.hid (by omega)
              have HID : Hid (Inv had (P ++ [{ x.p.pl with num := (next : Int) }]) (next + 1)) := Lib.hid (HID.out.send _ rfl)
              clear hfu
              go_wp2_with (first | ((with_reducible show wpList _ _ _ (⟨some 34, .load _ _, _, _, _, _⟩ :: _) _ _); refine wpList_load_Mid (cs := itc x.p) rfl rfl rfl HRP.out Try.underlying32 rfl sizeS ?_) | ((with_reducible show Calls _ 9 _ _ _); refine (pSend HL.out HXD.out hs0 hs1 HFU.out (by omega)).mono ?_; rintro e wx ⟨rfl, hl, hc⟩; have HL := Lib.hid hl; have HH := Lib.hid (HH.out.chg hc (turnP HLT.out.2.1 HLT.out.2.2)); have HC := Lib.hid (HC.out.andThen hc (turnW HLT.out.1 (Nat.lt_trans HLT.out.2.1 HLT.out.2.2))); clear hl hc))
              go_loopw [7] (fun i wr' => i = .int .i64 0 ∧ wx = wr') (fun _ _ => 0)
              case atStart => exact ⟨rfl, rfl⟩
              case round =>
                obtain ⟨rfl, rfl⟩ := hrel
                go_wp2
                go_roundw
                case rel => exact ⟨k + 1, (P ++ [{ x.p.pl with num := (next : Int) }]), (next + 1), above, had, by go_num, by omega, by omega, HL, HH, HID, HC⟩
                case measure => simp [intOf]; omega
        · have q0 : (x.kind == 0) = false := by simpa using hk0
          by_cases hk1 : x.kind = 1
          · have q1 : (x.kind == 1) = true := by simpa using hk1
            clear hk0 hk1
            cases hbd : badS x.r next with
            | true =>
              have HBD := Lib.hid hbd
              clear hbd
              go_wp2_with (first | ((with_reducible show Calls _ 10 _ _ _); refine (pAck_bad (c := x.rc) HL.out HRV.out (by omega) HBD.out).mono ?_; rintro e wx ⟨rfl, hc⟩; have HL := Lib.hid (HL.out.quiet hc); have HH := Lib.hid (HH.out.chg hc (fun h => h)); have HC := Lib.hid (HC.out.trans hc); clear hc))
              go_loopw [7] (fun i wr' => i = .int .i64 0 ∧ wx = wr') (fun _ _ => 0)
              case atStart => exact ⟨rfl, rfl⟩
              case round =>
                obtain ⟨rfl, rfl⟩ := hrel
                go_wp2
                go_roundw
                case rel => exact ⟨k + 1, P, next, above, had, by go_num, by omega, by omega, HL, HH, HID, HC⟩
                case measure => simp [intOf]; omega
            | false =>
              have HBD := Lib.hid hbd
              have HI2 : Hid (Inv2 had (P.filter (inS x.r)) (P.filter (fun s => !inS x.r s)) next) := Lib.hid (HID.out.part _)
              clear hbd
              go_wp2_with (first | ((with_reducible show Calls _ 10 _ _ _); refine (qAck (c := x.rc) HL.out HRV.out (by omega) HBD.out).mono ?_; rintro e wx ⟨AG, cg, G, rfl, h1, h2, hl, hc⟩; have hgl64 := len_le HL.out h2; have HG := Lib.hid h1; have HGM := Lib.hid h2; have HNB := Lib.hid (nums_lt HL.out (by omega) h2); have HL0 := HL; have HL := Lib.hid hl; have HH := Lib.hid (HH.out.chg hc (turnP HLT.out.2.1 HLT.out.2.2)); have HC := Lib.hid (HC.out.andThen hc (turnW HLT.out.1 (Nat.lt_trans HLT.out.2.1 HLT.out.2.2))); clear hl hc; clear h1 h2))
              have hgb : ∀ b, (Value.slice AG G.length cg).ownBlock = some b → b ≠ w1.heap.size := fun b e h => by have h1 := (HG.out.lt e).1; have h2 := HLT.out.2.2; have h3 := HL0.out.lt.2; omega
              have HGB := Lib.hid hgb
              obtain ⟨AV, cv, ev, _, _, vg⟩ := HG.out.view
              injection ev with e1 _ e3
              subst e1
              subst e3
              have HVG := Lib.hid vg
              clear hgb vg
              go_loopw [7] (fun i wr' => ∃ (m : Nat) (hd : List Nat), i = .int .i64 (m : Int) ∧ m ≤ G.length ∧ Hid (Row wr' w1.heap.size 60 (hc hd)) ∧ Hid (Inv2 hd ((G.drop m).map It.pl) (P.filter (fun s => !inS x.r s)) next) ∧ Hid (Chg (· = w1.heap.size) wx wr')) (fun i _ => G.length - (intOf i).toNat)
              case atStart => exact ⟨0, had, rfl, Nat.zero_le _, HH, by rw [List.drop_zero, HGM.out]; exact HI2, Lib.hid (Chg.refl _ _)⟩
              case round =>
                obtain ⟨m, hd, rfl, hm, HR, HIV, HCM⟩ := hrel
                by_cases hmt : m < G.length
                · have m1 : (m : Int) < (G.length : Int) := by omega
                  have m0 : (0 : Int) ≤ (m : Int) := by omega
                  obtain ⟨bg, og, hA, hbg, _, hrg⟩ := (HVG.out.chg HCM.out (fun b hb e => HGB.out b hb e)).elemAt itc_len (by decide) it0 hmt
                  subst hA
                  have hmy : G.getD m it0 ∈ G := getD_mem it0 hmt
                  have HDP := Lib.hid (drop_pl hmt)
                  have hr0 := hrg m hmt 0 _ rfl
                  obtain ⟨j, hj, hj2⟩ := HNB.out _ hmy
                  simp only [hj, Nat.add_zero] at hr0
                  have hiv := HIV.out
                  rw [HDP.out] at hiv
                  obtain ⟨hst, hle⟩ := hiv.step hj hj2
                  have HST := Lib.hid hst
                  have hjl : j < hd.length := by rw [HIV.out.1]; exact hj2
                  have hcj := (HR.out.cell j).trans (hc_get hd j hjl)
                  have hfj := HR.out.frozen j
                  obtain ⟨v, hv⟩ : ∃ v, hd.getD j 0 = v := ⟨_, rfl⟩
                  rw [hv] at hcj hle HST
                  have hvb : (v : Int) ≤ 1 := by omega
                  have hv0 : (0 : Int) ≤ (v : Int) := by omega
                  have j1 : (j : Int) < 200 := by omega
                  have j0 : (0 : Int) ≤ (j : Int) := by omega
                  have HRS := Lib.hid (HR.out.set j (.int .i64 ((v + 1 : Nat) : Int)))
                  rw [hc_set] at HRS
                  have HCS := Lib.hid (Chg.setCell (S := fun b => b = w1.heap.size) HCM.out (p := ⟨w1.heap.size, j, none⟩) (fun _ => rfl) (.int .i64 ((v + 1 : Nat) : Int)))
                  have ev1 : ((v + 1 : Nat) : Int) = (v : Int) + 1 := by omega
                  rw [ev1] at HRS HCS
                  clear hrg hmy hbg hst hiv hj hv hle hjl ev1
                  go_wp2
                  go_roundw
                  case rel => exact ⟨m + 1, hd.set j (v + 1), by go_num, by omega, HRS, HST, HCS⟩
                  case measure => simp [intOf]; omega
                · have hme : m = G.length := by omega
                  subst hme
                  have HID : Hid (Inv hd (P.filter (fun s => !inS x.r s)) next) := Lib.hid (by
                    have := HIV.out
                    rw [List.drop_length] at this
                    exact this.done)
                  clear hmt hm
                  go_wp2
                  go_roundw
                  case rel => exact ⟨k + 1, (P.filter (fun s => !inS x.r s)), next, (maxS above (P.filter (inS x.r))), hd, by go_num, by omega, by omega, Lib.hid (HL.out.chg HCM.out (fun e => by have := HLT.out; omega) (fun b hb e => by have := HLT.out; omega)), HR, HID, Lib.hid (HC.out.andThen HCM.out (fun b hb e => by have := HLT.out; omega))⟩
                  case measure => simp [intOf]; omega
          · have q1 : (x.kind == 1) = false := by simpa using hk1
            by_cases hk2 : x.kind = 2
            · have q2 : (x.kind == 2) = true := by simpa using hk2
              have HI2 : Hid (Inv2 had (P.filter (lostS above x.d x.p.at_)) (P.filter (fun s => !lostS above x.d x.p.at_ s)) next) := Lib.hid (HID.out.part _)
              have HC2 : Hid (∀ y, Chg none_ w y → y.cell? ⟨b, o + k * 8 + 1 + 1, none⟩ = some (.int .u64 (x.p.at_ : Int))) := Lib.hid (fun y hy => HRW.out y hy 2 _ rfl)
              have HC7 : Hid (∀ y, Chg none_ w y → y.cell? ⟨b, o + k * 8 + 7, none⟩ = some (.int .u64 (x.d : Int))) := Lib.hid (fun y hy => HRW.out y hy 7 _ rfl)
              clear hk0 hk1 hk2 c6
              go_wp2
              refine wp_region_held_drew (S := fun y => Chg none_ w y) (by kernel_rfl) (HC.out.drew) (fun hch0 => ?_)
              have hz : Chg none_ w wr.drew := HC.out.drew
              have hq : Chg none_ wr wr.drew := (Chg.refl _ wr).drew
              clear hch0
              refine wpAnyH_take (i := 0) (v := .slice (some ⟨b, o, none⟩) l.length c) rfl (by kernel_rfl) (by kernel_rfl) (by kernel_rfl) (by first | exact fun _ _ _ h => h | exact fun _ _ _ h => nomatch h.1) (Or.inl ⟨by rfl, fun w_ hw_ => by go_simp⟩) hz ?_
              try simp only [Act.put, List.setIfInBounds_toArray, List.set_cons_zero, List.set_cons_succ, List.getElem_toArray, List.getElem_cons_zero]
              refine wpAnyH_take (i := 1) (v := .int .i64 (k : Int)) rfl (by kernel_rfl) (by kernel_rfl) (by kernel_rfl) (by first | exact fun _ _ _ h => h | exact fun _ _ _ h => nomatch h.1) (Or.inl ⟨by rfl, fun w_ hw_ => by go_simp⟩) hz ?_
              try simp only [Act.put, List.setIfInBounds_toArray, List.set_cons_zero, List.set_cons_succ, List.getElem_toArray, List.getElem_cons_succ, List.getElem_cons_zero]
              refine wpAnyH_take (i := 2) (v := .pointer (some ⟨b, o + k * 8, none⟩)) rfl (by kernel_rfl) (by kernel_rfl) (by kernel_rfl) (by first | exact fun _ _ _ h => h | exact fun _ _ _ h => nomatch h.1) (Or.inl ⟨by rfl, fun w_ hw_ => by go_simp⟩) hz ?_
              try simp only [Act.put, List.setIfInBounds_toArray, List.set_cons_zero, List.set_cons_succ, List.getElem_toArray, List.getElem_cons_succ, List.getElem_cons_zero]
              refine wpAnyH_take (i := 3) (v := .pointer (some ⟨b, o + k * 8 + 1, none⟩)) rfl (by kernel_rfl) (by kernel_rfl) (by kernel_rfl) (by first | exact fun _ _ _ h => h | exact fun _ _ _ h => nomatch h.1) (Or.inl ⟨by rfl, fun w_ hw_ => by go_simp⟩) hz ?_
              try simp only [Act.put, List.setIfInBounds_toArray, List.set_cons_zero, List.set_cons_succ, List.getElem_toArray, List.getElem_cons_succ, List.getElem_cons_zero]
              refine wpAnyH_take (i := 4) (v := .pointer (some ⟨b, o + k * 8 + 1 + 1, none⟩)) rfl (by kernel_rfl) (by kernel_rfl) (by kernel_rfl) (by first | exact fun _ _ _ h => h | exact fun _ _ _ h => nomatch h.1) (Or.inl ⟨by rfl, fun w_ hw_ => by go_simp⟩) hz ?_
              try simp only [Act.put, List.setIfInBounds_toArray, List.set_cons_zero, List.set_cons_succ, List.getElem_toArray, List.getElem_cons_succ, List.getElem_cons_zero]
              refine wpAnyH_take (i := 5) (v := .int .u64 (x.p.at_ : Int)) rfl (by kernel_rfl) (by kernel_rfl) (by kernel_rfl) (by first | exact fun _ _ _ h => h | exact fun _ _ _ h => nomatch h.1) (Or.inl ⟨by rfl, fun w_ hw_ => by have q1_ := HC2.out w_ hw_; go_simp⟩) hz ?_
              try simp only [Act.put, List.setIfInBounds_toArray, List.set_cons_zero, List.set_cons_succ, List.getElem_toArray, List.getElem_cons_succ, List.getElem_cons_zero]
              refine wpAnyH_take (i := 6) (v := .slice (some ⟨b, o, none⟩) l.length c) rfl (by kernel_rfl) (by kernel_rfl) (by kernel_rfl) (by first | exact fun _ _ _ h => h | exact fun _ _ _ h => nomatch h.1) (Or.inl ⟨by rfl, fun w_ hw_ => by go_simp⟩) hz ?_
              try simp only [Act.put, List.setIfInBounds_toArray, List.set_cons_zero, List.set_cons_succ, List.getElem_toArray, List.getElem_cons_succ, List.getElem_cons_zero]
              refine wpAnyH_take (i := 7) (v := .int .i64 (k : Int)) rfl (by kernel_rfl) (by kernel_rfl) (by kernel_rfl) (by first | exact fun _ _ _ h => h | exact fun _ _ _ h => nomatch h.1) (Or.inl ⟨by rfl, fun w_ hw_ => by go_simp⟩) hz ?_
              try simp only [Act.put, List.setIfInBounds_toArray, List.set_cons_zero, List.set_cons_succ, List.getElem_toArray, List.getElem_cons_succ, List.getElem_cons_zero]
              refine wpAnyH_take (i := 8) (v := .pointer (some ⟨b, o + k * 8, none⟩)) rfl (by kernel_rfl) (by kernel_rfl) (by kernel_rfl) (by first | exact fun _ _ _ h => h | exact fun _ _ _ h => nomatch h.1) (Or.inl ⟨by rfl, fun w_ hw_ => by go_simp⟩) hz ?_
              try simp only [Act.put, List.setIfInBounds_toArray, List.set_cons_zero, List.set_cons_succ, List.getElem_toArray, List.getElem_cons_succ, List.getElem_cons_zero]
              refine wpAnyH_take (i := 9) (v := .pointer (some ⟨b, o + k * 8 + 7, none⟩)) rfl (by kernel_rfl) (by kernel_rfl) (by kernel_rfl) (by first | exact fun _ _ _ h => h | exact fun _ _ _ h => nomatch h.1) (Or.inl ⟨by rfl, fun w_ hw_ => by go_simp⟩) hz ?_
              try simp only [Act.put, List.setIfInBounds_toArray, List.set_cons_zero, List.set_cons_succ, List.getElem_toArray, List.getElem_cons_succ, List.getElem_cons_zero]
              refine wpAnyH_take (i := 10) (v := .int .u64 (x.d : Int)) rfl (by kernel_rfl) (by kernel_rfl) (by kernel_rfl) (by first | exact fun _ _ _ h => h | exact fun _ _ _ h => nomatch h.1) (Or.inl ⟨by rfl, fun w_ hw_ => by have q1_ := HC7.out w_ hw_; go_simp⟩) hz ?_
              try simp only [Act.put, List.setIfInBounds_toArray, List.set_cons_zero, List.set_cons_succ, List.getElem_toArray, List.getElem_cons_succ, List.getElem_cons_zero]
              refine wpAnyH_ready (rs := [11]) (by kernel_rfl) (by simp) ?_
              refine AllReadyH.cons rfl (fun K hK => ?_) AllReadyH.nil
              rw [if_pos (by rfl)]
              try simp only [List.getElem_toArray, List.getElem_cons_succ, List.getElem_cons_zero]
              go_simp
              refine (qLost x.p.at_ x.d (HL.out.quiet hq)).mono ?_
              rintro e wx ⟨AG, cg, G, rfl, h1, h2, hl, hc⟩
              have hc0 := hc
              have hgl64 := len_le HL.out h2
              have HG := Lib.hid h1
              have HGM := Lib.hid h2
              have HNB := Lib.hid (nums_lt HL.out (by omega) h2)
              have HL0 := Lib.hid (HL.out.quiet hq)
              have HL := Lib.hid hl
              have HH := Lib.hid ((HH.out.chg hq (fun h => h)).chg hc (turnP HLT.out.2.1 HLT.out.2.2))
              have HC := Lib.hid (hz.andThen hc (turnW HLT.out.1 (Nat.lt_trans HLT.out.2.1 HLT.out.2.2)))
              have hz := HC.out
              clear hl hc hc0 h1 h2 hq
              refine hK.out _ _ hz (fun _ => ?_)
              clear hK K
              try simp only [Act.put, List.setIfInBounds_toArray, List.set_cons_zero, List.set_cons_succ, List.getElem_toArray, List.getElem_cons_succ, List.getElem_cons_zero]
              refine wpAnyH_take (i := 12) (v := .slice AG G.length cg) rfl (by kernel_rfl) (by kernel_rfl) (by kernel_rfl) (by first | exact fun _ _ _ h => h | exact fun _ _ _ h => nomatch h.1) (Or.inl ⟨by rfl, fun w_ hw_ => by go_simp⟩) hz ?_
              try simp only [Act.put, List.setIfInBounds_toArray, List.set_cons_zero, List.set_cons_succ, List.getElem_toArray, List.getElem_cons_succ, List.getElem_cons_zero]
              refine wpAnyH_done (by kernel_rfl) ?_ _
              clear hz
              go_wp2
              have hgb : ∀ b, (Value.slice AG G.length cg).ownBlock = some b → b ≠ w1.heap.size := fun b e h => by have h1 := (HG.out.lt e).1; have h2 := HLT.out.2.2; have h3 := HL0.out.lt.2; omega
              have HGB := Lib.hid hgb
              obtain ⟨AV, cv, ev, _, _, vg⟩ := HG.out.view
              injection ev with e1 _ e3
              subst e1
              subst e3
              have HVG := Lib.hid vg
              clear hgb vg
              go_loopw [7] (fun i wr' => ∃ (m : Nat) (hd : List Nat), i = .int .i64 (m : Int) ∧ m ≤ G.length ∧ Hid (Row wr' w1.heap.size 60 (hc hd)) ∧ Hid (Inv2 hd ((G.drop m).map It.pl) (P.filter (fun s => !lostS above x.d x.p.at_ s)) next) ∧ Hid (Chg (· = w1.heap.size) wx wr')) (fun i _ => G.length - (intOf i).toNat)
              case atStart => exact ⟨0, had, rfl, Nat.zero_le _, HH, by rw [List.drop_zero, HGM.out]; exact HI2, Lib.hid (Chg.refl _ _)⟩
              case round =>
                obtain ⟨m, hd, rfl, hm, HR, HIV, HCM⟩ := hrel
                by_cases hmt : m < G.length
                · have m1 : (m : Int) < (G.length : Int) := by omega
                  have m0 : (0 : Int) ≤ (m : Int) := by omega
                  obtain ⟨bg, og, hA, hbg, _, hrg⟩ := (HVG.out.chg HCM.out (fun b hb e => HGB.out b hb e)).elemAt itc_len (by decide) it0 hmt
                  subst hA
                  have hmy : G.getD m it0 ∈ G := getD_mem it0 hmt
                  have HDP := Lib.hid (drop_pl hmt)
                  have hr0 := hrg m hmt 0 _ rfl
                  obtain ⟨j, hj, hj2⟩ := HNB.out _ hmy
                  simp only [hj, Nat.add_zero] at hr0
                  have hiv := HIV.out
                  rw [HDP.out] at hiv
                  obtain ⟨hst, hle⟩ := hiv.step hj hj2
                  have HST := Lib.hid hst
                  have hjl : j < hd.length := by rw [HIV.out.1]; exact hj2
                  have hcj := (HR.out.cell j).trans (hc_get hd j hjl)
                  have hfj := HR.out.frozen j
                  obtain ⟨v, hv⟩ : ∃ v, hd.getD j 0 = v := ⟨_, rfl⟩
                  rw [hv] at hcj hle HST
                  have hvb : (v : Int) ≤ 1 := by omega
                  have hv0 : (0 : Int) ≤ (v : Int) := by omega
                  have j1 : (j : Int) < 200 := by omega
                  have j0 : (0 : Int) ≤ (j : Int) := by omega
                  have HRS := Lib.hid (HR.out.set j (.int .i64 ((v + 1 : Nat) : Int)))
                  rw [hc_set] at HRS
                  have HCS := Lib.hid (Chg.setCell (S := fun b => b = w1.heap.size) HCM.out (p := ⟨w1.heap.size, j, none⟩) (fun _ => rfl) (.int .i64 ((v + 1 : Nat) : Int)))
                  have ev1 : ((v + 1 : Nat) : Int) = (v : Int) + 1 := by omega
                  rw [ev1] at HRS HCS
                  clear hrg hmy hbg hst hiv hj hv hle hjl ev1
                  go_wp2
                  go_roundw
                  case rel => exact ⟨m + 1, hd.set j (v + 1), by go_num, by omega, HRS, HST, HCS⟩
                  case measure => simp [intOf]; omega
                · have hme : m = G.length := by omega
                  subst hme
                  have HID : Hid (Inv hd (P.filter (fun s => !lostS above x.d x.p.at_ s)) next) := Lib.hid (by
                    have := HIV.out
                    rw [List.drop_length] at this
                    exact this.done)
                  clear hmt hm
                  go_wp2
                  go_roundw
                  case rel => exact ⟨k + 1, (P.filter (fun s => !lostS above x.d x.p.at_ s)), next, above, hd, by go_num, by omega, by omega, Lib.hid (HL.out.chg HCM.out (fun e => by have := HLT.out; omega) (fun b hb e => by have := HLT.out; omega)), HR, HID, Lib.hid (HC.out.andThen HCM.out (fun b hb e => by have := HLT.out; omega))⟩
                  case measure => simp [intOf]; omega
            · have q2 : (x.kind == 2) = false := by simpa using hk2
              clear hk0 hk1 hk2 c6
              obtain ⟨wx, hwx⟩ : ∃ wx, wx = wr := ⟨_, rfl⟩
              subst hwx
              go_wp2
              go_loopw [7] (fun i wr' => i = .int .i64 0 ∧ wx = wr') (fun _ _ => 0)
              case atStart => exact ⟨rfl, rfl⟩
              case round =>
                obtain ⟨rfl, rfl⟩ := hrel
                go_wp2
                go_roundw
                case rel => exact ⟨k + 1, P, next, above, had, by go_num, by omega, by omega, HL, HH, HID, HC⟩
                case measure => simp [intOf]; omega
      · have hke : k = l.length := by omega
        subst hke
        have hn120 : next ≤ 120 := by omega
        have HSZ : Hid (∀ s ∈ P, 0 ≤ s.size ∧ s.size ≤ 1200) := Lib.hid (fun s hs => (HL.out.ok.each s hs).2)
        have HPL : Hid (P.length ≤ 64) := Lib.hid HL.out.ok.len
        clear hlt hk
        go_wp2_with ((with_reducible show Calls _ 13 _ _ _); refine (qList HL.out).mono ?_; rintro e wx ⟨AG, cg, G, rfl, h1, h2, hc⟩; have HG := Lib.hid h1; have HGM := Lib.hid h2; have HNB : Hid (∀ y ∈ G, ∃ j : Nat, y.num = (j : Int) ∧ j < 200) := Lib.hid (nums_lt (q := fun _ => true) HL.out hn120 (by rw [h2]; exact (List.filter_eq_self.2 (fun _ _ => rfl)).symm)); have HL0 := HL; have HL := Lib.hid (HL.out.quiet hc); have HH := Lib.hid (HH.out.chg hc (fun h => h)); have HC := Lib.hid (HC.out.trans hc); clear hc h1 h2)
        have hgb : ∀ b, (Value.slice AG G.length cg).ownBlock = some b → b ≠ w1.heap.size := fun b e h => by have h1 := (HG.out.lt e).1; have h2 := HLT.out.2.2; have h3 := HL0.out.lt.2; omega
        have HGB := Lib.hid hgb
        have HGL : Hid (G.length ≤ 64) := Lib.hid (by have := HPL.out; rw [← HGM.out, List.length_map] at this; exact this)
        have hgl64 := HGL.out
        obtain ⟨AV, cv, ev, _, _, vg⟩ := HG.out.view
        injection ev with e1 _ e3
        subst e1
        subst e3
        have HVG := Lib.hid vg
        clear hgb vg
        have HWX := Lib.hid (HC.out)
        go_loopw [9, 10] (fun i9 i wQ => ∃ (m : Nat) (hd : List Nat), i = .int .i64 (m : Int) ∧ i9 = .complex .f64 (dbl (flNs ((G.take m).map It.pl))) (dbl (flBs ((G.take m).map It.pl))) ∧ m ≤ G.length ∧ Hid (Row wQ w1.heap.size 60 (hc hd)) ∧ Hid (Inv2 hd ((G.drop m).map It.pl) [] next) ∧ Hid (Chg (· = w1.heap.size) wx wQ)) (fun _ i _ => G.length - (intOf i).toNat)
        case atStart => exact ⟨0, had, rfl, by show Value.complex .f64 0 0 = .complex .f64 (dbl 0) (dbl 0); rw [dbl_zero], Nat.zero_le _, HH, by rw [List.drop_zero, HGM.out]; exact Lib.hid HID.out.rest, Lib.hid (Chg.refl _ _)⟩
        case round =>
          obtain ⟨m, hd, rfl, rfl, hm, HR, HIV, HCM⟩ := hrel
          by_cases hmt : m < G.length
          · have m1 : (m : Int) < (G.length : Int) := by omega
            have m0 : (0 : Int) ≤ (m : Int) := by omega
            obtain ⟨bg, og, hA, hbg, _, hrg⟩ := (HVG.out.chg HCM.out (fun b hb e => HGB.out b hb e)).elemAt itc_len (by decide) it0 hmt
            subst hA
            have hmy : G.getD m it0 ∈ G := getD_mem it0 hmt
            have HDP := Lib.hid (drop_pl hmt)
            obtain ⟨y, hy⟩ : ∃ y, G.getD m it0 = y := ⟨_, rfl⟩
            have hrr := hrg m hmt
            rw [hy] at hrr hmy HDP
            have HTK : Hid ((G.take (m + 1)).map It.pl = (G.take m).map It.pl ++ [y.pl]) := Lib.hid (by rw [take_snoc it0 hmt, hy]; simp)
            have hr0 := hrr 0 _ rfl
            have hr2 := hrr 2 _ rfl
            have hr3 := hrr 3 _ rfl
            have hbg' : bg ≠ w1.heap.size := fun e => HGB.out bg rfl e
            obtain ⟨j, hj, hj2⟩ := HNB.out _ hmy
            have hys : 0 ≤ y.size ∧ y.size ≤ 1200 := HSZ.out y.pl (by rw [← HGM.out]; exact List.mem_map_of_mem hmy)
            simp only [hj, Nat.add_zero] at hr0
            have hiv := HIV.out
            rw [HDP.out] at hiv
            obtain ⟨hst, hle⟩ := hiv.step (m := j) hj hj2
            have HST := Lib.hid hst
            have hjl : j < hd.length := by rw [HIV.out.1]; exact hj2
            have hcj := (HR.out.cell j).trans (hc_get hd j hjl)
            have hfj := HR.out.frozen j
            obtain ⟨v, hv⟩ : ∃ v, hd.getD j 0 = v := ⟨_, rfl⟩
            rw [hv] at hcj hle HST
            have hvb : (v : Int) ≤ 1 := by omega
            have hv0 : (0 : Int) ≤ (v : Int) := by omega
            have j1 : (j : Int) < 200 := by omega
            have j0 : (0 : Int) ≤ (j : Int) := by omega
            have HRS := Lib.hid (HR.out.set j (.int .i64 ((v + 1 : Nat) : Int)))
            rw [hc_set] at HRS
            have HCS := Lib.hid (Chg.setCell (S := fun b => b = w1.heap.size) HCM.out (p := ⟨w1.heap.size, j, none⟩) (fun _ => rfl) (.int .i64 ((v + 1 : Nat) : Int)))
            have ev1 : ((v + 1 : Nat) : Int) = (v : Int) + 1 := by omega
            rw [ev1] at HRS HCS
            have HFL : Hid (flNs ((G.take m).map It.pl) ≤ 64 ∧ flBs ((G.take m).map It.pl) ≤ 76800) := Lib.hid (by
              have h1 := flNs_le ((G.take m).map It.pl)
              have h2 := flBs_le ((G.take m).map It.pl) (fun s hs => by
                obtain ⟨z, hz, rfl⟩ := List.mem_map.1 hs
                exact (HSZ.out z.pl (by rw [← HGM.out]; exact List.mem_map_of_mem (List.mem_of_mem_take hz))).2)
              have h3 := HGL.out
              rw [List.length_map, List.length_take] at h1 h2
              omega)
            have HN1 : Hid (flNs ((G.take (m + 1)).map It.pl) = flNs ((G.take m).map It.pl) + (if y.ask then 1 else 0) ∧ flBs ((G.take (m + 1)).map It.pl) = flBs ((G.take m).map It.pl) + (if y.ask then y.size.toNat else 0)) := Lib.hid (by rw [HTK.out, flNs_snoc, flBs_snoc]; exact ⟨rfl, rfl⟩)
            generalize flNs ((G.take m).map It.pl) = n1 at *
            generalize flBs ((G.take m).map It.pl) = b1 at *
            obtain ⟨s, hs⟩ : ∃ s : Nat, y.size = (s : Int) := ⟨y.size.toNat, by omega⟩
            have HSLE : Hid (s ≤ 1200) := Lib.hid (by omega)
            rw [hs] at hr2 HN1
            have hr2' : (wr.setCell ⟨w1.heap.size, j, none⟩ (.int .i64 ((v : Int) + 1))).cell? ⟨bg, og + m * 5 + 2, none⟩ = some (.int .i64 (s : Int)) := (Chg.cell (S := fun b => b = w1.heap.size) (Chg.setCell (S := fun b => b = w1.heap.size) (Chg.refl _ wr) (p := ⟨w1.heap.size, j, none⟩) (fun _ => rfl) (.int .i64 ((v : Int) + 1))) _ hbg (fun e => hbg' e)).trans hr2
            have hr3' : (wr.setCell ⟨w1.heap.size, j, none⟩ (.int .i64 ((v : Int) + 1))).cell? ⟨bg, og + m * 5 + 3, none⟩ = some (.bool y.ask) := (Chg.cell (S := fun b => b = w1.heap.size) (Chg.setCell (S := fun b => b = w1.heap.size) (Chg.refl _ wr) (p := ⟨w1.heap.size, j, none⟩) (fun _ => rfl) (.int .i64 ((v : Int) + 1))) _ hbg (fun e => hbg' e)).trans hr3
            clear hrg hmy hst hiv hj hv hle hjl ev1 hrr hys hs hr2 hr3
            cases hq : y.ask with
            | true =>
              rw [hq] at HN1 hr3'
              have hop : ∀ t W, (binOp .add t (.complex .f64 (dbl n1) (dbl b1)) (.complex .f64 4607182418800017408 (floatOfInt .f64 (s : Int)))).run Try.prog W = .ok (.complex .f64 (dbl (n1 + 1)) (dbl (b1 + s))) W := fun t W => by
                refine run_complex_sum W .add (Or.inl rfl) t .f64 _ _ _ _ _ _ ?_
                unfold cSumBits
                have e1 := dbl_add n1 1 (by have := HFL.out.1; omega)
                have e2 := dbl_add b1 s (by have := HFL.out.2; have := HSLE.out; omega)
                rw [dbl_one] at e1
                rw [e1, show floatOfInt .f64 (s : Int) = dbl s from rfl, e2]
                rfl
              have HE : Hid (flNs ((G.take (m + 1)).map It.pl) = n1 + 1 ∧ flBs ((G.take (m + 1)).map It.pl) = b1 + s) := Lib.hid (by
                have h1 := HN1.out
                rw [if_pos rfl, if_pos rfl, Int.toNat_natCast] at h1
                exact h1)
              have HOP := Lib.hid hop
              clear hop HN1 hq
              go_wp2_with (simp only [HOP.out])
              go_roundw
              case rel => exact ⟨m + 1, hd.set j (v + 1), by go_num, by rw [HE.out.1, HE.out.2], by omega, HRS, HST, HCS⟩
              case measure => simp [intOf]; omega
            | false =>
              rw [hq] at HN1 hr3'
              have HE : Hid (flNs ((G.take (m + 1)).map It.pl) = n1 ∧ flBs ((G.take (m + 1)).map It.pl) = b1) := Lib.hid (by have h1 := HN1.out; simpa using h1)
              clear HN1 hq
              go_wp2
              go_roundw
              case rel => exact ⟨m + 1, hd.set j (v + 1), by go_num, by rw [HE.out.1, HE.out.2], by omega, HRS, HST, HCS⟩
              case measure => simp [intOf]; omega
          · have hme : m = G.length := by omega
            subst hme
            have HALL : Hid (∀ n, n < 200 → n < next → hd.getD n 0 = 1) := Lib.hid (by
              have := HIV.out
              rw [List.drop_length] at this
              exact this.all)
            have HLN : Hid (hd.length = 200) := Lib.hid HIV.out.1
            have HLX : Hid (LedP wr w2.heap.size wv.heap.size P next above) := Lib.hid (HL.out.chg HCM.out (fun e => by have := HLT.out; omega) (fun b hb e => by have := HLT.out; omega))
            have HCX : Hid (Chg none_ w wr) := Lib.hid (HC.out.andThen HCM.out (fun b hb e => by have := HLT.out; omega))
            have HTT : Hid ((G.take G.length).map It.pl = P) := Lib.hid (by rw [List.take_of_length_le (Nat.le_refl _)]; exact HGM.out)
            simp only [HTT.out]
            have hoN : FloatKind.f64.format.order (dbl (flNs P)) (dbl (flNs P)) = some .eq := dbl_eq _ (by have h1 := flNs_le P; have h2 := HPL.out; omega)
            have hoB : FloatKind.f64.format.order (dbl (flBs P)) (dbl (flBs P)) = some .eq := dbl_eq _ (by have h1 := flBs_le P (fun s hs => (HSZ.out s hs).2); have h2 := HPL.out; omega)
            have ho4 : (some Ordering.eq == some Ordering.eq) = true := rfl
            clear HL HC HCM hmt hm HH HID HIV
            go_wp2_with (((with_reducible show Calls _ 17 _ _ _); refine (pNext HLX.out).mono ?_; rintro e wq ⟨rfl, rfl⟩))
            go_loopw [11] (fun i wz => ∃ (n : Nat), i = .int .i64 (n : Int) ∧ n ≤ next ∧ wr = wz) (fun i _ => next - (intOf i).toNat)
            case atStart => exact ⟨0, rfl, Nat.zero_le _, rfl⟩
            case round =>
              obtain ⟨n, rfl, hn, rfl⟩ := hrel
              have hnx : (next : Int) ≤ 120 := by omega
              by_cases hnt : n < next
              · have n1' : (n : Int) < (next : Int) := by omega
                have n0 : (0 : Int) ≤ (n : Int) := by omega
                have n2 : (n : Int) < 200 := by omega
                have hcn := (HR.out.cell n).trans (hc_get hd n (by rw [HLN.out]; omega))
                rw [HALL.out n (by omega) hnt] at hcn
                have hcn' : wr.cell? ⟨w1.heap.size, n, none⟩ = some (.int .i64 1) := hcn
                clear hcn
                go_wp2_with (((with_reducible show Calls _ 17 _ _ _); refine (pNext HLX.out).mono ?_; rintro e wq ⟨rfl, rfl⟩))
                go_roundw
                case rel => exact ⟨n + 1, by go_num, by omega, trivial⟩
                case measure => simp [intOf]; omega
              · have hne : n = next := by omega
                subst hne
                clear hnt hn
                go_wp2_with (first | ((with_reducible show Calls _ 17 _ _ _); refine (pNext HLX.out).mono ?_; rintro e wq ⟨rfl, rfl⟩) | ((with_reducible show Calls _ 16 _ _ _); refine (pFlight HLX.out).mono ?_; rintro e wq ⟨rfl, hc⟩; have HCY := Lib.hid (HCX.out.trans hc); clear hc) | ((with_reducible show Calls _ 7 _ _ _); refine (HAL.out _).mono ?_; rintro e wq ⟨rfl, hc⟩; have HCZ := Lib.hid (HCY.out.trans hc); clear hc))
                go_ret
                exact ⟨rfl, HCZ.out⟩
end Go.Proofs.Ytakoeamfmmbdiaa
