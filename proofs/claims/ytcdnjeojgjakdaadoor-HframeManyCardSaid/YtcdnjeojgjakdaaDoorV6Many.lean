/- Layer 6 (hframe): the law HframeMany. -/
import Derived.Test.YtcdnjeojgjakdaaDoorV6Alive
import Derived.Test.YtcdnjeojgjakdaaDoorV6Open
import Derived.Test.YtcdnjeojgjakdaaDoorV6Back
namespace Go.Proofs.YtcdnjeojgjakdaaDoor
open Go.RowKit

abbrev Hfv := Hf × Value × Value
def d0 : Hfv := ({}, .slice none 0 0, .slice none 0 0)
/-- Frames' bytes, one behind the other. -/
def manyE (l : List Hfv) : List Nat := l.flatMap fun x => putH x.1
theorem many_take {l : List Hfv} {k : Nat} (h : k < l.length) : manyE (l.take (k + 1)) = manyE (l.take k) ++ putH (l.getD k d0).1 := by
  unfold manyE
  rw [List.take_succ_eq_append_getElem h, List.flatMap_append]
  simp only [List.flatMap_cons, List.flatMap_nil, List.append_nil, List.getD_eq_getElem?_getD, List.getElem?_eq_getElem h, Option.getD_some]
theorem many_drop {l : List Hfv} {k : Nat} (h : k < l.length) : manyE (l.drop k) = putH (l.getD k d0).1 ++ manyE (l.drop (k + 1)) := by
  unfold manyE
  rw [List.drop_eq_getElem_cons h]
  simp only [List.flatMap_cons, List.getD_eq_getElem?_getD, List.getElem?_eq_getElem h, Option.getD_some]
theorem many_len (l : List Hfv) : (manyE l).length ≤ 1016 * l.length := by
  induction l with
  | nil => simp [manyE]
  | cons a t ih =>
    have := putH_len a.1
    simp only [manyE, List.flatMap_cons, List.length_append, List.length_cons] at ih ⊢
    omega
theorem many_lt {l : List Hfv} (h : ∀ x ∈ l, x.1.Ok) : ∀ y ∈ manyE l, y < 256 := by
  intro y hy
  simp only [manyE, List.mem_flatMap] at hy
  obtain ⟨x, hx, hy⟩ := hy
  exact putH_lt x.1 (h x hx) y hy
theorem getD_mem {l : List Hfv} {k : Nat} (h : k < l.length) : l.getD k d0 ∈ l := by
  rw [List.getD_eq_getElem?_getD, List.getElem?_eq_getElem h]
  exact List.getElem_mem h
theorem view_cut {w : World} {T : Nat → Prop} {b o p ca : Nat} {P rest : List Nat} (hv : View w T (some ⟨b, o, none⟩) (p + rest.length) (u8s (P ++ rest))) (hp : P.length = p) (hc : p + rest.length ≤ ca) :
    View w T (if ca = p then some ⟨b, o, none⟩ else some ⟨b, o + p, none⟩) rest.length (u8s rest) := by
  split
  · have e : rest = [] := List.eq_nil_of_length_eq_zero (by omega)
    subst e
    exact View.none_ _ _ _
  · have h := hv.drop (k := p)
    have e : (u8s (P ++ rest)).drop p = u8s rest := by rw [← u8s_append, ← hp, ← u8s_length P, List.drop_left]
    rw [Nat.add_sub_cancel_left, e] at h
    simpa [addr_add] using h
theorem cells_at {w : World} {b p : Nat} {cs : List Value} (hl : cs.length = 4) (h : ∀ j, j < 4 → w.cell? ⟨b, p + j, none⟩ = cs[j]?) : w.rangeAt b p cs := by
  intro j v hv
  have hj : j < 4 := by
    rcases Nat.lt_or_ge j cs.length with q | q
    · omega
    · rw [List.getElem?_eq_none q] at hv; cases hv
  rw [h j hj, hv]


set_option maxRecDepth 100000 in
set_option maxHeartbeats 2000000 in
theorem many_gr (l : List Hfv) (A : Option Addr) (c : Nat) (W : World) (hT : Tab W) (hg : 20 < l.length) :
    Calls Tryd.prog 6 #[.slice A l.length c] W fun e w' => e = .returned (.bool true) ∧ Chg none_ W w' := by
  have HAL := Lib.hid (alive_any W hT)
  have h1 : (20 : Int) < (l.length : Int) := by omega
  clear hT hg
  go_enter Tryd.func6, Tryd.ntmps6
  go_wp2_with (go_at_call 10; refine HAL.out.mono ?_; rintro e w1 ⟨rfl, c1⟩)
  go_ret
  exact ⟨rfl, c1⟩

set_option maxRecDepth 100000 in
set_option maxHeartbeats 2000000 in
theorem many_nil (A : Option Addr) (c : Nat) (W : World) (hT : Tab W) :
    Calls Tryd.prog 6 #[.slice A 0 c] W fun e w' => e = .returned (.bool true) ∧ Chg none_ W w' := by
  have HAL := Lib.hid (alive_any W hT)
  clear hT
  go_enter Tryd.func6, Tryd.ntmps6
  go_wp2_with (go_at_call 10; refine HAL.out.mono ?_; rintro e w1 ⟨rfl, c1⟩)
  refine wp_loop_rounds 1 ?_
  rw [rounds_succ]
  go_wp2
  refine wp_loop_rounds 1 ?_
  rw [rounds_succ]
  go_wp2
  go_ret
  exact ⟨rfl, c1⟩

set_option maxRecDepth 100000 in
set_option maxHeartbeats 4000000 in
theorem many_some (l : List Hfv) (A : Option Addr) (c : Nat) (W : World) (h : FsIn W A l) (hT : Tab W) (hg : l.length ≤ 20) (hpos : 0 < l.length) :
    Calls Tryd.prog 6 #[.slice A l.length c] W fun e w' => e = .returned (.bool true) ∧ Chg none_ W w' := by
  have HAL := Lib.hid (alive_any W hT)
  have h1 : ¬ (20 : Int) < (l.length : Int) := by omega
  obtain ⟨b, o, rfl, hb, hcl⟩ := h.at_ hpos
  have HAT : Hid (∀ k, k < l.length → ∀ w', Chg none_ W w' → w'.rangeAt b (o + k * 4) (cellsH (l.getD k d0).1 (l.getD k d0).2.1 (l.getD k d0).2.2)) := fun k hk w' hc => cells_at rfl (fun j hj => (hc.cell _ hb (fun h => h)).trans (hcl k hk j hj))
  have HIN : Hid (∀ k, k < l.length → HfIn W (l.getD k d0).1 (l.getD k d0).2.1 (l.getD k d0).2.2 ∧ (l.getD k d0).1.Ok) := fun k hk => h.each _ (getD_mem hk)
  have HLT := Lib.hid (many_lt (l := l) (fun x hx => (h.each x hx).2))
  have HTW := Lib.hid (fun w' (hc : Chg none_ W w') => hT.chg hc (fun h => h))
  obtain ⟨i0, hi, hz0, hz1, hz2⟩ := info_parts info5
  clear h hT hcl
  go_enter Tryd.func6, Tryd.ntmps6
  go_wp2_with (go_at_call 10; refine HAL.out.mono ?_; rintro e w1 ⟨rfl, c1⟩)
  go_loopw [3, 4] (fun bv i wr => ∃ k : Nat, k ≤ l.length ∧ i = .int .i64 k ∧ wr.ownsRow w1.heap.size 5 1 bv (manyE (l.take k)).length (u8s (manyE (l.take k))) ∧ Hid (∀ j, j < k → greatB (l.getD j d0).1 = false) ∧ Chg none_ w1 wr) (fun _ i _ => l.length - (intOf i).toNat)
  case atStart => exact ⟨0, Nat.zero_le _, rfl, World.ownsRow_nil _ _ _ _, fun j hj => absurd hj (by omega), Chg.refl _ _⟩
  case round =>
    obtain ⟨k, hk, rfl, hown, hng, hch⟩ := hrel
    have hcw := c1.trans hch
    have HOWN := Lib.hid hown
    clear hown
    by_cases hlt : k < l.length
    · have hk0 : (0 : Int) ≤ (k : Int) := by omega
      have hk1 : (k : Int) < (l.length : Int) := by omega
      have hin := HIN.out k hlt
      have HRA := Lib.hid (HAT.out k hlt)
      have hmt := many_take hlt
      generalize hx : l.getD k d0 = x at hin HRA hmt
      have HX := Lib.hid hx
      clear hx
      obtain ⟨f, ss, sd⟩ := x
      simp only at hin HRA hmt
      have HMT := Lib.hid hmt
      have HGR := Lib.hid (fun w' => Great_any f ss sd w' hin.1.shape)
      cases qg : greatB f with
      | true =>
        rw [qg] at HGR
        unfold aggH at HGR
        clear hin hmt hng
        go_wp2_with (first | ((with_reducible show wpList _ _ _ (⟨_, .load 26 (.tmp 22), _, _, _, _⟩ :: _) _ _); refine wpList_load_Mid rfl rfl rfl (HRA.out _ (hcw)) Tryd.underlying26 rfl sizeH ?_) | (go_at_call 11; refine (HGR.out _).mono ?_; rintro e w2 ⟨rfl, d2⟩))
        go_ret
        exact ⟨rfl, hcw.trans d2⟩
      | false =>
        rw [qg] at HGR
        obtain ⟨g1, g2⟩ := great_le qg
        have hD := hin.1.hd (by omega) (by omega)
        have HPU := Lib.hid (fun w' (hc : Chg none_ W w') => Put_any f ss sd w' _ (hD.chg hc (fun _ _ h => h)) (HTW.out w' hc))
        have HQG := Lib.hid qg
        have hpl := putH_len f
        have hml := many_len (l.take k)
        have hml2 : (l.take k).length ≤ 20 := by rw [List.length_take]; omega
        unfold aggH at HGR HPU
        clear hin hmt hD g1 g2 qg
        go_wp2_with (first | ((with_reducible show wpList _ _ _ (⟨_, .load 26 (.tmp 22), _, _, _, _⟩ :: _) _ _); refine wpList_load_Mid rfl rfl rfl (HRA.out _ (hcw)) Tryd.underlying26 rfl sizeH ?_) | (go_at_call 11; refine (HGR.out _).mono ?_; rintro e w2 ⟨rfl, d2⟩) | ((with_reducible show wpList _ _ _ (⟨_, .load 26 (.tmp 28), _, _, _, _⟩ :: _) _ _); refine wpList_load_Mid rfl rfl rfl (HRA.out _ (hcw.trans d2)) Tryd.underlying26 rfl sizeH ?_) | (go_at_call 15; refine (HPU.out _ (hcw.trans d2)).mono ?_; rintro e w3 ⟨A3, k3, rfl, s3, d3⟩) | (at_builtin; refine wpList_append_view rfl _ _ 24 rfl 5 i0 _ 1 Tryd.underlying24 hi hz0 hz1 hz2 rfl w1.heap.size u3 (manyE (l.take k)).length (u8s (manyE (l.take k))) rfl (own_chg HOWN.out (d2.trans d3) (fun _ _ h => h)) _ A3 _ k3 (u8s (putH f)) rfl s3.view (u8s_one _) (by unfold maxLen; omega) (by omega) (hch.trans (d2.trans d3)).size ?_; intro v4 w4 hown4 hgrow4 _))
        have hown2 := own_chg HOWN.out (d2.trans d3) (fun _ _ h => h)
        have hcn := (hch.trans (d2.trans d3)).append (Nat.le_refl _) hown2 hgrow4
        rw [u8s_append] at hown4
        go_roundw
        case rel =>
          refine ⟨k + 1, by omega, by go_num, ?_, ?_, hcn⟩
          · rw [HMT.out, List.length_append]
            exact hown4
          · intro j hj
            rcases Nat.lt_or_ge j k with q | q
            · exact hng.out j q
            · have e : j = k := by omega
              subst e
              rw [HX.out]
              exact HQG.out
        case measure => simp [intOf]; omega
    · have hkl : k = l.length := by omega
      have hk1 : ¬ (k : Int) < (l.length : Int) := by omega
      have HNG : Hid (∀ j, j < l.length → greatB (l.getD j d0).1 = false) := fun j hj => hng.out j (by omega)
      have hown := HOWN.out
      rw [hkl, List.take_length] at hown
      obtain ⟨A3, c3, rfl, hle, _, hv⟩ := View.own (T := fun _ => True) hown (fun _ _ => trivial)
      have HV := Lib.hid hv
      have HCH := Lib.hid hch
      clear hv hown HOWN hng hkl hcw hch
      go_wp2
      go_loopw [3, 5] (fun bv i wr => ∃ (k : Nat) (A : Option Addr) (c : Nat), k ≤ l.length ∧ i = .int .i64 k ∧ bv = .slice A (manyE (l.drop k)).length c ∧ (manyE (l.drop k)).length ≤ c ∧ Hid (View wr (fun _ => True) A (manyE (l.drop k)).length (u8s (manyE (l.drop k)))) ∧ Chg none_ w1 wr) (fun _ i _ => l.length - (intOf i).toNat)
      case atStart => exact ⟨0, A3, c3, Nat.zero_le _, rfl, rfl, hle, HV, HCH.out⟩
      case round =>
        clear HV HCH hk1 hle
        obtain ⟨k, A, ca, hk, rfl, rfl, hle, HV, hch⟩ := hrel
        have hcw := c1.trans hch
        by_cases hlt : k < l.length
        · have hk0 : (0 : Int) ≤ (k : Int) := by omega
          have hk1 : (k : Int) < (l.length : Int) := by omega
          have hin := HIN.out k hlt
          have HRA := Lib.hid (HAT.out k hlt)
          have qg := HNG.out k hlt
          have hmd := many_drop hlt
          generalize hx : l.getD k d0 = x at hin HRA hmd qg
          clear hx
          obtain ⟨f, ss, sd⟩ := x
          simp only at hin HRA hmd qg
          obtain ⟨g1, g2⟩ := great_le qg
          have hD := hin.1.hd (by omega) (by omega)
          have HRT := Lib.hid (fun w' (hc : Chg none_ W w') => Right_any f ss sd w' _ (hD.chg hc (fun _ _ h => h)))
          have hll : (l.drop (k + 1)).length ≤ 20 := by rw [List.length_drop]; omega
          have hml := many_len (l.drop (k + 1))
          cases qr : rightH f with
          | false =>
            rw [qr] at HRT
            rw [putH_no qr, List.nil_append] at hmd
            have HMD := Lib.hid hmd
            unfold aggH at HRT
            clear hin hmd hD qg qr
            go_wp2_with (first | ((with_reducible show wpList _ _ _ (⟨_, .load 26 (.tmp 40), _, _, _, _⟩ :: _) _ _); refine wpList_load_Mid rfl rfl rfl (HRA.out _ hcw) Tryd.underlying26 rfl sizeH ?_) | (go_at_call 12; refine (HRT.out _ hcw).mono ?_; rintro e w2 ⟨rfl, d2⟩))
            go_roundw
            case rel => exact ⟨k + 1, A, ca, by omega, by go_num, by rw [HMD.out], by rw [← HMD.out]; exact hle, by rw [← HMD.out]; exact Lib.hid (HV.out.chg d2 (fun _ _ h => h)), hch.trans d2⟩
            case measure => simp [intOf]; omega
          | true =>
            rw [qr] at HRT
            have HMD := Lib.hid hmd
            have HNX := Lib.hid (fun w' T A' kk (hv : View w' T A' (putH f ++ manyE (l.drop (k + 1))).length (u8s (putH f ++ manyE (l.drop (k + 1))))) (hk : (putH f ++ manyE (l.drop (k + 1))).length ≤ kk) => by
              have h := next_any w' T A' kk (putH f ++ manyE (l.drop (k + 1))) hv (by have := putH_len f; rw [List.length_append]; omega) hk (fun x hx => (List.mem_append.1 hx).elim (putH_lt f hin.2 x) (fun q => HLT.out x (List.mem_flatMap.2 (by obtain ⟨y, hy, hz⟩ := List.mem_flatMap.1 q; exact ⟨y, List.mem_of_mem_drop hy, hz⟩))))
              rw [next_put f hin.2 qr] at h
              exact h)
            have HSA := Lib.hid (fun w' (hc : Chg none_ W w') ss' sd' T' (hd : HfD w' T' f ss' sd') => sameH_any f f ss' sd' ss sd w' T' _ hd (hD.chg hc (fun _ _ h => h)) hin.2.data hin.2.data)
            rw [decide_eq_true rfl] at HSA
            obtain ⟨nb, hnb⟩ := putH_pos f hin.2 qr
            have hpl := putH_len f
            unfold aggH at HRT HSA
            clear hin hD qg qr
            generalize hre : manyE (l.drop (k + 1)) = rest at *
            have HRE := Lib.hid hre
            clear hre
            generalize hP : putH f = P at *
            clear hP
            generalize manyE (l.drop k) = all at *
            subst hmd
            have hL : (P ++ rest).length = nb + 1 + rest.length := by rw [List.length_append, hnb]
            rw [hL] at HNX HV hle
            rw [hnb] at HNX
            have hv := HV.out
            obtain ⟨b3, o3, rfl, hb3, _, hbc3⟩ := hv.2 (by omega)
            go_wp2_with (first | ((with_reducible show wpList _ _ _ (⟨_, .load 26 (.tmp 40), _, _, _, _⟩ :: _) _ _); refine wpList_load_Mid rfl rfl rfl (HRA.out _ hcw) Tryd.underlying26 rfl sizeH ?_) | (go_at_call 12; refine (HRT.out _ hcw).mono ?_; rintro e w2 ⟨rfl, d2⟩))
            refine (HNX.out w2 _ _ ca (hv.chg d2 (fun _ _ h => h)) hle).mono ?_
            rintro e w3 ⟨ss3, sd3, rfl, hd3, d3⟩
            have h13 := Lib.hid hd3.one
            have HD3 := Lib.hid hd3
            clear hd3 HNX
            unfold aggH
            simp only
            go_wp2_with (first | ((with_reducible show wpList _ _ _ (⟨_, .store 26 (.tmp 6) _, _, _, _, _⟩ :: _) _ _); refine wpList_store_Row (xs := cellsH f ss3 sd3) rfl rfl rfl (Row.new w3 26 zcH) rfl rfl sizeH h13.out ?_; intro w4 hr4 hch4 _; have c4 := hch4 none_ w3 ((Chg.refl none_ w3).alloc _) (fun h => absurd h (by omega)); clear hch4))
            have hcw4 := hcw.trans ((d2.trans d3).trans c4)
            have HK4 : Hid (∀ w', Chg none_ w4 w' → w'.cell? ⟨w3.heap.size, 0, none⟩ = some (.int .i64 f.kind) ∧ w'.cell? ⟨w3.heap.size, 1, none⟩ = some (.int .u64 (f.id : Nat)) ∧ w'.cell? ⟨w3.heap.size, 2, none⟩ = some (ss3) ∧ w'.cell? ⟨w3.heap.size, 3, none⟩ = some (sd3) ∧ w'.cell? ⟨b, o + k * 4, none⟩ = some (.int .i64 f.kind) ∧ w'.cell? ⟨b, o + k * 4 + 1, none⟩ = some (.int .u64 (f.id : Nat)) ∧ w'.cell? ⟨b, o + k * 4 + 2, none⟩ = some (ss) ∧ w'.cell? ⟨b, o + k * 4 + 3, none⟩ = some (sd)) := fun w' hc => by
              have r := hr4.chg hc (fun h => h)
              have q := HRA.out w' (hcw4.trans hc)
              exact ⟨r.cell 0, r.cell 1, r.cell 2, r.cell 3, q 0 _ rfl, q 1 _ rfl, q 2 _ rfl, q 3 _ rfl⟩
            have HSA4 := Lib.hid (fun w' (hc : Chg none_ w4 w') => HSA.out w' (hcw4.trans hc) _ _ _ (HD3.out.chg (c4.trans hc) (fun _ _ h => h)))
            have hch0 : Chg none_ w4 w4.drew := (Chg.refl _ _).drew
            have HMID := Lib.hid ((d2.trans d3).trans c4)
            clear HSA HD3 HRA hr4 h13 c4 d3 d2 hcw4
            obtain ⟨p1, p2, p3, p4, p5, p6, p7, p8⟩ := HK4.out w4 (Chg.refl _ _)
            go_region_held3 (fun w' => w'.cell? ⟨w3.heap.size, 0, none⟩ = some (.int .i64 f.kind) ∧ w'.cell? ⟨w3.heap.size, 1, none⟩ = some (.int .u64 (f.id : Nat)) ∧ w'.cell? ⟨w3.heap.size, 2, none⟩ = some (ss3) ∧ w'.cell? ⟨w3.heap.size, 3, none⟩ = some (sd3) ∧ w'.cell? ⟨b, o + k * 4, none⟩ = some (.int .i64 f.kind) ∧ w'.cell? ⟨b, o + k * 4 + 1, none⟩ = some (.int .u64 (f.id : Nat)) ∧ w'.cell? ⟨b, o + k * 4 + 2, none⟩ = some (ss) ∧ w'.cell? ⟨b, o + k * 4 + 3, none⟩ = some (sd)) (first | exact HK4.out _ (by assumption) | go_keep) ((go_at_call 17; refine Calls.mono (HSA4.out _ ?hh1) ?kk1; (case hh1 => assumption); rintro e w5 ⟨rfl, d5⟩; have hch1 : Chg none_ w4 w5 := hch0.trans d5))
            have hce := HMID.out.trans hch1
            clear HK4 HSA4 hch0 hch1 d5 HMID
            go_wp2
            go_roundw
            case rel =>
              have hvn := view_cut (hv.chg hce (fun _ _ h => h)) hnb hle
              have e := HRE.out
              refine ⟨k + 1, _, _, by omega, by go_num, by rw [e], ?_, ?_, hch.trans hce⟩
              · rw [e]; omega
              · rw [e]; exact Lib.hid hvn
            case measure => simp [intOf]; omega
        · have hz : (manyE (l.drop k)).length = 0 := by
            have e : k = l.length := by omega
            rw [e, List.drop_length]; rfl
          have hk1 : ¬ (k : Int) < (l.length : Int) := by omega
          have HCW := Lib.hid hcw
          clear HV hch hcw
          generalize (manyE (l.drop k)).length = nz at *
          subst hz
          go_wp2
          go_ret
          exact ⟨rfl, HCW.out⟩

theorem walk_HframeMany (l : List Hfv) (A : Option Addr) (c : Nat) (W : World) (_ : l.length ≤ c ∧ c ≤ maxLen) (h : FsIn W A l) (hT : Tab W) :
    Calls Tryd.prog 6 #[.slice A l.length c] W fun e w' => e = .returned (.bool true) ∧ Chg none_ W w' := by
  by_cases hg : 20 < l.length
  · exact many_gr l A c W hT hg
  · cases l with
    | nil => exact many_nil A c W hT
    | cons x t => exact many_some (x :: t) A c W h hT (by omega) (by simp)
end Go.Proofs.YtcdnjeojgjakdaaDoor
