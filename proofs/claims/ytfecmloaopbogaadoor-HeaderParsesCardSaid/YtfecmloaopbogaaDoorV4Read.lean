/- Layer 4 (header): a header's parts are read one by one. -/
import Derived.Test.YtfecmloaopbogaaDoorV4Join
import Derived.Test.YtfecmloaopbogaaDoorV3Rd
import Derived.Test.YtfecmloaopbogaaDoorRes
namespace Go.Proofs.YtfecmloaopbogaaDoor
open Go.RowKit

theorem byte_all (p : Nat → Bool) (h : (List.range 256).all p = true) (f : Nat) (hf : f < 256) : p f = true := List.all_eq_true.1 h f (List.mem_range.2 hf)
theorem b64 (f : Nat) (hf : f < 256) : (bits .and .u8 (f : Int) 64 == 0) = decide (f / 64 % 2 = 0) := by simpa using byte_all (fun f => (bits .and .u8 (f : Int) 64 == 0) == decide (f / 64 % 2 = 0)) (by decide +kernel) f hf
theorem b128 (f : Nat) (hf : f < 256) : (bits .and .u8 (f : Int) 128 == 0) = decide (f / 128 % 2 = 0) := by simpa using byte_all (fun f => (bits .and .u8 (f : Int) 128 == 0) == decide (f / 128 % 2 = 0)) (by decide +kernel) f hf
theorem b128n (f : Nat) (hf : f < 256) : (bits .and .u8 (f : Int) 128 != 0) = decide (f / 128 % 2 = 1) := by simpa using byte_all (fun f => (bits .and .u8 (f : Int) 128 != 0) == decide (f / 128 % 2 = 1)) (by decide +kernel) f hf
theorem b56 (f : Nat) (hf : f < 256) : (bits .and .u8 (f : Int) 56 == 0) = decide (f / 8 % 8 = 0) := by simpa using byte_all (fun f => (bits .and .u8 (f : Int) 56 == 0) == decide (f / 8 % 8 = 0)) (by decide +kernel) f hf
theorem b12 (f : Nat) (hf : f < 256) : (bits .and .u8 (f : Int) 12 != 0) = decide (f / 4 % 4 ≠ 0) := by simpa using byte_all (fun f => (bits .and .u8 (f : Int) 12 != 0) == decide (f / 4 % 4 ≠ 0)) (by decide +kernel) f hf
theorem b4 (f : Nat) (hf : f < 256) : (bits .and .u8 (f : Int) 4 != 0) = decide (f / 4 % 2 = 1) := by simpa using byte_all (fun f => (bits .and .u8 (f : Int) 4 != 0) == decide (f / 4 % 2 = 1)) (by decide +kernel) f hf
theorem b3 (f : Nat) (hf : f < 256) : bits .and .u8 (f : Int) 3 = ((f % 4 : Nat) : Int) := by simpa using byte_all (fun f => bits .and .u8 (f : Int) 3 == ((f % 4 : Nat) : Int)) (by decide +kernel) f hf
theorem b48 (f : Nat) (hf : f < 256) : bits .and .u8 (f : Int) 48 = ((f / 16 % 4 * 16 : Nat) : Int) := by simpa using byte_all (fun f => bits .and .u8 (f : Int) 48 == ((f / 16 % 4 * 16 : Nat) : Int)) (by decide +kernel) f hf

/-- May a right header begin with such a byte? -/
def mayM (f : Nat) : Bool := decide (f / 64 % 2 = 1) && (if f / 128 % 2 = 0 then decide (f / 8 % 8 = 0) else decide (f / 4 % 4 = 0 ∧ (f / 16 % 4 = 0 ∨ f / 16 % 4 = 2)))

theorem mayBegin_any (f : Nat) (hf : f < 256) (w : World) : Calls Tryd.prog 34 #[.int .u8 f] w fun e w' => e = .returned (.bool (mayM f)) ∧ w = w' := by
  have h64 := b64 f hf
  have h128 := b128 f hf
  have h56 := b56 f hf
  have h12 := b12 f hf
  have h48 := b48 f hf
  have HM : Hid (mayM f = (decide (f / 64 % 2 = 1) && (if f / 128 % 2 = 0 then decide (f / 8 % 8 = 0) else decide (f / 4 % 4 = 0 ∧ (f / 16 % 4 = 0 ∨ f / 16 % 4 = 2))))) := rfl
  have hk : f / 16 % 4 < 4 := by omega
  have H64 := Lib.hid (show f / 64 % 2 = 0 ∨ f / 64 % 2 = 1 by omega)
  generalize mayM f = M at *
  generalize f / 16 % 4 = k at *
  generalize hx : f / 64 % 2 = x at *
  generalize hy : f / 128 % 2 = y at *
  generalize hz : f / 8 % 8 = z at *
  generalize ht : f / 4 % 4 = t at *
  clear hx hy hz ht
  by_cases c64 : x = 0
  · rw [decide_eq_true c64] at h64
    go_enter Tryd.func34, Tryd.ntmps34
    go_wp2
    go_ret
    exact ⟨ret_bool (by rw [HM.out]; simp [c64]), rfl⟩
  · have c64' : x = 1 := by have := H64.out; omega
    rw [decide_eq_false c64] at h64
    rw [decide_eq_true c64', Bool.true_and] at HM
    clear c64 c64'
    by_cases c128 : y = 0
    · rw [decide_eq_true c128] at h128
      rw [if_pos c128] at HM
      clear c128
      go_enter Tryd.func34, Tryd.ntmps34
      go_wp2
      all_goals go_ret
      exact ⟨ret_bool (by rw [HM.out]), rfl⟩
    · rw [decide_eq_false c128] at h128
      rw [if_neg c128] at HM
      clear c128
      by_cases c12 : t = 0
      · rw [decide_eq_false (by simpa using c12)] at h12
        have HM2 : Hid (M = decide (k = 0 ∨ k = 2)) := by show _ = _; rw [HM.out]; simp [c12]
        clear c12 HM
        have hk4 : k = 0 ∨ k = 1 ∨ k = 2 ∨ k = 3 := by omega
        clear hk
        rcases hk4 with rfl | rfl | rfl | rfl
        all_goals
          go_enter Tryd.func34, Tryd.ntmps34
          go_wp2
          all_goals go_ret
          exact ⟨ret_bool (by rw [HM2.out]; rfl), rfl⟩
      · rw [decide_eq_true c12] at h12
        go_enter Tryd.func34, Tryd.ntmps34
        go_wp2
        all_goals go_ret
        exact ⟨ret_bool (by rw [HM.out]; simp [c12]), rfl⟩

def nil4 : Four := ⟨.slice none 0 0, .slice none 0 0, .slice none 0 0, .slice none 0 0⟩
/-- What a first byte tells. -/
def partsM (f : Nat) : Hd := if f / 128 % 2 = 1 then { long := true, kind := ((f / 16 % 4 : Nat) : Int) } else { phase := decide (f / 4 % 2 = 1) }

theorem partsOf_any (f : Nat) (hf : f < 256) (w : World) :
    Calls Tryd.prog 35 #[.int .u8 f] w fun e w' => e = .returned (.tuple #[aggH (partsM f) nil4, .int .u64 ((f % 4 + 1 : Nat) : Int)]) ∧ Chg none_ w w' := by
  have h128 := b128n f hf
  have h4 := b4 f hf
  have h3 := b3 f hf
  have h48 := b48 f hf
  have HM : Hid (partsM f = if f / 128 % 2 = 1 then { long := true, kind := ((f / 16 % 4 : Nat) : Int) } else { phase := decide (f / 4 % 2 = 1) }) := rfl
  have hk : f / 16 % 4 < 4 := by omega
  have hs : f % 4 < 4 := by omega
  generalize partsM f = M at *
  generalize f / 16 % 4 = k at *
  generalize f / 128 % 2 = y at *
  generalize f / 4 % 2 = t at *
  generalize f % 4 = s at *
  have HC0 := Lib.hid ((Chg.refl none_ w).alloc (.cells (cellsH {} nil4).toArray 25))
  have HR0 := Lib.hid (Row.new w 25 (cellsH {} nil4))
  have hw3 : IntKind.u64.wrap ((s : Nat) : Int) = (s : Int) := IntWalk.u64_in _ (by omega)
  by_cases c128 : y = 1
  · rw [decide_eq_true c128] at h128
    rw [if_pos c128] at HM
    clear c128
    have hk4 : k = 0 ∨ k = 1 ∨ k = 2 ∨ k = 3 := by omega
    clear hk
    rcases hk4 with rfl | rfl | rfl | rfl
    all_goals
      go_enter Tryd.func35, Tryd.ntmps35
      go_wp2
      refine ret_row2 rfl rfl (Row.new w 25 [_, _, _, _, _, _, _, _, _]) Tryd.underlying25 rfl sizeH rfl ?_
      exact ⟨by rw [HM.out]; rfl, (Chg.refl _ _).alloc _⟩
  · rw [decide_eq_false c128] at h128
    rw [if_neg c128] at HM
    clear c128
    by_cases ct : t = 1
    · rw [decide_eq_true ct] at h4 HM
      go_enter Tryd.func35, Tryd.ntmps35
      go_wp2
      refine ret_row2 rfl rfl (Row.new w 25 [_, _, _, _, _, _, _, _, _]) Tryd.underlying25 rfl sizeH rfl ?_
      exact ⟨by rw [HM.out]; rfl, (Chg.refl _ _).alloc _⟩
    · rw [decide_eq_false ct] at h4 HM
      go_enter Tryd.func35, Tryd.ntmps35
      go_wp2
      refine ret_row2 rfl rfl (Row.new w 25 [_, _, _, _, _, _, _, _, _]) Tryd.underlying25 rfl sizeH rfl ?_
      exact ⟨by rw [HM.out]; rfl, (Chg.refl _ _).alloc _⟩

set_option maxRecDepth 100000 in
theorem shl_or32 (m y : Nat) (hm : m * 256 + y < 4294967296) (hy : y < 256) : bits BinOp.or IntKind.u32 ((m : Int) * 256 % 4294967296) ((y : Int) % 4294967296) = ((m * 256 + y : Nat) : Int) := by
  have h1 := u32_or_nat (m * 256) y (by omega) (by omega)
  rw [or_256 m y hy] at h1
  have e : ((m : Int) * 256) = ((m * 256 : Nat) : Int) := by omega
  have w1 : (m : Int) * 256 % 4294967296 = (m : Int) * 256 := by omega
  have w2 : (y : Int) % 4294967296 = (y : Int) := by omega
  rw [w1, w2, e]
  exact h1

theorem rdBytes_len (n : Nat) (s : St) : (rdBytes n s).1.length ≤ n := by
  unfold rdBytes
  split
  · simp
  · split
    · simp; omega
    · simp

set_option maxRecDepth 100000 in
theorem readVersion_any (w : World) (g : Nat) (T : Nat → Prop) (s : St) (h : RdS w g T s) (hT : ¬ T g) :
    Calls Tryd.prog 55 #[.pointer (some ⟨g, 0, none⟩)] w fun e w' =>
      e = .returned (.int .u32 (foldB 0 (rdBytes 4 s).1 : Nat)) ∧ RdS w' g T (rdBytes 4 s).2 ∧ Chg (· = g) w w' := by
  have HB := Lib.hid (bytes_any w g T s 4 h hT)
  have hlt := (rdBytes_mem 4 s h.2).1
  have hln := rdBytes_len 4 s
  unfold BytesPost at HB
  generalize (rdBytes 4 s).1 = ys at *
  generalize (rdBytes 4 s).2 = s2 at *
  have HBD : Hid (∀ k, k ≤ ys.length → foldB 0 (ys.take k) < 4294967296) := fun k hk => by
    have h1 := foldB_lt (ys.take k) (fun x hx => hlt x (List.mem_of_mem_take hx)) 0 1 (by omega)
    have h2 : (ys.take k).length ≤ 4 := by rw [List.length_take]; omega
    exact Nat.lt_of_lt_of_le h1 (Nat.le_trans (Nat.mul_le_mul_left _ (Nat.pow_le_pow_right (by omega) h2)) (by decide))
  have HX := Lib.hid hlt
  clear hlt h
  go_enter Tryd.func55, Tryd.ntmps55
  go_wp2_with fail
  refine HB.out.mono ?_
  rintro e w1 ⟨A, cap, rfl, hv, hr, hch⟩
  have HV := Lib.hid hv
  have H4 := Lib.hid hr
  have H5 := Lib.hid hch
  clear hv hr hch
  go_wp2
  go_loop [3, 5, 9] (fun t u i => ∃ k : Nat, k ≤ ys.length ∧ i = .int .i64 k ∧ t = .int .u32 ((foldB 0 (ys.take k) : Nat) : Int)) (fun _ _ i => ys.length - (intOf i).toNat)
  case atStart => exact ⟨0, Nat.zero_le _, rfl, rfl⟩
  case round =>
    obtain ⟨k, hk, rfl, rfl⟩ := hrel
    by_cases hlt : k < ys.length
    · obtain ⟨b2, o2, rfl, _, _, hc2⟩ := HV.out.at_ hlt
      have hfold : foldB 0 (ys.take (k + 1)) = foldB 0 (ys.take k) * 256 + ys.getD k 0 := by
        rw [List.take_succ_eq_append_getElem hlt, foldB_snoc]
        simp [List.getD_eq_getElem?_getD, hlt]
      have hb2 := HBD.out (k + 1) (by omega)
      have hy : ys.getD k 0 < 256 := by
        have := HX.out (ys[k]) (List.getElem_mem hlt)
        simpa [List.getD_eq_getElem?_getD, hlt] using this
      have hor := shl_or32 _ _ (hfold ▸ hb2) hy
      rw [← hfold] at hor
      have HO := Lib.hid hor
      generalize ys.getD k 0 = y at hc2 HO
      generalize hm : foldB 0 (ys.take k) = m at HO ⊢
      clear hor hm hb2 hfold hy
      go_wp2
      go_round
      case rel => exact ⟨k + 1, by omega, by go_num, by rw [HO.out]⟩
      case measure => simp [intOf]; omega
    · have hkn : k = ys.length := by omega
      subst hkn
      go_wp2
      go_ret
      exact ⟨rfl, H4.out, H5.out⟩

theorem RdS.setCell {w : World} {g : Nat} {T : Nat → Prop} {s : St} (h : RdS w g T s) (p : Addr) (hg : g ≠ p.block) (hT : ¬ T p.block) (u : Value) : RdS (w.setCell p u) g T s :=
  h.chg (S := (· = p.block)) ((Chg.refl (· = p.block) w).setCell (p := p) (fun _ => rfl) u) (fun e => hg e) (fun _ hb e => hT (e ▸ hb))
theorem Sl.setCell {w : World} {T : Nat → Prop} {v : Value} {l : List Nat} (h : Sl w T v l) (p : Addr) (hT : ¬ T p.block) (u : Value) : Sl (w.setCell p u) T v l :=
  h.chg (S := (· = p.block)) ((Chg.refl (· = p.block) w).setCell (p := p) (fun _ => rfl) u) (fun _ hb e => hT (e ▸ hb))

end Go.Proofs.YtfecmloaopbogaaDoor
