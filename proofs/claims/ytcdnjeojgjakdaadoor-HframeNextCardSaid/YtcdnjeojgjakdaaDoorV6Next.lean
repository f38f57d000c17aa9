/- Layer 6 (hframe): Next. -/
import Derived.Test.YtcdnjeojgjakdaaDoorV6Split
import Derived.Test.YtcdnjeojgjakdaaDoorV6Take
import Derived.Test.YtcdnjeojgjakdaaDoorV6Right
import Derived.Test.YtcdnjeojgjakdaaDoorRes
namespace Go.Proofs.YtcdnjeojgjakdaaDoor
open Go.RowKit

theorem nextH_eq {b own : List Nat} {number n : Nat} {e : Int} (h : splitM b = (number, own, n, e)) : nextH b = if e ≠ 0 then ({}, 0, e) else match kkM number with
    | none => ({}, n, 6)
    | some k => if (takeK k own { kind := number }).2 && hasK k (takeK k own { kind := number }).1 then ((takeK k own { kind := number }).1, n, 0) else ({}, 0, 3) := by
  unfold nextH; rw [h]; rfl
theorem split_own (b : List Nat) : (splitM b).2.1.length ≤ b.length ∧ ∀ x ∈ (splitM b).2.1, x ∈ b := by
  obtain ⟨r1, h1⟩ : ∃ r1, rdInt (b.take 16, 0) = r1 := ⟨_, rfl⟩
  obtain ⟨s1, h2⟩ : ∃ s1, (if forbN r1.1 then failSt 3 r1.2 else r1.2) = s1 := ⟨_, rfl⟩
  obtain ⟨r2, h3⟩ : ∃ r2, rdInt s1 = r2 := ⟨_, rfl⟩
  obtain ⟨start, h4⟩ : ∃ start, (b.take 16).length - r2.2.1.length = start := ⟨_, rfl⟩
  obtain ⟨s2, h5⟩ : ∃ s2, (if b.length - start < r2.1 then failSt 2 r2.2 else r2.2) = s2 := ⟨_, rfl⟩
  rw [splitM_eq b r1 r2 s1 s2 start h1 h2 h3 h4 h5]
  by_cases hb : s2.2 = 0
  · rw [if_neg (by simpa using hb)]
    exact ⟨by simp only [List.length_take, List.length_drop]; omega, fun x hx => List.mem_of_mem_drop (List.mem_of_mem_take hx)⟩
  · rw [if_pos hb]
    simp
theorem zeroD (w : World) (T : Nat → Prop) : HfD w T {} (.slice none 0 0) (.slice none 0 0) := ⟨⟨none, 0, rfl, ⟨Nat.zero_le _, Nat.zero_le _⟩, View.none_ _ _ _⟩, ⟨none, 0, rfl, ⟨Nat.zero_le _, Nat.zero_le _⟩, View.none_ _ _ _⟩⟩
def zcH : List Value := cellsH {} (.slice none 0 0) (.slice none 0 0)

/-- A frame, how many bytes, an error. -/
def NextPost (m : Hf × Nat × Int) (w : World) (e : Ending) (w' : World) : Prop :=
  ∃ ss sd, e = .returned (.tuple #[aggH m.1 ss sd, .int .i64 (m.2.1 : Nat), .int .i64 m.2.2]) ∧ HfD w' (fun b => w.heap.size ≤ b) m.1 ss sd ∧ Chg none_ w w'
theorem NextPost.zero {m : Hf × Nat × Int} {w w' : World} {n : Nat} {x : Int} (h : m = ({}, n, x)) (hc : Chg none_ w w') : NextPost m w (.returned (.tuple #[.agg zcH.toArray, .int .i64 (n : Nat), .int .i64 x])) w' := by
  subst h; exact ⟨_, _, rfl, zeroD _ _, hc⟩

set_option maxRecDepth 100000 in
set_option maxHeartbeats 2000000 in
theorem next_any (w : World) (T : Nat → Prop) (A : Option Addr) (c : Nat) (b : List Nat) (hv : View w T A b.length (u8s b)) (hl : b.length ≤ 1000000) (hcap : b.length ≤ c) (hx : ∀ x ∈ b, x < 256) :
    Calls Tryd.prog 19 #[.slice A b.length c] w (NextPost (nextH b) w) := by
  have HS := Lib.hid (fun w' hv => split_any w' T A c b hv hl hcap hx)
  obtain ⟨⟨number, own, n, e⟩, hm⟩ : ∃ m, splitM b = m := ⟨_, rfl⟩
  have hso := split_own b
  rw [hm] at hso HS
  have HSO := Lib.hid (show own.length ≤ 1000000 ∧ ∀ x ∈ own, x < 256 from ⟨Nat.le_trans hso.1 hl, fun x h => hx x (hso.2 x h)⟩)
  have HN := Lib.hid (nextH_eq hm)
  have HV := Lib.hid (hv.chg ((Chg.refl none_ w).alloc (.cells zcH.toArray 26)) (fun _ _ h => h))
  have HR0 := Lib.hid (Row.new w 26 zcH)
  have HC0 := Lib.hid ((Chg.refl none_ w).alloc (.cells zcH.toArray 26))
  generalize nextH b = m at *
  clear hm hso hv hx
  go_enter Tryd.func19, Tryd.ntmps19
  go_wp2_with fail
  refine (HS.out _ HV.out).mono ?_
  rintro e0 w1 ⟨A1, c1, rfl, hc1, hv1, hch1⟩
  have HR1 := Lib.hid (HR0.out.chg hch1 (fun h => h))
  have HC1 := Lib.hid (HC0.out.trans hch1)
  have HV1 := Lib.hid hv1
  have HZ : Hid (w.heap.size < w1.heap.size) := HR1.out.lt
  clear hv1 hch1 HR0 HC0 HV HS
  by_cases he : e = 0
  · have hez : (e != 0) = false := by rw [bne_eq_false_iff_eq]; exact he
    have hn2 := HN.out
    rw [if_neg (by simpa using he)] at hn2
    have HN2 := Lib.hid hn2
    clear hn2 HN he
    go_wp2_with fail
    refine (kinds_any _).mono ?_
    rintro e0 w2 ⟨mg, rfl, hks, hch2⟩
    obtain ⟨kc, hlk, h3, h1c, hkd⟩ := look_kind hks number
    have HC2 := Lib.hid (HC1.out.trans hch2)
    have HCC := Lib.hid hch2
    have HR2 := Lib.hid (HR1.out.chg hch2 (fun h => h))
    clear hch2 hks
    cases hkk : kkM number with
    | none =>
      rw [hkk] at HN2 hlk
      clear hkd hkk
      go_wp2_with (first | ((with_reducible show wpList _ _ _ (⟨_, .store 55 (.tmp 9) _, _, _, _, _⟩ :: _) _ _); refine wpList_store_Row (xs := kc) rfl rfl rfl (Row.new w2 55 kzero) rfl h3 (by rw [h3]; exact sizeK) h1c ?_; intro w3 hr3 hch3 hs3; have HC3 := Lib.hid (hch3 none_ w2 ((Chg.refl none_ w2).alloc _) (fun h => absurd h (by omega))); clear hr3 hch3 hs3) | ((with_reducible show wpList _ _ _ (⟨_, .store 26 (.tmp 2) _, _, _, _, _⟩ :: _) _ _); refine wpList_store_Row (xs := zcH) rfl rfl rfl (HR2.out.chg HC3.out (fun h => h)) rfl rfl sizeH rfl ?_; intro w9 hr9 hch9 hs9; have HR9 := Lib.hid hr9; have HC9 := Lib.hid (hch9 none_ w (HC2.out.trans HC3.out) (fun h => absurd h (by omega))); clear hr9 hch9 hs9))
      refine ret_row3 rfl rfl HR9.out Tryd.underlying26 rfl sizeH rfl ?_
      exact NextPost.zero HN2.out HC9.out
    | some d =>
      have hn13 : number ≤ 13 := by have := kkM_some hkk; omega
      rw [hkk] at HN2 hlk
      replace HN2 : Hid (m = if (takeK d own { kind := number }).2 && hasK d (takeK d own { kind := number }).1 then ((takeK d own { kind := number }).1, n, 0) else ({}, 0, 3)) := HN2
      obtain rfl := hkd d hkk
      clear hkk h3
      go_wp2_with (first | ((with_reducible show wpList _ _ _ (⟨_, .store 55 (.tmp 9) _, _, _, _, _⟩ :: _) _ _); refine wpList_store_Row (xs := kcells d) rfl rfl rfl (Row.new w2 55 kzero) rfl rfl sizeK h1c ?_; intro w3 hr3 hch3 hs3; have HR3 := Lib.hid hr3; have HC3 := Lib.hid (hch3 none_ w2 ((Chg.refl none_ w2).alloc _) (fun h => absurd h (by omega))); clear hr3 hch3 hs3) | ((with_reducible show wpList _ _ _ (⟨_, .store 26 (.tmp 11) _, _, _, _, _⟩ :: _) _ _); refine wpList_store_Row (xs := cellsH { kind := number } (.slice none 0 0) (.slice none 0 0)) rfl rfl rfl (Row.new w3 26 zcH) rfl rfl sizeH rfl ?_; intro w4 hr4 hch4 hs4; have HR4 := Lib.hid hr4; have HC4 := Lib.hid (hch4 none_ w3 ((Chg.refl none_ w3).alloc _) (fun h => absurd h (by omega))); have hkr := HR3.out.chg HC4.out (fun h => h); have q2 : w4.cell? ⟨w2.heap.size, 2, none⟩ = some (.func (.func (takeFn d)) #[] #[]) := hkr.cell 2; have htc := take_call d; clear hr4 hch4 hs4 hkr))
      have HT := Lib.hid (takeK_any number own A1 c1 w4 T w3.heap.size d HR4.out (((HV1.out.chg HCC.out (fun _ _ h => h)).chg HC3.out (fun _ _ h => h)).chg HC4.out (fun _ _ h => h)) HSO.out.1 HSO.out.2)
      obtain ⟨⟨f, ok⟩, htk⟩ : ∃ q, takeK d own { kind := number } = q := ⟨_, rfl⟩
      unfold TakePost at HT
      rw [htk] at HT HN2
      clear htk
      have HGL : Hid (w2.heap.size < w4.heap.size ∧ w2.heap.size < w3.heap.size ∧ w.heap.size < w3.heap.size) := ⟨(HR3.out.chg HC4.out (fun h => h)).lt, HR3.out.lt, Nat.lt_of_lt_of_le HR2.out.lt HC3.out.size⟩
      have HKB : Hid (∀ w', Chg (· = w3.heap.size) w4 w' → Row w' w2.heap.size 55 (kcells d)) := fun w' hc => (HR3.out.chg HC4.out (fun h => h)).chg hc (fun e => by have : w2.heap.size = w3.heap.size := e; have := HGL.out; omega)
      have HX : Hid (∀ w', Chg (· = w3.heap.size) w4 w' → Row w' w.heap.size 26 zcH) := fun w' hc => ((HR2.out.chg HC3.out (fun h => h)).chg HC4.out (fun h => h)).chg hc (fun e => by have : w.heap.size = w3.heap.size := e; have := HGL.out; omega)
      have HCW : Hid (∀ w', Chg (· = w3.heap.size) w4 w' → Chg none_ w w') := fun w' hc => (((HC2.out.trans HC3.out).trans HC4.out)).andThen hc (fun b hb e => by have : b = w3.heap.size := e; have := HGL.out; omega)
      refine HT.out.mono ?_
      rintro e0 w5 ⟨ss, sd, rfl, hr5, hd5, hch5⟩
      have HR5 := Lib.hid hr5
      have HD5 := Lib.hid hd5
      have HC5 := Lib.hid hch5
      have q0 : w5.cell? ⟨w2.heap.size, 0, none⟩ = some (.func (.func (hasFn d)) #[] #[]) := (HKB.out _ hch5).cell 0
      have hhc := has_call d
      have HHAS := Lib.hid (has_any f ss sd w5 _ d hd5)
      have h1s : Hid ((cellsH f ss sd).all (·.oneCell') = true) := by
        obtain ⟨⟨_, _, rfl, _⟩, ⟨_, _, rfl, _⟩⟩ := hd5; rfl
      unfold aggH at HHAS
      clear hr5 hd5 hch5 q2 htc HT
      cases ok
      · have HN3 : Hid (m = ({}, 0, 3)) := HN2.out
        clear HN2 HHAS
        go_wp2_with (first | ((with_reducible show wpList _ _ _ (⟨_, .store 26 (.tmp 2) _, _, _, _, _⟩ :: _) _ _); refine wpList_store_Row (xs := zcH) rfl rfl rfl (HX.out _ (HC5.out)) rfl rfl sizeH rfl ?_; intro w9 hr9 hch9 hs9; have HR9 := Lib.hid hr9; have HC9 := Lib.hid (hch9 none_ w (HCW.out _ HC5.out) (fun h => absurd h (by omega))); clear hr9 hch9 hs9))
        refine ret_row3 rfl rfl HR9.out Tryd.underlying26 rfl sizeH rfl ?_
        exact NextPost.zero HN3.out HC9.out
      · go_wp2_with ((with_reducible show wpList _ _ _ (⟨_, .load 26 _, _, _, _, _⟩ :: _) _ _); refine wpList_load_Row rfl rfl rfl HR5.out Tryd.underlying26 rfl sizeH ?_)
        refine HHAS.out.mono ?_
        rintro e0 w6 ⟨rfl, hc6⟩
        have HC6 := Lib.hid (HC5.out.trans (hc6.mono (fun _ _ h => h.elim)))
        have HR6 := Lib.hid (HR5.out.chg hc6 (fun h => h))
        have HD6 := Lib.hid (HD5.out.chg hc6 (fun _ _ h => h))
        clear hc6 HHAS q0 hhc
        cases hh : hasK d f
        · have HN3 : Hid (m = ({}, 0, 3)) := by have h := HN2.out; simp only [hh] at h; exact h
          clear HN2 hh
          go_wp2_with (first | ((with_reducible show wpList _ _ _ (⟨_, .store 26 (.tmp 2) _, _, _, _, _⟩ :: _) _ _); refine wpList_store_Row (xs := zcH) rfl rfl rfl (HX.out _ (HC6.out)) rfl rfl sizeH rfl ?_; intro w9 hr9 hch9 hs9; have HR9 := Lib.hid hr9; have HC9 := Lib.hid (hch9 none_ w (HCW.out _ HC6.out) (fun h => absurd h (by omega))); clear hr9 hch9 hs9))
          refine ret_row3 rfl rfl HR9.out Tryd.underlying26 rfl sizeH rfl ?_
          exact NextPost.zero HN3.out HC9.out
        · have HN3 : Hid (m = (f, n, 0)) := by have h := HN2.out; simp only [hh] at h; exact h
          clear HN2 hh
          go_wp2_with (first | ((with_reducible show wpList _ _ _ (⟨_, .load 26 (.tmp 11), _, _, _, _⟩ :: _) _ _); refine wpList_load_Row rfl rfl rfl HR6.out Tryd.underlying26 rfl sizeH ?_) | ((with_reducible show wpList _ _ _ (⟨_, .store 26 (.tmp 2) _, _, _, _, _⟩ :: _) _ _); refine wpList_store_Row (xs := cellsH f ss sd) rfl rfl rfl (HX.out _ (HC6.out)) rfl rfl sizeH h1s.out ?_; intro w9 hr9 hch9 hs9; have HDD := Lib.hid (hch9 (· = w.heap.size) w6 (Chg.refl _ _) (fun _ => rfl)); have HR9 := Lib.hid hr9; have HC9 := Lib.hid (hch9 none_ w (HCW.out _ HC6.out) (fun h => absurd h (by omega))); clear hr9 hch9 hs9))
          refine ret_row3 rfl rfl HR9.out Tryd.underlying26 rfl sizeH rfl ?_
          rw [HN3.out]
          exact ⟨ss, sd, rfl, (HD6.out.chg HDD.out (fun b hb e => by have h1 : b = w.heap.size := e; have h2 : w4.heap.size ≤ b := hb; have := HGL.out; have := HC4.out.size; omega)).mono (fun b _ h => Nat.le_trans (HCW.out _ (Chg.refl _ _)).size h), HC9.out⟩
  · have hez : (e != 0) = true := by rw [bne_iff_ne]; exact he
    have hn2 := HN.out
    rw [if_pos he] at hn2
    have HN2 := Lib.hid hn2
    clear hn2 HN he
    go_wp2_with ((with_reducible show wpList _ _ _ (⟨_, .store 26 (.tmp 2) _, _, _, _, _⟩ :: _) _ _); refine wpList_store_Row (xs := zcH) rfl rfl rfl HR1.out rfl rfl sizeH rfl ?_; intro w9 hr9 hch9 hs9; have HR9 := Lib.hid hr9; have HC9 := Lib.hid (hch9 none_ w HC1.out (fun h => absurd h (by omega))); clear hr9 hch9 hs9)
    refine ret_row3 rfl rfl HR9.out Tryd.underlying26 rfl sizeH rfl ?_
    exact NextPost.zero HN2.out HC9.out
end Go.Proofs.YtcdnjeojgjakdaaDoor
