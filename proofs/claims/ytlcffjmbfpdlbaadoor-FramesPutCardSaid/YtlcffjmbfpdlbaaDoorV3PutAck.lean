/- Layer 3 (frames): acked ranges are put. -/
import Derived.Test.YtlcffjmbfpdlbaaDoorV3Puts
import Derived.Test.YtlcffjmbfpdlbaaDoorV3Apart
namespace Go.Proofs.YtlcffjmbfpdlbaaDoor
open Go.RowKit

/-- The other ranges' bytes, behind one that begins at lo. -/
def ackRest : Nat → List (Nat × Nat) → List Nat
  | _, [] => []
  | lo, x :: xs => encI (lo - x.2 - 2) ++ (encI (x.2 - x.1) ++ ackRest x.1 xs)
def lastLo : Nat → List (Nat × Nat) → Nat
  | lo, [] => lo
  | _, x :: xs => lastLo x.1 xs
theorem ackRest_snoc (x : Nat × Nat) : ∀ (l : List (Nat × Nat)) (lo : Nat), ackRest lo (l ++ [x]) = ackRest lo l ++ (encI (lastLo lo l - x.2 - 2) ++ encI (x.2 - x.1))
  | [], lo => by simp [ackRest, lastLo]
  | y :: l, lo => by simp [ackRest, lastLo, ackRest_snoc x l y.1]
theorem lastLo_snoc (x : Nat × Nat) : ∀ (l : List (Nat × Nat)) (lo : Nat), lastLo lo (l ++ [x]) = x.1
  | [], _ => rfl
  | y :: l, _ => lastLo_snoc x l y.1
theorem lastLo_take (x : Nat × Nat) : ∀ (xs : List (Nat × Nat)) (k : Nat), k ≤ xs.length → lastLo x.1 (xs.take k) = ((x :: xs).getD k (0, 0)).1 := by
  intro xs
  induction xs generalizing x with
  | nil => intro k hk; have : k = 0 := by simpa using hk
           subst this; rfl
  | cons y ys ih =>
    intro k hk
    cases k with
    | zero => rfl
    | succ k =>
      rw [List.take_succ_cons, List.getD_cons_succ]
      exact ih y k (by simpa using hk)
theorem ackRest_len : ∀ (l : List (Nat × Nat)) (lo : Nat), (ackRest lo l).length ≤ 16 * l.length
  | [], _ => Nat.le_refl _
  | x :: l, lo => by
    have := ackRest_len l x.1
    have h1 := encI_len (lo - x.2 - 2)
    have h2 := encI_len (x.2 - x.1)
    simp only [ackRest, List.length_append, List.length_cons]
    omega

/-- Ranges' bytes, and the delay's. -/
def ackBytes (l : List (Nat × Nat)) (b : Nat) : List Nat :=
  match l with
  | [] => []
  | x :: xs => encI x.2 ++ (encI b ++ (encI xs.length ++ (encI (x.2 - x.1) ++ ackRest x.1 xs)))

/-- Concat of a list that was just laid. -/
theorem concat_new (w : World) (T : Nat → Prop) (vs : List Value) (ls : List (List Nat)) (hl : vs.length = ls.length)
    (hx : ∀ i (_ : i < vs.length), ∃ A' c', vs[i]? = some (.slice A' (ls.getD i []).length c') ∧ View w T A' (ls.getD i []).length (u8s (ls.getD i []))) (ht : total ls ≤ 1000000) (hn : vs.length ≤ 1000) :
    Calls Tryd.prog 99 #[.slice (some ⟨w.heap.size, 0, none⟩) vs.length vs.length] (w.alloc (.cells vs.toArray 23)) (BytesNew w ls.flatten) := by
  have ha := (Chg.refl none_ w).alloc (.cells vs.toArray 23)
  have hv := View.row (T := fun _ => True) (Row.new w 23 vs) (n := vs.length) (Nat.le_refl _) trivial
  rw [List.take_length] at hv
  refine (concat_any (w.alloc (.cells vs.toArray 23)) (fun _ => True) _ vs.length vs ls hv hl (fun i hi => ?_) ht hn).mono fun e w' h => h.before ha
  obtain ⟨A', c', h1, h2⟩ := hx i hi
  exact ⟨A', c', h1, (h2.chg ha (fun _ _ h => h)).mono (fun _ _ _ => trivial)⟩

/-- One slice of bytes in view. -/
structure Sl (w : World) (A : Option Addr) (c : Nat) (l : List Nat) : Prop where
  v : View w (fun _ => True) A l.length (u8s l)
theorem Sl.chg {w w' : World} {A : Option Addr} {c : Nat} {l : List Nat} (h : Sl w A c l) (hc : Chg none_ w w') : Sl w' A c l := ⟨h.v.chg hc (fun _ _ h => h)⟩

theorem concat4 (w : World) (A1 A2 A3 A4 : Option Addr) (c1 c2 c3 c4 : Nat) (l1 l2 l3 l4 : List Nat) (h1 : Sl w A1 c1 l1) (h2 : Sl w A2 c2 l2) (h3 : Sl w A3 c3 l3) (h4 : Sl w A4 c4 l4) (ht : l1.length + (l2.length + (l3.length + l4.length)) ≤ 1000000) :
    Calls Tryd.prog 99 #[.slice (some ⟨w.heap.size, 0, none⟩) 4 4] (w.alloc (.cells #[.slice A1 l1.length c1, .slice A2 l2.length c2, .slice A3 l3.length c3, .slice A4 l4.length c4] 23)) (BytesNew w (l1 ++ (l2 ++ (l3 ++ l4)))) := by
  have := concat_new w (fun _ => True) [.slice A1 l1.length c1, .slice A2 l2.length c2, .slice A3 l3.length c3, .slice A4 l4.length c4] [l1, l2, l3, l4] rfl (fun i hi => by
    match i, hi with
    | 0, _ => exact ⟨A1, c1, rfl, h1.v⟩
    | 1, _ => exact ⟨A2, c2, rfl, h2.v⟩
    | 2, _ => exact ⟨A3, c3, rfl, h3.v⟩
    | 3, _ => exact ⟨A4, c4, rfl, h4.v⟩) (by simp [total]; omega) (by simp)
  simpa using this
theorem concat3 (w : World) (A1 A2 A3 : Option Addr) (c1 c2 c3 : Nat) (l1 l2 l3 : List Nat) (h1 : Sl w A1 c1 l1) (h2 : Sl w A2 c2 l2) (h3 : Sl w A3 c3 l3) (ht : l1.length + (l2.length + l3.length) ≤ 1000000) :
    Calls Tryd.prog 99 #[.slice (some ⟨w.heap.size, 0, none⟩) 3 3] (w.alloc (.cells #[.slice A1 l1.length c1, .slice A2 l2.length c2, .slice A3 l3.length c3] 23)) (BytesNew w (l1 ++ (l2 ++ l3))) := by
  have := concat_new w (fun _ => True) [.slice A1 l1.length c1, .slice A2 l2.length c2, .slice A3 l3.length c3] [l1, l2, l3] rfl (fun i hi => by
    match i, hi with
    | 0, _ => exact ⟨A1, c1, rfl, h1.v⟩
    | 1, _ => exact ⟨A2, c2, rfl, h2.v⟩
    | 2, _ => exact ⟨A3, c3, rfl, h3.v⟩) (by simp [total]; omega) (by simp)
  simpa using this

/-- varint.Put, as a slice. -/
def PutSl (w : World) (n : Nat) (e : Ending) (w' : World) : Prop := ∃ A c, e = .returned (.slice A (encI n).length c) ∧ Sl w' A c (encI n) ∧ Chg none_ w w' 
theorem putSl (n : Nat) (w : World) (hT : Tab w) : Calls Tryd.prog 20 #[.int .u64 n] w (PutSl w n) := by
  refine (put_any n w hT).mono ?_
  rintro e w' ⟨v, rfl, hv⟩
  obtain ⟨A, c, rfl, h⟩ := hv.view
  exact ⟨A, c, rfl, ⟨h.mono (fun _ _ _ => trivial)⟩, hv.1⟩

section
variable (f : Fr) (sd sr : Value) (w : World) (T : Nat → Prop)

set_option maxRecDepth 100000 in
set_option maxHeartbeats 2000000 in
theorem putAcked_any (x : Nat × Nat) (xs : List (Nat × Nat)) (hr : f.ranges = x :: xs) (hT : Tab w) (hd : FrD w T f sd sr) (of : f.Ok) (hap : apart f.ranges) :
    Calls Tryd.prog 84 #[aggF f sd sr] w (BytesNew w (ackBytes f.ranges f.b)) := by
  unfold aggF
  obtain ⟨_, _, ⟨A, c, rfl, ⟨hl, hnc⟩, hv⟩⟩ := hd
  have hlt := rget_lt of.ranges
  obtain ⟨_, h16, _, hap2⟩ := hap
  have HRG := Lib.hid hr
  rw [hr] at hl hnc hv hlt h16 hap2 ⊢
  clear hr
  simp only [List.length_cons] at hl hnc hv h16 hap2 ⊢
  have ha := (Chg.refl none_ w).alloc (.cells (cellsF f sd (.slice A (xs.length + 1) c)).toArray 27)
  obtain ⟨b, o, rfl, hb, _, hcell⟩ := View.ranges (l := x :: xs) hv (by simp)
  have h0 := hcell 0 (by simp)
  simp only [Nat.zero_mul, Nat.add_zero, List.getD_cons_zero] at h0
  have hxa := (hap2 0 (by simp)).1
  simp only [List.getD_cons_zero] at hxa
  have hc3 := cF_3 f sd (.slice (some ⟨b, o, none⟩) (xs.length + 1) c)
  have hc7 := cF_7 f sd (.slice (some ⟨b, o, none⟩) (xs.length + 1) c)
  obtain ⟨hx1, hx2⟩ := h0
  have hx64 := hlt 0
  simp only [List.getD_cons_zero] at hx64
  generalize cellsF f sd (.slice (some ⟨b, o, none⟩) (xs.length + 1) c) = cs at *
  have hV2 : View w T (if c = 1 then some ⟨b, o, none⟩ else some ⟨b, o + 2, none⟩) (2 * xs.length) (rcells xs) := by
    by_cases hc : c = 1
    · have : xs.length = 0 := by omega
      have e : xs = [] := List.eq_nil_of_length_eq_zero this
      subst e
      exact View.none_ _ _ _
    · rw [if_neg hc]
      have := hv.drop (k := 2)
      simpa [addr_add, rcells, Nat.mul_add] using this
  have HA := Lib.hid ha
  have HAP := Lib.hid hap2
  have HLT := Lib.hid hlt
  have HV2 := Lib.hid hV2
  have hx1a := (ha.cell o hb (fun h => h)).trans hx1
  have hx2a := (ha.cell (o + 1) hb (fun h => h)).trans hx2
  have hbW : b < (w.alloc (.cells cs.toArray 27)).heap.size := Nat.lt_of_lt_of_le hb ha.size
  have HTB := Lib.hid (hT.chg ha (fun h => h))
  clear hcell hap2 hlt ha hx1 hx2 hT hv hV2 of
  have hi1 : (1 : Int) ≤ ((xs.length + 1 : Nat) : Int) := by omega
  have hw3 : IntKind.u64.wrap (xs.length : Int) = (xs.length : Int) := IntWalk.u64_in _ (by omega)
  have hw4 : IntKind.u64.wrap ((x.2 : Int) - (x.1 : Int)) = ((x.2 - x.1 : Nat) : Int) := by rw [show (x.2 : Int) - (x.1 : Int) = ((x.2 - x.1 : Nat) : Int) from by omega]; exact IntWalk.u64_in _ (by omega)
  have HW3 := Lib.hid hw3
  have HW4 := Lib.hid hw4
  clear hw3 hw4
  go_enter Tryd.func84, Tryd.ntmps84
  go_wp2
  go_region
  generalize (if c = 1 then some (⟨b, o, none⟩ : Addr) else some ⟨b, o + 2, none⟩) = A2 at *
  generalize c - 1 = c2 at *
  have hW1 : Chg none_ w ((w.alloc (.cells cs.toArray 27)).alloc (.cells #[.int .u64 x.1, .int .u64 x.2] 34)).drew := (((Chg.refl none_ w).alloc _).alloc _).drew
  have hR1 : Row ((w.alloc (.cells cs.toArray 27)).alloc (.cells #[.int .u64 x.1, .int .u64 x.2] 34)).drew (w.heap.size + 1) 34 [.int .u64 x.1, .int .u64 x.2] := Row.new2 _ _ _ _
  have hR2 : Row ((w.alloc (.cells cs.toArray 27)).alloc (.cells #[.int .u64 x.1, .int .u64 x.2] 34)).drew w.heap.size 27 cs := Row.new1 _ _ _ _
  have hTW : Tab ((w.alloc (.cells cs.toArray 27)).alloc (.cells #[.int .u64 x.1, .int .u64 x.2] 34)).drew := HTB.out.chg (((Chg.refl none_ _).alloc _).drew) (fun h => h)
  generalize ((w.alloc (.cells cs.toArray 27)).alloc (.cells #[.int .u64 x.1, .int .u64 x.2] 34)).drew = W at *
  have HK : Hid (∀ w', Chg none_ W w' → w'.cell? ⟨w.heap.size + 1, 0, none⟩ = some (.int .u64 x.1) ∧ w'.cell? ⟨w.heap.size + 1, 1, none⟩ = some (.int .u64 x.2) ∧ w'.cell? ⟨w.heap.size, 3, none⟩ = some (.int .u64 f.b)) := fun w' hc =>
    ⟨(hR1.chg hc (fun h => h)).cell 0, (hR1.chg hc (fun h => h)).cell 1, ((hR2.chg hc (fun h => h)).cell 3).trans hc3⟩
  have HT : Hid (∀ w', Chg none_ W w' → Tab w') := fun w' hc => hTW.chg hc (fun h => h)
  have HW := Lib.hid hW1
  have hS := HK.out W (Chg.refl _ _)
  obtain ⟨s1, s2, s3⟩ := hS
  have hch0 : Chg none_ W W.drew := (Chg.refl none_ W).drew
  have hw3 := HW3.out
  have hw4 := HW4.out
  clear hW1 hR1 hR2 hTW HTB hx1a hx2a hbW HA hc3 hc7 hi1 hb
  go_wp2_with fail
  go_region_held3 (fun w' => w'.cell? ⟨w.heap.size + 1, 0, none⟩ = some (.int .u64 x.1) ∧ w'.cell? ⟨w.heap.size + 1, 1, none⟩ = some (.int .u64 x.2) ∧ w'.cell? ⟨w.heap.size, 3, none⟩ = some (.int .u64 f.b)) (first | exact HK.out _ (by assumption) | go_keep)
    (first | (go_at_call 20; have _ := hsl3; refine Calls.mono (putSl _ _ (HT.out _ ?hh1)) ?kk1; (case hh1 => assumption); rintro e w4 ⟨A4, c4, rfl, hsl4, hc4⟩; have hch4 : Chg none_ W w4 := hch3.trans hc4; have hcha4 := hch4.alloc (.cells #[.slice A1 (encI x.2).length c1, .slice A2' (encI f.b).length c2', .slice A3 (encI xs.length).length c3, .slice A4 (encI (x.2 - x.1)).length c4] 23)) | (go_at_call 20; have _ := hsl2; refine Calls.mono (putSl _ _ (HT.out _ ?hh2)) ?kk2; (case hh2 => assumption); rintro e w3 ⟨A3, c3, rfl, hsl3, hc3⟩; have hch3 : Chg none_ W w3 := hch2.trans hc3) | (go_at_call 20; have _ := hsl1; refine Calls.mono (putSl _ _ (HT.out _ ?hh3)) ?kk3; (case hh3 => assumption); rintro e w2 ⟨A2', c2', rfl, hsl2, hc2⟩; have hch2 : Chg none_ W w2 := hch1.trans hc2) | (go_at_call 20; refine Calls.mono (putSl _ _ (HT.out _ ?hh4)) ?kk4; (case hh4 => assumption); rintro e w1 ⟨A1, c1, rfl, hsl1, hc1⟩; have hch1 : Chg none_ W w1 := hch0.trans hc1) | (go_at_call 99; refine Calls.mono (concat4 w4 A1 A2' A3 A4 c1 c2' c3 c4 _ _ _ _ (hsl1.chg ((hc2.trans hc3).trans hc4)) (hsl2.chg (hc3.trans hc4)) (hsl3.chg hc4) hsl4 ?hh5) ?kk5; (case hh5 => have q1 := encI_len x.2; have q2 := encI_len f.b; have q3 := encI_len xs.length; have q4 := encI_len (x.2 - x.1); omega); rintro e w5 ⟨A5, c5, rfl, hv5, hc5⟩; have hch5 : Chg none_ W w5 := hch4.trans hc5))
  obtain ⟨s1, s2, s3⟩ := HK.out w5 hch5
  have hbnd : (encI x.2 ++ (encI f.b ++ (encI xs.length ++ encI (x.2 - x.1)))).length ≤ 32 := by
    have q1 := encI_len x.2
    have q2 := encI_len f.b
    have q3 := encI_len xs.length
    have q4 := encI_len (x.2 - x.1)
    simp only [List.length_append]
    omega
  have hEQ : ackBytes (x :: xs) f.b = (encI x.2 ++ (encI f.b ++ (encI xs.length ++ encI (x.2 - x.1)))) ++ ackRest x.1 xs := by simp [ackBytes]
  have HEQ := Lib.hid hEQ
  have HV5 := Lib.hid hv5
  have HC5 := Lib.hid hch5
  have hW4 : Hid (w.heap.size ≤ w4.heap.size) := Nat.le_trans HW.out.size hch4.size
  clear hEQ hv5 hch5 hch0 hch1 hch2 hch3 hch4 hcha4 hsl1 hsl2 hsl3 hsl4 hc1 hc2 hc3 hc4 hc5 HK hw3 hw4 HW3 HW4
  generalize hhd : (encI x.2 ++ (encI f.b ++ (encI xs.length ++ encI (x.2 - x.1)))) = hd at *
  have HHD := Lib.hid hhd
  clear hhd
  go_wp2
  go_loopw [5, 6, 38] (fun t lo i wr => ∃ (k : Nat) (A : Option Addr) (c : Nat), k ≤ xs.length ∧ i = .int .i64 k ∧ t = .slice A (hd ++ ackRest x.1 (xs.take k)).length c ∧ View wr (fun b => w.heap.size ≤ b) A (hd ++ ackRest x.1 (xs.take k)).length (u8s (hd ++ ackRest x.1 (xs.take k))) ∧ lo = .int .u64 (lastLo x.1 (xs.take k)) ∧ Chg none_ W wr) (fun _ _ i _ => xs.length - (intOf i).toNat)
  case atStart => exact ⟨0, A5, c5, Nat.zero_le _, rfl, by rw [← HHD.out]; simp [ackRest], by simpa [ackRest] using HV5.out.mono (fun b _ h => Nat.le_trans hW4.out h), rfl, HC5.out⟩
  case round =>
    obtain ⟨k, A, c, hk, rfl, rfl, hvk, rfl, hck⟩ := hrel
    clear s1 s2 s3
    by_cases hlt : k < xs.length
    · have hvx := (HV2.out.chg HW.out (fun _ _ h => h)).chg hck (fun _ _ h => h)
      obtain ⟨b2, o2, rfl, hb2, _, hcell⟩ := View.ranges (l := xs) hvx (by omega)
      obtain ⟨y1c, y2c⟩ := hcell k hlt
      have hap := HAP.out (k + 1) (by omega)
      have hap1 := HAP.out k (by omega)
      have hlt1 := HLT.out (k + 1)
      have hlt0 := HLT.out k
      simp only [List.getD_cons_succ, Nat.add_sub_cancel] at hap hlt1
      have hll := lastLo_take x xs k hk
      rw [← hll] at hap hlt0
      have HTK : Hid (xs.take (k + 1) = xs.take k ++ [xs.getD k (0, 0)]) := by
        show _ = _
        rw [List.take_succ_eq_append_getElem hlt]
        simp [List.getD_eq_getElem?_getD, hlt]
      generalize xs.getD k (0, 0) = y at *
      obtain ⟨y1, y2⟩ := y
      simp only at y1c y2c hap hlt1
      have hap2 := hap.2 (by omega)
      have hap3 := hap.1
      have hL64 := hlt0.1
      generalize hL : lastLo x.1 (xs.take k) = L at *
      have HL := Lib.hid hL
      have hk0 : (0 : Int) ≤ (k : Int) := by omega
      have hk1 : (k : Int) < (xs.length : Int) := by omega
      have HVK := Lib.hid hvk
      have HCK := Lib.hid hck
      clear hap hap1 hlt1 hlt0 hll hL hvk hck hvx hcell
      go_wp2_with fail
      have hck1 : Chg none_ wr (wr.alloc (.cells #[.int .u64 y1, .int .u64 y2] 34)) := (Chg.refl none_ wr).alloc _
      have hrow1 : Row (wr.alloc (.cells #[.int .u64 y1, .int .u64 y2] 34)) wr.heap.size 34 [.int .u64 y1, .int .u64 y2] := Row.new wr _ [_, _]
      have HVK1 := Lib.hid (show Sl (wr.alloc (.cells #[.int .u64 y1, .int .u64 y2] 34)) A c (hd ++ ackRest x.1 (xs.take k)) from ⟨(HVK.out.chg hck1 (fun _ _ h => h)).mono (fun _ _ _ => trivial)⟩)
      have HCK1 := Lib.hid (HCK.out.trans hck1)
      generalize (wr.alloc (.cells #[.int .u64 y1, .int .u64 y2] 34)) = V at *
      have HKV : Hid (∀ w', Chg none_ V w' → w'.cell? ⟨wr.heap.size, 0, none⟩ = some (.int .u64 y1) ∧ w'.cell? ⟨wr.heap.size, 1, none⟩ = some (.int .u64 y2)) := fun w' hc => ⟨(hrow1.chg hc (fun h => h)).cell 0, (hrow1.chg hc (fun h => h)).cell 1⟩
      have HTV : Hid (∀ w', Chg none_ V w' → Tab w') := fun w' hc => HT.out w' (HCK1.out.trans hc)
      have hS := HKV.out V (Chg.refl _ _)
      obtain ⟨v1, v2⟩ := hS
      have hwa : IntKind.u64.wrap ((L : Int) - (y2 : Int)) = ((L - y2 : Nat) : Int) := by rw [show (L : Int) - (y2 : Int) = ((L - y2 : Nat) : Int) from by omega]; exact IntWalk.u64_in _ (by omega)
      have hwb : IntKind.u64.wrap (((L - y2 : Nat) : Int) - 2) = ((L - y2 - 2 : Nat) : Int) := by rw [show ((L - y2 : Nat) : Int) - 2 = ((L - y2 - 2 : Nat) : Int) from by omega]; exact IntWalk.u64_in _ (by omega)
      have hwc : IntKind.u64.wrap ((y2 : Int) - (y1 : Int)) = ((y2 - y1 : Nat) : Int) := by rw [show (y2 : Int) - (y1 : Int) = ((y2 - y1 : Nat) : Int) from by omega]; exact IntWalk.u64_in _ (by omega)
      have hvh0 : Chg none_ V V.drew := (Chg.refl none_ V).drew
      have hbk : (hd ++ ackRest x.1 (xs.take k)).length ≤ 10000 := by
        have := ackRest_len (xs.take k) x.1
        rw [List.length_append]
        simp only [List.length_take] at this
        omega
      have HBK := Lib.hid hbk
      generalize hbs : hd ++ ackRest x.1 (xs.take k) = bs at *
      have HBS := Lib.hid hbs
      clear hck1 hrow1 hbk hbs
      go_region_held3 (fun w' => w'.cell? ⟨wr.heap.size, 0, none⟩ = some (.int .u64 y1) ∧ w'.cell? ⟨wr.heap.size, 1, none⟩ = some (.int .u64 y2)) (first | exact HKV.out _ (by assumption) | go_keep)
        (first | (go_at_call 20; have _ := hsl1; refine Calls.mono (putSl _ _ (HTV.out _ ?hq2)) ?kq2; (case hq2 => assumption); rintro e z2 ⟨B2, d2, rfl, hsl2, hc2⟩; have hvh2 : Chg none_ V z2 := hvh1.trans hc2; have hvha := hvh2.alloc (.cells #[.slice A bs.length c, .slice B1 (encI (L - y2 - 2)).length d1, .slice B2 (encI (y2 - y1)).length d2] 23)) | (go_at_call 20; refine Calls.mono (putSl _ _ (HTV.out _ ?hq1)) ?kq1; (case hq1 => assumption); rintro e z1 ⟨B1, d1, rfl, hsl1, hc1⟩; have hvh1 : Chg none_ V z1 := hvh0.trans hc1) | (go_at_call 99; refine Calls.mono (concat3 z2 A B1 B2 c d1 d2 bs _ _ (HVK1.out.chg hvh2) (hsl1.chg hc2) hsl2 ?hq3) ?kq3; (case hq3 => have q1 := encI_len (L - y2 - 2); have q2 := encI_len (y2 - y1); have q3 := HBK.out; omega); rintro e z3 ⟨B3, d3, rfl, hv3, hc3⟩; have hvh3 : Chg none_ V z3 := hvh2.trans hc3))
      obtain ⟨v1, v2⟩ := HKV.out z3 hvh3
      have HV3 := Lib.hid hv3
      have HC3 := Lib.hid (HCK1.out.trans hvh3)
      have hW6 : Hid (w.heap.size ≤ z2.heap.size) := Nat.le_trans HW.out.size (HCK1.out.trans hvh2).size
      clear hv3 hvh0 hvh1 hvh2 hvh3 hvha hsl1 hsl2 hc1 hc2 hc3 hwa hwb hwc
      go_wp2
      go_roundw
      case rel =>
        have e1 : bs ++ (encI (L - y2 - 2) ++ encI (y2 - y1)) = hd ++ ackRest x.1 (xs.take (k + 1)) := by
          rw [HTK.out, ackRest_snoc, HL.out, ← HBS.out, List.append_assoc]
        refine ⟨k + 1, B3, d3, by omega, by go_num, by rw [← e1]; simp, ?_, by rw [HTK.out, lastLo_snoc], HC3.out⟩
        rw [← e1]
        exact HV3.out.mono (fun b _ h => Nat.le_trans hW6.out h)
      case measure => simp [intOf]; omega
    · have hkn : k = xs.length := by omega
      have HVK := Lib.hid hvk
      have HCK := Lib.hid hck
      have HKN := Lib.hid hkn
      clear hkn hvk hck
      go_wp2
      go_ret
      have e1 : xs.take k = xs := by rw [HKN.out, List.take_length]
      have hv := HVK.out
      rw [e1, ← HEQ.out] at hv
      exact ⟨A, c, by rw [HEQ.out, e1]; rfl, hv, HW.out.trans HCK.out⟩
end
end Go.Proofs.YtlcffjmbfpdlbaaDoor
