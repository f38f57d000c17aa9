/- Layer 3 (frames): a frame of a kind has what it may have, and nothing else. -/
import Derived.Test.YtlcffjmbfpdlbaaDoorV3Any
namespace Go.Proofs.YtlcffjmbfpdlbaaDoor
open Go.RowKit

/-- Without each of those parts. -/
def dropAll (ps : List Part) (f : Fr) : Fr := ps.foldl (fun f p => dropP p f) f
theorem dropAll_snoc (ps : List Part) (p : Part) (f : Fr) : dropAll (ps ++ [p]) f = dropP p (dropAll ps f) := by simp [dropAll]

/-- Does a frame of a kind have what it may have, and nothing else? -/
def hasB (d : KD) (f : Fr) : Bool :=
  decide (f.id ≤ 4611686018427387903 ∧ f.a ≤ 4611686018427387903 ∧ f.b ≤ 4611686018427387903 ∧ f.code ≤ 4611686018427387903) &&
  (decide (dropAll (d.pf.parts (typM f)) { f with flag := f.flag && !d.flagged } = { kind := f.kind }) && (match d.fits with | none => true | some n => fitsB n f))

theorem dropP_ok (p : Part) (f : Fr) (of : f.Ok) : (dropP p f).Ok := by
  obtain ⟨h1, h2, h3, h4, h5, h6, h7, h8, h9⟩ := of
  cases p
  case token => exact ⟨h1, h2, h3, h4, h5, h6, h7, h8, fun x hx => by rw [List.eq_of_mem_replicate hx]; omega⟩
  case acked => exact ⟨h1, h2, h3, h4, by show (0 : Nat) < _; omega, h6, h7, fun x hx => by simp [dropP] at hx, h9⟩
  case dropped => exact ⟨h1, h2, h3, h4, h5, h6, h7, h8, h9⟩
  case id => exact ⟨h1, h2, by show (0 : Nat) < _; omega, h4, h5, h6, h7, h8, h9⟩
  case amount => exact ⟨h1, h2, h3, by show (0 : Nat) < _; omega, h5, h6, h7, h8, h9⟩
  case zeros => exact ⟨h1, h2, h3, by show (0 : Nat) < _; omega, h5, h6, h7, h8, h9⟩
  case code => exact ⟨h1, h2, h3, h4, h5, by show (0 : Nat) < _; omega, h7, h8, h9⟩
  all_goals exact ⟨h1, h2, h3, h4, h5, h6, fun x hx => by simp [dropP] at hx, h8, h9⟩
theorem dropAll_ok (ps : List Part) : ∀ (f : Fr), f.Ok → (dropAll ps f).Ok := by
  induction ps with
  | nil => intro f h; exact h
  | cons p ps ih => intro f h; exact ih _ (dropP_ok p f h)

theorem parts_len (d : KD) (hd : d.Good) (t : Nat) : (d.pf.parts t).length ≤ 100 := by
  obtain ⟨h, _⟩ := hd
  cases hp : d.pf
  case list l => exact h l hp
  case ack => simp only [PF.parts, ackParts]; split <;> simp
  case stream => simp only [PF.parts, streamParts]; repeat' split
                 all_goals simp
  case close => simp only [PF.parts, closeParts]; split <;> simp
theorem eqlIn_nn (d : Nat) (w : World) : (Op.equalIn (d + 1) 29 .nilFunc .nilFunc).run Tryd.prog w = .ok true w := by
  have hu := run_underlying (P := Tryd.prog) Tryd.underlying29 w
  simp only [Op.equalIn, Sem.run_bind, hu, Result.andThen_ok, Sem.run_pure]
theorem eqlIn_fn (d : Nat) (f : Fn) (x y : Array Value) (w : World) : (Op.equalIn (d + 1) 29 (.func f x y) .nilFunc).run Tryd.prog w = .ok false w := by
  have hu := run_underlying (P := Tryd.prog) Tryd.underlying29 w
  simp only [Op.equalIn, Sem.run_bind, hu, Result.andThen_ok, Sem.run_pure]
theorem depth_succ : Op.maxDepth = (Op.maxDepth - 1) + 1 := rfl
theorem eql_nn (w : World) : (binOp .eql 29 .nilFunc .nilFunc).run Tryd.prog w = .ok (.bool true) w := by
  have h := eqlIn_nn (Op.maxDepth - 1) w
  rw [← depth_succ] at h
  show ((Op.equal 29 .nilFunc .nilFunc) >>= fun b => pure (.bool b) : Sem Value).run Tryd.prog w = _
  rw [Sem.run_bind, Op.equal, h]; rfl
theorem eql_fn (f : Fn) (x y : Array Value) (w : World) : (binOp .eql 29 (.func f x y) .nilFunc).run Tryd.prog w = .ok (.bool false) w := by
  have h := eqlIn_fn (Op.maxDepth - 1) f x y w
  rw [← depth_succ] at h
  show ((Op.equal 29 (.func f x y) .nilFunc) >>= fun b => pure (.bool b) : Sem Value).run Tryd.prog w = _
  rw [Sem.run_bind, Op.equal, h]; rfl
theorem max2_nat (a b : Nat) (w : World) : (Builtin.max2 (.int .u64 a) (.int .u64 b)).run Tryd.prog w = .ok (.int .u64 ((max a b : Nat) : Int)) w := by
  have : (if a < b then (b : Int) else (a : Int)) = ((max a b : Nat) : Int) := by
    split <;> omega
  simp [Builtin.max2, this]
theorem run_max4 (a b c d : Nat) (t : TypeId) (ats : Array TypeId) (w : World) : (Builtin.max_ ats t #[.int .u64 a, .int .u64 b, .int .u64 c, .int .u64 d]).run Tryd.prog w = .ok (.int .u64 ((max (max (max a b) c) d : Nat) : Int)) w := by
  simp only [Builtin.max_, List.foldlM_cons, List.foldlM_nil, Sem.run_bind, max2_nat, Result.andThen_ok, Sem.run_pure]

theorem cF_one (f : Fr) (A B : Option Addr) (n c m d : Nat) : (cellsF f (.slice A n c) (.slice B m d)).all (·.oneCell') = true := by
  have := u8s_one f.tok
  simp only [cellsF, List.all_cons, Value.oneCell', Bool.true_and]
  exact List.all_eq_true.2 this

/-- A function value, whatever the world. -/
theorem Does.anyw {v : Value} {n : Nat} {cap args : Array Value} {w : World} {R : Ending → World → Prop} (h : Does v args w R) (hv : v = .func (.func n) #[] cap) : Calls Tryd.prog n (args ++ cap) w R := by
  obtain ⟨n', cap', h1, _, h2⟩ := h
  rw [hv] at h1
  injection h1 with h3 _ h4
  injection h3 with h3
  subst h3 h4
  exact h2

/-- A part out of a slice of parts. -/
theorem part_at {w : World} {T Tp : Nat → Prop} {A : Option Addr} {ps : List Part} {cs : List Value} (h : PartsAre w Tp ps cs) (hv : View w T A (3 * ps.length) cs) (k : Nat) (hk : k < ps.length) :
    ∃ b o x y z, A = some ⟨b, o, none⟩ ∧ b < w.heap.size ∧ T b ∧ w.cell? ⟨b, o + k * 3, none⟩ = some x ∧ w.cell? ⟨b, o + k * 3 + 1, none⟩ = some y ∧ w.cell? ⟨b, o + k * 3 + 2, none⟩ = some z ∧ PartIs w Tp ps[k] [x, y, z] ∧ x.oneCell' = true ∧ y.oneCell' = true := by
  obtain ⟨b, o, hA, hb, hT, hc⟩ := hv.2 (by omega)
  have hp := h.2 k hk
  obtain ⟨x, y, z, hxyz, h1c⟩ := hp.three
  rw [hxyz] at h1c
  rw [hxyz] at hp
  have hg : ∀ i, i < 3 → cs[3 * k + i]? = [x, y, z][i]? := by
    intro i hi
    rw [← hxyz, List.getElem?_take, if_pos hi, List.getElem?_drop]
  refine ⟨b, o, x, y, z, hA, hb, hT, ?_, ?_, ?_, hp, h1c x (by simp), h1c y (by simp)⟩
  · rw [show o + k * 3 = o + (3 * k + 0) from by omega, hc _ (by omega), hg 0 (by omega)]; rfl
  · rw [show o + k * 3 + 1 = o + (3 * k + 1) from by omega, hc _ (by omega), hg 1 (by omega)]; rfl
  · rw [show o + k * 3 + 2 = o + (3 * k + 2) from by omega, hc _ (by omega), hg 2 (by omega)]; rfl

theorem Row.new3 (w : World) (o o' : Obj) (e : TypeId) (cs : List Value) : Row (((w.alloc o).alloc o').alloc (.cells cs.toArray e)) (w.heap.size + 1 + 1) e cs := by
  have := Row.new ((w.alloc o).alloc o') e cs
  have hs : ((w.alloc o).alloc o').heap.size = w.heap.size + 1 + 1 := by simp
  rwa [hs] at this
def zeroF : List Value := cellsF {} (.slice none 0 0) (.slice none 0 0)

set_option maxRecDepth 100000 in
set_option maxHeartbeats 2000000 in
theorem has_any (d : KD) (hd : d.Good) (Tk : Nat → Prop) (kc : List Value) (f : Fr) (sd sr : Value) (w : World) (T : Nat → Prop) (hk : KindIs w Tk d kc) (hf : FrD w T f sd sr) (of : f.Ok) (hk0 : 0 ≤ f.kind) (hk64 : f.kind < 64) :
    Calls Tryd.prog 16 #[.agg kc.toArray, aggF f sd sr] w fun e w' => e = .returned (.bool (hasB d f)) ∧ Chg none_ w w' := by
  obtain ⟨pv, hpv, rfl⟩ := hk
  have hone : (cellsF f sd sr).all (·.oneCell') = true := by
    obtain ⟨_, ⟨A, c, rfl, _⟩, ⟨B, d, rfl, _⟩⟩ := hf
    exact cF_one _ _ _ _ _ _ _
  have htM := typM_lt f (by omega)
  have hPD : ∀ w', Chg none_ w w' → Does pv #[.int .u64 (typM f)] w' (PartsNew w' (d.pf.parts (typM f))) := fun w' hc => parts_does d.pf pv (typM f) w' Tk (hpv.chg hc (fun _ _ h => h)) (by omega) hd.1
  obtain ⟨pn, pcap, hpve, hpeg, _⟩ := hPD w (Chg.refl _ _)
  have HPC : Hid (∀ w', Chg none_ w w' → Calls Tryd.prog pn (#[.int .u64 (typM f)] ++ pcap) w' (PartsNew w' (d.pf.parts (typM f)))) := fun w' hc => (hPD w' hc).anyw hpve
  have HTY := Lib.hid (fun w' => typeOf_any f sd sr w' hk0 hk64)
  have HFD := Lib.hid hf
  have HOF := Lib.hid of
  have HGOOD := Lib.hid hd
  have hHAS : hasB d f = (decide (f.id ≤ 4611686018427387903 ∧ f.a ≤ 4611686018427387903 ∧ f.b ≤ 4611686018427387903 ∧ f.code ≤ 4611686018427387903) && (decide (dropAll (d.pf.parts (typM f)) { f with flag := f.flag && !d.flagged } = { kind := f.kind }) && (match d.fits with | none => true | some n => fitsB n f))) := rfl
  generalize hasB d f = HB at *
  have HH := Lib.hid hHAS
  clear hHAS
  unfold aggF at *
  have c0 := cF_0 f sd sr
  have c1 := cF_1 f sd sr
  have c2 := cF_2 f sd sr
  have c3 := cF_3 f sd sr
  have c4 := cF_4 f sd sr
  have c5 := cF_5 f sd sr
  have h24 := cF_len f sd sr hf.tok
  generalize hcs : cellsF f sd sr = cs at *
  have HCS := Lib.hid hcs
  have HONE := Lib.hid hone
  have H24 := Lib.hid h24
  subst hpve
  clear hcs hPD hpv hone hf of hd h24
  have hmx := run_max4 f.id f.a f.b f.code
  have HR2 := Lib.hid (Row.new2 w (.cells [Value.bool d.flagged, .func (.func pn) #[] pcap, fitsV d.fits].toArray 41) 27 cs)
  have HR3 := Lib.hid (fun o => Row.new3 w (.cells [Value.bool d.flagged, .func (.func pn) #[] pcap, fitsV d.fits].toArray 41) o 27 zeroF)
  by_cases hbig : f.id ≤ 4611686018427387903 ∧ f.a ≤ 4611686018427387903 ∧ f.b ≤ 4611686018427387903 ∧ f.code ≤ 4611686018427387903
  · have hmax : ¬ (4611686018427387903 : Int) < ((max (max (max f.id f.a) f.b) f.code : Nat) : Int) := by omega
    have HBIG := Lib.hid hbig
    clear hbig
    generalize hfl : f.flag = fl at c5
    have HFL := Lib.hid hfl
    clear hfl
    have HK1 : Hid (∀ w' , Chg none_ ((w.alloc (.cells [Value.bool d.flagged, .func (.func pn) #[] pcap, fitsV d.fits].toArray 41)).alloc (.cells cs.toArray 27)) w' → Row w' w.heap.size 41 [Value.bool d.flagged, .func (.func pn) #[] pcap, fitsV d.fits] ∧ Row w' (w.heap.size + 1) 27 cs ∧ Chg none_ w w') := fun w' hc =>
      ⟨(Row.new1 w (.cells cs.toArray 27) 41 [Value.bool d.flagged, .func (.func pn) #[] pcap, fitsV d.fits]).chg hc (fun h => h), HR2.out.chg hc (fun h => h), (((Chg.refl none_ w).alloc _).alloc _).trans hc⟩
    cases fl
    all_goals go_enter Tryd.func16, Tryd.ntmps16
    all_goals go_wp2_with (first | ((with_reducible show wpList _ _ _ (⟨_, .load 27 _, _, _, _, _⟩ :: _) _ _); refine wl27 rfl rfl rfl HR2.out H24.out ?_) | ((with_reducible show wpList _ _ _ (⟨_, .store 27 _ _, _, _, _, _⟩ :: _) _ _); go_loud (refine wpList_store_Row rfl rfl rfl (cs := zeroF) (HR3.out _) rfl (by rw [H24.out]; rfl) (by rw [H24.out]; exact size27) HONE.out ?_; intro w1 hr1 hch1 hs1; have hc1 := hch1 none_ _ ((Chg.refl none_ _).alloc _) (fun h => absurd h (by simp)); clear hch1; obtain ⟨hk1, hf1, hw1⟩ := HK1.out w1 hc1; have k0 := hk1.cell 0; have k1 := hk1.cell 1; have k2 := hk1.cell 2; simp at k0 k1 k2; have f0 := (hf1.cell 0).trans c0; have f5 := (hf1.cell 5).trans c5; have r5 := (hr1.cell 5).trans c5; have z5 := hr1.frozen 5; simp at hs1; have HK := Lib.hid hk1; have HF := Lib.hid hf1; have HR := Lib.hid hr1; have HW := Lib.hid hw1; clear hk1 hf1 hr1 hw1 hc1)))
    all_goals first | (have hx0 : f.flag = false := HFL.out; clear hx0; generalize hW : w1.setCell ⟨w.heap.size + 1 + 1, 5, none⟩ (Value.bool false) = W) | generalize hW : w1.setCell ⟨w.heap.size + 1 + 1, 5, none⟩ (Value.bool !d.flagged) = W
    all_goals (
      have hW2 : w1.setCell ⟨w.heap.size + 1 + 1, 5, none⟩ (.bool (f.flag && !d.flagged)) = W := by rw [HFL.out]; exact hW
      have hrow : Row W (w.heap.size + 1 + 1) 27 (cellsF { f with flag := f.flag && !d.flagged } sd sr) := by
        rw [← hW2]
        have := HR.out.set 5 (.bool (f.flag && !d.flagged))
        rw [← HCS.out] at this
        exact this
      have hchW : Chg (· = w.heap.size + 1 + 1) w1 W := by rw [← hW2]; exact (Chg.refl (· = w.heap.size + 1 + 1) w1).setCell (p := ⟨w.heap.size + 1 + 1, 5, none⟩) (fun _ => rfl) _
      have hcW : Chg none_ w W := by rw [← hW2]; exact HW.out.setCell (p := ⟨w.heap.size + 1 + 1, 5, none⟩) (fun h => absurd h (by simp only []; omega)) _
      have hkW := HK.out.chg hchW (by show ¬ _ = _; omega)
      have hfW := HF.out.chg hchW (by show ¬ _ = _; omega)
      have hfr : FrAt W (w.heap.size + 1 + 1) (fun b => T b ∧ b < w.heap.size) { f with flag := f.flag && !d.flagged } := ⟨sd, sr, hrow, ((HFD.out.set (g := { f with flag := f.flag && !d.flagged }) HFD.out.tok rfl rfl).mono (fun b hb h => ⟨h, hb⟩)).chg hcW (fun _ _ h => h)⟩
      have hof : Fr.Ok { f with flag := f.flag && !d.flagged } := by obtain ⟨q1, q2, q3, q4, q5, q6, q7, q8, q9⟩ := HOF.out; exact ⟨q1, q2, q3, q4, q5, q6, q7, q8, q9⟩
      have hszW : W.heap.size = w.heap.size + 1 + 1 + 1 := by rw [← hW2]; simpa using hs1
      generalize hF2 : ({ f with flag := f.flag && !d.flagged } : Fr) = f2 at hrow hfr hof HH
      clear hrow hchW hW hW2 HR HK HF HW k0 k1 k2 f0 f5 r5 z5 hs1 c5 HK1)
    all_goals (
      have hch0 : Chg none_ W W.drew := (Chg.refl none_ W).drew
      have HTW : Hid (∀ w', Chg none_ W w' → Chg none_ w w') := fun w' hc => hcW.trans hc
      have HKR := Lib.hid hkW
      have HFR := Lib.hid hfW
      have HFA := Lib.hid hfr
      have HSZ := Lib.hid hszW
      clear hkW hfW hfr hszW hcW c1 c2 c3 c4 hmx
      refine wp_region_held_drew (S := fun w' => Chg none_ W w') (by kernel_rfl) hch0 (fun _ => ?_)
      refine wpAnyH_take (i := 0) (v := .pointer (some ⟨w.heap.size, 1, none⟩)) rfl (by kernel_rfl) (by kernel_rfl) (by kernel_rfl) (fun _ _ _ h => h) (Or.inl ⟨by rfl, fun w' hw' => by go_simp⟩) hch0 ?_
      refine wpAnyH_take (i := 1) (v := .func (.func pn) #[] pcap) rfl (by kernel_rfl) (by kernel_rfl) (by kernel_rfl) (fun _ _ _ h => h) (Or.inl ⟨by rfl, fun w' hw' => by have hh := (HKR.out.chg hw' (fun h => h)).cell 1; simp at hh; go_simp⟩) hch0 ?_
      refine wpAnyH_take (i := 2) (v := .agg cs.toArray) rfl (by kernel_rfl) (by kernel_rfl) (by kernel_rfl) (fun _ _ _ h => h) (yieldsIf_load_mid (by rfl) 27 _ rfl (w.heap.size + 1) 0 rfl cs _ (fun w' hw' => (HFR.out.chg hw' (fun h => h)).range) Tryd.underlying27 rfl (by rw [H24.out]; exact size27)) hch0 ?_
      refine wpAnyH_take (i := 6) (v := .int .i64 0) rfl (by kernel_rfl) (by kernel_rfl) (by kernel_rfl) (fun _ _ _ h => h) (Or.inl ⟨by rfl, fun w' hw' => by go_simp⟩) hch0 ?_
      refine wpAnyH_ready (rs := [3]) (by kernel_rfl) (by simp) ?_
      refine AllReadyH.cons rfl (fun K hK => ?_) AllReadyH.nil
      rw [if_pos (by rfl)]
      try simp only [Act.put, List.setIfInBounds_toArray, List.set_cons_zero, List.set_cons_succ, List.getElem_toArray, List.getElem_cons_succ, List.getElem_cons_zero]
      go_simp
      refine (HTY.out _).mono ?_
      rintro e w2 ⟨rfl, hc2⟩
      have hch2 : Chg none_ W w2 := hch0.trans hc2
      refine hK.out _ _ hch2 (fun _ => ?_)
      clear hK K
      try simp only [Act.put, List.setIfInBounds_toArray, List.set_cons_zero, List.set_cons_succ]
      refine wpAnyH_ready (rs := [4]) (by kernel_rfl) (by simp) ?_
      refine AllReadyH.cons rfl (fun K hK => ?_) AllReadyH.nil
      rw [if_pos (by rfl)]
      try simp only [List.getElem_toArray, List.getElem_cons_succ, List.getElem_cons_zero]
      go_simp
      refine (HPC.out _ (HTW.out _ hch2)).mono ?_
      rintro e w3 ⟨A, cap, pcs, rfl, hpa, hpv, hc3⟩
      have hch3 : Chg none_ W w3 := hch2.trans hc3
      refine hK.out _ _ hch3 (fun _ => ?_)
      clear hK K
      try simp only [Act.put, List.setIfInBounds_toArray, List.set_cons_zero, List.set_cons_succ]
      have hpsl := parts_len d HGOOD.out (typM f)
      generalize d.pf.parts (typM f) = ps at *
      refine wpAnyH_take (i := 5) (v := .int .i64 ps.length) rfl (by kernel_rfl) (by kernel_rfl) (by kernel_rfl) (fun _ _ _ h => h) (Or.inl ⟨by rfl, fun w' hw' => by go_simp⟩) hch3 ?_
      refine wpAnyH_done (by kernel_rfl) ?_ _
      try simp only [Act.put, List.setIfInBounds_toArray, List.set_cons_zero, List.set_cons_succ, List.getElem_toArray, List.getElem_cons_succ, List.getElem_cons_zero]
      have hszL : w.heap.size + 1 + 1 + 1 ≤ w2.heap.size := by have := HSZ.out; have := hch2.size; omega
      have HPA := Lib.hid hpa
      have HPV := Lib.hid hpv
      have HF3 : Hid (FrAt w3 (w.heap.size + 1 + 1) (fun b => T b ∧ b < w.heap.size) f2) := HFA.out.chg hch3 (fun h => h) (fun _ _ h => h)
      have HK3 : Hid (Row w3 w.heap.size 41 [Value.bool d.flagged, .func (.func pn) #[] pcap, fitsV d.fits]) := HKR.out.chg hch3 (fun h => h)
      have HR3 : Hid (Row w3 (w.heap.size + 1) 27 cs) := HFR.out.chg hch3 (fun h => h)
      have HC3 : Hid (Chg none_ w w3) := HTW.out _ hch3
      clear hpa hpv hch0 hch2 hch3 HFA HKR HFR hc2 hc3)
    all_goals go_wp2
    all_goals (
      go_loopw [33] (fun i wr => ∃ k : Nat, k ≤ ps.length ∧ i = .int .i64 k ∧ FrAt wr (w.heap.size + 1 + 1) (fun b => T b ∧ b < w.heap.size) (dropAll (ps.take k) f2) ∧ Chg (· = w.heap.size + 1 + 1) w3 wr) (fun i _ => ps.length - (intOf i).toNat)
      case atStart => exact ⟨0, Nat.zero_le _, rfl, HF3.out, Chg.refl _ _⟩
      case round =>
        obtain ⟨k, hk, rfl, hfa, hch⟩ := hrel
        by_cases hlt : k < ps.length
        · have hrT : ∀ b, w2.heap.size ≤ b → ¬ b = w.heap.size + 1 + 1 := fun b hb e => by omega
          obtain ⟨b, o, x, y, z, rfl, hb, _, p0, p1, p2, hp, hx1, hy1⟩ := part_at (HPA.out.chg hch hrT) (HPV.out.chg hch hrT) k hlt
          have HTK : Hid (ps.take (k + 1) = ps.take k ++ [ps[k]]) := List.take_succ_eq_append_getElem hlt
          generalize ps[k] = p at *
          have HD : Hid (∀ w', Chg none_ wr w' → ∃ v, [x, y, z][2]? = some v ∧ Does v #[.pointer (some ⟨w.heap.size + 1 + 1, 0, none⟩)] w' (DropPost w' (w.heap.size + 1 + 1) (fun b => T b ∧ b < w.heap.size) (dropP p (dropAll (ps.take k) f2)))) := fun w' hc => drop_any _ _ _ w' _ _ _ (hp.chg hc (fun _ _ h => h)) (hfa.chg hc (fun h => h) (fun _ _ h => h)) (fun h => by have := h.2; omega)
          obtain ⟨v, hv0, n, ycap, hve, hyeg, _⟩ := HD.out wr (Chg.refl _ _)
          have hzv : z = v := by simpa using hv0
          subst hzv
          have HE : Hid (∀ w', Chg none_ wr w' → Calls Tryd.prog n (#[.pointer (some ⟨w.heap.size + 1 + 1, 0, none⟩)] ++ ycap) w' (DropPost w' (w.heap.size + 1 + 1) (fun b => T b ∧ b < w.heap.size) (dropP p (dropAll (ps.take k) f2)))) := fun w' hc => by
            obtain ⟨v, h1, h2⟩ := HD.out w' hc
            have h3 : z = v := by simpa using h1
            subst h3
            exact h2.anyw hve
          clear hv0 hp HD
          subst hve
          have hk0 : (0 : Int) ≤ (k : Int) := by omega
          have hk1 : (k : Int) < (ps.length : Int) := by omega
          have HCH := Lib.hid hch
          have HSL : Hid (w.heap.size + 1 + 1 < wr.heap.size) := by have := hch.size; have := HSZ.out; have := HC3.out.size; obtain ⟨_, _, hr, _⟩ := hfa; exact hr.lt
          clear hfa hch
          have hsx := fun (w : World) (a : Addr) => run_store Tryd.prog w a x .plain hx1
          have hsy := fun (w : World) (a : Addr) => run_store Tryd.prog w a y .plain hy1
          have hst := fun (w : World) (a : Addr) (fn : Fn) (x y : Array Value) => run_store Tryd.prog w a (.func fn x y) .plain rfl
          clear hx1 hy1
          go_wp2_with fail
          refine (HE.out _ ((Chg.refl none_ wr).alloc _)).mono ?_
          rintro e w4 ⟨rfl, hfa4, hc4⟩
          clear hsx hsy hst
          go_wp2
          go_roundw
          case rel => exact ⟨k + 1, by omega, rfl, by rw [HTK.out, dropAll_snoc]; exact hfa4, (HCH.out.alloc _).andThen hc4 (fun _ _ h => h)⟩
          case measure => simp [intOf]; omega
        · obtain rfl : k = ps.length := by omega
          rw [List.take_length] at hfa
          have hlt' : ¬ ((ps.length : Nat) : Int) < ((ps.length : Nat) : Int) := by omega
          obtain ⟨sd2, sr2, hrow, hfd⟩ := hfa
          have hod := dropAll_ok ps f2 hof
          have hK4 : ∀ w', Chg none_ wr w' → Row w' w.heap.size 41 [Value.bool d.flagged, .func (.func pn) #[] pcap, fitsV d.fits] ∧ Row w' (w.heap.size + 1) 27 cs ∧ Chg none_ w w' ∧ FrD w' T f sd sr := fun w' hc => by
            have h1 : Chg none_ w w' := (HC3.out.andThen hch (fun b hb h => by omega)).trans hc
            exact ⟨(HK3.out.chg hch (by show ¬ _ = _; omega)).chg hc (fun h => h), (HR3.out.chg hch (by show ¬ _ = _; omega)).chg hc (fun h => h), h1, HFD.out.chg h1 (fun _ _ h => h)⟩
          have hokk : Fr.Ok { kind := f.kind } := ⟨HOF.out.1, HOF.out.2, by show (0 : Nat) < _; omega, by show (0 : Nat) < _; omega, by show (0 : Nat) < _; omega, by show (0 : Nat) < _; omega, fun x hx => by simp at hx, fun x hx => by simp at hx, fun x hx => by rw [List.eq_of_mem_replicate hx]; omega⟩
          have HSM : Hid (∀ w', Chg none_ wr w' → Calls Tryd.prog 11 #[aggF (dropAll ps f2) sd2 sr2, aggF { kind := f.kind } (.slice none 0 0) (.slice none 0 0)] w' fun e w'' => e = .returned (.bool (decide (dropAll ps f2 = { kind := f.kind }))) ∧ Chg none_ w' w'') := fun w' hc =>
            sameF_any _ _ _ _ _ _ w' _ none_ (hfd.chg hc (fun _ _ h => h)) ⟨rfl, ⟨none, 0, rfl, Nat.zero_le _, View.none_ _ _ _⟩, ⟨none, 0, rfl, ⟨Nat.zero_le _, Nat.zero_le _⟩, View.none_ _ _ _⟩⟩ hod hokk
          have HBB : Hid (HB = (decide (dropAll ps f2 = { kind := f.kind }) && (match d.fits with | none => true | some n => fitsB n f))) := by rw [HH.out, decide_eq_true HBIG.out, Bool.true_and]; exact rfl
          generalize decide (dropAll ps f2 = { kind := f.kind }) = D at HSM HBB
          have HFI := HGOOD.out.2
          have h242 := cF_len (dropAll ps f2) sd2 sr2 hfd.tok
          obtain ⟨hk4, hf4, _, _⟩ := hK4 wr (Chg.refl _ _)
          have e0 := (hf4.cell 0).trans c0
          have HK4 := Lib.hid hK4
          have HRW := Lib.hid hrow
          have HF4 := Lib.hid hf4
          have H242 := Lib.hid h242
          unfold aggF at HSM
          generalize cellsF (dropAll ps f2) sd2 sr2 = cs2 at *
          have H242' := H242.out
          clear hK4 hrow hfd hf4 hk4 h242 hch hof hod hokk hpsl HGOOD
          cases D
          · go_wp2_with (first | ((with_reducible show wpList _ _ _ (⟨_, .load 27 _, _, _, _, _⟩ :: _) _ _); refine wl27 rfl rfl rfl HRW.out H242.out ?_) | (go_at_call 11; refine Calls.mono (HSM.out _ (Chg.refl _ _)) ?_; rintro e w4 ⟨rfl, hc4⟩; have HC4 := Lib.hid hc4; clear hc4))
            go_ret
            exact ⟨ret_bool (by rw [HBB.out]; rfl), (HK4.out _ HC4.out).2.2.1⟩
          · cases hft : d.fits with
            | none =>
              rw [hft] at HK4 HBB
              have heq1 := eql_nn
              have heq2 := eql_fn
              go_wp2_with (first | ((with_reducible show wpList _ _ _ (⟨_, .load 27 _, _, _, _, _⟩ :: _) _ _); refine wl27 rfl rfl rfl HRW.out H242.out ?_) | (go_at_call 11; refine Calls.mono (HSM.out _ (Chg.refl _ _)) ?_; rintro e w4 ⟨rfl, hc4⟩; have e2 := (HK4.out _ hc4).1.cell 2; simp [fitsV] at e2; have HC4 := Lib.hid hc4; clear hc4))
              go_ret
              exact ⟨ret_bool (by rw [HBB.out]; rfl), (HK4.out _ HC4.out).2.2.1⟩
            | some n =>
              rw [hft] at HK4 HBB
              have heq1 := eql_nn
              have heq2 := eql_fn
              have HFN := Lib.hid (HFI n hft)
              have hneg := fun (w' : World) (hc : Chg none_ wr w') => fits_any n HFN.out f sd sr w' T (HK4.out w' hc).2.2.2 HOF.out
              obtain ⟨n', cap', hne, hneg2, _⟩ := hneg wr (Chg.refl _ _)
              injection hne with hne1 _ hne2
              injection hne1 with hne1
              subst hne1 hne2
              have HNG : Hid (∀ w', Chg none_ wr w' → Calls Tryd.prog n (#[.agg cs.toArray] ++ #[]) w' fun e w'' => e = .returned (.bool (fitsB n f)) ∧ Chg none_ w' w'') := fun w' hc => by
                have := (hneg w' hc).anyw rfl
                unfold aggF at this
                rwa [HCS.out] at this
              clear hneg HFI
              go_wp2_with (first | ((with_reducible show wpList _ _ _ (⟨_, .load 27 _, _, _, _, _⟩ :: _) _ _); first | refine wl27 rfl rfl rfl HRW.out H242.out ?_ | refine wl27 rfl rfl rfl (HK4.out _ HC4.out).2.1 H24.out ?_) | (go_at_call 11; refine Calls.mono (HSM.out _ (Chg.refl _ _)) ?_; rintro e w4 ⟨rfl, hc4⟩; have e2 := (HK4.out _ hc4).1.cell 2; simp [fitsV, fnv] at e2; have HC4 := Lib.hid hc4; clear hc4) | (refine Calls.mono (HNG.out _ HC4.out) ?_; rintro e w5 ⟨rfl, hc5⟩))
              go_ret
              exact ⟨ret_bool (by rw [HBB.out]; simp), (HK4.out _ (HC4.out.trans hc5)).2.2.1⟩)
  · have HBIG := Lib.hid hbig
    have hmax : (4611686018427387903 : Int) < ((max (max (max f.id f.a) f.b) f.code : Nat) : Int) := by omega
    clear hbig
    go_enter Tryd.func16, Tryd.ntmps16
    go_wp2
    go_ret
    exact ⟨ret_bool (by rw [HH.out, decide_eq_false HBIG.out]; rfl), ((Chg.refl none_ w).alloc _).alloc _⟩
end Go.Proofs.YtlcffjmbfpdlbaaDoor
