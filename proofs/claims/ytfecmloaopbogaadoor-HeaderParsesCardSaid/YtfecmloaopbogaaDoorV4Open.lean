/- Layer 4 (header): a header that came in, opened to its cells; great, the laws' own bound. -/
import Derived.Test.YtfecmloaopbogaaDoorV4Hd
import Derived.ChangeOld
import Derived.ChangeSlices
import Derived.Deep.Fields
namespace Go.Proofs.YtfecmloaopbogaaDoor
open Go.RowKit Go.ChangeShapes Go.WideShapes Go.Deep

/-- A slice of bytes that came in, however long. -/
def SlIn (w : World) (v : Value) (l : List Nat) : Prop := ∃ A c, v = .slice A l.length c ∧ l.length ≤ maxLen ∧ View w (fun _ => True) A l.length (u8s l)
structure HdIn (w : World) (h : Hd) (v : Four) : Prop where
  d : SlIn w v.d h.dst
  s : SlIn w v.s h.src
  t : SlIn w v.t h.token
  c : SlIn w v.c h.cut
theorem SlIn.sl {w : World} {v : Value} {l : List Nat} (h : SlIn w v l) (hl : l.length ≤ 1000000) : Sl w (fun _ => True) v l := by
  obtain ⟨A, c, h1, _, h3⟩ := h; exact ⟨A, c, h1, hl, h3⟩

theorem SlIn.shape {w : World} {v : Value} {l : List Nat} (h : SlIn w v l) : ∃ A c, v = .slice A l.length c := by
  obtain ⟨A, c, h1, _⟩ := h; exact ⟨A, c, h1⟩
theorem HdIn.shape {w : World} {h : Hd} {v : Four} (x : HdIn w h v) : Shape h v := ⟨x.d.shape, x.s.shape, x.t.shape, x.c.shape⟩
theorem HdIn.hd {w : World} {h : Hd} {v : Four} (x : HdIn w h v) (hd : h.dst.length ≤ 1000000) (hs : h.src.length ≤ 1000000) (ht : h.token.length ≤ 1000000) (hc : h.cut.length ≤ 1000000) : HdD w (fun _ => True) h v := ⟨x.d.sl hd, x.s.sl hs, x.t.sl ht, x.c.sl hc⟩

/-- Is it more than is looked at? (Go's sums.) -/
def greatH (h : Hd) : Bool := decide (600 < IntKind.i64.wrap (IntKind.i64.wrap (IntKind.i64.wrap ((h.dst.length : Int) + h.src.length) + h.token.length) + h.cut.length))

set_option maxRecDepth 100000 in
theorem great_any (h : Hd) (v : Four) (w : World) (x : Shape h v) :
    Calls Tryd.prog 11 #[aggH h v] w fun e w' => e = .returned (.bool (greatH h)) ∧ Chg none_ w w' := by
  obtain ⟨⟨D, d', e4⟩, ⟨S, s', e5⟩, ⟨T, t', e6⟩, ⟨C, c', e7⟩⟩ := x
  have h4 := cH_4 h v
  have h5 := cH_5 h v
  have h6 := cH_6 h v
  have h7 := cH_7 h v
  rw [e4] at h4; rw [e5] at h5; rw [e6] at h6; rw [e7] at h7
  clear e4 e5 e6 e7
  unfold aggH
  generalize cellsH h v = cs at *
  have HR := Lib.hid ((Chg.refl none_ w).alloc (.cells cs.toArray 25))
  have HG : Hid (greatH h = decide (600 < IntKind.i64.wrap (IntKind.i64.wrap (IntKind.i64.wrap ((h.dst.length : Int) + h.src.length) + h.token.length) + h.cut.length))) := rfl
  generalize greatH h = G at *
  obtain ⟨x1, q1⟩ : ∃ x, IntKind.i64.wrap ((h.dst.length : Int) + h.src.length) = x := ⟨_, rfl⟩
  rw [q1] at HG
  obtain ⟨x2, q2⟩ : ∃ x, IntKind.i64.wrap (x1 + h.token.length) = x := ⟨_, rfl⟩
  rw [q2] at HG
  obtain ⟨x3, q3⟩ : ∃ x, IntKind.i64.wrap (x2 + h.cut.length) = x := ⟨_, rfl⟩
  rw [q3] at HG
  by_cases hx : 600 < x3
  all_goals
    go_enter Tryd.func11, Tryd.ntmps11
    go_wp2
    go_ret
    exact ⟨ret_bool (by rw [HG.out]; simp [hx]), HR.out⟩

section
variable {H : Type} {enc : TypeId × Value → H} {W : World} {held : Bool}
theorem open_bytes {n : Nat} {u : Value} {y : DataW H × List MemPlace} (h : DataW.trod enc Tryd.prog W 0 (fun _ => true) held n 23 [u] = some y) : ∃ l : List Nat, SlIn W u l ∧ ∀ x ∈ l, x < 256 := by
  have hrow : ∃ a len cap zs, u = .slice a len cap ∧ IsRow .u8 W a len cap zs := by
    rcases open_ints Tryd.underlying23 Tryd.underlying5 (by kernel_rfl) h with ⟨hcs, _⟩ | ⟨x, l, c, zs, hcs, _, hl, hm, hz, _, hcell, hwz⟩
    · simp at hcs
      exact ⟨none, 0, 0, [], hcs, .inl ⟨rfl, rfl, rfl, rfl⟩⟩
    · simp at hcs
      exact ⟨some x, l, c, zs, hcs, .inr ⟨x, rfl, hl, hm, by simpa using hz, hcell, hwz⟩⟩
  obtain ⟨a, len, cap, zs, rfl, hr⟩ := hrow
  obtain ⟨xs, rfl, h1, h2, h3, h4⟩ := hr.u8
  exact ⟨xs, ⟨a, cap, rfl, Nat.le_trans h1 h2, h4⟩, h3⟩

theorem list9 : ∀ {l : List Value}, l.length = 9 → ∃ c0 c1 c2 c3 c4 c5 c6 c7 c8, l = [c0, c1, c2, c3, c4, c5, c6, c7, c8]
  | [a, b, c, d, e, f, g, h, i], _ => ⟨a, b, c, d, e, f, g, h, i, rfl⟩
theorem wf_i64 {x : Int} (h : (Lit.int .i64 x).wf = true) : -9223372036854775808 ≤ x ∧ x < 9223372036854775808 := by
  have h2 : (decide (-9223372036854775808 ≤ x) && decide (x ≤ 9223372036854775807)) = true := h
  simp only [Bool.and_eq_true, decide_eq_true_eq] at h2
  omega
theorem wf_u32 {x : Int} (h : (Lit.int .u32 x).wf = true) : 0 ≤ x ∧ x < 4294967296 := by
  have h2 : (decide (0 ≤ x) && decide (x ≤ 4294967295)) = true := h
  simp only [Bool.and_eq_true, decide_eq_true_eq] at h2
  omega

/-- A header that came in. -/
theorem open_hd {r : Reach} {b0 : Nat} {v : Value} {d : DataW H} {p : List MemPlace} (hv : Value.okWide Tryd.prog W r b0 25 v) (h : DataW.Trod enc Tryd.prog W 0 (fun _ => true) held 25 v d p) :
    ∃ (h : Hd) (f : Four), v = aggH h f ∧ HdIn W h f ∧ h.Ok := by
  obtain ⟨cs, rfl, hsz⟩ := okWide_struct Tryd.underlying25 hv
  obtain ⟨l⟩ := cs
  have hl : l.length = 9 := hsz.trans (by kernel_rfl)
  obtain ⟨c0, c1, c2, c3, c4, c5, c6, c7, c8, rfl⟩ := list9 hl
  obtain ⟨fuel, hf⟩ := h
  obtain ⟨xs, n, _, _, _, hlen, hg⟩ := DataW.trod_struct Tryd.underlying25 hf
  have hx : ∀ i, i < 9 → ∃ y, xs[i]? = some y := fun i hi => ⟨xs[i]'(by rw [hlen]; exact hi), List.getElem?_eq_getElem _⟩
  have hcell : ∀ T, Tryd.prog.cellsOf T = 1 ∨ True := fun _ => .inr trivial
  have k5 : Tryd.prog.cellsOf 4 = 1 := by kernel_rfl
  have ki : Tryd.prog.cellsOf 3 = 1 := by kernel_rfl
  have ku : Tryd.prog.cellsOf 22 = 1 := by kernel_rfl
  have ks : Tryd.prog.cellsOf 23 = 1 := by kernel_rfl
  obtain ⟨y0, e0⟩ := hx 0 (by omega)
  obtain ⟨y1, e1⟩ := hx 1 (by omega)
  obtain ⟨y2, e2⟩ := hx 2 (by omega)
  obtain ⟨y3, e3⟩ := hx 3 (by omega)
  obtain ⟨y4, e4⟩ := hx 4 (by omega)
  obtain ⟨y5, e5⟩ := hx 5 (by omega)
  obtain ⟨y6, e6⟩ := hx 6 (by omega)
  obtain ⟨y7, e7⟩ := hx 7 (by omega)
  obtain ⟨y8, e8⟩ := hx 8 (by omega)
  have g0 := hg 0 _ rfl
  have g1 := hg 1 _ rfl
  have g2 := hg 2 _ rfl
  have g3 := hg 3 _ rfl
  have g4 := hg 4 _ rfl
  have g5 := hg 5 _ rfl
  have g6 := hg 6 _ rfl
  have g7 := hg 7 _ rfl
  have g8 := hg 8 _ rfl
  rw [e0] at g0; rw [e1] at g1; rw [e2] at g2; rw [e3] at g3; rw [e4] at g4; rw [e5] at g5; rw [e6] at g6; rw [e7] at g7; rw [e8] at g8
  simp [Value.cells, k5, ki, ku, ks] at g0 g1 g2 g3 g4 g5 g6 g7 g8
  obtain ⟨b0, q0, _⟩ := DataW.trod_bool Tryd.underlying4 g0
  obtain ⟨b1, q1, _⟩ := DataW.trod_bool Tryd.underlying4 g1
  obtain ⟨z2, q2, _, w2⟩ := DataW.trod_int Tryd.underlying3 g2
  obtain ⟨z3, q3, _, w3⟩ := DataW.trod_int Tryd.underlying22 g3
  obtain ⟨z8, q8, _, w8⟩ := DataW.trod_int Tryd.underlying3 g8
  obtain ⟨l4, s4, m4⟩ := open_bytes g4
  obtain ⟨l5, s5, m5⟩ := open_bytes g5
  obtain ⟨l6, s6, m6⟩ := open_bytes g6
  obtain ⟨l7, s7, m7⟩ := open_bytes g7
  simp at q0 q1 q2 q3 q8
  subst q0; subst q1; subst q2; subst q3; subst q8
  have i2 := wf_i64 w2
  have i8 := wf_i64 w8
  have i3 := wf_u32 w3
  obtain ⟨n3, rfl⟩ : ∃ n : Nat, z3 = (n : Int) := ⟨z3.toNat, by omega⟩
  exact ⟨⟨b0, b1, z2, n3, l4, l5, l6, l7, z8⟩, ⟨c4, c5, c6, c7⟩, rfl, ⟨s4, s5, s6, s7⟩, ⟨i2.1, i2.2, by simp only; omega, i8.1, i8.2, m4, m5, m6, m7⟩⟩
end
end Go.Proofs.YtfecmloaopbogaaDoor
