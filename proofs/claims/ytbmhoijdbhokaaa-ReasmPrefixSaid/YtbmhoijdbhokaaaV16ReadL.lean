/- Layer 16 (reasm): Read. -/
import Derived.Test.YtbmhoijdbhokaaaV16Keep
import Derived.Test.YtbmhoijdbhokaaaRegionLate
import Derived.Test.YtbmhoijdbhokaaaMakeB
namespace Go.Proofs.Ytbmhoijdbhokaaa
open Go.RowKit Go.Shelf
attribute [local go_sem] Oper.semAt_some

section
variable {P : Program} {o : Oper} {a : Act} {w : World} {K : Act → World → Prop} {Q : Exit → Act → World → Prop}
/-- What a slice of bytes owns is no block of another type. -/
theorem own_far {w : World} {base g : Nat} {v : Value} {l : List Nat} {e : TypeId} {cs : List Value} (h : Owned w base v l) (hr : Row w g e cs) (he : e ≠ 5) : ∀ b, v.ownBlock = some b → ¬ b = g := by
  intro b hb e2
  subst e2
  rcases h.2 with ⟨h1, _⟩ | ⟨g', cap, cur, h1, _, h2, _⟩
  · subst h1; cases hb
  · subst h1
    cases hb
    unfold Row at hr
    rw [hr] at h2
    injection h2 with h2
    injection h2 with _ h2 _
    exact he h2
/-- A variable of one cell is laid: at a bare operation. -/
theorem wp_alloc_one {ty : TypeId} {z : Value} (ho : o.op = .alloc ty) (hz : (P.info? ty).map (·.zero) = some (some z)) (h1 : z.cells = #[z])
    (k : ∀ w', Row w' w.heap.size ty [z] → Chg none_ w w' → w'.heap.size = w.heap.size + 1 → K (a.put o.dst (.pointer (some ⟨w.heap.size, 0, none⟩))) w') : Oper.wp P o a w K Q := by
  have k' := k (w.alloc (.cells [z].toArray ty)) (Row.new w ty [z]) ((Chg.refl none_ w).alloc _) (by simp)
  cases hq : P.info? ty with
  | none => rw [hq] at hz; cases hz
  | some i =>
    have hzero : i.zero = some z := by simpa [hq] using hz
    unfold Oper.wp execOp
    simp [ho, Instr.alloc, zeroValue, typeInfo, newVar, newRow, Sem.run_bind, Sem.run_pure, Result.andThen_ok, hq, hzero, h1]
    exact k'
/-- make of bytes, none, with room for so many. -/
theorem wp_make_room (l c : Operand) (t : TypeId) (hop : o.op = Op.makeSlice t l c)
    (ht : P.underlying t = some (.slice 5)) (hinfo : (P.info? 5).map (fun i => (i.zero, i.size, i.bytes)) = some (some (.int .u8 0), 1, 1))
    (n base : Nat) (hl : a.eval l = .int .i64 0) (hc : a.eval c = .int .i64 (n : Int)) (hn : n ≤ 1000000) (hb : base ≤ w.heap.size)
    (k : ∀ w', Owned w' base (.slice (some ⟨w.heap.size, 0, none⟩) 0 n) [] → Chg none_ w w' → K (a.put o.dst (.slice (some ⟨w.heap.size, 0, none⟩) 0 n)) w') :
    Oper.wp P o a w K Q := by
  cases hq : P.info? 5 with
  | none => rw [hq] at hinfo; cases hinfo
  | some i =>
    rw [hq] at hinfo
    simp only [Option.map_some, Option.some.injEq, Prod.mk.injEq] at hinfo
    obtain ⟨w', hr, h1, h2⟩ := run_make_own (P := P) w base t 5 i (.int .u8 0) 1 ht hq hinfo.1 hinfo.2.1 .i64 .i64 n (by rw [hinfo.2.2]; omega) (by unfold maxLen; omega) hb
    unfold Oper.wp
    simp [execOp, hop, hl, hc, hr, Result.andThen]
    exact k w' h1 ((Chg.of_grown h2).mono (fun _ _ h => by cases h))
end

/-- What turned in a round, of what no loop of ours leans on. -/
theorem keepsFrom_chg {S : Nat → Prop} {B : Nat} {W W' : World} (hc : Chg S W W') (h : ∀ b, B ≤ b → S b → ∃ o, W.heap[b]? = some o ∧ o.isCells = true) : KeepsFrom B W W' :=
  ⟨hc.size, fun k o hB hk ho => (hc.block k (Array.getElem?_eq_some_iff.1 hk).1 (fun hs => by obtain ⟨o', h1, h2⟩ := h k hB hs; rw [h1] at hk; cases hk; rw [h2] at ho; cases ho)).trans hk⟩
theorem own_cells {w : World} {base : Nat} {v : Value} {l : List Nat} (h : Owned w base v l) {b : Nat} (hb : v.ownBlock = some b) : ∃ o, w.heap[b]? = some o ∧ o.isCells = true := by
  rcases h.2 with ⟨h1, _⟩ | ⟨g', cap, cur, h1, _, h2, _⟩
  · subst h1; cases hb
  · subst h1
    cases hb
    exact ⟨_, h2, rfl⟩
theorem row_cells {w : World} {g : Nat} {e : TypeId} {cs : List Value} (h : Row w g e cs) : ∃ o, w.heap[g]? = some o ∧ o.isCells = true := ⟨_, h, rfl⟩
theorem own_map {w : World} {base m : Nat} {v : Value} {l : List Nat} {es : List (Nat × Nat)} (h : Owned w base v l) (hm : MapB w m es) : ∀ b, v.ownBlock = some b → ¬ b = m := by
  intro b hb e2
  subst e2
  obtain ⟨o, h1, h2⟩ := own_cells h hb
  obtain ⟨l, c, h3, _⟩ := hm
  rw [h1] at h3
  cases h3
  cases h2

section
variable {ops : Array Oper} {rest : List Oper} {o : Oper} {a : Act} {w : World} {Q : Exit → Act → World → Prop} {l n : Nat}
theorem wpListIn_append1 (hw : Region.wanted o (yielded ops a.tmps) = true) (s x : Operand) (t : TypeId)
    (ho : o.op = .call { callee := .builtin .append, args := #[s, x], argTypes := #[t, t] }) (ht : Try.prog.underlying t = some (.slice 5)) {base : Nat} {v : Value} {L M : List Nat} {T : Nat → Prop} {A : Option Addr} {m c : Nat}
    (hs : a.eval s = v) (hown : Owned w base v L) (hx : a.eval x = .slice A m c) (hv : View w T A m (u8s M)) (hlen : L.length + m ≤ 1000000) (hbase : base ≤ w.heap.size)
    (k : ∀ v' w', Owned w' base v' (L ++ M) → Chg (fun b => v.ownBlock = some b) w w' → wpListIn (Fence.wide.inRound l) n Try.prog ops Q rest (a.put o.dst v') w') : wpListIn (Fence.wide.inRound l) n Try.prog ops Q (o :: rest) a w := by
  refine BigFrame.wpListIn_want hw fun K hK' => wpIn_round_op (by simp [ho]) ?_
  obtain ⟨i0, hi, hz0, hz1, hz2⟩ := info_parts info5
  have hm : M.length = m := by have := hv.1; simpa using this
  refine wp_append_view s x t ho 5 i0 _ 1 ht hi hz0 hz1 hz2 rfl base v L.length (u8s L) hs hown T A m c (u8s M) hx hv (u8s_one _) (by unfold maxLen; omega) (by omega) hbase fun v' w' h2 h3 _ => hK' _ _ (k v' w' ?_ (Chg.of_grown h3))
  have e : u8s L ++ u8s M = u8s (L ++ M) := by simp [u8s]
  rw [e] at h2
  unfold Owned
  rw [List.length_append, hm]
  exact h2
theorem wpListIn_store_data {x y : Operand} {bd n2 c2 : Nat} {A2 : Option Addr} {u : Value} (ho : o.op = .store 22 x y) (hw : Region.wanted o (yielded ops a.tmps) = true) (hx : a.eval x = .pointer (some ⟨bd, 0, none⟩)) (hy : a.eval y = .slice A2 n2 c2) (hr : Row w bd 22 [u])
    (k : ∀ w', Row w' bd 22 [.slice A2 n2 c2] → Chg (· = bd) w w' → wpListIn (Fence.wide.inRound l) n Try.prog ops Q rest (a.put o.dst undef) w') : wpListIn (Fence.wide.inRound l) n Try.prog ops Q (o :: rest) a w := by
  refine BigFrame.wpListIn_want hw fun K hK' => wpIn_round_op (by simp [ho]) ?_
  have c := hr.cell 0
  have z := hr.frozen 0
  simp only [List.getElem?_cons_zero] at c
  have k' := k _ (hr.set 0 (.slice A2 n2 c2)) ((Chg.refl (· = bd) w).setCell (p := ⟨bd, 0, none⟩) (fun _ => rfl) (.slice A2 n2 c2))
  unfold Oper.wp execOp
  simp only [ho, hx, hy]
  go_simp
  exact hK' _ _ k'
end

/-- Between two rounds of Read: these bytes were read, and are no more kept. -/
structure RdI (w : World) (g m n bd pb : Nat) (s : Rb) (v : Value) (q : List (Nat × Nat)) (W : World) : Prop where
  seq : SeqOf s.B s.rd q
  le : q.length ≤ n
  box : Row W w.heap.size 25 [.pointer (some ⟨g, 0, none⟩)]
  num : Row W (w.heap.size + 1) 3 [.int .i64 (n : Int)]
  dat : Row W bd 22 [v]
  own : Owned W w.heap.size v (q.map (·.2))
  buf : BufAt W g m { s with es := strike s.es s.rd q.length }
  pbx : Row W pb 25 [.pointer (some ⟨g, 0, none⟩)]
  ppx : Row W (pb + 1) 32 [.int .u64 (s.rd : Int)]
  chg : Chg (of2 g m) w W
theorem RdI.from {w : World} {g m n bd pb B : Nat} {s : Rb} {v : Value} {q : List (Nat × Nat)} {W W' : World} {row : Option Nat} (h : RdI w g m n bd pb s v q W) (hm : m < B) (hw : w.heap.size ≤ B) (hg : W.grownBy W' row) (hr : ∀ r, row = some r → B ≤ r ∧ ∃ o : Obj, W.heap[r]? = some o ∧ o.isCells = false) : RdI w g m n bd pb s v q W' :=
  ⟨h.seq, h.le, row_fromB h.box hg (fun r e => (hr r e).2), row_fromB h.num hg (fun r e => (hr r e).2), row_fromB h.dat hg (fun r e => (hr r e).2), h.own.chg' (Chg.of_grown hg) (fun b hb e => by
    obtain ⟨o, h1, h2⟩ := own_cells h.own hb
    obtain ⟨_, o', h3, h4⟩ := hr b e
    rw [h1] at h3
    cases h3
    rw [h2] at h4
    cases h4), buf_fromB h.buf hm hg hr, row_fromB h.pbx hg (fun r e => (hr r e).2), row_fromB h.ppx hg (fun r e => (hr r e).2), chg_fromB h.chg hw hg hr⟩
theorem RdI.len_le {w : World} {g m n bd pb : Nat} {s : Rb} {v : Value} {q : List (Nat × Nat)} {W : World} (h : RdI w g m n bd pb s v q W) (hs : s.Ok) : q.length ≤ s.gap - s.rd := by
  rcases Nat.lt_or_ge (s.gap - s.rd) q.length with h1 | h1
  · obtain ⟨x, hx⟩ := h.seq.has (q := s.gap) hs.core.rg (by have := hs.core.rg; omega)
    rw [hs.gapN] at hx
    cases hx
  · exact h1
theorem RdI.round {w : World} {g m n bd pb x1 x2 B : Nat} {s : Rb} {v v' : Value} {q : List (Nat × Nat)} {W W1 W2 W3 W4 : World} (h : RdI w g m n bd pb s v q W) (h1 : Chg none_ W W1) (h2 : Chg (fun b => v.ownBlock = some b) W1 W2) (ho : Owned W2 w.heap.size v' (q.map (·.2) ++ [x2])) (hr3 : Row W3 bd 22 [v']) (h3 : Chg (· = bd) W2 W3)
    (hm4 : MapB W4 m (without (strike s.es s.rd q.length) x1)) (h4 : Chg (· = m) W3 W4) (hx1 : x1 = s.rd + q.length) (hx2 : s.B x1 = some x2) (hq : q.length < n) (hm : m < B) (hbx : bd ≠ w.heap.size ∧ bd ≠ w.heap.size + 1 ∧ bd ≠ g ∧ bd ≠ m ∧ bd ≠ pb ∧ bd ≠ pb + 1) (hmx : m < w.heap.size) (hpb : w.heap.size ≤ pb) (hbd : w.heap.size ≤ bd) :
    KeepsFrom B W W4 ∧ RdI w g m n bd pb s v' (q ++ [(x1, x2)]) W4 := by
  have ho1 := h.own.chg' h1 (fun _ _ h => h)
  have t : ∀ {r e cs}, Row W r e cs → e ≠ 5 → r ≠ bd → r ≠ m → Row W4 r e cs := fun {r e cs} hr he hb hmm =>
    (((hr.chg h1 (fun h => h)).chg h2 (fun hb2 => own_far ho1 (hr.chg h1 (fun h => h)) he _ hb2 rfl)).chg h3 hb).chg h4 hmm
  obtain ⟨b1, b2, b3, b4, b5, b6⟩ := hbx
  have hd1 := h.dat.chg h1 (fun h => h)
  have hd2 := hd1.chg h2 (fun e => own_far ho1 hd1 (by decide) _ e rfl)
  have hfar := own_far ho hd2 (by decide)
  have hm3 := ((h.buf.map.chg h1 (fun h => h)).chg h2 (fun e => own_map ho1 (h.buf.map.chg h1 (fun h => h)) _ e rfl)).chg h3 (fun e => b4 e.symm)
  have ho3 := ho.chg' h3 hfar
  have hc : Chg (fun b => v.ownBlock = some b ∨ b = bd ∨ b = m) W W4 := (((h1.mono (fun _ _ x => x.elim)).trans (h2.mono (fun _ _ x => Or.inl x))).trans (h3.mono (fun _ _ x => Or.inr (Or.inl x)))).trans (h4.mono (fun _ _ x => Or.inr (Or.inr x)))
  refine ⟨keepsFrom_chg hc ?_, ?_⟩
  · rintro b hB (e | e | e)
    · exact own_cells h.own e
    · rw [e]; exact row_cells h.dat
    · omega
  · refine ⟨h.seq.snoc hx1 hx2, by rw [List.length_append]; simp; omega, t h.box (by decide) b1.symm (by omega), t h.num (by decide) b2.symm (by omega), hr3.chg h4 b4, ?_, ⟨t h.buf.row (by decide) b3.symm h.buf.ne.symm, ?_, h.buf.ne⟩, t h.pbx (by decide) b5.symm (by omega), t h.ppx (by decide) b6.symm (by omega), h.chg.andThen hc ?_⟩
    · rw [List.map_append]
      exact ho3.chg' h4 (own_map ho3 hm3)
    · rw [List.length_append]
      show MapB W4 m (strike s.es s.rd (q.length + 1))
      rw [strike, ← hx1]
      exact hm4
    · rintro b hb (e | e | e)
      · have := (h.own.lt e).2
        omega
      · omega
      · exact Or.inr e
theorem ne22 : (22 : TypeId) ≠ 5 := by decide
theorem dat_app {W W2 : World} {o : Obj} {bd base : Nat} {e : TypeId} {cs : List Value} {v : Value} {l : List Nat} (hd : Row W bd e cs) (he : e ≠ 5) (ho : Owned W base v l) (hc : Chg (fun b => v.ownBlock = some b) (W.alloc o) W2) : Row W2 bd e cs :=
  (hd.alloc o).chg hc (fun x => own_far (ho.chg' ((Chg.refl none_ W).alloc o) (fun _ _ h => h)) (hd.alloc o) he _ x rfl)
theorem RdI.mid {w : World} {g m n bd pb : Nat} {s : Rb} {v : Value} {q : List (Nat × Nat)} {W W1 W2 W3 : World} (h : RdI w g m n bd pb s v q W) (h1 : Chg none_ W W1) (h2 : Chg (fun b => v.ownBlock = some b) W1 W2) (h3 : Chg (· = bd) W2 W3) (hbx : bd ≠ w.heap.size ∧ bd ≠ w.heap.size + 1 ∧ bd ≠ g ∧ bd ≠ m ∧ bd ≠ pb ∧ bd ≠ pb + 1) :
    Row W3 w.heap.size 25 [.pointer (some ⟨g, 0, none⟩)] ∧ Row W3 g 51 (cellsB m { s with es := strike s.es s.rd q.length }) ∧ MapB W3 m (strike s.es s.rd q.length) := by
  have ho1 := h.own.chg' h1 (fun _ _ h => h)
  have t : ∀ {r e cs}, Row W r e cs → e ≠ 5 → r ≠ bd → Row W3 r e cs := fun {r e cs} hr he hb =>
    ((hr.chg h1 (fun h => h)).chg h2 (fun hb2 => own_far ho1 (hr.chg h1 (fun h => h)) he _ hb2 rfl)).chg h3 hb
  obtain ⟨b1, b2, b3, b4, b5, b6⟩ := hbx
  exact ⟨t h.box (by decide) b1.symm, t h.buf.row (by decide) b3.symm, ((h.buf.map.chg h1 (fun h => h)).chg h2 (fun e => own_map ho1 (h.buf.map.chg h1 (fun h => h)) _ e rfl)).chg h3 (fun e => b4 e.symm)⟩
theorem chg_rd {w W wt : World} {g m k bd : Nat} {s : Rb} {v : Value} {l : List Nat} (hb : BufAt W g m { s with es := strike s.es s.rd k }) (hc : Chg (of2 g m) w W) (hd : Row W bd 22 [v]) (ho : Owned W w.heap.size v l) (hbg : bd ≠ g) (hwt : wt = W.drew.setCell ⟨g, 2, none⟩ (.int .u64 ((s.rd : Int) + (k : Int)))) :
    BufAt wt g m (readS s k) ∧ Chg (of2 g m) w wt ∧ Row wt bd 22 [v] ∧ Owned wt w.heap.size v l ∧ Chg (· = g) W wt := by
  subst hwt
  have h1 : Chg (· = g) W (W.drew.setCell ⟨g, 2, none⟩ (.int .u64 ((s.rd : Int) + (k : Int)))) := (Chg.refl (· = g) W).drew.setCell (p := ⟨g, 2, none⟩) (fun _ => rfl) _
  refine ⟨⟨hb.row.drew.set 2 _, hb.map.chg h1 hb.ne, hb.ne⟩, hc.drew.setCell (p := ⟨g, 2, none⟩) (fun _ => Or.inl rfl) _, hd.chg h1 hbg, ho.chg' h1 (own_far ho hb.row (by decide)), h1⟩
theorem own_fromB {base B : Nat} {v : Value} {l : List Nat} {W W' : World} {row : Option Nat} (h : Owned W base v l) (hg : W.grownBy W' row) (hr : ∀ r, row = some r → B ≤ r ∧ ∃ o : Obj, W.heap[r]? = some o ∧ o.isCells = false) : Owned W' base v l :=
  h.chg' (Chg.of_grown hg) (fun b hb e => by
    obtain ⟨o, h1, h2⟩ := own_cells h hb
    obtain ⟨_, o', h3, h4⟩ := hr b e
    rw [h1] at h3
    cases h3
    rw [h2] at h4
    cases h4)
end Go.Proofs.Ytbmhoijdbhokaaa
