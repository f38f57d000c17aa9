/- Own words for []byte of strings and of constants. No program is named here. -/
import Derived.Test.YtbmhoijdbhokaaaAloc
import Derived.Laws.IdiomStrings
import Derived.Lib.SmallJoins
namespace Go.Proofs.Ytbmhoijdbhokaaa
open Go.RowKit

/-- A string's bytes. -/
def bsN (s : ByteArray) : List Nat := s.data.toList.map (·.toNat)
theorem bsN_len (s : ByteArray) : (bsN s).length = s.size := by simp [bsN]
theorem bsN_lt (s : ByteArray) : ∀ x ∈ bsN s, x < 256 := by
  intro x hx
  simp only [bsN, List.mem_map] at hx
  obtain ⟨b, _, rfl⟩ := hx
  exact b.toNat_lt

section
variable {P : Program} {ops : Array Oper} {rest : List Oper} {o : Oper} {a : Act} {w : World} {Q : Exit → Act → World → Prop}
theorem view_marked (w w0 : World) (T : Nat → Prop) (e : TypeId) (fr : Nat × Nat) (xs sp : List Value) (hs : w0.heap = w.heap) (hT : T w.heap.size) : View (w0.alloc (.cells (xs ++ sp).toArray e fr)) T (some ⟨w.heap.size, 0, none⟩) xs.length xs := by
  refine ⟨rfl, fun hn => ⟨w.heap.size, 0, rfl, by simp [hs], hT, fun j hj => ?_⟩⟩
  rw [Go.Joins.cell_alloc_mark_at w0 _ _ _ w.heap.size _ (by rw [hs])]
  simp [List.getElem?_append_left hj]

/-- '[]byte(s)' of a string. -/
theorem wp_bytes_string {K : Act → World → Prop} {src dst e : TypeId} {x : Operand} (ho : o.op = .convert src dst x) {s : ByteArray} (hx : a.eval x = .string s) (hs : P.underlying src = some .string) (hd : P.underlying dst = some (.slice e)) (he : P.underlying e = some (.int .u8))
    (k : ∀ w' c, View w' (fun b => w.heap.size ≤ b) (some ⟨w.heap.size, 0, none⟩) s.size (u8s (bsN s)) → s.size ≤ c → Chg none_ w w' → K (a.put o.dst (.slice (some ⟨w.heap.size, 0, none⟩) s.size c)) w') : Oper.wp P o a w K Q := by
  have hr := run_bytes_of_string (P := P) w src dst e s hs hd he
  have hge := grownCap_ge w s.size 0 e
  generalize grownCap w s.size 0 e = G at hr hge
  unfold Oper.wp execOp
  simp only [ho, hx, Sem.run_bind, Sem.run_pure, hr, Result.andThen_ok]
  refine k _ _ ?_ (by omega) ((Chg.refl none_ w).drew.alloc _)
  have e1 : bytesRow s G = (u8s (bsN s) ++ List.replicate (G - s.size) (Value.int .u8 0)).toArray := by
    apply Array.ext'
    simp [bytesRow, u8s, bsN]
  have hv := view_marked w w.drew (fun b => w.heap.size ≤ b) e ((bytesRow s G).size, (bytesRow s G).size + 1) (u8s (bsN s)) (List.replicate (G - s.size) (Value.int .u8 0)) rfl (Nat.le_refl _)
  rw [u8s_length, bsN_len, ← e1] at hv
  exact hv
theorem wpList_bytes_string {src dst e : TypeId} {x : Operand} (ho : o.op = .convert src dst x) (hw : Region.wanted o (yielded ops a.tmps) = true) {s : ByteArray} (hx : a.eval x = .string s) (hs : P.underlying src = some .string) (hd : P.underlying dst = some (.slice e)) (he : P.underlying e = some (.int .u8))
    (k : ∀ w' c, View w' (fun b => w.heap.size ≤ b) (some ⟨w.heap.size, 0, none⟩) s.size (u8s (bsN s)) → s.size ≤ c → Chg none_ w w' → wpList P ops Q rest (a.put o.dst (.slice (some ⟨w.heap.size, 0, none⟩) s.size c)) w') : wpList P ops Q (o :: rest) a w :=
  BigFrame.wpList_want hw fun _ hK => wp_bytes_string ho hx hs hd he fun w' c h1 h2 h3 => hK _ _ (k w' c h1 h2 h3)

/-- '[]byte("..")' of a constant that was just laid. -/
theorem wp_bytes_const {K : Act → World → Prop} {t e : TypeId} {x : Operand} (ho : o.op = .convert t t x) (l : List Nat) (n : Nat) (hn : l.length = n) (hx : a.eval x = .slice (some ⟨w.heap.size, 0, none⟩) n n) (ht : P.underlying t = some (.slice e)) (he : P.underlying e = some (.int .u8))
    (k : ∀ w', View w' (fun b => w.heap.size ≤ b) (some ⟨w.heap.size, 0, none⟩) l.length (u8s l) → Chg none_ w w' → K (a.put o.dst (.slice (some ⟨w.heap.size, 0, none⟩) l.length l.length)) w') : Oper.wp P o a (w.alloc (.cells (u8s l).toArray e)) K Q := by
  subst hn
  have hr := Go.Joins.run_convert_bytes_const_at (P := P) w t e (u8s l).toArray l.length l.length w.heap.size rfl ht he
  unfold Oper.wp execOp
  simp only [ho, hx, Sem.run_bind, Sem.run_pure, hr, Result.andThen_ok]
  refine k _ ?_ ((Chg.refl none_ w).alloc _)
  have hv := view_marked w w (fun b => w.heap.size ≤ b) e ((u8s l).toArray.size, (u8s l).toArray.size + 1) (u8s l) [] rfl (Nat.le_refl _)
  rw [List.append_nil, u8s_length] at hv
  exact hv
theorem wpList_bytes_const {t e : TypeId} {x : Operand} (ho : o.op = .convert t t x) (hw : Region.wanted o (yielded ops a.tmps) = true) (l : List Nat) (n : Nat) (hn : l.length = n) (hx : a.eval x = .slice (some ⟨w.heap.size, 0, none⟩) n n) (ht : P.underlying t = some (.slice e)) (he : P.underlying e = some (.int .u8))
    (k : ∀ w', View w' (fun b => w.heap.size ≤ b) (some ⟨w.heap.size, 0, none⟩) l.length (u8s l) → Chg none_ w w' → wpList P ops Q rest (a.put o.dst (.slice (some ⟨w.heap.size, 0, none⟩) l.length l.length)) w') : wpList P ops Q (o :: rest) a (w.alloc (.cells (u8s l).toArray e)) :=
  BigFrame.wpList_want hw fun _ hK => wp_bytes_const ho l n hn hx ht he fun w' h1 h2 => hK _ _ (k w' h1 h2)
/-- '[]byte("..")' of a constant that was laid. -/
theorem wp_bytes_mark {K : Act → World → Prop} {t e : TypeId} {x : Operand} (ho : o.op = .convert t t x) {g n c : Nat} {cs : List Value} (hx : a.eval x = .slice (some ⟨g, 0, none⟩) n c) (ht : P.underlying t = some (.slice e)) (he : P.underlying e = some (.int .u8)) (hr : Row w g e cs)
    (k : ∀ w', View w' (fun b => b = g) (some ⟨g, 0, none⟩) cs.length cs → Chg (· = g) w w' → w'.heap.size = w.heap.size → K (a.put o.dst (.slice (some ⟨g, 0, none⟩) n c)) w') : Oper.wp P o a w K Q := by
  have hg : w.heap[g]? = some (.cells cs.toArray e (0, 0)) := hr
  have hsh : w.shape? g = some (e, cs.length) := by
    unfold World.shape?
    rw [hg]
    simp
  have hrun : (convert t t (.slice (some ⟨g, 0, none⟩) n c)).run P w = .ok (.slice (some ⟨g, 0, none⟩) n c) (w.freeze ⟨g, cs.length, none⟩ 1) := by
    simp [convert, run_underlying ht, run_underlying he, markStringish, hsh]
  have hz : (w.freeze ⟨g, cs.length, none⟩ 1).heap.size = w.heap.size := by simp [World.freeze]
  have hb : ∀ i, i ≠ g → (w.freeze ⟨g, cs.length, none⟩ 1).heap[i]? = w.heap[i]? := fun i hi => by
    simp [World.freeze, Array.getElem?_modify, Ne.symm hi]
  have hgg : (w.freeze ⟨g, cs.length, none⟩ 1).heap[g]? = some (.cells cs.toArray e (cs.length, cs.length + 1)) := by
    simp [World.freeze, Array.getElem?_modify, hg]
  unfold Oper.wp execOp
  simp only [ho, hx, Sem.run_bind, Sem.run_pure, hrun, Result.andThen_ok]
  refine k _ ⟨rfl, fun hn => ⟨g, 0, rfl, by rw [hz]; exact hr.lt, rfl, fun j _ => ?_⟩⟩ ⟨by simp [World.freeze], by simp [World.freeze], by simp [World.freeze], by rw [hz]; exact Nat.le_refl _, fun i _ hi => hb i hi⟩ hz
  rw [Go.Joins.cell_of_block hgg]
  simp
theorem wpList_bytes_mark {t e : TypeId} {x : Operand} (ho : o.op = .convert t t x) (hw : Region.wanted o (yielded ops a.tmps) = true) {g n c : Nat} {cs : List Value} (hx : a.eval x = .slice (some ⟨g, 0, none⟩) n c) (ht : P.underlying t = some (.slice e)) (he : P.underlying e = some (.int .u8)) (hr : Row w g e cs)
    (k : ∀ w', View w' (fun b => b = g) (some ⟨g, 0, none⟩) cs.length cs → Chg (· = g) w w' → w'.heap.size = w.heap.size → wpList P ops Q rest (a.put o.dst (.slice (some ⟨g, 0, none⟩) n c)) w') : wpList P ops Q (o :: rest) a w :=
  BigFrame.wpList_want hw fun _ hK => wp_bytes_mark ho hx ht he hr fun w' h1 h2 h3 => hK _ _ (k w' h1 h2 h3)
/-- A literal of bytes, or of slices, is laid. -/
theorem wpList_new_row {v : Nat → Value} {e : TypeId} {cs : List Value} (hw : Region.wanted o (yielded ops a.tmps) = true) (hrun : ∀ w, (execOp a.eval o).run P w = .ok (.value (v w.heap.size)) (w.alloc (.cells cs.toArray e)))
    (k : ∀ w', Row w' w.heap.size e cs → Chg none_ w w' → w'.heap.size = w.heap.size + 1 → wpList P ops Q rest (a.put o.dst (v w.heap.size)) w') : wpList P ops Q (o :: rest) a w :=
  BigFrame.wpList_want hw fun _ hK => wp_new_row hrun fun w' h1 h2 h3 => hK _ _ (k w' h1 h2 h3)
end
end Go.Proofs.Ytbmhoijdbhokaaa
