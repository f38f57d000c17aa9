/- slices.Concat of a few slices that were just laid; varint.Put's bytes as a slice in view. -/
import Derived.Test.YthoiiibcceacnaaDoorConcat
import Derived.Test.YthoiiibcceacnaaDoorV1Math
namespace Go.Proofs.YthoiiibcceacnaaDoor
open Go.RowKit

/-- Concat of a list that was just laid. -/
theorem cat_new (w : World) (T : Nat → Prop) (vs : List Value) (ls : List (List Nat)) (hl : vs.length = ls.length)
    (hx : ∀ i (_ : i < vs.length), ∃ A' c', vs[i]? = some (.slice A' (ls.getD i []).length c') ∧ View w T A' (ls.getD i []).length (u8s (ls.getD i []))) (ht : total ls ≤ 1000000) (hn : vs.length ≤ 1000) :
    Calls Tryd.prog 20 #[.slice (some ⟨w.heap.size, 0, none⟩) vs.length vs.length] (w.alloc (.cells vs.toArray 29)) (BytesNew w ls.flatten) := by
  have ha := (Chg.refl none_ w).alloc (.cells vs.toArray 29)
  have hv := View.row (T := fun _ => True) (Row.new w 29 vs) (n := vs.length) (Nat.le_refl _) trivial
  rw [List.take_length] at hv
  refine (concat_any (w.alloc (.cells vs.toArray 29)) (fun _ => True) _ vs.length vs ls hv hl (fun i hi => ?_) ht hn).mono fun e w' h => ?_
  · obtain ⟨A', c', h1, h2⟩ := hx i hi
    exact ⟨A', c', h1, (h2.chg ha (fun _ _ h => h)).mono (fun _ _ _ => trivial)⟩
  · obtain ⟨A, cap, h1, h2, h3⟩ := h
    exact ⟨A, cap, h1, h2.mono (fun _ _ hb => Nat.le_trans ha.size hb), ha.trans h3⟩

/-- One slice of bytes in view. -/
structure Slc (w : World) (A : Option Addr) (l : List Nat) : Prop where
  v : View w (fun _ => True) A l.length (u8s l)
theorem Slc.chg {w w' : World} {A : Option Addr} {l : List Nat} (h : Slc w A l) (hc : Chg none_ w w') : Slc w' A l := ⟨h.v.chg hc (fun _ _ h => h)⟩

theorem cat4 (w : World) (A1 A2 A3 A4 : Option Addr) (c1 c2 c3 c4 : Nat) (l1 l2 l3 l4 : List Nat) (h1 : Slc w A1 l1) (h2 : Slc w A2 l2) (h3 : Slc w A3 l3) (h4 : Slc w A4 l4) (ht : l1.length + (l2.length + (l3.length + l4.length)) ≤ 1000000) :
    Calls Tryd.prog 20 #[.slice (some ⟨w.heap.size, 0, none⟩) 4 4] (w.alloc (.cells #[.slice A1 l1.length c1, .slice A2 l2.length c2, .slice A3 l3.length c3, .slice A4 l4.length c4] 29)) (BytesNew w (l1 ++ (l2 ++ (l3 ++ l4)))) := by
  have := cat_new w (fun _ => True) [.slice A1 l1.length c1, .slice A2 l2.length c2, .slice A3 l3.length c3, .slice A4 l4.length c4] [l1, l2, l3, l4] rfl (fun i hi => by
    match i, hi with
    | 0, _ => exact ⟨A1, c1, rfl, h1.v⟩
    | 1, _ => exact ⟨A2, c2, rfl, h2.v⟩
    | 2, _ => exact ⟨A3, c3, rfl, h3.v⟩
    | 3, _ => exact ⟨A4, c4, rfl, h4.v⟩) (by simp [total]; omega) (by simp)
  simpa using this

/-- varint.Put, as a slice. -/
def PutSlc (w : World) (n : Nat) (e : Ending) (w' : World) : Prop := ∃ A c, e = .returned (.slice A (wideB n (szN n)).length c) ∧ Slc w' A (wideB n (szN n)) ∧ Chg none_ w w'
theorem putSlc (n : Nat) (w : World) (hT : Tab w) : Calls Tryd.prog 21 #[.int .u64 n] w (PutSlc w n) := by
  refine (put_any n w hT).mono ?_
  rintro e w' ⟨v, rfl, hv⟩
  obtain ⟨A, c, rfl, h⟩ := hv.view
  exact ⟨A, c, rfl, ⟨h.mono (fun _ _ _ => trivial)⟩, hv.1⟩
end Go.Proofs.YthoiiibcceacnaaDoor
