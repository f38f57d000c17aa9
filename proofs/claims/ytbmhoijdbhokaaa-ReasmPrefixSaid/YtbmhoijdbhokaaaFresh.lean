/- Bytes in memory of one's own that are handed back, and may be appended to. -/
import Derived.Test.YtbmhoijdbhokaaaProg
import Derived.Test.YtbmhoijdbhokaaaBase
import Derived.Test.YtbmhoijdbhokaaaBytes
namespace Go.Proofs.Ytbmhoijdbhokaaa
open Go.RowKit

theorem own_base {w : World} {base base' n : Nat} {e : TypeId} {v : Value} {xs : List Value} (h : w.ownsRow base e 1 v n xs) (hb : base' ≤ base) : w.ownsRow base' e 1 v n xs := by
  refine ⟨h.1, ?_⟩
  rcases h.2 with h2 | ⟨g, cap, cur, h1, hg, h2⟩
  · exact .inl h2
  · exact .inr ⟨g, cap, cur, h1, Nat.le_trans hb hg, h2⟩

/-- Bytes in memory of one's own. -/
structure Fresh (w : World) (base : Nat) (A : Option Addr) (cap : Nat) (l : List Nat) : Prop where
  view : View w (fun b => base ≤ b) A l.length (u8s l)
  own : w.ownsRow base 5 1 (.slice A l.length cap) l.length (u8s l)
theorem Fresh.base {w : World} {base base' : Nat} {A : Option Addr} {cap : Nat} {l : List Nat} (h : Fresh w base A cap l) (hb : base' ≤ base) : Fresh w base' A cap l :=
  ⟨h.view.mono (fun _ _ k => Nat.le_trans hb k), own_base h.own hb⟩
theorem Fresh.nil (w : World) (base : Nat) : Fresh w base none 0 [] := ⟨View.none_ _ _ _, World.ownsRow_nil _ _ _ _⟩

/-- The answer's bytes, in view: new memory, or nil. -/
def GotBytes (w : World) (l : List Nat) (e : Ending) (w' : World) : Prop :=
  ∃ A cap, e = .returned (.slice A l.length cap) ∧ Fresh w' w.heap.size A cap l ∧ Chg none_ w w'

theorem own_chg {w w' : World} {S : Nat → Prop} {base n : Nat} {e : TypeId} {v : Value} {xs : List Value} (h : w.ownsRow base e 1 v n xs) (hc : Chg S w w') (hs : ∀ b, base ≤ b → ¬ S b) : w'.ownsRow base e 1 v n xs := by
  refine ⟨h.1, ?_⟩
  rcases h.2 with h2 | ⟨g, cap, cur, h1, hb, h2, h3⟩
  · exact .inl h2
  · exact .inr ⟨g, cap, cur, h1, hb, (hc.block g (Array.getElem?_eq_some_iff.1 h2).1 (hs g hb)).trans h2, h3⟩

theorem got_row {w w' : World} {g n : Nat} {l : List Nat} (hc : Chg none_ w w') (hr : Row w' g 5 (u8s l)) (hg : w.heap.size ≤ g) (hn : n = l.length) (hm : n ≤ maxLen) : GotBytes w l (.returned (.slice (some ⟨g, 0, none⟩) n n)) w' := by
  subst hn
  have := View.row (T := fun b => w.heap.size ≤ b) hr (n := l.length) (by simp) hg
  rw [List.take_of_length_le (by simp)] at this
  exact ⟨_, l.length, rfl, ⟨this, own_of_row hr hg (by simp) hm⟩, hc⟩

end Go.Proofs.Ytbmhoijdbhokaaa
