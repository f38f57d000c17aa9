/- Own words, over any program: a region that draws its order, whose operations only read, and whose callees leave all that was as it was (they may draw, and lay blocks): walked once, in the order of the text, by the kit's 'quiet_step'. -/
import Derived.Test.YtlakhfbhbebojaaBase
import Derived.Deep.QuietTactic
namespace Go.Proofs.Ytlakhfbhbebojaa
open Go

/-- A world in which all stands that stood in w. -/
structure Past (w : World) where
  now : World
  chg : Chg none_ w now
instance (w : World) : Nonempty (Past w) := ⟨⟨w, Chg.refl _ _⟩⟩
theorem wp_region_quiet_past {P : Program} {id : Nat} {Q : Exit → Act → World → Prop} {a : Act} {w : World} {l : List Oper} (hm : P.follows .mixedOrders = true) (hB : Region.lexB .any l.toArray = true)
    (h : wpQuiet P l.toArray (fun w' => ∃ p : Past w, w' = p.now) (fun a' => ∀ w', (∃ p : Past w, w' = p.now) → Q .normal a' w') l a) : (Code.region id l.toArray true).wp P Q a w :=
  wp_region_quiet (C := fun w' => ∃ p : Past w, w' = p.now) hm hB ⟨⟨w.drew, (Chg.refl none_ w).drew⟩, rfl⟩ (by simpa using h)
/-- A callee's contract in a world of the class. -/
theorem Calls.past_of {P : Program} {f : FuncId} {args : Array Value} {w : World} {p : Past w} {v : Value}
    (h : Calls P f args p.now fun e w' => e = .returned v ∧ Chg none_ p.now w') : Calls P f args p.now fun e w'' => e = .returned v ∧ ∃ p : Past w, w'' = p.now :=
  h.mono fun _ w' ⟨he, hc⟩ => ⟨he, ⟨w', p.chg.trans hc⟩, rfl⟩
theorem Calls.past_same {P : Program} {f : FuncId} {args : Array Value} {w : World} {p : Past w} {v : Value}
    (h : Calls P f args p.now fun e w' => e = .returned v ∧ w' = p.now) : Calls P f args p.now fun e w'' => e = .returned v ∧ ∃ p : Past w, w'' = p.now :=
  h.mono fun _ _ ⟨he, hc⟩ => ⟨he, p, hc⟩
end Go.Proofs.Ytlakhfbhbebojaa
