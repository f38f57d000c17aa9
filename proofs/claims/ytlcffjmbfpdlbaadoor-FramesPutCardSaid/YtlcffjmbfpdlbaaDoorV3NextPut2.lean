/- Layer 3 (frames), plain: a right frame that was put is the one that stands there. -/
import Derived.Test.YtlcffjmbfpdlbaaDoorV3NextPut
namespace Go.Proofs.YtlcffjmbfpdlbaaDoor
open Go.RowKit

/-- The type that a frame is put by tells its kind and its Flag. -/
theorem typ_back : ∀ x ∈ kdL, ∀ (f : Fr), f.kind = (x.1 : Nat) → (f.flag = true → x.2.flagged = true) → kindM (typM f) = x.1 ∧ (x.2.flagged && decide (typM f % 2 = 1)) = f.flag := by
  intro x hx f hk hf
  obtain ⟨k, i, a, b, c, fl, dt, rg, tk⟩ := f
  simp only at hk hf
  subst hk
  simp only [kdL, List.mem_cons, List.not_mem_nil, or_false] at hx
  by_cases ha : a = 0
  · subst ha
    rcases hx with rfl | rfl | rfl | rfl | rfl | rfl | rfl | rfl | rfl | rfl | rfl | rfl | rfl | rfl | rfl | rfl | rfl | rfl | rfl | rfl
    all_goals cases fl
    all_goals first | (exfalso; revert hf; decide) | (constructor <;> simp [typM, kindM])
  · rcases hx with rfl | rfl | rfl | rfl | rfl | rfl | rfl | rfl | rfl | rfl | rfl | rfl | rfl | rfl | rfl | rfl | rfl | rfl | rfl | rfl
    all_goals cases fl
    all_goals first | (exfalso; revert hf; decide) | (constructor <;> simp [typM, kindM, ha])
/-- A right frame that was put is the one that stands there, and what stands behind it is left. -/
theorem next_put (f : Fr) (of : f.Ok) (_ht : f.tok.length = 16) (hr : rightB f = true) (l : List Nat) (hF : Follow f (partsOf f) l) : nextM (putM f ++ l, 0) = (f, (l, 0)) := by
  unfold putM
  rw [if_pos hr]
  unfold rightB at hr
  unfold partsOf at hF ⊢
  cases hd : kdM (keyM f.kind) with
  | none => rw [hd] at hr; simp at hr
  | some d =>
    rw [hd] at hr hF
    simp only at hr hF ⊢
    have hsm := keyM_small f.kind of.k0 of.k1 (kdM_lt hd)
    have hw := has_whole hr
    have htM := typM_lt f (by omega)
    have hx := hd
    unfold kdM at hx
    simp only [Option.map_eq_some_iff] at hx
    obtain ⟨x, hx, rfl⟩ := hx
    have hk1 := List.find?_some hx
    have hk2 : x.1 = keyM f.kind := by simpa using hk1
    have htb := typ_back x (List.mem_of_find?_eq_some hx) f (by omega) hw.1
    rw [List.append_assoc]
    unfold nextM
    rw [rdInt_enc _ (by omega)]
    simp only [if_true]
    rw [htb.1, hk2, hd]
    simp only
    rw [htb.2, show ((keyM f.kind : Nat) : Int) = f.kind from by omega, all_back f l _ _ hF rfl, hw.2]
    simp only
    rw [if_pos ⟨trivial, hr⟩]
end Go.Proofs.YtlcffjmbfpdlbaaDoor
