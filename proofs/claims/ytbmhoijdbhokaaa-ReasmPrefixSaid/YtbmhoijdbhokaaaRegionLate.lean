/- Own words, over any program: a region that draws its order, whose last operation ends what the others may lean on. -/
import Derived.Deep.RegionHeld3
namespace Go.Proofs.Ytbmhoijdbhokaaa
open Go

section
variable {P : Program} {ops : Array Oper} {Q : Exit → Act → World → Prop} {md : Region.Mode} {S : World → Prop} {f : Nat}

/-- In whatever order: behind each operation but f, S holds. -/
def WpLate (P : Program) (md : Region.Mode) (ops : Array Oper) (Q : Exit → Act → World → Prop) (S : World → Prop) (f : Nat) : Nat → Array Bool → Act → World → Prop
  | 0, l, a, w => Region.ready md ops l = [] ∧ Q .normal a w
  | n + 1, l, a, w => (Region.ready md ops l = [] → Q .normal a w) ∧ ∀ i ∈ Region.ready md ops l, wpOp P ops Q i (fun a' w' => (i = f ∨ S w') ∧ WpLate P md ops Q S f n (l.setIfInBounds i true) a' w') a w

theorem WpLate.any : ∀ {n : Nat} {l : Array Bool} {a : Act} {w : World}, WpLate P md ops Q S f n l a w → wpAny P md ops Q n l a w
  | 0, _, _, _, h => h
  | _ + 1, _, _, _, h => ⟨h.1, fun i hi => wpOp_mono (fun _ _ k => k.2.any) (h.2 i hi)⟩

theorem unlisted {l : Array Bool} {x : Nat} (h : l.getD x true = false) : l.getD x false = false := by
  rcases Nat.lt_or_ge x l.size with k | k
  · simpa [k] using h
  · simp [Array.getElem?_eq_none k] at h

/-- These wait for i, each for it or for one of them. -/
def Waits (md : Region.Mode) (ops : Array Oper) (i : Nat) (C : List Nat) : Prop := ∀ c ∈ C, c ≠ i ∧ ∃ o, ops[c]? = some o ∧ ∃ e ∈ o.after, Region.binds md e = true ∧ (e.on = i ∨ e.on ∈ C)

theorem Waits.out {i j : Nat} {C : List Nat} {l : Array Bool} (h : Waits md ops i C) (hl : ∀ c ∈ C, l.getD c true = false) (hi : l.getD i true = false) (hj : j ∈ Region.ready md ops l) : j ∉ C := fun hc => by
  obtain ⟨_, o, ho, e, he, hb, hon⟩ := h j hc
  obtain ⟨_, o', ho', hall⟩ := mem_ready.1 hj
  rw [ho] at ho'
  injection ho' with ho'
  subst ho'
  have k1 := hall e he hb
  have k2 : l.getD e.on false = false := by
    rcases hon with hon | hon
    · rw [hon]; exact unlisted hi
    · exact unlisted (hl _ hon)
  rw [k1] at k2
  cases k2

theorem late_first {i : Nat} {oi : Oper} {v : Value} {C : List Nat} (hi : ops[i]? = some oi) (hns : Region.noSelect ops = true) (hQ : ∀ c a w, Q (.panic c) (a.put oi.dst v) w → Q (.panic c) a w) (hW : Waits md ops i C) (hf : f ∈ C) :
    ∀ (n : Nat) (l : Array Bool) (a : Act) (w : World), (∀ c ∈ C, l.getD c true = false) →
      (∀ j oj, ops[j]? = some oj → j ≠ i → l.getD j true = false → (∀ e ∈ oj.after, Region.binds md e = true → e.on ≠ i) → oi.apart ops oj = true) →
      i ∈ Region.ready md ops l → YieldsIf P ops S oi v a → S w → WpLate P md ops Q S f n (l.setIfInBounds i true) (a.put oi.dst v) w → WpLate P md ops Q S f (n + 1) l a w := by
  intro n
  induction n with
  | zero =>
    intro l a w hl _ hr hy hS h
    refine ⟨fun e => absurd hr (by rw [e]; exact List.not_mem_nil), fun j hj => ?_⟩
    rcases Nat.decEq j i with hne | rfl
    · exact absurd (ready_mono hj hne) (by rw [h.1]; exact List.not_mem_nil)
    · exact hy.wpOp hi hS ⟨.inr hS, h⟩
  | succ n ih =>
    intro l a w hl hfree hr hy hS h
    refine ⟨fun e => absurd hr (by rw [e]; exact List.not_mem_nil), fun j hj => ?_⟩
    rcases Nat.decEq j i with hne | rfl
    · have hi0 : l.getD i true = false := (mem_ready.1 hr).1
      have hjC := hW.out hl hi0 hj
      obtain ⟨hj0, oj, hoj, hall⟩ := mem_ready.1 hj
      have hno : ∀ e ∈ oj.after, Region.binds md e = true → e.on ≠ i := fun e he hb hon => by
        have k1 := hall e he hb
        rw [hon, unlisted hi0] at k1
        cases k1
      have k := wpOp_putIf hoj (hfree j oj hoj hne hj0 hno) (fun cs b => Region.noSelect_spec hns i oi cs b hi) (fun cs b => Region.noSelect_spec hns j oj cs b hoj) hQ hy (h.2 j (ready_mono hj hne))
      refine wpOp_mono (fun a' w' k => ?_) k
      have hS' : S w' := k.2.1.resolve_left (fun e => hjC (e ▸ hf))
      refine ⟨.inr hS', ih _ _ _ (fun c hc => ?_) (fun x ox hox hxi hx0 hxn => hfree x ox hox hxi ?_ hxn) (ready_mono hr (Ne.symm hne)) k.1 hS' ?_⟩
      · rw [getD_set_ne true (fun (e : j = c) => hjC (by rw [e]; exact hc))]
        exact hl c hc
      · rcases Nat.decEq j x with hjx | rfl
        · rwa [getD_set_ne true hjx] at hx0
        · exact hj0
      · rw [Array.setIfInBounds_comm _ _ hne]
        exact k.2.2
    · exact hy.wpOp hi hS ⟨.inr hS, h⟩

/-- The side condition, to be reckoned. -/
def waitsB (md : Region.Mode) (ops : Array Oper) (l : Array Bool) (i f : Nat) (C : List Nat) : Bool :=
  C.contains f && C.all fun c => c != i && !(l.getD c true) && match ops[c]? with
    | some o => o.after.any fun e => Region.binds md e && (e.on == i || C.contains e.on)
    | none => false
theorem waitsB_spec {l : Array Bool} {i : Nat} {C : List Nat} (h : waitsB md ops l i f C = true) : f ∈ C ∧ (∀ c ∈ C, l.getD c true = false) ∧ Waits md ops i C := by
  unfold waitsB at h
  rw [Bool.and_eq_true, List.all_eq_true] at h
  refine ⟨by simpa using h.1, fun c hc => ?_, fun c hc => ?_⟩
  · have k := h.2 c hc
    simp only [Bool.and_eq_true, Bool.not_eq_true'] at k
    exact k.1.2
  · have k := h.2 c hc
    simp only [Bool.and_eq_true, Bool.not_eq_true', bne_iff_ne] at k
    refine ⟨k.1.1, ?_⟩
    cases ho : ops[c]? with
    | none => rw [ho] at k; simp at k
    | some o =>
      rw [ho] at k
      obtain ⟨e, he, k⟩ := Array.any_eq_true'.1 k.2
      simp only [Bool.and_eq_true, Bool.or_eq_true, beq_iff_eq, List.contains_iff_mem] at k
      exact ⟨o, rfl, e, he, k⟩

/-- Number i is taken first. -/
theorem late_take {i : Nat} {oi : Oper} {v : Value} {n : Nat} {l : Array Bool} {a : Act} {w : World} (C : List Nat) (hi : ops[i]? = some oi) (hns : Region.noSelect ops = true) (hf : Region.free md ops l i = true) (hr : (Region.ready md ops l).contains i = true)
    (hC : waitsB md ops l i f C = true) (hQ : ∀ c a w, Q (.panic c) (a.put oi.dst v) w → Q (.panic c) a w) (hy : YieldsIf P ops S oi v a) (hS : S w) (h : WpLate P md ops Q S f n (l.setIfInBounds i true) (a.put oi.dst v) w) : WpLate P md ops Q S f (n + 1) l a w :=
  late_first hi hns hQ (waitsB_spec hC).2.2 (waitsB_spec hC).1 n l a w (waitsB_spec hC).2.1 (fun j oj => Region.free_spec hi hf j oj) (by simpa using hr) hy hS h

/-- One alone may come up. -/
theorem late_one {i : Nat} {o : Oper} {n : Nat} {l : Array Bool} {a : Act} {w : World} (hr : Region.ready md ops l = [i]) (ho : ops[i]? = some o)
    (h : ∀ K' : Act → World → Prop, Shut (∀ a w, S w → WpLate P md ops Q S f n (l.setIfInBounds i true) a w → K' a w) → if Region.wanted o (yielded ops a.tmps) = true then Oper.wp P o a w K' Q else K' (a.put o.dst undef) w) : WpLate P md ops Q S f (n + 1) l a w :=
  ⟨fun e => (by rw [hr] at e; cases e), fun j hj => by
    rw [hr, List.mem_singleton] at hj
    subst hj
    exact wpOp_step ho fun K' hK => h K' fun a w hS k => hK a w ⟨.inr hS, k⟩⟩
/-- Either of two may. -/
theorem late_two {i j : Nat} {o o' : Oper} {n : Nat} {l : Array Bool} {a : Act} {w : World} (hr : Region.ready md ops l = [i, j]) (ho : ops[i]? = some o) (ho' : ops[j]? = some o')
    (h : ∀ K' : Act → World → Prop, Shut (∀ a w, S w → WpLate P md ops Q S f n (l.setIfInBounds i true) a w → K' a w) → if Region.wanted o (yielded ops a.tmps) = true then Oper.wp P o a w K' Q else K' (a.put o.dst undef) w)
    (h' : ∀ K' : Act → World → Prop, Shut (∀ a w, S w → WpLate P md ops Q S f n (l.setIfInBounds j true) a w → K' a w) → if Region.wanted o' (yielded ops a.tmps) = true then Oper.wp P o' a w K' Q else K' (a.put o'.dst undef) w) : WpLate P md ops Q S f (n + 1) l a w :=
  ⟨fun e => (by rw [hr] at e; cases e), fun x hx => by
    rw [hr, List.mem_cons, List.mem_singleton] at hx
    rcases hx with rfl | rfl
    · exact wpOp_step ho fun K' hK => h K' fun a w hS k => hK a w ⟨.inr hS, k⟩
    · exact wpOp_step ho' fun K' hK => h' K' fun a w hS k => hK a w ⟨.inr hS, k⟩⟩
/-- The last one. -/
theorem late_last {o : Oper} {n : Nat} {l : Array Bool} {a : Act} {w : World} (hr : Region.ready md ops l = [f]) (ho : ops[f]? = some o) (hd : Region.ready md ops (l.setIfInBounds f true) = [])
    (h : ∀ K' : Act → World → Prop, Shut (∀ a w, Q .normal a w → K' a w) → if Region.wanted o (yielded ops a.tmps) = true then Oper.wp P o a w K' Q else K' (a.put o.dst undef) w) : WpLate P md ops Q S f (n + 1) l a w :=
  ⟨fun e => (by rw [hr] at e; cases e), fun j hj => by
    rw [hr, List.mem_singleton] at hj
    subst hj
    exact wpOp_step ho fun K' hK => h K' fun a w hq => hK a w ⟨.inl rfl, by cases n <;> exact ⟨by first | exact hd | exact fun _ => hq, by first | exact hq | (rw [hd]; intro i hi; cases hi)⟩⟩⟩
theorem wp_region_late {id : Nat} {a : Act} {w : World} (S : World → Prop) (f : Nat) (hm : P.follows .mixedOrders = true) (h : WpLate P .any ops Q S f ops.size (Array.replicate ops.size false) a w.drew) : (Code.region id ops true).wp P Q a w :=
  wp_region_any hm h.any
end
end Go.Proofs.Ytbmhoijdbhokaaa
