/- Layer 3 (frames), plain: a right frame's bytes: how many, and that they are bytes. -/
import Derived.Test.YtlcffjmbfpdlbaaDoorV3TwoM
namespace Go.Proofs.YtlcffjmbfpdlbaaDoor
open Go.RowKit

theorem encI_lt (n : Nat) : ∀ x ∈ encI n, x < 256 := wideB_lt n
theorem aheadM_lt (p : Part) (n : Nat) : ∀ x ∈ aheadM p n, x < 256 := by
  cases p
  all_goals first
    | exact encI_lt n
    | (intro x hx; simp [aheadM] at hx; omega)
    | (intro x hx; simp [aheadM] at hx)
theorem mem_app {l m : List Nat} (h1 : ∀ x ∈ l, x < 256) (h2 : ∀ x ∈ m, x < 256) : ∀ x ∈ l ++ m, x < 256 := fun x hx => by
  rcases List.mem_append.1 hx with h | h
  · exact h1 x h
  · exact h2 x h
theorem ackRest_lt : ∀ (l : List (Nat × Nat)) (lo : Nat), ∀ x ∈ ackRest lo l, x < 256
  | [], _ => by intro x hx; cases hx
  | y :: l, lo => by
    unfold ackRest
    exact mem_app (encI_lt _) (mem_app (encI_lt _) (ackRest_lt l _))
theorem ackBytes_lt (l : List (Nat × Nat)) (b : Nat) : ∀ x ∈ ackBytes l b, x < 256 := by
  cases l with
  | nil => intro x hx; cases hx
  | cons y l => exact mem_app (encI_lt _) (mem_app (encI_lt _) (mem_app (encI_lt _) (mem_app (encI_lt _) (ackRest_lt l _))))
theorem putP_lt (p : Part) (f : Fr) (of : f.Ok) : ∀ x ∈ putP p f, x < 256 := by
  cases p
  case acked => exact ackBytes_lt _ _
  case token => exact of.tok
  case zeros => intro x hx; rw [List.eq_of_mem_replicate hx]; omega
  case dropped => intro x hx; cases hx
  all_goals first
    | exact encI_lt _
    | exact mem_app (aheadM_lt _ _) of.data
theorem putM_lt (f : Fr) (of : f.Ok) : ∀ x ∈ putM f, x < 256 := by
  unfold putM
  split
  · refine mem_app (encI_lt _) ?_
    intro x hx
    unfold putAll at hx
    obtain ⟨p, _, hp⟩ := List.mem_flatMap.1 hx
    exact putP_lt p f of x hp
  · intro x hx; cases hx
theorem ackRest_len16 : ∀ (l : List (Nat × Nat)) (lo : Nat), (ackRest lo l).length ≤ 16 * l.length
  | [], _ => Nat.le_refl _
  | y :: l, lo => by
    unfold ackRest
    have h1 := encI_len (lo - y.2 - 2)
    have h2 := encI_len (y.2 - y.1)
    have h3 := ackRest_len16 l y.1
    simp only [List.length_append, List.length_cons]
    omega
theorem ack_small (f : Fr) (h : apart f.ranges) : (putP .acked f).length ≤ 1300 := by
  have h16 := h.2.1
  show (ackBytes f.ranges f.b).length ≤ 1300
  unfold ackBytes
  split
  · exact Nat.zero_le _
  · rename_i x xs hx
    rw [hx] at h16
    have h1 := encI_len x.2
    have h2 := encI_len f.b
    have h3 := encI_len xs.length
    have h4 := encI_len (x.2 - x.1)
    have h5 := ackRest_len16 xs x.1
    simp only [List.length_cons] at h16
    simp only [List.length_append]
    omega
theorem data_small (p : Part) (f : Fr) (h : f.data.length ≤ 1200) : (aheadM p f.data.length ++ f.data).length ≤ 1300 := by
  have := aheadM_len p f.data.length
  rw [List.length_append]
  omega
theorem parts_small {f : Fr} (of : f.Ok) (ht : f.tok.length = 16) (hr : rightB f = true) : ∀ p ∈ partsOf f, (putP p f).length ≤ 1300 := by
  unfold rightB at hr
  unfold partsOf
  cases hd : kdM (keyM f.kind) with
  | none => intro p hp; cases hp
  | some d =>
    rw [hd] at hr
    simp only at hr ⊢
    have hsm := keyM_small f.kind of.k0 of.k1 (kdM_lt hd)
    have hfl := (has_whole hr).1
    have hx := hd
    unfold kdM at hx
    simp only [Option.map_eq_some_iff] at hx
    obtain ⟨x, hx, rfl⟩ := hx
    have hk1 := List.find?_some hx
    have hk2 : f.kind = (x.1 : Nat) := by
      have : x.1 = keyM f.kind := by simpa using hk1
      omega
    have hm := List.mem_of_find?_eq_some hx
    simp only [hasB, Bool.and_eq_true, decide_eq_true_eq] at hr
    obtain ⟨⟨b1, b2, b3, b4⟩, _, hfit⟩ := hr
    clear hx hk1 hd hsm
    simp only [kdL, List.mem_cons, List.not_mem_nil, or_false] at hm
    have hs8 := typ_stream f
    have ha2 := typ_ack f
    rcases hm with rfl | rfl | rfl | rfl | rfl | rfl | rfl | rfl | rfl | rfl | rfl | rfl | rfl | rfl | rfl | rfl | rfl | rfl | rfl | rfl
    all_goals simp only at hk2 hfl hfit
    all_goals intro p hp
    case inr.inr.inl =>
      have h0 : f.flag = false := by cases h : f.flag <;> simp_all
      simp only [PF.parts, ackParts, ha2 hk2 h0] at hp
      simp at hp
      subst hp
      simp only [fitsB] at hfit
      simp at hfit
      exact ack_small f hfit
    all_goals cases p
    all_goals first
      | (exfalso; simp [PF.parts] at hp; done)
      | (exfalso; simp only [PF.parts, closeParts] at hp; split at hp <;> simp at hp; done)
      | (exfalso; simp only [PF.parts, streamParts, hs8 hk2, if_true] at hp; split at hp <;> simp at hp; done)
      | exact Nat.le_trans (encI_len _) (by decide)
      | (show f.tok.length ≤ 1300; omega)
      | (simp only [fitsB] at hfit; simp at hfit; show (List.replicate (f.a - 1) 0).length ≤ 1300; rw [List.length_replicate]; omega)
      | (simp only [fitsB] at hfit; simp at hfit; exact data_small _ f (by omega))
theorem flat_len (f : Fr) : ∀ ps : List Part, (∀ p ∈ ps, (putP p f).length ≤ 1300) → (putAll ps f).length ≤ 1300 * ps.length
  | [], _ => Nat.le_refl _
  | p :: ps, h => by
    have h1 := h p (by simp)
    have h2 := flat_len f ps (fun q hq => h q (by simp [hq]))
    show (putP p f ++ putAll ps f).length ≤ _
    rw [List.length_append, List.length_cons]
    omega
/-- A right frame has few bytes. -/
theorem putM_small {f : Fr} (of : f.Ok) (ht : f.tok.length = 16) (hr : rightB f = true) : (putM f).length ≤ 1000000 := by
  have h1 := flat_len f (partsOf f) (parts_small of ht hr)
  have h2 := encI_len (typM f)
  have h3 : (partsOf f).length ≤ 100 := by
    unfold partsOf
    cases hd : kdM (keyM f.kind) with
    | none => exact Nat.zero_le _
    | some d => exact Nat.le_trans (parts_len d (kdM_good hd) (typM f)) (by decide)
  unfold putM
  rw [if_pos hr, List.length_append]
  omega
end Go.Proofs.YtlcffjmbfpdlbaaDoor
