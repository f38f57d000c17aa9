/- Layer 4 (header), plain: what is cut off is none. -/
import Derived.Test.YtfecmloaopbogaaDoorV4Rest
namespace Go.Proofs.YtfecmloaopbogaaDoor
open Go.RowKit

theorem rdByte_bad : rdByte ([], 2) = (0, ([], 2)) := by simp [rdByte]
theorem rdBytes_bad (n : Nat) : rdBytes n ([], 2) = ([], ([], 2)) := by simp [rdBytes]
theorem rdInt_bad : rdInt ([], 2) = (0, ([], 2)) := by simp [rdInt]

/-- A part of known length is read of what was cut: it is there, or the reader is bad. -/
theorem rdBytes_cut (n : Nat) (l r : List Nat) (hl : l.length = n) (k : Nat) (hk : k < (l ++ r).length) :
    (n ≤ k ∧ rdBytes n ((l ++ r).take k, 0) = (l, (r.take (k - n), 0)) ∧ k - n < r.length) ∨ rdBytes n ((l ++ r).take k, 0) = ([], ([], 2)) := by
  subst hl
  rw [List.length_append] at hk
  by_cases h : l.length ≤ k
  · refine .inl ⟨h, ?_, by omega⟩
    rw [List.take_append, List.take_of_length_le h]
    exact rdBytes_ap _ _ _ rfl
  · refine .inr ?_
    unfold rdBytes
    simp only [ne_eq, not_true_eq_false, if_false]
    rw [if_neg (by rw [List.length_take, List.length_append]; omega)]
theorem rdByte_cut (b : Nat) (r : List Nat) (k : Nat) (hk : k < (b :: r).length) :
    (1 ≤ k ∧ rdByte ((b :: r).take k, 0) = (b, (r.take (k - 1), 0)) ∧ k - 1 < r.length) ∨ rdByte ((b :: r).take k, 0) = (0, ([], 2)) := by
  cases k with
  | zero => exact .inr (by simp [rdByte])
  | succ k => exact .inl ⟨by omega, by rw [List.take_succ_cons, rdByte_cons]; rfl, by simp at hk; omega⟩
theorem rdInt_cut (n : Nat) (hn : n < 4611686018427387904) (r : List Nat) (k : Nat) (hk : k < (enI n ++ r).length) :
    ((enI n).length ≤ k ∧ rdInt ((enI n ++ r).take k, 0) = (n, (r.take (k - (enI n).length), 0)) ∧ k - (enI n).length < r.length) ∨ rdInt ((enI n ++ r).take k, 0) = (0, ([], 2)) := by
  rw [List.length_append] at hk
  by_cases h : (enI n).length ≤ k
  · refine .inl ⟨h, ?_, by omega⟩
    rw [List.take_append, List.take_of_length_le h]
    exact rdInt_en n hn _
  · refine .inr ?_
    obtain ⟨h1, h2, h3⟩ := wideB_put n hn
    obtain ⟨f, q, e, _, _, h6, _⟩ := back_math n (szN n) h2 h3 []
    have ee : enI n = f :: q := by unfold enI; rw [h1]; simpa using e
    rw [ee] at h ⊢
    cases k with
    | zero => simp [rdInt]
    | succ k =>
      simp only [List.length_cons] at h
      rw [List.cons_append, List.take_succ_cons]
      unfold rdInt
      simp only [ne_eq, not_true_eq_false, if_false]
      rw [if_neg (by rw [List.length_take, List.length_append, h6]; omega)]

section
variable {h : Hd}
/-- Once the reader is bad by 2 ahead of the integer, all of it is. -/
theorem long_bad (p : Hd) (size : Nat) (h1 : 1 ≤ size) (s : St) (hb : (tokM p (rdBytes (rdByte (whoM p s).2).1 (rdByte (whoM p s).2).2).2).2 = ([], 2)) : (longM p size s).2 = ([], 2) := by
  unfold longM
  simp only
  rw [hb, rdInt_bad]
  simp only
  rw [if_pos (by omega)]
  simp [failSt]

theorem tok_bad (p : Hd) : (tokM p ([], 2)).2 = ([], 2) := by
  unfold tokM
  split
  · rw [rdInt_bad]; simp only; rw [rdBytes_bad]
  · rfl

theorem who_bad (p : Hd) (s : St) (hb : (rdByte (rdBytes 4 s).2).2 = ([], 2)) : (whoM p s).2 = ([], 2) := by
  unfold whoM
  simp only
  rw [hb, rdBytes_bad]
theorem who_cut (p : Hd) (ho : h.Ok) (R : List Nat) (k : Nat) (hk : k < (arr h.version 4 4 ++ (h.dst.length :: (h.dst ++ R))).length) :
    (∃ k', whoM p ((arr h.version 4 4 ++ (h.dst.length :: (h.dst ++ R))).take k, 0) = ({ p with version := h.version, dst := h.dst }, (R.take k', 0)) ∧ k' < R.length) ∨ (whoM p ((arr h.version 4 4 ++ (h.dst.length :: (h.dst ++ R))).take k, 0)).2 = ([], 2) := by
  rcases rdBytes_cut 4 _ _ (arr_len h.version 4 4) k hk with ⟨_, e1, l1⟩ | e1
  · rcases rdByte_cut _ _ _ l1 with ⟨_, e2, l2⟩ | e2
    · rcases rdBytes_cut h.dst.length _ _ rfl _ l2 with ⟨_, e3, l3⟩ | e3
      · refine .inl ⟨_, ?_, l3⟩
        unfold whoM
        simp only
        rw [e1]
        simp only
        rw [e2]
        simp only
        rw [e3, ver_back _ ho.v1]
      · refine .inr ?_
        unfold whoM
        simp only
        rw [e1]
        simp only
        rw [e2]
        simp only
        rw [e3]
    · exact .inr (who_bad _ _ (by rw [e1]; simp only; rw [e2]))
  · exact .inr (who_bad _ _ (by rw [e1, rdByte_bad]))
theorem tok_cut (F : RightF h) (p : Hd) (hp : p.kind = h.kind) (hpt : p.token = []) (R : List Nat) (k : Nat) (hk : k < ((if h.kind = 0 then enI h.token.length ++ h.token else []) ++ R).length) :
    (∃ k', tokM p (((if h.kind = 0 then enI h.token.length ++ h.token else []) ++ R).take k, 0) = (h.token, (R.take k', 0)) ∧ k' < R.length) ∨ (tokM p (((if h.kind = 0 then enI h.token.length ++ h.token else []) ++ R).take k, 0)).2 = ([], 2) := by
  unfold tokM
  rw [hp]
  by_cases h0 : h.kind = 0
  · simp only [h0, if_true] at hk ⊢
    rw [List.append_assoc] at hk ⊢
    rcases rdInt_cut h.token.length (by have := F.t; omega) _ _ hk with ⟨_, e1, l1⟩ | e1
    · rcases rdBytes_cut h.token.length _ _ rfl _ l1 with ⟨_, e2, l2⟩ | e2
      · exact .inl ⟨_, by rw [e1]; simp only; rw [e2], l2⟩
      · exact .inr (by rw [e1]; simp only; rw [e2])
    · exact .inr (by rw [e1]; simp only; rw [rdBytes_bad])
  · simp only [h0, if_false] at hk ⊢
    rw [List.nil_append] at hk ⊢
    exact .inl ⟨k, by rw [hpt, F.kt h0], hk⟩

/-- Behind the first byte of a long one. -/
theorem long_cut (F : RightF h) (ho : h.Ok) (p : Hd) (hp : p.kind = h.kind) (hpt : p.token = []) (k : Nat)
    (hk : k < (arr h.version 4 4 ++ (h.dst.length :: (h.dst ++ (h.src.length :: (h.src ++ ((if h.kind = 0 then enI h.token.length ++ h.token else []) ++ (enI (h.cut.length + h.rest.toNat) ++ (h.cut ++ List.replicate h.rest.toNat 0)))))))).length) :
    (longM p h.cut.length ((arr h.version 4 4 ++ (h.dst.length :: (h.dst ++ (h.src.length :: (h.src ++ ((if h.kind = 0 then enI h.token.length ++ h.token else []) ++ (enI (h.cut.length + h.rest.toNat) ++ (h.cut ++ List.replicate h.rest.toNat 0)))))))).take k, 0)).2 = ([], 2) := by
  have hc1 := F.c1
  rcases who_cut p ho _ k hk with ⟨k1, e1, l1⟩ | e1
  · rcases rdByte_cut _ _ _ l1 with ⟨_, e2, l2⟩ | e2
    · rcases rdBytes_cut h.src.length _ _ rfl _ l2 with ⟨_, e3, l3⟩ | e3
      · rcases tok_cut F p hp hpt _ _ l3 with ⟨k4, e4, l4⟩ | e4
        · rcases rdInt_cut (h.cut.length + h.rest.toNat) (by have := F.c4; have := F.r1; omega) _ _ l4 with ⟨_, e5, l5⟩ | e5
          · unfold longM
            simp only
            rw [e1]
            simp only
            rw [e2]
            simp only
            rw [e3]
            simp only
            rw [e4]
            simp only
            rw [e5]
            simp only
            rw [if_neg (by omega)]
            have l6 := l5
            rw [List.length_append, List.length_replicate] at l6
            rw [if_pos (by rw [List.length_take]; omega)]
            simp [failSt]
          · unfold longM
            simp only
            rw [e1]
            simp only
            rw [e2]
            simp only
            rw [e3]
            simp only
            rw [e4]
            simp only
            rw [e5]
            simp only
            rw [if_pos (by omega)]
            simp [failSt]
        · refine long_bad _ _ hc1 _ ?_
          rw [e1]
          simp only
          rw [e2]
          simp only
          rw [e3]
          exact e4
      · refine long_bad _ _ hc1 _ ?_
        rw [e1]
        simp only
        rw [e2]
        simp only
        rw [e3]
        exact tok_bad _
    · refine long_bad _ _ hc1 _ ?_
      rw [e1]
      simp only
      rw [e2]
      simp only
      rw [rdBytes_bad]
      exact tok_bad _
  · refine long_bad _ _ hc1 _ ?_
    rw [e1, rdByte_bad]
    simp only
    rw [rdBytes_bad]
    exact tok_bad _

/-- A long header that is cut off, or whose bytes aren't all there. -/
theorem cut_long (hr : rightH h = true) (ho : h.Ok) (hl : h.long = true) (k : Nat) (hk : k < (bytesH h).length + h.rest.toNat) :
    parseM ((bytesH h ++ List.replicate h.rest.toNat 0).take k) = ({}, 0, 2) := by
  have F := rightF hr
  obtain ⟨f1, f2, f3, f4, f5, f6⟩ := first_may F
  have ea : bytesH h ++ List.replicate h.rest.toNat 0 = firstM h :: (arr h.version 4 4 ++ (h.dst.length :: (h.dst ++ (h.src.length :: (h.src ++ ((if h.kind = 0 then enI h.token.length ++ h.token else []) ++ (enI (h.cut.length + h.rest.toNat) ++ (h.cut ++ List.replicate h.rest.toNat 0)))))))) := by
    unfold bytesH aheadH
    rw [if_pos hl]
    by_cases hk : h.kind = 0
    · rw [if_pos hk, if_pos hk]; simp
    · rw [if_neg hk, if_neg hk]; simp
  have hlen : k < (bytesH h ++ List.replicate h.rest.toNat 0).length := by rw [List.length_append, List.length_replicate]; exact hk
  rw [ea] at hlen ⊢
  rcases rdByte_cut _ _ k hlen with ⟨k1, e1, l1⟩ | e1
  · suffices hs : (restM (firstM h) ((arr h.version 4 4 ++ (h.dst.length :: (h.dst ++ (h.src.length :: (h.src ++ ((if h.kind = 0 then enI h.token.length ++ h.token else []) ++ (enI (h.cut.length + h.rest.toNat) ++ (h.cut ++ List.replicate h.rest.toNat 0)))))))).take (k - 1), 0)).2 = ([], 2) by
      have := parseM_wrong (b := (firstM h :: (arr h.version 4 4 ++ (h.dst.length :: (h.dst ++ (h.src.length :: (h.src ++ ((if h.kind = 0 then enI h.token.length ++ h.token else []) ++ (enI (h.cut.length + h.rest.toNat) ++ (h.cut ++ List.replicate h.rest.toNat 0))))))))).take k) e1 f1 rfl (.inl (by rw [hs]; decide))
      rw [this, hs]
      rfl
    rw [restM_long (by rw [f6]; exact hl), f2, f6]
    exact long_cut F ho { long := h.long, phase := h.phase, kind := h.kind } rfl rfl _ l1
  · unfold parseM
    rw [e1]
    simp only
    rw [show mayM 0 = false from by decide]
    simp [failSt]

/-- A short one that is cut off. -/
theorem cut_short (hr : rightH h = true) (hl : h.long = false) (k : Nat) (hk : k < (bytesH h).length) : parseM ((bytesH h).take k) = ({}, 0, 2) := by
  have F := rightF hr
  obtain ⟨f1, f2, f3, f4, f5, f6⟩ := first_may F
  have ea : bytesH h = firstM h :: (h.dst ++ (h.cut ++ [])) := by unfold bytesH; rw [if_neg (by simp [hl])]; simp
  rw [ea] at hk ⊢
  rcases rdByte_cut _ _ k hk with ⟨k1, e1, l1⟩ | e1
  · suffices hs : (restM (firstM h) ((h.dst ++ (h.cut ++ [])).take (k - 1), 0)).2 = ([], 2) by
      have := parseM_wrong (b := (firstM h :: (h.dst ++ (h.cut ++ []))).take k) e1 f1 rfl (.inl (by rw [hs]; decide))
      rw [this, hs]
      rfl
    rw [restM_short (by rw [f6]; exact hl), f2]
    unfold shortM
    simp only
    rcases rdBytes_cut 8 _ _ (F.kl hl).2.2.2.2 _ l1 with ⟨_, e2, l2⟩ | e2
    · rw [e2]
      simp only
      rcases rdBytes_cut h.cut.length _ _ rfl _ l2 with ⟨_, _, l3⟩ | e3
      · simp at l3
      · rw [e3]
    · rw [e2, rdBytes_bad]
  · unfold parseM
    rw [e1]
    simp only
    rw [show mayM 0 = false from by decide]
    simp [failSt]
end
end Go.Proofs.YtfecmloaopbogaaDoor
