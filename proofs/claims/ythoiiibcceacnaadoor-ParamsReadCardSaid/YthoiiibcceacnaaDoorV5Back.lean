/- Layer 5 (params), plain: all that is put is read again; in any order; twice. -/
import Derived.Test.YthoiiibcceacnaaDoorV5Math
namespace Go.Proofs.YthoiiibcceacnaaDoor
open Go.RowKit

theorem val_idle {p : Pm} (hm : mayB p = true) (h : valP .idle p = []) : p.idle = 0 := by
  rcases Nat.eq_zero_or_pos p.idle with h0 | h0
  · exact h0
  · have := encI_pos _ (getP_lt .idle p hm (by decide))
    simp only [valP, getP, show p.idle ≠ 0 from by omega, if_false] at h
    exact absurd h this
theorem val_data {p : Pm} (hm : mayB p = true) (h : valP .data p = []) : p.data = 0 := by
  rcases Nat.eq_zero_or_pos p.data with h0 | h0
  · exact h0
  · have := encI_pos _ (getP_lt .data p hm (by decide))
    simp only [valP, getP, show p.data ≠ 0 from by omega, if_false] at h
    exact absurd h this
theorem val_stream {p : Pm} (hm : mayB p = true) (h : valP .stream p = []) : p.stream = 0 := by
  rcases Nat.eq_zero_or_pos p.stream with h0 | h0
  · exact h0
  · have := encI_pos _ (getP_lt .stream p hm (by decide))
    simp only [valP, getP, show p.stream ≠ 0 from by omega, if_false] at h
    exact absurd h this
theorem val_streams {p : Pm} (hm : mayB p = true) (h : valP .streams p = []) : p.streams = 0 := by
  rcases Nat.eq_zero_or_pos p.streams with h0 | h0
  · exact h0
  · have := encI_pos _ (getP_lt .streams p hm (by decide))
    simp only [valP, getP, show p.streams ≠ 0 from by omega, if_false] at h
    exact absurd h this
theorem val_token {p : Pm} (hm : mayB p = true) (ht : p.tok.length = 16) (h : valP .token p = []) : p.has = false ∧ p.tok = zeros16 := by
  cases hh : p.has
  · refine ⟨rfl, ?_⟩
    unfold mayB at hm
    rw [hh] at hm
    simp only [Bool.false_or, Bool.and_eq_true, decide_eq_true_eq] at hm
    exact hm.2
  · simp only [valP, hh, if_true] at h
    rw [h] at ht
    cases ht

/-- Which values differ from q's once all of l were read. -/
theorem withAll_in (p : Pm) : ∀ (l : List Pk) (q : Pm),
    ((.idle ∈ l ∧ valP .idle p ≠ []) → (withAll p l q).idle = p.idle) ∧ (¬ (.idle ∈ l ∧ valP .idle p ≠ []) → (withAll p l q).idle = q.idle) ∧
    ((.data ∈ l ∧ valP .data p ≠ []) → (withAll p l q).data = p.data) ∧ (¬ (.data ∈ l ∧ valP .data p ≠ []) → (withAll p l q).data = q.data) ∧
    ((.stream ∈ l ∧ valP .stream p ≠ []) → (withAll p l q).stream = p.stream) ∧ (¬ (.stream ∈ l ∧ valP .stream p ≠ []) → (withAll p l q).stream = q.stream) ∧
    ((.streams ∈ l ∧ valP .streams p ≠ []) → (withAll p l q).streams = p.streams) ∧ (¬ (.streams ∈ l ∧ valP .streams p ≠ []) → (withAll p l q).streams = q.streams) ∧
    ((.token ∈ l ∧ valP .token p ≠ []) → (withAll p l q).has = p.has ∧ (withAll p l q).tok = p.tok) ∧ (¬ (.token ∈ l ∧ valP .token p ≠ []) → (withAll p l q).has = q.has ∧ (withAll p l q).tok = q.tok)
  | [], q => by simp [withAll]
  | k :: l, q => by
    have ih := withAll_in p l (if valP k p = [] then q else withK k p q)
    have e : withAll p (k :: l) q = withAll p l (if valP k p = [] then q else withK k p q) := rfl
    rw [e]
    by_cases hv : valP k p = []
    · rw [if_pos hv] at ih ⊢
      cases k <;> simp_all
    · rw [if_neg hv] at ih ⊢
      cases k <;> simp only [withK, List.mem_cons, reduceCtorEq, false_or, true_or, true_and] at ih ⊢ <;> grind
theorem withAll_p (p : Pm) (hm : mayB p = true) (ht : p.tok.length = 16) (l : List Pk) (h : ∀ k, valP k p ≠ [] → k ∈ l) : withAll p l {} = p := by
  obtain ⟨a1, a2, b1, b2, c1, c2, d1, d2, t1, t2⟩ := withAll_in p l {}
  have e1 : (withAll p l {}).idle = p.idle := by
    by_cases hv : valP .idle p = []
    · rw [a2 (fun h => h.2 hv), val_idle hm hv]
    · exact a1 ⟨h _ hv, hv⟩
  have e2 : (withAll p l {}).data = p.data := by
    by_cases hv : valP .data p = []
    · rw [b2 (fun h => h.2 hv), val_data hm hv]
    · exact b1 ⟨h _ hv, hv⟩
  have e3 : (withAll p l {}).stream = p.stream := by
    by_cases hv : valP .stream p = []
    · rw [c2 (fun h => h.2 hv), val_stream hm hv]
    · exact c1 ⟨h _ hv, hv⟩
  have e4 : (withAll p l {}).streams = p.streams := by
    by_cases hv : valP .streams p = []
    · rw [d2 (fun h => h.2 hv), val_streams hm hv]
    · exact d1 ⟨h _ hv, hv⟩
  have e5 : (withAll p l {}).has = p.has ∧ (withAll p l {}).tok = p.tok := by
    by_cases hv : valP .token p = []
    · have h1 := t2 (fun h => h.2 hv)
      have h2 := val_token hm ht hv
      exact ⟨h1.1.trans h2.1.symm, h1.2.trans h2.2.symm⟩
    · exact t1 ⟨h _ hv, hv⟩
  generalize withAll p l {} = q at *
  cases p; cases q
  simp at *
  exact ⟨e1, e2, e3, e4, e5.1, e5.2⟩

theorem all_mem (k : Pk) : k ∈ Pk.all := by cases k <;> decide
theorem begin_came (k : Pk) : (List.replicate 5 false).getD (ixK k) false = false := by cases k <;> rfl
/-- The chunks of p in any order are read as p, with what stands behind them left. -/
theorem read_chunks (p : Pm) (hm : mayB p = true) (ht : p.tok.length = 16) (l : List Pk) (hn : l.Nodup) (h : ∀ k, valP k p ≠ [] → k ∈ l) (m : List Nat) :
    runR (begin (chunks p l ++ m)) = runR ⟨p, cameAll p l (List.replicate 5 false), (m, 0)⟩ := by
  unfold begin
  rw [run_chunks p hm ht m l {} (List.replicate 5 false) hn rfl (fun k _ => begin_came k), withAll_p p hm ht l h]
theorem endR_fine (p : Pm) (hm : mayB p = true) (c : List Bool) : endR ⟨p, c, ([], 0)⟩ = (p, 0) := by
  unfold endR
  simp [hm]
theorem read_order (p : Pm) (hm : mayB p = true) (ht : p.tok.length = 16) (l : List Pk) (hn : l.Nodup) (h : ∀ k, valP k p ≠ [] → k ∈ l) : readM (chunks p l) = (p, 0) := by
  have := read_chunks p hm ht l hn h []
  rw [List.append_nil] at this
  unfold readM
  rw [this, runR_end _ rfl, endR_fine p hm]
theorem bytes_chunks (p : Pm) : bytesP p = chunks p Pk.all := rfl
theorem read_put (p : Pm) (hm : mayB p = true) (ht : p.tok.length = 16) : readM (bytesP p) = (p, 0) := read_order p hm ht Pk.all (by decide) (fun k _ => all_mem k)
/-- With a parameter of another number behind. -/
theorem read_more (p : Pm) (hm : mayB p = true) (ht : p.tok.length = 16) (m : List Nat) (hl : m.length < 64) : readM (bytesP p ++ (33 :: m.length :: m)) = (p, 0) := by
  have h33 : encI 33 = [33] := encI_small 33 (by decide)
  have hml : encI m.length = [m.length] := encI_small _ hl
  have e : (33 :: m.length :: m) = encI 33 ++ (encI m.length ++ (m ++ [])) := by rw [h33, hml]; simp
  unfold readM
  rw [bytes_chunks, read_chunks p hm ht Pk.all (by decide) (fun k _ => all_mem k)]
  rw [runR_step _ (by simp)]
  have hs : stepR ⟨p, cameAll p Pk.all (List.replicate 5 false), (33 :: m.length :: m, 0)⟩ = ⟨p, cameAll p Pk.all (List.replicate 5 false), ([], 0)⟩ := by
    rw [e]
    unfold stepR
    simp only
    rw [rdInt_enc 33 (by decide)]
    simp only
    rw [rdInt_enc m.length (by omega)]
    simp only
    rw [rdBytes_app m.length m [] rfl]
    simp only
    rw [if_pos (.inr (by decide))]
  rw [hs, runR_end _ rfl, endR_fine p hm]
/-- All of it twice. -/
theorem cameAll_mem (p : Pm) (k : Pk) (hv : valP k p ≠ []) : ∀ (l : List Pk) (c : List Bool), c.length = 5 → (k ∈ l ∨ c.getD (ixK k) false = true) → (cameAll p l c).getD (ixK k) false = true
  | [], c, _, h => by rcases h with h | h; cases h; exact h
  | j :: l, c, hl, h => by
    have e : cameAll p (j :: l) c = cameAll p l (if valP j p = [] then c else c.set (ixK j) true) := rfl
    rw [e]
    apply cameAll_mem p k hv l
    · split <;> simp [hl]
    · by_cases hj : k = j
      · subst hj
        right
        rw [if_neg hv]
        have : ixK k < c.length := by rw [hl]; cases k <;> decide
        simp [List.getD_eq_getElem?_getD, this]
      · rcases h with h | h
        · left; simpa [hj] using h
        · right
          split
          · exact h
          · have hne : ixK j ≠ ixK k := fun e => hj (ixK_inj e).symm
            simp only [List.getD_eq_getElem?_getD] at h ⊢
            rw [List.getElem?_set_ne hne]; exact h
theorem first_chunk (p : Pm) : ∀ (l : List Pk), chunks p l ≠ [] → ∃ k m, k ∈ l ∧ valP k p ≠ [] ∧ chunks p l = chunkB k (valP k p) ++ m
  | [], h => absurd rfl h
  | k :: l, h => by
    rw [chunks_cons] at h ⊢
    by_cases hv : valP k p = []
    · have e : chunk p k = [] := by unfold chunk; rw [if_pos hv]
      rw [e, List.nil_append] at h ⊢
      obtain ⟨j, m, h1, h2, h3⟩ := first_chunk p l h
      exact ⟨j, m, by simp [h1], h2, h3⟩
    · have e : chunk p k = chunkB k (valP k p) := by unfold chunk; rw [if_neg hv]; rfl
      exact ⟨k, chunks p l, by simp, hv, by rw [e]⟩
theorem read_twice (p : Pm) (hm : mayB p = true) (ht : p.tok.length = 16) (hb : bytesP p ≠ []) : readM (bytesP p ++ bytesP p) = ({}, 11) := by
  unfold readM
  rw [bytes_chunks] at hb ⊢
  rw [read_chunks p hm ht Pk.all (by decide) (fun k _ => all_mem k)]
  obtain ⟨k, m, _, h2, h3⟩ := first_chunk p Pk.all hb
  rw [h3, run_twice k _ m p _ (val_len k p ht) (cameAll_mem p k h2 Pk.all _ rfl (.inl (all_mem k)))]
  unfold endR
  have : (if mayB p = true then (([], 11) : St) else failSt 3 ([], 11)) = ([], 11) := by rw [if_pos hm]
  simp only [this]
  rfl
theorem read_nil : readM [] = ({}, 0) := by
  unfold readM
  rw [runR_end _ rfl]
  decide +kernel
theorem apart_p (p q : Pm) (hm : mayB p = true) (ht : p.tok.length = 16) (hm' : mayB q = true) (ht' : q.tok.length = 16) : bytesP p = bytesP q ↔ p = q := by
  constructor
  · intro h
    have h1 := read_put p hm ht
    rw [h, read_put q hm' ht'] at h1
    exact (Prod.mk.inj h1).1.symm
  · intro h; rw [h]
/-- The program's bytes are the document's. -/
theorem chunk_one (p : Pm) (hm : mayB p = true) (k : Pk) (hk : k ≠ .token) : chunk p k = oneM k.num (getP k p) := by
  have hn := getP_lt k p hm hk
  have hne := encI_pos _ hn
  have hv : valP k p = if getP k p = 0 then [] else encI (getP k p) := by cases k <;> first | exact absurd rfl hk | rfl
  have h8 := encI_len8 (getP k p)
  unfold chunk oneM
  rw [hv]
  by_cases h0 : getP k p = 0
  · simp [h0]
  · simp only [h0, if_false, hne]
    rw [encI_small k.num (by cases k <;> decide), encI_small (encI (getP k p)).length (by omega)]
    rfl
theorem chunk_tok (p : Pm) (ht : p.tok.length = 16) : chunk p .token = tokM p := by
  unfold chunk tokM
  simp only [valP]
  by_cases hh : p.has = true
  case neg => simp [hh]
  · have hne : p.tok ≠ [] := by intro h; rw [h] at ht; cases ht
    simp only [hh, if_true, hne, if_false]
    rw [ht, encI_small 16 (by decide), encI_small Pk.token.num (by decide)]
    rfl
theorem bytes_same (p : Pm) (hm : mayB p = true) (ht : p.tok.length = 16) : bytesP p = bytesD p := by
  rw [bytes_chunks]
  unfold bytesD Pk.all
  simp only [chunks_cons]
  rw [chunk_one p hm .idle (by decide), chunk_tok p ht, chunk_one p hm .data (by decide), chunk_one p hm .stream (by decide), chunk_one p hm .streams (by decide)]
  simp [chunks, Pk.num, getP]
theorem put_same (p : Pm) (ht : p.tok.length = 16) : putP p = putD p := by
  unfold putP putD
  cases hm : mayB p
  · rfl
  · rw [if_pos rfl, if_pos rfl, bytes_same p hm ht]
theorem putP_len (p : Pm) (ht : p.tok.length = 16) : (putP p).length ≤ 200 := by
  unfold putP
  split
  · exact upto_len p ht 5 (by omega)
  · simp
end Go.Proofs.YthoiiibcceacnaaDoor
