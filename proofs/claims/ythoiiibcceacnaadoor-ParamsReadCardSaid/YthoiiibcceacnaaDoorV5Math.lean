/- Layer 5 (params), plain: what is put is read again. -/
import Derived.Test.YthoiiibcceacnaaDoorV5Model
import Derived.Test.YthoiiibcceacnaaDoorV5RPut
namespace Go.Proofs.YthoiiibcceacnaaDoor
open Go.RowKit

theorem rdInt_enc (n : Nat) (hn : n < 4611686018427387904) (l : List Nat) : rdInt (encI n ++ l, 0) = (n, (l, 0)) := by
  obtain ⟨h1, h2, h3⟩ := wideB_put n hn
  obtain ⟨f, r, e, _, _, h6, h7⟩ := back_math n (szN n) h2 h3 l
  unfold encI
  rw [h1, e]
  unfold rdInt
  simp only [ne_eq, not_true_eq_false, if_false]
  rw [if_pos (by rw [h6]; simp)]
  rw [h6, List.take_left, List.drop_left, h7]
theorem rdBytes_app (n : Nat) (l m : List Nat) (h : l.length = n) : rdBytes n (l ++ m, 0) = (l, (m, 0)) := by
  subst h
  unfold rdBytes
  simp only [ne_eq, not_true_eq_false, if_false]
  rw [if_pos (by simp), List.take_left, List.drop_left]
theorem encI_small (n : Nat) (h : n < 64) : encI n = [n] := by
  unfold encI
  rw [szN_1 h]
  have e : wideB n ((1 : Nat) : Int) = be n 1 := by unfold wideB; rw [if_pos ⟨by omega, by rw [show ((1 : Nat) : Int).toNat = 1 from rfl, gr_1]; omega⟩]; rfl
  rw [e]
  unfold be lg
  simp [arr, Nat.mod_eq_of_lt (show n < 256 by omega)]
theorem encI_pos (n : Nat) (hn : n < 4611686018427387904) : encI n ≠ [] := by
  intro h
  have := rdInt_enc n hn []
  rw [h] at this
  simp [rdInt] at this

/-- A parameter's bytes, with its value's. -/
def chunkB (k : Pk) (v : List Nat) : List Nat := encI k.num ++ (encI v.length ++ v)
theorem idx_k (k : Pk) : idxP k.num = (match k with | .idle => 0 | .token => 1 | .data => 2 | .stream => 3 | .streams => 4 : Nat) := by cases k <;> rfl
def ixK : Pk → Nat
  | .idle => 0
  | .token => 1
  | .data => 2
  | .stream => 3
  | .streams => 4
theorem idxP_k (k : Pk) : idxP k.num = ((ixK k : Nat) : Int) := by cases k <;> rfl
theorem all_k (k : Pk) : Pk.all.getD (ixK k) .idle = k := by cases k <;> rfl

/-- One chunk is read. -/
theorem step_chunk (k : Pk) (v l : List Nat) (p : Pm) (came : List Bool) (hv : v.length < 64) (hc : came.getD (ixK k) false = false) (ht : (takeP k v p).2 = true) :
    stepR ⟨p, came, (chunkB k v ++ l, 0)⟩ = ⟨(takeP k v p).1, came.set (ixK k) true, (l, 0)⟩ := by
  have hk : k.num < 4611686018427387904 := by cases k <;> decide
  unfold stepR chunkB
  simp only [List.append_assoc]
  rw [rdInt_enc k.num hk]
  simp only
  rw [rdInt_enc v.length (by omega)]
  simp only
  rw [rdBytes_app v.length v l rfl]
  simp only
  rw [if_neg (by rw [idxP_k]; simp), idxP_k]
  simp only [Int.toNat_natCast, all_k]
  rw [if_neg (by rw [hc]; decide), if_pos ht]
/-- One that came already is refused. -/
theorem step_twice (k : Pk) (v l : List Nat) (p : Pm) (came : List Bool) (hv : v.length < 64) (hc : came.getD (ixK k) false = true) :
    stepR ⟨p, came, (chunkB k v ++ l, 0)⟩ = ⟨p, came, ([], 11)⟩ := by
  have hk : k.num < 4611686018427387904 := by cases k <;> decide
  unfold stepR chunkB
  simp only [List.append_assoc]
  rw [rdInt_enc k.num hk]
  simp only
  rw [rdInt_enc v.length (by omega)]
  simp only
  rw [rdBytes_app v.length v l rfl]
  simp only
  rw [if_neg (by rw [idxP_k]; simp), idxP_k]
  simp only [Int.toNat_natCast]
  rw [if_pos hc]
  simp [failSt]
theorem chunkB_ne (k : Pk) (v l : List Nat) : (chunkB k v ++ l).length ≠ 0 := by
  have := encI_pos k.num (by cases k <;> decide)
  have h : 0 < (encI k.num).length := List.length_pos_iff.2 this
  unfold chunkB
  simp only [List.length_append]
  omega
theorem run_chunk (k : Pk) (v l : List Nat) (p : Pm) (came : List Bool) (hv : v.length < 64) (hc : came.getD (ixK k) false = false) (ht : (takeP k v p).2 = true) :
    runR ⟨p, came, (chunkB k v ++ l, 0)⟩ = runR ⟨(takeP k v p).1, came.set (ixK k) true, (l, 0)⟩ := by
  rw [runR_step _ (chunkB_ne k v l), step_chunk k v l p came hv hc ht]
theorem run_twice (k : Pk) (v l : List Nat) (p : Pm) (came : List Bool) (hv : v.length < 64) (hc : came.getD (ixK k) false = true) :
    runR ⟨p, came, (chunkB k v ++ l, 0)⟩ = ⟨p, came, ([], 11)⟩ := by
  rw [runR_step _ (chunkB_ne k v l), step_twice k v l p came hv hc, runR_end _ rfl]

/-- A value of p's is taken again. -/
def withK (k : Pk) (p q : Pm) : Pm :=
  match k with
  | .idle => { q with idle := p.idle }
  | .token => { q with has := p.has, tok := p.tok }
  | .data => { q with data := p.data }
  | .stream => { q with stream := p.stream }
  | .streams => { q with streams := p.streams }
theorem getP_lt (k : Pk) (p : Pm) (hm : mayB p = true) (hk : k ≠ .token) : getP k p < 4611686018427387904 := by
  rw [mayB_eq] at hm
  simp only [Bool.and_eq_true, decide_eq_true_eq] at hm
  cases k
  · have := hm.1.1.1.1; show p.idle < _; omega
  · exact absurd rfl hk
  · have := hm.1.1.1.2; show p.data < _; omega
  · have := hm.1.1.2; show p.stream < _; omega
  · have := hm.1.2; show p.streams < _; omega
theorem take_enc (k : Pk) (n : Nat) (hn : n < 4611686018427387904) (hk : k ≠ .token) (q : Pm) : takeP k (encI n) q = (setP k n q, true) := by
  have h := rdInt_enc n hn []
  rw [List.append_nil] at h
  cases k <;> first | exact absurd rfl hk | (simp only [takeP, h]; rfl)
theorem take_val (k : Pk) (p q : Pm) (hm : mayB p = true) (ht : p.tok.length = 16) (hv : valP k p ≠ []) : takeP k (valP k p) q = (withK k p q, true) := by
  by_cases hk : k = .token
  · subst hk
    have hh : p.has = true := by
      cases h : p.has
      · exact absurd (by simp [valP, h]) hv
      · rfl
    have e : valP .token p = p.tok := by simp [valP, hh]
    rw [e]
    simp only [takeP, ht, if_true, withK, hh]
  · have hn : getP k p ≠ 0 := by
      intro h
      apply hv
      cases k <;> first | exact absurd rfl hk | (simp only [valP, h, if_true])
    have e : valP k p = encI (getP k p) := by cases k <;> first | exact absurd rfl hk | (simp only [valP, hn, if_false])
    rw [e, take_enc k _ (getP_lt k p hm hk) hk]
    cases k <;> first | exact absurd rfl hk | rfl
theorem val_len (k : Pk) (p : Pm) (ht : p.tok.length = 16) : (valP k p).length < 64 := by have := valP_len k p ht; omega

/-- Several parameters of p's are read, one behind the other. -/
def chunks (p : Pm) (l : List Pk) : List Nat := (l.map (chunk p)).flatten
theorem chunks_cons (p : Pm) (k : Pk) (l : List Pk) : chunks p (k :: l) = chunk p k ++ chunks p l := by simp [chunks]
def withAll (p : Pm) (l : List Pk) (q : Pm) : Pm := l.foldl (fun q k => if valP k p = [] then q else withK k p q) q
def cameAll (p : Pm) (l : List Pk) (c : List Bool) : List Bool := l.foldl (fun c k => if valP k p = [] then c else c.set (ixK k) true) c
theorem ixK_inj {a b : Pk} (h : ixK a = ixK b) : a = b := by cases a <;> cases b <;> first | rfl | cases h
theorem run_chunks (p : Pm) (hm : mayB p = true) (ht : p.tok.length = 16) (m : List Nat) : ∀ (l : List Pk) (q : Pm) (c : List Bool), l.Nodup → c.length = 5 → (∀ k ∈ l, c.getD (ixK k) false = false) →
    runR ⟨q, c, (chunks p l ++ m, 0)⟩ = runR ⟨withAll p l q, cameAll p l c, (m, 0)⟩
  | [], q, c, _, _, _ => rfl
  | k :: l, q, c, hn, hl, hc => by
    rw [chunks_cons, List.append_assoc]
    have hn2 := List.nodup_cons.1 hn
    by_cases hv : valP k p = []
    · have e : chunk p k = [] := by unfold chunk; rw [if_pos hv]
      rw [e, List.nil_append, run_chunks p hm ht m l q c hn2.2 hl (fun j hj => hc j (by simp [hj]))]
      simp only [withAll, cameAll, List.foldl_cons, hv, if_true]
    · have e : chunk p k = chunkB k (valP k p) := by unfold chunk; rw [if_neg hv]; rfl
      have ht2 := take_val k p q hm ht hv
      rw [e, run_chunk k (valP k p) _ q c (val_len k p ht) (hc k (by simp)) (by rw [ht2]), ht2]
      rw [run_chunks p hm ht m l (withK k p q) (c.set (ixK k) true) hn2.2 (by simp [hl]) (fun j hj => ?_)]
      · simp only [withAll, cameAll, List.foldl_cons, hv, if_false]
      · have hne : ixK k ≠ ixK j := fun h => hn2.1 (ixK_inj h ▸ hj)
        have := hc j (by simp [hj])
        simp only [List.getD_eq_getElem?_getD] at this ⊢
        rw [List.getElem?_set_ne hne]
        exact this
end Go.Proofs.YthoiiibcceacnaaDoor
