/- Layer 3 (frames), plain: what is put is read again, part by part. -/
import Derived.Test.YtlcffjmbfpdlbaaDoorV3Some
namespace Go.Proofs.YtlcffjmbfpdlbaaDoor
open Go.RowKit

/-- An integer that was put is read. -/
theorem rdInt_enc (n : Nat) (hn : n < 4611686018427387904) (l : List Nat) : rdInt (encI n ++ l, 0) = (n, (l, 0)) := by
  obtain ⟨h1, h2, h3⟩ := wideB_put n hn
  obtain ⟨f, r, e, _, _, h6, h7⟩ := back_math n (szN n) h2 h3 l
  unfold encI
  rw [h1, e]
  unfold rdInt
  simp only [ne_eq, not_true_eq_false, if_false]
  rw [if_pos (by rw [h6]; simp)]
  rw [h6, List.take_left, List.drop_left, h7]
/-- Bytes that were put are read. -/
theorem rdBytes_app (l m : List Nat) : rdBytes l.length (l ++ m, 0) = (l, (m, 0)) := by
  unfold rdBytes
  simp only [ne_eq, not_true_eq_false, if_false]
  rw [if_pos (by simp), List.take_left, List.drop_left]
theorem setP_get (p : Part) (f g : Fr) (l : List Nat) (h : getP p f < 4611686018427387904) (hp : p = .id ∨ p = .amount ∨ p = .code) :
    readP p g (putP p f ++ l, 0) = (setP p (getP p f) g, (l, 0)) := by
  rcases hp with rfl | rfl | rfl <;> (simp only [putP, readP]; rw [rdInt_enc _ h])
theorem counted_back (f g : Fr) (l : List Nat) (h : f.data.length < 4611686018427387904) : readP .counted g (putP .counted f ++ l, 0) = ({ g with data := f.data }, (l, 0)) := by
  simp only [putP, readP, aheadM, toldM, List.append_assoc]
  rw [rdInt_enc _ h]
  simp only
  rw [rdBytes_app]
theorem shortly_back (f g : Fr) (l : List Nat) (h : f.data.length < 256) : readP .shortly g (putP .shortly f ++ l, 0) = ({ g with data := f.data }, (l, 0)) := by
  simp only [putP, readP, aheadM, toldM, List.cons_append, List.nil_append]
  have e : rdByte (f.data.length % 256 :: (f.data ++ l), 0) = (f.data.length, (f.data ++ l, 0)) := by
    unfold rdByte
    simp only [ne_eq, not_true_eq_false, if_false]
    rw [Nat.mod_eq_of_lt h]
  rw [e]
  simp only
  rw [rdBytes_app]
theorem challenge_back (f g : Fr) (l : List Nat) (h : f.data.length = 8) : readP .challenge g (putP .challenge f ++ l, 0) = ({ g with data := f.data }, (l, 0)) := by
  simp only [putP, readP, aheadM, toldM, List.nil_append]
  rw [← h, rdBytes_app]
theorem allLeft_back (f g : Fr) : readP .allLeft g (putP .allLeft f, 0) = ({ g with data := f.data }, ([], 0)) := by
  simp only [putP, readP, aheadM, toldM, List.nil_append]
  have := rdBytes_app f.data []
  rw [List.append_nil] at this
  rw [this]
theorem token_back (f g : Fr) (l : List Nat) (h : f.tok.length = 16) (hg : g.tok.length = 16) : readP .token g (putP .token f ++ l, 0) = ({ g with tok := f.tok }, (l, 0)) := by
  simp only [putP, readP]
  rw [← h, rdBytes_app]
  simp only [overlay]
  rw [List.drop_eq_nil_of_le (by omega), List.append_nil]
/-- Ranges that were put are read. -/
theorem ackLoop_back : ∀ (xs acc : List (Nat × Nat)) (lo : Nat) (l : List Nat), lo < 4611686018427387904 →
    (∀ i (h : i < xs.length), (xs[i]).1 ≤ (xs[i]).2 ∧ (xs[i]).2 + 2 ≤ (if i = 0 then lo else (xs.getD (i - 1) (0, 0)).1)) →
    ackLoop xs.length lo acc (ackRest lo xs ++ l, 0) = (acc ++ xs, (l, 0))
  | [], acc, lo, l, _, _ => by simp [ackLoop, ackRest]
  | x :: xs, acc, lo, l, hlo, h => by
    have h0 := h 0 (by simp)
    simp only [List.getElem_cons_zero, if_true] at h0
    simp only [List.length_cons, ackLoop, ackRest, List.append_assoc]
    rw [rdInt_enc _ (by omega)]
    simp only
    rw [rdInt_enc _ (by omega)]
    simp only
    rw [if_neg (by omega)]
    have e1 : lo - (lo - x.2 - 2) - 2 - (x.2 - x.1) = x.1 := by omega
    have e2 : lo - (lo - x.2 - 2) - 2 = x.2 := by omega
    rw [e1, e2, ackLoop_back xs (acc ++ [(x.1, x.2)]) x.1 l (by omega) ?_]
    · simp
    · intro i hi
      have := h (i + 1) (by simp; omega)
      simp only [List.getElem_cons_succ, Nat.add_sub_cancel, Nat.add_one_ne_zero, if_false] at this
      refine ⟨this.1, ?_⟩
      rcases Nat.eq_zero_or_pos i with rfl | hi0
      · simpa using this.2
      · rw [if_neg (by omega)]
        obtain ⟨j, rfl⟩ : ∃ j, i = j + 1 := ⟨i - 1, by omega⟩
        simpa using this.2
theorem acked_back (f g : Fr) (l : List Nat) (hb : f.b < 4611686018427387904) (ha : apart f.ranges) : readP .acked g (putP .acked f ++ l, 0) = ({ g with b := f.b, ranges := f.ranges }, (l, 0)) := by
  obtain ⟨h1, h16, htop, hap⟩ := ha
  simp only [putP, readP]
  cases hr : f.ranges with
  | nil => rw [hr] at h1; simp at h1
  | cons x xs =>
    rw [hr] at h16 htop hap
    have hx := (hap 0 (by simp)).1
    simp only [List.getD_cons_zero] at htop hx
    simp only [List.length_cons] at h16
    simp only [ackBytes, List.append_assoc, ackedM]
    rw [rdInt_enc _ (by omega)]
    simp only
    rw [rdInt_enc _ hb]
    simp only
    rw [rdInt_enc _ (by omega)]
    simp only
    rw [rdInt_enc _ (by omega)]
    simp only
    rw [if_neg (by omega), show x.2 - (x.2 - x.1) = x.1 from by omega, ackLoop_back xs [(x.1, x.2)] x.1 l (by omega) ?_]
    · simp
    · intro i hi
      have h := hap (i + 1) (by simp; omega)
      simp only [List.getD_cons_succ, Nat.add_sub_cancel] at h
      rw [List.getD_eq_getElem?_getD, List.getElem?_eq_getElem hi] at h
      simp only [Option.getD_some] at h
      refine ⟨h.1, ?_⟩
      have h2 := (h.2 (by omega)).2
      rcases Nat.eq_zero_or_pos i with rfl | hi0
      · simpa using h2
      · rw [if_neg (by omega)]
        obtain ⟨j, rfl⟩ : ∃ j, i = j + 1 := ⟨i - 1, by omega⟩
        simpa using h2
/-- Zeros that were put are read, if no other zero follows, or they are as many as may be. -/
theorem zc_back : ∀ (n k : Nat) (l : List Nat), k ≤ n → (k = n ∨ l.head? ≠ some 0) → zc n (List.replicate k 0 ++ l) = k
  | n, 0, l, _, h => by
    cases n with
    | zero => rfl
    | succ n =>
      cases l with
      | nil => rfl
      | cons x l =>
        have hx : x ≠ 0 := by
          rcases h with h | h
          · omega
          · intro e; exact h (by rw [e]; rfl)
        cases x with
        | zero => exact absurd rfl hx
        | succ x => rfl
  | 0, k + 1, _, h, _ => by omega
  | n + 1, k + 1, l, h, h2 => by
    have := zc_back n k l (by omega) (by rcases h2 with h2 | h2; exact .inl (by omega); exact .inr h2)
    simp [List.replicate_succ, zc, this]
theorem zeros_back (f g : Fr) (l : List Nat) (h1 : 1 ≤ f.a) (h2 : f.a ≤ 1200) (h : f.a = 1200 ∨ l.head? ≠ some 0) : readP .zeros g (putP .zeros f ++ l, 0) = ({ g with a := f.a }, (l, 0)) := by
  simp only [putP, readP, zerosS]
  rw [if_neg (by simp), zc_back 1199 (f.a - 1) l (by omega) (by rcases h with h | h; exact .inl (by omega); exact .inr h)]
  have e : (List.replicate (f.a - 1) 0 ++ l).drop (f.a - 1) = l := by
    have := List.drop_left (l₁ := List.replicate (f.a - 1) 0) (l₂ := l)
    rwa [List.length_replicate] at this
  simp only [e]
  rw [show f.a - 1 + 1 = f.a from by omega]

/-- A frame with another one's part. -/
def setF (p : Part) (f g : Fr) : Fr :=
  match p with
  | .id => { g with id := f.id }
  | .amount | .zeros => { g with a := f.a }
  | .code => { g with code := f.code }
  | .counted | .shortly | .challenge | .allLeft => { g with data := f.data }
  | .token => { g with tok := f.tok }
  | .acked => { g with b := f.b, ranges := f.ranges }
  | .dropped => g
/-- A part can be put so that it is read again. -/
def PutOk (p : Part) (f : Fr) : Prop :=
  match p with
  | .id => f.id < 4611686018427387904
  | .amount => f.a < 4611686018427387904
  | .code => f.code < 4611686018427387904
  | .zeros => 1 ≤ f.a ∧ f.a ≤ 1200
  | .counted => f.data.length < 4611686018427387904
  | .shortly => f.data.length < 256
  | .challenge => f.data.length = 8
  | .allLeft => True
  | .token => f.tok.length = 16
  | .acked => f.b < 4611686018427387904 ∧ apart f.ranges
  | .dropped => False
theorem part_back (p : Part) (f g : Fr) (l : List Nat) (hok : PutOk p f) (hl : p = .allLeft → l = []) (hz : p = .zeros → f.a = 1200 ∨ l.head? ≠ some 0) (hg : g.tok.length = 16) :
    readP p g (putP p f ++ l, 0) = (setF p f g, (l, 0)) := by
  cases p
  case id => exact setP_get .id f g l hok (.inl rfl)
  case amount => exact setP_get .amount f g l hok (.inr (.inl rfl))
  case code => exact setP_get .code f g l hok (.inr (.inr rfl))
  case counted => exact counted_back f g l hok
  case shortly => exact shortly_back f g l hok
  case challenge => exact challenge_back f g l hok
  case allLeft => rw [hl rfl, List.append_nil]; exact allLeft_back f g
  case token => exact token_back f g l hok hg
  case zeros => exact zeros_back f g l hok.1 hok.2 (hz rfl)
  case acked => exact acked_back f g l hok.1 hok.2
  case dropped => exact hok.elim
theorem setF_tok (p : Part) (f g : Fr) (hok : PutOk p f) (hg : g.tok.length = 16) : (setF p f g).tok.length = 16 := by
  cases p <;> first | exact hg | exact hok
/-- What must stand behind the parts, so that all are read again. -/
def Follow (f : Fr) : List Part → List Nat → Prop
  | [], _ => True
  | p :: ps, l => PutOk p f ∧ (p = .allLeft → putAll ps f ++ l = []) ∧ (p = .zeros → f.a = 1200 ∨ (putAll ps f ++ l).head? ≠ some 0) ∧ Follow f ps l
theorem all_back (f : Fr) (l : List Nat) : ∀ (ps : List Part) (g : Fr), Follow f ps l → g.tok.length = 16 → readAll ps (g, (putAll ps f ++ l, 0)) = (ps.foldl (fun g p => setF p f g) g, (l, 0))
  | [], _, _, _ => rfl
  | p :: ps, g, ⟨h1, h2, h3, h4⟩, hg => by
    have e : putAll (p :: ps) f ++ l = putP p f ++ (putAll ps f ++ l) := by simp [putAll]
    rw [e]
    simp only [readAll]
    rw [part_back p f g _ h1 h2 h3 hg]
    exact all_back f l ps _ h4 (setF_tok p f g h1 hg)
end Go.Proofs.YtlcffjmbfpdlbaaDoor
