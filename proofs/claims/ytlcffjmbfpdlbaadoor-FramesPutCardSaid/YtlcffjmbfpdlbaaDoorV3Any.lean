/- Layer 3 (frames): each part is read, put; each kind tells its parts, and what its frames must be. -/
import Derived.Test.YtlcffjmbfpdlbaaDoorV3Zeros
import Derived.Test.YtlcffjmbfpdlbaaDoorV3Acked
import Derived.Test.YtlcffjmbfpdlbaaDoorV3PutAck
import Derived.Test.YtlcffjmbfpdlbaaDoorV3Fits
import Derived.Test.YtlcffjmbfpdlbaaDoorV3Kinds
namespace Go.Proofs.YtlcffjmbfpdlbaaDoor
open Go.RowKit

/-- A part is read. -/
def readP (p : Part) (f : Fr) (s : St) : Fr × St :=
  match p with
  | .id | .amount | .code => (setP p (rdInt s).1 f, (rdInt s).2)
  | .counted | .shortly | .challenge | .allLeft => ({ f with data := (rdBytes (toldM p s).1 (toldM p s).2).1 }, (rdBytes (toldM p s).1 (toldM p s).2).2)
  | .token => ({ f with tok := overlay (rdBytes 16 s).1 f.tok }, (rdBytes 16 s).2)
  | .zeros => ({ f with a := (zerosS 1199 s).1 + 1 }, (zerosS 1199 s).2)
  | .acked => ackedM f s
  | .dropped => (f, (rdInt (rdInt (rdInt s).2).2).2)

/-- A part is put. -/
def putP (p : Part) (f : Fr) : List Nat :=
  match p with
  | .id | .amount | .code => encI (getP p f)
  | .counted | .shortly | .challenge | .allLeft => aheadM p f.data.length ++ f.data
  | .token => f.tok
  | .zeros => List.replicate (f.a - 1) 0
  | .acked => ackBytes f.ranges f.b
  | .dropped => []

section
variable (p : Part) (f : Fr) (w : World)

theorem read_part (s : St) (r g B : Nat) (Tr Tp : Nat → Prop) (cs : List Value) (hp : PartIs w Tp p cs) (L : Lie w r g B Tr) (hs : RdS w r Tr s) (hf : FrAt w g (fun b => B ≤ b) f) (hdata : p = .acked → f.data = []) :
    ∃ v, cs[1]? = some v ∧ Does v #[.pointer (some ⟨r, 0, none⟩), .pointer (some ⟨g, 0, none⟩)] w (ReadPost w r g B Tr (readP p f s)) := by
  have hi : ∀ p : Part, IntPart w Tp p cs → ∃ v, cs[1]? = some v ∧ Does v #[.pointer (some ⟨r, 0, none⟩), .pointer (some ⟨g, 0, none⟩)] w (ReadPost w r g B Tr (setP p (rdInt s).1 f, (rdInt s).2)) := by
    intro p ⟨h, _, hr, hcs⟩
    subst hcs
    exact ⟨_, rfl, _, _, rfl, Tryd.call91, integer2_any f s r g B w Tr p h L hs hf hr⟩
  have hd : ∀ p : Part, DataPart w Tp p cs → ∃ v, cs[1]? = some v ∧ Does v #[.pointer (some ⟨r, 0, none⟩), .pointer (some ⟨g, 0, none⟩)] w (ReadPost w r g B Tr ({ f with data := (rdBytes (toldM p s).1 (toldM p s).2).1 }, (rdBytes (toldM p s).1 (toldM p s).2).2)) := by
    intro p ⟨h, k, _, _, hr, hk, hcs⟩
    subst hcs
    exact ⟨_, rfl, _, _, rfl, Tryd.call94, data2_any f s r g B w Tr p k L hs hf hk⟩
  cases p
  case id => exact hi _ hp
  case amount => exact hi _ hp
  case code => exact hi _ hp
  case counted => exact hd _ hp
  case shortly => exact hd _ hp
  case challenge => exact hd _ hp
  case allLeft => exact hd _ hp
  case token => obtain rfl := hp; exact ⟨_, rfl, _, _, rfl, Tryd.call75, token2_any f s r g B w Tr L hs hf⟩
  case zeros => obtain rfl := hp; exact ⟨_, rfl, _, _, rfl, Tryd.call60, readZeros_any f s r g B w Tr L hs hf⟩
  case acked => obtain rfl := hp; exact ⟨_, rfl, _, _, rfl, Tryd.call85, readAcked_any f s r g B w Tr L hs hf (hdata rfl)⟩
  case dropped => obtain rfl := hp; exact ⟨_, rfl, _, _, rfl, Tryd.call88, dropped2_any f s r g B w Tr L hs hf⟩

theorem put_part (sd sr : Value) (T Tp : Nat → Prop) (cs : List Value) (hp : PartIs w Tp p cs) (hT : Tab w) (hf : FrD w T f sd sr) (of : f.Ok) (hz : p = .zeros → 1 ≤ f.a ∧ f.a ≤ 1200) (ha : p = .acked → apart f.ranges) :
    ∃ v, cs[0]? = some v ∧ Does v #[aggF f sd sr] w (BytesNew w (putP p f)) := by
  have hi : ∀ p : Part, IntPart w Tp p cs → ∃ v, cs[0]? = some v ∧ Does v #[aggF f sd sr] w (BytesNew w (encI (getP p f))) := by
    intro p ⟨h, _, hr, hcs⟩
    subst hcs
    exact ⟨_, rfl, _, _, rfl, Tryd.call90, integer1_any f sd sr w p h hT hr⟩
  have hd : ∀ p : Part, DataPart w Tp p cs → ∃ v, cs[0]? = some v ∧ Does v #[aggF f sd sr] w (BytesNew w (aheadM p f.data.length ++ f.data)) := by
    intro p ⟨h, k, _, _, hr, hk, hcs⟩
    subst hcs
    exact ⟨_, rfl, _, _, rfl, Tryd.call93, data1_any f sd sr w T p h hT hf hr⟩
  cases p
  case id => exact hi _ hp
  case amount => exact hi _ hp
  case code => exact hi _ hp
  case counted => exact hd _ hp
  case shortly => exact hd _ hp
  case challenge => exact hd _ hp
  case allLeft => exact hd _ hp
  case token => obtain rfl := hp; exact ⟨_, rfl, _, _, rfl, Tryd.call74, token1_any f sd sr w hf.tok⟩
  case zeros => obtain rfl := hp; exact ⟨_, rfl, _, _, rfl, Tryd.call59, zeros1_any f sd sr w (hz rfl).1 (hz rfl).2⟩
  case acked =>
    obtain rfl := hp
    have hap := ha rfl
    obtain ⟨x, xs, hr⟩ : ∃ x xs, f.ranges = x :: xs := by
      cases h : f.ranges with
      | nil => rw [h] at hap; exact absurd hap.1 (by simp)
      | cons x xs => exact ⟨x, xs, rfl⟩
    exact ⟨_, rfl, _, _, rfl, Tryd.call84, putAcked_any f sd sr w T x xs hr hT hf of hap⟩
  case dropped => obtain rfl := hp; exact ⟨_, rfl, _, _, rfl, Tryd.call87, dropped1_any f sd sr w⟩
end

theorem parts_does (pf : PF) (v : Value) (t : Nat) (w : World) (T : Nat → Prop) (h : PFIs w T pf v) (ht : t < 18446744073709551616) (hl : ∀ l, pf = .list l → l.length ≤ 100) : Does v #[.int .u64 t] w (PartsNew w (pf.parts t)) := by
  cases pf
  case list l =>
    obtain ⟨g, A, c, _, h2, h3, rfl⟩ := h
    exact ⟨_, _, rfl, Tryd.call58, of1_any l _ g A c w T h2 h3 (hl l rfl)⟩
  case ack => obtain rfl := h; exact ⟨_, _, rfl, Tryd.call32, ackParts_any t w ht⟩
  case stream => obtain rfl := h; exact ⟨_, _, rfl, Tryd.call42, streamParts_any t w ht⟩
  case close => obtain rfl := h; exact ⟨_, _, rfl, Tryd.call49, closeParts_any t w ht⟩

/-- What a function of a kind's tells of a frame. -/
def fitsB (n : Nat) (f : Fr) : Bool :=
  if n = 31 then decide (1 ≤ f.a ∧ f.a ≤ 1200)
  else if n = 33 then decide (apart f.ranges)
  else if n = 39 then decide (f.data.length ≤ 1200 ∧ f.a + f.data.length ≤ 4611686018427387903)
  else if n = 40 then decide (1 ≤ f.data.length ∧ f.data.length ≤ 1200)
  else if n = 43 then decide (f.a ≤ 1152921504606846976)
  else if n = 46 then decide (f.a ≤ f.id ∧ 1 ≤ f.data.length ∧ f.data.length ≤ 20)
  else if n = 48 then decide (f.data.length = 8)
  else decide (f.data.length ≤ 1200)
def fitFns : List Nat := [31, 33, 39, 40, 43, 46, 48, 50]

theorem fits_any (n : Nat) (hn : n ∈ fitFns) (f : Fr) (sd sr : Value) (w : World) (T : Nat → Prop) (hf : FrD w T f sd sr) (of : f.Ok) :
    Does (fnv n) #[aggF f sd sr] w fun e w' => e = .returned (.bool (fitsB n f)) ∧ Chg none_ w w' := by
  have h24 := cF_len f sd sr hf.tok
  have hok := hf
  obtain ⟨_, ⟨A, c, rfl, hdl, _⟩, _⟩ := hf
  have c1 := cF_1 f (.slice A f.data.length c) sr
  have c2 := cF_2 f (.slice A f.data.length c) sr
  have c6 := cF_6 f (.slice A f.data.length c) sr
  simp only [fitFns, List.mem_cons, List.not_mem_nil, or_false] at hn
  rcases hn with rfl | rfl | rfl | rfl | rfl | rfl | rfl | rfl
  · exact ⟨_, _, rfl, Tryd.call31, fits_zeros _ f.a w c2⟩
  · exact ⟨_, _, rfl, Tryd.call33, fits_ack f _ sr w T hok of⟩
  · exact ⟨_, _, rfl, Tryd.call39, fits_place _ A f.data.length c f.a w c2 c6 h24 hdl⟩
  · exact ⟨_, _, rfl, Tryd.call40, fits_token _ A f.data.length c w c6 h24⟩
  · exact ⟨_, _, rfl, Tryd.call43, fits_streams _ f.a w c2⟩
  · exact ⟨_, _, rfl, Tryd.call46, fits_cid _ A f.data.length c f.a f.id w c1 c2 c6 h24⟩
  · exact ⟨_, _, rfl, Tryd.call48, fits_challenge _ A f.data.length c w c6 h24⟩
  · exact ⟨_, _, rfl, Tryd.call50, fits_close _ A f.data.length c w c6 h24⟩

/-- What every kind of the map keeps. -/
def KD.Good (d : KD) : Prop := (∀ l, d.pf = .list l → l.length ≤ 100) ∧ ∀ n, d.fits = some n → n ∈ fitFns
theorem kd_good : ∀ x ∈ kdL, x.2.Good := by
  intro x hx
  simp only [kdL, List.mem_cons, List.not_mem_nil, or_false] at hx
  rcases hx with rfl | rfl | rfl | rfl | rfl | rfl | rfl | rfl | rfl | rfl | rfl | rfl | rfl | rfl | rfl | rfl | rfl | rfl | rfl | rfl
  all_goals refine ⟨fun l h => ?_, fun n h => ?_⟩
  all_goals first | (injection h with h; subst h; decide) | (cases h)
theorem kdM_good {k : Nat} {d : KD} (h : kdM k = some d) : d.Good := by
  unfold kdM at h
  simp only [Option.map_eq_some_iff] at h
  obtain ⟨x, hx, rfl⟩ := h
  exact kd_good x (List.mem_of_find?_eq_some hx)
theorem kdM_lt {k : Nat} {d : KD} (h : kdM k = some d) : k ≤ 30 := by
  unfold kdM at h
  simp only [Option.map_eq_some_iff] at h
  obtain ⟨x, hx, _⟩ := h
  have h1 := List.find?_some hx
  have h2 := List.mem_of_find?_eq_some hx
  have h3 : x.1 = k := by simpa using h1
  rw [← h3]
  simp only [kdL, List.mem_cons, List.not_mem_nil, or_false] at h2
  rcases h2 with rfl | rfl | rfl | rfl | rfl | rfl | rfl | rfl | rfl | rfl | rfl | rfl | rfl | rfl | rfl | rfl | rfl | rfl | rfl | rfl <;> decide
end Go.Proofs.YtlcffjmbfpdlbaaDoor
