/- Layer 3 (frames): the map of all kinds. -/
import Derived.Test.YtlcffjmbfpdlbaaDoorV3Of
import Derived.Test.YtlcffjmbfpdlbaaDoorMap
namespace Go.Proofs.YtlcffjmbfpdlbaaDoor
open Go.RowKit

/-- How a kind tells its parts. -/
inductive PF where
  | list (l : List Part) | ack | stream | close
def PF.parts : PF → Nat → List Part
  | .list l, _ => l
  | .ack, t => ackParts t
  | .stream, t => streamParts t
  | .close, t => closeParts t
/-- A kind: is the lowest bit of its types the Flag; its parts; which function tells if its frames may be. -/
structure KD where
  flagged : Bool
  pf : PF
  fits : Option Nat

def kdL : List (Nat × KD) := [(0, ⟨false, .list [.zeros], some 31⟩),
  (1, ⟨false, .list [], none⟩),
  (2, ⟨false, .ack, some 33⟩),
  (4, ⟨false, .list [.id, .code, .amount], none⟩),
  (5, ⟨false, .list [.id, .code], none⟩),
  (6, ⟨false, .list [.amount, .counted], some 39⟩),
  (7, ⟨false, .list [.counted], some 40⟩),
  (8, ⟨true, .stream, some 39⟩),
  (16, ⟨false, .list [.amount], none⟩),
  (17, ⟨false, .list [.id, .amount], none⟩),
  (18, ⟨true, .list [.amount], some 43⟩),
  (20, ⟨false, .list [.amount], none⟩),
  (21, ⟨false, .list [.id, .amount], none⟩),
  (22, ⟨true, .list [.amount], some 43⟩),
  (24, ⟨false, .list [.id, .amount, .shortly, .token], some 46⟩),
  (25, ⟨false, .list [.id], none⟩),
  (26, ⟨false, .list [.challenge], some 48⟩),
  (27, ⟨false, .list [.challenge], some 48⟩),
  (28, ⟨true, .close, some 50⟩),
  (30, ⟨false, .list [], none⟩)]
def kdM (k : Nat) : Option KD := (kdL.find? fun x => x.1 == k).map (·.2)

def fitsV : Option Nat → Value
  | none => .nilFunc
  | some n => fnv n
def PFIs (w : World) (T : Nat → Prop) : PF → Value → Prop
  | .list l, v => ∃ g A c, T g ∧ Row w g 73 [.slice A l.length c] ∧ View w T A l.length (l.map fun p => fnv (makerFn p)) ∧ v = clo 58 g
  | .ack, v => v = fnv 32
  | .stream, v => v = fnv 42
  | .close, v => v = fnv 49
def KindIs (w : World) (T : Nat → Prop) (d : KD) (cs : List Value) : Prop := ∃ pv, PFIs w T d.pf pv ∧ cs = [.bool d.flagged, pv, fitsV d.fits]

theorem PFIs.chg {w w' : World} {T S : Nat → Prop} {p : PF} {v : Value} (h : PFIs w T p v) (hc : Chg S w w') (hs : ∀ b, T b → ¬ S b) : PFIs w' T p v := by
  cases p
  case list l => obtain ⟨g, A, c, h1, h2, h3, h4⟩ := h; exact ⟨g, A, c, h1, h2.chg hc (hs g h1), h3.chg hc hs, h4⟩
  all_goals exact h
theorem PFIs.mono {w : World} {T T' : Nat → Prop} {p : PF} {v : Value} (h : PFIs w T p v) (hs : ∀ b, b < w.heap.size → T b → T' b) : PFIs w T' p v := by
  cases p
  case list l => obtain ⟨g, A, c, h1, h2, h3, h4⟩ := h; exact ⟨g, A, c, hs g h2.lt h1, h2, h3.mono hs, h4⟩
  all_goals exact h
theorem KindIs.chg {w w' : World} {T S : Nat → Prop} {d : KD} {cs : List Value} (h : KindIs w T d cs) (hc : Chg S w w') (hs : ∀ b, T b → ¬ S b) : KindIs w' T d cs := by
  obtain ⟨pv, h1, h2⟩ := h; exact ⟨pv, h1.chg hc hs, h2⟩
theorem KindIs.mono {w : World} {T T' : Nat → Prop} {d : KD} {cs : List Value} (h : KindIs w T d cs) (hs : ∀ b, b < w.heap.size → T b → T' b) : KindIs w T' d cs := by
  obtain ⟨pv, h1, h2⟩ := h; exact ⟨pv, h1.mono hs, h2⟩

/-- A map's elements are these kinds. -/
def KL (w : World) (T : Nat → Prop) : List (Nat × Value) → List (Nat × KD) → Prop
  | [], [] => True
  | x :: es, y :: ks => (x.1 = y.1 ∧ ∃ cs, x.2 = .agg cs.toArray ∧ KindIs w T y.2 cs) ∧ KL w T es ks
  | _, _ => False
theorem KL.chg {w w' : World} {T S : Nat → Prop} (hc : Chg S w w') (hs : ∀ b, T b → ¬ S b) : ∀ {es : List (Nat × Value)} {ks : List (Nat × KD)}, KL w T es ks → KL w' T es ks
  | [], [], _ => trivial
  | _ :: _, _ :: _, ⟨⟨h1, cs, h2, h3⟩, h4⟩ => ⟨⟨h1, cs, h2, h3.chg hc hs⟩, KL.chg hc hs h4⟩
  | [], _ :: _, h => h.elim
  | _ :: _, [], h => h.elim
theorem KL.mono {w : World} {T T' : Nat → Prop} (hs : ∀ b, b < w.heap.size → T b → T' b) : ∀ {es : List (Nat × Value)} {ks : List (Nat × KD)}, KL w T es ks → KL w T' es ks
  | [], [], _ => trivial
  | _ :: _, _ :: _, ⟨⟨h1, cs, h2, h3⟩, h4⟩ => ⟨⟨h1, cs, h2, h3.mono hs⟩, KL.mono hs h4⟩
  | [], _ :: _, h => h.elim
  | _ :: _, [], h => h.elim
theorem KL.snoc {w : World} {T : Nat → Prop} {k : Nat} {d : KD} {cs : List Value} (hk : KindIs w T d cs) : ∀ {es : List (Nat × Value)} {ks : List (Nat × KD)}, KL w T es ks → KL w T (es ++ [(k, .agg cs.toArray)]) (ks ++ [(k, d)])
  | [], [], _ => ⟨⟨rfl, cs, rfl, hk⟩, trivial⟩
  | _ :: _, _ :: _, ⟨h1, h2⟩ => ⟨h1, KL.snoc hk h2⟩
  | [], _ :: _, h => h.elim
  | _ :: _, [], h => h.elim
theorem KL.look {w : World} {T : Nat → Prop} (k : Nat) : ∀ {es : List (Nat × Value)} {ks : List (Nat × KD)}, KL w T es ks →
    (look es k = none ∧ (ks.find? fun x => x.1 == k) = none) ∨ ∃ d cs, look es k = some (.agg cs.toArray) ∧ (ks.find? fun x => x.1 == k) = some (k, d) ∧ KindIs w T d cs
  | [], [], _ => .inl ⟨rfl, rfl⟩
  | x :: es, y :: ks, ⟨⟨h1, cs, h2, h3⟩, h4⟩ => by
    by_cases hk : x.1 = k
    · refine .inr ⟨y.2, cs, by simp [Proofs.YtlcffjmbfpdlbaaDoor.look, hk, h2], ?_, h3⟩
      have : (y.1 == k) = true := by rw [← h1]; simpa using hk
      simp [this]
      rw [← hk, h1]
    · have e1 : (x.1 == k) = false := by simpa using hk
      have e2 : (y.1 == k) = false := by rw [← h1]; simpa using hk
      rcases KL.look k h4 with ⟨h5, h6⟩ | ⟨d, cs', h5, h6, h7⟩
      · exact .inl ⟨by simpa [Proofs.YtlcffjmbfpdlbaaDoor.look, List.find?_cons, e1] using h5, by simpa [List.find?_cons, e2] using h6⟩
      · exact .inr ⟨d, cs', by simpa [Proofs.YtlcffjmbfpdlbaaDoor.look, List.find?_cons, e1] using h5, by simpa [List.find?_cons, e2] using h6, h7⟩
  | [], _ :: _, h => h.elim
  | _ :: _, [], h => h.elim
theorem KL.new {w : World} {T : Nat → Prop} {es : List (Nat × Value)} {ks : List (Nat × KD)} (h : KL w T es ks) {k : Nat} (hn : (ks.any fun x => x.1 == k) = false) : Proofs.YtlcffjmbfpdlbaaDoor.look es k = none := by
  rcases h.look k with ⟨h1, _⟩ | ⟨d, cs, _, h2, _⟩
  · exact h1
  · rw [List.any_eq_false] at hn
    exact absurd (by simp) (hn _ (List.mem_of_find?_eq_some h2))

/-- All kinds, in block g. -/
def KindsAt (w : World) (T : Nat → Prop) (g : Nat) : Prop := ∃ es, MapOf w g es ∧ KL w T es kdL
theorem KindsAt.chg {w w' : World} {T S : Nat → Prop} {g : Nat} (h : KindsAt w T g) (hc : Chg S w w') (hg : ¬ S g) (hs : ∀ b, T b → ¬ S b) : KindsAt w' T g := by
  obtain ⟨es, h1, h2⟩ := h; exact ⟨es, h1.chg hc hg, h2.chg hc hs⟩

theorem of_any (A : Option Addr) (n c : Nat) (w : World) : Calls Tryd.prog 29 #[.slice A n c] w fun e w' => ∃ g, e = .returned (.func (.func 58) #[] #[.pointer (some ⟨g, 0, none⟩)]) ∧ w.heap.size ≤ g ∧ Row w' g 73 [.slice A n c] ∧ Chg none_ w w' := by
  go_enter Tryd.func29, Tryd.ntmps29
  go_wp2
  go_ret
  exact ⟨w.heap.size, rfl, Nat.le_refl _, Row.new w _ [_], (Chg.refl none_ w).alloc _⟩

/-- One state of the map that is being made. -/
structure Mk (w wi : World) (es : List (Nat × Value)) (ks : List (Nat × KD)) : Prop where
  map : MapOf wi w.heap.size es
  kl : KL wi (fun b => w.heap.size < b) es ks
  chg : Chg none_ w wi
theorem Mk.step {w wi wj : World} {es : List (Nat × Value)} {ks : List (Nat × KD)} (h : Mk w wi es ks) (hc : Chg none_ wi wj) : Mk w wj es ks :=
  ⟨h.map.chg hc (fun h => h), h.kl.chg hc (fun _ _ h => h), h.chg.trans hc⟩
theorem Mk.put {w wi wj : World} {es : List (Nat × Value)} {ks : List (Nat × KD)} {k : Nat} {d : KD} {cs : List Value} (h : Mk w wi es ks) (hk : KindIs wi (fun b => w.heap.size < b) d cs) (hm : MapOf wj w.heap.size (es ++ [(k, .agg cs.toArray)])) (hc : Chg (· = w.heap.size) wi wj) :
    Mk w wj (es ++ [(k, .agg cs.toArray)]) (ks ++ [(k, d)]) :=
  ⟨hm, (KL.snoc hk h.kl).chg hc (fun b hb h => by have : b = w.heap.size := h; omega), h.chg.andThen hc (fun b hb h => by have : b = w.heap.size := h; omega)⟩
theorem Mk.at_ {w wi : World} {es : List (Nat × Value)} {ks : List (Nat × KD)} (h : Mk w wi es ks) : w.heap.size < wi.heap.size := h.map.lt
/-- A list of makers in a new block, and the closure over it. -/
theorem Mk.kind {w wi wj : World} {es : List (Nat × Value)} {ks : List (Nat × KD)} (h : Mk w wi es ks) {l : List Part} {g : Nat} (hr : Row wj g 73 [.slice (some ⟨wi.heap.size, 0, none⟩) l.length l.length]) {e : TypeId}
    (hc : Chg none_ (wi.alloc (.cells (l.map fun p => fnv (makerFn p)).toArray e)) wj) (hg : (wi.alloc (.cells (l.map fun p => fnv (makerFn p)).toArray e)).heap.size ≤ g) (fl : Bool) (f : Option Nat) :
    KindIs wj (fun b => w.heap.size < b) ⟨fl, .list l, f⟩ [.bool fl, clo 58 g, fitsV f] := by
  have ha := h.at_
  simp at hg
  refine ⟨_, ⟨g, _, _, by omega, hr, ?_, rfl⟩, rfl⟩
  have hv := View.row (T := fun b => w.heap.size < b) ((Row.new wi e (l.map fun p => fnv (makerFn p))).chg hc (fun h => h)) (n := l.length) (by simp) ha
  rw [List.take_of_length_le (by simp)] at hv
  exact hv
theorem Mk.kind0 {w wi wj : World} {es : List (Nat × Value)} {ks : List (Nat × KD)} (h : Mk w wi es ks) {g : Nat} (hr : Row wj g 73 [.slice none 0 0]) (hg : wi.heap.size ≤ g) (fl : Bool) (f : Option Nat) :
    KindIs wj (fun b => w.heap.size < b) ⟨fl, .list [], f⟩ [.bool fl, clo 58 g, fitsV f] := by
  have ha := h.at_
  exact ⟨_, ⟨g, none, 0, by omega, hr, View.none_ _ _ _, rfl⟩, rfl⟩

set_option maxRecDepth 100000 in
set_option maxHeartbeats 4000000 in
theorem kinds_any (w : World) : Calls Tryd.prog 15 #[] w fun e w' => e = .returned (.map (some w.heap.size)) ∧ KindsAt w' (fun b => w.heap.size < b) w.heap.size ∧ Chg none_ w w' := by
  have M0 : Mk w (w.alloc (.map #[] 0)) [] [] := ⟨MapOf.made w, trivial, (Chg.refl none_ w).alloc _⟩
  have hmm := @run_makeMap Tryd.prog
  go_enter Tryd.func15, Tryd.ntmps15
  simp only [List.append_eq, List.cons_append, List.nil_append]
  go_wp2_with fail
  refine (of_any _ _ _ _).mono ?_
  rintro e u0 ⟨g0, rfl, hg, hr, hc⟩
  have K0 := M0.kind (l := [.zeros]) (by first | exact hr | simpa using hr) hc hg false (some 31)
  have N0 := M0.step (((Chg.refl none_ _).alloc _).trans hc)
  clear hg hr hc
  go_wp2_with (first | ((with_reducible show wpList _ _ _ (⟨_, .insert _ _ _ _, _, _, _, _⟩ :: _) _ _); (refine wpList_insert (k := 0) rfl rfl rfl rfl rfl Tryd.underlying43 Tryd.underlying22 N0.map (N0.kl.new rfl) ?_; intro w1 hm hc; have M1 := N0.put (k := 0) K0 hm hc; clear hm hc)))
  clear N0 K0 M0
  refine (of_any _ _ _ _).mono ?_
  rintro e u1 ⟨g1, rfl, hg, hr, hc⟩
  have K1 := M1.kind0 hr hg false (none)
  have N1 := M1.step hc
  clear hg hr hc
  go_wp2_with (first | ((with_reducible show wpList _ _ _ (⟨_, .insert _ _ _ _, _, _, _, _⟩ :: _) _ _); (refine wpList_insert (k := 1) rfl rfl rfl rfl rfl Tryd.underlying43 Tryd.underlying22 N1.map (N1.kl.new rfl) ?_; intro w2 hm hc; have M2 := N1.put (k := 1) K1 hm hc; clear hm hc)) | ((with_reducible show wpList _ _ _ (⟨_, .insert _ _ _ _, _, _, _, _⟩ :: _) _ _); (refine wpList_insert (k := 2) rfl rfl rfl rfl rfl Tryd.underlying43 Tryd.underlying22 M2.map (M2.kl.new rfl) ?_; intro w3 hm hc; have M3 := M2.put (k := 2) (show KindIs _ _ ⟨false, .ack, some 33⟩ _ from ⟨_, rfl, rfl⟩) hm hc; clear hm hc)))
  clear N1 K1 M1 M2
  refine (of_any _ _ _ _).mono ?_
  rintro e u3 ⟨g3, rfl, hg, hr, hc⟩
  have K3 := M3.kind (l := [.id, .code, .amount]) (by first | exact hr | simpa using hr) hc hg false (none)
  have N3 := M3.step (((Chg.refl none_ _).alloc _).trans hc)
  clear hg hr hc
  go_wp2_with (first | ((with_reducible show wpList _ _ _ (⟨_, .insert _ _ _ _, _, _, _, _⟩ :: _) _ _); (refine wpList_insert (k := 4) rfl rfl rfl rfl rfl Tryd.underlying43 Tryd.underlying22 N3.map (N3.kl.new rfl) ?_; intro w4 hm hc; have M4 := N3.put (k := 4) K3 hm hc; clear hm hc)))
  clear N3 K3 M3
  refine (of_any _ _ _ _).mono ?_
  rintro e u4 ⟨g4, rfl, hg, hr, hc⟩
  have K4 := M4.kind (l := [.id, .code]) (by first | exact hr | simpa using hr) hc hg false (none)
  have N4 := M4.step (((Chg.refl none_ _).alloc _).trans hc)
  clear hg hr hc
  go_wp2_with (first | ((with_reducible show wpList _ _ _ (⟨_, .insert _ _ _ _, _, _, _, _⟩ :: _) _ _); (refine wpList_insert (k := 5) rfl rfl rfl rfl rfl Tryd.underlying43 Tryd.underlying22 N4.map (N4.kl.new rfl) ?_; intro w5 hm hc; have M5 := N4.put (k := 5) K4 hm hc; clear hm hc)))
  clear N4 K4 M4
  refine (of_any _ _ _ _).mono ?_
  rintro e u5 ⟨g5, rfl, hg, hr, hc⟩
  have K5 := M5.kind (l := [.amount, .counted]) (by first | exact hr | simpa using hr) hc hg false (some 39)
  have N5 := M5.step (((Chg.refl none_ _).alloc _).trans hc)
  clear hg hr hc
  go_wp2_with (first | ((with_reducible show wpList _ _ _ (⟨_, .insert _ _ _ _, _, _, _, _⟩ :: _) _ _); (refine wpList_insert (k := 6) rfl rfl rfl rfl rfl Tryd.underlying43 Tryd.underlying22 N5.map (N5.kl.new rfl) ?_; intro w6 hm hc; have M6 := N5.put (k := 6) K5 hm hc; clear hm hc)))
  clear N5 K5 M5
  refine (of_any _ _ _ _).mono ?_
  rintro e u6 ⟨g6, rfl, hg, hr, hc⟩
  have K6 := M6.kind (l := [.counted]) (by first | exact hr | simpa using hr) hc hg false (some 40)
  have N6 := M6.step (((Chg.refl none_ _).alloc _).trans hc)
  clear hg hr hc
  go_wp2_with (first | ((with_reducible show wpList _ _ _ (⟨_, .insert _ _ _ _, _, _, _, _⟩ :: _) _ _); (refine wpList_insert (k := 7) rfl rfl rfl rfl rfl Tryd.underlying43 Tryd.underlying22 N6.map (N6.kl.new rfl) ?_; intro w7 hm hc; have M7 := N6.put (k := 7) K6 hm hc; clear hm hc)) | ((with_reducible show wpList _ _ _ (⟨_, .insert _ _ _ _, _, _, _, _⟩ :: _) _ _); (refine wpList_insert (k := 8) rfl rfl rfl rfl rfl Tryd.underlying43 Tryd.underlying22 M7.map (M7.kl.new rfl) ?_; intro w8 hm hc; have M8 := M7.put (k := 8) (show KindIs _ _ ⟨true, .stream, some 39⟩ _ from ⟨_, rfl, rfl⟩) hm hc; clear hm hc)))
  clear N6 K6 M6 M7
  refine (of_any _ _ _ _).mono ?_
  rintro e u8 ⟨g8, rfl, hg, hr, hc⟩
  have K8 := M8.kind (l := [.amount]) (by first | exact hr | simpa using hr) hc hg false (none)
  have N8 := M8.step (((Chg.refl none_ _).alloc _).trans hc)
  clear hg hr hc
  go_wp2_with (first | ((with_reducible show wpList _ _ _ (⟨_, .insert _ _ _ _, _, _, _, _⟩ :: _) _ _); (refine wpList_insert (k := 16) rfl rfl rfl rfl rfl Tryd.underlying43 Tryd.underlying22 N8.map (N8.kl.new rfl) ?_; intro w9 hm hc; have M9 := N8.put (k := 16) K8 hm hc; clear hm hc)))
  clear N8 K8 M8
  refine (of_any _ _ _ _).mono ?_
  rintro e u9 ⟨g9, rfl, hg, hr, hc⟩
  have K9 := M9.kind (l := [.id, .amount]) (by first | exact hr | simpa using hr) hc hg false (none)
  have N9 := M9.step (((Chg.refl none_ _).alloc _).trans hc)
  clear hg hr hc
  go_wp2_with (first | ((with_reducible show wpList _ _ _ (⟨_, .insert _ _ _ _, _, _, _, _⟩ :: _) _ _); (refine wpList_insert (k := 17) rfl rfl rfl rfl rfl Tryd.underlying43 Tryd.underlying22 N9.map (N9.kl.new rfl) ?_; intro w10 hm hc; have M10 := N9.put (k := 17) K9 hm hc; clear hm hc)))
  clear N9 K9 M9
  refine (of_any _ _ _ _).mono ?_
  rintro e u10 ⟨g10, rfl, hg, hr, hc⟩
  have K10 := M10.kind (l := [.amount]) (by first | exact hr | simpa using hr) hc hg true (some 43)
  have N10 := M10.step (((Chg.refl none_ _).alloc _).trans hc)
  clear hg hr hc
  go_wp2_with (first | ((with_reducible show wpList _ _ _ (⟨_, .insert _ _ _ _, _, _, _, _⟩ :: _) _ _); (refine wpList_insert (k := 18) rfl rfl rfl rfl rfl Tryd.underlying43 Tryd.underlying22 N10.map (N10.kl.new rfl) ?_; intro w11 hm hc; have M11 := N10.put (k := 18) K10 hm hc; clear hm hc)))
  clear N10 K10 M10
  refine (of_any _ _ _ _).mono ?_
  rintro e u11 ⟨g11, rfl, hg, hr, hc⟩
  have K11 := M11.kind (l := [.amount]) (by first | exact hr | simpa using hr) hc hg false (none)
  have N11 := M11.step (((Chg.refl none_ _).alloc _).trans hc)
  clear hg hr hc
  go_wp2_with (first | ((with_reducible show wpList _ _ _ (⟨_, .insert _ _ _ _, _, _, _, _⟩ :: _) _ _); (refine wpList_insert (k := 20) rfl rfl rfl rfl rfl Tryd.underlying43 Tryd.underlying22 N11.map (N11.kl.new rfl) ?_; intro w12 hm hc; have M12 := N11.put (k := 20) K11 hm hc; clear hm hc)))
  clear N11 K11 M11
  refine (of_any _ _ _ _).mono ?_
  rintro e u12 ⟨g12, rfl, hg, hr, hc⟩
  have K12 := M12.kind (l := [.id, .amount]) (by first | exact hr | simpa using hr) hc hg false (none)
  have N12 := M12.step (((Chg.refl none_ _).alloc _).trans hc)
  clear hg hr hc
  go_wp2_with (first | ((with_reducible show wpList _ _ _ (⟨_, .insert _ _ _ _, _, _, _, _⟩ :: _) _ _); (refine wpList_insert (k := 21) rfl rfl rfl rfl rfl Tryd.underlying43 Tryd.underlying22 N12.map (N12.kl.new rfl) ?_; intro w13 hm hc; have M13 := N12.put (k := 21) K12 hm hc; clear hm hc)))
  clear N12 K12 M12
  refine (of_any _ _ _ _).mono ?_
  rintro e u13 ⟨g13, rfl, hg, hr, hc⟩
  have K13 := M13.kind (l := [.amount]) (by first | exact hr | simpa using hr) hc hg true (some 43)
  have N13 := M13.step (((Chg.refl none_ _).alloc _).trans hc)
  clear hg hr hc
  go_wp2_with (first | ((with_reducible show wpList _ _ _ (⟨_, .insert _ _ _ _, _, _, _, _⟩ :: _) _ _); (refine wpList_insert (k := 22) rfl rfl rfl rfl rfl Tryd.underlying43 Tryd.underlying22 N13.map (N13.kl.new rfl) ?_; intro w14 hm hc; have M14 := N13.put (k := 22) K13 hm hc; clear hm hc)))
  clear N13 K13 M13
  refine (of_any _ _ _ _).mono ?_
  rintro e u14 ⟨g14, rfl, hg, hr, hc⟩
  have K14 := M14.kind (l := [.id, .amount, .shortly, .token]) (by first | exact hr | simpa using hr) hc hg false (some 46)
  have N14 := M14.step (((Chg.refl none_ _).alloc _).trans hc)
  clear hg hr hc
  go_wp2_with (first | ((with_reducible show wpList _ _ _ (⟨_, .insert _ _ _ _, _, _, _, _⟩ :: _) _ _); (refine wpList_insert (k := 24) rfl rfl rfl rfl rfl Tryd.underlying43 Tryd.underlying22 N14.map (N14.kl.new rfl) ?_; intro w15 hm hc; have M15 := N14.put (k := 24) K14 hm hc; clear hm hc)))
  clear N14 K14 M14
  refine (of_any _ _ _ _).mono ?_
  rintro e u15 ⟨g15, rfl, hg, hr, hc⟩
  have K15 := M15.kind (l := [.id]) (by first | exact hr | simpa using hr) hc hg false (none)
  have N15 := M15.step (((Chg.refl none_ _).alloc _).trans hc)
  clear hg hr hc
  go_wp2_with (first | ((with_reducible show wpList _ _ _ (⟨_, .insert _ _ _ _, _, _, _, _⟩ :: _) _ _); (refine wpList_insert (k := 25) rfl rfl rfl rfl rfl Tryd.underlying43 Tryd.underlying22 N15.map (N15.kl.new rfl) ?_; intro w16 hm hc; have M16 := N15.put (k := 25) K15 hm hc; clear hm hc)))
  clear N15 K15 M15
  refine (of_any _ _ _ _).mono ?_
  rintro e u16 ⟨g16, rfl, hg, hr, hc⟩
  have K16 := M16.kind (l := [.challenge]) (by first | exact hr | simpa using hr) hc hg false (some 48)
  have N16 := M16.step (((Chg.refl none_ _).alloc _).trans hc)
  clear hg hr hc
  go_wp2_with (first | ((with_reducible show wpList _ _ _ (⟨_, .insert _ _ _ _, _, _, _, _⟩ :: _) _ _); (refine wpList_insert (k := 26) rfl rfl rfl rfl rfl Tryd.underlying43 Tryd.underlying22 N16.map (N16.kl.new rfl) ?_; intro w17 hm hc; have M17 := N16.put (k := 26) K16 hm hc; clear hm hc)))
  clear N16 K16 M16
  refine (of_any _ _ _ _).mono ?_
  rintro e u17 ⟨g17, rfl, hg, hr, hc⟩
  have K17 := M17.kind (l := [.challenge]) (by first | exact hr | simpa using hr) hc hg false (some 48)
  have N17 := M17.step (((Chg.refl none_ _).alloc _).trans hc)
  clear hg hr hc
  go_wp2_with (first | ((with_reducible show wpList _ _ _ (⟨_, .insert _ _ _ _, _, _, _, _⟩ :: _) _ _); (refine wpList_insert (k := 27) rfl rfl rfl rfl rfl Tryd.underlying43 Tryd.underlying22 N17.map (N17.kl.new rfl) ?_; intro w18 hm hc; have M18 := N17.put (k := 27) K17 hm hc; clear hm hc)) | ((with_reducible show wpList _ _ _ (⟨_, .insert _ _ _ _, _, _, _, _⟩ :: _) _ _); (refine wpList_insert (k := 28) rfl rfl rfl rfl rfl Tryd.underlying43 Tryd.underlying22 M18.map (M18.kl.new rfl) ?_; intro w19 hm hc; have M19 := M18.put (k := 28) (show KindIs _ _ ⟨true, .close, some 50⟩ _ from ⟨_, rfl, rfl⟩) hm hc; clear hm hc)))
  clear N17 K17 M17 M18
  refine (of_any _ _ _ _).mono ?_
  rintro e u19 ⟨g19, rfl, hg, hr, hc⟩
  have K19 := M19.kind0 hr hg false (none)
  have N19 := M19.step hc
  clear hg hr hc
  go_wp2_with (first | ((with_reducible show wpList _ _ _ (⟨_, .insert _ _ _ _, _, _, _, _⟩ :: _) _ _); (refine wpList_insert (k := 30) rfl rfl rfl rfl rfl Tryd.underlying43 Tryd.underlying22 N19.map (N19.kl.new rfl) ?_; intro w20 hm hc; have M20 := N19.put (k := 30) K19 hm hc; clear hm hc)))
  go_ret
  exact ⟨rfl, ⟨_, M20.map, M20.kl⟩, M20.chg⟩
end Go.Proofs.YtlcffjmbfpdlbaaDoor
