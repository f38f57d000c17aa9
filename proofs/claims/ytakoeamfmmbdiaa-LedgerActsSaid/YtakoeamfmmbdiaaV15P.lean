/- Layer 15 (ledger): the program's calls, told over plain packets. -/
import Derived.Test.YtakoeamfmmbdiaaV15Send
import Derived.Test.YtakoeamfmmbdiaaV15Ack
import Derived.Test.YtakoeamfmmbdiaaV15Read
import Derived.Test.YtakoeamfmmbdiaaV15List
namespace Go.Proofs.Ytakoeamfmmbdiaa
open Go.RowKit

def badS (r : List (Nat × Nat)) (next : Nat) : Bool := badR r next
def inS (r : List (Nat × Nat)) (s : Sn) : Bool := r.any fun y => decide (y.1 ≤ s.num.toNat) && decide (s.num.toNat ≤ y.2)
def maxS (above : Nat) (P : List Sn) : Nat := P.foldl (fun a s => max a (s.num.toNat + 1)) above
def lostS (above delay now : Nat) (s : Sn) : Bool := lostB s.num s.at_ ((above : Int) - 1) delay now
def dueP (above delay : Nat) (P : List Sn) : Nat := P.foldl (fun d s => if s.num < (above : Int) - 1 then min d (addN s.at_ delay) else d) 18446744073709551615
def flNs (P : List Sn) : Nat := (P.filter (fun s => s.ask)).length
def flBs (P : List Sn) : Nat := (P.filter (fun s => s.ask)).foldl (fun b s => b + s.size.toNat) 0

theorem map_filter_pl (q : It → Bool) (qs : Sn → Bool) (h : ∀ x, q x = qs x.pl) (l : List It) : (l.filter q).map It.pl = (l.map It.pl).filter qs := by
  rw [List.filter_map]
  congr 1
  exact List.filter_congr (fun x _ => h x)
theorem maxA_pl (a : Nat) (l : List It) : maxA a l = maxS a (l.map It.pl) := by
  unfold maxA maxS
  rw [List.foldl_map]
  rfl
theorem dueN_pl (above delay : Nat) (l : List It) : dueN above delay l = dueP above delay (l.map It.pl) := by
  unfold dueN dueP
  rw [List.foldl_map]
  rfl
theorem flN_pl (l : List It) : flN l = flNs (l.map It.pl) := by
  unfold flN flNs
  rw [← map_filter_pl (fun x => x.ask) (fun s => s.ask) (fun _ => rfl), List.length_map]
theorem flB_pl (l : List It) : flB l = flBs (l.map It.pl) := by
  unfold flB flBs
  rw [← map_filter_pl (fun x => x.ask) (fun s => s.ask) (fun _ => rfl), List.foldl_map]
  rfl

/-- What is so of the packets of every ledger. -/
structure LOk (P : List Sn) (next above : Nat) : Prop where
  each : ∀ s ∈ P, (0 ≤ s.num ∧ s.num < (next : Int)) ∧ 0 ≤ s.size ∧ s.size ≤ 1200
  len : P.length ≤ 64
  above : above ≤ next
  next : next ≤ 1000000
theorem LOk.filter {P : List Sn} {next above : Nat} (h : LOk P next above) (q : Sn → Bool) : LOk (P.filter q) next above :=
  ⟨fun s hs => h.each s (List.mem_filter.1 hs).1, Nat.le_trans (List.length_filter_le _ _) h.len, h.above, h.next⟩
theorem maxS_le {next : Nat} : ∀ (P : List Sn) (a : Nat), a ≤ next → (∀ s ∈ P, 0 ≤ s.num ∧ s.num < (next : Int)) → maxS a P ≤ next := by
  intro P
  induction P with
  | nil => intro a h _; exact h
  | cons s P ih =>
    intro a h hs
    unfold maxS at ih ⊢
    rw [List.foldl_cons]
    refine ih _ ?_ (fun y hy => hs y (by simp [hy]))
    have := hs s (by simp)
    omega
theorem LOk.items {l : List It} {next above : Nat} (h : LOk (l.map It.pl) next above) : ∀ x ∈ l, (0 ≤ x.num ∧ x.num < (next : Int)) ∧ 0 ≤ x.size ∧ x.size ≤ 1200 := fun x hx => h.each x.pl (List.mem_map_of_mem hx)
theorem LOk.count {l : List It} {next above : Nat} (h : LOk (l.map It.pl) next above) : l.length ≤ 64 := by have := h.len; rwa [List.length_map] at this

/-- A ledger of these packets: all that its calls turn are its cells, and blocks from B on. -/
def LedP (w : World) (B g : Nat) (P : List Sn) (next above : Nat) : Prop := ∃ T v l, LedAt w B g T v l next above ∧ l.map It.pl = P ∧ g < B ∧ B ≤ w.heap.size ∧ LOk P next above ∧ ∀ b, T b → B ≤ b
/-- .. so much is turned. -/
abbrev Tn (B g : Nat) : Nat → Prop := fun b => b = g ∨ B ≤ b
section
variable {w w' : World} {B g next above : Nat} {P : List Sn}
theorem LedP.quiet (h : LedP w B g P next above) (hc : Chg none_ w w') : LedP w' B g P next above := by
  obtain ⟨T, v, l, h1, h2, h3, h4, h5, h6⟩ := h
  exact ⟨T, v, l, h1.quiet hc, h2, h3, Nat.le_trans h4 hc.size, h5, h6⟩
theorem LedP.chg {S : Nat → Prop} (h : LedP w B g P next above) (hc : Chg S w w') (hg : ¬ S g) (hB : ∀ b, B ≤ b → ¬ S b) : LedP w' B g P next above := by
  obtain ⟨T, v, l, h1, h2, h3, h4, h5, h6⟩ := h
  exact ⟨T, v, l, h1.chg hc hg (fun b e => hB b (h1.own.lt e).1) (fun b hb => hB b (h6 b hb)), h2, h3, Nat.le_trans h4 hc.size, h5, h6⟩
theorem LedP.ok (h : LedP w B g P next above) : LOk P next above := by obtain ⟨T, v, l, h1, h2, h3, h4, h5, h6⟩ := h; exact h5
theorem LedP.lt (h : LedP w B g P next above) : g < B ∧ B ≤ w.heap.size := by obtain ⟨T, v, l, h1, h2, h3, h4, h5, h6⟩ := h; exact ⟨h3, h4⟩
theorem quietT (hc : Chg none_ w w') : Chg (Tn B g) w w' := hc.mono (fun _ _ h => h.elim)
theorem gT (hc : Chg (· = g) w w') : Chg (Tn B g) w w' := hc.mono (fun _ _ h => Or.inl h)

theorem LedP.zero {w : World} {g : Nat} (h : Row w g 46 [.slice none 0 0, .int .i64 0, .int .i64 0]) : LedP w w.heap.size g [] 0 0 :=
  ⟨fun _ => False, .slice none 0 0, [], ⟨h, OwnN.nil _ _ _ _ _, fun x hx => (nomatch hx), fun _ h => h.elim, fun _ h => h.elim, fun _ h => h.elim, fun e => (nomatch e)⟩, rfl, h.lt, Nat.le_refl _, ⟨fun s hs => (nomatch hs), by decide, by decide, by decide⟩, fun _ h => h.elim⟩

theorem pSend {T0 : Nat → Prop} {x : It} (h : LedP w B g P next above) (hx : ItD w T0 x) (h0 : 0 ≤ x.size) (h1 : x.size ≤ 1200) (hl : P.length < 64) (hn : next < 1000000) :
    Calls Try.prog 9 #[.pointer (some ⟨g, 0, none⟩), .agg (itc x).toArray] w fun e w' => e = .returned (.tuple #[.int .i64 (next : Int), .int .i64 0]) ∧ LedP w' B g (P ++ [{ x.pl with num := (next : Int) }]) (next + 1) above ∧ Chg (Tn B g) w w' := by
  obtain ⟨T, v, l, hL, rfl, hg, hB, ok, hTB⟩ := h
  refine (Send_any B g next above T T0 v l x w hL hx h0 h1 (by simpa using hl) hB (by omega)).mono ?_
  rintro e w' ⟨rfl, y, v', hp, hL', hc, _⟩
  refine ⟨rfl, ⟨_, v', l ++ [y], hL', by rw [List.map_append, List.map_singleton, hp], hg, Nat.le_trans hB hc.size, ⟨fun s hs => ?_, by rw [List.length_append]; simp only [List.length_map, List.length_singleton] at hl ⊢; omega, by have := ok.above; omega, by omega⟩, fun b hb => hb.elim (hTB b) (fun h => Nat.le_trans hB h.1)⟩, hc.mono (fun b _ h => h.imp id (fun e => (hL.own.lt e).1))⟩
  rcases List.mem_append.1 hs with hs | hs
  · have := ok.each s hs
    omega
  · obtain rfl : s = { x.pl with num := (next : Int) } := by simpa using hs
    exact ⟨⟨by simp, by show (next : Int) < ((next + 1 : Nat) : Int); omega⟩, h0, h1⟩
theorem pSend_bad {x : It} (hs : x.size < 0 ∨ 1200 < x.size) : Calls Try.prog 9 #[.pointer (some ⟨g, 0, none⟩), .agg (itc x).toArray] w fun e w' => e = .returned (.tuple #[.int .i64 0, .int .i64 1]) ∧ Chg none_ w w' := Send_bad g x w hs
theorem pSend_full {x : It} (h : LedP w B g P next above) (h0 : 0 ≤ x.size) (h1 : x.size ≤ 1200) (hl : 64 ≤ P.length) :
    Calls Try.prog 9 #[.pointer (some ⟨g, 0, none⟩), .agg (itc x).toArray] w fun e w' => e = .returned (.tuple #[.int .i64 0, .int .i64 5]) ∧ Chg none_ w w' := by
  obtain ⟨T, v, l, hL, rfl, hg, hB, ok, hTB⟩ := h
  exact Send_full B g next above T v l x w hL h0 h1 (by simpa using hl)

theorem pAck_bad {T0 : Nat → Prop} {r : List (Nat × Nat)} {A : Option Addr} {c : Nat} (h : LedP w B g P next above) (hv : View w T0 A (r.length * 2) (r.flatMap rgc)) (hr : r.length ≤ 1000000) (hb : badS r next = true) :
    Calls Try.prog 10 #[.pointer (some ⟨g, 0, none⟩), .slice A r.length c] w fun e w' => e = .returned (.tuple #[.slice none 0 0, .int .i64 3]) ∧ Chg none_ w w' := by
  obtain ⟨T, v, l, hL, rfl, hg, hB, ok, hTB⟩ := h
  have := ok.next
  exact Ack_bad B g next above T T0 v l r A c w hL (by omega) hv hr hb
theorem pAck {T0 : Nat → Prop} {r : List (Nat × Nat)} {A : Option Addr} {c : Nat} (h : LedP w B g P next above) (hv : View w T0 A (r.length * 2) (r.flatMap rgc)) (hr : r.length ≤ 1000000) (hb : badS r next = false) :
    Calls Try.prog 10 #[.pointer (some ⟨g, 0, none⟩), .slice A r.length c] w fun e w' => ∃ AG cg G, e = .returned (.tuple #[.slice AG (P.filter (inS r)).length cg, .int .i64 0]) ∧ OwnS w' w.heap.size (.slice AG (P.filter (inS r)).length cg) G ∧ G.map It.pl = P.filter (inS r) ∧
      LedP w' B g (P.filter (fun s => !inS r s)) next (maxS above (P.filter (inS r))) ∧ Chg (Tn B g) w w' := by
  obtain ⟨T, v, l, hL, rfl, hg, hB, ok, hTB⟩ := h
  have hn := ok.next
  refine (Ack_any B g next above T T0 v l r A c w hL (by omega) ok.above (by have := ok.count; omega) (fun x hx => (ok.items x hx).1) hv hr hb).mono ?_
  rintro e w' ⟨gv, lv, rfl, h1, h2, h3, h4⟩
  obtain ⟨AG, cg, rfl, _, _⟩ := shapeS h1
  have e1 := map_filter_pl (inR r) (inS r) (fun _ => rfl) l
  have e2 := map_filter_pl (fun x => !inR r x) (fun s => !inS r s) (fun _ => rfl) l
  have e3 : (l.filter (inR r)).length = ((l.map It.pl).filter (inS r)).length := by rw [← e1, List.length_map]
  rw [e3] at h1 ⊢
  rw [maxA_pl, e1] at h2
  refine ⟨AG, cg, _, rfl, h1, e1, ⟨T, lv, _, h2.past hB, e2, hg, Nat.le_trans hB h4.size, ⟨fun s hs => ok.each s (List.mem_filter.1 hs).1, Nat.le_trans (List.length_filter_le _ _) ok.len, maxS_le _ _ ok.above (fun s hs => (ok.each s (List.mem_filter.1 hs).1).1), ok.next⟩, hTB⟩, gT h4⟩
theorem pLost (now delay : Nat) (h : LedP w B g P next above) :
    Calls Try.prog 12 #[.pointer (some ⟨g, 0, none⟩), .int .u64 (now : Int), .int .u64 (delay : Int)] w fun e w' => ∃ AG cg G, e = .returned (.slice AG (P.filter (lostS above delay now)).length cg) ∧ OwnS w' w.heap.size (.slice AG (P.filter (lostS above delay now)).length cg) G ∧ G.map It.pl = P.filter (lostS above delay now) ∧
      LedP w' B g (P.filter (fun s => !lostS above delay now s)) next above ∧ Chg (Tn B g) w w' := by
  obtain ⟨T, v, l, hL, rfl, hg, hB, ok, hTB⟩ := h
  have hn := ok.next
  refine (Lost_any B g next above now delay T v l w hL (by have := ok.count; omega) (by have := ok.above; omega) (fun x hx => by have := (ok.items x hx).1; omega)).mono ?_
  rintro e w' ⟨gv, lv, rfl, h1, h2, h3, h4⟩
  obtain ⟨AG, cg, rfl, _, _⟩ := shapeS h1
  have e1 := map_filter_pl (fun x => lostB x.num x.at_ ((above : Int) - 1) delay now) (lostS above delay now) (fun _ => rfl) l
  have e2 := map_filter_pl (fun x => !lostB x.num x.at_ ((above : Int) - 1) delay now) (fun s => !lostS above delay now s) (fun _ => rfl) l
  have e3 : (l.filter (fun x => lostB x.num x.at_ ((above : Int) - 1) delay now)).length = ((l.map It.pl).filter (lostS above delay now)).length := by rw [← e1, List.length_map]
  rw [e3] at h1 ⊢
  exact ⟨AG, cg, _, rfl, h1, e1, ⟨T, lv, _, h2.past hB, e2, hg, Nat.le_trans hB h4.size, ok.filter _, hTB⟩, gT h4⟩
theorem pDrop (h : LedP w B g P next above) : Calls Try.prog 14 #[.pointer (some ⟨g, 0, none⟩)] w fun e w' => e = .returned (.int .i64 (P.length : Int)) ∧ LedP w' B g [] next above ∧ Chg (Tn B g) w w' := by
  obtain ⟨T, v, l, hL, rfl, hg, hB, ok, hTB⟩ := h
  refine (Drop_any B g next above T v l w hL (by have := ok.count; omega)).mono ?_
  rintro e w' ⟨rfl, lv, h1, h2⟩
  exact ⟨by rw [List.length_map], ⟨T, lv, [], h1.past hB, rfl, hg, Nat.le_trans hB h2.size, ⟨fun s hs => (nomatch hs), by simp, ok.above, ok.next⟩, hTB⟩, gT h2⟩
theorem pDue (delay : Nat) (h : LedP w B g P next above) : Calls Try.prog 15 #[.pointer (some ⟨g, 0, none⟩), .int .u64 (delay : Int)] w fun e w' => e = .returned (.int .u64 (dueP above delay P : Nat)) ∧ Chg none_ w w' := by
  obtain ⟨T, v, l, hL, rfl, hg, hB, ok, hTB⟩ := h
  rw [← dueN_pl]
  exact Due_any B g next above delay T v l w hL (by have := ok.count; omega) (by have h1 := ok.above; have h2 := ok.next; omega)
theorem pFlight (h : LedP w B g P next above) : Calls Try.prog 16 #[.pointer (some ⟨g, 0, none⟩)] w fun e w' => e = .returned (.complex .f64 (dbl (flNs P)) (dbl (flBs P))) ∧ Chg none_ w w' := by
  obtain ⟨T, v, l, hL, rfl, hg, hB, ok, hTB⟩ := h
  rw [← flN_pl, ← flB_pl]
  exact Flight_any B g next above T v l w hL (by have := ok.count; omega) (fun x hx => (ok.items x hx).2)
theorem pNext (h : LedP w B g P next above) : Calls Try.prog 17 #[.pointer (some ⟨g, 0, none⟩)] w fun e w' => e = .returned (.int .i64 (next : Int)) ∧ w = w' := by
  obtain ⟨T, v, l, hL, rfl, hg, hB, ok, hTB⟩ := h
  exact (Next_any hL).mono (fun _ _ q => ⟨q.1, q.2.symm⟩)
theorem pAcked (h : LedP w B g P next above) : Calls Try.prog 18 #[.pointer (some ⟨g, 0, none⟩)] w fun e w' => e = .returned (.int .i64 ((above : Int) - 1)) ∧ w = w' := by
  obtain ⟨T, v, l, hL, rfl, hg, hB, ok, hTB⟩ := h
  exact (Acked_any hL (by have h1 := ok.above; have h2 := ok.next; omega)).mono (fun _ _ q => ⟨q.1, q.2.symm⟩)
theorem pList (h : LedP w B g P next above) : Calls Try.prog 13 #[.pointer (some ⟨g, 0, none⟩)] w fun e w' => ∃ AG cg G, e = .returned (.slice AG P.length cg) ∧ OwnS w' w.heap.size (.slice AG P.length cg) G ∧ G.map It.pl = P ∧ Chg none_ w w' := by
  obtain ⟨T, v, l, hL, rfl, hg, hB, ok, hTB⟩ := h
  refine (List_any B g next above T v l w hL (by have := ok.count; omega)).mono ?_
  rintro e w' ⟨gv, L, rfl, h1, h2, _, h4⟩
  obtain ⟨AG, cg, rfl, _, _⟩ := shapeS h1
  have e3 : L.length = (l.map It.pl).length := by rw [← h2, List.length_map]
  rw [e3] at h1 ⊢
  exact ⟨AG, cg, L, rfl, h1, h2, h4⟩
end
end Go.Proofs.Ytakoeamfmmbdiaa
