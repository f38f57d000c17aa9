/- Layer 10 (keys), plain: keys of secrets, packets' nonces, and a ring's levels. No program is named here but in what it imports. -/
import Derived.Test.YtfpflhcabjcamaaDoorV9Plain
import Derived.Test.YtfpflhcabjcamaaDoorKH2
namespace Go.Proofs.YtfpflhcabjcamaaDoor

theorem chain10_len (s info : List Nat) (k : Nat) : (chainN s info (k + 1)).length = 32 := tagN_len _ _
theorem all10_lt (s info : List Nat) : ∀ k, ∀ x ∈ allN s info k, x < 256
  | 0 => by intro x hx; simp [allN] at hx
  | k + 1 => by
    intro x hx
    simp only [allN, List.mem_append] at hx
    rcases hx with hx | hx
    · exact all10_lt s info k x hx
    · simp only [chainN] at hx
      exact tagN_lt _ _ x hx
theorem all10_len (s info : List Nat) : ∀ k, (allN s info k).length = 32 * k
  | 0 => rfl
  | k + 1 => by
    simp only [allN, List.length_append, all10_len s info k, chain10_len]
    omega
theorem labelN_len (s l : List Nat) (n : Nat) (hl : l.length ≤ 60) (hn : n ≤ 255) : (labelN s l (n : Int)).length = n := by
  unfold labelN expandN
  rw [if_neg (by omega), if_neg (by omega), List.length_take, all10_len]
  simp only [Int.toNat_natCast]
  omega
theorem labelN_lt (s l : List Nat) (n : Int) : ∀ x ∈ labelN s l n, x < 256 := by
  intro x hx
  unfold labelN at hx
  split at hx
  · simp at hx
  unfold expandN at hx
  split at hx
  · simp at hx
  exact all10_lt _ _ _ x (List.mem_of_mem_take hx)

/-- The labels, as bytes. -/
def keyL : List Nat := [113, 117, 105, 99, 32, 107, 101, 121]
def ivL : List Nat := [113, 117, 105, 99, 32, 105, 118]
def kuL : List Nat := [113, 117, 105, 99, 32, 107, 117]
def cinL : List Nat := [99, 108, 105, 101, 110, 116, 32, 105, 110]
def sinL : List Nat := [115, 101, 114, 118, 101, 114, 32, 105, 110]
def capL : List Nat := [99, 32, 97, 112, 32, 116, 114, 97, 102, 102, 105, 99]
def sapL : List Nat := [115, 32, 97, 112, 32, 116, 114, 97, 102, 102, 105, 99]
def saltL : List Nat := [100, 111, 111, 114, 119, 97, 114, 100, 32, 102, 105, 114, 115, 116, 32, 115, 97, 108, 116, 46, 46]

/-- Keys of a secret. -/
structure Sc where
  (key iv next : List Nat)
  (phase : Bool)
deriving DecidableEq
structure Sc.Ok (s : Sc) : Prop where
  keyL : s.key.length = 16
  ivL : s.iv.length = 12
  nextL : s.next.length = 32
  keyB : ∀ x ∈ s.key, x < 256
  ivB : ∀ x ∈ s.iv, x < 256
  nextB : ∀ x ∈ s.next, x < 256
def makeN (s : List Nat) (p : Bool) : Sc := ⟨labelN s keyL 16, labelN s ivL 12, labelN s kuL 32, p⟩
def updateN (s : Sc) : Sc := makeN s.next (!s.phase)
theorem makeN_ok (s : List Nat) (p : Bool) : (makeN s p).Ok :=
  ⟨labelN_len s keyL 16 (by decide) (by decide), labelN_len s ivL 12 (by decide) (by decide), labelN_len s kuL 32 (by decide) (by decide), labelN_lt s keyL 16, labelN_lt s ivL 12, labelN_lt s kuL 32⟩
theorem updateN_ok (s : Sc) : (updateN s).Ok := makeN_ok _ _
/-- The first secrets, and those behind a handshake. -/
def firstN (cid : List Nat) : List Nat × List Nat := (labelN (tagN saltL cid) cinL 32, labelN (tagN saltL cid) sinL 32)
def laterN (c s : List Nat) : List Nat × List Nat := (labelN (tagN c s) capL 32, labelN (tagN c s) sapL 32)

/-- A number's byte. -/
def byteZ (n : Int) (k : Nat) : Nat := (n / 256 ^ k % 256).toNat
theorem byteZ_lt (n : Int) (k : Nat) : byteZ n k < 256 := by unfold byteZ; omega
/-- A packet's nonce. -/
def nonceX (iv : List Nat) (n : Int) : List Nat := (List.range 12).map fun i => if i < 4 then iv.getD i 0 else iv.getD i 0 ^^^ byteZ n (11 - i)
theorem nonceX_len (iv : List Nat) (n : Int) : (nonceX iv n).length = 12 := by simp [nonceX]
theorem nonceX_lt {iv : List Nat} (h : ∀ x ∈ iv, x < 256) (n : Int) : ∀ x ∈ nonceX iv n, x < 256 := by
  intro x hx
  simp only [nonceX, List.mem_map] at hx
  obtain ⟨i, _, rfl⟩ := hx
  split
  · exact getD_lt h i (by decide)
  · exact xor8_lt (getD_lt h i (by decide)) (byteZ_lt n _)
def sealK (s : Sc) (n : Int) (more text : List Nat) : List Nat := sealG s.key (nonceX s.iv n) more text
def openK (s : Sc) (n : Int) (more b : List Nat) : List Nat × Int := openG s.key (nonceX s.iv n) more b
theorem open_sealK (s : Sc) (n : Int) (more text : List Nat) : openK s n more (sealK s n more text) = (text, 0) := open_seal _ _ _ _
theorem sealK_len (s : Sc) (n : Int) (more text : List Nat) : (sealK s n more text).length = text.length + 16 := sealG_len _ _ _ _
theorem sealK_lt {s : Sc} (h : s.Ok) (n : Int) {more text : List Nat} (ht : ∀ x ∈ text, x < 256) : ∀ x ∈ sealK s n more text, x < 256 := sealG_lt h.keyB (nonceX_lt h.ivB n) ht

/-- A level's keys: own, the peer's, and the peer's ahead of the last update. -/
structure Lv where
  (own peer : Sc)
  (old : Option Sc)
/-- A ring: what each level has, and which were given. -/
structure Rg where
  (l0 l1 : Option Lv)
  (g0 g1 : Bool)
def Rg.new : Rg := ⟨none, none, false, false⟩
def Rg.at (r : Rg) (n : Int) : Option Lv := if n = 0 then r.l0 else if n = 1 then r.l1 else none
def Rg.has (r : Rg) (n : Int) : Bool := (r.at n).isSome
def Rg.given (r : Rg) (n : Int) : Bool := if n = 0 then r.g0 else if n = 1 then r.g1 else true
def Rg.setAt (r : Rg) (n : Int) (l : Option Lv) : Rg := if n = 0 then { r with l0 := l, g0 := true } else if n = 1 then { r with l1 := l, g1 := true } else r
def Rg.set (r : Rg) (n : Int) (own peer : List Nat) : Bool × Rg :=
  if r.given n then (false, r) else (true, r.setAt n (some ⟨makeN own false, makeN peer false, none⟩))
def Rg.dropAt (r : Rg) (n : Int) : Rg := if n = 0 then { r with l0 := none } else { r with l1 := none }
def Rg.drop (r : Rg) (n : Int) : Bool × Rg := if r.has n then (true, r.dropAt n) else (false, r)
def liveO (o : Option Lv) : Nat := match o with
  | none => 0
  | some l => if l.old.isSome then 3 else 2
def Rg.live (r : Rg) : Nat := liveO r.l0 + liveO r.l1
def Rg.phase (r : Rg) : Bool := match r.l1 with
  | none => false
  | some l => l.own.phase
def turnL (l : Lv) : Lv := ⟨updateN l.own, updateN l.peer, some l.peer⟩
def Rg.turn (r : Rg) : Bool × Rg := match r.l1 with
  | none => (false, r)
  | some l => (true, { r with l1 := some (turnL l) })
def Rg.seal_ (r : Rg) (n : Int) (k : Int) (more text : List Nat) : List Nat := match r.at n with
  | none => []
  | some l => sealK l.own k more text
/-- What a ring opens, and the ring behind. -/
def openOther (r : Rg) (l : Lv) (k : Int) (more b : List Nat) : (List Nat × Int) × Rg :=
  let rest := let a := openK (updateN l.peer) k more b
    if a.2 = 0 then (a, r.turn.2) else (a, r)
  match l.old with
  | none => rest
  | some o => let a := openK o k more b; if a.2 = 0 then (a, r) else rest
def Rg.open_ (r : Rg) (n : Int) (phase : Bool) (k : Int) (more b : List Nat) : (List Nat × Int) × Rg := match r.at n with
  | none => (([], 8), r)
  | some l => if n = 1 ∧ phase ≠ l.peer.phase then openOther r l k more b else (openK l.peer k more b, r)
end Go.Proofs.YtfpflhcabjcamaaDoor
