/- Layer 7 (hash): SHA-256, HMAC and what secrets are expanded to, over plain numbers. No program is named here. -/
namespace Go.Proofs.YtodcjcpbigggfaaDoor

def rotr (x n : Nat) : Nat := (x >>> n ||| x <<< (32 - n)) % 4294967296
def sg0 (x : Nat) : Nat := rotr x 7 ^^^ rotr x 18 ^^^ x >>> 3
def sg1 (x : Nat) : Nat := rotr x 17 ^^^ rotr x 19 ^^^ x >>> 10
def bs0 (x : Nat) : Nat := rotr x 2 ^^^ rotr x 13 ^^^ rotr x 22
def bs1 (x : Nat) : Nat := rotr x 6 ^^^ rotr x 11 ^^^ rotr x 25
def chN (e f g : Nat) : Nat := (e &&& f) ^^^ ((4294967295 - e) &&& g)
def majN (a b c : Nat) : Nat := (a &&& b) ^^^ (a &&& c) ^^^ (b &&& c)

/-- The constants. -/
def kN : List Nat := [1116352408, 1899447441, 3049323471, 3921009573, 961987163, 1508970993, 2453635748, 2870763221, 3624381080, 310598401, 607225278, 1426881987, 1925078388, 2162078206, 2614888103, 3248222580, 3835390401, 4022224774, 264347078, 604807628, 770255983, 1249150122, 1555081692, 1996064986, 2554220882, 2821834349, 2952996808, 3210313671, 3336571891, 3584528711, 113926993, 338241895, 666307205, 773529912, 1294757372, 1396182291, 1695183700, 1986661051, 2177026350, 2456956037, 2730485921, 2820302411, 3259730800, 3345764771, 3516065817, 3600352804, 4094571909, 275423344, 430227734, 506948616, 659060556, 883997877, 958139571, 1322822218, 1537002063, 1747873779, 1955562222, 2024104815, 2227730452, 2361852424, 2428436474, 2756734187, 3204031479, 3329325298]

/-- A state: eight words. -/
structure St8 where
  (a b c d e f g h : Nat)
deriving DecidableEq
def St8.list (s : St8) : List Nat := [s.a, s.b, s.c, s.d, s.e, s.f, s.g, s.h]
structure St8.Ok (s : St8) : Prop where
  (a : s.a < 4294967296) (b : s.b < 4294967296) (c : s.c < 4294967296) (d : s.d < 4294967296)
  (e : s.e < 4294967296) (f : s.f < 4294967296) (g : s.g < 4294967296) (h : s.h < 4294967296)
/-- The first state. -/
def first8 : St8 := ⟨1779033703, 3144134277, 1013904242, 2773480762, 1359893119, 2600822924, 528734635, 1541459225⟩

/-- A block's word. -/
def wordOf (b : List Nat) (t : Nat) : Nat := ((b.getD (4 * t) 0 * 256 + b.getD (4 * t + 1) 0) * 256 + b.getD (4 * t + 2) 0) * 256 + b.getD (4 * t + 3) 0
/-- A word that follows from others. -/
def wordNext (l : List Nat) (t : Nat) : Nat := (sg1 (l.getD (t - 2) 0) + l.getD (t - 7) 0 + sg0 (l.getD (t - 15) 0) + l.getD (t - 16) 0) % 4294967296
def wordsN (b : List Nat) : Nat → List Nat
  | 0 => []
  | t + 1 => wordsN b t ++ [if t < 16 then wordOf b t else wordNext (wordsN b t) t]
/-- A round. -/
def t1N (s : St8) (k w : Nat) : Nat := (s.h + bs1 s.e + chN s.e s.f s.g + k + w) % 4294967296
def t2N (s : St8) : Nat := (bs0 s.a + majN s.a s.b s.c) % 4294967296
def stepN (s : St8) (k w : Nat) : St8 := ⟨(t1N s k w + t2N s) % 4294967296, s.a, s.b, s.c, (s.d + t1N s k w) % 4294967296, s.e, s.f, s.g⟩
def roundsN (s : St8) (w : List Nat) : Nat → St8
  | 0 => s
  | t + 1 => stepN (roundsN s w t) (kN.getD t 0) (w.getD t 0)
def addN (s r : St8) : St8 := ⟨(s.a + r.a) % 4294967296, (s.b + r.b) % 4294967296, (s.c + r.c) % 4294967296, (s.d + r.d) % 4294967296, (s.e + r.e) % 4294967296, (s.f + r.f) % 4294967296, (s.g + r.g) % 4294967296, (s.h + r.h) % 4294967296⟩
/-- The state behind a block. -/
def turnN (s : St8) (b : List Nat) : St8 := addN s (roundsN s (wordsN b 64) 64)

/-- The block at a place. -/
def blkN (l : List Nat) (i : Nat) : List Nat := (l.drop (64 * i)).take 64
def runN (s : St8) (l : List Nat) : Nat → St8
  | 0 => s
  | k + 1 => turnN (runN s l k) (blkN l k)

/-- The eight bytes of a number. -/
def be8 (n : Nat) : List Nat := (List.range 8).map fun j => n / 2 ^ (8 * (7 - j)) % 256
/-- How many zeros fill a text of so many bytes up. -/
def padZ (n : Nat) : Nat := if n % 64 < 56 then 55 - n % 64 else 119 - n % 64
/-- What is turned: the text, filled up. -/
def padN (ahead : Nat) (l : List Nat) : List Nat := l ++ 128 :: (List.replicate (padZ l.length) 0 ++ be8 (8 * (ahead + l.length)))
def bytesN (s : St8) : List Nat := (List.range 32).map fun i => s.list.getD (i / 4) 0 / 2 ^ (8 * (3 - i % 4)) % 256
/-- The state behind a text, whose blocks ahead went through already. -/
def digN (s : St8) (ahead : Nat) (l : List Nat) : List Nat := bytesN (runN s (padN ahead l) ((padN ahead l).length / 64))
def sumN (l : List Nat) : List Nat := digN first8 0 l

/-- A key, filled up. -/
def keyN (k : List Nat) : List Nat := k ++ List.replicate (64 - k.length) 0
def xorK (k : List Nat) (m : Nat) : List Nat := k.map (· ^^^ m)
/-- A tag by a key of at most 64 bytes. -/
def tagS (k l : List Nat) : List Nat := digN (turnN first8 (xorK (keyN k) 92)) 64 (digN (turnN first8 (xorK (keyN k) 54)) 64 l)
def tagN (k l : List Nat) : List Nat := tagS (if 64 < k.length then sumN k else k) l

/-- The tags one behind the other. -/
def chainN (s info : List Nat) : Nat → List Nat
  | 0 => []
  | i + 1 => tagN s (chainN s info i ++ info ++ [(i + 1) % 256])
def allN (s info : List Nat) : Nat → List Nat
  | 0 => []
  | i + 1 => allN s info i ++ chainN s info (i + 1)
def expandN (s info : List Nat) (n : Int) : List Nat := if n < 0 ∨ 255 < n then [] else (allN s info ((n.toNat + 31) / 32)).take n.toNat
def infoN (l : List Nat) (n : Nat) : List Nat := [0, n, 6 + l.length, 116, 108, 115, 49, 51, 32] ++ l ++ [0]
def labelN (s l : List Nat) (n : Int) : List Nat := if 60 < l.length then [] else expandN s (infoN l n.toNat) n
end Go.Proofs.YtodcjcpbigggfaaDoor
