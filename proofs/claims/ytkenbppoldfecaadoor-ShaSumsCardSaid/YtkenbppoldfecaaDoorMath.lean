/- Plain words on sums of bytes: words of 32 bits, a block that is taken in, the padded bytes, roots that are found by halving. Nothing of the program stands here. -/
namespace Go.Proofs.YtkenbppoldfecaaDoor

abbrev Wd := BitVec 32
abbrev Bytes := List UInt8

def rot (x : Wd) (n : Nat) : Wd := (x >>> n) ||| (x <<< (32 - n))
def low0 (x : Wd) : Wd := rot x 7 ^^^ rot x 18 ^^^ (x >>> 3)
def low1 (x : Wd) : Wd := rot x 17 ^^^ rot x 19 ^^^ (x >>> 10)
def big1 (e : Wd) : Wd := rot e 6 ^^^ rot e 11 ^^^ rot e 25
def big0 (a : Wd) : Wd := rot a 2 ^^^ rot a 13 ^^^ rot a 22
def chs (e f g : Wd) : Wd := (e &&& f) ^^^ (~~~e &&& g)
def maj (a b c : Wd) : Wd := (a &&& b) ^^^ (a &&& c) ^^^ (b &&& c)

structure St where
  a : Wd
  b : Wd
  c : Wd
  d : Wd
  e : Wd
  f : Wd
  g : Wd
  h : Wd
deriving DecidableEq

def pOf (k w : Wd) (s : St) : Wd := s.h + big1 s.e + chs s.e s.f s.g + k + w
def qOf (s : St) : Wd := big0 s.a + maj s.a s.b s.c
def rnd (k w : Wd) (s : St) : St := ⟨pOf k w s + qOf s, s.a, s.b, s.c, s.d + pOf k w s, s.e, s.f, s.g⟩
def addS (s x : St) : St := ⟨s.a + x.a, s.b + x.b, s.c + x.c, s.d + x.d, s.e + x.e, s.f + x.f, s.g + x.g, s.h + x.h⟩
def St.words (s : St) : List Wd := [s.a, s.b, s.c, s.d, s.e, s.f, s.g, s.h]

def w4 (a b c d : UInt8) : Wd := ((BitVec.ofNat 32 a.toNat <<< 24 ||| BitVec.ofNat 32 b.toNat <<< 16) ||| BitVec.ofNat 32 c.toNat <<< 8) ||| BitVec.ofNat 32 d.toNat
def wordAt (l : Bytes) (t : Nat) : Wd := w4 (l.getD (4 * t) 0) (l.getD (4 * t + 1) 0) (l.getD (4 * t + 2) 0) (l.getD (4 * t + 3) 0)
def nxt (l : List Wd) : Wd := l.getD (l.length - 16) 0 + low0 (l.getD (l.length - 15) 0) + l.getD (l.length - 7) 0 + low1 (l.getD (l.length - 2) 0)
def grow : Nat → List Wd → List Wd
  | 0, l => l
  | n + 1, l => grow n (l ++ [nxt l])
def spreadL (l : Bytes) : List Wd := grow 48 ((List.range 16).map (wordAt l))
def rounds (s : St) (kw : List (Wd × Wd)) : St := kw.foldl (fun x y => rnd y.1 y.2 x) s
def mixS (K : List Wd) (s : St) (l : Bytes) : St := addS s (rounds s (K.zip (spreadL l)))

/-- What a root may be, halved. -/
def halve (g : Nat → Bool) : Nat → Nat → Nat
  | 0, low => low
  | k + 1, low => if g (low + 2 ^ k) then halve g k (low + 2 ^ k) else halve g k low
def squareB (p x : Nat) : Bool := decide (x * x / 18446744073709551616 < p)
def cubeB (p x : Nat) : Bool := decide (x * x / 18446744073709551616 * x + x * x % 18446744073709551616 * x / 18446744073709551616 < p * 4294967296)
def primesL : List Nat := [2, 3, 5, 7, 11, 13, 17, 19, 23, 29, 31, 37, 41, 43, 47, 53, 59, 61, 67, 71, 73, 79, 83, 89, 97, 101, 103, 107, 109, 113, 127, 131, 137, 139, 149, 151, 157, 163, 167, 173, 179, 181, 191, 193, 197, 199, 211, 223, 227, 229, 233, 239, 241, 251, 257, 263, 269, 271, 277, 281, 283, 293, 307, 311]
def cubeOf (p : Nat) : Wd := BitVec.ofNat 32 (halve (cubeB p) 35 0)
def squareOf (p : Nat) : Wd := BitVec.ofNat 32 (halve (squareB p) 35 0)
def consts : List Wd := [0x428a2f98#32, 0x71374491#32, 0xb5c0fbcf#32, 0xe9b5dba5#32, 0x3956c25b#32, 0x59f111f1#32, 0x923f82a4#32, 0xab1c5ed5#32, 0xd807aa98#32, 0x12835b01#32, 0x243185be#32, 0x550c7dc3#32, 0x72be5d74#32, 0x80deb1fe#32, 0x9bdc06a7#32, 0xc19bf174#32, 0xe49b69c1#32, 0xefbe4786#32, 0x0fc19dc6#32, 0x240ca1cc#32, 0x2de92c6f#32, 0x4a7484aa#32, 0x5cb0a9dc#32, 0x76f988da#32, 0x983e5152#32, 0xa831c66d#32, 0xb00327c8#32, 0xbf597fc7#32, 0xc6e00bf3#32, 0xd5a79147#32, 0x06ca6351#32, 0x14292967#32, 0x27b70a85#32, 0x2e1b2138#32, 0x4d2c6dfc#32, 0x53380d13#32, 0x650a7354#32, 0x766a0abb#32, 0x81c2c92e#32, 0x92722c85#32, 0xa2bfe8a1#32, 0xa81a664b#32, 0xc24b8b70#32, 0xc76c51a3#32, 0xd192e819#32, 0xd6990624#32, 0xf40e3585#32, 0x106aa070#32, 0x19a4c116#32, 0x1e376c08#32, 0x2748774c#32, 0x34b0bcb5#32, 0x391c0cb3#32, 0x4ed8aa4a#32, 0x5b9cca4f#32, 0x682e6ff3#32, 0x748f82ee#32, 0x78a5636f#32, 0x84c87814#32, 0x8cc70208#32, 0x90befffa#32, 0xa4506ceb#32, 0xbef9a3f7#32, 0xc67178f2#32]
def first : St := ⟨0x6a09e667#32, 0xbb67ae85#32, 0x3c6ef372#32, 0xa54ff53a#32, 0x510e527f#32, 0x9b05688c#32, 0x1f83d9ab#32, 0x5be0cd19#32⟩
theorem consts_eq : primesL.map cubeOf = consts := by decide +kernel
theorem first_eq : (primesL.take 8).map squareOf = first.words := by decide +kernel

/-- The words behind n blocks. -/
def blk : Nat → St → Bytes → St
  | 0, s, _ => s
  | n + 1, s, l => blk n (mixS consts s (l.take 64)) (l.drop 64)
def wordsOf (s : St) (l : Bytes) : St := blk (l.length / 64) s l
def restOf (l : Bytes) : Bytes := l.drop (l.length / 64 * 64)

def noughts (n : Nat) : Nat := (120 - (n + 1) % 64) % 64
def be8 (m : Nat) : Bytes := [m / 2 ^ 56, m / 2 ^ 48, m / 2 ^ 40, m / 2 ^ 32, m / 2 ^ 24, m / 2 ^ 16, m / 2 ^ 8, m].map UInt8.ofNat
def padL (n : Nat) : Bytes := 128 :: List.replicate (noughts n) 0 ++ be8 (n * 8 % 18446744073709551616)
def byteAt (s : St) (n : Nat) : UInt8 := UInt8.ofNat ((s.words.getD (n / 4) 0).toNat / 2 ^ (24 - 8 * (n % 4)))
def digestL (s : St) : Bytes := (List.range 32).map (byteAt s)
def sumL (l : Bytes) : Bytes := digestL (wordsOf first (l ++ padL l.length))

def abcD : Bytes := [186, 120, 22, 191, 143, 1, 207, 234, 65, 65, 64, 222, 93, 174, 34, 35, 176, 3, 97, 163, 150, 23, 122, 156, 180, 16, 255, 97, 242, 0, 21, 173]
theorem sum_abc : sumL [97, 98, 99] = abcD := by decide +kernel
end Go.Proofs.YtkenbppoldfecaaDoor
