/- Plain functions: SHA-256 and HMAC over words of 32 bits and lists of bytes, as the proofs of this seat speak of them. Nothing of the program stands here. -/
namespace Go.Proofs.YtaohbpmefcdipaaDoor.Sha

/-- A word. -/
abbrev W := BitVec 32

def ror (x : W) (n : Nat) : W := (x >>> n) ||| (x <<< (32 - n))
def sg0 (x : W) : W := (ror x 7 ^^^ ror x 18) ^^^ (x >>> 3)
def sg1 (x : W) : W := (ror x 17 ^^^ ror x 19) ^^^ (x >>> 10)
def Sg0 (x : W) : W := (ror x 2 ^^^ ror x 13) ^^^ ror x 22
def Sg1 (x : W) : W := (ror x 6 ^^^ ror x 11) ^^^ ror x 25
def ch (e f g : W) : W := (e &&& f) ^^^ (~~~e &&& g)
def maj (a b c : W) : W := ((a &&& b) ^^^ (a &&& c)) ^^^ (b &&& c)

/-- A word of four bytes, the first one highest. -/
def word (a b c d : UInt8) : W :=
  (((BitVec.ofNat 32 a.toNat <<< 24) ||| (BitVec.ofNat 32 b.toNat <<< 16)) ||| (BitVec.ofNat 32 c.toNat <<< 8)) ||| BitVec.ofNat 32 d.toNat

/-- Word i of a block. -/
def wordAt (l : List UInt8) (i : Nat) : W := word (l.getD (4 * i) 0) (l.getD (4 * i + 1) 0) (l.getD (4 * i + 2) 0) (l.getD (4 * i + 3) 0)

/-- The word behind those that there are. -/
def nextW (l : List W) : W :=
  ((l.getD (l.length - 16) 0 + sg0 (l.getD (l.length - 15) 0)) + l.getD (l.length - 7) 0) + sg1 (l.getD (l.length - 2) 0)

/-- The first n words. -/
def words (l : List UInt8) : Nat → List W
  | 0 => []
  | n + 1 => if n < 16 then words l n ++ [wordAt l n] else (let s := words l n; s ++ [nextW s])

def sched (l : List UInt8) : List W := words l 64

theorem words_length (l : List UInt8) (n : Nat) : (words l n).length = n := by
  induction n with
  | zero => rfl
  | succ n ih =>
    unfold words
    split <;> simp [ih]
theorem words_lo (l : List UInt8) (n : Nat) (h : n < 16) : words l (n + 1) = words l n ++ [wordAt l n] := by
  rw [words, if_pos h]
theorem words_hi (l : List UInt8) (n : Nat) (h : ¬ n < 16) : words l (n + 1) = words l n ++ [nextW (words l n)] := by
  rw [words, if_neg h]

structure Reg where
  a : W
  b : W
  c : W
  d : W
  e : W
  f : W
  g : W
  h : W

def t1 (r : Reg) (k w : W) : W := w + (((r.h + Sg1 r.e) + ch r.e r.f r.g) + k)
def t2 (r : Reg) : W := Sg0 r.a + maj r.a r.b r.c
def step (r : Reg) (k w : W) : Reg :=
  { a := t1 r k w + t2 r, b := r.a, c := r.b, d := r.c, e := r.d + t1 r k w, f := r.e, g := r.f, h := r.g }

def consts : List W := [
  0x428a2f98, 0x71374491, 0xb5c0fbcf, 0xe9b5dba5, 0x3956c25b, 0x59f111f1, 0x923f82a4, 0xab1c5ed5,
  0xd807aa98, 0x12835b01, 0x243185be, 0x550c7dc3, 0x72be5d74, 0x80deb1fe, 0x9bdc06a7, 0xc19bf174,
  0xe49b69c1, 0xefbe4786, 0x0fc19dc6, 0x240ca1cc, 0x2de92c6f, 0x4a7484aa, 0x5cb0a9dc, 0x76f988da,
  0x983e5152, 0xa831c66d, 0xb00327c8, 0xbf597fc7, 0xc6e00bf3, 0xd5a79147, 0x06ca6351, 0x14292967,
  0x27b70a85, 0x2e1b2138, 0x4d2c6dfc, 0x53380d13, 0x650a7354, 0x766a0abb, 0x81c2c92e, 0x92722c85,
  0xa2bfe8a1, 0xa81a664b, 0xc24b8b70, 0xc76c51a3, 0xd192e819, 0xd6990624, 0xf40e3585, 0x106aa070,
  0x19a4c116, 0x1e376c08, 0x2748774c, 0x34b0bcb5, 0x391c0cb3, 0x4ed8aa4a, 0x5b9cca4f, 0x682e6ff3,
  0x748f82ee, 0x78a5636f, 0x84c87814, 0x8cc70208, 0x90befffa, 0xa4506ceb, 0xbef9a3f7, 0xc67178f2]

/-- n rounds. -/
def rounds (ws : List W) : Nat → Reg → Reg
  | 0, r => r
  | n + 1, r => step (rounds ws n r) (consts.getD n 0) (ws.getD n 0)

def Reg.list (r : Reg) : List W := [r.a, r.b, r.c, r.d, r.e, r.f, r.g, r.h]
def regOf (l : List W) : Reg := ⟨l.getD 0 0, l.getD 1 0, l.getD 2 0, l.getD 3 0, l.getD 4 0, l.getD 5 0, l.getD 6 0, l.getD 7 0⟩
def Reg.add (r s : Reg) : Reg := ⟨r.a + s.a, r.b + s.b, r.c + s.c, r.d + s.d, r.e + s.e, r.f + s.f, r.g + s.g, r.h + s.h⟩

/-- A register behind a block (the first 64 bytes of l). -/
def block (r : Reg) (l : List UInt8) : Reg := r.add (rounds (sched l) 64 r)

/-- A register behind n blocks. -/
def blocks : Nat → Reg → List UInt8 → Reg
  | 0, r, _ => r
  | n + 1, r, l => blocks n (block r l) (l.drop 64)

def init : Reg := ⟨0x6a09e667, 0xbb67ae85, 0x3c6ef372, 0xa54ff53a, 0x510e527f, 0x9b05688c, 0x1f83d9ab, 0x5be0cd19⟩

/-- The eight bytes of a number. -/
def eight (n : Nat) : List UInt8 := (List.range 8).map fun i => UInt8.ofNat (n / 2 ^ (56 - 8 * i))
/-- How many noughts stand behind the first byte of the tail. -/
def noughts (n : Nat) : Nat := (119 - n % 64) % 64
def tail (n : Nat) : List UInt8 := 0x80 :: (List.replicate (noughts n) 0 ++ eight (8 * n % 2 ^ 64))
def pad (l : List UInt8) : List UInt8 := l ++ tail l.length

def bytesOf (x : W) : List UInt8 := [UInt8.ofNat (x >>> 24).toNat, UInt8.ofNat (x >>> 16).toNat, UInt8.ofNat (x >>> 8).toNat, UInt8.ofNat x.toNat]
def out (r : Reg) : List UInt8 := r.list.flatMap bytesOf

def sha (l : List UInt8) : List UInt8 := out (blocks ((pad l).length / 64) init (pad l))

def padKey (key : List UInt8) (x : UInt8) : List UInt8 := (List.range 64).map fun i => key.getD i 0 ^^^ x
def shortKey (key : List UInt8) : List UInt8 := if 64 < key.length then sha key else key
def hmac (key l : List UInt8) : List UInt8 :=
  sha (padKey (shortKey key) 0x5c ++ sha (padKey (shortKey key) 0x36 ++ l))

/-- The document's example. -/
theorem abc : sha [97, 98, 99] = [0xba, 0x78, 0x16, 0xbf, 0x8f, 0x01, 0xcf, 0xea, 0x41, 0x41, 0x40, 0xde, 0x5d, 0xae, 0x22, 0x23, 0xb0, 0x03, 0x61, 0xa3, 0x96, 0x17, 0x7a, 0x9c, 0xb4, 0x10, 0xff, 0x61, 0xf2, 0x00, 0x15, 0xad] := by decide +kernel

end Go.Proofs.YtaohbpmefcdipaaDoor.Sha
