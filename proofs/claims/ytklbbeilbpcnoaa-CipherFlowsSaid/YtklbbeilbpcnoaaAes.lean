/- Plain functions: AES-256 over words of 32 bits and lists of bytes, as the proofs of this seat speak of them. Nothing of the program stands here. -/
import Derived.Test.YtklbbeilbpcnoaaSha
namespace Go.Proofs.Ytklbbeilbpcnoaa.Aes
open Sha

/-- What each byte is swapped for. -/
def sbox : List UInt8 := [
  99, 124, 119, 123, 242, 107, 111, 197, 48, 1, 103, 43, 254, 215, 171, 118,
  202, 130, 201, 125, 250, 89, 71, 240, 173, 212, 162, 175, 156, 164, 114, 192,
  183, 253, 147, 38, 54, 63, 247, 204, 52, 165, 229, 241, 113, 216, 49, 21,
  4, 199, 35, 195, 24, 150, 5, 154, 7, 18, 128, 226, 235, 39, 178, 117,
  9, 131, 44, 26, 27, 110, 90, 160, 82, 59, 214, 179, 41, 227, 47, 132,
  83, 209, 0, 237, 32, 252, 177, 91, 106, 203, 190, 57, 74, 76, 88, 207,
  208, 239, 170, 251, 67, 77, 51, 133, 69, 249, 2, 127, 80, 60, 159, 168,
  81, 163, 64, 143, 146, 157, 56, 245, 188, 182, 218, 33, 16, 255, 243, 210,
  205, 12, 19, 236, 95, 151, 68, 23, 196, 167, 126, 61, 100, 93, 25, 115,
  96, 129, 79, 220, 34, 42, 144, 136, 70, 238, 184, 20, 222, 94, 11, 219,
  224, 50, 58, 10, 73, 6, 36, 92, 194, 211, 172, 98, 145, 149, 228, 121,
  231, 200, 55, 109, 141, 213, 78, 169, 108, 86, 244, 234, 101, 122, 174, 8,
  186, 120, 37, 46, 28, 166, 180, 198, 232, 221, 116, 31, 75, 189, 139, 138,
  112, 62, 181, 102, 72, 3, 246, 14, 97, 53, 87, 185, 134, 193, 29, 158,
  225, 248, 152, 17, 105, 217, 142, 148, 155, 30, 135, 233, 206, 85, 40, 223,
  140, 161, 137, 13, 191, 230, 66, 104, 65, 153, 45, 15, 176, 84, 187, 22]
def sub (b : UInt8) : UInt8 := sbox.getD b.toNat 0
def rol (x : W) (n : Nat) : W := (x <<< n) ||| (x >>> (32 - n))
def byteOf (x : W) (n : Nat) : UInt8 := UInt8.ofNat (x >>> n).toNat
def pick (a b c d : W) : W := word (sub (byteOf a 24)) (sub (byteOf b 16)) (sub (byteOf c 8)) (sub (byteOf d 0))
def twice (w : W) : W := ((w &&& 0x7f7f7f7f) <<< 1) ^^^ (((w >>> 7) &&& 0x01010101) * 0x1b)
def mix (w : W) : W := ((twice w ^^^ rol (twice w ^^^ w) 8) ^^^ rol w 16) ^^^ rol w 24
/-- What is put together with the word eight ahead. -/
def nextWord (s : List W) (i : Nat) : W :=
  if i % 8 = 0 then pick (rol (s.getD (i - 1) 0) 8) (rol (s.getD (i - 1) 0) 8) (rol (s.getD (i - 1) 0) 8) (rol (s.getD (i - 1) 0) 8) ^^^ ((1 : W) <<< (i / 8 + 23))
  else if i % 8 = 4 then pick (s.getD (i - 1) 0) (s.getD (i - 1) 0) (s.getD (i - 1) 0) (s.getD (i - 1) 0)
  else s.getD (i - 1) 0
/-- The first words of a key. -/
def words (key : List UInt8) : Nat → List W
  | 0 => []
  | i + 1 => if i < 8 then words key i ++ [wordAt key i] else (let s := words key i; s ++ [s.getD (i - 8) 0 ^^^ nextWord s i])
structure St where
  p : W
  q : W
  r : W
  t : W
def start (ws : List W) (b : List UInt8) : St := ⟨wordAt b 0 ^^^ ws.getD 0 0, wordAt b 1 ^^^ ws.getD 1 0, wordAt b 2 ^^^ ws.getD 2 0, wordAt b 3 ^^^ ws.getD 3 0⟩
def round (ws : List W) (at_ : Nat) (s : St) : St :=
  ⟨mix (pick s.p s.q s.r s.t) ^^^ ws.getD at_ 0, mix (pick s.q s.r s.t s.p) ^^^ ws.getD (at_ + 1) 0, mix (pick s.r s.t s.p s.q) ^^^ ws.getD (at_ + 2) 0, mix (pick s.t s.p s.q s.r) ^^^ ws.getD (at_ + 3) 0⟩
def rounds (ws : List W) : Nat → St → St
  | 0, s => s
  | n + 1, s => round ws (4 * (n + 1)) (rounds ws n s)
def last (ws : List W) (s : St) : St := ⟨pick s.p s.q s.r s.t ^^^ ws.getD 56 0, pick s.q s.r s.t s.p ^^^ ws.getD 57 0, pick s.r s.t s.p s.q ^^^ ws.getD 58 0, pick s.t s.p s.q s.r ^^^ ws.getD 59 0⟩
def bytes4 (x : W) : List UInt8 := [byteOf x 24, byteOf x 16, byteOf x 8, byteOf x 0]
def turn (ws : List W) (b : List UInt8) : List UInt8 :=
  let s := last ws (rounds ws 13 (start ws b))
  bytes4 s.p ++ (bytes4 s.q ++ (bytes4 s.r ++ bytes4 s.t))
theorem words_length (key : List UInt8) (n : Nat) : (words key n).length = n := by
  induction n with
  | zero => rfl
  | succ n ih => rw [words]; split <;> simp [ih]
theorem turn_length (ws : List W) (b : List UInt8) : (turn ws b).length = 16 := rfl
def fipsKey : List UInt8 := (List.range 32).map UInt8.ofNat
def fipsBlock : List UInt8 := (List.range 16).map fun i => UInt8.ofNat (17 * i)
/-- The document's example. -/
theorem fips : turn (words fipsKey 60) fipsBlock = [0x8e, 0xa2, 0xb7, 0xca, 0x51, 0x67, 0x45, 0xbf, 0xea, 0xfc, 0x49, 0x90, 0x4b, 0x49, 0x60, 0x89] := by decide +kernel
end Go.Proofs.Ytklbbeilbpcnoaa.Aes
