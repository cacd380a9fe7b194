/- Bytes and words as the numbers that a walk writes: the operations of the ciphers. -/
import Derived.Test.YtklbbeilbpcnoaaBits
import Derived.Test.YtklbbeilbpcnoaaAes
namespace Go.Proofs.Ytklbbeilbpcnoaa.Aes
open Go Sha

def shl8 (x : UInt8) (n : Nat) : UInt8 := UInt8.ofNat (x.toNat * 2 ^ n)
def shr8 (x : UInt8) (n : Nat) : UInt8 := UInt8.ofNat (x.toNat / 2 ^ n)
def mul8 (x : UInt8) (k : Nat) : UInt8 := UInt8.ofNat (x.toNat * k)
def rol8 (x : UInt8) (n : Nat) : UInt8 := shl8 x n ||| shr8 x (8 - n)

theorem V_ofNat (n : Nat) : V (UInt8.ofNat n) = ((n % 256 : Nat) : Int) := by
  unfold V; rw [UInt8.toNat_ofNat']
theorem V_shl (x : UInt8) (n : Nat) (p : Int) (hp : p = ((2 ^ n : Nat) : Int)) : V x * p % 256 = V (shl8 x n) := by
  subst hp
  unfold shl8; rw [V_ofNat]; unfold V
  rw [Int.natCast_emod, Int.natCast_mul]; rfl
theorem V_shr (x : UInt8) (n : Nat) (p : Int) (hp : p = ((2 ^ n : Nat) : Int)) : V x / p = V (shr8 x n) := by
  subst hp
  have h := x.toNat_lt
  have h2 : x.toNat / 2 ^ n ≤ x.toNat := Nat.div_le_self _ _
  unfold shr8; rw [V_ofNat, Nat.mod_eq_of_lt (by omega)]; unfold V
  rw [Int.natCast_ediv]
theorem V_mul (x : UInt8) (k : Nat) : V x * ((k : Nat) : Int) % 256 = V (mul8 x k) := by
  unfold mul8; rw [V_ofNat]; unfold V
  rw [Int.natCast_emod, Int.natCast_mul]; rfl
theorem V_shl1 (x : UInt8) : V x * 2 % 256 = V (shl8 x 1) := V_shl x 1 _ rfl
theorem V_shl2 (x : UInt8) : V x * 4 % 256 = V (shl8 x 2) := V_shl x 2 _ rfl
theorem V_shl4 (x : UInt8) : V x * 16 % 256 = V (shl8 x 4) := V_shl x 4 _ rfl
theorem V_shlw1 (x : UInt8) : IntKind.u8.wrap (V x * 2) = V (shl8 x 1) := by rw [IntKind.wrap_u8']; exact V_shl1 x
theorem V_shlw2 (x : UInt8) : IntKind.u8.wrap (V x * 4) = V (shl8 x 2) := by rw [IntKind.wrap_u8']; exact V_shl2 x
theorem V_shlw4 (x : UInt8) : IntKind.u8.wrap (V x * 16) = V (shl8 x 4) := by rw [IntKind.wrap_u8']; exact V_shl4 x
theorem V_shr7 (x : UInt8) : V x / (128 : Int) = V (shr8 x 7) := V_shr x 7 _ rfl
theorem V_mul27 (x : UInt8) : V x * 27 % 256 = V (mul8 x 27) := V_mul x 27
theorem V_mul9 (x : UInt8) : V x * 9 % 256 = V (mul8 x 9) := V_mul x 9
theorem V_mulw27 (x : UInt8) : IntKind.u8.wrap (V x * 27) = V (mul8 x 27) := by rw [IntKind.wrap_u8']; exact V_mul27 x
theorem V_mulw9 (x : UInt8) : IntKind.u8.wrap (V x * 9) = V (mul8 x 9) := by rw [IntKind.wrap_u8']; exact V_mul9 x
theorem V_x63 (x : UInt8) : bits .xor .u8 99 (V x) = V (0x63 ^^^ x) := V_xor 0x63 x
theorem V_rol (x : UInt8) (n : Nat) (p q : Int) (hp : p = ((2 ^ n : Nat) : Int)) (hq : q = ((2 ^ (8 - n) : Nat) : Int)) : bits .or .u8 (V x * p % 256) (V x / q) = V (rol8 x n) := by
  rw [V_shl x n p hp, V_shr x (8 - n) q hq, V_or]; rfl

theorem byteOf_U (x : W) (n : Nat) (p : Int) (hp : p = ((2 ^ n : Nat) : Int)) : U x / p % 256 = V (byteOf x n) := by
  subst hp
  unfold byteOf; rw [V_ofNat, BitVec.toNat_ushiftRight, Nat.shiftRight_eq_div_pow]
  unfold U; rw [Int.natCast_emod, Int.natCast_ediv]; rfl
theorem byteOf_24 (x : W) : U x / (16777216 : Int) % 256 = V (byteOf x 24) := byteOf_U x 24 _ rfl
theorem byteOf_16 (x : W) : U x / (65536 : Int) % 256 = V (byteOf x 16) := byteOf_U x 16 _ rfl
theorem byteOf_8 (x : W) : U x / (256 : Int) % 256 = V (byteOf x 8) := byteOf_U x 8 _ rfl
theorem byteOf_0 (x : W) : U x % 256 = V (byteOf x 0) := by
  have := byteOf_U x 0 1 rfl
  rwa [Int.ediv_one] at this
theorem byteOf_w24 (x : W) : IntKind.u8.wrap (U x / (16777216 : Int)) = V (byteOf x 24) := by rw [IntKind.wrap_u8']; exact byteOf_24 x
theorem byteOf_w16 (x : W) : IntKind.u8.wrap (U x / (65536 : Int)) = V (byteOf x 16) := by rw [IntKind.wrap_u8']; exact byteOf_16 x
theorem byteOf_w8 (x : W) : IntKind.u8.wrap (U x / (256 : Int)) = V (byteOf x 8) := by rw [IntKind.wrap_u8']; exact byteOf_8 x
theorem byteOf_w0 (x : W) : IntKind.u8.wrap (U x) = V (byteOf x 0) := by rw [IntKind.wrap_u8']; exact byteOf_0 x
theorem U_rol (x : W) (n : Nat) (p q : Int) (hp : p = 2 ^ n) (hq : q = 2 ^ (32 - n)) : bits .or .u32 (U x * p % 4294967296) (U x / q) = U (rol x n) := by
  subst hp hq
  rw [U_shr, U_shl, U_or]; rfl
theorem U_and7f (x : W) : bits .and .u32 (U x) 2139062143 = U (x &&& 0x7f7f7f7f) := U_and x 0x7f7f7f7f
theorem U_and01 (x : W) : bits .and .u32 (U x) 16843009 = U (x &&& 0x01010101) := U_and x 0x01010101
theorem U_shr7 (x : W) : U x / (128 : Int) = U (x >>> 7) := U_shr x 7
theorem U_shl1 (x : W) : U x * 2 % 4294967296 = U (x <<< 1) := U_shl x 1
theorem U_shlw1 (x : W) : IntKind.u32.wrap (U x * 2) = U (x <<< 1) := by rw [IntKind.wrap_u32']; exact U_shl x 1
theorem U_mul27 (x : W) : U x * 27 % 4294967296 = U (x * 0x1b) := by
  unfold U; rw [BitVec.toNat_mul, Int.natCast_emod, Int.natCast_mul]; rfl
theorem U_mulw27 (x : W) : IntKind.u32.wrap (U x * 27) = U (x * 0x1b) := by rw [IntKind.wrap_u32']; exact U_mul27 x

/-- The table's rule: x, y and the table behind k rounds. -/
def nextX (x : UInt8) : UInt8 := x ^^^ (shl8 x 1 ^^^ mul8 (shr8 x 7) 27)
def y1 (y : UInt8) : UInt8 := y ^^^ shl8 y 1
def y2 (y : UInt8) : UInt8 := y ^^^ shl8 y 2
def y4 (y : UInt8) : UInt8 := y ^^^ shl8 y 4
def y9 (y : UInt8) : UInt8 := y ^^^ mul8 (shr8 y 7) 9
def nextY (y : UInt8) : UInt8 := y9 (y4 (y2 (y1 y)))
def boxOf (y : UInt8) : UInt8 := ((((0x63 ^^^ y) ^^^ rol8 y 1) ^^^ rol8 y 2) ^^^ rol8 y 3) ^^^ rol8 y 4
structure Tb where
  x : UInt8
  y : UInt8
  box : List UInt8
def tbl : Nat → Tb
  | 0 => ⟨1, 1, 0x63 :: List.replicate 255 0⟩
  | n + 1 => let s := tbl n; ⟨nextX s.x, nextY s.y, s.box.set (nextX s.x).toNat (boxOf (nextY s.y))⟩
theorem tbl_box : (tbl 255).box = sbox := by decide +kernel
theorem tbl_len (n : Nat) : (tbl n).box.length = 256 := by
  induction n with
  | zero =>
    rw [tbl, List.length_cons, List.length_replicate]
  | succ n ih => rw [tbl]; simp [ih]
end Go.Proofs.Ytklbbeilbpcnoaa.Aes
