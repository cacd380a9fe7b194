/- Words of 32 bits and bytes as the numbers that a walk writes: each operation on numbers, as the walk spells it, is the operation on words. -/
import Derived.Test.YtaohbpmefcdipaaDoorSha
import Derived.WalkKit
namespace Go.Proofs.YtaohbpmefcdipaaDoor.Sha
open Go

/-- A word's number; a byte's number. -/
def U (x : W) : Int := (x.toNat : Int)
def V (b : UInt8) : Int := (b.toNat : Int)
def ofB (b : UInt8) : W := BitVec.ofNat 32 b.toNat
def toB (x : W) : UInt8 := UInt8.ofNat x.toNat

theorem U_nonneg (x : W) : 0 ≤ U x := Int.natCast_nonneg _
theorem U_lt (x : W) : U x < 4294967296 := by unfold U; have := x.isLt; omega
theorem V_nonneg (b : UInt8) : 0 ≤ V b := Int.natCast_nonneg _
theorem V_lt (b : UInt8) : V b < 256 := by unfold V; have := b.toNat_lt; omega
theorem U_inj {x y : W} (h : U x = U y) : x = y := by unfold U at h; exact BitVec.eq_of_toNat_eq (by omega)
theorem V_inj {x y : UInt8} (h : V x = V y) : x = y := by unfold V at h; exact UInt8.toNat_inj.1 (by omega)

theorem U_add (x y : W) : (U x + U y) % 4294967296 = U (x + y) := by
  unfold U; rw [BitVec.toNat_add]; omega
theorem U_sum3 (a b c d : W) : (U a + (U b + U c + U d)) % 4294967296 = U (a + ((b + c) + d)) := by
  rw [← U_add, ← U_add, ← U_add]; omega
theorem U_sum4 (z a b c d : W) : (U z + (U a + (U b + U c + U d))) % 4294967296 = U (z + (a + ((b + c) + d))) := by
  rw [← U_add, ← U_add, ← U_add, ← U_add]; omega
theorem U_addw (x y : W) : IntKind.u32.wrap (U x + U y) = U (x + y) := by rw [IntKind.wrap_u32']; exact U_add x y
theorem U_xor (x y : W) : bits .xor .u32 (U x) (U y) = U (x ^^^ y) := by
  unfold U; rw [u32_xor_nat _ _ x.isLt y.isLt, BitVec.toNat_xor]
theorem U_and (x y : W) : bits .and .u32 (U x) (U y) = U (x &&& y) := by
  unfold U; rw [u32_and_nat _ _ x.isLt y.isLt, BitVec.toNat_and]
theorem U_or (x y : W) : bits .or .u32 (U x) (U y) = U (x ||| y) := by
  unfold U; rw [u32_or_nat _ _ x.isLt y.isLt, BitVec.toNat_or]
theorem U_not (x : W) : bits .xor .u32 4294967295 (U x) = U (~~~x) := by
  have h := U_xor (BitVec.allOnes 32) x
  rw [BitVec.allOnes_xor] at h
  rw [← h]; rfl
theorem U_not2 (x : W) : bits .xor .u32 (if IntKind.u32.signed = true then -1 else IntKind.u32.max) (U x) = U (~~~x) := U_not x
theorem U_shr (x : W) (n : Nat) : U x / 2 ^ n = U (x >>> n) := by
  unfold U; rw [BitVec.toNat_ushiftRight, Nat.shiftRight_eq_div_pow, Int.natCast_ediv, Int.natCast_pow]
  rfl
theorem U_shl (x : W) (n : Nat) : U x * 2 ^ n % 4294967296 = U (x <<< n) := by
  unfold U; rw [BitVec.toNat_shiftLeft, Nat.shiftLeft_eq, Int.natCast_emod, Int.natCast_mul, Int.natCast_pow]
  rfl
theorem U_ofB (b : UInt8) : V b = U (ofB b) := by
  unfold U V ofB; rw [BitVec.toNat_ofNat]; have := b.toNat_lt; omega
theorem V_toB (x : W) : U x % 256 = V (toB x) := by
  unfold U V toB; simp
theorem V_xor (x y : UInt8) : bits .xor .u8 (V x) (V y) = V (x ^^^ y) := by
  unfold V; rw [u8_xor_nat _ _ x.toNat_lt y.toNat_lt, UInt8.toNat_xor]
theorem V_or (x y : UInt8) : bits .or .u8 (V x) (V y) = V (x ||| y) := by
  unfold V; rw [u8_or_nat _ _ x.toNat_lt y.toNat_lt, UInt8.toNat_or]
theorem U_zero : U 0 = 0 := rfl
theorem V_zero : V 0 = 0 := rfl

/- The shifts of the text, as numerals. -/
theorem U_shr3 (x : W) : U x / (8 : Int) = U (x >>> 3) := U_shr x 3
theorem U_shr8 (x : W) : U x / (256 : Int) = U (x >>> 8) := U_shr x 8
theorem U_shr10 (x : W) : U x / (1024 : Int) = U (x >>> 10) := U_shr x 10
theorem U_shr16 (x : W) : U x / (65536 : Int) = U (x >>> 16) := U_shr x 16
theorem U_shr24 (x : W) : U x / (16777216 : Int) = U (x >>> 24) := U_shr x 24
theorem U_shl8 (x : W) : U x * 256 % 4294967296 = U (x <<< 8) := U_shl x 8
theorem U_shl16 (x : W) : U x * 65536 % 4294967296 = U (x <<< 16) := U_shl x 16
theorem U_shl24 (x : W) : U x * 16777216 % 4294967296 = U (x <<< 24) := U_shl x 24

/- The same in the spelling in which a wrap stands by its name. -/
theorem U_wrap (x : W) : IntKind.u32.wrap (U x) = U x := by
  rw [IntKind.wrap_u32']; have h0 := U_nonneg x; have h1 := U_lt x; omega
theorem V_wrap (b : UInt8) : IntKind.u8.wrap (V b) = V b := by
  rw [IntKind.wrap_u8']; have h0 := V_nonneg b; have h1 := V_lt b; omega
theorem V_wrap32 (b : UInt8) : IntKind.u32.wrap (V b) = U (ofB b) := by rw [U_ofB]; exact U_wrap _
theorem V_mod32 (b : UInt8) : V b % 4294967296 = U (ofB b) := by
  rw [← U_ofB]; have h0 := V_nonneg b; have h1 := V_lt b; omega
theorem U_wrap8 (x : W) : IntKind.u8.wrap (U x) = V (toB x) := by rw [IntKind.wrap_u8']; exact V_toB x
theorem U_shlw8 (x : W) : IntKind.u32.wrap (U x * 256) = U (x <<< 8) := by rw [IntKind.wrap_u32']; exact U_shl x 8
theorem U_shlw16 (x : W) : IntKind.u32.wrap (U x * 65536) = U (x <<< 16) := by rw [IntKind.wrap_u32']; exact U_shl x 16
theorem U_shlw24 (x : W) : IntKind.u32.wrap (U x * 16777216) = U (x <<< 24) := by rw [IntKind.wrap_u32']; exact U_shl x 24

/-- How far a word is turned in the text; and what the turn to the left is handed. -/
def Turn (n : Int) : Prop := n = 2 ∨ n = 6 ∨ n = 7 ∨ n = 11 ∨ n = 13 ∨ n = 17 ∨ n = 18 ∨ n = 19 ∨ n = 22 ∨ n = 25

/-- The turn to the right, as the program's text and as the document's writes it: n, 2 to the n, 2 to the rest. -/
theorem or_ror (x : W) (n : Nat) (p q : Int) (hp : p = 2 ^ n) (hq : q = 2 ^ (32 - n)) : bits .or .u32 (U x * q % 4294967296) (U x / p) = U (ror x n) := by
  subst hp hq
  rw [U_shr, U_shl, U_or, BitVec.or_comm]; rfl
theorem ror_or (x : W) (n : Nat) (p q : Int) (hp : p = 2 ^ n) (hq : q = 2 ^ (32 - n)) : bits .or .u32 (U x / p) (U x * q % 4294967296) = U (ror x n) := by
  subst hp hq
  rw [U_shr, U_shl, U_or]; rfl

end Go.Proofs.YtaohbpmefcdipaaDoor.Sha
