/- Plain functions: SHA-256 and HMAC over words of 32 bits and lists of bytes, as the proofs of this seat speak of them. Nothing of the program stands here. -/
import Derived.WalkKit
import Derived.Below
import Derived.Lib.Hide
import Derived.Deep.QuietTactic
import Derived.ChangeKeysEq
section
namespace Go.Proofs.YtfhlcondnaahiaaDoor.Sha

/-- A word. -/
abbrev W := BitVec 32

def ror (x : W) (n : Nat) : W := (x >>> n) ||| (x <<< (32 - n))
def sg0 (x : W) : W := (ror x 7 ^^^ ror x 18) ^^^ (x >>> 3)
def sg1 (x : W) : W := (ror x 17 ^^^ ror x 19) ^^^ (x >>> 10)
def Sg0 (x : W) : W := (ror x 2 ^^^ ror x 13) ^^^ ror x 22
def Sg1 (x : W) : W := (ror x 6 ^^^ ror x 11) ^^^ ror x 25
def ch (e f g : W) : W := (e &&& f) ^^^ (~~~e &&& g)
def maj (a b c : W) : W := ((a &&& b) ^^^ (a &&& c)) ^^^ (b &&& c)

/-- A word of four bytes, the first one highest. -/
def word (a b c d : UInt8) : W :=
  (((BitVec.ofNat 32 a.toNat <<< 24) ||| (BitVec.ofNat 32 b.toNat <<< 16)) ||| (BitVec.ofNat 32 c.toNat <<< 8)) ||| BitVec.ofNat 32 d.toNat

/-- Word i of a block. -/
def wordAt (l : List UInt8) (i : Nat) : W := word (l.getD (4 * i) 0) (l.getD (4 * i + 1) 0) (l.getD (4 * i + 2) 0) (l.getD (4 * i + 3) 0)

/-- The word behind those that there are. -/
def nextW (l : List W) : W :=
  ((l.getD (l.length - 16) 0 + sg0 (l.getD (l.length - 15) 0)) + l.getD (l.length - 7) 0) + sg1 (l.getD (l.length - 2) 0)

/-- The first n words. -/
def words (l : List UInt8) : Nat → List W
  | 0 => []
  | n + 1 => if n < 16 then words l n ++ [wordAt l n] else (let s := words l n; s ++ [nextW s])

def sched (l : List UInt8) : List W := words l 64

theorem words_length (l : List UInt8) (n : Nat) : (words l n).length = n := by
  induction n with
  | zero => rfl
  | succ n ih =>
    unfold words
    split <;> simp [ih]
theorem words_lo (l : List UInt8) (n : Nat) (h : n < 16) : words l (n + 1) = words l n ++ [wordAt l n] := by
  rw [words, if_pos h]
theorem words_hi (l : List UInt8) (n : Nat) (h : ¬ n < 16) : words l (n + 1) = words l n ++ [nextW (words l n)] := by
  rw [words, if_neg h]

structure Reg where
  a : W
  b : W
  c : W
  d : W
  e : W
  f : W
  g : W
  h : W

def t1 (r : Reg) (k w : W) : W := w + (((r.h + Sg1 r.e) + ch r.e r.f r.g) + k)
def t2 (r : Reg) : W := Sg0 r.a + maj r.a r.b r.c
def step (r : Reg) (k w : W) : Reg :=
  { a := t1 r k w + t2 r, b := r.a, c := r.b, d := r.c, e := r.d + t1 r k w, f := r.e, g := r.f, h := r.g }

def consts : List W := [
  0x428a2f98, 0x71374491, 0xb5c0fbcf, 0xe9b5dba5, 0x3956c25b, 0x59f111f1, 0x923f82a4, 0xab1c5ed5,
  0xd807aa98, 0x12835b01, 0x243185be, 0x550c7dc3, 0x72be5d74, 0x80deb1fe, 0x9bdc06a7, 0xc19bf174,
  0xe49b69c1, 0xefbe4786, 0x0fc19dc6, 0x240ca1cc, 0x2de92c6f, 0x4a7484aa, 0x5cb0a9dc, 0x76f988da,
  0x983e5152, 0xa831c66d, 0xb00327c8, 0xbf597fc7, 0xc6e00bf3, 0xd5a79147, 0x06ca6351, 0x14292967,
  0x27b70a85, 0x2e1b2138, 0x4d2c6dfc, 0x53380d13, 0x650a7354, 0x766a0abb, 0x81c2c92e, 0x92722c85,
  0xa2bfe8a1, 0xa81a664b, 0xc24b8b70, 0xc76c51a3, 0xd192e819, 0xd6990624, 0xf40e3585, 0x106aa070,
  0x19a4c116, 0x1e376c08, 0x2748774c, 0x34b0bcb5, 0x391c0cb3, 0x4ed8aa4a, 0x5b9cca4f, 0x682e6ff3,
  0x748f82ee, 0x78a5636f, 0x84c87814, 0x8cc70208, 0x90befffa, 0xa4506ceb, 0xbef9a3f7, 0xc67178f2]

/-- n rounds. -/
def rounds (ws : List W) : Nat → Reg → Reg
  | 0, r => r
  | n + 1, r => step (rounds ws n r) (consts.getD n 0) (ws.getD n 0)

def Reg.list (r : Reg) : List W := [r.a, r.b, r.c, r.d, r.e, r.f, r.g, r.h]
def Reg.add (r s : Reg) : Reg := ⟨r.a + s.a, r.b + s.b, r.c + s.c, r.d + s.d, r.e + s.e, r.f + s.f, r.g + s.g, r.h + s.h⟩

/-- A register behind a block (the first 64 bytes of l). -/
def block (r : Reg) (l : List UInt8) : Reg := r.add (rounds (sched l) 64 r)

/-- A register behind n blocks. -/
def blocks : Nat → Reg → List UInt8 → Reg
  | 0, r, _ => r
  | n + 1, r, l => blocks n (block r l) (l.drop 64)

def init : Reg := ⟨0x6a09e667, 0xbb67ae85, 0x3c6ef372, 0xa54ff53a, 0x510e527f, 0x9b05688c, 0x1f83d9ab, 0x5be0cd19⟩

/-- The eight bytes of a number. -/
def eight (n : Nat) : List UInt8 := (List.range 8).map fun i => UInt8.ofNat (n / 2 ^ (56 - 8 * i))
/-- How many noughts stand behind the first byte of the tail. -/
def noughts (n : Nat) : Nat := (119 - n % 64) % 64
def tail (n : Nat) : List UInt8 := 0x80 :: (List.replicate (noughts n) 0 ++ eight (8 * n % 2 ^ 64))
def pad (l : List UInt8) : List UInt8 := l ++ tail l.length

def bytesOf (x : W) : List UInt8 := [UInt8.ofNat (x >>> 24).toNat, UInt8.ofNat (x >>> 16).toNat, UInt8.ofNat (x >>> 8).toNat, UInt8.ofNat x.toNat]
def out (r : Reg) : List UInt8 := r.list.flatMap bytesOf

def sha (l : List UInt8) : List UInt8 := out (blocks ((pad l).length / 64) init (pad l))

def padKey (key : List UInt8) (x : UInt8) : List UInt8 := (List.range 64).map fun i => key.getD i 0 ^^^ x
def shortKey (key : List UInt8) : List UInt8 := if 64 < key.length then sha key else key
def hmac (key l : List UInt8) : List UInt8 :=
  sha (padKey (shortKey key) 0x5c ++ sha (padKey (shortKey key) 0x36 ++ l))

end Go.Proofs.YtfhlcondnaahiaaDoor.Sha
end
section
/- Words of 32 bits and bytes as the numbers that a walk writes: each operation on numbers, as the walk spells it, is the operation on words. -/
namespace Go.Proofs.YtfhlcondnaahiaaDoor.Sha
open Go

/-- A word's number; a byte's number. -/
def U (x : W) : Int := (x.toNat : Int)
def V (b : UInt8) : Int := (b.toNat : Int)
def ofB (b : UInt8) : W := BitVec.ofNat 32 b.toNat
def toB (x : W) : UInt8 := UInt8.ofNat x.toNat

theorem U_nonneg (x : W) : 0 ≤ U x := Int.natCast_nonneg _
theorem U_lt (x : W) : U x < 4294967296 := by unfold U; have := x.isLt; omega
theorem V_nonneg (b : UInt8) : 0 ≤ V b := Int.natCast_nonneg _
theorem V_lt (b : UInt8) : V b < 256 := by unfold V; have := b.toNat_lt; omega
theorem V_inj {x y : UInt8} (h : V x = V y) : x = y := by unfold V at h; exact UInt8.toNat_inj.1 (by omega)

theorem U_add (x y : W) : (U x + U y) % 4294967296 = U (x + y) := by
  unfold U; rw [BitVec.toNat_add]; omega
theorem U_addw (x y : W) : IntKind.u32.wrap (U x + U y) = U (x + y) := by rw [IntKind.wrap_u32']; exact U_add x y
theorem U_xor (x y : W) : bits .xor .u32 (U x) (U y) = U (x ^^^ y) := by
  unfold U; rw [u32_xor_nat _ _ x.isLt y.isLt, BitVec.toNat_xor]
theorem U_and (x y : W) : bits .and .u32 (U x) (U y) = U (x &&& y) := by
  unfold U; rw [u32_and_nat _ _ x.isLt y.isLt, BitVec.toNat_and]
theorem U_or (x y : W) : bits .or .u32 (U x) (U y) = U (x ||| y) := by
  unfold U; rw [u32_or_nat _ _ x.isLt y.isLt, BitVec.toNat_or]
theorem U_not (x : W) : bits .xor .u32 4294967295 (U x) = U (~~~x) := by
  have h := U_xor (BitVec.allOnes 32) x
  rw [BitVec.allOnes_xor] at h
  rw [← h]; rfl
theorem U_not2 (x : W) : bits .xor .u32 (if IntKind.u32.signed = true then -1 else IntKind.u32.max) (U x) = U (~~~x) := U_not x
theorem U_shr (x : W) (n : Nat) : U x / 2 ^ n = U (x >>> n) := by
  unfold U; rw [BitVec.toNat_ushiftRight, Nat.shiftRight_eq_div_pow, Int.natCast_ediv, Int.natCast_pow]
  rfl
theorem U_shl (x : W) (n : Nat) : U x * 2 ^ n % 4294967296 = U (x <<< n) := by
  unfold U; rw [BitVec.toNat_shiftLeft, Nat.shiftLeft_eq, Int.natCast_emod, Int.natCast_mul, Int.natCast_pow]
  rfl
theorem U_ofB (b : UInt8) : V b = U (ofB b) := by
  unfold U V ofB; rw [BitVec.toNat_ofNat]; have := b.toNat_lt; omega
theorem V_toB (x : W) : U x % 256 = V (toB x) := by
  unfold U V toB; simp
theorem V_xor (x y : UInt8) : bits .xor .u8 (V x) (V y) = V (x ^^^ y) := by
  unfold V; rw [u8_xor_nat _ _ x.toNat_lt y.toNat_lt, UInt8.toNat_xor]
theorem V_or (x y : UInt8) : bits .or .u8 (V x) (V y) = V (x ||| y) := by
  unfold V; rw [u8_or_nat _ _ x.toNat_lt y.toNat_lt, UInt8.toNat_or]
/- The shifts of the text, as numerals. -/
theorem U_shr3 (x : W) : U x / (8 : Int) = U (x >>> 3) := U_shr x 3
theorem U_shr8 (x : W) : U x / (256 : Int) = U (x >>> 8) := U_shr x 8
theorem U_shr10 (x : W) : U x / (1024 : Int) = U (x >>> 10) := U_shr x 10
theorem U_shr16 (x : W) : U x / (65536 : Int) = U (x >>> 16) := U_shr x 16
theorem U_shr24 (x : W) : U x / (16777216 : Int) = U (x >>> 24) := U_shr x 24
theorem U_shl8 (x : W) : U x * 256 % 4294967296 = U (x <<< 8) := U_shl x 8
theorem U_shl16 (x : W) : U x * 65536 % 4294967296 = U (x <<< 16) := U_shl x 16
theorem U_shl24 (x : W) : U x * 16777216 % 4294967296 = U (x <<< 24) := U_shl x 24

/- The same in the spelling in which a wrap stands by its name. -/
theorem U_wrap (x : W) : IntKind.u32.wrap (U x) = U x := by
  rw [IntKind.wrap_u32']; have h0 := U_nonneg x; have h1 := U_lt x; omega
theorem V_wrap (b : UInt8) : IntKind.u8.wrap (V b) = V b := by
  rw [IntKind.wrap_u8']; have h0 := V_nonneg b; have h1 := V_lt b; omega
theorem V_wrap32 (b : UInt8) : IntKind.u32.wrap (V b) = U (ofB b) := by rw [U_ofB]; exact U_wrap _
theorem V_mod32 (b : UInt8) : V b % 4294967296 = U (ofB b) := by
  rw [← U_ofB]; have h0 := V_nonneg b; have h1 := V_lt b; omega
theorem U_wrap8 (x : W) : IntKind.u8.wrap (U x) = V (toB x) := by rw [IntKind.wrap_u8']; exact V_toB x
theorem U_shlw8 (x : W) : IntKind.u32.wrap (U x * 256) = U (x <<< 8) := by rw [IntKind.wrap_u32']; exact U_shl x 8
theorem U_shlw16 (x : W) : IntKind.u32.wrap (U x * 65536) = U (x <<< 16) := by rw [IntKind.wrap_u32']; exact U_shl x 16
theorem U_shlw24 (x : W) : IntKind.u32.wrap (U x * 16777216) = U (x <<< 24) := by rw [IntKind.wrap_u32']; exact U_shl x 24

/-- How far a word is turned in the text; and what the turn to the left is handed. -/
def Turn (n : Int) : Prop := n = 2 ∨ n = 6 ∨ n = 7 ∨ n = 11 ∨ n = 13 ∨ n = 17 ∨ n = 18 ∨ n = 19 ∨ n = 22 ∨ n = 25

/-- The turn to the right, as the program's text and as the document's writes it: n, 2 to the n, 2 to the rest. -/
theorem or_ror (x : W) (n : Nat) (p q : Int) (hp : p = 2 ^ n) (hq : q = 2 ^ (32 - n)) : bits .or .u32 (U x * q % 4294967296) (U x / p) = U (ror x n) := by
  subst hp hq
  rw [U_shr, U_shl, U_or, BitVec.or_comm]; rfl
theorem ror_or (x : W) (n : Nat) (p q : Int) (hp : p = 2 ^ n) (hq : q = 2 ^ (32 - n)) : bits .or .u32 (U x / p) (U x * q % 4294967296) = U (ror x n) := by
  subst hp hq
  rw [U_shr, U_shl, U_or]; rfl

end Go.Proofs.YtfhlcondnaahiaaDoor.Sha
end
section
/- Blocks of memory, known whole: what a block holds is a list of values. -/
namespace Go.Proofs.YtfhlcondnaahiaaDoor
open Go.RowKit Sha

/-- Block b holds these cells, and none of them is frozen. -/
def blockIs (w : World) (b : Nat) (cs : List Value) (t : TypeId) : Prop := w.heap[b]? = some (.cells cs.toArray t (0, 0))

theorem blockIs.cell {w : World} {b : Nat} {cs : List Value} {t : TypeId} (h : blockIs w b cs t) (j : Nat) : w.cell? ⟨b, j, none⟩ = cs[j]? := by
  rw [cell_of_row w b j cs.toArray t (0, 0) h]; simp
theorem blockIs.at {w : World} {b : Nat} {cs : List Value} {t : TypeId} (h : blockIs w b cs t) (j : Nat) (hj : j < cs.length) : w.cell? ⟨b, j, none⟩ = some cs[j] := by
  rw [h.cell, List.getElem?_eq_getElem hj]
theorem blockIs.free {w : World} {b : Nat} {cs : List Value} {t : TypeId} (h : blockIs w b cs t) (j : Nat) : w.frozen? ⟨b, j, none⟩ = false := frozen_of_row w b j _ t h
theorem blockIs.lt {w : World} {b : Nat} {cs : List Value} {t : TypeId} (h : blockIs w b cs t) : b < w.heap.size := by
  unfold blockIs at h
  exact (Array.getElem?_eq_some_iff.1 h).1
theorem blockIs.set {w : World} {b : Nat} {cs : List Value} {t : TypeId} (h : blockIs w b cs t) (j : Nat) (v : Value) : blockIs (w.setCell ⟨b, j, none⟩ v) b (cs.set j v) t := by
  unfold blockIs
  rw [heap_setCell_same w b j _ t v h]
  simp
theorem blockIs.other {w : World} {b : Nat} {cs : List Value} {t : TypeId} (h : blockIs w b cs t) (a : Addr) (v : Value) (hb : b ≠ a.block) : blockIs (w.setCell a v) b cs t := by
  unfold blockIs
  rw [heap_setCell_other w a b v hb]
  exact h
theorem blockIs.drewN {w : World} {b : Nat} {cs : List Value} {t : TypeId} (h : blockIs w b cs t) (n : Nat) : blockIs (w.drewN n) b cs t := h
theorem blockIs.alloc {w : World} {b : Nat} {cs : List Value} {t : TypeId} (h : blockIs w b cs t) (o : Obj) : blockIs (w.alloc o) b cs t := by
  unfold blockIs
  rw [Below.heap_alloc w o b h.lt]
  exact h
theorem blockIs.new (w : World) (cs : List Value) (t : TypeId) : blockIs (w.alloc (.cells cs.toArray t (0, 0))) w.heap.size cs t := heap_alloc_new w _
theorem blockIs.last (w : World) (cs : List Value) (t : TypeId) (g : Nat) (h : g = w.heap.size) : blockIs (w.alloc (.cells cs.toArray t (0, 0))) g cs t := by
  subst h
  exact blockIs.new w cs t
theorem blockIs.below {B : Nat} {w w' : World} (hb : Below B w w') {b : Nat} {cs : List Value} {t : TypeId} (h : blockIs w b cs t) (hB : b < B) : blockIs w' b cs t := by
  unfold blockIs
  rw [hb.block b hB]
  exact h

/-- All that w holds is in w', but block b may be another one, and there may be new blocks. -/
structure But (b : Nat) (w w' : World) : Prop where
  os : w'.os = w.os
  tape : w'.tape = w.tape
  output : w'.output = w.output
  size : w.heap.size ≤ w'.heap.size
  block : ∀ k, k < w.heap.size → k ≠ b → w'.heap[k]? = w.heap[k]?

theorem But.refl (b : Nat) (w : World) : But b w w := ⟨rfl, rfl, rfl, Nat.le_refl _, fun _ _ _ => rfl⟩
theorem But.trans {b : Nat} {x y z : World} (h : But b x y) (k : But b y z) : But b x z :=
  ⟨k.os.trans h.os, k.tape.trans h.tape, k.output.trans h.output, Nat.le_trans h.size k.size, fun i hi hn => (k.block i (Nat.lt_of_lt_of_le hi h.size) hn).trans (h.block i hi hn)⟩
theorem But.drewN {b : Nat} {x y : World} (h : But b x y) (n : Nat) : But b x (y.drewN n) := ⟨h.os, h.tape, h.output, h.size, h.block⟩
theorem But.alloc {b : Nat} {x y : World} (h : But b x y) (o : Obj) : But b x (y.alloc o) :=
  h.trans ⟨rfl, rfl, rfl, by simp, fun k hk _ => Below.heap_alloc y o k hk⟩
/-- A store into block b, or into a block that is new. -/
theorem But.setCell {b : Nat} {x y : World} (h : But b x y) (a : Addr) (v : Value) (ha : a.block = b ∨ x.heap.size ≤ a.block) : But b x (y.setCell a v) :=
  ⟨h.os, h.tape, h.output, by simpa [World.setCell] using h.size, fun k hk hn => by
    rw [heap_setCell_other y a k v (by rcases ha with rfl | ha <;> omega)]
    exact h.block k hk hn⟩
theorem But.of_below {b : Nat} {w w' : World} (h : Below w.heap.size w w') : But b w w' := ⟨h.os, h.tape, h.output, h.size, fun k hk _ => h.block k hk⟩
theorem But.below {b B : Nat} {w w' : World} (h : But b w w') (hB : B ≤ b) (hs : B ≤ w.heap.size) : Below B w w' := ⟨h.os, h.tape, h.output, h.size, fun k hk => h.block k (by omega) (by omega)⟩
theorem But.is {b : Nat} {w w' : World} (h : But b w w') {k : Nat} {cs : List Value} {t : TypeId} (hk : blockIs w k cs t) (hn : k ≠ b) : blockIs w' k cs t := by
  unfold blockIs
  rw [h.block k hk.lt hn]
  exact hk
theorem But.cell {b : Nat} {w w' : World} (h : But b w w') {p : Addr} {v : Value} (hp : w.cell? p = some v) (hn : p.block ≠ b) : w'.cell? p = some v := by
  rw [← hp]
  exact World.cell?_of_block (w := w) (h.block p.block (block_lt_of_cell hp) hn)

/-- Words, as cells. -/
def cells32 (f : Nat → W) (n : Nat) : List Value := (List.range n).map fun j => .int .u32 (U (f j))
def cells8 (f : Nat → UInt8) (n : Nat) : List Value := (List.range n).map fun j => .int .u8 (V (f j))
/-- A list, and noughts behind it. -/
def fill32 (s : List W) : Nat → W := fun j => s.getD j 0

theorem cells32_length (f : Nat → W) (n : Nat) : (cells32 f n).length = n := by simp [cells32]
theorem cells8_length (f : Nat → UInt8) (n : Nat) : (cells8 f n).length = n := by simp [cells8]
theorem cells32_get (f : Nat → W) (n k : Nat) (h : k < n) : (cells32 f n)[k]? = some (.int .u32 (U (f k))) := by
  simp [cells32, h]
theorem cells8_get (f : Nat → UInt8) (n k : Nat) (h : k < n) : (cells8 f n)[k]? = some (.int .u8 (V (f k))) := by
  simp [cells8, h]
theorem range_set {α : Type} (f : Nat → α) (n k : Nat) (h : k < n) (x : α) : ((List.range n).map f).set k x = (List.range n).map (fun j => if j = k then x else f j) := by
  apply List.ext_getElem?
  intro i
  rw [List.getElem?_set]
  by_cases hi : i < n
  · by_cases e : k = i
    · subst e; simp [h]
    · have e' : ¬ i = k := fun h => e h.symm
      simp [hi, e, e']
  · have e : ¬ k = i := by omega
    simp [hi, e]
theorem cells32_set (f : Nat → W) (n k : Nat) (h : k < n) (x : W) : (cells32 f n).set k (.int .u32 (U x)) = cells32 (fun j => if j = k then x else f j) n := by
  unfold cells32
  rw [range_set _ _ _ h]
  apply List.map_congr_left
  intro j _
  by_cases e : j = k <;> simp [e]
theorem cells8_set (f : Nat → UInt8) (n k : Nat) (h : k < n) (x : UInt8) : (cells8 f n).set k (.int .u8 (V x)) = cells8 (fun j => if j = k then x else f j) n := by
  unfold cells8
  rw [range_set _ _ _ h]
  apply List.map_congr_left
  intro j _
  by_cases e : j = k <;> simp [e]
theorem fill32_snoc (s : List W) (x : W) : (fun j => if j = s.length then x else fill32 s j) = fill32 (s ++ [x]) := by
  funext j
  unfold fill32
  by_cases e : j = s.length
  · subst e; simp
  · by_cases h : j < s.length
    · simp [e, List.getElem?_append_left h]
    · have h1 : s.length ≤ j := by omega
      have h2 : (s ++ [x]).length ≤ j := by simp; omega
      simp [e, List.getElem?_eq_none h1, List.getElem?_eq_none h2]
theorem cells32_fill_set (s : List W) (n : Nat) (h : s.length < n) (x : W) : (cells32 (fill32 s) n).set s.length (.int .u32 (U x)) = cells32 (fill32 (s ++ [x])) n := by
  rw [cells32_set _ _ _ h, fill32_snoc]

/-- A cell in the middle of a block. -/
theorem get_mid {α : Type} (p x q : List α) (k : Nat) (h : k < x.length) : (p ++ (x ++ q))[p.length + k]? = x[k]? := by
  rw [List.getElem?_append_right (by omega), List.getElem?_append_left (by omega)]
  simp
theorem set_mid {α : Type} (p x q : List α) (k : Nat) (h : k < x.length) (v : α) : (p ++ (x ++ q)).set (p.length + k) v = p ++ (x.set k v ++ q) := by
  rw [List.set_append_right _ _ (by omega), List.set_append_left _ _ (by omega)]
  simp

/-- An element of an array by value. -/
theorem run_index_agg {P : Program} {t e : TypeId} {n i : Nat} {cs : Array Value} {v : Value} (h : P.underlying t = some (.array n e)) (he : P.plainKey e = true) (hi : (P.info? e).isSome = true) (hc : P.cellsOf e = 1) (hk : i < n) (hv : cs[i]? = some v) (w : World) :
    (Instr.index t (.agg cs) (.int .i64 (i : Int))).run P w = .ok v w := by
  have h1 : 0 ≤ (i : Int) ∧ (i : Int) < (n : Int) := by omega
  have h2 : (i : Int).toNat = i := by omega
  obtain ⟨inf, hj⟩ := Option.isSome_iff_exists.1 hi
  have hp : (part e cs i).run P w = .ok v w := run_part_plain w he hv
  simp [Instr.index, run_underlying h, asIntOf, hk, h2, run_sizeOf w hj, hc, hp]

end Go.Proofs.YtfhlcondnaahiaaDoor
end
section
/- Plain laws of SHA-256's register: a block needs its 64 bytes alone; registers behind whole blocks. -/
namespace Go.Proofs.YtfhlcondnaahiaaDoor.Sha

theorem getD_take {α : Type} (l : List α) (n j : Nat) (d : α) (h : j < n) : (l.take n).getD j d = l.getD j d := by
  simp [h]
theorem wordAt_congr (l l' : List UInt8) (h : l.take 64 = l'.take 64) (i : Nat) (hi : i < 16) : wordAt l i = wordAt l' i := by
  unfold wordAt
  rw [← getD_take l 64 (4 * i) 0 (by omega), ← getD_take l 64 (4 * i + 1) 0 (by omega), ← getD_take l 64 (4 * i + 2) 0 (by omega), ← getD_take l 64 (4 * i + 3) 0 (by omega), h,
    getD_take l' 64 (4 * i) 0 (by omega), getD_take l' 64 (4 * i + 1) 0 (by omega), getD_take l' 64 (4 * i + 2) 0 (by omega), getD_take l' 64 (4 * i + 3) 0 (by omega)]
theorem words_congr (l l' : List UInt8) (h : l.take 64 = l'.take 64) (n : Nat) : words l n = words l' n := by
  induction n with
  | zero => rfl
  | succ n ih =>
    by_cases hn : n < 16
    · rw [words_lo _ _ hn, words_lo _ _ hn, ih, wordAt_congr l l' h n hn]
    · rw [words_hi _ _ hn, words_hi _ _ hn, ih]
theorem block_congr (r : Reg) (l l' : List UInt8) (h : l.take 64 = l'.take 64) : block r l = block r l' := by
  unfold block sched
  rw [words_congr l l' h]
theorem blocks_congr (n : Nat) : ∀ (r : Reg) (l l' : List UInt8), l.take (64 * n) = l'.take (64 * n) → blocks n r l = blocks n r l' := by
  induction n with
  | zero => intro r l l' _; rfl
  | succ n ih =>
    intro r l l' h
    have h1 : l.take 64 = l'.take 64 := by
      have := congrArg (List.take 64) h
      rwa [List.take_take, List.take_take, Nat.min_eq_left (by omega)] at this
    have h2 : (l.drop 64).take (64 * n) = (l'.drop 64).take (64 * n) := by
      have := congrArg (List.drop 64) h
      rwa [List.drop_take, List.drop_take, show 64 * (n + 1) - 64 = 64 * n by omega] at this
    unfold blocks
    rw [block_congr r l l' h1]
    exact ih _ _ _ h2
theorem blocks_succ (n : Nat) (r : Reg) (l : List UInt8) : blocks (n + 1) r l = blocks n (block r l) (l.drop 64) := rfl
theorem blocks_one (r : Reg) (l : List UInt8) : blocks 1 r l = block r l := rfl
theorem blocks_add (a b : Nat) : ∀ (r : Reg) (l : List UInt8), blocks (a + b) r l = blocks b (blocks a r l) (l.drop (64 * a)) := by
  induction a with
  | zero => intro r l; simp [blocks]
  | succ a ih =>
    intro r l
    rw [show a + 1 + b = (a + b) + 1 by omega, blocks_succ, blocks_succ, ih, List.drop_drop, show 64 + 64 * a = 64 * (a + 1) by omega]

/-- The register behind a text's whole blocks. -/
def regAfter (m : List UInt8) : Reg := blocks (m.length / 64) init m

/-- Behind a text that fills its block not yet. -/
theorem regAfter_short (m y : List UInt8) (h : m.length % 64 + y.length < 64) : regAfter (m ++ y) = regAfter m := by
  unfold regAfter
  have e : (m ++ y).length / 64 = m.length / 64 := by simp; omega
  rw [e]
  apply blocks_congr
  rw [List.take_append_of_le_length (by omega)]
/-- Behind one block more: s is the block. -/
theorem regAfter_block (m y s : List UInt8) (h : m.length % 64 + y.length = 64) (hs : s.take 64 = m.drop (m.length - m.length % 64) ++ y) : regAfter (m ++ y) = block (regAfter m) s := by
  unfold regAfter
  have e : (m ++ y).length / 64 = m.length / 64 + 1 := by simp; omega
  have hq : 64 * (m.length / 64) = m.length - m.length % 64 := by omega
  rw [e, blocks_add]
  have e1 : blocks (m.length / 64) init (m ++ y) = blocks (m.length / 64) init m := by
    apply blocks_congr
    rw [List.take_append_of_le_length (by omega)]
  rw [e1, blocks_one]
  apply block_congr
  rw [hs, hq, List.drop_append_of_le_length (by omega)]
  apply List.take_of_length_le
  simp
  omega
theorem regAfter_whole (m l : List UInt8) (h : m.length % 64 = 0) (hl : 64 ≤ l.length) : regAfter (m ++ l.take 64) = block (regAfter m) l := by
  apply regAfter_block
  · simp; omega
  · rw [h]; simp
theorem sha_eq (l : List UInt8) : sha l = out (regAfter (pad l)) := rfl
theorem eight_length (n : Nat) : (eight n).length = 8 := by simp [eight]
theorem tail_length (n : Nat) : (tail n).length = 9 + noughts n := by simp [tail, eight_length]; omega
end Go.Proofs.YtfhlcondnaahiaaDoor.Sha
end
