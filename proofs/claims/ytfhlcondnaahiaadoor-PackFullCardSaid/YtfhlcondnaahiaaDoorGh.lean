/- Plain functions: AES-256 over words of 32 bits and lists of bytes, as the proofs of this seat speak of them. Nothing of the program stands here. -/
import Derived.Test.YtfhlcondnaahiaaDoorTk
import Derived.Test.YtfhlcondnaahiaaDoorGa
import Derived.Test.YtfhlcondnaahiaaDoorGc
import Derived.Test.YtfhlcondnaahiaaDoorGd
import Derived.Test.YtfhlcondnaahiaaDoorGg
import Derived.Laws.CopyOwn
import Derived.Deep.MidRow
import Derived.Deep.RegionLaw
import Derived.Lib.SmallJoins
import Derived.Lib.ConvBytes
import Derived.OwnWalk
import Derived.Test.YtfhlcondnaahiaaDoorRows
import Derived.WalkKit
import Derived.WalkSpells
import Derived.WalkLawsBesides
import Derived.Deep.QuietTactic
import Derived.BigQuiet
import Derived.Deep.DeepCutAuto
import Derived.Deep.RegionHeld3
section
namespace Go.Proofs.YtfhlcondnaahiaaDoor.Ci.Aes
open Sha

/-- What each byte is swapped for. -/
def sbox : List UInt8 := [
  99, 124, 119, 123, 242, 107, 111, 197, 48, 1, 103, 43, 254, 215, 171, 118,
  202, 130, 201, 125, 250, 89, 71, 240, 173, 212, 162, 175, 156, 164, 114, 192,
  183, 253, 147, 38, 54, 63, 247, 204, 52, 165, 229, 241, 113, 216, 49, 21,
  4, 199, 35, 195, 24, 150, 5, 154, 7, 18, 128, 226, 235, 39, 178, 117,
  9, 131, 44, 26, 27, 110, 90, 160, 82, 59, 214, 179, 41, 227, 47, 132,
  83, 209, 0, 237, 32, 252, 177, 91, 106, 203, 190, 57, 74, 76, 88, 207,
  208, 239, 170, 251, 67, 77, 51, 133, 69, 249, 2, 127, 80, 60, 159, 168,
  81, 163, 64, 143, 146, 157, 56, 245, 188, 182, 218, 33, 16, 255, 243, 210,
  205, 12, 19, 236, 95, 151, 68, 23, 196, 167, 126, 61, 100, 93, 25, 115,
  96, 129, 79, 220, 34, 42, 144, 136, 70, 238, 184, 20, 222, 94, 11, 219,
  224, 50, 58, 10, 73, 6, 36, 92, 194, 211, 172, 98, 145, 149, 228, 121,
  231, 200, 55, 109, 141, 213, 78, 169, 108, 86, 244, 234, 101, 122, 174, 8,
  186, 120, 37, 46, 28, 166, 180, 198, 232, 221, 116, 31, 75, 189, 139, 138,
  112, 62, 181, 102, 72, 3, 246, 14, 97, 53, 87, 185, 134, 193, 29, 158,
  225, 248, 152, 17, 105, 217, 142, 148, 155, 30, 135, 233, 206, 85, 40, 223,
  140, 161, 137, 13, 191, 230, 66, 104, 65, 153, 45, 15, 176, 84, 187, 22]
def sub (b : UInt8) : UInt8 := sbox.getD b.toNat 0
def rol (x : W) (n : Nat) : W := (x <<< n) ||| (x >>> (32 - n))
def byteOf (x : W) (n : Nat) : UInt8 := UInt8.ofNat (x >>> n).toNat
def pick (a b c d : W) : W := word (sub (byteOf a 24)) (sub (byteOf b 16)) (sub (byteOf c 8)) (sub (byteOf d 0))
def twice (w : W) : W := ((w &&& 0x7f7f7f7f) <<< 1) ^^^ (((w >>> 7) &&& 0x01010101) * 0x1b)
def mix (w : W) : W := ((twice w ^^^ rol (twice w ^^^ w) 8) ^^^ rol w 16) ^^^ rol w 24
/-- What is put together with the word eight ahead. -/
def nextWord (s : List W) (i : Nat) : W :=
  if i % 8 = 0 then pick (rol (s.getD (i - 1) 0) 8) (rol (s.getD (i - 1) 0) 8) (rol (s.getD (i - 1) 0) 8) (rol (s.getD (i - 1) 0) 8) ^^^ ((1 : W) <<< (i / 8 + 23))
  else if i % 8 = 4 then pick (s.getD (i - 1) 0) (s.getD (i - 1) 0) (s.getD (i - 1) 0) (s.getD (i - 1) 0)
  else s.getD (i - 1) 0
/-- The first words of a key. -/
def words (key : List UInt8) : Nat → List W
  | 0 => []
  | i + 1 => if i < 8 then words key i ++ [wordAt key i] else (let s := words key i; s ++ [s.getD (i - 8) 0 ^^^ nextWord s i])
structure St where
  p : W
  q : W
  r : W
  t : W
def start (ws : List W) (b : List UInt8) : St := ⟨wordAt b 0 ^^^ ws.getD 0 0, wordAt b 1 ^^^ ws.getD 1 0, wordAt b 2 ^^^ ws.getD 2 0, wordAt b 3 ^^^ ws.getD 3 0⟩
def round (ws : List W) (at_ : Nat) (s : St) : St :=
  ⟨mix (pick s.p s.q s.r s.t) ^^^ ws.getD at_ 0, mix (pick s.q s.r s.t s.p) ^^^ ws.getD (at_ + 1) 0, mix (pick s.r s.t s.p s.q) ^^^ ws.getD (at_ + 2) 0, mix (pick s.t s.p s.q s.r) ^^^ ws.getD (at_ + 3) 0⟩
def rounds (ws : List W) : Nat → St → St
  | 0, s => s
  | n + 1, s => round ws (4 * (n + 1)) (rounds ws n s)
def last (ws : List W) (s : St) : St := ⟨pick s.p s.q s.r s.t ^^^ ws.getD 56 0, pick s.q s.r s.t s.p ^^^ ws.getD 57 0, pick s.r s.t s.p s.q ^^^ ws.getD 58 0, pick s.t s.p s.q s.r ^^^ ws.getD 59 0⟩
def bytes4 (x : W) : List UInt8 := [byteOf x 24, byteOf x 16, byteOf x 8, byteOf x 0]
def turn (ws : List W) (b : List UInt8) : List UInt8 :=
  let s := last ws (rounds ws 13 (start ws b))
  bytes4 s.p ++ (bytes4 s.q ++ (bytes4 s.r ++ bytes4 s.t))
theorem words_length (key : List UInt8) (n : Nat) : (words key n).length = n := by
  induction n with
  | zero => rfl
  | succ n ih => rw [words]; split <;> simp [ih]
end Go.Proofs.YtfhlcondnaahiaaDoor.Ci.Aes
end
section
/- Bytes and words as the numbers that a walk writes: the operations of the ciphers. -/
namespace Go.Proofs.YtfhlcondnaahiaaDoor.Ci.Aes
open Go Sha

def shl8 (x : UInt8) (n : Nat) : UInt8 := UInt8.ofNat (x.toNat * 2 ^ n)
def shr8 (x : UInt8) (n : Nat) : UInt8 := UInt8.ofNat (x.toNat / 2 ^ n)
def mul8 (x : UInt8) (k : Nat) : UInt8 := UInt8.ofNat (x.toNat * k)
def rol8 (x : UInt8) (n : Nat) : UInt8 := shl8 x n ||| shr8 x (8 - n)

theorem V_ofNat (n : Nat) : V (UInt8.ofNat n) = ((n % 256 : Nat) : Int) := by
  unfold V; rw [UInt8.toNat_ofNat']
theorem V_shl (x : UInt8) (n : Nat) (p : Int) (hp : p = ((2 ^ n : Nat) : Int)) : V x * p % 256 = V (shl8 x n) := by
  subst hp
  unfold shl8; rw [V_ofNat]; unfold V
  rw [Int.natCast_emod, Int.natCast_mul]; rfl
theorem V_shr (x : UInt8) (n : Nat) (p : Int) (hp : p = ((2 ^ n : Nat) : Int)) : V x / p = V (shr8 x n) := by
  subst hp
  have h := x.toNat_lt
  have h2 : x.toNat / 2 ^ n ≤ x.toNat := Nat.div_le_self _ _
  unfold shr8; rw [V_ofNat, Nat.mod_eq_of_lt (by omega)]; unfold V
  rw [Int.natCast_ediv]
theorem V_mul (x : UInt8) (k : Nat) : V x * ((k : Nat) : Int) % 256 = V (mul8 x k) := by
  unfold mul8; rw [V_ofNat]; unfold V
  rw [Int.natCast_emod, Int.natCast_mul]; rfl
theorem V_shl1 (x : UInt8) : V x * 2 % 256 = V (shl8 x 1) := V_shl x 1 _ rfl
theorem V_shl2 (x : UInt8) : V x * 4 % 256 = V (shl8 x 2) := V_shl x 2 _ rfl
theorem V_shl4 (x : UInt8) : V x * 16 % 256 = V (shl8 x 4) := V_shl x 4 _ rfl
theorem V_shlw1 (x : UInt8) : IntKind.u8.wrap (V x * 2) = V (shl8 x 1) := by rw [IntKind.wrap_u8']; exact V_shl1 x
theorem V_shlw2 (x : UInt8) : IntKind.u8.wrap (V x * 4) = V (shl8 x 2) := by rw [IntKind.wrap_u8']; exact V_shl2 x
theorem V_shlw4 (x : UInt8) : IntKind.u8.wrap (V x * 16) = V (shl8 x 4) := by rw [IntKind.wrap_u8']; exact V_shl4 x
theorem V_shr7 (x : UInt8) : V x / (128 : Int) = V (shr8 x 7) := V_shr x 7 _ rfl
theorem V_mul27 (x : UInt8) : V x * 27 % 256 = V (mul8 x 27) := V_mul x 27
theorem V_mul9 (x : UInt8) : V x * 9 % 256 = V (mul8 x 9) := V_mul x 9
theorem V_mulw27 (x : UInt8) : IntKind.u8.wrap (V x * 27) = V (mul8 x 27) := by rw [IntKind.wrap_u8']; exact V_mul27 x
theorem V_mulw9 (x : UInt8) : IntKind.u8.wrap (V x * 9) = V (mul8 x 9) := by rw [IntKind.wrap_u8']; exact V_mul9 x
theorem V_x63 (x : UInt8) : bits .xor .u8 99 (V x) = V (0x63 ^^^ x) := V_xor 0x63 x
theorem V_rol (x : UInt8) (n : Nat) (p q : Int) (hp : p = ((2 ^ n : Nat) : Int)) (hq : q = ((2 ^ (8 - n) : Nat) : Int)) : bits .or .u8 (V x * p % 256) (V x / q) = V (rol8 x n) := by
  rw [V_shl x n p hp, V_shr x (8 - n) q hq, V_or]; rfl

theorem byteOf_U (x : W) (n : Nat) (p : Int) (hp : p = ((2 ^ n : Nat) : Int)) : U x / p % 256 = V (byteOf x n) := by
  subst hp
  unfold byteOf; rw [V_ofNat, BitVec.toNat_ushiftRight, Nat.shiftRight_eq_div_pow]
  unfold U; rw [Int.natCast_emod, Int.natCast_ediv]; rfl
theorem byteOf_24 (x : W) : U x / (16777216 : Int) % 256 = V (byteOf x 24) := byteOf_U x 24 _ rfl
theorem byteOf_16 (x : W) : U x / (65536 : Int) % 256 = V (byteOf x 16) := byteOf_U x 16 _ rfl
theorem byteOf_8 (x : W) : U x / (256 : Int) % 256 = V (byteOf x 8) := byteOf_U x 8 _ rfl
theorem byteOf_0 (x : W) : U x % 256 = V (byteOf x 0) := by
  have := byteOf_U x 0 1 rfl
  rwa [Int.ediv_one] at this
theorem byteOf_w24 (x : W) : IntKind.u8.wrap (U x / (16777216 : Int)) = V (byteOf x 24) := by rw [IntKind.wrap_u8']; exact byteOf_24 x
theorem byteOf_w16 (x : W) : IntKind.u8.wrap (U x / (65536 : Int)) = V (byteOf x 16) := by rw [IntKind.wrap_u8']; exact byteOf_16 x
theorem byteOf_w8 (x : W) : IntKind.u8.wrap (U x / (256 : Int)) = V (byteOf x 8) := by rw [IntKind.wrap_u8']; exact byteOf_8 x
theorem byteOf_w0 (x : W) : IntKind.u8.wrap (U x) = V (byteOf x 0) := by rw [IntKind.wrap_u8']; exact byteOf_0 x
theorem U_rol (x : W) (n : Nat) (p q : Int) (hp : p = 2 ^ n) (hq : q = 2 ^ (32 - n)) : bits .or .u32 (U x * p % 4294967296) (U x / q) = U (rol x n) := by
  subst hp hq
  rw [U_shr, U_shl, U_or]; rfl
theorem U_and7f (x : W) : bits .and .u32 (U x) 2139062143 = U (x &&& 0x7f7f7f7f) := U_and x 0x7f7f7f7f
theorem U_and01 (x : W) : bits .and .u32 (U x) 16843009 = U (x &&& 0x01010101) := U_and x 0x01010101
theorem U_shr7 (x : W) : U x / (128 : Int) = U (x >>> 7) := U_shr x 7
theorem U_shl1 (x : W) : U x * 2 % 4294967296 = U (x <<< 1) := U_shl x 1
theorem U_shlw1 (x : W) : IntKind.u32.wrap (U x * 2) = U (x <<< 1) := by rw [IntKind.wrap_u32']; exact U_shl x 1
theorem U_mul27 (x : W) : U x * 27 % 4294967296 = U (x * 0x1b) := by
  unfold U; rw [BitVec.toNat_mul, Int.natCast_emod, Int.natCast_mul]; rfl
theorem U_mulw27 (x : W) : IntKind.u32.wrap (U x * 27) = U (x * 0x1b) := by rw [IntKind.wrap_u32']; exact U_mul27 x

/-- The table's rule: x, y and the table behind k rounds. -/
def nextX (x : UInt8) : UInt8 := x ^^^ (shl8 x 1 ^^^ mul8 (shr8 x 7) 27)
def y1 (y : UInt8) : UInt8 := y ^^^ shl8 y 1
def y2 (y : UInt8) : UInt8 := y ^^^ shl8 y 2
def y4 (y : UInt8) : UInt8 := y ^^^ shl8 y 4
def y9 (y : UInt8) : UInt8 := y ^^^ mul8 (shr8 y 7) 9
def nextY (y : UInt8) : UInt8 := y9 (y4 (y2 (y1 y)))
def boxOf (y : UInt8) : UInt8 := ((((0x63 ^^^ y) ^^^ rol8 y 1) ^^^ rol8 y 2) ^^^ rol8 y 3) ^^^ rol8 y 4
structure Tb where
  x : UInt8
  y : UInt8
  box : List UInt8
def tbl : Nat → Tb
  | 0 => ⟨1, 1, 0x63 :: List.replicate 255 0⟩
  | n + 1 => let s := tbl n; ⟨nextX s.x, nextY s.y, s.box.set (nextX s.x).toNat (boxOf (nextY s.y))⟩
theorem tbl_box : (tbl 255).box = sbox := by decide +kernel
theorem tbl_len (n : Nat) : (tbl n).box.length = 256 := by
  induction n with
  | zero =>
    rw [tbl, List.length_cons, List.length_replicate]
  | succ n ih => rw [tbl]; simp [ih]
end Go.Proofs.YtfhlcondnaahiaaDoor.Ci.Aes
end
section
/- Blocks of bytes: plain laws of memory. -/
namespace Go.Proofs.YtfhlcondnaahiaaDoor.Ci
open Go.RowKit Sha

theorem getD_take {α : Type} (l : List α) (n j : Nat) (d : α) (h : j < n) : (l.take n).getD j d = l.getD j d := by
  simp [h]
theorem byteCells_length (l : List UInt8) : (byteCells l).length = l.length := by simp [byteCells]
theorem byteCells_get (l : List UInt8) (j : Nat) (h : j < l.length) : (byteCells l)[j]? = some (.int .u8 (V (l.getD j 0))) := by
  simp [byteCells, h]
theorem byteCells_one (l : List UInt8) : ∀ v ∈ byteCells l, v.oneCell' = true := by
  intro v hv
  obtain ⟨_, _, rfl⟩ := List.mem_map.1 hv
  rfl
/-- copy into the middle of a block that is known whole, from somewhere else. -/
theorem wpList_copy_but {P : Program} {w : World} {ops : Array Oper} {rest : List Oper} {o : Oper} {a : Act} {Q : Exit → Act → World → Prop} (hgd : o.guard = none) (d s : Operand) (dT sT : TypeId)
    (ho : o.op = .call { callee := .builtin .copy, args := #[d, s], argTypes := #[dT, sT] }) (elem : TypeId) (hu : P.underlying dT = some (.slice elem)) (hsz : (P.info? elem).map (·.size) = some 1)
    (dp sp : Option Addr) (dLen dCap sLen sCap : Nat) (hd : a.eval d = .slice dp dLen dCap) (hs : a.eval s = .slice sp sLen sCap)
    (g off : Nat) (cur : List Value) (t : TypeId) (hg : blockIs w g cur t) (cs : List Value) (hn : cs.length = Nat.min sLen dLen)
    (hpos : 0 < cs.length → dp = some ⟨g, off, none⟩ ∧ ∃ ad, sp = some ad ∧ ∀ j v, cs[j]? = some v → w.cell? (ad.add j) = some v)
    (hfit : off + cs.length ≤ cur.length) (h1 : ∀ v ∈ cs, v.oneCell' = true)
    (h : ∀ w', Hid (blockIs w' g (splice cur off cs) t) → Hid (But g w w') → Hid (w'.heap.size = w.heap.size) → wpList P ops Q rest (a.put o.dst (goInt cs.length)) w') :
    wpList P ops Q (o :: rest) a w := by
  by_cases h0 : cs.length = 0
  · obtain rfl : cs = [] := List.eq_nil_of_length_eq_zero h0
    refine wpList_copy_nothing hgd d s dT sT ho elem hu hsz dp sp dLen dCap sLen sCap hd hs (by simpa using hn.symm) ?_
    exact h w (by rw [show splice cur off [] = cur by simp [splice]]; exact hg) (But.refl _ _) rfl
  · obtain ⟨rfl, ad, rfl, hsrc⟩ := hpos (by omega)
    refine wpList_copy_own hgd d s dT sT ho elem hu hsz g off dLen dCap ad sLen sCap hd hs cur.toArray t hg cs hn hsrc (by simpa using hfit) h1 ?_
    refine h _ (show _ = _ by simpa [splice] using setRow_heap w g _ _ t _ hg) ⟨rfl, rfl, rfl, by simp [World.setRow], fun k _ hk => setRow_other w g k _ hk⟩ (by
      show (w.setRow g _).heap.size = _
      simp)
/-- A value of many cells, stored into a block that is known whole. -/
theorem run_storeVar_block {P : Program} (w : World) (g off : Nat) (ty : TypeId) (cur cs : List Value) (t : TypeId) (hg : blockIs w g cur t) (hi : (P.info? ty).map (·.size) = some cs.length) (hfit : off + cs.length ≤ cur.length) (h1 : ∀ v ∈ cs, v.oneCell' = true) :
    (storeVar ty ⟨g, off, none⟩ (.agg cs.toArray)).run P w = .ok () (w.setRow g (splice cur off cs).toArray) := by
  have := run_storeCells_at P g off t cs 0 cur.toArray w hg (by simpa using hfit) h1
  cases hq : P.info? ty with
  | none => simp [hq] at hi
  | some i =>
    have hs : cs.length = i.size := by simp [hq] at hi; omega
    simp [storeVar, sizeOf, typeInfo, hq, Value.cells, hs, this, splice]
theorem wpList_store_block {P : Program} {ops : Array Oper} {rest : List Oper} {o : Oper} {a : Act} {w : World} {Q : Exit → Act → World → Prop} (hgd : o.guard = none) (ty : TypeId) (x y : Operand) (ho : o.op = .store ty x y)
    (g off : Nat) (cs : List Value) (hx : a.eval x = .pointer (some ⟨g, off, none⟩)) (hy : a.eval y = .agg cs.toArray) (cur : List Value) (t : TypeId) (hg : blockIs w g cur t)
    (hi : (P.info? ty).map (·.size) = some cs.length) (hfit : off + cs.length ≤ cur.length) (h1 : ∀ v ∈ cs, v.oneCell' = true)
    (h : ∀ w', Hid (blockIs w' g (splice cur off cs) t) → Hid (But g w w') → Hid (w'.heap.size = w.heap.size) → wpList P ops Q rest (a.put o.dst undef) w') : wpList P ops Q (o :: rest) a w := by
  refine wpList_plain hgd fun K hK => ?_
  unfold Oper.wp execOp
  simp only [ho, hx, hy, Instr.storeAt, Instr.sureAddr, Sem.run_bind, Sem.run_pure, Result.andThen_ok, run_storeVar_block w g off ty cur cs t hg hi hfit h1]
  exact hK _ _ (h _ (show _ = _ by simpa using setRow_heap w g _ _ t _ hg) ⟨rfl, rfl, rfl, by simp [World.setRow], fun k _ hk => setRow_other w g k _ hk⟩ (by
      show (w.setRow g _).heap.size = _
      simp))
/-- A value of many cells, loaded out of a block that is known whole. -/
theorem rangeAt_block {w : World} {g : Nat} {p cs q : List Value} {t : TypeId} (hg : blockIs w g (p ++ (cs ++ q)) t) : w.rangeAt g p.length cs := by
  intro j v hj
  rw [hg.cell, get_mid _ _ _ _ (List.getElem?_eq_some_iff.1 hj).1]
  exact hj
theorem splice_all {α : Type} (x y : List α) (h : x.length = y.length) : splice x 0 y = y := by
  simp [splice, ← h]
theorem range_of {w : World} {g : Nat} {cs : List Value} {t : TypeId} (hg : blockIs w g cs t) : w.rangeAt g 0 cs := by
  intro j v hj
  rw [Nat.zero_add, hg.cell]
  exact hj
theorem splice_get (cells v : List Value) (off k : Nat) (hfit : off + v.length ≤ cells.length) : (splice cells off v)[k]? = if off ≤ k ∧ k < off + v.length then v[k - off]? else cells[k]? := by
  have h1 : (cells.take off).length = off := by rw [List.length_take]; omega
  unfold splice
  by_cases a : k < off
  · rw [if_neg (by omega), List.getElem?_append_left (by omega), List.getElem?_take, if_pos a]
  · rw [List.getElem?_append_right (by omega), h1]
    by_cases b : k - off < v.length
    · rw [if_pos (by omega), List.getElem?_append_left b]
    · rw [if_neg (by omega), List.getElem?_append_right (by omega), List.getElem?_drop]
      congr 1
      omega
theorem splice_keep {x y : List Value} {o : Nat} (h : o + y.length ≤ x.length) : (splice x o y).length = x.length := by
  simp only [splice, List.length_append, List.length_take, List.length_drop]
  omega
theorem wpList_build {P : Program} {ops : Array Oper} {rest : List Oper} {o : Oper} {a : Act} {w : World} {Q : Exit → Act → World → Prop} (hgd : o.guard = none) (ty : TypeId) (ps : Array (Nat × Operand)) (ho : o.op = .build ty ps)
    (qs : Array (Nat × Value)) (v : Value) (hrun : (Instr.build ty qs).run P w = .ok v w) (hq : (ps.toList.map fun p => (p.1, a.eval p.2)) = qs.toList) (h : wpList P ops Q rest (a.put o.dst v) w) : wpList P ops Q (o :: rest) a w := by
  refine wpList_plain hgd fun K hK => ?_
  have e : (ps.map fun (i, x) => (i, a.eval x)) = qs := by
    apply Array.toList_inj.1
    rw [Array.toList_map, ← hq]
  unfold Oper.wp execOp
  simp only [ho, Sem.run_bind, e, hrun, Result.andThen_ok, Sem.run_pure]
  exact hK _ _ h
theorem step_store_block {P : Program} {ops : Array Oper} {o : Oper} {a : Act} {w : World} {K : Act → World → Prop} {Q : Exit → Act → World → Prop} {E : Prop} (hgd : o.guard = none) (ty : TypeId) (x y : Operand) (ho : o.op = .store ty x y)
    (g off : Nat) (cs : List Value) (hx : a.eval x = .pointer (some ⟨g, off, none⟩)) (hy : a.eval y = .agg cs.toArray) (cur : List Value) (t : TypeId) (hg : blockIs w g cur t)
    (hi : (P.info? ty).map (·.size) = some cs.length) (hfit : off + cs.length ≤ cur.length) (h1 : ∀ v ∈ cs, v.oneCell' = true)
    (h : ∀ w', Hid (blockIs w' g (splice cur off cs) t) → Hid (But g w w') → Hid (w'.heap.size = w.heap.size) → K (a.put o.dst undef) w') :
    if Region.wanted o (yielded ops a.tmps) = true then Oper.wp P o a w K Q else E := by
  have hw : Region.wanted o (yielded ops a.tmps) = true := by simp [Region.wanted, hgd]
  rw [if_pos hw]
  unfold Oper.wp execOp
  simp only [ho, hx, hy, Instr.storeAt, Instr.sureAddr, Sem.run_bind, Sem.run_pure, Result.andThen_ok, run_storeVar_block w g off ty cur cs t hg hi hfit h1]
  exact h _ (show _ = _ by simpa using setRow_heap w g _ _ t _ hg) ⟨rfl, rfl, rfl, by simp [World.setRow], fun k _ hk => setRow_other w g k _ hk⟩ (by
    show (w.setRow g _).heap.size = _
    simp)
theorem wpList_load_mid_if {P : Program} {ops : Array Oper} {rest : List Oper} {op : Oper} {a : Act} {w : World} {Q : Exit → Act → World → Prop} (hw : Region.wanted op (yielded ops a.tmps) = true) (ty : TypeId) (x : Operand) (ho : op.op = .load ty x)
    (b o : Nat) (hx : a.eval x = .pointer (some ⟨b, o, none⟩)) (cs : List Value) (d : TypeDesc) (hc : w.rangeAt b o cs)
    (hu : P.underlying ty = some d) (hd : d.isRow = true) (hi : (P.info? ty).map (·.size) = some cs.length)
    (h : wpList P ops Q rest (a.put op.dst (.agg cs.toArray)) w) : wpList P ops Q (op :: rest) a w :=
  BigFrame.wpList_want hw fun _ hK => wp_load_mid ty x ho b o hx cs d hc hu hd hi (hK _ _ h)
theorem zeros_bytes (n : Nat) : zeros n = byteCells (List.replicate n 0) := by
  simp [zeros, byteCells]
  right
  rfl
theorem _root_.Go.Proofs.YtfhlcondnaahiaaDoor.bytesIn.but {w w' : World} {g b o : Nat} {l : List UInt8} (h : bytesIn w (some ⟨b, o, none⟩) l) (hb : But g w w') (hn : b ≠ g) : bytesIn w' (some ⟨b, o, none⟩) l := by
  rcases h with h | ⟨bb, bo, he, h⟩
  · exact Or.inl h
  · cases he
    exact Or.inr ⟨b, o, rfl, fun j hj => hb.cell (h j hj) hn⟩
theorem below_drewN' {B : Nat} {a w : World} (h : Below B a w) (n : Nat) : Below B a (w.drewN n) := ⟨h.os, h.tape, h.output, h.size, h.block⟩
theorem bytesIn.below {w w' : World} {a : Option Addr} {l : List UInt8} (h : bytesIn w a l) (hb : Below w.heap.size w w') : bytesIn w' a l := by
  rcases h with h | ⟨bb, bo, h1, h3⟩
  · exact Or.inl h
  · exact Or.inr ⟨bb, bo, h1, fun j hj => (hb.cell (p := ⟨bb, bo + j, none⟩) (block_lt_of_cell (h3 j hj))).trans (h3 j hj)⟩
theorem bytesIn.take {w : World} {a : Option Addr} {l : List UInt8} (h : bytesIn w a l) (n : Nat) : bytesIn w a (l.take n) := by
  rcases h with rfl | ⟨pb, po, h1, h2⟩
  · left; simp
  · right
    refine ⟨pb, po, h1, fun j hj => ?_⟩
    rw [List.length_take] at hj
    rw [h2 j (by omega), getD_take _ _ _ _ (by omega)]
theorem str_size (l : List UInt8) : (str l).size = l.length := by simp [str, ByteArray.size]
theorem alloc_below (w : World) (o : Obj) : Below w.heap.size w (w.alloc o) := (Below.refl _ _).alloc (Nat.le_refl _) _
theorem below_alloc' {W X : World} (h : Below W.heap.size W X) (o : Obj) : Below W.heap.size W (X.alloc o) := h.alloc h.size o
theorem below_drew' {W X : World} (h : Below W.heap.size W X) : Below W.heap.size W X.drew := below_drewN' h 1
end Go.Proofs.YtfhlcondnaahiaaDoor.Ci
end
section
/- cipher: its small functions: word, mix, pick, the turns. -/
namespace Go.Proofs.YtfhlcondnaahiaaDoor.Ci
open Go.RowKit Sha Aes

theorem ret_u32 {a b : Int} (h : a = b) : Ending.returned (.int .u32 a) = .returned (.int .u32 b) := by rw [h]
theorem ret_u8 {a b : Int} (h : a = b) : Ending.returned (.int .u8 a) = .returned (.int .u8 b) := by rw [h]

set_option maxRecDepth 100000 in
set_option maxHeartbeats 400000 in
theorem rotl8 (x : W) (w : World) :
    Calls Tryd.prog 99 #[.int .u32 (U x), .int .i64 8] w fun e w' => e = .returned (.int .u32 (U (rol x 8))) ∧ w = w' := by
  have h0 := U_nonneg x
  have e1 : bits BinOp.and IntKind.u64 8 31 = 8 := by decide +kernel
  go_enter Tryd.func99, Tryd.ntmps99
  go_wp2
  go_ret
  exact ⟨ret_u32 (U_rol x 8 _ _ rfl rfl), rfl⟩
set_option maxRecDepth 100000 in
set_option maxHeartbeats 400000 in
theorem rotl16 (x : W) (w : World) :
    Calls Tryd.prog 99 #[.int .u32 (U x), .int .i64 16] w fun e w' => e = .returned (.int .u32 (U (rol x 16))) ∧ w = w' := by
  have h0 := U_nonneg x
  have e1 : bits BinOp.and IntKind.u64 16 31 = 16 := by decide +kernel
  go_enter Tryd.func99, Tryd.ntmps99
  go_wp2
  go_ret
  exact ⟨ret_u32 (U_rol x 16 _ _ rfl rfl), rfl⟩
set_option maxRecDepth 100000 in
set_option maxHeartbeats 400000 in
theorem rotl24 (x : W) (w : World) :
    Calls Tryd.prog 99 #[.int .u32 (U x), .int .i64 24] w fun e w' => e = .returned (.int .u32 (U (rol x 24))) ∧ w = w' := by
  have h0 := U_nonneg x
  have e1 : bits BinOp.and IntKind.u64 24 31 = 24 := by decide +kernel
  go_enter Tryd.func99, Tryd.ntmps99
  go_wp2
  go_ret
  exact ⟨ret_u32 (U_rol x 24 _ _ rfl rfl), rfl⟩
set_option maxRecDepth 100000 in
set_option maxHeartbeats 400000 in
theorem rotb (x : UInt8) (n : Nat) (hn : n = 1 ∨ n = 2 ∨ n = 3 ∨ n = 4) (w : World) :
    Calls Tryd.prog 104 #[.int .u8 (V x), .int .i64 n] w fun e w' => e = .returned (.int .u8 (V (rol8 x n))) ∧ w = w' := by
  have h0 := V_nonneg x
  have e1 : bits BinOp.and IntKind.u64 1 7 = 1 := by decide +kernel
  have e2 : bits BinOp.and IntKind.u64 2 7 = 2 := by decide +kernel
  have e3 : bits BinOp.and IntKind.u64 3 7 = 3 := by decide +kernel
  have e4 : bits BinOp.and IntKind.u64 4 7 = 4 := by decide +kernel
  rcases hn with rfl | rfl | rfl | rfl
  all_goals
    go_enter Tryd.func104, Tryd.ntmps104
    go_wp2
    go_ret
  · exact ⟨ret_u8 (V_rol x 1 _ _ rfl rfl), rfl⟩
  · exact ⟨ret_u8 (V_rol x 2 _ _ rfl rfl), rfl⟩
  · exact ⟨ret_u8 (V_rol x 3 _ _ rfl rfl), rfl⟩
  · exact ⟨ret_u8 (V_rol x 4 _ _ rfl rfl), rfl⟩
attribute [local go_sem] U_xor U_or U_shlw8 U_shlw16 U_shlw24 U_shl8 U_shl16 U_shl24 V_wrap32 V_mod32 U_and7f U_and01 U_shr7 U_shlw1 U_shl1 U_mul27 U_mulw27 byteOf_24 byteOf_16 byteOf_8 byteOf_w24 byteOf_w16 byteOf_w8

set_option maxRecDepth 100000 in
set_option maxHeartbeats 400000 in
theorem word_any (a b c d : UInt8) (w : World) :
    Calls Tryd.prog 98 #[.int .u8 (V a), .int .u8 (V b), .int .u8 (V c), .int .u8 (V d)] w fun e w' => e = .returned (.int .u32 (U (word a b c d))) ∧ w = w' := by
  have hw : ∀ b : UInt8, IntKind.u32.wrap (V b) = U (ofB b) := V_wrap32
  go_enter Tryd.func98, Tryd.ntmps98
  go_wp2_with fail
  go_ret
  exact ⟨rfl, rfl⟩
set_option maxRecDepth 100000 in
set_option maxHeartbeats 400000 in
theorem mix_any (x : W) (w : World) :
    Calls Tryd.prog 106 #[.int .u32 (U x)] w fun e w' => e = .returned (.int .u32 (U (Aes.mix x))) ∧ w = w' := by
  have h0 := U_nonneg x
  go_enter Tryd.func106, Tryd.ntmps106
  go_wp2_with fail
  refine (rotl8 _ _).mono ?_
  rintro e w1 ⟨rfl, rfl⟩
  go_wp2_with fail
  refine (rotl16 _ _).mono ?_
  rintro e w1 ⟨rfl, rfl⟩
  go_wp2_with fail
  refine (rotl24 _ _).mono ?_
  rintro e w1 ⟨rfl, rfl⟩
  go_wp2_with fail
  go_ret
  exact ⟨rfl, rfl⟩
end Go.Proofs.YtfhlcondnaahiaaDoor.Ci
end
section
/- cipher: pick. -/
namespace Go.Proofs.YtfhlcondnaahiaaDoor.Ci
open Go.RowKit Sha Aes
attribute [local go_sem] byteOf_24 byteOf_16 byteOf_8 byteOf_w24 byteOf_w16 byteOf_w8

/-- At g stands the table. -/
def boxAt (w : World) (g : Nat) : Prop := ∀ b : UInt8, w.cell? ⟨g, b.toNat, none⟩ = some (.int .u8 (V (sub b)))
theorem boxAt.below {w w' : World} {g : Nat} (h : boxAt w g) (hb : Below w.heap.size w w') : boxAt w' g := fun b => (hb.cell (p := ⟨g, b.toNat, none⟩) (block_lt_of_cell (h b))).trans (h b)
theorem V_nat (b : UInt8) : (V b).toNat = b.toNat := Int.toNat_natCast _

set_option maxRecDepth 100000 in
set_option maxHeartbeats 2000000 in
theorem pick_any (g : Nat) (a b c d : W) (w : World) (hb : boxAt w g) :
    Calls Tryd.prog 100 #[.pointer (some ⟨g, 0, none⟩), .int .u32 (U a), .int .u32 (U b), .int .u32 (U c), .int .u32 (U d)] w fun e w' => e = .returned (.int .u32 (U (pick a b c d))) ∧ Below w.heap.size w w' := by
  have HB : Hid (∀ X : World, Below w.heap.size w X → ∀ b : UInt8, X.cell? ⟨g, b.toNat, none⟩ = some (.int .u8 (V (sub b)))) := Lib.hid (fun X hX => hb.below hX)
  clear hb
  go_enter Tryd.func100, Tryd.ntmps100
  go_wp2_with fail
  refine wp_region_noPanic ?_
  refine wp_region_held_drew (S := fun w' => Below w.heap.size w w') (by kernel_rfl) (below_drew' (Below.refl _ _)) (fun hH => ?_)
  refine tk (i := 0) (oi := { dst := some 11, op := Op.move (Operand.tmp 0), type := 153, pos := "key.go:70", after := #[], guard := none }) (v := .pointer (some ⟨g, 0, none⟩)) rfl (fun wx hS => ?_) hH ?_
  · go_simp
  refine tk (i := 1) (oi := { dst := some 12, op := Op.move (Operand.tmp 1), type := 131, pos := "key.go:70", after := #[], guard := none }) (v := .int .u32 (U a)) rfl (fun wx hS => ?_) hH ?_
  · go_simp
  refine tk (i := 2) (oi := { dst := some 13, op := Op.binOp BinOp.shr 131 (Operand.tmp 12) (Operand.const (Value.int IntKind.u64 24)) 109, type := 131, pos := "key.go:70", after := #[⟨1, .data⟩], guard := none }) (v := .int .u32 (U a / (16777216 : Int))) rfl (fun wx hS => ?_) hH ?_
  · go_simp
  refine tk (i := 3) (oi := { dst := some 14, op := Op.convert 131 5 (Operand.tmp 13), type := 5, pos := "key.go:70", after := #[⟨2, .data⟩], guard := none }) (v := .int .u8 (V (Aes.byteOf a 24))) rfl (fun wx hS => ?_) hH ?_
  · go_simp
  refine tk (i := 4) (oi := { dst := some 15, op := Op.nilCheck (Operand.tmp 11), type := 0, pos := "key.go:70", after := #[⟨0, .data⟩], guard := none }) (v := .pointer (some ⟨g, 0, none⟩)) rfl (fun wx hS => ?_) hH ?_
  · go_simp
  refine tk (i := 5) (oi := { dst := some 16, op := Op.fieldAddr 182 (Operand.tmp 15) 0, type := 0, pos := "key.go:70", after := #[⟨4, .data⟩], guard := none }) (v := .pointer (some ⟨g, 0, none⟩)) rfl (fun wx hS => ?_) hH ?_
  · go_simp
  refine tk (i := 6) (oi := { dst := some 17, op := Op.indexAddr 178 (Operand.tmp 16) (Operand.tmp 14), type := 0, pos := "key.go:70", after := #[⟨5, .data⟩, ⟨3, .data⟩], guard := none }) (v := .pointer (some ⟨g, (Aes.byteOf a 24).toNat, none⟩)) rfl (fun wx hS => ?_) hH ?_
  · have e1 := V_nonneg (Aes.byteOf a 24); have e2 := V_lt (Aes.byteOf a 24); have e3 := V_nat (Aes.byteOf a 24); go_simp
  refine tk (i := 7) (oi := { dst := some 18, op := Op.load 5 (Operand.tmp 17), type := 5, pos := "key.go:70", after := #[⟨6, .data⟩], guard := none }) (v := .int .u8 (V (sub (Aes.byteOf a 24)))) rfl (fun wx hS => ?_) hH ?_
  · have e1 := HB.out wx hS (Aes.byteOf a 24); go_simp
  refine tk (i := 8) (oi := { dst := some 19, op := Op.move (Operand.tmp 0), type := 153, pos := "key.go:70", after := #[], guard := none }) (v := .pointer (some ⟨g, 0, none⟩)) rfl (fun wx hS => ?_) hH ?_
  · go_simp
  refine tk (i := 9) (oi := { dst := some 20, op := Op.move (Operand.tmp 2), type := 131, pos := "key.go:70", after := #[], guard := none }) (v := .int .u32 (U b)) rfl (fun wx hS => ?_) hH ?_
  · go_simp
  refine tk (i := 10) (oi := { dst := some 21, op := Op.binOp BinOp.shr 131 (Operand.tmp 20) (Operand.const (Value.int IntKind.u64 16)) 109, type := 131, pos := "key.go:70", after := #[⟨9, .data⟩], guard := none }) (v := .int .u32 (U b / (65536 : Int))) rfl (fun wx hS => ?_) hH ?_
  · go_simp
  refine tk (i := 11) (oi := { dst := some 22, op := Op.convert 131 5 (Operand.tmp 21), type := 5, pos := "key.go:70", after := #[⟨10, .data⟩], guard := none }) (v := .int .u8 (V (Aes.byteOf b 16))) rfl (fun wx hS => ?_) hH ?_
  · go_simp
  refine tk (i := 12) (oi := { dst := some 23, op := Op.nilCheck (Operand.tmp 19), type := 0, pos := "key.go:70", after := #[⟨8, .data⟩], guard := none }) (v := .pointer (some ⟨g, 0, none⟩)) rfl (fun wx hS => ?_) hH ?_
  · go_simp
  refine tk (i := 13) (oi := { dst := some 24, op := Op.fieldAddr 182 (Operand.tmp 23) 0, type := 0, pos := "key.go:70", after := #[⟨12, .data⟩], guard := none }) (v := .pointer (some ⟨g, 0, none⟩)) rfl (fun wx hS => ?_) hH ?_
  · go_simp
  refine tk (i := 14) (oi := { dst := some 25, op := Op.indexAddr 178 (Operand.tmp 24) (Operand.tmp 22), type := 0, pos := "key.go:70", after := #[⟨13, .data⟩, ⟨11, .data⟩], guard := none }) (v := .pointer (some ⟨g, (Aes.byteOf b 16).toNat, none⟩)) rfl (fun wx hS => ?_) hH ?_
  · have e1 := V_nonneg (Aes.byteOf b 16); have e2 := V_lt (Aes.byteOf b 16); have e3 := V_nat (Aes.byteOf b 16); go_simp
  refine tk (i := 15) (oi := { dst := some 26, op := Op.load 5 (Operand.tmp 25), type := 5, pos := "key.go:70", after := #[⟨14, .data⟩], guard := none }) (v := .int .u8 (V (sub (Aes.byteOf b 16)))) rfl (fun wx hS => ?_) hH ?_
  · have e1 := HB.out wx hS (Aes.byteOf b 16); go_simp
  refine tk (i := 16) (oi := { dst := some 27, op := Op.move (Operand.tmp 0), type := 153, pos := "key.go:70", after := #[], guard := none }) (v := .pointer (some ⟨g, 0, none⟩)) rfl (fun wx hS => ?_) hH ?_
  · go_simp
  refine tk (i := 17) (oi := { dst := some 28, op := Op.move (Operand.tmp 3), type := 131, pos := "key.go:70", after := #[], guard := none }) (v := .int .u32 (U c)) rfl (fun wx hS => ?_) hH ?_
  · go_simp
  refine tk (i := 18) (oi := { dst := some 29, op := Op.binOp BinOp.shr 131 (Operand.tmp 28) (Operand.const (Value.int IntKind.u64 8)) 109, type := 131, pos := "key.go:70", after := #[⟨17, .data⟩], guard := none }) (v := .int .u32 (U c / (256 : Int))) rfl (fun wx hS => ?_) hH ?_
  · go_simp
  refine tk (i := 19) (oi := { dst := some 30, op := Op.convert 131 5 (Operand.tmp 29), type := 5, pos := "key.go:70", after := #[⟨18, .data⟩], guard := none }) (v := .int .u8 (V (Aes.byteOf c 8))) rfl (fun wx hS => ?_) hH ?_
  · go_simp
  refine tk (i := 20) (oi := { dst := some 31, op := Op.nilCheck (Operand.tmp 27), type := 0, pos := "key.go:70", after := #[⟨16, .data⟩], guard := none }) (v := .pointer (some ⟨g, 0, none⟩)) rfl (fun wx hS => ?_) hH ?_
  · go_simp
  refine tk (i := 21) (oi := { dst := some 32, op := Op.fieldAddr 182 (Operand.tmp 31) 0, type := 0, pos := "key.go:70", after := #[⟨20, .data⟩], guard := none }) (v := .pointer (some ⟨g, 0, none⟩)) rfl (fun wx hS => ?_) hH ?_
  · go_simp
  refine tk (i := 22) (oi := { dst := some 33, op := Op.indexAddr 178 (Operand.tmp 32) (Operand.tmp 30), type := 0, pos := "key.go:70", after := #[⟨21, .data⟩, ⟨19, .data⟩], guard := none }) (v := .pointer (some ⟨g, (Aes.byteOf c 8).toNat, none⟩)) rfl (fun wx hS => ?_) hH ?_
  · have e1 := V_nonneg (Aes.byteOf c 8); have e2 := V_lt (Aes.byteOf c 8); have e3 := V_nat (Aes.byteOf c 8); go_simp
  refine tk (i := 23) (oi := { dst := some 34, op := Op.load 5 (Operand.tmp 33), type := 5, pos := "key.go:70", after := #[⟨22, .data⟩], guard := none }) (v := .int .u8 (V (sub (Aes.byteOf c 8)))) rfl (fun wx hS => ?_) hH ?_
  · have e1 := HB.out wx hS (Aes.byteOf c 8); go_simp
  refine tk (i := 24) (oi := { dst := some 35, op := Op.move (Operand.tmp 0), type := 153, pos := "key.go:70", after := #[], guard := none }) (v := .pointer (some ⟨g, 0, none⟩)) rfl (fun wx hS => ?_) hH ?_
  · go_simp
  refine tk (i := 25) (oi := { dst := some 36, op := Op.move (Operand.tmp 4), type := 131, pos := "key.go:70", after := #[], guard := none }) (v := .int .u32 (U d)) rfl (fun wx hS => ?_) hH ?_
  · go_simp
  refine tk (i := 26) (oi := { dst := some 37, op := Op.convert 131 5 (Operand.tmp 36), type := 5, pos := "key.go:70", after := #[⟨25, .data⟩], guard := none }) (v := .int .u8 (V (Aes.byteOf d 0))) rfl (fun wx hS => ?_) hH ?_
  · have e0 := byteOf_w0 d; have e1 := byteOf_0 d; go_simp
  refine tk (i := 27) (oi := { dst := some 38, op := Op.nilCheck (Operand.tmp 35), type := 0, pos := "key.go:70", after := #[⟨24, .data⟩], guard := none }) (v := .pointer (some ⟨g, 0, none⟩)) rfl (fun wx hS => ?_) hH ?_
  · go_simp
  refine tk (i := 28) (oi := { dst := some 39, op := Op.fieldAddr 182 (Operand.tmp 38) 0, type := 0, pos := "key.go:70", after := #[⟨27, .data⟩], guard := none }) (v := .pointer (some ⟨g, 0, none⟩)) rfl (fun wx hS => ?_) hH ?_
  · go_simp
  refine tk (i := 29) (oi := { dst := some 40, op := Op.indexAddr 178 (Operand.tmp 39) (Operand.tmp 37), type := 0, pos := "key.go:70", after := #[⟨28, .data⟩, ⟨26, .data⟩], guard := none }) (v := .pointer (some ⟨g, (Aes.byteOf d 0).toNat, none⟩)) rfl (fun wx hS => ?_) hH ?_
  · have e1 := V_nonneg (Aes.byteOf d 0); have e2 := V_lt (Aes.byteOf d 0); have e3 := V_nat (Aes.byteOf d 0); go_simp
  refine tk (i := 30) (oi := { dst := some 41, op := Op.load 5 (Operand.tmp 40), type := 5, pos := "key.go:70", after := #[⟨29, .data⟩], guard := none }) (v := .int .u8 (V (sub (Aes.byteOf d 0)))) rfl (fun wx hS => ?_) hH ?_
  · have e1 := HB.out wx hS (Aes.byteOf d 0); go_simp
  refine wpAnyH_ready (rs := [31]) (by kernel_rfl) (by simp) ?_
  refine AllReadyH.cons (o := { dst := some 42, op := Op.call { callee := Callee.value (Operand.func 98), args := #[Operand.tmp 18, Operand.tmp 26, Operand.tmp 34, Operand.tmp 41], argTypes := #[5, 5, 5, 5] }, type := 131, pos := "key.go:70", after := #[⟨7, .data⟩, ⟨15, .data⟩, ⟨23, .data⟩, ⟨30, .data⟩], guard := none }) rfl (fun KK hKK => ?_) AllReadyH.nil
  go_simp
  refine (word_any _ _ _ _ _).mono ?_
  rintro e x1 ⟨rfl, rfl⟩
  refine hKK.out _ _ hH (fun hH => ?_)
  clear hKK KK
  try simp only [Act.put, List.setIfInBounds_toArray, List.set_cons_zero, List.set_cons_succ]
  refine tk (i := 32) (oi := { dst := some 10, op := Op.assign (Operand.tmp 42), type := 131, pos := "key.go:70", after := #[⟨31, .data⟩, ⟨31, .chain⟩, ⟨0, .phase⟩, ⟨1, .phase⟩, ⟨2, .phase⟩, ⟨3, .phase⟩, ⟨4, .phase⟩, ⟨5, .phase⟩, ⟨6, .phase⟩, ⟨7, .phase⟩, ⟨8, .phase⟩, ⟨9, .phase⟩, ⟨10, .phase⟩, ⟨11, .phase⟩, ⟨12, .phase⟩, ⟨13, .phase⟩, ⟨14, .phase⟩, ⟨15, .phase⟩, ⟨16, .phase⟩, ⟨17, .phase⟩, ⟨18, .phase⟩, ⟨19, .phase⟩, ⟨20, .phase⟩, ⟨21, .phase⟩, ⟨22, .phase⟩, ⟨23, .phase⟩, ⟨24, .phase⟩, ⟨25, .phase⟩, ⟨26, .phase⟩, ⟨27, .phase⟩, ⟨28, .phase⟩, ⟨29, .phase⟩, ⟨30, .phase⟩, ⟨31, .phase⟩], guard := none }) (v := .int .u32 (U (pick a b c d))) rfl (fun wx hS => ?_) hH ?_
  · go_simp; rfl
  refine wpAnyH_done (by kernel_rfl) ?_ _
  refine NoPanic.normal ?_
  go_wp2_with fail
  go_ret
  exact ⟨rfl, hH⟩
end Go.Proofs.YtfhlcondnaahiaaDoor.Ci
end
section
/- cipher: the table. -/
namespace Go.Proofs.YtfhlcondnaahiaaDoor.Ci
open Go.RowKit Sha Aes
attribute [local go_sem] V_xor V_shl1 V_shl2 V_shl4 V_shlw1 V_shlw2 V_shlw4 V_shr7 V_mul27 V_mul9 V_mulw27 V_mulw9 V_x63

theorem zeroBox (w : World) : (zeroValue 178).run Tryd.prog w = .ok (.agg (zeros 256).toArray) w := by kernel_rfl
theorem infoBox : (Tryd.prog.info? 178).map (·.size) = some 256 := by kernel_rfl
theorem build54 (w : World) : (Instr.build 178 #[(0, .int .u8 99)]).run Tryd.prog w = .ok (.agg (byteCells (tbl 0).box).toArray) w := by kernel_rfl
theorem byteCells_set (l : List UInt8) (i : Nat) (x : UInt8) : (byteCells l).set i (.int .u8 (V x)) = byteCells (l.set i x) := by
  simp [byteCells, List.map_set]
theorem V_natx (b : UInt8) : (V b).toNat = b.toNat := Int.toNat_natCast _

set_option maxRecDepth 100000 in
set_option maxHeartbeats 2000000 in
theorem swaps_any (w : World) : Calls Tryd.prog 97 #[] w fun e w' => e = .returned (.agg (byteCells sbox).toArray) ∧ Below w.heap.size w w' := by
  have hz := zeroBox
  have G0 := Lib.hid (blockIs.new w (zeros 256) 178)
  have A0 := Lib.hid (alloc_below w (.cells (zeros 256).toArray 178 (0, 0)))
  have S0 : Hid ((w.alloc (.cells (zeros 256).toArray 178 (0, 0))).heap.size = w.heap.size + 1) := Lib.hid (by simp)
  have N1 := Lib.hid (blockIs.new (w.alloc (.cells (zeros 256).toArray 178 (0, 0))) (zeros 256) 178)
  have B1 := Lib.hid (alloc_below (w.alloc (.cells (zeros 256).toArray 178 (0, 0))) (.cells (zeros 256).toArray 178 (0, 0)))
  rw [S0.out] at N1 B1
  have G1 := Lib.hid (G0.out.below B1.out (Nat.lt_succ_self _))
  have A1 := Lib.hid (A0.out.trans (B1.out.mono (Nat.le_succ _)))
  clear G0 A0 S0 B1
  go_enter Tryd.func97, Tryd.ntmps97
  go_wp2_with (first | (refine wpList_build rfl 178 _ rfl _ _ (build54 _) rfl ?_) | (refine wpList_store_block rfl 178 _ _ rfl (w.heap.size + 1) 0 (byteCells (tbl 0).box) rfl rfl (zeros 256) 178 N1.out (by rw [infoBox, byteCells_length, tbl_len]) (by rw [byteCells_length, tbl_len]; simp [zeros]) (byteCells_one _) ?_))
  intro w1 h1 h2 h3
  have h1 := h1.out
  rw [splice_all _ _ (by rw [byteCells_length, tbl_len]; simp [zeros])] at h1
  have E1 := Lib.hid h1
  have E2 := Lib.hid (h2.out.is G1.out (Nat.ne_of_lt (Nat.lt_succ_self _)))
  have E3 := Lib.hid (A1.out.trans (h2.out.below (Nat.le_succ _) A1.out.size))
  clear h1 h2 h3 G1 A1 N1 hz
  go_wp2_with fail
  go_loopw [5, 2, 3] (fun i x y wr => ∃ k : Nat, k ≤ 255 ∧ i = .int .i64 k ∧ x = .int .u8 (V (tbl k).x) ∧ y = .int .u8 (V (tbl k).y) ∧ blockIs wr (w.heap.size + 1) (byteCells (tbl k).box) 178 ∧ blockIs wr w.heap.size (zeros 256) 178 ∧ Below w.heap.size w wr) (fun i _ _ _ => 255 - (intOf i).toNat)
  case atStart => exact ⟨0, by omega, rfl, rfl, rfl, E1.out, E2.out, E3.out⟩
  case round =>
    obtain ⟨k, hk, rfl, rfl, rfl, h1, h2, h3⟩ := hrel
    have H1 := Lib.hid h1
    have H2 := Lib.hid h2
    have H3 := Lib.hid h3
    clear h1 h2 h3
    by_cases hlt : k < 255
    · have q : (k : Int) < 255 := by omega
      have HT : Hid (tbl (k + 1) = ⟨nextX (tbl k).x, nextY (tbl k).y, (tbl k).box.set (nextX (tbl k).x).toNat (boxOf (nextY (tbl k).y))⟩) := Lib.hid rfl
      have HL : Hid ((tbl k).box.length = 256) := Lib.hid (tbl_len k)
      generalize (tbl k).x = x at *
      generalize (tbl k).y = y at *
      generalize (tbl k).box = bx at *
      go_upto_region 6 with fail
      generalize hx1 : x ^^^ (shl8 x 1 ^^^ mul8 (shr8 x 7) 27) = xn
      have hx1 : nextX x = xn := hx1
      rw [hx1] at HT
      go_upto_region 7 with fail
      generalize hy1 : y ^^^ shl8 y 1 = ya
      go_upto_region 8 with fail
      generalize hy2 : ya ^^^ shl8 ya 2 = yb
      go_upto_region 9 with fail
      generalize hy3 : yb ^^^ shl8 yb 4 = yc
      go_upto_region 10 with fail
      generalize hy4 : yc ^^^ mul8 (shr8 yc 7) 9 = yn
      have hyn : nextY y = yn := by rw [← hy4, ← hy3, ← hy2, ← hy1]; rfl
      rw [hyn] at HT
      clear hx1 hy1 hy2 hy3 hy4 hyn
      have r1 := Lib.hid (fun X => rotb yn 1 (by omega) X)
      have r2 := Lib.hid (fun X => rotb yn 2 (by omega) X)
      have r3 := Lib.hid (fun X => rotb yn 3 (by omega) X)
      have r4 := Lib.hid (fun X => rotb yn 4 (by omega) X)
      go_wp2_with fail
      refine (r1.out _).mono ?_
      rintro e x1 ⟨rfl, rfl⟩
      go_wp2_with fail
      refine (r2.out _).mono ?_
      rintro e x1 ⟨rfl, rfl⟩
      go_wp2_with fail
      refine (r3.out _).mono ?_
      rintro e x1 ⟨rfl, rfl⟩
      go_wp2_with fail
      refine (r4.out _).mono ?_
      rintro e x1 ⟨rfl, rfl⟩
      clear r1 r2 r3 r4
      have b0 := V_nonneg xn
      have b1 := V_lt xn
      have b2 := V_natx xn
      have c1 : wr.cell? ⟨w.heap.size + 1, xn.toNat, none⟩ = some ((byteCells bx)[xn.toNat]'(by rw [byteCells_length, HL.out]; exact xn.toNat_lt)) := H1.out.at _ _
      have c2 := H1.out.free xn.toNat
      go_wp2_with fail
      go_roundw
      case rel =>
        refine ⟨k + 1, by omega, by go_num, by rw [HT.out], by rw [HT.out], ?_, H2.out.other _ _ (by simp), H3.out.setCell (by simp) _⟩
        rw [HT.out]
        have := H1.out.set xn.toNat (.int .u8 (V (boxOf yn)))
        rw [byteCells_set] at this
        exact this
      case measure => simp [intOf]; omega
    · obtain rfl : k = 255 := by omega
      rw [tbl_box] at H1
      have R1 := Lib.hid (range_of H1.out)
      have hl : (byteCells sbox).length = 256 := by rw [byteCells_length]; rfl
      have HL := Lib.hid hl
      clear hl
      have HO := Lib.hid (byteCells_one sbox)
      generalize (tbl 255).x = x at *
      generalize (tbl 255).y = y at *
      generalize hBX : byteCells sbox = BX at *
      have HBX := Lib.hid hBX
      clear hBX
      go_wp2_with (first | (refine wpList_load_mid rfl 178 _ rfl (w.heap.size + 1) 0 rfl BX _ R1.out Tryd.underlying178 rfl (by rw [infoBox, HL.out]) ?_) | (refine wpList_store_block rfl 178 _ _ rfl w.heap.size 0 BX rfl rfl (zeros 256) 178 H2.out (by rw [infoBox, HL.out]) (by simp [zeros, HL.out]) HO.out ?_))
      intro w8 h1 h2 h3
      have h1 := h1.out
      rw [splice_all _ _ (by simp [zeros, HL.out])] at h1
      have F1 := Lib.hid h1
      have F2 := Lib.hid (H3.out.trans (h2.out.below (Nat.le_refl _) H3.out.size))
      clear h1 h2 h3
      go_wp2_with fail
      refine bodyPost_ret (v := .agg BX.toArray) (results_cell_row rfl _ _ w.heap.size 178 _ (0, 0) _ rfl F1.out Tryd.underlying178 rfl (by rw [infoBox]; simp [HL.out])) rfl ?_
      exact ⟨by rw [HBX.out], F2.out⟩
end Go.Proofs.YtfhlcondnaahiaaDoor.Ci
end
