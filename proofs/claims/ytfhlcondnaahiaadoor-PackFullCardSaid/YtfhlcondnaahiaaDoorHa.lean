/- The document's own Keyed: HMAC of texts. -/
import Derived.Test.YtfhlcondnaahiaaDoorGf
import Derived.Test.YtfhlcondnaahiaaDoorGg
import Derived.Laws.MakeOwn
import Derived.Deep.RegionLaw
import Derived.Deep.DeepCutAuto
import Derived.Test.YtfhlcondnaahiaaDoorGh
import Derived.Test.YtfhlcondnaahiaaDoorCiMkk
import Derived.Laws.BitsAllLaws
import Derived.Deep.CutBlock
import Derived.BigQuiet
import Derived.StillTailTactics
import Derived.Deep.RegionHeld3
import Derived.Test.YtfhlcondnaahiaaDoorGk
import Derived.Test.YtfhlcondnaahiaaDoorGj
import Derived.Test.YtfhlcondnaahiaaDoorGn
section
namespace Go.Proofs.YtfhlcondnaahiaaDoor
open Go.RowKit Sha

/-- A key with noughts, its first k put together with x. -/
def keyF (K : List UInt8) (x : UInt8) (k j : Nat) : UInt8 := if j < k then K.getD j 0 ^^^ x else 0
attribute [local go_sem] V_x36 V_x5c

end Go.Proofs.YtfhlcondnaahiaaDoor
end
section
/- The document's AES-256 in plain functions: products by adding up, the inverse by trying, columns of bytes; and that these are the words' ones. -/
section
namespace Go.Proofs.YtfhlcondnaahiaaDoor.Ci.Aes
open Go Sha

def s1 (a b k p : Nat) : Nat := Nat.xor p (Nat.mul (Nat.land (Nat.shiftRight b k) 1) (Nat.shiftLeft a k))
def s2 (i c q : Nat) : Nat := Nat.xor q (Nat.mul (Nat.land (Nat.shiftRight q i) 1) c)
/-- The bits, mixed. -/
def bit (v i : Nat) : Nat := (((((v >>> i) ^^^ (v >>> ((i + 4) % 8))) ^^^ (v >>> ((i + 5) % 8))) ^^^ (v >>> ((i + 6) % 8))) ^^^ (v >>> ((i + 7) % 8))) ^^^ (0x63 >>> i)
def bx (v : Nat) : Nat → Nat
  | 0 => 0
  | i + 1 => bx v i + (bit v i % 2) <<< i
def lane (w : W) (j : Nat) : UInt8 := byteOf w (24 - 8 * j)
def addR (ws : List W) (n : Nat) (t : List UInt8) : List UInt8 := (List.range 16).map fun i => t.getD i 0 ^^^ lane (ws.getD (4 * n + i / 4) 0) (i % 4)
end Go.Proofs.YtfhlcondnaahiaaDoor.Ci.Aes
end
section
/- hypogeumref02.times: the product of two bytes. -/
namespace Go.Proofs.YtfhlcondnaahiaaDoor.Ci
open Go.RowKit Sha Aes

end Go.Proofs.YtfhlcondnaahiaaDoor.Ci
end
section
/- hypogeumref02.box: the table, by trying. -/
namespace Go.Proofs.YtfhlcondnaahiaaDoor.Ci
open Go.RowKit Sha Aes

def cellsI (f : Nat → Nat) (n : Nat) : List Value := (List.range n).map fun j => .int .i64 ((f j : Nat) : Int)
/-- The table behind x rounds. -/
def boxF (x : Nat) : Nat → Nat := fun j => if j < x then (sbox.getD j 0).toNat else 0
end Go.Proofs.YtfhlcondnaahiaaDoor.Ci
end
section
/- hypogeumref02.Make: the document's round keys. -/
namespace Go.Proofs.YtfhlcondnaahiaaDoor.Ci
open Go.RowKit Sha Aes

/-- The words of a key. -/
def wd (K : List UInt8) (i : Nat) : W := (Aes.words K 60).getD i 0
/-- The document's key: its table, and the first p bytes of its words. -/
def keyF (K : List UInt8) (p : Nat) : Nat → Nat := fun q => if q < p then (lane (wd K (q / 4)) (q % 4)).toNat else 0
def docKey (g : Nat) (f : Nat → Nat) : List Value := .slice (some ⟨g, 0, none⟩) 256 256 :: cellsI f 240
end Go.Proofs.YtfhlcondnaahiaaDoor.Ci
end
end
section
/- hypogeumref02.Turn: the document's AES-256. -/
section
namespace Go.Proofs.YtfhlcondnaahiaaDoor.Ci
open Go.RowKit Sha Aes

def fn (l : List UInt8) : Nat → UInt8 := fun j => l.getD j 0
theorem _root_.Go.Proofs.YtfhlcondnaahiaaDoor.But.new {b t : Nat} {x y z : World} (h : But b x y) (k : But t y z) (ht : x.heap.size ≤ t) : But b x z :=
  ⟨k.os.trans h.os, k.tape.trans h.tape, k.output.trans h.output, Nat.le_trans h.size k.size, fun i hi hn => (k.block i (Nat.lt_of_lt_of_le hi h.size) (by omega)).trans (h.block i hi hn)⟩
/-- The document's key, ready. -/
def keyIs (w : World) (kb g : Nat) (K : List UInt8) : Prop := blockIs w kb (docKey g (keyF K 240)) 173 ∧ blockIs w g (cellsI (boxF 256) 256) 3

end Go.Proofs.YtfhlcondnaahiaaDoor.Ci
end
section
/- hypogeumref02.Hide: the document's flow. -/
namespace Go.Proofs.YtfhlcondnaahiaaDoor.Ci
open Go.RowKit Sha Aes

theorem ownB.still {w w' : World} {base : Nat} {v : Value} {l : List UInt8} (h : ownB w base v l) (k : Below w.heap.size w w') : ownB w' base v l := by
  refine ⟨h.1, ?_⟩
  rcases h.2 with h0 | ⟨q, cap, cur, hv, hq, hc, r⟩
  · exact .inl h0
  · exact .inr ⟨q, cap, cur, hv, hq, (k.block q (Array.getElem?_eq_some_iff.1 hc).1).trans hc, r⟩
theorem keyIs.below {w w' : World} {kb g : Nat} {K : List UInt8} (h : keyIs w kb g K) (k : Below w.heap.size w w') : keyIs w' kb g K := ⟨h.1.below k h.1.lt, h.2.below k h.2.lt⟩

end Go.Proofs.YtfhlcondnaahiaaDoor.Ci
end
end
section
/- The laws' letters: to, cut, waxes. -/
section
namespace Go.Proofs.YtfhlcondnaahiaaDoor
open Go.RowKit Sha

theorem splice_twoW (x a b : List Value) (n m : Nat) (ha : a.length = n) (hb : b.length = m) (hx : x.length = n + m) : splice (splice x 0 a) n b = a ++ b := by
  unfold splice
  rw [List.take_zero, List.nil_append, Nat.zero_add, List.take_append, ha, Nat.sub_self, List.take_zero, List.append_nil, List.take_of_length_le (by omega), List.drop_append, ha, hb, List.drop_eq_nil_of_le (by omega), List.nil_append, List.drop_drop, List.drop_eq_nil_of_le (by omega), List.append_nil]
end Go.Proofs.YtfhlcondnaahiaaDoor
end
section
/- The laws' first question: waxes. Letters in memory. -/
namespace Go.Proofs.YtfhlcondnaahiaaDoor
open Go.RowKit Sha

def N5 : List UInt8 := 5 :: List.replicate 15 0
theorem bytesIn.head {w : World} {bb bo : Nat} {x : UInt8} {l : List UInt8} (h : bytesIn w (some ⟨bb, bo, none⟩) (x :: l)) : w.cell? ⟨bb, bo, none⟩ = some (.int .u8 (V x)) := by
  rcases h with h | ⟨b2, o2, e, hc⟩
  · cases h
  · cases e
    exact hc 0 (by simp)

end Go.Proofs.YtfhlcondnaahiaaDoor
end
section
/- What Seal and Open answer, as plain functions; letters in memory. -/
namespace Go.Proofs.YtfhlcondnaahiaaDoor
open Go.RowKit Sha

def sealR (H M : List UInt8) (kd : UInt8) (nm N b : List UInt8) : List UInt8 × Int := if 255 < nm.length then ([], 5) else (wseal H M kd nm N b, 0)
theorem own_nil (w : World) (base : Nat) : Ci.ownB w base (.slice none 0 0) [] := World.ownsRow_nil _ _ _ _
theorem sealR_any (H M N : List UInt8) (kd : UInt8) (nm : List UInt8) (a : Option Addr) (c : Nat) (ls : List (List UInt8)) (w : World) (hH : H.length = 32) (hM : M.length = 32) (hN : N.length = 16) (hl : ls.length ≤ 100000) (hm : ls.flatten.length ≤ 800000) (hp : partsW w a ls) (ht : tables w) :
    Calls Tryd.prog 47 #[.agg (keyCells H M).toArray, .int .u8 (V kd), .string (str nm), .agg (byteCells N).toArray, .slice a ls.length c] w fun e w' => ∃ v, e = .returned (.tuple #[v, .int .i64 (sealR H M kd nm N ls.flatten).2]) ∧ Ci.ownB w' w.heap.size v (sealR H M kd nm N ls.flatten).1 ∧ Below w.heap.size w w' := by
  by_cases h1 : 255 < nm.length
  · have e : sealR H M kd nm N ls.flatten = ([], 5) := by unfold sealR; rw [if_pos h1]
    rw [e]
    exact (seal_name _ _ kd nm a ls.length c w h1).mono fun e w' ⟨h2, h3⟩ => ⟨_, h2, own_nil _ _, h3⟩
  · have e : sealR H M kd nm N ls.flatten = (wseal H M kd nm N ls.flatten, 0) := by unfold sealR; rw [if_neg h1]
    rw [e]
    exact seal_ok H M N kd nm a c ls w hH hM hN (by omega) hl hm hp ht
/-- A letter in memory. -/
structure letterAt (X : World) (g : Nat) (H M : List UInt8) (kd : UInt8) (nm N : List UInt8) (v : Value) : Prop where
  keys : X.rangeAt g 0 (keyCells H M)
  kind : X.cell? ⟨g, 64, none⟩ = some (.int .u8 (V kd))
  name : X.cell? ⟨g, 65, none⟩ = some (.string (str nm))
  nonce : X.rangeAt g 66 (byteCells N)
  bytes : X.cell? ⟨g, 82, none⟩ = some v
theorem letterAt.below {X Y : World} {g : Nat} {H M : List UInt8} {kd : UInt8} {nm N : List UInt8} {v : Value} (h : letterAt X g H M kd nm N v) (k : Below X.heap.size X Y) : letterAt Y g H M kd nm N v :=
  have c : ∀ {p : Addr} {u : Value}, X.cell? p = some u → Y.cell? p = some u := fun {p _u} e => (k.cell (p := p) (block_lt_of_cell e)).trans e
  ⟨fun j u hj => c (h.keys j u hj), c h.kind, c h.name, fun j u hj => c (h.nonce j u hj), c h.bytes⟩
end Go.Proofs.YtfhlcondnaahiaaDoor
end
section
/- What wax's laws ask: Seal over a literal of parts that was laid at some time before. -/
namespace Go.Proofs.YtfhlcondnaahiaaDoor
open Go.RowKit Sha

end Go.Proofs.YtfhlcondnaahiaaDoor
end
end
