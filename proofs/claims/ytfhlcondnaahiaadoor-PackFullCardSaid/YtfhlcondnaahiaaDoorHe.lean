/- Parts of slices; a reader in memory; bytes.Equal, HasPrefix, CutPrefix; Open of a right thing; gives, Err, take. -/
import Derived.Test.YtfhlcondnaahiaaDoorHd
import Derived.Laws.Concat
import Derived.Lib.ConvBytes
import Derived.Laws.BitsAllLaws
import Derived.Deep.DeepCutAuto
section
namespace Go.Proofs.YtfhlcondnaahiaaDoor.Gl
open Go.RowKit

/-- A slice of bytes. -/
structure Pt where
  a : Option Addr
  c : Nat
  l : List UInt8
def Pt.val (p : Pt) : Value := .slice p.a p.l.length p.c
def Pt.ok (w : World) (p : Pt) : Prop := p.l.length ≤ p.c ∧ p.c ≤ 9223372036854775807 ∧ bytesIn w p.a p.l
/-- A part of a slice, from i to k. -/
def Pt.sub (p : Pt) (i k : Nat) : Pt := ⟨if p.c = i then p.a else p.a.map (fun x => x.add i), p.c - i, (p.l.take k).drop i⟩
theorem Pt.ok.below {w w' : World} {p : Pt} (h : p.ok w) (k : Below w.heap.size w w') : p.ok w' := ⟨h.1, h.2.1, h.2.2.below k (Nat.le_refl _)⟩
/-- A reader: what is left, the first fault. -/
def InAt (w : World) (k : Nat) (p : Pt) (e : Int) : Prop := blockIs w k [p.val, .int .i64 e] 162 ∧ p.ok w
end Go.Proofs.YtfhlcondnaahiaaDoor.Gl
end
section
/- glyph's number: what is read is a number's own bytes. -/
namespace Go.Proofs.YtfhlcondnaahiaaDoor.Gl
open Go.RowKit

/-- What the first k bytes say, all of which have more behind them. -/
def said (L : List UInt8) (k acc : Nat) : Prop := acc < 128 ^ k ∧ (k = 0 → acc = 0) ∧ ∀ m, 0 < m → numBytes (acc + 128 ^ k * m) = L.take k ++ numBytes m
end Go.Proofs.YtfhlcondnaahiaaDoor.Gl
end
section
/- Open of a right thing; take; a reader's Num. -/
namespace Go.Proofs.YtfhlcondnaahiaaDoor.Gl
open Go.RowKit

theorem InAt.below {w w' : World} {k : Nat} {p : Pt} {e : Int} (h : InAt w k p e) (b : Below w.heap.size w w') : InAt w' k p e := ⟨h.1.below b h.1.lt, h.2.below b⟩
theorem bytesIn.past {w w' : World} {a : Option Addr} {l : List UInt8} {k : Nat} (h : bytesIn w a l) (hb : But k w w') (hn : ∀ x, a = some x → x.block ≠ k) : bytesIn w' a l := by
  rcases h with h | ⟨b, o, he, h⟩
  · exact Or.inl h
  · exact Or.inr ⟨b, o, he, fun j hj => hb.cell (h j hj) (show b ≠ k from hn ⟨b, o, none⟩ he)⟩
/-- The bytes of a part lie apart from block k. -/
def Pt.far (p : Pt) (k : Nat) : Prop := ∀ x, p.a = some x → x.block ≠ k
theorem Pt.ok.past {w w' : World} {p : Pt} {k : Nat} (h : p.ok w) (hb : But k w w') (hf : p.far k) : p.ok w' := ⟨h.1, h.2.1, h.2.2.past hb hf⟩

end Go.Proofs.YtfhlcondnaahiaaDoor.Gl
end
section
/- glyph's number, told exactly: what is read, and which fault there is. -/
namespace Go.Proofs.YtfhlcondnaahiaaDoor.Gl
open Go.RowKit

/-- The first k bytes have more behind them. -/
def more (L : List UInt8) (k : Nat) : Prop := ∀ j, j < k → 128 ≤ (L.getD j 0).toNat
end Go.Proofs.YtfhlcondnaahiaaDoor.Gl
end
section
/- A reader's calls, whatever it holds: take, Num, Text, Flag, Raw, End. -/
namespace Go.Proofs.YtfhlcondnaahiaaDoor.Gl
variable {B : Nat}
open Go.RowKit

/-- A reader: the bytes that are left, the first fault. -/
def RdAt (B : Nat) (w : World) (k : Nat) (L : List UInt8) (e : Int) : Prop := ∃ p : Pt, InAt w k p e ∧ p.far k ∧ p.l = L ∧ (p.a = none → p.c = 0) ∧ ∀ j, B ≤ j → p.far j
theorem RdAt.below {w w' : World} {k : Nat} {L : List UInt8} {e : Int} (h : RdAt B w k L e) (b : Below w.heap.size w w') : RdAt B w' k L e := by
  obtain ⟨p, h1, h2, h3, h4⟩ := h
  exact ⟨p, h1.below b, h2, h3, h4⟩
theorem RdAt.fault {w : World} {k : Nat} {L : List UInt8} {e : Int} (h : RdAt B w k L e) : w.cell? ⟨k, 1, none⟩ = some (.int .i64 e) ∧ w.frozen? ⟨k, 1, none⟩ = false := by
  obtain ⟨p, h1, h2, h3, h4⟩ := h
  exact ⟨by rw [h1.1.cell]; rfl, h1.1.free 1⟩
theorem RdAt.keep {w w' : World} {k : Nat} {L : List UInt8} {e : Int} (h : RdAt B w k L e) {g : Nat} (hb : But g w w') (hg : B ≤ g) (hk : k ≠ g) : RdAt B w' k L e := by
  obtain ⟨p, h1, h2, h3, h4, h5⟩ := h
  exact ⟨p, ⟨blockIs.but hb h1.1 hk, h1.2.past hb (h5 g hg)⟩, h2, h3, h4, h5⟩
end Go.Proofs.YtfhlcondnaahiaaDoor.Gl
end
section
/- bytes.Equal, HasPrefix and CutPrefix of all bytes; Open, whatever comes. -/
namespace Go.Proofs.YtfhlcondnaahiaaDoor.Gl
variable {B : Nat}
open Go.RowKit

/-- Begins p with q? -/
def begins (p q : List UInt8) : Bool := decide (q.length ≤ p.length) && (p.take q.length == q)
end Go.Proofs.YtfhlcondnaahiaaDoor.Gl
end
