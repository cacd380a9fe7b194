/- Parts of slices; a reader in memory; bytes.Equal, HasPrefix, CutPrefix; Open of a right thing; gives, Err, take. -/
import Derived.Test.YtfhlcondnaahiaaDoorHd
import Derived.Lib.ConvBytes
import Derived.Laws.BitsAllLaws
import Derived.Deep.DeepCutAuto
section
namespace Go.Proofs.YtfhlcondnaahiaaDoor.Gl
open Go.RowKit

structure Pt where
  a : Option Addr
  c : Nat
  l : List UInt8
def Pt.val (p : Pt) : Value := .slice p.a p.l.length p.c
def Pt.ok (w : World) (p : Pt) : Prop := p.l.length ≤ p.c ∧ p.c ≤ 9223372036854775807 ∧ bytesIn w p.a p.l
theorem cut_in {w : World} {a : Option Addr} {l : List UInt8} (h : bytesIn w a l) (c i : Nat) (hc : l.length ≤ c) : bytesIn w (if c = i then a else a.map (fun x => x.add i)) (l.drop i) := by
  by_cases e : c = i
  · left
    rw [List.drop_eq_nil_iff]
    omega
  · rw [if_neg e]
    rcases h with h | ⟨bb, bo, rfl, h2⟩
    · exact Or.inl (by rw [h, List.drop_nil])
    · refine Or.inr ⟨bb, bo + i, by show some (Addr.add _ i) = _; rw [Addr.add_lit], fun j hj => ?_⟩
      rw [List.length_drop] at hj
      rw [show bo + i + j = bo + (i + j) by omega, h2 (i + j) (by omega)]
      simp [List.getD_eq_getElem?_getD, List.getElem?_drop]
theorem drop_take_len (l : List UInt8) (i k : Nat) (hk : k ≤ l.length) : ((l.take k).drop i).length = k - i := by
  rw [List.length_drop, List.length_take]; omega
def Pt.sub (p : Pt) (i k : Nat) : Pt := ⟨if p.c = i then p.a else p.a.map (fun x => x.add i), p.c - i, (p.l.take k).drop i⟩
theorem Pt.sub_ok {w : World} {p : Pt} (h : p.ok w) (i k : Nat) (hik : i ≤ k) (hk : k ≤ p.l.length) : (p.sub i k).ok w := by
  obtain ⟨h1, h2, h3⟩ := h
  refine ⟨?_, ?_, ?_⟩
  · show ((p.l.take k).drop i).length ≤ p.c - i
    rw [drop_take_len _ _ _ hk]; omega
  · show p.c - i ≤ _
    omega
  · exact cut_in (h3.take k) p.c i (by rw [List.length_take]; omega)
theorem slice22 : Tryd.prog.underlying 30 = some (.slice (Tryd.prog.elem 30)) := by kernel_rfl
theorem sz22 (w : World) : (sizeOf (Tryd.prog.elem 30)).run Tryd.prog w = .ok 1 w := by kernel_rfl
theorem Pt.run_lh (p : Pt) (i k : Nat) (hik : i ≤ k) (hk : k ≤ p.l.length) (hc : p.l.length ≤ p.c) (w : World) :
    (Instr.slice 30 (.slice p.a p.l.length p.c) (some (.int .i64 (i : Int))) (some (.int .i64 (k : Int))) none).run Tryd.prog w = .ok (.slice (p.sub i k).a (p.sub i k).l.length (p.sub i k).c) w := by
  rw [run_slice_lh w 30 p.a p.l.length p.c slice22 .i64 .i64 (i : Int) (k : Int) (by omega) (by omega) (by omega), sz22]
  show Result.ok (sliced p.a (i : Int).toNat (k : Int).toNat p.c 1) w = _
  rw [Int.toNat_natCast, Int.toNat_natCast]
  unfold sliced Pt.sub
  rw [drop_take_len _ _ _ hk, Nat.mul_one]
theorem Pt.run_h (p : Pt) (k : Nat) (hk : k ≤ p.l.length) (hc : p.l.length ≤ p.c) (w : World) :
    (Instr.slice 30 (.slice p.a p.l.length p.c) none (some (.int .i64 (k : Int))) none).run Tryd.prog w = .ok (.slice (p.sub 0 k).a (p.sub 0 k).l.length (p.sub 0 k).c) w := by
  rw [run_slice_h w 30 p.a p.l.length p.c slice22 .i64 (k : Int) (by omega) (by omega), sz22]
  show Result.ok (sliced p.a 0 (k : Int).toNat p.c 1) w = _
  rw [Int.toNat_natCast]
  unfold sliced Pt.sub
  rw [drop_take_len _ _ _ hk, Nat.mul_one]
theorem Pt.run_l (p : Pt) (i : Nat) (hi : i ≤ p.l.length) (hc : p.l.length ≤ p.c) (w : World) :
    (Instr.slice 30 (.slice p.a p.l.length p.c) (some (.int .i64 (i : Int))) none none).run Tryd.prog w = .ok (.slice (p.sub i p.l.length).a (p.sub i p.l.length).l.length (p.sub i p.l.length).c) w := by
  rw [run_slice_l w 30 p.a p.l.length p.c slice22 .i64 (i : Int) (by omega) (by omega), sz22]
  show Result.ok (sliced p.a (i : Int).toNat p.l.length p.c 1) w = _
  rw [Int.toNat_natCast]
  unfold sliced Pt.sub
  rw [drop_take_len _ _ _ (Nat.le_refl _), Nat.mul_one]

theorem Pt.ok.below {w w' : World} {p : Pt} (h : p.ok w) (k : Below w.heap.size w w') : p.ok w' := ⟨h.1, h.2.1, h.2.2.below k (Nat.le_refl _)⟩
def InAt (w : World) (k : Nat) (p : Pt) (e : Int) : Prop := blockIs w k [p.val, .int .i64 e] 162 ∧ p.ok w
end Go.Proofs.YtfhlcondnaahiaaDoor.Gl
end
section
/- glyph's number: what is read is a number's own bytes. -/
namespace Go.Proofs.YtfhlcondnaahiaaDoor.Gl
open Go.RowKit

theorem int_shl (a k : Nat) (h : a * 2 ^ k < 9223372036854775808) : IntKind.i64.wrap ((a : Int) * 2 ^ k) = ((a <<< k : Nat) : Int) := by
  have e : (a : Int) * 2 ^ k = ((a * 2 ^ k : Nat) : Int) := by rw [Int.natCast_mul, Int.natCast_pow]; rfl
  rw [Nat.shiftLeft_eq, e]
  generalize a * 2 ^ k = x at *
  exact IntWalk.i64_in _ (by omega)
def said (L : List UInt8) (k acc : Nat) : Prop := acc < 128 ^ k ∧ (k = 0 → acc = 0) ∧ ∀ m, 0 < m → numBytes (acc + 128 ^ k * m) = L.take k ++ numBytes m
end Go.Proofs.YtfhlcondnaahiaaDoor.Gl
end
section
/- Open of a right thing; take; a reader's Num. -/
namespace Go.Proofs.YtfhlcondnaahiaaDoor.Gl
open Go.RowKit

theorem InAt.below {w w' : World} {k : Nat} {p : Pt} {e : Int} (h : InAt w k p e) (b : Below w.heap.size w w') : InAt w' k p e := ⟨h.1.below b h.1.lt, h.2.below b⟩
theorem bytesIn.past {w w' : World} {a : Option Addr} {l : List UInt8} {k : Nat} (h : bytesIn w a l) (hb : But k w w') (hn : ∀ x, a = some x → x.block ≠ k) : bytesIn w' a l := by
  rcases h with h | ⟨b, o, he, h⟩
  · exact Or.inl h
  · exact Or.inr ⟨b, o, he, fun j hj => hb.cell (h j hj) (show b ≠ k from hn ⟨b, o, none⟩ he)⟩
def Pt.far (p : Pt) (k : Nat) : Prop := ∀ x, p.a = some x → x.block ≠ k
theorem Pt.ok.past {w w' : World} {p : Pt} {k : Nat} (h : p.ok w) (hb : But k w w') (hf : p.far k) : p.ok w' := ⟨h.1, h.2.1, h.2.2.past hb hf⟩

end Go.Proofs.YtfhlcondnaahiaaDoor.Gl
end
section
/- glyph's number, told exactly: what is read, and which fault there is. -/
namespace Go.Proofs.YtfhlcondnaahiaaDoor.Gl
open Go.RowKit

def more (L : List UInt8) (k : Nat) : Prop := ∀ j, j < k → 128 ≤ (L.getD j 0).toNat
end Go.Proofs.YtfhlcondnaahiaaDoor.Gl
end
section
/- A reader's calls, whatever it holds: take, Num, Text, Flag, Raw, End. -/
namespace Go.Proofs.YtfhlcondnaahiaaDoor.Gl
variable {B : Nat}
open Go.RowKit

def RdAt (B : Nat) (w : World) (k : Nat) (L : List UInt8) (e : Int) : Prop := ∃ p : Pt, InAt w k p e ∧ p.far k ∧ p.l = L ∧ (p.a = none → p.c = 0) ∧ ∀ j, B ≤ j → p.far j
theorem RdAt.below {w w' : World} {k : Nat} {L : List UInt8} {e : Int} (h : RdAt B w k L e) (b : Below w.heap.size w w') : RdAt B w' k L e := by
  obtain ⟨p, h1, h2, h3, h4⟩ := h
  exact ⟨p, h1.below b, h2, h3, h4⟩
theorem RdAt.fault {w : World} {k : Nat} {L : List UInt8} {e : Int} (h : RdAt B w k L e) : w.cell? ⟨k, 1, none⟩ = some (.int .i64 e) ∧ w.frozen? ⟨k, 1, none⟩ = false := by
  obtain ⟨p, h1, h2, h3, h4⟩ := h
  exact ⟨by rw [h1.1.cell]; rfl, h1.1.free 1⟩
theorem RdAt.setFault {w : World} {k : Nat} {L : List UInt8} {e : Int} (h : RdAt B w k L e) (e' : Int) : RdAt B (w.setCell ⟨k, 1, none⟩ (.int .i64 e')) k L e' := by
  obtain ⟨p, h1, h2, h3, h4⟩ := h
  exact ⟨p, ⟨h1.1.set 1 _, h1.2.past ((But.refl k w).setCell _ _ (Or.inl rfl)) h2⟩, h2, h3, h4⟩
theorem RdAt.keep {w w' : World} {k : Nat} {L : List UInt8} {e : Int} (h : RdAt B w k L e) {g : Nat} (hb : But g w w') (hg : B ≤ g) (hk : k ≠ g) : RdAt B w' k L e := by
  obtain ⟨p, h1, h2, h3, h4, h5⟩ := h
  exact ⟨p, ⟨blockIs.but hb h1.1 hk, h1.2.past hb (h5 g hg)⟩, h2, h3, h4, h5⟩
end Go.Proofs.YtfhlcondnaahiaaDoor.Gl
end
section
/- bytes.Equal, HasPrefix and CutPrefix of all bytes; Open, whatever comes. -/
namespace Go.Proofs.YtfhlcondnaahiaaDoor.Gl
variable {B : Nat}
open Go.RowKit

def begins (p q : List UInt8) : Bool := decide (q.length ≤ p.length) && (p.take q.length == q)
end Go.Proofs.YtfhlcondnaahiaaDoor.Gl
end
