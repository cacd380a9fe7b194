/- Parts laid by a call's own literal; parts of parts. -/
import Derived.Test.YtfhlcondnaahiaaDoorGf
import Derived.Test.YtfhlcondnaahiaaDoorGe
section
namespace Go.Proofs.YtfhlcondnaahiaaDoor
open Go.RowKit Sha

/-- A list of slices, each with its bytes. -/
structure Pt where
  a : Option Addr
  c : Nat
  l : List UInt8
def Pt.val (p : Pt) : Value := .slice p.a p.l.length p.c
def Pt.ok (w : World) (p : Pt) : Prop := p.l.length ≤ p.c ∧ p.c ≤ 9223372036854775807 ∧ bytesIn w p.a p.l
theorem below_alloc' {W X : World} (h : Below W.heap.size W X) (o : Obj) : Below W.heap.size W (X.alloc o) := h.alloc h.size o
theorem below_drew' {W X : World} (h : Below W.heap.size W X) : Below W.heap.size W X.drew := below_drewN' h 1
/-- A part of a slice, from i to k. -/
def Pt.sub (p : Pt) (i k : Nat) : Pt := ⟨if p.c = i then p.a else p.a.map (fun x => x.add i), p.c - i, (p.l.take k).drop i⟩
end Go.Proofs.YtfhlcondnaahiaaDoor
end
section
/- Calls of Of and Keyed whose parts lie in a literal that was laid at some time before. -/
namespace Go.Proofs.YtfhlcondnaahiaaDoor
open Go.RowKit Sha

def cellsAt (X : World) (g : Nat) (vs : List Value) : Prop := ∀ j v, vs[j]? = some v → X.cell? ⟨g, j, none⟩ = some v
theorem cellsAt.new (w : World) (cs : Array Value) (g : Nat) (t : TypeId) (vs : List Value) (hg : g = w.heap.size) (h : vs = cs.toList) : cellsAt (w.alloc (.cells cs t (0, 0))) g vs := by
  subst hg h
  intro j v hj
  have hb : blockIs (w.alloc (.cells cs t (0, 0))) w.heap.size cs.toList t := by
    have := blockIs.new w cs.toList t
    rwa [Array.toArray_toList] at this
  rw [hb.cell]
  exact hj
theorem cellsAt.keep {X w' : World} {g : Nat} {vs : List Value} (h : cellsAt X g vs) (hb : Below X.heap.size X w') : cellsAt w' g vs := fun j v hj => (hb.cell (p := ⟨g, j, none⟩) (block_lt_of_cell (h j v hj))).trans (h j v hj)
theorem cellsAt.parts {W X : World} {g : Nat} {ps : List Pt} (h : cellsAt X g (ps.map Pt.val)) (hX : Below W.heap.size W X) (hp : ∀ p ∈ ps, p.ok W) : partsIn X (some ⟨g, 0, none⟩) (ps.map Pt.l) := by
  refine Or.inr ⟨_, _, rfl, fun j hj => ?_⟩
  rw [List.length_map] at hj
  obtain ⟨h1, h2, h3⟩ := hp ps[j] (List.getElem_mem hj)
  have e : (ps.map Pt.l).getD j [] = ps[j].l := by simp [hj]
  rw [e]
  refine ⟨ps[j].a, ps[j].c, ?_, h1, h2, h3.below hX⟩
  rw [Nat.zero_add]
  exact h j _ (by simp [hj, Pt.val])
theorem of_at (W : World) (ps : List Pt) (vs : List Value) (hvs : vs = ps.map Pt.val) (hW : tables W) (hp : ∀ p ∈ ps, p.ok W) (L : List UInt8) (hL : (ps.map Pt.l).flatten = L) (hm : L.length ≤ 1000000) (n : Nat) (hn : n = ps.length) (hn2 : n ≤ 1000000) (X : World) (g : Nat) (hX : Below W.heap.size W X) (hc : cellsAt X g vs) :
    Calls Tryd.prog 46 #[.slice (some ⟨g, 0, none⟩) n n] X fun e w' => e = .returned (.agg (byteCells (sha L)).toArray) ∧ Below W.heap.size W w' ∧ Below X.heap.size X w' := by
  subst hvs hn hL
  have := of_any ps.length (some ⟨g, 0, none⟩) (ps.map Pt.l) X (by simpa using hn2) (by simp) hm (hW.below hX hW.2.2.1 hW.2.2.2) (hc.parts hX hp)
  rw [List.length_map] at this
  exact this.mono fun e w' ⟨h1, h2⟩ => ⟨h1, hX.trans (h2.mono hX.size), h2⟩
theorem kf_at (W : World) (ps : List Pt) (vs : List Value) (hvs : vs = ps.map Pt.val) (hW : tables W) (hp : ∀ p ∈ ps, p.ok W) (L : List UInt8) (hL : (ps.map Pt.l).flatten = L) (hm : L.length ≤ 900000) (n : Nat) (hn : n = ps.length) (hn2 : n ≤ 1000000) (k : Pt) (hk : k.ok W) (hkl : k.l.length ≤ 900000) (X : World) (g : Nat) (hX : Below W.heap.size W X) (hc : cellsAt X g vs) :
    Calls Tryd.prog 44 #[.slice k.a k.l.length k.c, .slice (some ⟨g, 0, none⟩) n n] X fun e w' => e = .returned (.agg (byteCells (hmac k.l L)).toArray) ∧ Below W.heap.size W w' ∧ Below X.heap.size X w' := by
  subst hvs hn hL
  have := kf_any k.a (some ⟨g, 0, none⟩) k.c ps.length k.l (ps.map Pt.l) X hkl hk.1 hk.2.1 (hk.2.2.below hX) (by simpa using hn2) (by simp) hm (hW.below hX hW.2.2.1 hW.2.2.2) (hc.parts hX hp)
  rw [List.length_map] at this
  exact this.mono fun e w' ⟨h1, h2⟩ => ⟨h1, hX.trans (h2.mono hX.size), h2⟩
end Go.Proofs.YtfhlcondnaahiaaDoor
end
section
/- sum.Stretch: a key of a word, so many steps far. -/
namespace Go.Proofs.YtfhlcondnaahiaaDoor
open Go.RowKit Sha

/-- Two sums put together byte by byte. -/
def xorL (a b : List UInt8) : List UInt8 := (List.range 32).map fun i => a.getD i 0 ^^^ b.getD i 0
/-- A word, stretched n steps far. -/
def stretch (K s : List UInt8) : Nat → List UInt8
  | 0 => hmac K s
  | n + 1 => xorL (stretch K s n) (hmac K (stretch K s n))
theorem range_of {w : World} {g : Nat} {cs : List Value} {t : TypeId} (hg : blockIs w g cs t) : w.rangeAt g 0 cs := by
  intro j v hj
  rw [Nat.zero_add, hg.cell]
  exact hj
attribute [local go_sem] V_xor

end Go.Proofs.YtfhlcondnaahiaaDoor
end
