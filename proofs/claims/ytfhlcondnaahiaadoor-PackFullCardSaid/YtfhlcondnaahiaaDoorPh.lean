/- pack.writeHead. -/
import Derived.Test.YtfhlcondnaahiaaDoorPd
import Derived.Test.YtfhlcondnaahiaaDoorHd
import Derived.Laws.Concat
namespace Go.Proofs.YtfhlcondnaahiaaDoor
open Go.RowKit Sha

def En.fine (x : En) : Prop := x.ok ∧ (x.kind = 1 ∨ x.kind = 2) ∧ x.len ≤ 2000000
/-- Entries in a row. -/
def ensIn (w : World) (a : Option Addr) (L : List En) : Prop := L = [] ∨ ∃ b o, a = some ⟨b, o, none⟩ ∧ ∀ j (h : j < L.length), w.rangeAt b (o + j * 35) L[j].cells
theorem ensIn.below {w w' : World} {a : Option Addr} {L : List En} (h : ensIn w a L) (k : Below w.heap.size w w') (h35 : ∀ x ∈ L, x.ok) : ensIn w' a L := by
  rcases h with h | ⟨b, o, e, hc⟩
  · exact Or.inl h
  · refine Or.inr ⟨b, o, e, fun j hj i u hi => ?_⟩
    have := hc j hj i u hi
    exact (k.cell (block_lt_of_cell this)).trans this
end Go.Proofs.YtfhlcondnaahiaaDoor
