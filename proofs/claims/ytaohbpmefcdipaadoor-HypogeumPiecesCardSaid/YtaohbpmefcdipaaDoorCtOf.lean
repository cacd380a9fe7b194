/- The contract of Of. -/
import Derived.Test.YtaohbpmefcdipaaDoorCtOn
namespace Go.Proofs.YtaohbpmefcdipaaDoor.Ct
open Go.RowKit

/-- A slice's cells hold these bytes. -/
def bytesIn (w : World) (a : Option Addr) (l : List UInt8) : Prop := l = [] ∨ ∃ b o, a = some ⟨b, o, none⟩ ∧ ∀ j, j < l.length → w.cell? ⟨b, o + j, none⟩ = some (.int .u8 (V (l.getD j 0)))
theorem bytesIn.below {w w' : World} {a : Option Addr} {l : List UInt8} (h : bytesIn w a l) {B : Nat} (hb : Below B w w') (hB : w.heap.size ≤ B) : bytesIn w' a l := by
  rcases h with h | ⟨bb, bo, h1, h3⟩
  · exact Or.inl h
  · exact Or.inr ⟨bb, bo, h1, fun j hj => (hb.cell (p := ⟨bb, bo + j, none⟩) (Nat.lt_of_lt_of_le (block_lt_of_cell (h3 j hj)) hB)).trans (h3 j hj)⟩
/-- The sum of bytes. -/
def ofW (m : W) (l : List UInt8) : W := l.foldl (onW m) 0
theorem ofW_take (m : W) (l : List UInt8) (k : Nat) (h : k < l.length) : ofW m (l.take (k + 1)) = onW m (ofW m (l.take k)) (l.getD k 0) := by
  unfold ofW
  rw [List.take_succ_eq_append_getElem h, List.foldl_append]
  simp [h]

theorem range_below {w w' : World} {g o : Nat} {cs : List Value} {B : Nat} (h : w.rangeAt g o cs) (hb : Below B w w') (hg : g < B) : w'.rangeAt g o cs := by
  intro j v hj
  rw [hb.cell (p := ⟨g, o + j, none⟩) hg]
  exact h j v hj
end Go.Proofs.YtaohbpmefcdipaaDoor.Ct
