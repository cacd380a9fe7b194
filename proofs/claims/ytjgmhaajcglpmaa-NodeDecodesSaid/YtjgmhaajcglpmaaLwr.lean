/- The law GlyphWrites: its walk. -/
import Derived.Test.YtjgmhaajcglpmaaThg
import Derived.Lib.ConvBytes
namespace Go.Proofs.Ytjgmhaajcglpmaa
open Go.RowKit

theorem conv_below (w : World) (l : List UInt8) : Below w.heap.size w (Lib.bytesWorld w 5 (str l)) :=
  ⟨rfl, rfl, rfl, by rw [Lib.bytesWorld_size]; omega, fun k hk => Lib.bytesWorld_at_old w 5 (str l) k hk⟩
theorem conv_in (w : World) (l : List UInt8) : bytesIn (Lib.bytesWorld w 5 (str l)) (some ⟨w.heap.size, 0, none⟩) l := Or.inr ⟨_, _, rfl, fun j hj => by
  have hs := str_size l
  rw [Nat.zero_add, Lib.bytesWorld_cell w 5 (str l) j (by omega)]
  simp [str, V, hj]⟩
theorem thg_one (p : Thg) : ∀ v ∈ thgCells p, v.oneCell' = true := by
  intro v hv
  simp only [thgCells, List.mem_cons, List.not_mem_nil, or_false] at hv
  rcases hv with rfl | rfl | rfl <;> rfl
theorem thg_fit (p q : Thg) : 0 + (thgCells p).length ≤ (thgCells q).length := Nat.le_refl _
theorem nums01 : numBytes 1 = [1] ∧ numBytes 0 = [0] := ⟨numBytes_small (by decide), numBytes_small (by decide)⟩
/-- How much may be there. -/
def cap (j : Nat) : Nat := 3 + 200009 * j
theorem cap_next (j : Nat) : cap (j + 1) = cap j + 200009 := by unfold cap; omega
theorem cap_zero : cap 0 = 3 := rfl
theorem cap_le (j : Nat) (h : j ≤ 60) : cap j ≤ 12000543 := by unfold cap; omega
theorem app_len {F M : List UInt8} {j : Nat} (h : F.length ≤ cap j) (e : cap (j + 1) = cap j + 200009) (hm : M.length ≤ 200009) : (F ++ M).length ≤ cap (j + 1) := by
  rw [List.length_append]
  omega
/-- What is there when a round begins. -/
def wrote (w : World) (B k j : Nat) (s : List UInt8 × Int) (X : List UInt8) : Prop := OutAt w B k s ∧ (s.2 = 0 → X = s.1) ∧ s.1.length ≤ cap j ∧ X.length ≤ cap j

end Go.Proofs.Ytjgmhaajcglpmaa
