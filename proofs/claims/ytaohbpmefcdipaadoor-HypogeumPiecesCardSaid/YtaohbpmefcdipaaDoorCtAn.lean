/- Add, of what stands in a new block. -/
import Derived.Test.YtaohbpmefcdipaaDoorCtWd
import Derived.Below
import Derived.ChangeKeysEq
namespace Go.Proofs.YtaohbpmefcdipaaDoor.Ct
open Go.RowKit

/-- The sum of two that stand in a new block. -/
theorem add_new (x y : W) (t : TypeId) (w : World) :
    Calls Tryd.prog 57 #[.slice (some ⟨w.heap.size, 0, none⟩) 2 2] (w.alloc (.cells #[.int .u64 (U x), .int .u64 (U y)] t (0, 0))) fun e w' => e = .returned (.int .u64 (U (x ^^^ y))) ∧ Below w.heap.size w w' := by
  have h : wordsIn (w.alloc (.cells #[.int .u64 (U x), .int .u64 (U y)] t (0, 0))) (some ⟨w.heap.size, 0, none⟩) [x, y] := by
    refine Or.inr ⟨_, _, rfl, fun j hj => ?_⟩
    match j, hj with
    | 0, _ => rw [World.cell?_alloc_at _ _ _ _ rfl]; rfl
    | 1, _ => rw [World.cell?_alloc_at _ _ _ _ rfl]; rfl
  refine (add_any _ [x, y] 2 _ (Nat.le_refl 2) (by simp) h).mono ?_
  rintro e w' ⟨rfl, rfl⟩
  refine ⟨?_, (Below.refl _ _).alloc (Nat.le_refl _) _⟩
  simp [sumAll]

theorem one_u : (1 : Int) = U 1#64 := rfl
theorem U_shl' (x : W) (n : Nat) : IntKind.u64.wrap (U x * 2 ^ ((n : Int)).toNat) = U (x <<< n) := by rw [Int.toNat_natCast]; exact U_shlw x n
theorem U_and1 (x : W) : bits .and .u64 (U x) 1 = U (x &&& 1#64) := U_and x 1#64
theorem U_beq1 (x : W) : (U x == 1) = decide (x = 1#64) := by
  rw [Bool.eq_iff_iff, beq_iff_eq, decide_eq_true_iff]
  exact ⟨fun h => U_inj (by rw [h]; rfl), fun h => by rw [h]; rfl⟩
end Go.Proofs.YtaohbpmefcdipaaDoor.Ct
