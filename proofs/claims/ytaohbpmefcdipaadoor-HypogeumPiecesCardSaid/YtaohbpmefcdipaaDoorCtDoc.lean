/- The contracts of the document's Right and Of, and of the law's rolls. -/
import Derived.Test.YtaohbpmefcdipaaDoorCtVal
namespace Go.Proofs.YtaohbpmefcdipaaDoor.Ct
open Go.RowKit

theorem U_dbl' (x : W) : IntKind.u64.wrap (U x * 2) = U (x <<< 1) := U_shlw x 1
attribute [local go_sem] U_dbl' U_xor U_shr
theorem row_two {w : World} {x y : UInt8} {vx vy : Int} (t : TypeId) (hx : vx = V x) (hy : vy = V y) : bytesIn (w.alloc (.cells #[.int .u8 vx, .int .u8 vy] t (0, 0))) (some ⟨w.heap.size, 0, none⟩) [x, y] := by
  subst hx hy
  refine Or.inr ⟨_, _, rfl, fun j hj => ?_⟩
  match j, hj with
  | 0, _ => rw [World.cell?_alloc_at _ _ _ _ rfl]; rfl
  | 1, _ => rw [World.cell?_alloc_at _ _ _ _ rfl]; rfl
end Go.Proofs.YtaohbpmefcdipaaDoor.Ct
