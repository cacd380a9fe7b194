/- Arguments, read: a slice of bytes, a list of such slices; the tables; the frame of a law's row and card. -/
import Derived.Test.YtfhlcondnaahiaaDoorGd
import Derived.Test.YtfhlcondnaahiaaDoorCards
import Derived.Test.YtfhlcondnaahiaaDoorTie
import Derived.ProofKit
import Derived.OpenShut
import Derived.SizedLaws
import Derived.Deep.Matrix
import Derived.Deep.DeepHandedRow
import Derived.Lib.LaidTab
import Derived.Carry
import Derived.Test.YtfhlcondnaahiaaDoorHa
import Derived.ChangeMaps5
section
namespace Go.Proofs.YtfhlcondnaahiaaDoor
open Go.RowKit Go.ChangeShapes Go.WideShapes Go.ChangeAt Go.Deep Sha

set_option maxRecDepth 100000 in
theorem own : ownKnob Tryd.prog.godebug = none := by kernel_rfl
set_option maxRecDepth 100000 in
theorem cells43 : Tryd.prog.cellsOf 131 = 1 := by kernel_rfl
set_option maxRecDepth 100000 in
theorem cells47 : Tryd.prog.cellsOf 132 = 8 := by kernel_rfl
set_option maxRecDepth 100000 in
theorem cells61 : Tryd.prog.cellsOf 188 = 64 := by kernel_rfl
section
variable {H : Type} {enc : TypeId × Value → H} {w : World} {base : Nat}

end

end Go.Proofs.YtfhlcondnaahiaaDoor
end
section
/- The two package-level tables: what the row lists of them, as the walks ask it; a world in which they are laid. -/
namespace Go.Proofs.YtfhlcondnaahiaaDoor
open Go.RowKit Go.ChangeShapes Go.WideShapes Go.ChangeAt Go.Deep Sha

/-- The numbers of the tables. -/
def startNums : List Int := init.list.map U
def roundNums : List Int := consts.map U
set_option maxRecDepth 100000 in
theorem gStart : Tryd.prog.globalNamed "hypogeum/sum.start" = some 0 := by kernel_rfl
set_option maxRecDepth 100000 in
theorem gStartType : (Tryd.prog.globals[0]?).map (·.type) = some 132 := by kernel_rfl
set_option maxRecDepth 100000 in
theorem gRounds : Tryd.prog.globalNamed "hypogeum/sum.rounds" = some 1 := by kernel_rfl
set_option maxRecDepth 100000 in
theorem gRoundsType : (Tryd.prog.globals[1]?).map (·.type) = some 188 := by kernel_rfl
set_option maxRecDepth 100000 in
theorem laidStart {H : Type} : Rows.laid_hypogeum_sum_start (H := H) = Lib.tabData .u32 startNums := rfl
set_option maxRecDepth 100000 in
theorem laidRounds {H : Type} : Rows.laid_hypogeum_sum_rounds (H := H) = Lib.tabData .u32 roundNums := rfl

set_option maxRecDepth 100000 in
theorem tables_of_laid {W : World} (h : laidMet Tryd.prog [("hypogeum/sum.start", Rows.laid_hypogeum_sum_start), ("hypogeum/sum.rounds", Rows.laid_hypogeum_sum_rounds)] W) : tables W := by
  rw [laidStart, laidRounds] at h
  have h1 : Lib.TabIs Tryd.prog W "hypogeum/sum.start" .u32 startNums := Lib.tabIs_of_head gStart gStartType Tryd.underlying132 Tryd.underlying131 cells43 cells47 h
  have h2 : Lib.TabIs Tryd.prog W "hypogeum/sum.rounds" .u32 roundNums := by
    obtain ⟨ps, ⟨_, _, _, _, _, _, _, _, _, _, hrest, _⟩, _⟩ := h
    obtain ⟨g', t', cs, fuel, p, q, hg', ht', hvar, hd, _, _⟩ := hrest
    obtain rfl := Option.some.inj (gRounds.symm.trans hg')
    obtain rfl := Option.some.inj (gRoundsType.symm.trans ht')
    unfold Lib.TabIs
    rw [hvar, ← Lib.cells_of_tab Tryd.underlying188 Tryd.underlying131 cells43 cells61 hd]
  have k1 : ∀ j, j < 64 → W.cell? ⟨1, j, none⟩ = some (.int .u32 (U (consts.getD j 0))) := by
    intro j hj
    have hl : j < consts.length := hj
    rw [h2.cell gRounds j (by simpa [roundNums] using hl)]
    simp [roundNums, hl]
  have k2 : ∀ j x, init.list[j]? = some x → W.cell? ⟨0, j, none⟩ = some (.int .u32 (U x)) := by
    intro j x hx
    have hl := (List.getElem?_eq_some_iff.1 hx).1
    rw [h1.cell gStart j (by simpa [startNums] using hl)]
    simp [startNums, hx]
  exact ⟨k1, k2, block_lt_of_cell (k1 0 (by omega)), block_lt_of_cell (k2 0 _ rfl)⟩

/-- A block laid with numbers. -/
def relay (zs : List Int) : Obj → Obj
  | .cells _ t frozen => .cells (zs.map fun z => Value.int .u32 z).toArray t frozen
  | o => o
/-- A world for a witness: the settled one, the two tables as their initialisers lay them. -/
noncomputable def laidWorld (os : Os) : World :=
  let w := World.holding Tryd.prog os ⟨#[], #[], []⟩
  { w with heap := (w.heap.modify 0 (relay startNums)).modify 1 (relay roundNums) }

end Go.Proofs.YtfhlcondnaahiaaDoor
end
section
/- Letters that come in, read. -/
namespace Go.Proofs.YtfhlcondnaahiaaDoor
open Go.RowKit
section
open Go.RowKit Go.ChangeShapes Go.WideShapes Go.ChangeAt Go.Deep Go.Joins Go.ChangeMaps Sha
end
end Go.Proofs.YtfhlcondnaahiaaDoor
end
