/- The two package-level tables: what the row lists of them, as the walks ask it; a world in which they are laid. -/
import Derived.Test.YtaohbpmefcdipaaDoorOpen
namespace Go.Proofs.YtaohbpmefcdipaaDoor
open Go.RowKit Go.ChangeShapes Go.WideShapes Go.ChangeAt Go.Deep Sha

/-- The numbers of the tables. -/
def startNums : List Int := init.list.map U
def roundNums : List Int := consts.map U
theorem gStart : Tryd.prog.globalNamed "hypogeum/sum.start" = some 0 := by kernel_rfl
theorem gStartType : (Tryd.prog.globals[0]?).map (·.type) = some 74 := by kernel_rfl
theorem gRounds : Tryd.prog.globalNamed "hypogeum/sum.rounds" = some 1 := by kernel_rfl
theorem gRoundsType : (Tryd.prog.globals[1]?).map (·.type) = some 117 := by kernel_rfl
theorem laidStart {H : Type} : Rows.laid_hypogeum_sum_start (H := H) = Lib.tabData .u32 startNums := rfl
theorem laidRounds {H : Type} : Rows.laid_hypogeum_sum_rounds (H := H) = Lib.tabData .u32 roundNums := rfl

theorem tables_of_laid {W : World} (h : laidMet Tryd.prog [("hypogeum/sum.start", Rows.laid_hypogeum_sum_start), ("hypogeum/sum.rounds", Rows.laid_hypogeum_sum_rounds)] W) : tables W := by
  rw [laidStart, laidRounds] at h
  have h1 : Lib.TabIs Tryd.prog W "hypogeum/sum.start" .u32 startNums := Lib.tabIs_of_head gStart gStartType Tryd.underlying74 Tryd.underlying68 cells43 cells47 h
  have h2 : Lib.TabIs Tryd.prog W "hypogeum/sum.rounds" .u32 roundNums := by
    obtain ⟨ps, ⟨_, _, _, _, _, _, _, _, _, _, hrest, _⟩, _⟩ := h
    obtain ⟨g', t', cs, fuel, p, q, hg', ht', hvar, hd, _, _⟩ := hrest
    obtain rfl := Option.some.inj (gRounds.symm.trans hg')
    obtain rfl := Option.some.inj (gRoundsType.symm.trans ht')
    unfold Lib.TabIs
    rw [hvar, ← Lib.cells_of_tab Tryd.underlying117 Tryd.underlying68 cells43 cells61 hd]
  have k1 : ∀ j, j < 64 → W.cell? ⟨1, j, none⟩ = some (.int .u32 (U (consts.getD j 0))) := by
    intro j hj
    have hl : j < consts.length := hj
    rw [h2.cell gRounds j (by simpa [roundNums] using hl)]
    simp [roundNums, hl]
  have k2 : ∀ j x, init.list[j]? = some x → W.cell? ⟨0, j, none⟩ = some (.int .u32 (U x)) := by
    intro j x hx
    have hl := (List.getElem?_eq_some_iff.1 hx).1
    rw [h1.cell gStart j (by simpa [startNums] using hl)]
    simp [startNums, hx]
  exact ⟨k1, k2, block_lt_of_cell (k1 0 (by omega)), block_lt_of_cell (k2 0 _ rfl)⟩

/-- A block laid with numbers. -/
def relay (zs : List Int) : Obj → Obj
  | .cells _ t frozen => .cells (zs.map fun z => Value.int .u32 z).toArray t frozen
  | o => o
/-- A world for a witness: the settled one, the two tables as their initialisers lay them. -/
noncomputable def laidWorld (os : Os) : World :=
  let w := World.holding Tryd.prog os ⟨#[], #[], []⟩
  { w with heap := (w.heap.modify 0 (relay startNums)).modify 1 (relay roundNums) }

end Go.Proofs.YtaohbpmefcdipaaDoor
