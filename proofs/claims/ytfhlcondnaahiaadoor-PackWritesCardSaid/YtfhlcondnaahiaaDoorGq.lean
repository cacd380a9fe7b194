/- Arguments, read: a slice of bytes, a list of such slices; the tables; the frame of a law's row and card. -/
import Derived.Test.YtfhlcondnaahiaaDoorGd
import Derived.Test.YtfhlcondnaahiaaDoorCards
import Derived.Test.YtfhlcondnaahiaaDoorTie
import Derived.ProofKit
import Derived.OpenShut
import Derived.SizedLaws
import Derived.Deep.Matrix
import Derived.Deep.DeepHandedRow
import Derived.Lib.LaidTab
import Derived.Carry
import Derived.Test.YtfhlcondnaahiaaDoorHb
import Derived.ChangeMaps5
section
namespace Go.Proofs.YtfhlcondnaahiaaDoor
open Go.RowKit Go.ChangeShapes Go.WideShapes Go.ChangeAt Go.Deep Sha

set_option maxRecDepth 100000 in
theorem own : ownKnob Tryd.prog.godebug = none := by kernel_rfl
set_option maxRecDepth 100000 in
theorem laidOut : laidOutB Tryd.prog = true := by kernel_rfl
set_option maxRecDepth 100000 in
theorem cells5 : Tryd.prog.cellsOf 5 = 1 := by kernel_rfl
set_option maxRecDepth 100000 in
theorem cells43 : Tryd.prog.cellsOf 131 = 1 := by kernel_rfl
set_option maxRecDepth 100000 in
theorem cells47 : Tryd.prog.cellsOf 132 = 8 := by kernel_rfl
set_option maxRecDepth 100000 in
theorem cells61 : Tryd.prog.cellsOf 188 = 64 := by kernel_rfl
def toBytes (zs : List Int) : List UInt8 := zs.map fun n => UInt8.ofNat n.toNat
set_option maxRecDepth 100000 in
theorem toBytes_get {zs : List Int} (hw : ∀ n ∈ zs, (Lit.int .u8 n).wf = true) (n j : Nat) (hj : j < (toBytes (zs.take n)).length) : zs.getD j 0 = V ((toBytes (zs.take n)).getD j 0) := by
  have hj2 : j < (zs.take n).length := by simpa [toBytes] using hj
  rw [List.length_take] at hj2
  have hj3 : j < zs.length := by omega
  have hb := bounds_u8 (hw zs[j] (List.getElem_mem hj3))
  have e : (toBytes (zs.take n)).getD j 0 = UInt8.ofNat (zs[j]).toNat := by
    simp [toBytes, hj3, show j < n by omega]
  rw [e]
  unfold V
  rw [UInt8.toNat_ofNat']
  simp [hj3]
  omega

section
variable {H : Type} {enc : TypeId × Value → H} {w : World} {base : Nat}

end

end Go.Proofs.YtfhlcondnaahiaaDoor
end
section
/- The two package-level tables: what the row lists of them, as the walks ask it; a world in which they are laid. -/
namespace Go.Proofs.YtfhlcondnaahiaaDoor
open Go.RowKit Go.ChangeShapes Go.WideShapes Go.ChangeAt Go.Deep Sha

def startNums : List Int := init.list.map U
def roundNums : List Int := consts.map U
set_option maxRecDepth 100000 in
theorem gStart : Tryd.prog.globalNamed "hypogeum/sum.start" = some 0 := by kernel_rfl
set_option maxRecDepth 100000 in
theorem gStartType : (Tryd.prog.globals[0]?).map (·.type) = some 132 := by kernel_rfl
set_option maxRecDepth 100000 in
theorem gRounds : Tryd.prog.globalNamed "hypogeum/sum.rounds" = some 1 := by kernel_rfl
set_option maxRecDepth 100000 in
theorem gRoundsType : (Tryd.prog.globals[1]?).map (·.type) = some 188 := by kernel_rfl
set_option maxRecDepth 100000 in
theorem laidStart {H : Type} : Rows.laid_hypogeum_sum_start (H := H) = Lib.tabData .u32 startNums := rfl
set_option maxRecDepth 100000 in
theorem laidRounds {H : Type} : Rows.laid_hypogeum_sum_rounds (H := H) = Lib.tabData .u32 roundNums := rfl

set_option maxRecDepth 100000 in
theorem tables_of_laid {W : World} (h : laidMet Tryd.prog [("hypogeum/sum.start", Rows.laid_hypogeum_sum_start), ("hypogeum/sum.rounds", Rows.laid_hypogeum_sum_rounds)] W) : tables W := by
  rw [laidStart, laidRounds] at h
  have h1 : Lib.TabIs Tryd.prog W "hypogeum/sum.start" .u32 startNums := Lib.tabIs_of_head gStart gStartType Tryd.underlying132 Tryd.underlying131 cells43 cells47 h
  have h2 : Lib.TabIs Tryd.prog W "hypogeum/sum.rounds" .u32 roundNums := by
    obtain ⟨ps, ⟨_, _, _, _, _, _, _, _, _, _, hrest, _⟩, _⟩ := h
    obtain ⟨g', t', cs, fuel, p, q, hg', ht', hvar, hd, _, _⟩ := hrest
    obtain rfl := Option.some.inj (gRounds.symm.trans hg')
    obtain rfl := Option.some.inj (gRoundsType.symm.trans ht')
    unfold Lib.TabIs
    rw [hvar, ← Lib.cells_of_tab Tryd.underlying188 Tryd.underlying131 cells43 cells61 hd]
  have k1 : ∀ j, j < 64 → W.cell? ⟨1, j, none⟩ = some (.int .u32 (U (consts.getD j 0))) := by
    intro j hj
    have hl : j < consts.length := hj
    rw [h2.cell gRounds j (by simpa [roundNums] using hl)]
    simp [roundNums, hl]
  have k2 : ∀ j x, init.list[j]? = some x → W.cell? ⟨0, j, none⟩ = some (.int .u32 (U x)) := by
    intro j x hx
    have hl := (List.getElem?_eq_some_iff.1 hx).1
    rw [h1.cell gStart j (by simpa [startNums] using hl)]
    simp [startNums, hx]
  exact ⟨k1, k2, block_lt_of_cell (k1 0 (by omega)), block_lt_of_cell (k2 0 _ rfl)⟩

def relay (zs : List Int) : Obj → Obj
  | .cells _ t frozen => .cells (zs.map fun z => Value.int .u32 z).toArray t frozen
  | o => o
noncomputable def laidWorld (os : Os) : World :=
  let w := World.holding Tryd.prog os ⟨#[], #[], []⟩
  { w with heap := (w.heap.modify 0 (relay startNums)).modify 1 (relay roundNums) }

end Go.Proofs.YtfhlcondnaahiaaDoor
end
section
/- Letters that come in, read. -/
namespace Go.Proofs.YtfhlcondnaahiaaDoor
open Go.RowKit
section
open Go.RowKit Go.ChangeShapes Go.WideShapes Go.ChangeAt Go.Deep Go.Joins Go.ChangeMaps Sha
theorem byte_ofW {n : Int} (hw : (Lit.int .u8 n).wf = true) : n = V (UInt8.ofNat n.toNat) := by
  have hb := bounds_u8 hw
  unfold V
  rw [UInt8.toNat_ofNat']
  omega
set_option maxRecDepth 100000 in
theorem open_bytesW {H : Type} {enc : TypeId × Value → H} {W : World} {fuel : Nat} {cs : List Value} {x : DataW H × List MemPlace} (h : DataW.trod enc Tryd.prog W 0 (fun _ => true) true fuel 30 cs = some x) :
    ∃ (a : Option Addr) (c : Nat) (F : List UInt8), cs = [.slice a F.length c] ∧ F.length ≤ c ∧ c ≤ 9223372036854775807 ∧ (a = none → c = 0) ∧ bytesIn W a F := by
  rcases open_ints Tryd.underlying30 Tryd.underlying5 cells5 h with ⟨hcs, _⟩ | ⟨a, len, cap, zs, rfl, _, hl, hm, hz, hx, hcell, hw⟩
  · exact ⟨none, 0, [], hcs, Nat.le_refl _, by decide, fun _ => rfl, Or.inl rfl⟩
  · simp only [if_true] at hz
    have hlen : (toBytes (zs.take len)).length = len := by simp [toBytes]; omega
    refine ⟨some a, cap, toBytes (zs.take len), by rw [hlen], by omega, by unfold maxLen at hm; omega, (fun h => by cases h), ?_⟩
    by_cases h0 : len = 0
    · left
      subst h0
      simp [toBytes]
    · obtain ⟨b, off, rfl, hc⟩ := ints_at hcell (by omega)
      right
      refine ⟨b, off, rfl, fun j hj => ?_⟩
      rw [hc j (by rw [hlen] at hj; omega), toBytes_get hw len j hj]
end
end Go.Proofs.YtfhlcondnaahiaaDoor
end
