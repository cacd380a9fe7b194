/- Rows of ints that come in, read. -/
import Derived.Test.YtjkhokholcchfaaDoorGq
import Derived.Test.YtjkhokholcchfaaDoorTch
namespace Go.Proofs.YtjkhokholcchfaaDoor
open Go.RowKit
section
open Go.RowKit Go.ChangeShapes Go.WideShapes Go.ChangeAt Go.Deep Go.Joins Go.ChangeMaps Sha
theorem cells3 : Tryd.prog.cellsOf 3 = 1 := by kernel_rfl
set_option maxRecDepth 100000 in
theorem open_intsW {H : Type} {enc : TypeId × Value → H} {W : World} {fuel : Nat} {cs : List Value} {x : DataW H × List MemPlace} (h : DataW.trod enc Tryd.prog W 0 (fun _ => true) true fuel 23 cs = some x) :
    ∃ (a : Option Addr) (c : Nat) (F : List Int), cs = [.slice a F.length c] ∧ F.length ≤ c ∧ c ≤ 9223372036854775807 ∧ (a = none → c = 0) ∧ intsW W a F := by
  rcases open_ints Tryd.underlying23 Tryd.underlying3 cells3 h with ⟨hcs, _⟩ | ⟨a, len, cap, zs, rfl, _, hl, hm, hz, hx, hcell, hw⟩
  · exact ⟨none, 0, [], hcs, Nat.le_refl _, by decide, fun _ => rfl, Or.inl rfl⟩
  · simp only [if_true] at hz
    have hlen : (zs.take len).length = len := by rw [List.length_take]; omega
    refine ⟨some a, cap, zs.take len, by rw [hlen], by omega, by unfold maxLen at hm; omega, (fun h => by cases h), ?_⟩
    by_cases h0 : len = 0
    · left
      subst h0
      simp
    · obtain ⟨b, off, rfl, hc⟩ := ints_at hcell (by omega)
      right
      refine ⟨b, off, rfl, fun j hj => ?_⟩
      rw [hlen] at hj
      rw [hc j (by omega)]
      simp [List.getD_eq_getElem?_getD, List.getElem?_take, hj]
end
end Go.Proofs.YtjkhokholcchfaaDoor
