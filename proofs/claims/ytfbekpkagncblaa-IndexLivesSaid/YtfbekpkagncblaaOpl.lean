/- Lists of texts, and lists of such lists, that came in. -/
import Derived.Test.YtfbekpkagncblaaLq
import Derived.ChangeMaps5
import Derived.Deep.Strs
import Derived.Deep.Slices
namespace Go.Proofs.Ytfbekpkagncblaa
open Go.RowKit
theorem valsIn_of {w : World} {a : Addr} {xs : List Value} (h : ∀ i (hi : i < xs.length), w.cell? (a.add i) = some xs[i]) : valsIn w (some a) xs := by
  by_cases hp : 0 < xs.length
  · obtain ⟨b, off, spot⟩ := a
    have hspot : spot = none := by simpa [Addr.add] using World.cell?_spot (h 0 hp)
    subst hspot
    refine Or.inr ⟨b, off, rfl, fun j hj => ?_⟩
    rw [← Go.WideShapes.add_plain, h j hj]
    simp [hj]
  · exact Or.inl (List.eq_nil_of_length_eq_zero (by omega))
theorem cells_string : Try.prog.cellsOf 9 = 1 := by kernel_rfl
theorem cells_strings : Try.prog.cellsOf 22 = 1 := by kernel_rfl
theorem max_len : maxLen = 9223372036854775807 := by decide
section
variable {H : Type} {enc : TypeId × Value → H} {w : World} {base : Nat}
theorem open_texts {fuel : Nat} {v : Value} {x : DataW H × List MemPlace} (h : DataW.trod enc Try.prog w base (fun _ => true) true fuel 22 [v] = some x) :
    ∃ F : List (List UInt8), textsIn w v F := by
  rcases Go.Deep.open_strs Try.underlying22 Try.underlying9 cells_string h with ⟨hcs, hx⟩ | ⟨a, len, cap, m, Sx, hcs, _, hl, hm, hz, hx, hcell⟩
  · obtain rfl : v = .slice none 0 0 := by simpa using hcs
    exact ⟨[], none, 0, rfl, Nat.le_refl _, by decide, fun _ => rfl, Or.inl rfl⟩
  · obtain rfl : v = .slice (some a) len cap := by simpa using hcs
    simp only [if_true] at hz
    rw [max_len] at hm hcell
    have hlen : ((List.range len).map fun i => (Sx i).data.toList).length = len := by simp
    refine ⟨(List.range len).map fun i => (Sx i).data.toList, some a, cap, by rw [hlen], by rw [hlen]; exact hl, hm, (fun h => by cases h), valsIn_of fun i hi => ?_⟩
    rw [txs_length, hlen] at hi
    rw [(hcell i (by omega)).1]
    simp only [txs, List.getElem_map, List.getElem_range]
    rw [← str_data (Sx i)]
theorem open_olds {fuel : Nat} {v : Value} {x : DataW H × List MemPlace} (h : DataW.trod enc Try.prog w base (fun _ => true) true fuel 23 [v] = some x) :
    ∃ O : List (List (List UInt8)), oldsIn w v O := by
  rcases Go.Deep.open_slice1 Try.underlying23 cells_strings h with ⟨hcs, hx⟩ | ⟨a, len, cap, m, n, V, D, Pl, hcs, hb, hl, hm, hmm, hx, hel⟩
  · obtain rfl : v = .slice none 0 0 := by simpa using hcs
    exact ⟨[], none, 0, rfl, Nat.le_refl _, by decide, Or.inl rfl⟩
  · obtain rfl : v = .slice (some a) len cap := by simpa using hcs
    simp only [if_true] at hmm
    rw [max_len] at hm
    have hF : ∀ i, ∃ F : List (List UInt8), i < len → textsIn w (V i) F := fun i => by
      by_cases hi : i < len
      · obtain ⟨F, hF⟩ := open_texts (hel i (by omega)).2
        exact ⟨F, fun _ => hF⟩
      · exact ⟨[], fun h => absurd h hi⟩
    obtain ⟨G, hG⟩ := Classical.axiomOfChoice hF
    have hlen : ((List.range len).map G).length = len := by simp
    refine ⟨(List.range len).map G, some a, cap, by rw [hlen], by rw [hlen]; exact hl, hm, ?_⟩
    by_cases hp : 0 < len
    · obtain ⟨b, off, spot⟩ := a
      have hspot : spot = none := by simpa [Addr.add] using World.cell?_spot (hel 0 (by omega)).1
      subst hspot
      refine Or.inr ⟨b, off, rfl, fun i hi => ?_⟩
      rw [hlen] at hi
      refine ⟨V i, ?_, ?_⟩
      · rw [← Go.WideShapes.add_plain]
        exact (hel i (by omega)).1
      · simp only [List.getElem_map, List.getElem_range]
        exact hG i hi
    · left
      have : len = 0 := by omega
      simp [this]
end
end Go.Proofs.Ytfbekpkagncblaa
