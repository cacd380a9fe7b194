/- Rows of numbers, texts and flags that came in. -/
import Derived.Test.YtjgmhaajcglpmaaGly
import Derived.ChangeMaps5
import Derived.Deep.Strs
import Derived.Deep.Grids
namespace Go.Proofs.Ytjgmhaajcglpmaa
open Go.RowKit
def rowInts (w : World) (a : Option Addr) (c : Nat) (N : List Int) : Prop := N.length ≤ c ∧ c ≤ 9223372036854775807 ∧ (∀ z ∈ N, (Lit.int .i64 z).wf = true) ∧ valsIn w a (zvals N)
def rowStrs (w : World) (a : Option Addr) (c : Nat) (T : List (List UInt8)) : Prop := T.length ≤ c ∧ c ≤ 9223372036854775807 ∧ (∀ l ∈ T, l.length ≤ 9223372036854775807) ∧ valsIn w a (svals T)
def rowFlags (w : World) (a : Option Addr) (c : Nat) (Y : List Bool) : Prop := Y.length ≤ c ∧ c ≤ 9223372036854775807 ∧ valsIn w a (fvals Y)
theorem valsIn_of {w : World} {a : Addr} {xs : List Value} (h : ∀ i (hi : i < xs.length), w.cell? (a.add i) = some xs[i]) : valsIn w (some a) xs := by
  by_cases hp : 0 < xs.length
  · obtain ⟨b, off, spot⟩ := a
    have hspot : spot = none := by simpa [Addr.add] using World.cell?_spot (h 0 hp)
    subst hspot
    refine Or.inr ⟨b, off, rfl, fun j hj => ?_⟩
    rw [← Go.WideShapes.add_plain, h j hj]
    simp [hj]
  · exact Or.inl (List.eq_nil_of_length_eq_zero (by omega))
theorem valsIn.take {w : World} {a : Option Addr} {xs : List Value} (h : valsIn w a xs) (n : Nat) : valsIn w a (xs.take n) := by
  rcases h with rfl | ⟨b, o, h1, h2⟩
  · exact Or.inl (by simp)
  · refine Or.inr ⟨b, o, h1, fun j hj => ?_⟩
    rw [List.length_take] at hj
    rw [h2 j (by omega), List.getElem?_take, if_pos (by omega)]
theorem str_data (s : ByteArray) : s = str s.data.toList := by simp [str]
theorem cells_int : Try.prog.cellsOf 3 = 1 := by kernel_rfl
theorem cells_string : Try.prog.cellsOf 9 = 1 := by kernel_rfl
theorem cells_bool : Try.prog.cellsOf 4 = 1 := by kernel_rfl
theorem max_len : maxLen = 9223372036854775807 := by decide
section
variable {H : Type} {enc : TypeId × Value → H} {w : World} {base : Nat}
theorem open_intsz {fuel : Nat} {v : Value} {x : DataW H × List MemPlace} (h : DataW.trod enc Try.prog w base (fun _ => true) true fuel 83 [v] = some x) :
    ∃ (a : Option Addr) (c : Nat) (F : List Int), v = .slice a F.length c ∧ rowInts w a c F := by
  rcases Go.ChangeShapes.open_ints Try.underlying83 Try.underlying3 cells_int h with ⟨hcs, hx⟩ | ⟨a, len, cap, zs, hcs, _, hl, hm, hz, hx, hcell, hw⟩
  · obtain rfl : v = .slice none 0 0 := by simpa using hcs
    exact ⟨none, 0, [], rfl, by simp, by simp, by simp, Or.inl rfl⟩
  · obtain rfl : v = .slice (some a) len cap := by simpa using hcs
    simp only [if_true] at hz
    have hlen : (zs.take len).length = len := by rw [List.length_take]; omega
    rw [max_len] at hm
    refine ⟨some a, cap, zs.take len, by rw [hlen], by omega, hm, fun z hz => hw z (List.mem_of_mem_take hz), valsIn_of fun i hi => ?_⟩
    rw [zvals_length, hlen] at hi
    rw [hcell i (by omega)]
    have h1 : i < zs.length := by omega
    simp [zvals, h1]
theorem open_strsz {fuel : Nat} {v : Value} {x : DataW H × List MemPlace} (h : DataW.trod enc Try.prog w base (fun _ => true) true fuel 105 [v] = some x) :
    ∃ (a : Option Addr) (c : Nat) (F : List (List UInt8)), v = .slice a F.length c ∧ rowStrs w a c F := by
  rcases Go.Deep.open_strs Try.underlying105 Try.underlying9 cells_string h with ⟨hcs, hx⟩ | ⟨a, len, cap, m, Sx, hcs, _, hl, hm, hz, hx, hcell⟩
  · obtain rfl : v = .slice none 0 0 := by simpa using hcs
    exact ⟨none, 0, [], rfl, by simp, by simp, by simp, Or.inl rfl⟩
  · obtain rfl : v = .slice (some a) len cap := by simpa using hcs
    simp only [if_true] at hz
    rw [max_len] at hm hcell
    have hlen : ((List.range len).map fun i => (Sx i).data.toList).length = len := by simp
    refine ⟨some a, cap, (List.range len).map fun i => (Sx i).data.toList, by rw [hlen], by omega, hm, fun z hz => ?_, valsIn_of fun i hi => ?_⟩
    · obtain ⟨i, hi, rfl⟩ := List.mem_map.1 hz
      have := (hcell i (by have := List.mem_range.1 hi; omega)).2
      rw [Array.length_toList]
      exact this
    · rw [svals_length, hlen] at hi
      rw [(hcell i (by omega)).1]
      simp only [svals, List.getElem_map, List.getElem_range]
      rw [← str_data (Sx i)]
end
end Go.Proofs.Ytjgmhaajcglpmaa
