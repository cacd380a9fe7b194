/- Arguments, read: a slice of bytes, a list of such slices; the tables; the frame of a law's row and card. -/
import Derived.Test.YtaohbpmefcdipaaDoorOf
import Derived.Test.YtaohbpmefcdipaaDoorCards
import Derived.Test.YtaohbpmefcdipaaDoorTie
import Derived.ProofKit
import Derived.OpenShut
import Derived.SizedLaws
import Derived.Deep.Matrix
import Derived.Deep.DeepHandedRow
import Derived.Lib.LaidTab
import Derived.Carry
namespace Go.Proofs.YtaohbpmefcdipaaDoor
open Go.RowKit Go.ChangeShapes Go.WideShapes Go.ChangeAt Go.Deep Sha

theorem own : ownKnob Tryd.prog.godebug = none := by kernel_rfl
theorem laidOut : laidOutB Tryd.prog = true := by kernel_rfl
theorem cells5 : Tryd.prog.cellsOf 5 = 1 := by kernel_rfl
theorem cells22 : Tryd.prog.cellsOf 22 = 1 := by kernel_rfl
theorem cells43 : Tryd.prog.cellsOf 68 = 1 := by kernel_rfl
theorem cells47 : Tryd.prog.cellsOf 74 = 8 := by kernel_rfl
theorem cells61 : Tryd.prog.cellsOf 117 = 64 := by kernel_rfl
theorem bytes5 : Tryd.prog.bytesOf 5 = 1 := by kernel_rfl
theorem bytes22 : Tryd.prog.bytesOf 22 = 24 := by kernel_rfl

/-- Numbers that are bytes, as bytes. -/
def toBytes (zs : List Int) : List UInt8 := zs.map fun n => UInt8.ofNat n.toNat
theorem toBytes_get {zs : List Int} (hw : ∀ n ∈ zs, (Lit.int .u8 n).wf = true) (n j : Nat) (hj : j < (toBytes (zs.take n)).length) : zs.getD j 0 = V ((toBytes (zs.take n)).getD j 0) := by
  have hj2 : j < (zs.take n).length := by simpa [toBytes] using hj
  rw [List.length_take] at hj2
  have hj3 : j < zs.length := by omega
  have hb := bounds_u8 (hw zs[j] (List.getElem_mem hj3))
  have e : (toBytes (zs.take n)).getD j 0 = UInt8.ofNat (zs[j]).toNat := by
    simp [toBytes, hj3, show j < n by omega]
  rw [e]
  unfold V
  rw [UInt8.toNat_ofNat']
  simp [hj3]
  omega

section
variable {H : Type} {enc : TypeId × Value → H} {w : World} {base : Nat}

/-- A slice of bytes that came in. -/
theorem open_bytes {fuel : Nat} {v : Value} {x : DataW H × List MemPlace} (h : DataW.trod enc Tryd.prog w base (fun _ => true) true fuel 22 [v] = some x) :
    ∃ (a : Option Addr) (c : Nat) (F : List UInt8), v = .slice a F.length c ∧ F.length ≤ c ∧ bytesIn w a F ∧ ((x.1 = .nil ∧ c = 0) ∨ ∃ elems spare, x.1 = .slice elems spare ∧ elems.length + spare.length = c) := by
  rcases open_ints Tryd.underlying22 Tryd.underlying5 cells5 h with ⟨hcs, hx⟩ | ⟨a, len, cap, zs, hcs, _, hl, hm, hz, hx, hcell, hw⟩
  · obtain rfl : v = .slice none 0 0 := by simpa using hcs
    exact ⟨none, 0, [], rfl, by simp, Or.inl rfl, Or.inl ⟨by rw [hx], rfl⟩⟩
  · obtain rfl : v = .slice (some a) len cap := by simpa using hcs
    simp only [if_true] at hz
    have hlen : (toBytes (zs.take len)).length = len := by simp [toBytes]; omega
    refine ⟨some a, cap, toBytes (zs.take len), by rw [hlen], by omega, ?_, Or.inr ⟨_, _, by rw [hx], by simp [lits]; omega⟩⟩
    by_cases h0 : len = 0
    · left
      subst h0
      simp [toBytes]
    · obtain ⟨b, off, rfl, hc⟩ := ints_at hcell (by omega)
      right
      refine ⟨b, off, rfl, fun j hj => ?_⟩
      rw [hc j (by rw [hlen] at hj; omega), toBytes_get hw len j hj]

theorem weights_mem {e : TypeId} {l : List (DataW H)} {d : DataW H} (hd : d ∈ l) {n : Nat} (hn : n ∈ d.weights Tryd.prog e) : n ∈ DataW.weightsAll Tryd.prog e l := by
  induction l with
  | nil => cases hd
  | cons a r ih =>
    simp only [DataW.weightsAll, List.mem_append]
    rcases List.mem_cons.1 hd with rfl | h
    · exact Or.inl hn
    · exact Or.inr (ih h)

/-- The parts of a list of slices, by their number. -/
def rowsOf (L : Nat → Nat) (Z : Nat → List Int) (len : Nat) : List (List UInt8) := (List.range len).map fun r => toBytes ((Z r).take (L r))

/-- A list of slices of bytes that came in; each takes no more than the reach. -/
theorem open_parts {fuel : Nat} {v : Value} {x : DataW H × List MemPlace} (h : DataW.trod enc Tryd.prog w base (fun _ => true) true fuel 49 [v] = some x) (hr : ∀ n ∈ x.1.weights Tryd.prog 49, n ≤ reachBytes) :
    ∃ (a : Option Addr) (c : Nat) (LS : List (List UInt8)), v = .slice a LS.length c ∧ LS.length ≤ c ∧ c ≤ 140737488355328 ∧ partsIn w a LS := by
  rcases open_int_rows Tryd.underlying49 Tryd.underlying22 Tryd.underlying5 cells22 cells5 h with ⟨hcs, hx⟩ | ⟨a, len, cap, A, L, C, Z, hcs, _, hl, hm, hx, hrow⟩
  · obtain rfl : v = .slice none 0 0 := by simpa using hcs
    exact ⟨none, 0, [], rfl, by simp, by omega, Or.inl rfl⟩
  · obtain rfl : v = .slice (some a) len cap := by simpa using hcs
    rw [hx] at hr
    have hlen : (rowsOf L Z len).length = len := by simp [rowsOf]
    have hcap := hr ((len + (cap - len)) * 24) (by simp [DataW.weights, Tryd.underlying49, bytes22])
    unfold reachBytes at hcap
    have hrowb : ∀ r, r < len → A r ≠ none → C r ≤ reachBytes := by
      intro r hlt hA
      obtain ⟨_, h2, _, h4, _, _, _⟩ := hrow r (by omega)
      refine hr (C r) ?_
      have hmem : intRow (H := H) .u8 (A r) (L r) (Z r) ∈ (List.range len).map fun r => intRow (H := H) .u8 (A r) (L r) (Z r) := List.mem_map.2 ⟨r, List.mem_range.2 hlt, rfl⟩
      have hw : C r ∈ (intRow (H := H) .u8 (A r) (L r) (Z r)).weights Tryd.prog 22 := by
        cases hAr : A r with
        | none => exact absurd hAr hA
        | some ad =>
          have e : ((List.take (L r) (Z r)).length + (List.drop (L r) (Z r)).length) * 1 = C r := by simp; omega
          simp only [intRow, DataW.weights, Tryd.underlying22, bytes5, lits, List.length_map]
          rw [e]
          exact List.mem_cons_self
      have := weights_mem hmem hw
      simp only [DataW.weights, Tryd.underlying49, List.mem_cons, List.mem_append]
      exact Or.inr (Or.inl this)
    refine ⟨some a, cap, rowsOf L Z len, by rw [hlen], by omega, by omega, ?_⟩
    by_cases h0 : len = 0
    · left
      subst h0
      rfl
    · right
      obtain ⟨b, off, spot⟩ := a
      have hspot : spot = none := by simpa [Addr.add] using World.cell?_spot (hrow 0 (by omega)).1
      subst hspot
      refine ⟨b, off, rfl, fun j hj => ?_⟩
      rw [hlen] at hj
      obtain ⟨h1, h2, h3, h4, h5, h6, h7⟩ := hrow j (by omega)
      have eg : (rowsOf L Z len).getD j [] = toBytes ((Z j).take (L j)) := by simp [rowsOf, hj]
      have el : (toBytes ((Z j).take (L j))).length = L j := by simp [toBytes]; omega
      rw [eg, el]
      refine ⟨A j, C j, by rw [← add_plain]; exact h1, h2, ?_, ?_⟩
      · by_cases hA : A j = none
        · rw [h6 hA]; omega
        · have := hrowb j hj hA
          unfold reachBytes at this
          omega
      · by_cases hL0 : L j = 0
        · left
          rw [hL0]
          rfl
        · right
          cases hA : A j with
          | none => have := h6 hA; omega
          | some ad =>
            obtain ⟨_, hc⟩ := h7 ad hA
            obtain ⟨b2, o2, s2⟩ := ad
            have hspot : s2 = none := by simpa [Addr.add] using World.cell?_spot (hc 0 (by omega))
            subst hspot
            refine ⟨b2, o2, rfl, fun i hi => ?_⟩
            rw [← add_plain, hc i (by rw [el] at hi; omega), toBytes_get h5 (L j) i hi]
end

end Go.Proofs.YtaohbpmefcdipaaDoor
