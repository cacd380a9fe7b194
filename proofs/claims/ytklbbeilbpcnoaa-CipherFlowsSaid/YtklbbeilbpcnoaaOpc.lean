/- Arguments, read: slices and arrays of bytes. -/
import Derived.Test.YtklbbeilbpcnoaaBlk
import Derived.Test.YtklbbeilbpcnoaaRows
import Derived.Carry
import Derived.SizedLaws
import Derived.ProofKit
import Derived.OpenShut
import Derived.ChangeMaps5
namespace Go.Proofs.Ytklbbeilbpcnoaa
open Go.RowKit Sha
theorem own : ownKnob Try.prog.godebug = none := by kernel_rfl
theorem laidOut : laidOutB Try.prog = true := by kernel_rfl
theorem cells5 : Try.prog.cellsOf 5 = 1 := by kernel_rfl
section
open Go.RowKit Go.ChangeShapes Go.WideShapes Go.ChangeAt Go.Deep Go.Joins Go.ChangeMaps Sha
/-- Numbers that are bytes, as bytes. -/
def toBytes (zs : List Int) : List UInt8 := zs.map fun n => UInt8.ofNat n.toNat
theorem toBytes_get {zs : List Int} (hw : ∀ n ∈ zs, (Lit.int .u8 n).wf = true) (n j : Nat) (hj : j < (toBytes (zs.take n)).length) : zs.getD j 0 = V ((toBytes (zs.take n)).getD j 0) := by
  have hj2 : j < (zs.take n).length := by simpa [toBytes] using hj
  rw [List.length_take] at hj2
  have hj3 : j < zs.length := by omega
  have hb := bounds_u8 (hw zs[j] (List.getElem_mem hj3))
  have e : (toBytes (zs.take n)).getD j 0 = UInt8.ofNat (zs[j]).toNat := by
    simp [toBytes, hj3, show j < n by omega]
  rw [e]
  unfold V
  rw [UInt8.toNat_ofNat']
  simp [hj3]
  omega

/-- A row of cells that are bytes, as bytes. -/
theorem cells_bytes : ∀ (cs : List Value), (∀ i, i < cs.length → ∃ b : UInt8, cs[i]? = some (.int .u8 (V b))) → ∃ l : List UInt8, cs = byteCells l
  | [], _ => ⟨[], rfl⟩
  | c :: cs, h => by
    obtain ⟨l, hl⟩ := cells_bytes cs (fun i hi => by simpa using h (i + 1) (by simpa using hi))
    obtain ⟨b, hb⟩ := h 0 (by simp)
    have hb : c = .int .u8 (V b) := by simpa using hb
    exact ⟨b :: l, by rw [hb, hl]; rfl⟩
theorem byte_of {n : Int} (hw : (Lit.int .u8 n).wf = true) : n = V (UInt8.ofNat n.toNat) := by
  have hb := bounds_u8 hw
  unfold V
  rw [UInt8.toNat_ofNat']
  omega
theorem open_cells28 {H : Type} {enc : TypeId × Value → H} {W : World} {base : Nat} {sp : Nat → Bool} {held : Bool} {fuel : Nat} {cs : List Value} {x : DataW H × List MemPlace} (hf : DataW.trod enc Try.prog W base sp held fuel 22 cs = some x) :
    ∃ F : List UInt8, F.length = 32 ∧ cs = byteCells F := by
  obtain ⟨xs, m, rfl, hx, hl, hxl, ha⟩ := DataW.trod_array Try.underlying22 hf
  have h28 : Try.prog.cellsOf 22 = 32 := by kernel_rfl
  have h5 : Try.prog.cellsOf 5 = 1 := by kernel_rfl
  rw [h28] at hl
  obtain ⟨F, hF⟩ := cells_bytes cs (fun i hi => by
    have h1 := ha i (by omega)
    rw [h5, Nat.mul_one, List.getElem?_eq_getElem (by omega)] at h1
    obtain ⟨n, hn, -, hw⟩ := DataW.trod_int Try.underlying5 h1
    refine ⟨UInt8.ofNat n.toNat, ?_⟩
    have h2 : cs[i]? = some (.int .u8 n) := by
      have := congrArg (·[0]?) hn
      simpa [List.getElem?_take, List.getElem?_drop] using this
    rw [h2, ← byte_of hw])
  exact ⟨F, by have := congrArg List.length hF; rw [byteCells_length] at this; omega, hF⟩
theorem open_cells16 {H : Type} {enc : TypeId × Value → H} {W : World} {base : Nat} {sp : Nat → Bool} {held : Bool} {fuel : Nat} {cs : List Value} {x : DataW H × List MemPlace} (hf : DataW.trod enc Try.prog W base sp held fuel 23 cs = some x) :
    ∃ F : List UInt8, F.length = 16 ∧ cs = byteCells F := by
  obtain ⟨xs, m, rfl, hx, hl, hxl, ha⟩ := DataW.trod_array Try.underlying23 hf
  have h16 : Try.prog.cellsOf 23 = 16 := by kernel_rfl
  have h5 : Try.prog.cellsOf 5 = 1 := by kernel_rfl
  rw [h16] at hl
  obtain ⟨F, hF⟩ := cells_bytes cs (fun i hi => by
    have h1 := ha i (by omega)
    rw [h5, Nat.mul_one, List.getElem?_eq_getElem (by omega)] at h1
    obtain ⟨n, hn, -, hw⟩ := DataW.trod_int Try.underlying5 h1
    refine ⟨UInt8.ofNat n.toNat, ?_⟩
    have h2 : cs[i]? = some (.int .u8 n) := by
      have := congrArg (·[0]?) hn
      simpa [List.getElem?_take, List.getElem?_drop] using this
    rw [h2, ← byte_of hw])
  exact ⟨F, by have := congrArg List.length hF; rw [byteCells_length] at this; omega, hF⟩
theorem open_bytes_max {H : Type} {enc : TypeId × Value → H} {W : World} {fuel : Nat} {cs : List Value} {x : DataW H × List MemPlace} (h : DataW.trod enc Try.prog W 0 (fun _ => true) true fuel 28 cs = some x) :
    ∃ (a : Option Addr) (c : Nat) (F : List UInt8), cs = [.slice a F.length c] ∧ F.length ≤ c ∧ c ≤ 9223372036854775807 ∧ bytesIn W a F := by
  rcases open_ints Try.underlying28 Try.underlying5 cells5 h with ⟨hcs, _⟩ | ⟨a, len, cap, zs, rfl, _, hl, hm, hz, hx, hcell, hw⟩
  · exact ⟨none, 0, [], hcs, Nat.le_refl _, by decide, Or.inl rfl⟩
  · simp only [if_true] at hz
    have hlen : (toBytes (zs.take len)).length = len := by simp [toBytes]; omega
    refine ⟨some a, cap, toBytes (zs.take len), by rw [hlen], by omega, by unfold maxLen at hm; omega, ?_⟩
    by_cases h0 : len = 0
    · left
      subst h0
      simp [toBytes]
    · obtain ⟨b, off, rfl, hc⟩ := ints_at hcell (by omega)
      right
      refine ⟨b, off, rfl, fun j hj => ?_⟩
      rw [hc j (by rw [hlen] at hj; omega), toBytes_get hw len j hj]
theorem open_arr16 {H : Type} {enc : TypeId × Value → H} {W : World} {base b0 : Nat} {sp : Nat → Bool} {held : Bool} {r : Reach} {v : Value} {d : DataW H} {ps : List MemPlace} (hv : Value.okWide Try.prog W r b0 23 v) (hd : DataW.Trod enc Try.prog W base sp held 23 v d ps) :
    ∃ F : List UInt8, F.length = 16 ∧ v = .agg (byteCells F).toArray := by
  simp only [Value.okWide, Try.underlying23] at hv
  obtain ⟨cs, rfl, -, -⟩ := hv
  obtain ⟨fuel, hf⟩ := hd
  have hf : DataW.trod enc Try.prog W base sp held fuel 23 cs.toList = some (d, ps) := by simpa [Value.cells] using hf
  obtain ⟨F, hF, e⟩ := open_cells16 hf
  exact ⟨F, hF, by rw [← e, Array.toArray_toList]⟩
end
end Go.Proofs.Ytklbbeilbpcnoaa
