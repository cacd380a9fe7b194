/- Lines that come in, read. -/
import Derived.Test.YtjkhokholcchfaaDoorGq
import Derived.Test.YtjkhokholcchfaaDoorKln
namespace Go.Proofs.YtjkhokholcchfaaDoor
open Go.RowKit
section
open Go.RowKit Go.ChangeShapes Go.WideShapes Go.ChangeAt Go.Deep Go.Joins Go.ChangeMaps Sha
set_option maxRecDepth 100000 in
theorem open_partsW {H : Type} {enc : TypeId × Value → H} {W : World} {fuel : Nat} {cs : List Value} {x : DataW H × List MemPlace} (h : DataW.trod enc Tryd.prog W 0 (fun _ => true) true fuel 54 cs = some x) :
    ∃ (a : Option Addr) (c : Nat) (LS : List (List UInt8)), cs = [.slice a LS.length c] ∧ partsW W a LS := by
  rcases open_int_rows Tryd.underlying54 Tryd.underlying22 Tryd.underlying5 cells22 cells5 h with ⟨hcs, _⟩ | ⟨a, len, cap, A, L, C, Z, hcs, _, hl, _, _, hrow⟩
  · exact ⟨none, 0, [], hcs, Or.inl rfl⟩
  · have hlen : (rowsOf L Z len).length = len := by simp [rowsOf]
    refine ⟨some a, cap, rowsOf L Z len, by rw [hlen, hcs], ?_⟩
    by_cases h0 : len = 0
    · left
      subst h0
      rfl
    · right
      obtain ⟨b, off, spot⟩ := a
      have hspot : spot = none := by simpa [Addr.add] using World.cell?_spot (hrow 0 (by omega)).1
      subst hspot
      refine ⟨b, off, rfl, fun j hj => ?_⟩
      rw [hlen] at hj
      obtain ⟨h1, h2, h3, h4, h5, h6, h7⟩ := hrow j (by omega)
      have eg : (rowsOf L Z len).getD j [] = toBytes ((Z j).take (L j)) := by simp [rowsOf, hj]
      have el : (toBytes ((Z j).take (L j))).length = L j := by simp [toBytes]; omega
      rw [eg, el]
      refine ⟨A j, C j, by rw [← add_plain]; exact h1, h2, by unfold maxLen at h3; omega, h6, ?_⟩
      by_cases hL0 : L j = 0
      · left
        rw [hL0]
        rfl
      · right
        cases hA : A j with
        | none => have := h6 hA; omega
        | some ad =>
          obtain ⟨_, hc⟩ := h7 ad hA
          obtain ⟨b2, o2, s2⟩ := ad
          have hspot : s2 = none := by simpa [Addr.add] using World.cell?_spot (hc 0 (by omega))
          subst hspot
          refine ⟨b2, o2, rfl, fun i hi => ?_⟩
          rw [← add_plain, hc i (by rw [el] at hi; omega), toBytes_get h5 (L j) i hi]
theorem split6 (l : List Value) (h : l.length = 6) : l = (l.drop 0).take 1 ++ ((l.drop 1).take 1 ++ ((l.drop 2).take 1 ++ ((l.drop 3).take 1 ++ ((l.drop 4).take 1 ++ (l.drop 5).take 1)))) := by
  match l, h with
  | [_, _, _, _, _, _], _ => rfl
set_option maxRecDepth 100000 in
theorem open_line {H : Type} {enc : TypeId × Value → H} {W : World} {b0 : Nat} {r : Reach} {v : Value} {d : DataW H} {ps : List MemPlace} (hv : Value.okWide Tryd.prog W r b0 56 v) (hd : DataW.Trod enc Tryd.prog W 0 (fun _ => true) true 56 v d ps) :
    ∃ L : Ln, v = .agg L.cells.toArray ∧ L.ok W := by
  simp only [Value.okWide, Tryd.underlying56] at hv
  obtain ⟨cs, rfl, -, -⟩ := hv
  obtain ⟨fuel, hf⟩ := hd
  have hf : DataW.trod enc Tryd.prog W 0 (fun _ => true) true fuel 56 cs.toList = some (d, ps) := by simpa [Value.cells] using hf
  obtain ⟨xs, m, rfl, hx, hl, hxl, ha⟩ := DataW.trod_struct Tryd.underlying56 hf
  have hxl : xs.length = 6 := hxl
  have h6 : Tryd.prog.cellsOf 56 = 6 := by kernel_rfl
  have h54 : Tryd.prog.cellsOf 54 = 1 := by kernel_rfl
  have h3 : Tryd.prog.cellsOf 3 = 1 := by kernel_rfl
  have h5 : Tryd.prog.cellsOf 5 = 1 := by kernel_rfl
  have h9 : Tryd.prog.cellsOf 9 = 1 := by kernel_rfl
  have h22 : Tryd.prog.cellsOf 22 = 1 := by kernel_rfl
  rw [h6] at hl
  have f0 := ha 0 _ rfl
  have f1 := ha 1 _ rfl
  have f2 := ha 2 _ rfl
  have f3 := ha 3 _ rfl
  have f4 := ha 4 _ rfl
  have f5 := ha 5 _ rfl
  rw [List.getElem?_eq_getElem (by omega)] at f0 f1 f2 f3 f4 f5
  change DataW.trod _ _ _ _ _ _ _ 22 ((cs.toList.drop 0).take (Tryd.prog.cellsOf 22)) = _ at f0
  change DataW.trod _ _ _ _ _ _ _ 3 ((cs.toList.drop 1).take (Tryd.prog.cellsOf 3)) = _ at f1
  change DataW.trod _ _ _ _ _ _ _ 22 ((cs.toList.drop 2).take (Tryd.prog.cellsOf 22)) = _ at f2
  change DataW.trod _ _ _ _ _ _ _ 54 ((cs.toList.drop 3).take (Tryd.prog.cellsOf 54)) = _ at f3
  change DataW.trod _ _ _ _ _ _ _ 5 ((cs.toList.drop 4).take (Tryd.prog.cellsOf 5)) = _ at f4
  change DataW.trod _ _ _ _ _ _ _ 9 ((cs.toList.drop 5).take (Tryd.prog.cellsOf 9)) = _ at f5
  rw [h22] at f0 f2
  rw [h3] at f1
  rw [h54] at f3
  rw [h5] at f4
  rw [h9] at f5
  obtain ⟨a0, c0, F0, e0, hF0, hc0, hz0, hin0⟩ := open_bytesW f0
  obtain ⟨st, e1, -, -⟩ := DataW.trod_int Tryd.underlying3 f1
  obtain ⟨a2, c2, F2, e2, hF2, hc2, hz2, hin2⟩ := open_bytesW f2
  obtain ⟨a3, c3, LS, e3, hp⟩ := open_partsW f3
  obtain ⟨kd, e4, -, w4⟩ := DataW.trod_int Tryd.underlying5 f4
  obtain ⟨nm, e5⟩ := open_strW f5
  refine ⟨⟨a0, c0, F0, st, a2, c2, F2, a3, c3, LS, UInt8.ofNat kd.toNat, nm⟩, ?_, ⟨⟨⟨hF0, hc0, hin0⟩, hz0⟩, ⟨⟨hF2, hc2, hin2⟩, hz2⟩, hp⟩⟩
  have key : cs.toList = Ln.cells ⟨a0, c0, F0, st, a2, c2, F2, a3, c3, LS, UInt8.ofNat kd.toNat, nm⟩ := by
    rw [split6 cs.toList hl, e0, e1, e2, e3, e4, e5]
    unfold Ln.cells
    dsimp only
    rw [← byte_ofW w4]
    rfl
  rw [← key, Array.toArray_toList]
end
end Go.Proofs.YtjkhokholcchfaaDoor
