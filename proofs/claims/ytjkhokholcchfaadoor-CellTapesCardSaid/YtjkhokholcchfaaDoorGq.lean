/- Arguments, read: a slice of bytes, a list of such slices; the tables; the frame of a law's row and card. -/
import Derived.Test.YtjkhokholcchfaaDoorGd
import Derived.Test.YtjkhokholcchfaaDoorCards
import Derived.Test.YtjkhokholcchfaaDoorTie
import Derived.ProofKit
import Derived.OpenShut
import Derived.SizedLaws
import Derived.Deep.Matrix
import Derived.Deep.DeepHandedRow
import Derived.Lib.LaidTab
import Derived.Carry
import Derived.Test.YtjkhokholcchfaaDoorGp
import Derived.ChangeMaps5
section
namespace Go.Proofs.YtjkhokholcchfaaDoor
open Go.RowKit Go.ChangeShapes Go.WideShapes Go.ChangeAt Go.Deep Sha

set_option maxRecDepth 100000 in
theorem own : ownKnob Tryd.prog.godebug = none := by kernel_rfl
set_option maxRecDepth 100000 in
theorem laidOut : laidOutB Tryd.prog = true := by kernel_rfl
set_option maxRecDepth 100000 in
theorem cells5 : Tryd.prog.cellsOf 5 = 1 := by kernel_rfl
set_option maxRecDepth 100000 in
theorem cells22 : Tryd.prog.cellsOf 22 = 1 := by kernel_rfl
set_option maxRecDepth 100000 in
theorem cells43 : Tryd.prog.cellsOf 84 = 1 := by kernel_rfl
set_option maxRecDepth 100000 in
theorem cells47 : Tryd.prog.cellsOf 129 = 8 := by kernel_rfl
set_option maxRecDepth 100000 in
theorem cells61 : Tryd.prog.cellsOf 168 = 64 := by kernel_rfl
set_option maxRecDepth 100000 in
theorem bytes5 : Tryd.prog.bytesOf 5 = 1 := by kernel_rfl
set_option maxRecDepth 100000 in
theorem bytes22 : Tryd.prog.bytesOf 22 = 24 := by kernel_rfl

/-- Numbers that are bytes, as bytes. -/
def toBytes (zs : List Int) : List UInt8 := zs.map fun n => UInt8.ofNat n.toNat
set_option maxRecDepth 100000 in
theorem toBytes_get {zs : List Int} (hw : ∀ n ∈ zs, (Lit.int .u8 n).wf = true) (n j : Nat) (hj : j < (toBytes (zs.take n)).length) : zs.getD j 0 = V ((toBytes (zs.take n)).getD j 0) := by
  have hj2 : j < (zs.take n).length := by simpa [toBytes] using hj
  rw [List.length_take] at hj2
  have hj3 : j < zs.length := by omega
  have hb := bounds_u8 (hw zs[j] (List.getElem_mem hj3))
  have e : (toBytes (zs.take n)).getD j 0 = UInt8.ofNat (zs[j]).toNat := by
    simp [toBytes, hj3, show j < n by omega]
  rw [e]
  unfold V
  rw [UInt8.toNat_ofNat']
  simp [hj3]
  omega

section
variable {H : Type} {enc : TypeId × Value → H} {w : World} {base : Nat}

set_option maxRecDepth 100000 in
/-- A slice of bytes that came in. -/
theorem open_bytes {fuel : Nat} {v : Value} {x : DataW H × List MemPlace} (h : DataW.trod enc Tryd.prog w base (fun _ => true) true fuel 22 [v] = some x) :
    ∃ (a : Option Addr) (c : Nat) (F : List UInt8), v = .slice a F.length c ∧ F.length ≤ c ∧ bytesIn w a F ∧ ((x.1 = .nil ∧ c = 0) ∨ ∃ elems spare, x.1 = .slice elems spare ∧ elems.length + spare.length = c) := by
  rcases open_ints Tryd.underlying22 Tryd.underlying5 cells5 h with ⟨hcs, hx⟩ | ⟨a, len, cap, zs, hcs, _, hl, hm, hz, hx, hcell, hw⟩
  · obtain rfl : v = .slice none 0 0 := by simpa using hcs
    exact ⟨none, 0, [], rfl, by simp, Or.inl rfl, Or.inl ⟨by rw [hx], rfl⟩⟩
  · obtain rfl : v = .slice (some a) len cap := by simpa using hcs
    simp only [if_true] at hz
    have hlen : (toBytes (zs.take len)).length = len := by simp [toBytes]; omega
    refine ⟨some a, cap, toBytes (zs.take len), by rw [hlen], by omega, ?_, Or.inr ⟨_, _, by rw [hx], by simp [lits]; omega⟩⟩
    by_cases h0 : len = 0
    · left
      subst h0
      simp [toBytes]
    · obtain ⟨b, off, rfl, hc⟩ := ints_at hcell (by omega)
      right
      refine ⟨b, off, rfl, fun j hj => ?_⟩
      rw [hc j (by rw [hlen] at hj; omega), toBytes_get hw len j hj]

set_option maxRecDepth 100000 in
theorem weights_mem {e : TypeId} {l : List (DataW H)} {d : DataW H} (hd : d ∈ l) {n : Nat} (hn : n ∈ d.weights Tryd.prog e) : n ∈ DataW.weightsAll Tryd.prog e l := by
  induction l with
  | nil => cases hd
  | cons a r ih =>
    simp only [DataW.weightsAll, List.mem_append]
    rcases List.mem_cons.1 hd with rfl | h
    · exact Or.inl hn
    · exact Or.inr (ih h)

/-- The parts of a list of slices, by their number. -/
def rowsOf (L : Nat → Nat) (Z : Nat → List Int) (len : Nat) : List (List UInt8) := (List.range len).map fun r => toBytes ((Z r).take (L r))

set_option maxRecDepth 100000 in
/-- A list of slices of bytes that came in; each takes no more than the reach. -/
theorem open_parts {fuel : Nat} {v : Value} {x : DataW H × List MemPlace} (h : DataW.trod enc Tryd.prog w base (fun _ => true) true fuel 54 [v] = some x) (hr : ∀ n ∈ x.1.weights Tryd.prog 54, n ≤ reachBytes) :
    ∃ (a : Option Addr) (c : Nat) (LS : List (List UInt8)), v = .slice a LS.length c ∧ LS.length ≤ c ∧ c ≤ 140737488355328 ∧ partsIn w a LS := by
  rcases open_int_rows Tryd.underlying54 Tryd.underlying22 Tryd.underlying5 cells22 cells5 h with ⟨hcs, hx⟩ | ⟨a, len, cap, A, L, C, Z, hcs, _, hl, hm, hx, hrow⟩
  · obtain rfl : v = .slice none 0 0 := by simpa using hcs
    exact ⟨none, 0, [], rfl, by simp, by omega, Or.inl rfl⟩
  · obtain rfl : v = .slice (some a) len cap := by simpa using hcs
    rw [hx] at hr
    have hlen : (rowsOf L Z len).length = len := by simp [rowsOf]
    have hcap := hr ((len + (cap - len)) * 24) (by simp [DataW.weights, Tryd.underlying54, bytes22])
    unfold reachBytes at hcap
    have hrowb : ∀ r, r < len → A r ≠ none → C r ≤ reachBytes := by
      intro r hlt hA
      obtain ⟨_, h2, _, h4, _, _, _⟩ := hrow r (by omega)
      refine hr (C r) ?_
      have hmem : intRow (H := H) .u8 (A r) (L r) (Z r) ∈ (List.range len).map fun r => intRow (H := H) .u8 (A r) (L r) (Z r) := List.mem_map.2 ⟨r, List.mem_range.2 hlt, rfl⟩
      have hw : C r ∈ (intRow (H := H) .u8 (A r) (L r) (Z r)).weights Tryd.prog 22 := by
        cases hAr : A r with
        | none => exact absurd hAr hA
        | some ad =>
          have e : ((List.take (L r) (Z r)).length + (List.drop (L r) (Z r)).length) * 1 = C r := by simp; omega
          simp only [intRow, DataW.weights, Tryd.underlying22, bytes5, lits, List.length_map]
          rw [e]
          exact List.mem_cons_self
      have := weights_mem hmem hw
      simp only [DataW.weights, Tryd.underlying54, List.mem_cons, List.mem_append]
      exact Or.inr (Or.inl this)
    refine ⟨some a, cap, rowsOf L Z len, by rw [hlen], by omega, by omega, ?_⟩
    by_cases h0 : len = 0
    · left
      subst h0
      rfl
    · right
      obtain ⟨b, off, spot⟩ := a
      have hspot : spot = none := by simpa [Addr.add] using World.cell?_spot (hrow 0 (by omega)).1
      subst hspot
      refine ⟨b, off, rfl, fun j hj => ?_⟩
      rw [hlen] at hj
      obtain ⟨h1, h2, h3, h4, h5, h6, h7⟩ := hrow j (by omega)
      have eg : (rowsOf L Z len).getD j [] = toBytes ((Z j).take (L j)) := by simp [rowsOf, hj]
      have el : (toBytes ((Z j).take (L j))).length = L j := by simp [toBytes]; omega
      rw [eg, el]
      refine ⟨A j, C j, by rw [← add_plain]; exact h1, h2, ?_, ?_⟩
      · by_cases hA : A j = none
        · rw [h6 hA]; omega
        · have := hrowb j hj hA
          unfold reachBytes at this
          omega
      · by_cases hL0 : L j = 0
        · left
          rw [hL0]
          rfl
        · right
          cases hA : A j with
          | none => have := h6 hA; omega
          | some ad =>
            obtain ⟨_, hc⟩ := h7 ad hA
            obtain ⟨b2, o2, s2⟩ := ad
            have hspot : s2 = none := by simpa [Addr.add] using World.cell?_spot (hc 0 (by omega))
            subst hspot
            refine ⟨b2, o2, rfl, fun i hi => ?_⟩
            rw [← add_plain, hc i (by rw [el] at hi; omega), toBytes_get h5 (L j) i hi]
end

end Go.Proofs.YtjkhokholcchfaaDoor
end
section
/- The two package-level tables: what the row lists of them, as the walks ask it; a world in which they are laid. -/
namespace Go.Proofs.YtjkhokholcchfaaDoor
open Go.RowKit Go.ChangeShapes Go.WideShapes Go.ChangeAt Go.Deep Sha

/-- The numbers of the tables. -/
def startNums : List Int := init.list.map U
def roundNums : List Int := consts.map U
set_option maxRecDepth 100000 in
theorem gStart : Tryd.prog.globalNamed "hypogeum/sum.start" = some 0 := by kernel_rfl
set_option maxRecDepth 100000 in
theorem gStartType : (Tryd.prog.globals[0]?).map (·.type) = some 129 := by kernel_rfl
set_option maxRecDepth 100000 in
theorem gRounds : Tryd.prog.globalNamed "hypogeum/sum.rounds" = some 1 := by kernel_rfl
set_option maxRecDepth 100000 in
theorem gRoundsType : (Tryd.prog.globals[1]?).map (·.type) = some 168 := by kernel_rfl
set_option maxRecDepth 100000 in
theorem laidStart {H : Type} : Rows.laid_hypogeum_sum_start (H := H) = Lib.tabData .u32 startNums := rfl
set_option maxRecDepth 100000 in
theorem laidRounds {H : Type} : Rows.laid_hypogeum_sum_rounds (H := H) = Lib.tabData .u32 roundNums := rfl

set_option maxRecDepth 100000 in
theorem tables_of_laid {W : World} (h : laidMet Tryd.prog [("hypogeum/sum.start", Rows.laid_hypogeum_sum_start), ("hypogeum/sum.rounds", Rows.laid_hypogeum_sum_rounds)] W) : tables W := by
  rw [laidStart, laidRounds] at h
  have h1 : Lib.TabIs Tryd.prog W "hypogeum/sum.start" .u32 startNums := Lib.tabIs_of_head gStart gStartType Tryd.underlying129 Tryd.underlying84 cells43 cells47 h
  have h2 : Lib.TabIs Tryd.prog W "hypogeum/sum.rounds" .u32 roundNums := by
    obtain ⟨ps, ⟨_, _, _, _, _, _, _, _, _, _, hrest, _⟩, _⟩ := h
    obtain ⟨g', t', cs, fuel, p, q, hg', ht', hvar, hd, _, _⟩ := hrest
    obtain rfl := Option.some.inj (gRounds.symm.trans hg')
    obtain rfl := Option.some.inj (gRoundsType.symm.trans ht')
    unfold Lib.TabIs
    rw [hvar, ← Lib.cells_of_tab Tryd.underlying168 Tryd.underlying84 cells43 cells61 hd]
  have k1 : ∀ j, j < 64 → W.cell? ⟨1, j, none⟩ = some (.int .u32 (U (consts.getD j 0))) := by
    intro j hj
    have hl : j < consts.length := hj
    rw [h2.cell gRounds j (by simpa [roundNums] using hl)]
    simp [roundNums, hl]
  have k2 : ∀ j x, init.list[j]? = some x → W.cell? ⟨0, j, none⟩ = some (.int .u32 (U x)) := by
    intro j x hx
    have hl := (List.getElem?_eq_some_iff.1 hx).1
    rw [h1.cell gStart j (by simpa [startNums] using hl)]
    simp [startNums, hx]
  exact ⟨k1, k2, block_lt_of_cell (k1 0 (by omega)), block_lt_of_cell (k2 0 _ rfl)⟩

/-- A block laid with numbers. -/
def relay (zs : List Int) : Obj → Obj
  | .cells _ t frozen => .cells (zs.map fun z => Value.int .u32 z).toArray t frozen
  | o => o
/-- A world for a witness: the settled one, the two tables as their initialisers lay them. -/
noncomputable def laidWorld (os : Os) : World :=
  let w := World.holding Tryd.prog os ⟨#[], #[], []⟩
  { w with heap := (w.heap.modify 0 (relay startNums)).modify 1 (relay roundNums) }

end Go.Proofs.YtjkhokholcchfaaDoor
end
section
/- Letters that come in, read. -/
namespace Go.Proofs.YtjkhokholcchfaaDoor
open Go.RowKit
section
open Go.RowKit Go.ChangeShapes Go.WideShapes Go.ChangeAt Go.Deep Go.Joins Go.ChangeMaps Sha
/-- A row of cells that are bytes, as bytes. -/
theorem cells_bytesW : ∀ (cs : List Value), (∀ i, i < cs.length → ∃ b : UInt8, cs[i]? = some (.int .u8 (V b))) → ∃ l : List UInt8, cs = byteCells l
  | [], _ => ⟨[], rfl⟩
  | c :: cs, h => by
    obtain ⟨l, hl⟩ := cells_bytesW cs (fun i hi => by simpa using h (i + 1) (by simpa using hi))
    obtain ⟨b, hb⟩ := h 0 (by simp)
    have hb : c = .int .u8 (V b) := by simpa using hb
    exact ⟨b :: l, by rw [hb, hl]; rfl⟩
theorem byte_ofW {n : Int} (hw : (Lit.int .u8 n).wf = true) : n = V (UInt8.ofNat n.toNat) := by
  have hb := bounds_u8 hw
  unfold V
  rw [UInt8.toNat_ofNat']
  omega
set_option maxRecDepth 100000 in
theorem open_cellsA {n : Nat} {t : TypeId} (ht : Tryd.prog.underlying t = some (.array n 5)) (hn : Tryd.prog.cellsOf t = n) {H : Type} {enc : TypeId × Value → H} {W : World} {base : Nat} {sp : Nat → Bool} {held : Bool} {fuel : Nat} {cs : List Value} {x : DataW H × List MemPlace} (hf : DataW.trod enc Tryd.prog W base sp held fuel t cs = some x) :
    ∃ F : List UInt8, F.length = n ∧ cs = byteCells F := by
  obtain ⟨xs, m, rfl, hx, hl, hxl, ha⟩ := DataW.trod_array ht hf
  have h5 : Tryd.prog.cellsOf 5 = 1 := by kernel_rfl
  rw [hn] at hl
  obtain ⟨F, hF⟩ := cells_bytesW cs (fun i hi => by
    have h1 := ha i (by omega)
    rw [h5, Nat.mul_one, List.getElem?_eq_getElem (by omega)] at h1
    obtain ⟨n, hn, -, hw⟩ := DataW.trod_int Tryd.underlying5 h1
    refine ⟨UInt8.ofNat n.toNat, ?_⟩
    have h2 : cs[i]? = some (.int .u8 n) := by
      have := congrArg (·[0]?) hn
      simpa [List.getElem?_take, List.getElem?_drop] using this
    rw [h2, ← byte_ofW hw])
  exact ⟨F, by have := congrArg List.length hF; rw [byteCells_length] at this; omega, hF⟩
set_option maxRecDepth 100000 in
theorem open_bytesW {H : Type} {enc : TypeId × Value → H} {W : World} {fuel : Nat} {cs : List Value} {x : DataW H × List MemPlace} (h : DataW.trod enc Tryd.prog W 0 (fun _ => true) true fuel 22 cs = some x) :
    ∃ (a : Option Addr) (c : Nat) (F : List UInt8), cs = [.slice a F.length c] ∧ F.length ≤ c ∧ c ≤ 9223372036854775807 ∧ (a = none → c = 0) ∧ bytesIn W a F := by
  rcases open_ints Tryd.underlying22 Tryd.underlying5 cells5 h with ⟨hcs, _⟩ | ⟨a, len, cap, zs, rfl, _, hl, hm, hz, hx, hcell, hw⟩
  · exact ⟨none, 0, [], hcs, Nat.le_refl _, by decide, fun _ => rfl, Or.inl rfl⟩
  · simp only [if_true] at hz
    have hlen : (toBytes (zs.take len)).length = len := by simp [toBytes]; omega
    refine ⟨some a, cap, toBytes (zs.take len), by rw [hlen], by omega, by unfold maxLen at hm; omega, (fun h => by cases h), ?_⟩
    by_cases h0 : len = 0
    · left
      subst h0
      simp [toBytes]
    · obtain ⟨b, off, rfl, hc⟩ := ints_at hcell (by omega)
      right
      refine ⟨b, off, rfl, fun j hj => ?_⟩
      rw [hc j (by rw [hlen] at hj; omega), toBytes_get hw len j hj]
theorem open_strW {H : Type} {enc : TypeId × Value → H} {W : World} {base : Nat} {sp : Nat → Bool} {held : Bool} {fuel : Nat} {cs : List Value} {x : DataW H × List MemPlace} (h : DataW.trod enc Tryd.prog W base sp held fuel 9 cs = some x) :
    ∃ F : List UInt8, cs = [.string (str F)] := by
  obtain ⟨s, hs, -, -⟩ := DataW.trod_string Tryd.underlying9 h
  exact ⟨s.data.toList, by rw [hs]; congr 2⟩
set_option maxRecDepth 100000 in
theorem open_keysW {H : Type} {enc : TypeId × Value → H} {W : World} {base : Nat} {sp : Nat → Bool} {held : Bool} {fuel : Nat} {cs : List Value} {x : DataW H × List MemPlace} (hf : DataW.trod enc Tryd.prog W base sp held fuel 36 cs = some x) :
    ∃ H M : List UInt8, H.length = 32 ∧ M.length = 32 ∧ cs = keyCells H M := by
  obtain ⟨xs, m, rfl, hx, hl, hxl, ha⟩ := DataW.trod_struct Tryd.underlying36 hf
  have hxl : xs.length = 2 := hxl
  have h64 : Tryd.prog.cellsOf 36 = 64 := by kernel_rfl
  have h32 : Tryd.prog.cellsOf 34 = 32 := by kernel_rfl
  rw [h64] at hl
  have f0 := ha 0 _ rfl
  have f1 := ha 1 _ rfl
  rw [List.getElem?_eq_getElem (by omega)] at f0 f1
  change DataW.trod _ _ _ _ _ _ _ 34 ((cs.drop 0).take (Tryd.prog.cellsOf 34)) = _ at f0
  change DataW.trod _ _ _ _ _ _ _ 34 ((cs.drop 32).take (Tryd.prog.cellsOf 34)) = _ at f1
  rw [h32, List.drop_zero] at f0
  rw [h32, List.take_of_length_le (by rw [List.length_drop]; omega)] at f1
  obtain ⟨A, hA, e0⟩ := open_cellsA Tryd.underlying34 h32 f0
  obtain ⟨B, hB, e1⟩ := open_cellsA Tryd.underlying34 h32 f1
  exact ⟨A, B, hA, hB, by unfold keyCells; rw [← e0, ← e1, List.take_append_drop]⟩
set_option maxRecDepth 100000 in
theorem open_letter {H : Type} {enc : TypeId × Value → H} {W : World} {b0 : Nat} {r : Reach} {v : Value} {d : DataW H} {ps : List MemPlace} (hv : Value.okWide Tryd.prog W r b0 38 v) (hd : DataW.Trod enc Tryd.prog W 0 (fun _ => true) true 38 v d ps) :
    ∃ (K M : List UInt8) (kd : UInt8) (nm N : List UInt8) (a : Option Addr) (c : Nat) (F : List UInt8), K.length = 32 ∧ M.length = 32 ∧ N.length = 16 ∧ v = .agg (letterCells K M kd nm N (.slice a F.length c)).toArray ∧ F.length ≤ c ∧ c ≤ 9223372036854775807 ∧ (a = none → c = 0) ∧ bytesIn W a F := by
  simp only [Value.okWide, Tryd.underlying38] at hv
  obtain ⟨cs, rfl, -, -⟩ := hv
  obtain ⟨fuel, hf⟩ := hd
  have hf : DataW.trod enc Tryd.prog W 0 (fun _ => true) true fuel 38 cs.toList = some (d, ps) := by simpa [Value.cells] using hf
  obtain ⟨xs, m, rfl, hx, hl, hxl, ha⟩ := DataW.trod_struct Tryd.underlying38 hf
  have hxl : xs.length = 5 := hxl
  have h83 : Tryd.prog.cellsOf 38 = 83 := by kernel_rfl
  have h64 : Tryd.prog.cellsOf 36 = 64 := by kernel_rfl
  have h16 : Tryd.prog.cellsOf 28 = 16 := by kernel_rfl
  have h5 : Tryd.prog.cellsOf 5 = 1 := by kernel_rfl
  have h9 : Tryd.prog.cellsOf 9 = 1 := by kernel_rfl
  have h22 : Tryd.prog.cellsOf 22 = 1 := by kernel_rfl
  rw [h83] at hl
  have f0 := ha 0 _ rfl
  have f1 := ha 1 _ rfl
  have f2 := ha 2 _ rfl
  have f3 := ha 3 _ rfl
  have f4 := ha 4 _ rfl
  rw [List.getElem?_eq_getElem (by omega)] at f0 f1 f2 f3 f4
  change DataW.trod _ _ _ _ _ _ _ 36 ((cs.toList.drop 0).take (Tryd.prog.cellsOf 36)) = _ at f0
  change DataW.trod _ _ _ _ _ _ _ 5 ((cs.toList.drop 64).take (Tryd.prog.cellsOf 5)) = _ at f1
  change DataW.trod _ _ _ _ _ _ _ 9 ((cs.toList.drop 65).take (Tryd.prog.cellsOf 9)) = _ at f2
  change DataW.trod _ _ _ _ _ _ _ 28 ((cs.toList.drop 66).take (Tryd.prog.cellsOf 28)) = _ at f3
  change DataW.trod _ _ _ _ _ _ _ 22 ((cs.toList.drop 82).take (Tryd.prog.cellsOf 22)) = _ at f4
  rw [h64, List.drop_zero] at f0
  rw [h5] at f1
  rw [h9] at f2
  rw [h16] at f3
  rw [h22] at f4
  obtain ⟨K, M, hK, hM, e0⟩ := open_keysW f0
  obtain ⟨kd, e1, -, w1⟩ := DataW.trod_int Tryd.underlying5 f1
  obtain ⟨nm, e2⟩ := open_strW f2
  obtain ⟨N, hN, e3⟩ := open_cellsA Tryd.underlying28 h16 f3
  obtain ⟨a, c, F, e4, hF, hc, hz, hin⟩ := open_bytesW f4
  refine ⟨K, M, UInt8.ofNat kd.toNat, nm, N, a, c, F, hK, hM, hN, ?_, hF, hc, hz, hin⟩
  have key : cs.toList = letterCells K M (UInt8.ofNat kd.toNat) nm N (.slice a F.length c) := by
    unfold letterCells
    rw [← e0, ← byte_ofW w1, ← e3, show (Value.int .u8 kd :: Value.string (str nm) :: ((cs.toList.drop 66).take 16 ++ [.slice a F.length c])) = [Value.int .u8 kd] ++ ([Value.string (str nm)] ++ ((cs.toList.drop 66).take 16 ++ [.slice a F.length c])) from rfl, ← e1, ← e2, ← e4]
    generalize cs.toList = l at hl
    rw [show (l.drop 82).take 1 = l.drop 82 from List.take_of_length_le (by rw [List.length_drop]; omega)]
    rw [show l.drop 82 = (l.drop 66).drop 16 by rw [List.drop_drop], List.take_append_drop, show l.drop 66 = (l.drop 65).drop 1 by rw [List.drop_drop], List.take_append_drop, show l.drop 65 = (l.drop 64).drop 1 by rw [List.drop_drop], List.take_append_drop, List.take_append_drop]
  rw [← key, Array.toArray_toList]
end
end Go.Proofs.YtjkhokholcchfaaDoor
end
