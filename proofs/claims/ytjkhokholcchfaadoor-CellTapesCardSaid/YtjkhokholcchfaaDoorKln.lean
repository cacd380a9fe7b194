/- The key laws' lines. -/
import Derived.Test.YtjkhokholcchfaaDoorTdt
import Derived.Test.YtjkhokholcchfaaDoorRgs
namespace Go.Proofs.YtjkhokholcchfaaDoor
open Go.RowKit Sha

/-- What a Line holds. -/
structure Ln where
  wa : Option Addr
  wc : Nat
  W : List UInt8
  st : Int
  ba : Option Addr
  bc : Nat
  G : List UInt8
  ra : Option Addr
  rc : Nat
  R : List (List UInt8)
  kd : UInt8
  nm : List UInt8
def Ln.cells (L : Ln) : List Value := [.slice L.wa L.W.length L.wc, .int .i64 L.st, .slice L.ba L.G.length L.bc, .slice L.ra L.R.length L.rc, .int .u8 (V L.kd), .string (str L.nm)]
structure Ln.ok (X : World) (L : Ln) : Prop where
  word : Pt.ok0 X ⟨L.wa, L.wc, L.W⟩
  begins : Pt.ok0 X ⟨L.ba, L.bc, L.G⟩
  rows : partsW X L.ra L.R
theorem Ln.ok.below {X Y : World} {L : Ln} (h : L.ok X) (k : Below X.heap.size X Y) : L.ok Y := ⟨h.word.below k, h.begins.below k, h.rows.below k⟩
def Ln.z (L : Ln) : Nat := (wrap64 ((IntKind.u64.wrap L.st).tmod 5)).toNat
def Ln.word (L : Ln) : List UInt8 := 119 :: L.W.take 100
def Ln.ring (L : Ln) : List UInt8 := ringL (stretch L.word saltL L.z)
theorem Ln.z_eq (L : Ln) : wrap64 ((IntKind.u64.wrap L.st).tmod 5) = (L.z : Int) ∧ L.z < 5 := by
  have hw : 0 ≤ IntKind.u64.wrap L.st := by rw [IntKind.wrap_u64]; omega
  have h1 := Int.emod_lt_of_pos (IntKind.u64.wrap L.st) (show (0 : Int) < 5 by omega)
  have h0 := Int.emod_nonneg (IntKind.u64.wrap L.st) (show (5 : Int) ≠ 0 by omega)
  have e : wrap64 ((IntKind.u64.wrap L.st).tmod 5) = IntKind.u64.wrap L.st % 5 := by
    rw [Int.tmod_eq_emod_of_nonneg hw]
    generalize IntKind.u64.wrap L.st % 5 = q at *
    unfold wrap64
    omega
  unfold Ln.z
  rw [e]
  omega
theorem Ln.word_length (L : Ln) : L.word.length ≤ 101 := by
  unfold Ln.word
  rw [List.length_cons, List.length_take]
  omega
theorem Ln.ring_length (L : Ln) : L.ring.length = 96 := ringL_length _
/-- A pen's cells. -/
def penCells (R : List UInt8) (tb : Nat) : List Value := byteCells R ++ [Value.pointer (some ⟨tb, 0, none⟩)]
theorem infoPen : (Tryd.prog.info? 60).map (·.size) = some 97 := by kernel_rfl
theorem zeroPen (w : World) : (zeroValue 60).run Tryd.prog w = .ok (.agg (zeros 96 ++ [Value.pointer none]).toArray) w := by kernel_rfl
theorem buildPen (R : List UInt8) (tb : Nat) (hR : R.length = 96) (w : World) : (Instr.build 60 #[(0, .agg (byteCells R).toArray), (1, .pointer (some ⟨tb, 0, none⟩))]).run Tryd.prog w = .ok (.agg (penCells R tb).toArray) w := by
  refine Ci.run_build_struct w _ (Tryd.prog.fieldsOf 60) #[(0, 96), (96, 1)] (.agg (zeros 96 ++ [Value.pointer none]).toArray) _ _ (by kernel_rfl) (by kernel_rfl) (by kernel_rfl) ?_
  show Instr.fill _ (zeros 96 ++ [Value.pointer none]).toArray [(0, .agg (byteCells R).toArray), (1, .pointer (some ⟨tb, 0, none⟩))] = _
  have h1 : (byteCells R).length = 96 := by rw [byteCells_length, hR]
  have hz : (zeros 96 ++ [Value.pointer none]).length = 97 := by simp [zeros]
  rw [Ci.fill_cells _ (zeros 96 ++ [Value.pointer none]) 0 _ (byteCells R) rfl _ 0 (by rw [h1]; rfl) (by rw [h1, hz]; omega), Ci.fill_cells _ (splice (zeros 96 ++ [Value.pointer none]) 0 (byteCells R)) 1 _ [Value.pointer (some ⟨tb, 0, none⟩)] rfl _ 96 rfl (by rw [Ci.splice_keep (by rw [h1, hz]; omega), hz]; show 96 + 1 ≤ 97; omega), splice_twoW _ _ _ 96 1 h1 rfl hz]
  rfl
theorem results_two_tmp {fn : Func} {p q u : Tmp} {ty tz : TypeId} (h : fn.results = #[.cell p ty, .cell q tz, .tmp u]) (tmps : Array Value) (w : World) (g k : Nat) (cs ds : Array Value)
    (hp : tmps.getD p undef = .pointer (some ⟨g, 0, none⟩)) (hq : tmps.getD q undef = .pointer (some ⟨k, 0, none⟩)) (hl : (loadVar ty ⟨g, 0, none⟩).run Tryd.prog w = .ok (.agg cs) w) (hm : (loadVar tz ⟨k, 0, none⟩).run Tryd.prog w = .ok (.agg ds) w) :
    (results fn tmps).run Tryd.prog w = .ok (.tuple #[.agg cs, .agg ds, tmps.getD u undef]) w := by
  have hp' : tmps[p]?.getD undef = .pointer (some ⟨g, 0, none⟩) := by simpa using hp
  have hq' : tmps[q]?.getD undef = .pointer (some ⟨k, 0, none⟩) := by simpa using hq
  simp [results, h, hp', hq', asAddr, hl, hm]
end Go.Proofs.YtjkhokholcchfaaDoor
