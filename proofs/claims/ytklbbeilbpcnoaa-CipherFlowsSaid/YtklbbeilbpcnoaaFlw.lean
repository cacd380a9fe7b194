/- cipher.Flow: begun, sought, asked. -/
import Derived.Test.YtklbbeilbpcnoaaBlo
import Derived.Test.YtklbbeilbpcnoaaCct
import Derived.Great.FillDense
namespace Go.Proofs.Ytklbbeilbpcnoaa
open Go.RowKit Sha Aes

/-- A flow's cells. -/
def flowCells (g : Nat) (N : List UInt8) (at_ : Nat) : List Value := .pointer (some ⟨g, 0, none⟩) :: (byteCells N ++ [.int .i64 (at_ : Int)])
theorem flowCells_len (g : Nat) (N : List UInt8) (at_ : Nat) (h : N.length = 16) : (flowCells g N at_).length = 18 := by simp [flowCells, byteCells_length, h]
theorem flowCells_place (g : Nat) (N : List UInt8) (at_ : Nat) (h : N.length = 16) : (flowCells g N at_)[17]? = some (.int .i64 (at_ : Int)) := by
  unfold flowCells
  rw [show (17 : Nat) = 16 + 1 from rfl, List.getElem?_cons_succ, List.getElem?_append_right (by rw [byteCells_length]; omega), byteCells_length, h]
  rfl
theorem flowCells_set (g : Nat) (N : List UInt8) (at_ n : Nat) (h : N.length = 16) : (flowCells g N at_).set 17 (.int .i64 (n : Int)) = flowCells g N n := by
  unfold flowCells
  rw [show (17 : Nat) = 16 + 1 from rfl, List.set_cons_succ, List.set_append_right _ _ (by rw [byteCells_length]; omega), byteCells_length, h]
  rfl
theorem flow_number {w : World} {fb g : Nat} {N : List UInt8} {at_ : Nat} {t : TypeId} (h : blockIs w fb (flowCells g N at_) t) : w.rangeAt fb 1 (byteCells N) :=
  rangeAt_block (p := [.pointer (some ⟨g, 0, none⟩)]) (cs := byteCells N) (q := [.int .i64 (at_ : Int)]) h
theorem infoFlow : (Try.prog.info? 65).map (·.size) = some 18 := by kernel_rfl
theorem fill_cells (place : Nat → Option (Nat × Nat)) (cells : List Value) (i : Nat) (v : Value) (vs : List Value) (hv : v.cells = vs.toArray) (rest : List (Nat × Value)) (off : Nat) (hp : place i = some (off, vs.length)) (hfit : off + vs.length ≤ cells.length) :
    Instr.fill place cells.toArray ((i, v) :: rest) = Instr.fill place (splice cells off vs).toArray rest := by
  rw [Instr.fill]
  simp only [hp, hv]
  rw [if_neg (by simp; omega)]
  congr 1
  obtain ⟨_, h2⟩ := Great.foldl_set off vs 0 cells.toArray
  rw [← Array.foldl_toList, Array.toList_zipIdx]
  apply Array.ext_getElem?
  intro k
  refine (h2 k).trans ?_
  rw [List.getElem?_toArray, List.getElem?_toArray, splice_get _ _ _ _ hfit, List.size_toArray, Nat.add_zero]
  by_cases c : off ≤ k ∧ k < off + vs.length
  · rw [if_pos c, if_pos ⟨c.1, c.2, by omega⟩]
  · rw [if_neg c, if_neg (fun h => c ⟨h.1, h.2.1⟩)]
theorem run_build_struct {P : Program} (w : World) (t : TypeId) (fields : Array Field) (places : Array (Nat × Nat)) (z : Value) (parts : Array (Nat × Value)) (r : Array Value)
    (hu : P.underlying t = some (.struct fields)) (hz : (zeroValue t).run P w = .ok z w) (hp : (fields.mapM fun f => (do pure (f.offset, ← sizeOf f.type) : Sem (Nat × Nat))).run P w = .ok places w) (hf : Instr.fill (places[·]?) z.cells parts.toList = some r) :
    (Instr.build t parts).run P w = .ok (.agg r) w := by
  simp only [Instr.build, Sem.run_bind, hz, Result.andThen_ok, run_underlying hu, hp, hf, Sem.run_pure]
def zeroFlow : List Value := .pointer none :: (zeros 16 ++ [.int .i64 0])
theorem buildFlow (g : Nat) (N : List UInt8) (hN : N.length = 16) (w : World) : (Instr.build 65 #[(0, .pointer (some ⟨g, 0, none⟩)), (1, .agg (byteCells N).toArray)]).run Try.prog w = .ok (.agg (flowCells g N 0).toArray) w := by
  refine run_build_struct w _ (Try.prog.fieldsOf 65) #[(0, 1), (1, 16), (17, 1)] (.agg zeroFlow.toArray) _ _ (by kernel_rfl) (by kernel_rfl) (by kernel_rfl) ?_
  show Instr.fill _ zeroFlow.toArray [(0, .pointer (some ⟨g, 0, none⟩)), (1, .agg (byteCells N).toArray)] = _
  rw [fill_cells _ zeroFlow 0 _ [.pointer (some ⟨g, 0, none⟩)] rfl _ 0 rfl (show 0 + 1 ≤ 18 by decide), fill_cells _ (splice zeroFlow 0 [.pointer (some ⟨g, 0, none⟩)]) 1 _ (byteCells N) rfl _ 1 (by rw [byteCells_length, hN]; rfl) (by rw [byteCells_length, hN, splice_keep (x := zeroFlow) (y := [Value.pointer (some ⟨g, 0, none⟩)]) (o := 0) (show 0 + 1 ≤ 18 by decide)]; decide)]
  have e : splice (splice zeroFlow 0 [.pointer (some ⟨g, 0, none⟩)]) 1 (byteCells N) = flowCells g N 0 := by
    have hl : (byteCells N).length = 16 := by rw [byteCells_length, hN]
    unfold splice flowCells
    generalize byteCells N = B at *
    rw [hl]
    rfl
  rw [e]
  rfl

set_option maxRecDepth 100000 in
set_option maxHeartbeats 1000000 in
theorem begin_ok (g : Nat) (N : List UInt8) (w : World) (hN : N.length = 16) :
    Calls Try.prog 10 #[.pointer (some ⟨g, 0, none⟩), .agg (byteCells N).toArray] w fun e w' => ∃ fb, e = .returned (.tuple #[.pointer (some ⟨fb, 0, none⟩), .int .i64 0]) ∧ w.heap.size ≤ fb ∧ blockIs w' fb (flowCells g N 0) 65 ∧ Below w.heap.size w w' := by
  have HB := Lib.hid (fun X => buildFlow g N hN X)
  have HNL : Hid ((byteCells N).length = 16) := Lib.hid (by rw [byteCells_length]; exact hN)
  have G1 := Lib.hid (blockIs.new w (byteCells N) 23)
  have B1 := Lib.hid (alloc_below w (.cells (byteCells N).toArray 23 (0, 0)))
  have R1 := Lib.hid (range_of G1.out)
  clear hN
  go_enter Try.func10, Try.ntmps10
  go_upto_region 3 with fail
  generalize hFC : flowCells g N 0 = FC at *
  have HFC := Lib.hid hFC
  clear hFC
  generalize byteCells N = LN at *
  generalize w.alloc (.cells LN.toArray 23 (0, 0)) = w1 at *
  have N2 := Lib.hid (blockIs.new w1 FC 65)
  have B2 := Lib.hid (B1.out.trans ((alloc_below w1 (.cells FC.toArray 65 (0, 0))).mono B1.out.size))
  go_wp2_with (first | (refine wpList_load_mid rfl 23 _ rfl w.heap.size 0 rfl LN _ R1.out Try.underlying23 rfl (by rw [infoBlk, HNL.out]) ?_) | (refine wpList_build rfl 65 _ rfl _ _ (HB.out _) rfl ?_))
  refine bodyPost_ret (v := .tuple #[.pointer (some ⟨w1.heap.size, 0, none⟩), .int .i64 0]) (results_tmp2 (t := 4) (u := 5) rfl _ _ _) rfl ?_
  exact ⟨w1.heap.size, rfl, B1.out.size, by rw [HFC.out]; exact N2.out, B2.out⟩
theorem at_ok (fb g : Nat) (N : List UInt8) (n : Nat) (w : World) (hN : N.length = 16) (h : blockIs w fb (flowCells g N n) 65) :
    Calls Try.prog 19 #[.pointer (some ⟨fb, 0, none⟩)] w fun e w' => e = .returned (.int .i64 n) ∧ w = w' := by
  have c1 : w.cell? ⟨fb, 17, none⟩ = some (.int .i64 (n : Int)) := by rw [h.cell]; exact flowCells_place g N n hN
  clear h
  go_enter Try.func19, Try.ntmps19
  go_wp2_with fail
  go_ret
  exact ⟨rfl, rfl⟩
set_option maxRecDepth 100000 in
theorem seek_ok (fb g : Nat) (N : List UInt8) (n m : Nat) (w : World) (hN : N.length = 16) (hm : m ≤ 1099511627776) (h : blockIs w fb (flowCells g N n) 65) :
    Calls Try.prog 20 #[.pointer (some ⟨fb, 0, none⟩), .int .i64 m] w fun e w' => e = .returned (.int .i64 0) ∧ blockIs w' fb (flowCells g N m) 65 ∧ But fb w w' := by
  have h1 : ¬ (m : Int) < 0 := by omega
  have h2 : ¬ 1099511627776 < (m : Int) := by omega
  have HL := Lib.hid (flowCells_len g N n hN)
  have HS := Lib.hid (flowCells_set g N n m hN)
  have H := Lib.hid h
  clear h
  generalize flowCells g N n = FC at *
  go_enter Try.func20, Try.ntmps20
  go_wp2_with (refine wpList_store_cell rfl 3 _ _ rfl fb 17 (.int .i64 (m : Int)) rfl rfl FC 65 H.out (by rw [HL.out]; decide) (by kernel_rfl) rfl rfl ?_)
  intro w3 k1 k2 k3
  have k1 := k1.out
  rw [HS.out] at k1
  go_wp2_with fail
  go_ret
  exact ⟨rfl, k1, k2.out⟩
end Go.Proofs.Ytklbbeilbpcnoaa
