/- Nodes built of their fields. -/
import Derived.Test.YtjgmhaajcglpmaaNo
import Derived.Great.FillDense
import Derived.Laws.StructEq
namespace Go.Proofs.Ytjgmhaajcglpmaa
open Go.RowKit

theorem splice_get (cells v : List Value) (off k : Nat) (hfit : off + v.length ≤ cells.length) : (splice cells off v)[k]? = if off ≤ k ∧ k < off + v.length then v[k - off]? else cells[k]? := by
  have h1 : (cells.take off).length = off := by rw [List.length_take]; omega
  unfold splice
  by_cases a : k < off
  · rw [if_neg (by omega), List.getElem?_append_left (by omega), List.getElem?_take, if_pos a]
  · rw [List.getElem?_append_right (by omega), h1]
    by_cases b : k - off < v.length
    · rw [if_pos (by omega), List.getElem?_append_left b]
    · rw [if_neg (by omega), List.getElem?_append_right (by omega), List.getElem?_drop]
      congr 1
      omega
theorem fill_splice (place : Nat → Option (Nat × Nat)) (cells : List Value) (i : Nat) (v : List Value) (rest : List (Nat × Value)) (off : Nat) (hp : place i = some (off, v.length)) (hfit : off + v.length ≤ cells.length) :
    Instr.fill place cells.toArray ((i, .agg v.toArray) :: rest) = Instr.fill place (splice cells off v).toArray rest := by
  rw [Instr.fill]
  simp only [hp]
  rw [if_neg (by simp [Value.cells]; omega)]
  congr 1
  obtain ⟨_, h2⟩ := Great.foldl_set off v 0 cells.toArray
  rw [← Array.foldl_toList, Array.toList_zipIdx]
  apply Array.ext_getElem?
  intro k
  refine (h2 k).trans ?_
  rw [List.getElem?_toArray, List.getElem?_toArray, splice_get _ _ _ _ hfit, List.size_toArray, Nat.add_zero]
  by_cases c : off ≤ k ∧ k < off + v.length
  · rw [if_pos c, if_pos ⟨c.1, c.2, by omega⟩]
  · rw [if_neg c, if_neg (fun h => c ⟨h.1, h.2.1⟩)]
theorem run_build_struct {P : Program} (w : World) (t : TypeId) (fields : Array Field) (places : Array (Nat × Nat)) (z : Value) (parts : Array (Nat × Value)) (r : Array Value)
    (hu : P.underlying t = some (.struct fields)) (hz : (zeroValue t).run P w = .ok z w) (hp : (fields.mapM fun f => (do pure (f.offset, ← sizeOf f.type) : Sem (Nat × Nat))).run P w = .ok places w) (hf : Instr.fill (places[·]?) z.cells parts.toList = some r) :
    (Instr.build t parts).run P w = .ok (.agg r) w := by
  simp only [Instr.build, Sem.run_bind, hz, Result.andThen_ok, run_underlying hu, hp, hf, Sem.run_pure]
theorem fill_cell (place : Nat → Option (Nat × Nat)) (cells : List Value) (i : Nat) (v : Value) (rest : List (Nat × Value)) (off : Nat) (hp : place i = some (off, 1)) (hv : v.cells = #[v]) (hfit : off < cells.length) :
    Instr.fill place cells.toArray ((i, v) :: rest) = Instr.fill place (cells.set off v).toArray rest := by
  have h := fill_splice place cells i [v] rest off (by simpa using hp) (by simp; omega)
  have e : Instr.fill place cells.toArray ((i, v) :: rest) = Instr.fill place cells.toArray ((i, .agg [v].toArray) :: rest) := by
    rw [Instr.fill, Instr.fill]
    have h2 : (Value.agg [v].toArray).cells = #[v] := rfl
    simp only [hp, hv, h2]
  rw [e, h]
  congr 2
  apply List.ext_getElem?
  intro k
  rw [splice_get _ _ _ _ (by simp; omega), List.getElem?_set]
  by_cases c : off = k
  · subst c
    simp [hfit]
  · rw [if_neg (by simp; omega), if_neg c]
theorem splice_tail (A B z : List Value) (h : z.length = B.length) : splice (A ++ z) A.length B = A ++ B := by
  unfold splice
  simp [h]
theorem cells_of_one {pv : Value} (h : pv.cells = #[pv]) : pv.cells = #[pv] := h
/-- The places of a node's fields. -/
def ndPlaces : Array (Nat × Nat) := #[(0, 1), (1, 1), (2, 1), (3, 1), (4, 1), (5, 1), (6, 1), (7, 32)]
theorem fill_nd (n : Nd) (pv : Value) (hpv : pv.cells = #[pv]) (ht : n.tree.length = 32) :
    Instr.fill (ndPlaces[·]?) (zeroNd.cells (.slice none 0 0)).toArray [(0, .string (str n.name)), (1, .int .i64 n.kind), (2, .int .i64 n.mode), (3, .int .i64 n.time), (4, .int .i64 n.size), (5, .string (str n.target)), (6, pv), (7, .agg (bvals n.tree).toArray)] = some (n.cells pv).toArray := by
  have hb : (bvals n.tree).length = 32 := by rw [bvals_length, ht]
  have hz : zeroNd.cells (.slice none 0 0) = [.string (str []), .int .i64 0, .int .i64 0, .int .i64 0, .int .i64 0, .string (str []), .slice none 0 0] ++ bvals noughts := rfl
  have hn : (bvals noughts).length = 32 := by rw [bvals_length]; rfl
  rw [hz]
  generalize bvals noughts = N at *
  generalize hB : bvals n.tree = B at *
  rw [fill_cell _ _ 0 _ _ 0 rfl rfl (by simp), fill_cell _ _ 1 _ _ 1 rfl rfl (by simp), fill_cell _ _ 2 _ _ 2 rfl rfl (by simp), fill_cell _ _ 3 _ _ 3 rfl rfl (by simp), fill_cell _ _ 4 _ _ 4 rfl rfl (by simp), fill_cell _ _ 5 _ _ 5 rfl rfl (by simp), fill_cell _ _ 6 _ _ 6 rfl hpv (by simp)]
  rw [fill_splice _ _ 7 B [] 7 (by rw [hb]; rfl) (by simp; omega)]
  have e := splice_tail (n.head pv) B N (by rw [hn, hb])
  show some (splice (n.head pv ++ N) 7 B).toArray = _
  rw [Nd.cells, hB, ← e]
  rfl
theorem build_nd (t ts : TypeId) (nt : NT t ts) (fs : Array Field) (hu : Try.prog.underlying t = some (.struct fs)) (hz : ∀ w, (zeroValue t).run Try.prog w = .ok (.agg (zeroNd.cells (.slice none 0 0)).toArray) w)
    (hp : ∀ w, (fs.mapM fun f => (do pure (f.offset, ← sizeOf f.type) : Sem (Nat × Nat))).run Try.prog w = .ok ndPlaces w)
    (n : Nd) (pv : Value) (hpv : pv.cells = #[pv]) (ht : n.tree.length = 32) (w : World) :
    (Instr.build t #[(0, .string (str n.name)), (1, .int .i64 n.kind), (2, .int .i64 n.mode), (3, .int .i64 n.time), (4, .int .i64 n.size), (5, .string (str n.target)), (6, pv), (7, .agg (bvals n.tree).toArray)]).run Try.prog w = .ok (.agg (n.cells pv).toArray) w :=
  run_build_struct w t fs ndPlaces _ _ _ hu (hz w) (hp w) (fill_nd n pv hpv ht)
theorem build_N (n : Nd) (pv : Value) (hpv : pv.cells = #[pv]) (ht : n.tree.length = 32) (w : World) :
    (Instr.build 33 #[(0, .string (str n.name)), (1, .int .i64 n.kind), (2, .int .i64 n.mode), (3, .int .i64 n.time), (4, .int .i64 n.size), (5, .string (str n.target)), (6, pv), (7, .agg (bvals n.tree).toArray)]).run Try.prog w = .ok (.agg (n.cells pv).toArray) w :=
  build_nd _ _ ntN (Try.prog.fieldsOf 33) (by kernel_rfl) zero_nd (fun w => by kernel_rfl) n pv hpv ht w
theorem build_R (n : Nd) (pv : Value) (hpv : pv.cells = #[pv]) (ht : n.tree.length = 32) (w : World) :
    (Instr.build 26 #[(0, .string (str n.name)), (1, .int .i64 n.kind), (2, .int .i64 n.mode), (3, .int .i64 n.time), (4, .int .i64 n.size), (5, .string (str n.target)), (6, pv), (7, .agg (bvals n.tree).toArray)]).run Try.prog w = .ok (.agg (n.cells pv).toArray) w :=
  build_nd _ _ ntR (Try.prog.fieldsOf 26) (by kernel_rfl) zero_rn (fun w => by kernel_rfl) n pv hpv ht w
theorem build_op {w : World} {ops : Array Oper} {rest : List Oper} {o : Oper} {a : Act} {Q : Exit → Act → World → Prop} (hw : Region.wanted o (yielded ops a.tmps) = true) (t : TypeId) (x0 x1 x2 x3 x4 x5 x6 x7 : Operand) (ho : o.op = .build t #[(0, x0), (1, x1), (2, x2), (3, x3), (4, x4), (5, x5), (6, x6), (7, x7)]) (v0 v1 v2 v3 v4 v5 v6 v7 : Value)
    (h0 : a.eval x0 = v0) (h1 : a.eval x1 = v1) (h2 : a.eval x2 = v2) (h3 : a.eval x3 = v3) (h4 : a.eval x4 = v4) (h5 : a.eval x5 = v5) (h6 : a.eval x6 = v6) (h7 : a.eval x7 = v7) (v : Value)
    (hrun : (Instr.build t #[(0, v0), (1, v1), (2, v2), (3, v3), (4, v4), (5, v5), (6, v6), (7, v7)]).run Try.prog w = .ok v w) (h : wpList Try.prog ops Q rest (a.put o.dst v) w) : wpList Try.prog ops Q (o :: rest) a w := by
  refine BigFrame.wpList_want hw fun K hK => ?_
  have e : (#[((0 : Nat), x0), ((1 : Nat), x1), ((2 : Nat), x2), ((3 : Nat), x3), ((4 : Nat), x4), ((5 : Nat), x5), ((6 : Nat), x6), ((7 : Nat), x7)].map fun (p : Nat × Operand) => (p.1, a.eval p.2)) = #[(0, v0), (1, v1), (2, v2), (3, v3), (4, v4), (5, v5), (6, v6), (7, v7)] := by simp [h0, h1, h2, h3, h4, h5, h6, h7]
  unfold Oper.wp execOp
  simp only [ho, Sem.run_bind]
  rw [show (#[((0 : Nat), x0), ((1 : Nat), x1), ((2 : Nat), x2), ((3 : Nat), x3), ((4 : Nat), x4), ((5 : Nat), x5), ((6 : Nat), x6), ((7 : Nat), x7)].map fun ((i, x) : Nat × Operand) => (i, a.eval x)) = #[(0, v0), (1, v1), (2, v2), (3, v3), (4, v4), (5, v5), (6, v6), (7, v7)] from e, hrun]
  simp only [Result.andThen_ok, Sem.run_pure]
  exact hK _ _ h
end Go.Proofs.Ytjgmhaajcglpmaa
