/- Two sums, held against each other. -/
import Derived.Test.YtjkhokholcchfaaDoorGg
namespace Go.Proofs.YtjkhokholcchfaaDoor
open Go.RowKit Sha

set_option maxRecDepth 100000 in
theorem run_eqItems_bytes (l m : List UInt8) (w : World) : ∀ (is : List Nat), (∀ i ∈ is, i < l.length ∧ i < m.length) →
    (Op.eqItems 9999 5 (Tryd.prog.cellsOf 5) (byteCells l).toArray (byteCells m).toArray is).run Tryd.prog w = .ok (is.all fun i => V (l.getD i 0) == V (m.getD i 0)) w
  | [], _ => by simp [Op.eqItems]
  | i :: is, h => by
    obtain ⟨h1, h2⟩ := h i (by simp)
    have ih := run_eqItems_bytes l m w is (fun j hj => h j (by simp [hj]))
    have hc : Tryd.prog.cellsOf 5 = 1 := by kernel_rfl
    rw [hc] at ih ⊢
    have p1 : (part 5 (byteCells l).toArray (i * 1)).run Tryd.prog w = .ok (.int .u8 (V (l.getD i 0))) w := run_part_plain w (by kernel_rfl) (by rw [Nat.mul_one, List.getElem?_toArray]; exact byteCells_get _ _ h1)
    have p2 : (part 5 (byteCells m).toArray (i * 1)).run Tryd.prog w = .ok (.int .u8 (V (m.getD i 0))) w := run_part_plain w (by kernel_rfl) (by rw [Nat.mul_one, List.getElem?_toArray]; exact byteCells_get _ _ h2)
    have p3 := run_equalIn_int (P := Tryd.prog) w 9998 5 .u8 .u8 (V (l.getD i 0)) (V (m.getD i 0)) Tryd.underlying5
    simp only [Op.eqItems, Sem.run_bind, p1, p2, Result.andThen_ok]
    rw [show (9999 : Nat) = 9998 + 1 from rfl, p3]
    simp only [Result.andThen_ok, List.all_cons]
    cases (V (l.getD i 0) == V (m.getD i 0))
    · simp
    · simpa using ih
set_option maxRecDepth 100000 in
theorem eq_sums (l m : List UInt8) (hl : l.length = 32) (hm : m.length = 32) (w : World) : (Op.equalIn 10000 34 (.agg (byteCells l).toArray) (.agg (byteCells m).toArray)).run Tryd.prog w = .ok (l == m) w := by
  obtain ⟨i0, hi, hz0, hz1, hz2⟩ := info_parts info_u8
  rw [show (10000 : Nat) = 9999 + 1 from rfl, run_equalIn_array w 9999 _ _ Tryd.underlying34 hi, run_eqItems_bytes l m w _ (fun i hi => by have := List.mem_range.1 hi; omega)]
  congr 1
  rw [Bool.eq_iff_iff, List.all_eq_true, beq_iff_eq]
  constructor
  · intro h
    apply List.ext_getElem (by omega)
    intro i h1 h2
    have := h i (List.mem_range.2 (by omega))
    rw [beq_iff_eq] at this
    have := V_inj this
    simpa [h1, h2] using this
  · rintro rfl i _
    simp
set_option maxRecDepth 100000 in
theorem same_sums (l : List UInt8) (hl : l.length = 32) (w : World) : (Op.equalIn 10000 34 (.agg (byteCells l).toArray) (.agg (byteCells l).toArray)).run Tryd.prog w = .ok true w := by
  rw [eq_sums l l hl hl]
  simp
set_option maxRecDepth 100000 in
theorem eql_sums (l : List UInt8) (hl : l.length = 32) (w : World) : (binOp .eql 34 (.agg (byteCells l).toArray) (.agg (byteCells l).toArray)).run Tryd.prog w = .ok (.bool true) w := by
  rw [run_eql_struct, same_sums l hl]
  rfl
set_option maxRecDepth 100000 in
theorem egt28 : Tryd.prog.eqGuardType Tryd.prog.depth 34 = false := by kernel_rfl
set_option maxRecDepth 100000 in
theorem eql_op (a : Act) (o : Oper) (x y : Operand) (l : List UInt8) (ho : o.op = .binOp .eql 34 x y 34) (hx : a.eval x = .agg (byteCells l).toArray) (hy : a.eval y = .agg (byteCells l).toArray) (hl : l.length = 32) (w : World) :
    (execOp a.eval o).run Tryd.prog w = .ok (.value (.bool true)) w := by
  unfold execOp
  simp only [ho, hx, hy, Sem.run_bind, eql_sums l hl, run_eqGuard_agg _ _ _ _ _ _ _ egt28, Result.andThen_ok, Sem.run_pure]
end Go.Proofs.YtjkhokholcchfaaDoor
