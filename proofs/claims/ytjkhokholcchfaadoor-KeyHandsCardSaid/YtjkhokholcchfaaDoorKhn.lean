/- Rings compared; what Open answers of a row that is too short. -/
import Derived.Test.YtjkhokholcchfaaDoorLkw
import Derived.Test.YtjkhokholcchfaaDoorKb2
import Derived.Test.YtjkhokholcchfaaDoorBld
namespace Go.Proofs.YtjkhokholcchfaaDoor
open Go.RowKit Sha

set_option maxRecDepth 100000 in
theorem keys1_fields : ∃ f0 f1 : Field, (Tryd.prog.fieldsOf 45).toList = [f0, f1] ∧ f0.name ≠ "_" ∧ f1.name ≠ "_" ∧ f0.type = 34 ∧ f1.type = 34 ∧ f0.offset = 0 ∧ f1.offset = 32 :=
  ⟨_, _, rfl, by decide, by decide, rfl, rfl, rfl, rfl⟩
set_option maxRecDepth 100000 in
theorem ring1_fields : ∃ f0 f1 : Field, (Tryd.prog.fieldsOf 58).toList = [f0, f1] ∧ f0.name ≠ "_" ∧ f1.name ≠ "_" ∧ f0.type = 45 ∧ f1.type = 34 ∧ f0.offset = 0 ∧ f1.offset = 64 :=
  ⟨_, _, rfl, by decide, by decide, rfl, rfl, rfl, rfl⟩
set_option maxRecDepth 100000 in
theorem partKeys1 (xs : Array Value) (o : Nat) (w : World) : (part 45 xs o).run Tryd.prog w = .ok (.agg (xs.extract o (o + 64))) w := by kernel_rfl
set_option maxRecDepth 100000 in
theorem eq_keys1 (d : Nat) (A B : List UInt8) (hA : A.length = 32) (hB : B.length = 32) (w : World) : (Op.equalIn (d + 3) 45 (.agg (byteCells (A ++ B)).toArray) (.agg (byteCells (A ++ B)).toArray)).run Tryd.prog w = .ok true w := by
  rw [show d + 3 = d + 2 + 1 from rfl, run_equalIn_struct w (d + 2) _ _ _ (by kernel_rfl) (by kernel_rfl)]
  obtain ⟨f0, f1, hf, n0, n1, t0, t1, o0, o1⟩ := keys1_fields
  rw [hf]
  have c0 := cut_cells [] A B 0 32 rfl hA
  have c1 := cut_cells A B [] 32 32 hA hB
  simp only [List.nil_append, List.append_nil] at c0 c1
  refine eqFields_two (d + 2) _ _ f0 f1 n0 n1 _ _ _ _ true w (by rw [t0, o0]; exact part28 _ _ _) (by rw [t0, o0]; exact part28 _ _ _) ?_ (by rw [t1, o1]; exact part28 _ _ _) (by rw [t1, o1]; exact part28 _ _ _) ?_
  · rw [t0, c0, eq_sums_at d A A hA hA]; simp
  · rw [t1, c1, eq_sums_at d B B hB hB]; simp
set_option maxRecDepth 100000 in
theorem eq_ring1 (A B C : List UInt8) (hA : A.length = 32) (hB : B.length = 32) (hC : C.length = 32) (w : World) : (Op.equalIn 10000 58 (.agg (byteCells (A ++ (B ++ C))).toArray) (.agg (byteCells (A ++ (B ++ C))).toArray)).run Tryd.prog w = .ok true w := by
  rw [show (10000 : Nat) = 9999 + 1 from rfl, run_equalIn_struct w 9999 _ _ _ (by kernel_rfl) (by kernel_rfl)]
  obtain ⟨f0, f1, hf, n0, n1, t0, t1, o0, o1⟩ := ring1_fields
  rw [hf]
  have c0 := cut_cells [] (A ++ B) C 0 64 rfl (by rw [List.length_append]; omega)
  have c1 := cut_cells (A ++ B) C [] 64 32 (by rw [List.length_append]; omega) hC
  simp only [List.nil_append, List.append_nil, List.append_assoc] at c0 c1
  refine eqFields_two 9999 _ _ f0 f1 n0 n1 _ _ _ _ true w (by rw [t0, o0]; exact partKeys1 _ _ _) (by rw [t0, o0]; exact partKeys1 _ _ _) ?_ (by rw [t1, o1]; exact part28 _ _ _) (by rw [t1, o1]; exact part28 _ _ _) ?_
  · rw [t0, c0]; exact eq_keys1 9996 A B hA hB w
  · rw [t1, c1, show (9999 : Nat) = 9997 + 2 from rfl, eq_sums_at 9997 C C hC hC]; simp
set_option maxRecDepth 100000 in
theorem egtRing1 : Tryd.prog.eqGuardType Tryd.prog.depth 58 = false := by kernel_rfl
set_option maxRecDepth 100000 in
theorem neq_ring1 (L : List UInt8) (hL : L.length = 96) (w : World) : (binOp .neq 58 (.agg (byteCells L).toArray) (.agg (byteCells L).toArray)).run Tryd.prog w = .ok (.bool false) w := by
  have h : (Op.equalIn 10000 58 (.agg (byteCells L).toArray) (.agg (byteCells L).toArray)).run Tryd.prog w = .ok true w := by
    have := eq_ring1 (L.take 32) ((L.drop 32).take 32) ((L.drop 32).drop 32) (by rw [List.length_take]; omega) (by rw [List.length_take, List.length_drop]; omega) (by rw [List.length_drop, List.length_drop]; omega) w
    rwa [List.take_append_drop, List.take_append_drop] at this
  rw [run_neq_struct, h]
  rfl
set_option maxRecDepth 100000 in
theorem neq_ring2 (L : List UInt8) (hL : L.length = 96) (w : World) : (binOp .neq 62 (.agg (byteCells L).toArray) (.agg (byteCells L).toArray)).run Tryd.prog w = .ok (.bool false) w := by
  have h : (Op.equalIn 10000 62 (.agg (byteCells L).toArray) (.agg (byteCells L).toArray)).run Tryd.prog w = .ok true w := by
    have := eq_ring2 (L.take 32) ((L.drop 32).take 32) ((L.drop 32).drop 32) (by rw [List.length_take]; omega) (by rw [List.length_take, List.length_drop]; omega) (by rw [List.length_drop, List.length_drop]; omega) w
    rwa [List.take_append_drop, List.take_append_drop] at this
  rw [run_neq_struct, h]
  rfl
set_option maxRecDepth 100000 in
theorem neq_op_ring1 (L : List UInt8) (hL : L.length = 96) (a : Act) (o : Oper) (x y : Operand) (ho : o.op = .binOp .neq 58 x y 58) (hx : a.eval x = .agg (byteCells L).toArray) (hy : a.eval y = .agg (byteCells L).toArray) (w : World) :
    (execOp a.eval o).run Tryd.prog w = .ok (.value (.bool false)) w := by
  unfold execOp
  simp only [ho, hx, hy, Sem.run_bind, neq_ring1 L hL, run_eqGuard_agg _ _ _ _ _ _ _ egtRing1, Result.andThen_ok, Sem.run_pure]
set_option maxRecDepth 100000 in
theorem neq_op_ring2 (L : List UInt8) (hL : L.length = 96) (a : Act) (o : Oper) (x y : Operand) (ho : o.op = .binOp .neq 62 x y 62) (hx : a.eval x = .agg (byteCells L).toArray) (hy : a.eval y = .agg (byteCells L).toArray) (w : World) :
    (execOp a.eval o).run Tryd.prog w = .ok (.value (.bool false)) w := by
  unfold execOp
  simp only [ho, hx, hy, Sem.run_bind, neq_ring2 L hL, run_eqGuard_agg _ _ _ _ _ _ _ egtRing2, Result.andThen_ok, Sem.run_pure]
theorem openR_few (H M : List UInt8) (kd : UInt8) (b : List UInt8) (h : b.length < 48) : openR H M kd [110] b = ([], 10) := by
  unfold openR
  rw [if_neg (by simp), if_pos h]
end Go.Proofs.YtjkhokholcchfaaDoor
