/- Values of structs: built of their parts, taken apart, compared. -/
import Derived.Test.YtjkhokholcchfaaDoorMak
import Derived.Test.YtjkhokholcchfaaDoorEq
import Derived.Great.FillDense
import Derived.Laws.StructEq
namespace Go.Proofs.YtjkhokholcchfaaDoor
open Go.RowKit Sha

set_option maxRecDepth 100000 in
theorem splice_get (cells v : List Value) (off k : Nat) (hfit : off + v.length ≤ cells.length) : (splice cells off v)[k]? = if off ≤ k ∧ k < off + v.length then v[k - off]? else cells[k]? := by
  have h1 : (cells.take off).length = off := by rw [List.length_take]; omega
  unfold splice
  by_cases a : k < off
  · rw [if_neg (by omega), List.getElem?_append_left (by omega), List.getElem?_take, if_pos a]
  · rw [List.getElem?_append_right (by omega), h1]
    by_cases b : k - off < v.length
    · rw [if_pos (by omega), List.getElem?_append_left b]
    · rw [if_neg (by omega), List.getElem?_append_right (by omega), List.getElem?_drop]
      congr 1
      omega
set_option maxRecDepth 100000 in
theorem fill_splice (place : Nat → Option (Nat × Nat)) (cells : List Value) (i : Nat) (v : List Value) (rest : List (Nat × Value)) (off : Nat) (hp : place i = some (off, v.length)) (hfit : off + v.length ≤ cells.length) :
    Instr.fill place cells.toArray ((i, .agg v.toArray) :: rest) = Instr.fill place (splice cells off v).toArray rest := by
  rw [Instr.fill]
  simp only [hp]
  rw [if_neg (by simp [Value.cells]; omega)]
  congr 1
  obtain ⟨_, h2⟩ := Great.foldl_set off v 0 cells.toArray
  rw [← Array.foldl_toList, Array.toList_zipIdx]
  apply Array.ext_getElem?
  intro k
  refine (h2 k).trans ?_
  rw [List.getElem?_toArray, List.getElem?_toArray, splice_get _ _ _ _ hfit, List.size_toArray, Nat.add_zero]
  by_cases c : off ≤ k ∧ k < off + v.length
  · rw [if_pos c, if_pos ⟨c.1, c.2, by omega⟩]
  · rw [if_neg c, if_neg (fun h => c ⟨h.1, h.2.1⟩)]
set_option maxRecDepth 100000 in
theorem run_build_struct {P : Program} (w : World) (t : TypeId) (fields : Array Field) (places : Array (Nat × Nat)) (z : Value) (parts : Array (Nat × Value)) (r : Array Value)
    (hu : P.underlying t = some (.struct fields)) (hz : (zeroValue t).run P w = .ok z w) (hp : (fields.mapM fun f => (do pure (f.offset, ← sizeOf f.type) : Sem (Nat × Nat))).run P w = .ok places w) (hf : Instr.fill (places[·]?) z.cells parts.toList = some r) :
    (Instr.build t parts).run P w = .ok (.agg r) w := by
  simp only [Instr.build, Sem.run_bind, hz, Result.andThen_ok, run_underlying hu, hp, hf, Sem.run_pure]
set_option maxRecDepth 100000 in
theorem splice_two (A B : List Value) (a b : Nat) (hA : A.length = a) (hB : B.length = b) (z : List Value) (hz : z.length = a + b) : splice (splice z 0 A) a B = A ++ B := by
  have h1 : (splice z 0 A).length = a + b := by rw [splice_keep (by omega)]; exact hz
  apply List.ext_getElem?
  intro k
  rw [splice_get _ _ _ _ (by omega), splice_get _ _ _ _ (by omega)]
  by_cases c : k < a
  · rw [if_neg (by omega), if_pos (by omega), List.getElem?_append_left (by omega), Nat.sub_zero]
  · rw [List.getElem?_append_right (by omega), hA]
    by_cases d : k < a + b
    · rw [if_pos (by omega)]
    · rw [if_neg (by omega), if_neg (by omega), List.getElem?_eq_none (by omega), List.getElem?_eq_none (by omega)]

set_option maxRecDepth 100000 in
theorem buildKeys (A B : List Value) (hA : A.length = 32) (hB : B.length = 32) (w : World) :
    (Instr.build 36 #[(0, .agg A.toArray), (1, .agg B.toArray)]).run Tryd.prog w = .ok (.agg (A ++ B).toArray) w := by
  refine run_build_struct w _ (Tryd.prog.fieldsOf 36) #[(0, 32), (32, 32)] (.agg (zeros 64).toArray) _ _ (by kernel_rfl) (by kernel_rfl) (by kernel_rfl) ?_
  show Instr.fill _ (zeros 64).toArray [(0, .agg A.toArray), (1, .agg B.toArray)] = _
  rw [fill_splice _ _ 0 A _ 0 (by rw [hA]; rfl) (by rw [hA]; decide), fill_splice _ _ 1 B _ 32 (by rw [hB]; rfl) (by rw [splice_keep (by rw [hA]; decide), hB]; decide), splice_two A B 32 32 hA hB _ rfl]
  rfl
set_option maxRecDepth 100000 in
theorem buildRing2 (A B : List Value) (hA : A.length = 64) (hB : B.length = 32) (w : World) :
    (Instr.build 62 #[(0, .agg A.toArray), (1, .agg B.toArray)]).run Tryd.prog w = .ok (.agg (A ++ B).toArray) w := by
  refine run_build_struct w _ (Tryd.prog.fieldsOf 62) #[(0, 64), (64, 32)] (.agg (zeros 96).toArray) _ _ (by kernel_rfl) (by kernel_rfl) (by kernel_rfl) ?_
  show Instr.fill _ (zeros 96).toArray [(0, .agg A.toArray), (1, .agg B.toArray)] = _
  rw [fill_splice _ _ 0 A _ 0 (by rw [hA]; rfl) (by rw [hA]; decide), fill_splice _ _ 1 B _ 64 (by rw [hB]; rfl) (by rw [splice_keep (by rw [hA]; decide), hB]; decide), splice_two A B 64 32 hA hB _ rfl]
  rfl
set_option maxRecDepth 100000 in
theorem infoRing2 : (Tryd.prog.info? 62).map (·.size) = some 96 := by kernel_rfl
set_option maxRecDepth 100000 in
theorem zeroRing2 (w : World) : (zeroValue 62).run Tryd.prog w = .ok (.agg (zeros 96).toArray) w := by kernel_rfl
set_option maxRecDepth 100000 in
theorem buildRing20 (w : World) : (Instr.build 62 #[]).run Tryd.prog w = .ok (.agg (zeros 96).toArray) w := by kernel_rfl

set_option maxRecDepth 100000 in
/-- Rows of bytes, compared at any depth. -/
theorem run_eqItems_at (d : Nat) (l m : List UInt8) (w : World) : ∀ (is : List Nat), (∀ i ∈ is, i < l.length ∧ i < m.length) →
    (Op.eqItems (d + 1) 5 (Tryd.prog.cellsOf 5) (byteCells l).toArray (byteCells m).toArray is).run Tryd.prog w = .ok (is.all fun i => V (l.getD i 0) == V (m.getD i 0)) w
  | [], _ => by simp [Op.eqItems]
  | i :: is, h => by
    obtain ⟨h1, h2⟩ := h i (by simp)
    have ih := run_eqItems_at d l m w is (fun j hj => h j (by simp [hj]))
    have hc : Tryd.prog.cellsOf 5 = 1 := by kernel_rfl
    rw [hc] at ih ⊢
    have p1 : (part 5 (byteCells l).toArray (i * 1)).run Tryd.prog w = .ok (.int .u8 (V (l.getD i 0))) w := run_part_plain w (by kernel_rfl) (by rw [Nat.mul_one, List.getElem?_toArray]; exact byteCells_get _ _ h1)
    have p2 : (part 5 (byteCells m).toArray (i * 1)).run Tryd.prog w = .ok (.int .u8 (V (m.getD i 0))) w := run_part_plain w (by kernel_rfl) (by rw [Nat.mul_one, List.getElem?_toArray]; exact byteCells_get _ _ h2)
    have p3 := run_equalIn_int (P := Tryd.prog) w d 5 .u8 .u8 (V (l.getD i 0)) (V (m.getD i 0)) Tryd.underlying5
    simp only [Op.eqItems, Sem.run_bind, p1, p2, p3, Result.andThen_ok, List.all_cons]
    cases (V (l.getD i 0) == V (m.getD i 0))
    · simp
    · simpa using ih
set_option maxRecDepth 100000 in
theorem eq_sums_at (d : Nat) (l m : List UInt8) (hl : l.length = 32) (hm : m.length = 32) (w : World) : (Op.equalIn (d + 2) 34 (.agg (byteCells l).toArray) (.agg (byteCells m).toArray)).run Tryd.prog w = .ok (l == m) w := by
  obtain ⟨i0, hi, hz0, hz1, hz2⟩ := info_parts info_u8
  rw [show d + 2 = d + 1 + 1 from rfl, run_equalIn_array w (d + 1) _ _ Tryd.underlying34 hi, run_eqItems_at d l m w _ (fun i hi => by have := List.mem_range.1 hi; omega)]
  congr 1
  rw [Bool.eq_iff_iff, List.all_eq_true, beq_iff_eq]
  constructor
  · intro h
    apply List.ext_getElem (by omega)
    intro i h1 h2
    have := h i (List.mem_range.2 (by omega))
    rw [beq_iff_eq] at this
    have := V_inj this
    simpa [h1, h2] using this
  · rintro rfl i _
    simp
set_option maxRecDepth 100000 in
theorem eqFields_two {P : Program} (d : Nat) (xs ys : Array Value) (f0 f1 : Field) (h0 : f0.name ≠ "_") (h1 : f1.name ≠ "_") (a0 b0 a1 b1 : Value) (r : Bool) (w : World)
    (p0 : (part f0.type xs f0.offset).run P w = .ok a0 w) (q0 : (part f0.type ys f0.offset).run P w = .ok b0 w) (e0 : (Op.equalIn d f0.type a0 b0).run P w = .ok true w)
    (p1 : (part f1.type xs f1.offset).run P w = .ok a1 w) (q1 : (part f1.type ys f1.offset).run P w = .ok b1 w) (e1 : (Op.equalIn d f1.type a1 b1).run P w = .ok r w) :
    (Op.eqFields d xs ys [f0, f1]).run P w = .ok r w := by
  cases r <;> simp [Op.eqFields, h0, h1, p0, q0, e0, p1, q1, e1]
set_option maxRecDepth 100000 in
theorem keys2_fields : ∃ f0 f1 : Field, (Tryd.prog.fieldsOf 36).toList = [f0, f1] ∧ f0.name ≠ "_" ∧ f1.name ≠ "_" ∧ f0.type = 34 ∧ f1.type = 34 ∧ f0.offset = 0 ∧ f1.offset = 32 :=
  ⟨_, _, rfl, by decide, by decide, rfl, rfl, rfl, rfl⟩
set_option maxRecDepth 100000 in
theorem ring2_fields : ∃ f0 f1 : Field, (Tryd.prog.fieldsOf 62).toList = [f0, f1] ∧ f0.name ≠ "_" ∧ f1.name ≠ "_" ∧ f0.type = 36 ∧ f1.type = 34 ∧ f0.offset = 0 ∧ f1.offset = 64 :=
  ⟨_, _, rfl, by decide, by decide, rfl, rfl, rfl, rfl⟩
set_option maxRecDepth 100000 in
theorem part28 (xs : Array Value) (o : Nat) (w : World) : (part 34 xs o).run Tryd.prog w = .ok (.agg (xs.extract o (o + 32))) w := by kernel_rfl
set_option maxRecDepth 100000 in
theorem partKeys2 (xs : Array Value) (o : Nat) (w : World) : (part 36 xs o).run Tryd.prog w = .ok (.agg (xs.extract o (o + 64))) w := by kernel_rfl
set_option maxRecDepth 100000 in
theorem cut_cells (A B C : List UInt8) (a b : Nat) (hA : A.length = a) (hB : B.length = b) : (byteCells (A ++ (B ++ C))).toArray.extract a (a + b) = (byteCells B).toArray := by
  subst hA hB
  simp [byteCells]
set_option maxRecDepth 100000 in
theorem eq_keys2 (d : Nat) (A B : List UInt8) (hA : A.length = 32) (hB : B.length = 32) (w : World) : (Op.equalIn (d + 3) 36 (.agg (byteCells (A ++ B)).toArray) (.agg (byteCells (A ++ B)).toArray)).run Tryd.prog w = .ok true w := by
  rw [show d + 3 = d + 2 + 1 from rfl, run_equalIn_struct w (d + 2) _ _ _ (by kernel_rfl) (by kernel_rfl)]
  obtain ⟨f0, f1, hf, n0, n1, t0, t1, o0, o1⟩ := keys2_fields
  rw [hf]
  have c0 := cut_cells [] A B 0 32 rfl hA
  have c1 := cut_cells A B [] 32 32 hA hB
  simp only [List.nil_append, List.append_nil] at c0 c1
  refine eqFields_two (d + 2) _ _ f0 f1 n0 n1 _ _ _ _ true w (by rw [t0, o0]; exact part28 _ _ _) (by rw [t0, o0]; exact part28 _ _ _) ?_ (by rw [t1, o1]; exact part28 _ _ _) (by rw [t1, o1]; exact part28 _ _ _) ?_
  · rw [t0, c0, eq_sums_at d A A hA hA]; simp
  · rw [t1, c1, eq_sums_at d B B hB hB]; simp
set_option maxRecDepth 100000 in
theorem eq_ring2 (A B C : List UInt8) (hA : A.length = 32) (hB : B.length = 32) (hC : C.length = 32) (w : World) : (Op.equalIn 10000 62 (.agg (byteCells (A ++ (B ++ C))).toArray) (.agg (byteCells (A ++ (B ++ C))).toArray)).run Tryd.prog w = .ok true w := by
  rw [show (10000 : Nat) = 9999 + 1 from rfl, run_equalIn_struct w 9999 _ _ _ (by kernel_rfl) (by kernel_rfl)]
  obtain ⟨f0, f1, hf, n0, n1, t0, t1, o0, o1⟩ := ring2_fields
  rw [hf]
  have c0 := cut_cells [] (A ++ B) C 0 64 rfl (by rw [List.length_append]; omega)
  have c1 := cut_cells (A ++ B) C [] 64 32 (by rw [List.length_append]; omega) hC
  simp only [List.nil_append, List.append_nil, List.append_assoc] at c0 c1
  refine eqFields_two 9999 _ _ f0 f1 n0 n1 _ _ _ _ true w (by rw [t0, o0]; exact partKeys2 _ _ _) (by rw [t0, o0]; exact partKeys2 _ _ _) ?_ (by rw [t1, o1]; exact part28 _ _ _) (by rw [t1, o1]; exact part28 _ _ _) ?_
  · rw [t0, c0]; exact eq_keys2 9996 A B hA hB w
  · rw [t1, c1, show (9999 : Nat) = 9997 + 2 from rfl, eq_sums_at 9997 C C hC hC]; simp
set_option maxRecDepth 100000 in
theorem eql_ring2 (L : List UInt8) (hL : L.length = 96) (w : World) : (binOp .eql 62 (.agg (byteCells L).toArray) (.agg (byteCells L).toArray)).run Tryd.prog w = .ok (.bool true) w := by
  have h : (Op.equalIn 10000 62 (.agg (byteCells L).toArray) (.agg (byteCells L).toArray)).run Tryd.prog w = .ok true w := by
    have := eq_ring2 (L.take 32) ((L.drop 32).take 32) ((L.drop 32).drop 32) (by rw [List.length_take]; omega) (by rw [List.length_take, List.length_drop]; omega) (by rw [List.length_drop, List.length_drop]; omega) w
    rwa [List.take_append_drop, List.take_append_drop] at this
  rw [run_eql_struct, h]
  rfl
set_option maxRecDepth 100000 in
theorem egtRing2 : Tryd.prog.eqGuardType Tryd.prog.depth 62 = false := by kernel_rfl
end Go.Proofs.YtjkhokholcchfaaDoor
