/- Nodes: plain words, cells; the small calls of package node. -/
import Derived.Test.YtjgmhaajcglpmaaRn
import Derived.Great.BuildSlice
namespace Go.Proofs.Ytjgmhaajcglpmaa
open Go.RowKit

structure Nd where
  name : List UInt8
  kind : Int
  mode : Int
  time : Int
  size : Int
  target : List UInt8
  parts : List (List UInt8)
  tree : List UInt8
/-- A node's first seven cells; all. -/
def Nd.head (n : Nd) (pv : Value) : List Value := [.string (str n.name), .int .i64 n.kind, .int .i64 n.mode, .int .i64 n.time, .int .i64 n.size, .string (str n.target), pv]
def Nd.cells (n : Nd) (pv : Value) : List Value := n.head pv ++ bvals n.tree
theorem Nd.cells_length (n : Nd) (pv : Value) (h : n.tree.length = 32) : (n.cells pv).length = 39 := by
  rw [Nd.cells, List.length_append, bvals_length, h]
  rfl
theorem Nd.cells_at (n : Nd) (pv : Value) (j : Nat) (h : j < 7) : (n.cells pv)[j]? = (n.head pv)[j]? := by
  rw [Nd.cells, List.getElem?_append_left h]
/-- Block k is a node's. -/
theorem nd_block {w : World} {k : Nat} {n : Nd} {pv : Value} {t : TypeId} (h : blockIs w k (n.cells pv) t) :
    w.cell? ⟨k, 0, none⟩ = some (.string (str n.name)) ∧ w.cell? ⟨k, 1, none⟩ = some (.int .i64 n.kind) ∧ w.cell? ⟨k, 2, none⟩ = some (.int .i64 n.mode) ∧ w.cell? ⟨k, 3, none⟩ = some (.int .i64 n.time) ∧
    w.cell? ⟨k, 4, none⟩ = some (.int .i64 n.size) ∧ w.cell? ⟨k, 5, none⟩ = some (.string (str n.target)) ∧ w.cell? ⟨k, 6, none⟩ = some pv := by
  refine ⟨?_, ?_, ?_, ?_, ?_, ?_, ?_⟩ <;> (rw [h.cell, Nd.cells_at _ _ _ (by decide)]; rfl)
theorem nd_tree {w : World} {k : Nat} {n : Nd} {pv : Value} {t : TypeId} (h : blockIs w k (n.cells pv) t) : w.rangeAt k 7 (bvals n.tree) := by
  intro j v hj
  rw [h.cell, Nd.cells, List.getElem?_append_right (by show 7 ≤ 7 + j; omega)]
  show (bvals n.tree)[7 + j - 7]? = _
  rw [Nat.add_sub_cancel_left]
  exact hj
theorem nd_all {w : World} {k : Nat} {n : Nd} {pv : Value} {t : TypeId} (h : blockIs w k (n.cells pv) t) : w.rangeAt k 0 (n.cells pv) := by
  intro j v hj
  rw [Nat.zero_add, h.cell]
  exact hj
theorem nd_info {n : Nd} {pv : Value} (h : n.tree.length = 32) : (Try.prog.info? 33).map (·.size) = some (n.cells pv).length := by
  rw [n.cells_length pv h]
  kernel_rfl
set_option maxRecDepth 100000 in
theorem within_any (n m : Int) (w : World) :
    Calls Try.prog 26 #[.int .i64 n, .int .i64 m] w fun e w' => e = .returned (.bool (decide (0 ≤ n ∧ n ≤ m))) ∧ w = w' := by
  by_cases h0 : 0 ≤ n
  · by_cases h1 : n ≤ m
    · go_enter Try.func26, Try.ntmps26
      go_wp2_with fail
      go_ret
      exact ⟨ret_bool (by simp [h0, h1]), rfl⟩
    · go_enter Try.func26, Try.ntmps26
      go_wp2_with fail
      go_ret
      exact ⟨ret_bool (by simp [h1]), rfl⟩
  · have e : decide (0 ≤ n) = false := by simpa using h0
    go_enter Try.func26, Try.ntmps26
    go_wp2_with fail
    go_ret
    exact ⟨ret_bool (by simp [h0]), rfl⟩
theorem nat_beq0 (m : Nat) : ((m : Int) == 0) = decide (m = 0) := by
  rw [Bool.eq_iff_iff, beq_iff_eq, decide_eq_true_eq]
  omega
theorem decide_and_true {p q : Prop} [Decidable p] [Decidable q] (h : p) : decide (p ∧ q) = decide q := by simp [h]
theorem decide_and_false {p q : Prop} [Decidable p] [Decidable q] (h : ¬ p) : decide (p ∧ q) = false := by simp [h]
set_option maxRecDepth 100000 in
theorem isEmpty_any (n : Nd) (a : Option Addr) (c : Nat) (w : World) (ht : n.tree.length = 32) :
    Calls Try.prog 49 #[.agg (n.cells (.slice a n.parts.length c)).toArray] w fun e w' => e = .returned (.bool (decide (n.size = 0 ∧ n.parts.length = 0))) ∧ Below w.heap.size w w' := by
  have B1 := Lib.hid ((Below.refl w.heap.size w).alloc (Nat.le_refl _) (.cells (n.cells (.slice a n.parts.length c)).toArray 33 (0, 0)))
  obtain ⟨-, -, -, -, c4, -, c6⟩ := nd_block (blockIs.new w (n.cells (.slice a n.parts.length c)) 33)
  generalize n.cells (.slice a n.parts.length c) = cs at *
  by_cases h0 : n.size = 0
  · go_enter Try.func49, Try.ntmps49
    go_wp2_with fail
    go_ret
    exact ⟨ret_bool (by rw [decide_and_true h0, nat_beq0]), B1.out⟩
  · have e : (n.size == 0) = false := by simpa using h0
    go_enter Try.func49, Try.ntmps49
    go_wp2_with fail
    go_ret
    exact ⟨ret_bool (by simp [h0]), B1.out⟩
/-- Can bytes of the size be in so many parts? -/
def Nd.partsOk (n : Nd) : Prop := (0 ≤ n.size ∧ n.size ≤ 1048576) ∧ (n.parts.length : Int) ≤ n.size ∧ ((n.parts.length = 0) ↔ n.size = 0)
instance (n : Nd) : Decidable n.partsOk := by unfold Nd.partsOk; infer_instance
set_option maxRecDepth 100000 in
theorem fitsParts_any (n : Nd) (a : Option Addr) (c : Nat) (w : World) :
    Calls Try.prog 48 #[.agg (n.cells (.slice a n.parts.length c)).toArray] w fun e w' => e = .returned (.bool (decide n.partsOk)) ∧ Below w.heap.size w w' := by
  have B1 := Lib.hid ((Below.refl w.heap.size w).alloc (Nat.le_refl _) (.cells (n.cells (.slice a n.parts.length c)).toArray 33 (0, 0)))
  obtain ⟨-, -, -, -, c4, -, c6⟩ := nd_block (blockIs.new w (n.cells (.slice a n.parts.length c)) 33)
  generalize n.cells (.slice a n.parts.length c) = cs at *
  have WI := fun w => within_any n.size 1048576 w
  unfold Nd.partsOk
  by_cases h0 : 0 ≤ n.size ∧ n.size ≤ 1048576
  · rw [decide_eq_true h0] at WI
    rw [decide_and_true h0]
    by_cases h1 : (n.parts.length : Int) ≤ n.size
    · rw [decide_and_true h1]
      have hb : (((n.parts.length : Int) == 0) == (n.size == 0)) = decide ((n.parts.length = 0) ↔ n.size = 0) := by
        rw [nat_beq0]
        by_cases q1 : n.parts.length = 0 <;> by_cases q2 : n.size = 0 <;> simp [q1, q2]
      generalize decide ((n.parts.length = 0) ↔ n.size = 0) = bb at *
      go_enter Try.func48, Try.ntmps48
      go_wp2_with fail
      with_reducible refine (WI _).mono ?_
      rintro e w' ⟨rfl, rfl⟩
      go_wp2_with fail
      go_ret
      exact ⟨rfl, B1.out⟩
    · rw [decide_and_false h1]
      go_enter Try.func48, Try.ntmps48
      go_wp2_with fail
      with_reducible refine (WI _).mono ?_
      rintro e w' ⟨rfl, rfl⟩
      go_wp2_with fail
      go_ret
      exact ⟨rfl, B1.out⟩
  · rw [decide_eq_false h0] at WI
    rw [decide_and_false h0]
    clear h0
    go_enter Try.func48, Try.ntmps48
    go_wp2_with fail
    with_reducible refine (WI _).mono ?_
    rintro e w' ⟨rfl, rfl⟩
    go_wp2_with fail
    go_ret
    exact ⟨rfl, B1.out⟩
/-! Two names of blobs, held against each other. -/
theorem V_inj {a b : UInt8} (h : V a = V b) : a = b := by
  unfold V at h
  exact UInt8.toNat_inj.1 (by omega)
theorem run_eqItems_bytes (l m : List UInt8) (w : World) : ∀ (is : List Nat), (∀ i ∈ is, i < l.length ∧ i < m.length) →
    (Op.eqItems 9999 5 (Try.prog.cellsOf 5) (bvals l).toArray (bvals m).toArray is).run Try.prog w = .ok (is.all fun i => V (l.getD i 0) == V (m.getD i 0)) w
  | [], _ => by simp [Op.eqItems]
  | i :: is, h => by
    obtain ⟨h1, h2⟩ := h i (by simp)
    have ih := run_eqItems_bytes l m w is (fun j hj => h j (by simp [hj]))
    have hc : Try.prog.cellsOf 5 = 1 := by kernel_rfl
    rw [hc] at ih ⊢
    have p1 : (part 5 (bvals l).toArray (i * 1)).run Try.prog w = .ok (.int .u8 (V (l.getD i 0))) w := run_part_plain w (by kernel_rfl) (by rw [Nat.mul_one, List.getElem?_toArray]; simp [bvals, h1])
    have p2 : (part 5 (bvals m).toArray (i * 1)).run Try.prog w = .ok (.int .u8 (V (m.getD i 0))) w := run_part_plain w (by kernel_rfl) (by rw [Nat.mul_one, List.getElem?_toArray]; simp [bvals, h2])
    have p3 := run_equalIn_int (P := Try.prog) w 9998 5 .u8 .u8 (V (l.getD i 0)) (V (m.getD i 0)) Try.underlying5
    simp only [Op.eqItems, Sem.run_bind, p1, p2, Result.andThen_ok]
    rw [show (9999 : Nat) = 9998 + 1 from rfl, p3]
    simp only [Result.andThen_ok, List.all_cons]
    cases (V (l.getD i 0) == V (m.getD i 0))
    · simp
    · simpa using ih
set_option maxRecDepth 100000 in
theorem eq_ids (l m : List UInt8) (hl : l.length = 32) (hm : m.length = 32) (w : World) : (Op.equalIn 10000 24 (.agg (bvals l).toArray) (.agg (bvals m).toArray)).run Try.prog w = .ok (l == m) w := by
  obtain ⟨i0, hi, hz0, hz1, hz2⟩ := info_parts info_u8
  rw [show (10000 : Nat) = 9999 + 1 from rfl, run_equalIn_array w 9999 _ _ Try.underlying24 hi, run_eqItems_bytes l m w _ (fun i hi => by have := List.mem_range.1 hi; omega)]
  congr 1
  rw [Bool.eq_iff_iff, List.all_eq_true, beq_iff_eq]
  constructor
  · intro h
    apply List.ext_getElem (by omega)
    intro i h1 h2
    have := h i (List.mem_range.2 (by omega))
    rw [beq_iff_eq] at this
    have := V_inj this
    simpa [h1, h2] using this
  · rintro rfl i _
    simp
set_option maxRecDepth 100000 in
theorem eql_ids (l m : List UInt8) (hl : l.length = 32) (hm : m.length = 32) (w : World) : (binOp .eql 24 (.agg (bvals l).toArray) (.agg (bvals m).toArray)).run Try.prog w = .ok (.bool (l == m)) w := by
  rw [run_eql_struct, eq_ids l m hl hm]
  rfl
theorem egt_id : Try.prog.eqGuardType Try.prog.depth 24 = false := by kernel_rfl
def noughts : List UInt8 := List.replicate 32 0
theorem id_zero : (zeroValue 24).run Try.prog = fun w => .ok (.agg (bvals noughts).toArray) w := by kernel_rfl
end Go.Proofs.Ytjgmhaajcglpmaa
