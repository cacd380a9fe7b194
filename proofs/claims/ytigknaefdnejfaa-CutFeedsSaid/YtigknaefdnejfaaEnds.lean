/- The contracts of ends, holds, to, tame and bytes. -/
import Derived.Test.YtigknaefdnejfaaKp
namespace Go.Proofs.Ytigknaefdnejfaa
open Go.RowKit

def ruleCells (a b c : Int) (m : W) : List Value := [.int .i64 a, .int .i64 b, .int .i64 c, .int .u64 (U m)]
def Rl.cells (r : Rl) : List Value := ruleCells (r.least : Int) (r.most : Int) (r.bits : Int) r.poly
theorem U_beqd (x y : W) : (U x == U y) = decide (x = y) := by
  by_cases h : x = y
  · subst h; simp
  · have : U x ≠ U y := fun e => h (U_inj e)
    simp [h, this]
attribute [local go_sem] U_shl1 U_and U_beqd
set_option maxHeartbeats 400000 in
theorem ends_any (r : Rl) (hr : r.ok) (n : Nat) (s : W) (w : World) :
    Calls Try.prog 35 #[.agg #[.int .i64 (r.least : Int), .int .i64 (r.most : Int), .int .i64 (r.bits : Int), .int .u64 (U r.poly)], .int .i64 (n : Int), .int .u64 (U s)] w fun e w' => e = .returned (.bool (decide (r.most ≤ n) || (decide (r.least ≤ n) && r.hit s))) ∧ Below w.heap.size w w' := by
  have hb0 : 0 ≤ (r.bits : Int) := by omega
  have hb1 : (r.bits : Int) ≤ 64 := by have := hr.h5; omega
  have hs1 := U_sub1 r.bits (by have := hr.h5; omega)
  have e1 : (1#64 <<< r.bits) - 1#64 = r.ones := rfl
  rw [e1] at hs1
  unfold Rl.hit
  clear e1
  generalize r.ones = ones at *
  obtain ⟨least, most, bt, m⟩ := r
  clear hr
  dsimp only at *
  go_enter Try.func35, Try.ntmps35
  go_wp2_with fail
  all_goals
    go_ret
    refine ⟨ret_bool ?_, ((Below.refl _ _).alloc (Nat.le_refl _) _)⟩
    first
    | (simp [*]; done)
    | (have : most ≤ n := by omega
       simp [this])
/-- Is it a rule? -/
def okRule (a b c : Int) (m : W) : Prop := 64 ≤ a ∧ a ≤ b ∧ b ≤ 65536 ∧ 1 ≤ c ∧ c ≤ 20 ∧ 24 ≤ dgw m
instance (a b c : Int) (m : W) : Decidable (okRule a b c m) := by unfold okRule; infer_instance
set_option maxHeartbeats 400000 in
theorem holds_any (a b c : Int) (m : W) (w : World) :
    Calls Try.prog 22 #[.agg #[.int .i64 a, .int .i64 b, .int .i64 c, .int .u64 (U m)]] w fun e w' => e = .returned (.bool (decide (okRule a b c m))) ∧ Below w.heap.size w w' := by
  have d1 := dgw_le m
  go_enter Try.func22, Try.ntmps22
  go_wp2_with ((with_reducible refine (deg_any _ _).mono ?_); rintro e w' ⟨rfl, rfl⟩)
  all_goals
    go_ret
    refine ⟨ret_bool ?_, ((Below.refl _ _).alloc (Nat.le_refl _) _)⟩
    first
    | exact Eq.symm (decide_eq_true (by unfold okRule; omega))
    | exact Eq.symm (decide_eq_false (by unfold okRule; omega))
theorem to_any (a b c : Int) (m : W) (w : World) :
    Calls Try.prog 12 #[.agg #[.int .i64 a, .int .i64 b, .int .i64 c, .int .u64 (U m)]] w fun e w' => e = .returned (.agg #[.int .i64 a, .int .i64 b, .int .i64 c, .int .u64 (U m)]) ∧ Below w.heap.size w w' := by
  go_enter Try.func12, Try.ntmps12
  go_wp2_with fail
  have B1 := blockIs.new (w.alloc (Obj.cells #[Value.int .i64 a, .int .i64 b, .int .i64 c, .int .u64 (U m)] 24)) (ruleCells a b c m) 33
  refine bodyPost_ret (v := .agg (ruleCells a b c m).toArray) (results_cell_row rfl _ _ (w.heap.size + 1) 33 _ (0, 0) _ rfl (by simpa [blockIs, ruleCells] using B1) Try.underlying33 rfl (by kernel_rfl)) rfl ?_
  exact ⟨rfl, ((Below.refl _ _).alloc (Nat.le_refl _) _).alloc (by simp) _⟩
theorem mod_nat (x : Int) (k : Int) (h0 : 0 < k) (h1 : k ≤ 1000) : ∃ y : Nat, wrap64 ((IntKind.u64.wrap x).tmod k) = (y : Int) ∧ (y : Int) < k := by
  have h2 : 0 ≤ IntKind.u64.wrap x := by rw [IntKind.wrap_u64]; omega
  rw [Int.tmod_eq_emod_of_nonneg h2]
  have h3 : 0 ≤ IntKind.u64.wrap x % k ∧ IntKind.u64.wrap x % k < k := ⟨Int.emod_nonneg _ (by omega), Int.emod_lt_of_pos _ h0⟩
  generalize IntKind.u64.wrap x % k = y at *
  refine ⟨y.toNat, ?_, by omega⟩
  unfold wrap64
  omega
set_option maxRecDepth 100000 in
set_option maxHeartbeats 1000000 in
theorem tame_any (a b c : Int) (m : W) (w : World) (ha : (Lit.int .i64 a).wf = true) (hb : (Lit.int .i64 b).wf = true) (hc : (Lit.int .i64 c).wf = true) :
    Calls Try.prog 18 #[.agg #[.int .i64 a, .int .i64 b, .int .i64 c, .int .u64 (U m)]] w fun e w' => ∃ r : Rl, r.ok ∧ e = .returned (.agg #[.int .i64 (r.least : Int), .int .i64 (r.most : Int), .int .i64 (r.bits : Int), .int .u64 (U r.poly)]) ∧ Below w.heap.size w w' := by
  go_enter Try.func18, Try.ntmps18
  go_wp2_with fail
  obtain ⟨y1, e1, l1⟩ := mod_nat a 200 (by decide) (by decide)
  obtain ⟨y2, e2, l2⟩ := mod_nat b 400 (by decide) (by decide)
  obtain ⟨y3, e3, l3⟩ := mod_nat c 8 (by decide) (by decide)
  obtain ⟨A, hA, A1, A2⟩ : ∃ A : Nat, wrap64 (64 + (y1 : Int)) = (A : Int) ∧ 64 ≤ A ∧ A ≤ 263 := ⟨64 + y1, by unfold wrap64; omega, by omega, by omega⟩
  obtain ⟨B, hB, B1, B2⟩ : ∃ B : Nat, wrap64 ((A : Int) + (y2 : Int)) = (B : Int) ∧ A ≤ B ∧ B ≤ 662 := ⟨A + y2, by unfold wrap64; omega, by omega, by omega⟩
  obtain ⟨C, hC, C1, C2⟩ : ∃ C : Nat, wrap64 (1 + (y3 : Int)) = (C : Int) ∧ 1 ≤ C ∧ C ≤ 8 := ⟨1 + y3, by unfold wrap64; omega, by omega, by omega⟩
  rw [e1, e2, e3, hA, hB, hC]
  clear e1 e2 e3 hA hB hC ha hb hc
  generalize (IntKind.u64.wrap a).tmod 200 = z1
  generalize (IntKind.u64.wrap b).tmod 400 = z2
  generalize (IntKind.u64.wrap c).tmod 8 = z3
  generalize IntKind.u64.wrap a = z4
  generalize IntKind.u64.wrap b = z5
  generalize IntKind.u64.wrap c = z6
  have B0 := (blockIs.new w (ruleCells (A : Int) (B : Int) (C : Int) m) 24).alloc (.cells (ruleCells 0 0 0 0).toArray 24 (0, 0))
  have B9 := blockIs.new (w.alloc (Obj.cells (ruleCells (A : Int) (B : Int) (C : Int) m).toArray 24)) (ruleCells 0 0 0 0) 24
  refine (refDeg_any _ _).mono ?_
  rintro e w1 ⟨rfl, hb⟩
  have B0 : Hid (blockIs w1 w.heap.size (ruleCells (A : Int) (B : Int) (C : Int) m) 24) := Lib.hid (B0.below hb (by simp; omega))
  have B9 : Hid (blockIs w1 (w.heap.size + 1) (ruleCells 0 0 0 0) 24) := Lib.hid (by
    have := B9.below hb (by simp)
    simpa using this)
  have H1 : Hid (Below w.heap.size w w1) := Lib.hid ((((Below.refl w.heap.size w).alloc (Nat.le_refl _) _).alloc (by simp) _).trans (hb.mono (by simp; omega)))
  have G1 : Hid (w.heap.size ≤ w1.heap.size) := Lib.hid H1.out.size
  clear hb
  have c0 : w1.cell? ⟨w.heap.size, 0, none⟩ = some (.int .i64 (A : Int)) := B0.out.cell 0
  have c1 : w1.cell? ⟨w.heap.size, 1, none⟩ = some (.int .i64 (B : Int)) := B0.out.cell 1
  have c2 : w1.cell? ⟨w.heap.size, 2, none⟩ = some (.int .i64 (C : Int)) := B0.out.cell 2
  have c3 : w1.cell? ⟨w.heap.size, 3, none⟩ = some (.int .u64 (U m)) := B0.out.cell 3
  have f3 := B0.out.free 3
  have k0 : w1.cell? ⟨w.heap.size + 1, 0, none⟩ = some (.int .i64 0) := B9.out.cell 0
  have k1 : w1.cell? ⟨w.heap.size + 1, 1, none⟩ = some (.int .i64 0) := B9.out.cell 1
  have k2 : w1.cell? ⟨w.heap.size + 1, 2, none⟩ = some (.int .i64 0) := B9.out.cell 2
  have k3 : w1.cell? ⟨w.heap.size + 1, 3, none⟩ = some (.int .u64 0) := B9.out.cell 3
  have f4 := B9.out.free 0
  have f5 := B9.out.free 1
  have f6 := B9.out.free 2
  have f7 := B9.out.free 3
  by_cases hm : dgw m < 24
  · have t1 : decide (dgw m < 24) = true := by simpa using hm
    clear hm
    go_wp2_with fail
    have B9 := ((((B9.out.other ⟨w.heap.size, 3, none⟩ (.int .u64 17349423945073011) (by simp)).set 0 (.int .i64 (A : Int))).set 1 (.int .i64 (B : Int))).set 2 (.int .i64 (C : Int))).set 3 (.int .u64 17349423945073011)
    refine bodyPost_ret (v := .agg (ruleCells (A : Int) (B : Int) (C : Int) 17349423945073011#64).toArray) (results_cell_row rfl _ _ (w.heap.size + 1) 24 _ (0, 0) _ rfl B9 Try.underlying24 rfl (by kernel_rfl)) rfl ?_
    refine ⟨⟨A, B, C, 17349423945073011#64⟩, ⟨A1, B1, by show B ≤ 65536; omega, C1, by show C ≤ 20; omega, by show 24 ≤ dgw 17349423945073011#64; decide +kernel⟩, rfl, ?_⟩
    exact ((((H1.out.setCell (by simp) _).setCell (by simp) _).setCell (by simp) _).setCell (by simp) _).setCell (by simp) _
  · have t1 : decide (dgw m < 24) = false := by simpa using hm
    have HM : Hid (24 ≤ dgw m) := Lib.hid (by omega)
    clear hm
    go_wp2_with fail
    have B9 := (((B9.out.set 0 (.int .i64 (A : Int))).set 1 (.int .i64 (B : Int))).set 2 (.int .i64 (C : Int))).set 3 (.int .u64 (U m))
    refine bodyPost_ret (v := .agg (ruleCells (A : Int) (B : Int) (C : Int) m).toArray) (results_cell_row rfl _ _ (w.heap.size + 1) 24 _ (0, 0) _ rfl B9 Try.underlying24 rfl (by kernel_rfl)) rfl ?_
    refine ⟨⟨A, B, C, m⟩, ⟨A1, B1, by show B ≤ 65536; omega, C1, by show C ≤ 20; omega, HM.out⟩, rfl, ?_⟩
    exact (((H1.out.setCell (by simp) _).setCell (by simp) _).setCell (by simp) _).setCell (by simp) _
theorem cutnew_bad (a b c : Int) (m : W) (w : World) (h : ¬ okRule a b c m) :
    Calls Try.prog 11 #[.agg #[.int .i64 a, .int .i64 b, .int .i64 c, .int .u64 (U m)]] w fun e w' => e = .returned (.tuple #[.pointer none, .int .i64 1]) ∧ Below w.heap.size w w' := by
  have t1 : decide (okRule a b c m) = false := by simpa using h
  clear h
  go_enter Try.func11, Try.ntmps11
  go_wp2_with fail
  refine (holds_any _ _ _ _ _).mono ?_
  rintro e w1 ⟨rfl, hb⟩
  have H1 := Lib.hid (((Below.refl w.heap.size w).alloc (Nat.le_refl _) _).trans (hb.mono (by simp)))
  clear hb
  go_wp2_with fail
  go_ret2
  exact ⟨rfl, H1.out⟩
theorem bytes_any (a : Option Addr) (n c : Nat) (w : World) (hc : n ≤ c) :
    Calls Try.prog 10 #[.slice a n c] w fun e w' => e = .returned (.slice a (min n 2500) c) ∧ w' = w := by
  have e2 : (min (n : Int) 2500).toNat = min n 2500 := by omega
  go_enter Try.func10, Try.ntmps10
  go_wp2_with fail
  go_ret
  exact ⟨rfl, rfl⟩
end Go.Proofs.Ytigknaefdnejfaa
