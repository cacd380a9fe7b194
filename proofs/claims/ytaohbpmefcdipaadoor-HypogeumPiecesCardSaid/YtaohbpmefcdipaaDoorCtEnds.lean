/- The contracts of ends, holds, to, tame and bytes. -/
import Derived.Test.YtaohbpmefcdipaaDoorCtKp
namespace Go.Proofs.YtaohbpmefcdipaaDoor.Ct
open Go.RowKit

def ruleCells (a b c : Int) (m : W) : List Value := [.int .i64 a, .int .i64 b, .int .i64 c, .int .u64 (U m)]
def Rl.cells (r : Rl) : List Value := ruleCells (r.least : Int) (r.most : Int) (r.bits : Int) r.poly
theorem U_beqd (x y : W) : (U x == U y) = decide (x = y) := by
  by_cases h : x = y
  · subst h; simp
  · have : U x ≠ U y := fun e => h (U_inj e)
    simp [h, this]
attribute [local go_sem] U_shl1 U_and U_beqd
set_option maxHeartbeats 400000 in
set_option maxRecDepth 100000 in
theorem ends_any (r : Rl) (hr : r.ok) (n : Nat) (s : W) (w : World) :
    Calls Tryd.prog 40 #[.agg #[.int .i64 (r.least : Int), .int .i64 (r.most : Int), .int .i64 (r.bits : Int), .int .u64 (U r.poly)], .int .i64 (n : Int), .int .u64 (U s)] w fun e w' => e = .returned (.bool (decide (r.most ≤ n) || (decide (r.least ≤ n) && r.hit s))) ∧ Below w.heap.size w w' := by
  have hb0 : 0 ≤ (r.bits : Int) := by omega
  have hb1 : (r.bits : Int) ≤ 64 := by have := hr.h5; omega
  have hs1 := U_sub1 r.bits (by have := hr.h5; omega)
  have e1 : (1#64 <<< r.bits) - 1#64 = r.ones := rfl
  rw [e1] at hs1
  unfold Rl.hit
  clear e1
  generalize r.ones = ones at *
  obtain ⟨least, most, bt, m⟩ := r
  clear hr
  dsimp only at *
  go_enter Tryd.func40, Tryd.ntmps40
  go_wp2_with fail
  all_goals
    go_ret
    refine ⟨ret_bool ?_, ((Below.refl _ _).alloc (Nat.le_refl _) _)⟩
    first
    | (simp [*]; done)
    | (have : most ≤ n := by omega
       simp [this])
/-- Is it a rule? -/
def okRule (a b c : Int) (m : W) : Prop := 64 ≤ a ∧ a ≤ b ∧ b ≤ 65536 ∧ 1 ≤ c ∧ c ≤ 20 ∧ 24 ≤ dgw m
instance (a b c : Int) (m : W) : Decidable (okRule a b c m) := by unfold okRule; infer_instance
set_option maxHeartbeats 400000 in
set_option maxRecDepth 100000 in
theorem holds_any (a b c : Int) (m : W) (w : World) :
    Calls Tryd.prog 31 #[.agg #[.int .i64 a, .int .i64 b, .int .i64 c, .int .u64 (U m)]] w fun e w' => e = .returned (.bool (decide (okRule a b c m))) ∧ Below w.heap.size w w' := by
  have d1 := dgw_le m
  go_enter Tryd.func31, Tryd.ntmps31
  go_wp2_with ((with_reducible refine (deg_any _ _).mono ?_); rintro e w' ⟨rfl, rfl⟩)
  all_goals
    go_ret
    refine ⟨ret_bool ?_, ((Below.refl _ _).alloc (Nat.le_refl _) _)⟩
    first
    | exact Eq.symm (decide_eq_true (by unfold okRule; omega))
    | exact Eq.symm (decide_eq_false (by unfold okRule; omega))
theorem mod_nat (x : Int) (k : Int) (h0 : 0 < k) (h1 : k ≤ 1000) : ∃ y : Nat, wrap64 ((IntKind.u64.wrap x).tmod k) = (y : Int) ∧ (y : Int) < k := by
  have h2 : 0 ≤ IntKind.u64.wrap x := by rw [IntKind.wrap_u64]; omega
  rw [Int.tmod_eq_emod_of_nonneg h2]
  have h3 : 0 ≤ IntKind.u64.wrap x % k ∧ IntKind.u64.wrap x % k < k := ⟨Int.emod_nonneg _ (by omega), Int.emod_lt_of_pos _ h0⟩
  generalize IntKind.u64.wrap x % k = y at *
  refine ⟨y.toNat, ?_, by omega⟩
  unfold wrap64
  omega
set_option maxRecDepth 100000 in
theorem cutnew_bad (a b c : Int) (m : W) (w : World) (h : ¬ okRule a b c m) :
    Calls Tryd.prog 17 #[.agg #[.int .i64 a, .int .i64 b, .int .i64 c, .int .u64 (U m)]] w fun e w' => e = .returned (.tuple #[.pointer none, .int .i64 1]) ∧ Below w.heap.size w w' := by
  have t1 : decide (okRule a b c m) = false := by simpa using h
  clear h
  go_enter Tryd.func17, Tryd.ntmps17
  go_wp2_with fail
  refine (holds_any _ _ _ _ _).mono ?_
  rintro e w1 ⟨rfl, hb⟩
  have H1 := Lib.hid (((Below.refl w.heap.size w).alloc (Nat.le_refl _) _).trans (hb.mono (by simp)))
  clear hb
  go_wp2_with fail
  go_ret2
  exact ⟨rfl, H1.out⟩
end Go.Proofs.YtaohbpmefcdipaaDoor.Ct
