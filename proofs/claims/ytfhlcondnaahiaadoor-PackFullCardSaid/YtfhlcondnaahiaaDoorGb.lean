/- The contracts of the functions that turn a word to the right: the program's (by the library's turn to the left) and the document's own. -/
import Derived.Test.YtfhlcondnaahiaaDoorRows
import Derived.Test.YtfhlcondnaahiaaDoorGa
import Derived.WalkKit
import Derived.WalkSpells
import Derived.WalkLawsBesides
import Derived.Deep.QuietTactic
import Derived.BigQuiet
import Derived.StillTailTactics
import Derived.BigRegion
section
namespace Go.Proofs.YtfhlcondnaahiaaDoor
open Go.RowKit Sha

theorem ret_u32 {a b : Int} (h : a = b) : Ending.returned (.int .u32 a) = .returned (.int .u32 b) := by rw [h]

set_option maxRecDepth 100000 in
set_option maxHeartbeats 400000 in
theorem rot2 (x : W) (w : World) :
    Calls Tryd.prog 99 #[.int .u32 (U x), .int .i64 (-2)] w fun e w' => e = .returned (.int .u32 (U (ror x 2))) ∧ w = w' := by
  have e1 : bits BinOp.and IntKind.u64 (IntKind.u64.wrap (-2)) 31 = 30 := by decide +kernel
  have h0 := U_nonneg x
  go_enter Tryd.func99, Tryd.ntmps99
  go_wp2
  go_ret
  exact ⟨ret_u32 (or_ror x 2 _ _ rfl rfl), rfl⟩
set_option maxRecDepth 100000 in
set_option maxHeartbeats 400000 in
theorem right2 (x : W) (w : World) :
    Calls Tryd.prog 103 #[.int .u32 (U x), .int .i64 2] w fun e w' => e = .returned (.int .u32 (U (ror x 2))) ∧ w = w' := by
  go_enter Tryd.func103, Tryd.ntmps103
  go_wp2_with (go_at_call 99; refine (rot2 _ _).mono ?_; rintro e w' ⟨rfl, rfl⟩)
  go_ret
  exact ⟨rfl, rfl⟩
set_option maxRecDepth 100000 in
set_option maxHeartbeats 400000 in
theorem turn2 (x : W) (w : World) :
    Calls Tryd.prog 96 #[.int .u32 (U x), .int .i64 2] w fun e w' => e = .returned (.int .u32 (U (ror x 2))) ∧ ∃ k, w' = w.drewN k := by
  have h0 := U_nonneg x
  go_enter Tryd.func96, Tryd.ntmps96
  go_wp2
  go_quiet (fail)
  go_wp2
  go_ret
  exact ⟨ret_u32 (ror_or x 2 _ _ rfl rfl), _, rfl⟩

set_option maxRecDepth 100000 in
set_option maxHeartbeats 400000 in
theorem rot6 (x : W) (w : World) :
    Calls Tryd.prog 99 #[.int .u32 (U x), .int .i64 (-6)] w fun e w' => e = .returned (.int .u32 (U (ror x 6))) ∧ w = w' := by
  have e1 : bits BinOp.and IntKind.u64 (IntKind.u64.wrap (-6)) 31 = 26 := by decide +kernel
  have h0 := U_nonneg x
  go_enter Tryd.func99, Tryd.ntmps99
  go_wp2
  go_ret
  exact ⟨ret_u32 (or_ror x 6 _ _ rfl rfl), rfl⟩
set_option maxRecDepth 100000 in
set_option maxHeartbeats 400000 in
theorem right6 (x : W) (w : World) :
    Calls Tryd.prog 103 #[.int .u32 (U x), .int .i64 6] w fun e w' => e = .returned (.int .u32 (U (ror x 6))) ∧ w = w' := by
  go_enter Tryd.func103, Tryd.ntmps103
  go_wp2_with (go_at_call 99; refine (rot6 _ _).mono ?_; rintro e w' ⟨rfl, rfl⟩)
  go_ret
  exact ⟨rfl, rfl⟩
set_option maxRecDepth 100000 in
set_option maxHeartbeats 400000 in
theorem turn6 (x : W) (w : World) :
    Calls Tryd.prog 96 #[.int .u32 (U x), .int .i64 6] w fun e w' => e = .returned (.int .u32 (U (ror x 6))) ∧ ∃ k, w' = w.drewN k := by
  have h0 := U_nonneg x
  go_enter Tryd.func96, Tryd.ntmps96
  go_wp2
  go_quiet (fail)
  go_wp2
  go_ret
  exact ⟨ret_u32 (ror_or x 6 _ _ rfl rfl), _, rfl⟩

set_option maxRecDepth 100000 in
set_option maxHeartbeats 400000 in
theorem rot7 (x : W) (w : World) :
    Calls Tryd.prog 99 #[.int .u32 (U x), .int .i64 (-7)] w fun e w' => e = .returned (.int .u32 (U (ror x 7))) ∧ w = w' := by
  have e1 : bits BinOp.and IntKind.u64 (IntKind.u64.wrap (-7)) 31 = 25 := by decide +kernel
  have h0 := U_nonneg x
  go_enter Tryd.func99, Tryd.ntmps99
  go_wp2
  go_ret
  exact ⟨ret_u32 (or_ror x 7 _ _ rfl rfl), rfl⟩
set_option maxRecDepth 100000 in
set_option maxHeartbeats 400000 in
theorem right7 (x : W) (w : World) :
    Calls Tryd.prog 103 #[.int .u32 (U x), .int .i64 7] w fun e w' => e = .returned (.int .u32 (U (ror x 7))) ∧ w = w' := by
  go_enter Tryd.func103, Tryd.ntmps103
  go_wp2_with (go_at_call 99; refine (rot7 _ _).mono ?_; rintro e w' ⟨rfl, rfl⟩)
  go_ret
  exact ⟨rfl, rfl⟩
set_option maxRecDepth 100000 in
set_option maxHeartbeats 400000 in
theorem turn7 (x : W) (w : World) :
    Calls Tryd.prog 96 #[.int .u32 (U x), .int .i64 7] w fun e w' => e = .returned (.int .u32 (U (ror x 7))) ∧ ∃ k, w' = w.drewN k := by
  have h0 := U_nonneg x
  go_enter Tryd.func96, Tryd.ntmps96
  go_wp2
  go_quiet (fail)
  go_wp2
  go_ret
  exact ⟨ret_u32 (ror_or x 7 _ _ rfl rfl), _, rfl⟩

set_option maxRecDepth 100000 in
set_option maxHeartbeats 400000 in
theorem rot11 (x : W) (w : World) :
    Calls Tryd.prog 99 #[.int .u32 (U x), .int .i64 (-11)] w fun e w' => e = .returned (.int .u32 (U (ror x 11))) ∧ w = w' := by
  have e1 : bits BinOp.and IntKind.u64 (IntKind.u64.wrap (-11)) 31 = 21 := by decide +kernel
  have h0 := U_nonneg x
  go_enter Tryd.func99, Tryd.ntmps99
  go_wp2
  go_ret
  exact ⟨ret_u32 (or_ror x 11 _ _ rfl rfl), rfl⟩
set_option maxRecDepth 100000 in
set_option maxHeartbeats 400000 in
theorem right11 (x : W) (w : World) :
    Calls Tryd.prog 103 #[.int .u32 (U x), .int .i64 11] w fun e w' => e = .returned (.int .u32 (U (ror x 11))) ∧ w = w' := by
  go_enter Tryd.func103, Tryd.ntmps103
  go_wp2_with (go_at_call 99; refine (rot11 _ _).mono ?_; rintro e w' ⟨rfl, rfl⟩)
  go_ret
  exact ⟨rfl, rfl⟩
set_option maxRecDepth 100000 in
set_option maxHeartbeats 400000 in
theorem turn11 (x : W) (w : World) :
    Calls Tryd.prog 96 #[.int .u32 (U x), .int .i64 11] w fun e w' => e = .returned (.int .u32 (U (ror x 11))) ∧ ∃ k, w' = w.drewN k := by
  have h0 := U_nonneg x
  go_enter Tryd.func96, Tryd.ntmps96
  go_wp2
  go_quiet (fail)
  go_wp2
  go_ret
  exact ⟨ret_u32 (ror_or x 11 _ _ rfl rfl), _, rfl⟩

set_option maxRecDepth 100000 in
set_option maxHeartbeats 400000 in
theorem rot13 (x : W) (w : World) :
    Calls Tryd.prog 99 #[.int .u32 (U x), .int .i64 (-13)] w fun e w' => e = .returned (.int .u32 (U (ror x 13))) ∧ w = w' := by
  have e1 : bits BinOp.and IntKind.u64 (IntKind.u64.wrap (-13)) 31 = 19 := by decide +kernel
  have h0 := U_nonneg x
  go_enter Tryd.func99, Tryd.ntmps99
  go_wp2
  go_ret
  exact ⟨ret_u32 (or_ror x 13 _ _ rfl rfl), rfl⟩
set_option maxRecDepth 100000 in
set_option maxHeartbeats 400000 in
theorem right13 (x : W) (w : World) :
    Calls Tryd.prog 103 #[.int .u32 (U x), .int .i64 13] w fun e w' => e = .returned (.int .u32 (U (ror x 13))) ∧ w = w' := by
  go_enter Tryd.func103, Tryd.ntmps103
  go_wp2_with (go_at_call 99; refine (rot13 _ _).mono ?_; rintro e w' ⟨rfl, rfl⟩)
  go_ret
  exact ⟨rfl, rfl⟩
set_option maxRecDepth 100000 in
set_option maxHeartbeats 400000 in
theorem turn13 (x : W) (w : World) :
    Calls Tryd.prog 96 #[.int .u32 (U x), .int .i64 13] w fun e w' => e = .returned (.int .u32 (U (ror x 13))) ∧ ∃ k, w' = w.drewN k := by
  have h0 := U_nonneg x
  go_enter Tryd.func96, Tryd.ntmps96
  go_wp2
  go_quiet (fail)
  go_wp2
  go_ret
  exact ⟨ret_u32 (ror_or x 13 _ _ rfl rfl), _, rfl⟩

set_option maxRecDepth 100000 in
set_option maxHeartbeats 400000 in
theorem rot17 (x : W) (w : World) :
    Calls Tryd.prog 99 #[.int .u32 (U x), .int .i64 (-17)] w fun e w' => e = .returned (.int .u32 (U (ror x 17))) ∧ w = w' := by
  have e1 : bits BinOp.and IntKind.u64 (IntKind.u64.wrap (-17)) 31 = 15 := by decide +kernel
  have h0 := U_nonneg x
  go_enter Tryd.func99, Tryd.ntmps99
  go_wp2
  go_ret
  exact ⟨ret_u32 (or_ror x 17 _ _ rfl rfl), rfl⟩
set_option maxRecDepth 100000 in
set_option maxHeartbeats 400000 in
theorem right17 (x : W) (w : World) :
    Calls Tryd.prog 103 #[.int .u32 (U x), .int .i64 17] w fun e w' => e = .returned (.int .u32 (U (ror x 17))) ∧ w = w' := by
  go_enter Tryd.func103, Tryd.ntmps103
  go_wp2_with (go_at_call 99; refine (rot17 _ _).mono ?_; rintro e w' ⟨rfl, rfl⟩)
  go_ret
  exact ⟨rfl, rfl⟩
set_option maxRecDepth 100000 in
set_option maxHeartbeats 400000 in
theorem turn17 (x : W) (w : World) :
    Calls Tryd.prog 96 #[.int .u32 (U x), .int .i64 17] w fun e w' => e = .returned (.int .u32 (U (ror x 17))) ∧ ∃ k, w' = w.drewN k := by
  have h0 := U_nonneg x
  go_enter Tryd.func96, Tryd.ntmps96
  go_wp2
  go_quiet (fail)
  go_wp2
  go_ret
  exact ⟨ret_u32 (ror_or x 17 _ _ rfl rfl), _, rfl⟩

set_option maxRecDepth 100000 in
set_option maxHeartbeats 400000 in
theorem rot18 (x : W) (w : World) :
    Calls Tryd.prog 99 #[.int .u32 (U x), .int .i64 (-18)] w fun e w' => e = .returned (.int .u32 (U (ror x 18))) ∧ w = w' := by
  have e1 : bits BinOp.and IntKind.u64 (IntKind.u64.wrap (-18)) 31 = 14 := by decide +kernel
  have h0 := U_nonneg x
  go_enter Tryd.func99, Tryd.ntmps99
  go_wp2
  go_ret
  exact ⟨ret_u32 (or_ror x 18 _ _ rfl rfl), rfl⟩
set_option maxRecDepth 100000 in
set_option maxHeartbeats 400000 in
theorem right18 (x : W) (w : World) :
    Calls Tryd.prog 103 #[.int .u32 (U x), .int .i64 18] w fun e w' => e = .returned (.int .u32 (U (ror x 18))) ∧ w = w' := by
  go_enter Tryd.func103, Tryd.ntmps103
  go_wp2_with (go_at_call 99; refine (rot18 _ _).mono ?_; rintro e w' ⟨rfl, rfl⟩)
  go_ret
  exact ⟨rfl, rfl⟩
set_option maxRecDepth 100000 in
set_option maxHeartbeats 400000 in
theorem turn18 (x : W) (w : World) :
    Calls Tryd.prog 96 #[.int .u32 (U x), .int .i64 18] w fun e w' => e = .returned (.int .u32 (U (ror x 18))) ∧ ∃ k, w' = w.drewN k := by
  have h0 := U_nonneg x
  go_enter Tryd.func96, Tryd.ntmps96
  go_wp2
  go_quiet (fail)
  go_wp2
  go_ret
  exact ⟨ret_u32 (ror_or x 18 _ _ rfl rfl), _, rfl⟩

set_option maxRecDepth 100000 in
set_option maxHeartbeats 400000 in
theorem rot19 (x : W) (w : World) :
    Calls Tryd.prog 99 #[.int .u32 (U x), .int .i64 (-19)] w fun e w' => e = .returned (.int .u32 (U (ror x 19))) ∧ w = w' := by
  have e1 : bits BinOp.and IntKind.u64 (IntKind.u64.wrap (-19)) 31 = 13 := by decide +kernel
  have h0 := U_nonneg x
  go_enter Tryd.func99, Tryd.ntmps99
  go_wp2
  go_ret
  exact ⟨ret_u32 (or_ror x 19 _ _ rfl rfl), rfl⟩
set_option maxRecDepth 100000 in
set_option maxHeartbeats 400000 in
theorem right19 (x : W) (w : World) :
    Calls Tryd.prog 103 #[.int .u32 (U x), .int .i64 19] w fun e w' => e = .returned (.int .u32 (U (ror x 19))) ∧ w = w' := by
  go_enter Tryd.func103, Tryd.ntmps103
  go_wp2_with (go_at_call 99; refine (rot19 _ _).mono ?_; rintro e w' ⟨rfl, rfl⟩)
  go_ret
  exact ⟨rfl, rfl⟩
set_option maxRecDepth 100000 in
set_option maxHeartbeats 400000 in
theorem turn19 (x : W) (w : World) :
    Calls Tryd.prog 96 #[.int .u32 (U x), .int .i64 19] w fun e w' => e = .returned (.int .u32 (U (ror x 19))) ∧ ∃ k, w' = w.drewN k := by
  have h0 := U_nonneg x
  go_enter Tryd.func96, Tryd.ntmps96
  go_wp2
  go_quiet (fail)
  go_wp2
  go_ret
  exact ⟨ret_u32 (ror_or x 19 _ _ rfl rfl), _, rfl⟩

set_option maxRecDepth 100000 in
set_option maxHeartbeats 400000 in
theorem rot22 (x : W) (w : World) :
    Calls Tryd.prog 99 #[.int .u32 (U x), .int .i64 (-22)] w fun e w' => e = .returned (.int .u32 (U (ror x 22))) ∧ w = w' := by
  have e1 : bits BinOp.and IntKind.u64 (IntKind.u64.wrap (-22)) 31 = 10 := by decide +kernel
  have h0 := U_nonneg x
  go_enter Tryd.func99, Tryd.ntmps99
  go_wp2
  go_ret
  exact ⟨ret_u32 (or_ror x 22 _ _ rfl rfl), rfl⟩
set_option maxRecDepth 100000 in
set_option maxHeartbeats 400000 in
theorem right22 (x : W) (w : World) :
    Calls Tryd.prog 103 #[.int .u32 (U x), .int .i64 22] w fun e w' => e = .returned (.int .u32 (U (ror x 22))) ∧ w = w' := by
  go_enter Tryd.func103, Tryd.ntmps103
  go_wp2_with (go_at_call 99; refine (rot22 _ _).mono ?_; rintro e w' ⟨rfl, rfl⟩)
  go_ret
  exact ⟨rfl, rfl⟩
set_option maxRecDepth 100000 in
set_option maxHeartbeats 400000 in
theorem turn22 (x : W) (w : World) :
    Calls Tryd.prog 96 #[.int .u32 (U x), .int .i64 22] w fun e w' => e = .returned (.int .u32 (U (ror x 22))) ∧ ∃ k, w' = w.drewN k := by
  have h0 := U_nonneg x
  go_enter Tryd.func96, Tryd.ntmps96
  go_wp2
  go_quiet (fail)
  go_wp2
  go_ret
  exact ⟨ret_u32 (ror_or x 22 _ _ rfl rfl), _, rfl⟩

set_option maxRecDepth 100000 in
set_option maxHeartbeats 400000 in
theorem rot25 (x : W) (w : World) :
    Calls Tryd.prog 99 #[.int .u32 (U x), .int .i64 (-25)] w fun e w' => e = .returned (.int .u32 (U (ror x 25))) ∧ w = w' := by
  have e1 : bits BinOp.and IntKind.u64 (IntKind.u64.wrap (-25)) 31 = 7 := by decide +kernel
  have h0 := U_nonneg x
  go_enter Tryd.func99, Tryd.ntmps99
  go_wp2
  go_ret
  exact ⟨ret_u32 (or_ror x 25 _ _ rfl rfl), rfl⟩
set_option maxRecDepth 100000 in
set_option maxHeartbeats 400000 in
theorem right25 (x : W) (w : World) :
    Calls Tryd.prog 103 #[.int .u32 (U x), .int .i64 25] w fun e w' => e = .returned (.int .u32 (U (ror x 25))) ∧ w = w' := by
  go_enter Tryd.func103, Tryd.ntmps103
  go_wp2_with (go_at_call 99; refine (rot25 _ _).mono ?_; rintro e w' ⟨rfl, rfl⟩)
  go_ret
  exact ⟨rfl, rfl⟩
set_option maxRecDepth 100000 in
set_option maxHeartbeats 400000 in
theorem turn25 (x : W) (w : World) :
    Calls Tryd.prog 96 #[.int .u32 (U x), .int .i64 25] w fun e w' => e = .returned (.int .u32 (U (ror x 25))) ∧ ∃ k, w' = w.drewN k := by
  have h0 := U_nonneg x
  go_enter Tryd.func96, Tryd.ntmps96
  go_wp2
  go_quiet (fail)
  go_wp2
  go_ret
  exact ⟨ret_u32 (ror_or x 25 _ _ rfl rfl), _, rfl⟩

theorem right_any (x : W) (n : Int) (w : World) (hn : Turn n) :
    Calls Tryd.prog 103 #[.int .u32 (U x), .int .i64 n] w fun e w' => e = .returned (.int .u32 (U (ror x n.toNat))) ∧ w' = w := by
  rcases hn with rfl | rfl | rfl | rfl | rfl | rfl | rfl | rfl | rfl | rfl
  · exact (right2 x w).mono fun _ _ h => ⟨h.1, h.2.symm⟩
  · exact (right6 x w).mono fun _ _ h => ⟨h.1, h.2.symm⟩
  · exact (right7 x w).mono fun _ _ h => ⟨h.1, h.2.symm⟩
  · exact (right11 x w).mono fun _ _ h => ⟨h.1, h.2.symm⟩
  · exact (right13 x w).mono fun _ _ h => ⟨h.1, h.2.symm⟩
  · exact (right17 x w).mono fun _ _ h => ⟨h.1, h.2.symm⟩
  · exact (right18 x w).mono fun _ _ h => ⟨h.1, h.2.symm⟩
  · exact (right19 x w).mono fun _ _ h => ⟨h.1, h.2.symm⟩
  · exact (right22 x w).mono fun _ _ h => ⟨h.1, h.2.symm⟩
  · exact (right25 x w).mono fun _ _ h => ⟨h.1, h.2.symm⟩
theorem turn_any (x : W) (n : Int) (w : World) (hn : Turn n) :
    Calls Tryd.prog 96 #[.int .u32 (U x), .int .i64 n] w fun e w' => e = .returned (.int .u32 (U (ror x n.toNat))) ∧ ∃ k, w' = w.drewN k := by
  rcases hn with rfl | rfl | rfl | rfl | rfl | rfl | rfl | rfl | rfl | rfl
  · exact turn2 x w
  · exact turn6 x w
  · exact turn7 x w
  · exact turn11 x w
  · exact turn13 x w
  · exact turn17 x w
  · exact turn18 x w
  · exact turn19 x w
  · exact turn22 x w
  · exact turn25 x w

end Go.Proofs.YtfhlcondnaahiaaDoor
end
section
/- (*run).work: a block of 64 bytes is worked into the register. -/
namespace Go.Proofs.YtfhlcondnaahiaaDoor
open Go.RowKit Sha

/-- The register as eight cells. -/
def regCells (r : Reg) : List Value := r.list.map fun x => .int .u32 (U x)

attribute [local go_sem] V_wrap32 V_mod32 U_wrap U_shl8 U_shl16 U_shl24 U_shlw8 U_shlw16 U_shlw24 U_or U_xor U_and U_not U_not2 U_add U_addw U_shr3 U_shr10

/-- The register with its first k words added up. -/
def mix (r R : Reg) (k : Nat) : Nat → W := fun j => if j < k then r.list.getD j 0 + R.list.getD j 0 else r.list.getD j 0
theorem mix_succ (r R : Reg) (k : Nat) : (fun j => if j = k then r.list.getD k 0 + R.list.getD k 0 else mix r R k j) = mix r R (k + 1) := by
  funext j
  unfold mix
  by_cases e : j = k
  · subst e; simp
  · by_cases h : j < k
    · simp [e, h, show j < k + 1 by omega]
    · simp [e, h, show ¬ j < k + 1 by omega]
theorem regs_get (R : Reg) (k : Nat) (h : k < 8) : (#[.int .u32 (U R.a), .int .u32 (U R.b), .int .u32 (U R.c), .int .u32 (U R.d), .int .u32 (U R.e), .int .u32 (U R.f), .int .u32 (U R.g), .int .u32 (U R.h)] : Array Value)[k]? = some (.int .u32 (U (R.list.getD k 0))) := by
  match k, h with
  | 0, _ => rfl
  | 1, _ => rfl
  | 2, _ => rfl
  | 3, _ => rfl
  | 4, _ => rfl
  | 5, _ => rfl
  | 6, _ => rfl
  | 7, _ => rfl
theorem info61 : (Tryd.prog.info? 188).map (·.size) = some 64 := by kernel_rfl

set_option maxRecDepth 100000 in
set_option maxHeartbeats 2000000 in
theorem work_any (b bb bo n c : Nat) (pre post : List Value) (T : TypeId) (r : Reg) (l : List UInt8) (w : World) (hn : 64 ≤ n) (hc : n ≤ 9223372036854775807)
    (hb : ∀ j, j < 64 → w.cell? ⟨bb, bo + j, none⟩ = some (.int .u8 (V (l.getD j 0)))) (hbb : bb < w.heap.size)
    (hr : blockIs w b (pre ++ (regCells r ++ post)) T) (hk : ∀ j, j < 64 → w.cell? ⟨1, j, none⟩ = some (.int .u32 (U (consts.getD j 0)))) (hg : 1 < w.heap.size) (_ : b ≠ 1) :
    Calls Tryd.prog 89 #[.pointer (some ⟨b, pre.length, none⟩), .slice (some ⟨bb, bo, none⟩) n c] w fun e w' => e = .returned (.tuple #[]) ∧ blockIs w' b (pre ++ (regCells (block r l) ++ post)) T ∧ But b w w' := by
  go_enter Tryd.func89, Tryd.ntmps89
  go_wp2_with fail
  go_loopw [23, 5, 61] (fun i _ _ wr => ∃ k : Nat, k ≤ 16 ∧ i = .int .i64 k ∧ blockIs wr w.heap.size (cells32 (fill32 (words l k)) 64) 188 ∧ wr.heap.size = w.heap.size + 1 ∧ Below w.heap.size w wr) (fun i _ _ _ => 16 - (intOf i).toNat)
  case atStart =>
    exact ⟨0, by omega, rfl, blockIs.new w (List.replicate 64 (.int .u32 0)) _, by simp, (Below.refl _ _).alloc (Nat.le_refl _) _⟩
  case round =>
    obtain ⟨k, hk16, rfl, h1, h2, h3⟩ := hrel
    by_cases hlt : k < 16
    · have c0 : wr.cell? ⟨bb, bo + 4 * k, none⟩ = some (.int .u8 (V (l.getD (4 * k) 0))) := by rw [h3.cell hbb]; exact hb (4 * k) (by omega)
      have c1 : wr.cell? ⟨bb, bo + (4 * k + 1), none⟩ = some (.int .u8 (V (l.getD (4 * k + 1) 0))) := by rw [h3.cell hbb]; exact hb (4 * k + 1) (by omega)
      have c2 : wr.cell? ⟨bb, bo + (4 * k + 2), none⟩ = some (.int .u8 (V (l.getD (4 * k + 2) 0))) := by rw [h3.cell hbb]; exact hb (4 * k + 2) (by omega)
      have c3 : wr.cell? ⟨bb, bo + (4 * k + 3), none⟩ = some (.int .u8 (V (l.getD (4 * k + 3) 0))) := by rw [h3.cell hbb]; exact hb (4 * k + 3) (by omega)
      have c4 : wr.frozen? ⟨w.heap.size, k, none⟩ = false := h1.free k
      obtain ⟨z, c5⟩ : ∃ z, wr.cell? ⟨w.heap.size, k, none⟩ = some z := ⟨_, h1.at k (by rw [cells32_length]; omega)⟩
      have H1 := Lib.hid h1
      have H2 := Lib.hid h2
      have H3 := Lib.hid h3
      have HB := Lib.hid hb
      have HK := Lib.hid hk
      have HR := Lib.hid hr
      clear h1 h2 h3 hb hk hr
      have i0 : IntKind.i64.wrap (4 * (k : Int)) = 4 * (k : Int) := IntWalk.i64_in _ (by omega)
      have i1 : IntKind.i64.wrap (4 * (k : Int) + 1) = 4 * (k : Int) + 1 := IntWalk.i64_in _ (by omega)
      have i2 : IntKind.i64.wrap (4 * (k : Int) + 2) = 4 * (k : Int) + 2 := IntWalk.i64_in _ (by omega)
      have i3 : IntKind.i64.wrap (4 * (k : Int) + 3) = 4 * (k : Int) + 3 := IntWalk.i64_in _ (by omega)
      have n0 : (4 * (k : Int)).toNat = 4 * k := by omega
      have n1 : (4 * (k : Int) + 1).toNat = 4 * k + 1 := by omega
      have n2 : (4 * (k : Int) + 2).toNat = 4 * k + 2 := by omega
      have n3 : (4 * (k : Int) + 3).toNat = 4 * k + 3 := by omega
      have p0 : 0 ≤ 4 * (k : Int) := by omega
      have p1 : 0 ≤ 4 * (k : Int) + 1 := by omega
      have p2 : 0 ≤ 4 * (k : Int) + 2 := by omega
      have p3 : 0 ≤ 4 * (k : Int) + 3 := by omega
      have q0 : 4 * (k : Int) < n := by omega
      have q1 : 4 * (k : Int) + 1 < n := by omega
      have q2 : 4 * (k : Int) + 2 < n := by omega
      have q3 : 4 * (k : Int) + 3 < n := by omega
      have p4 : 0 ≤ (k : Int) := by omega
      have q4 : (k : Int) < 64 := by omega
      go_wp2_with fail
      go_still_tail 35, (by kernel_rfl)
      change wpList _ _ _ _ _ wr.drew
      go_wp2_with fail
      clear i0 i1 i2 i3 n0 n1 n2 n3
      have hw := words_length l k
      go_roundw
      case rel =>
        refine ⟨k + 1, by omega, by go_num, ?_, by simpa [World.setCell] using H2.out, (H3.out.setCell (Nat.le_refl _) _).drew⟩
        rw [words_lo l k hlt]
        have := (H1.out.set k (.int .u32 (U (wordAt l k))))
        have e := cells32_fill_set (words l k) 64 (by omega) (wordAt l k)
        rw [hw] at e
        rw [e] at this
        exact this
      case measure => simp [intOf]; omega
    · obtain rfl : k = 16 := by omega
      rw [show ((16 : Nat) : Int) = 16 from rfl]
      clear hb
      have HK := Lib.hid hk
      have HR := Lib.hid hr
      have H1 := Lib.hid h1
      clear h1 hk hr
      go_wp2_with fail
      clear hlt hk16
      go_loopw [6] (fun i w2 => ∃ k : Nat, 16 ≤ k ∧ k ≤ 64 ∧ i = .int .i64 k ∧ blockIs w2 w.heap.size (cells32 (fill32 (words l k)) 64) 188 ∧ w2.heap.size = w.heap.size + 1 ∧ Below w.heap.size w w2) (fun i _ => 64 - (intOf i).toNat)
      case atStart => exact ⟨16, by omega, by omega, rfl, H1.out, h2, h3⟩
      case round =>
        obtain ⟨k, hk1, hk2, rfl, h4, h5, h6⟩ := hrel
        clear h2 h3 H1
        by_cases hlt : k < 64
        · have hw := words_length l k
          have c15 : wr.cell? ⟨w.heap.size, k - 15, none⟩ = some (.int .u32 (U (fill32 (words l k) (k - 15)))) := by rw [h4.cell]; exact cells32_get _ _ _ (by omega)
          have c2 : wr.cell? ⟨w.heap.size, k - 2, none⟩ = some (.int .u32 (U (fill32 (words l k) (k - 2)))) := by rw [h4.cell]; exact cells32_get _ _ _ (by omega)
          have c16 : wr.cell? ⟨w.heap.size, k - 16, none⟩ = some (.int .u32 (U (fill32 (words l k) (k - 16)))) := by rw [h4.cell]; exact cells32_get _ _ _ (by omega)
          have c7 : wr.cell? ⟨w.heap.size, k - 7, none⟩ = some (.int .u32 (U (fill32 (words l k) (k - 7)))) := by rw [h4.cell]; exact cells32_get _ _ _ (by omega)
          have c4 : wr.frozen? ⟨w.heap.size, k, none⟩ = false := h4.free k
          obtain ⟨z, c5⟩ : ∃ z, wr.cell? ⟨w.heap.size, k, none⟩ = some z := ⟨_, h4.at k (by rw [cells32_length]; omega)⟩
          have HW := Lib.hid hw
          have H4 := Lib.hid h4
          have H5 := Lib.hid h5
          have H6 := Lib.hid h6
          clear hw h4 h5 h6
          have i15 : IntKind.i64.wrap ((k : Int) - 15) = (k : Int) - 15 := IntWalk.i64_in _ (by omega)
          have i2 : IntKind.i64.wrap ((k : Int) - 2) = (k : Int) - 2 := IntWalk.i64_in _ (by omega)
          have i16 : IntKind.i64.wrap ((k : Int) - 16) = (k : Int) - 16 := IntWalk.i64_in _ (by omega)
          have i7 : IntKind.i64.wrap ((k : Int) - 7) = (k : Int) - 7 := IntWalk.i64_in _ (by omega)
          have n15 : ((k : Int) - 15).toNat = k - 15 := by omega
          have n2 : ((k : Int) - 2).toNat = k - 2 := by omega
          have n16 : ((k : Int) - 16).toNat = k - 16 := by omega
          have n7 : ((k : Int) - 7).toNat = k - 7 := by omega
          have p15 : 0 ≤ (k : Int) - 15 := by omega
          have p2 : 0 ≤ (k : Int) - 2 := by omega
          have p16 : 0 ≤ (k : Int) - 16 := by omega
          have p7 : 0 ≤ (k : Int) - 7 := by omega
          have q15 : (k : Int) - 15 < 64 := by omega
          have q2 : (k : Int) - 2 < 64 := by omega
          have q16 : (k : Int) - 16 < 64 := by omega
          have q7 : (k : Int) - 7 < 64 := by omega
          have p : 0 ≤ (k : Int) := by omega
          have q : (k : Int) < 64 := by omega
          have r16 : (16 : Int) ≤ k := by omega
          have r7 : (7 : Int) ≤ k := by omega
          have s16 : (k : Int) < 80 := by omega
          have s7 : (k : Int) < 71 := by omega
          go_wp2_with fail
          go_quiet (fail)
          go_wp2_with fail
          refine (right7 _ _).mono ?_; rintro e w' ⟨rfl, rfl⟩
          go_wp2_with fail
          refine (right18 _ _).mono ?_; rintro e w' ⟨rfl, rfl⟩
          go_wp2_with fail
          refine (right17 _ _).mono ?_; rintro e w' ⟨rfl, rfl⟩
          go_wp2_with fail
          refine (right19 _ _).mono ?_; rintro e w' ⟨rfl, rfl⟩
          go_wp2_with fail
          replace c16 : (wr.drewN nq).cell? ⟨w.heap.size, k - 16, none⟩ = _ := c16
          replace c7 : (wr.drewN nq).cell? ⟨w.heap.size, k - 7, none⟩ = _ := c7
          replace c4 : (wr.drewN nq).frozen? ⟨w.heap.size, k, none⟩ = _ := c4
          replace c5 : (wr.drewN nq).cell? ⟨w.heap.size, k, none⟩ = _ := c5
          replace H4 : Hid (blockIs (wr.drewN nq) _ _ _) := H4
          replace H5 : Hid ((wr.drewN nq).heap.size = _) := H5
          replace H6 : Hid (Below _ w (wr.drewN nq)) := Lib.hid ⟨H6.out.os, H6.out.tape, H6.out.output, H6.out.size, H6.out.block⟩
          clear c15 c2
          generalize wr.drewN nq = wq at *
          go_still_tail 15, (by kernel_rfl)
          change wpList _ _ _ _ _ wq.drew
          go_wp2_with fail
          clear i15 i2 i16 i7 n15 n2 n16 n7
          go_roundw
          case rel =>
            refine ⟨k + 1, by omega, by omega, by go_num, ?_, by simpa [World.setCell] using H5.out, (H6.out.setCell (Nat.le_refl _) _).drew⟩
            have e := words_hi l k (by omega)
            have hs := H4.out.set k (.int .u32 (U (nextW (words l k))))
            have ef := cells32_fill_set (words l k) 64 (by rw [HW.out]; omega) (nextW (words l k))
            rw [HW.out] at ef
            rw [ef, ← e] at hs
            have en : nextW (words l k) = fill32 (words l k) (k - 16) + sg0 (fill32 (words l k) (k - 15)) + fill32 (words l k) (k - 7) + sg1 (fill32 (words l k) (k - 2)) := by
              unfold nextW fill32; rw [HW.out]
            rw [en] at hs
            exact hs
          case measure => simp [intOf]; omega
        · obtain rfl : k = 64 := by omega
          rw [show ((64 : Nat) : Int) = 64 from rfl]
          have hlt0 : b < w.heap.size := HR.out.lt
          have hr2 := HR.out.below h6 hlt0
          have gd : ∀ j (x : W), (regCells r)[j]? = some (.int .u32 (U x)) → wr.cell? ⟨b, pre.length + j, none⟩ = some (.int .u32 (U x)) := by
            intro j x hj
            rw [hr2.cell, List.getElem?_append_right (by omega), List.getElem?_append_left (by
              have := (List.getElem?_eq_some_iff.1 hj).1
              omega)]
            simpa using hj
          have d0 : wr.cell? ⟨b, pre.length, none⟩ = some (.int .u32 (U r.a)) := gd 0 _ rfl
          have d1 := gd 1 r.b rfl
          have d2 := gd 2 r.c rfl
          have d3 := gd 3 r.d rfl
          have d4 := gd 4 r.e rfl
          have d5 := gd 5 r.f rfl
          have d6 := gd 6 r.g rfl
          have d7 := gd 7 r.h rfl
          have H4 := Lib.hid h4
          have H5 := Lib.hid h5
          have H6 := Lib.hid h6
          have HR2 := Lib.hid hr2
          clear h4 h5 h6 hr2 gd hk1 hk2 hlt
          go_wp2_with fail
          go_quiet (fail)
          have F1 : Hid (blockIs ((wr.alloc (.cells #[.int .u32 (U r.a), .int .u32 (U r.b), .int .u32 (U r.c), .int .u32 (U r.d), .int .u32 (U r.e), .int .u32 (U r.f), .int .u32 (U r.g), .int .u32 (U r.h)] 132)).drewN nq) b (pre ++ (regCells r ++ post)) T) := Lib.hid ((HR2.out.alloc _).drewN nq)
          have F2 : Hid (blockIs ((wr.alloc (.cells #[.int .u32 (U r.a), .int .u32 (U r.b), .int .u32 (U r.c), .int .u32 (U r.d), .int .u32 (U r.e), .int .u32 (U r.f), .int .u32 (U r.g), .int .u32 (U r.h)] 132)).drewN nq) w.heap.size (cells32 (fill32 (words l 64)) 64) 188) := Lib.hid ((H4.out.alloc _).drewN nq)
          have F3 : Hid (Below w.heap.size w ((wr.alloc (.cells #[.int .u32 (U r.a), .int .u32 (U r.b), .int .u32 (U r.c), .int .u32 (U r.d), .int .u32 (U r.e), .int .u32 (U r.f), .int .u32 (U r.g), .int .u32 (U r.h)] 132)).drewN nq)) := Lib.hid (by
            have := H6.out.alloc H6.out.size (.cells #[.int .u32 (U r.a), .int .u32 (U r.b), .int .u32 (U r.c), .int .u32 (U r.d), .int .u32 (U r.e), .int .u32 (U r.f), .int .u32 (U r.g), .int .u32 (U r.h)] 132)
            exact ⟨this.os, this.tape, this.output, this.size, this.block⟩)
          generalize (wr.alloc (.cells #[.int .u32 (U r.a), .int .u32 (U r.b), .int .u32 (U r.c), .int .u32 (U r.d), .int .u32 (U r.e), .int .u32 (U r.f), .int .u32 (U r.g), .int .u32 (U r.h)] 132)).drewN nq = w3 at *
          clear d0 d1 d2 d3 d4 d5 d6 d7 H4 H5 H6 HR2
          go_wp2_with (refine wpList_load_row rfl 188 _ rfl w.heap.size rfl 188 _ (0, 0) _ F2.out Tryd.underlying188 rfl (by rw [info61]; simp [cells32_length]) ?_)
          have gk : ∀ j, j < 64 → w3.cell? ⟨1, j, none⟩ = some (.int .u32 (U (consts.getD j 0))) := by
            intro j hj
            rw [F3.out.cell hg]
            exact HK.out j hj
          have GK := Lib.hid gk
          clear gk
          go_loopw [126, 10, 11, 12, 13, 14, 15, 16, 17] (fun i a b c d e f g h w4 => ∃ k : Nat, k ≤ 64 ∧ i = .int .i64 k ∧ a = .int .u32 (U (rounds (words l 64) k r).a) ∧ b = .int .u32 (U (rounds (words l 64) k r).b) ∧ c = .int .u32 (U (rounds (words l 64) k r).c) ∧ d = .int .u32 (U (rounds (words l 64) k r).d) ∧ e = .int .u32 (U (rounds (words l 64) k r).e) ∧ f = .int .u32 (U (rounds (words l 64) k r).f) ∧ g = .int .u32 (U (rounds (words l 64) k r).g) ∧ h = .int .u32 (U (rounds (words l 64) k r).h) ∧ ∃ q, w4 = w3.drewN q) (fun i _ _ _ _ _ _ _ _ _ => 64 - (intOf i).toNat)
          case atStart => exact ⟨0, by omega, rfl, rfl, rfl, rfl, rfl, rfl, rfl, rfl, rfl, 0, rfl⟩
          case round =>
            obtain ⟨k, hk, rfl, rfl, rfl, rfl, rfl, rfl, rfl, rfl, rfl, q, rfl⟩ := hrel
            by_cases hlt : k < 64
            · have gc : w3.cell? ⟨1, k, none⟩ = some (.int .u32 (U (consts.getD k 0))) := GK.out k hlt
              have ix : ∀ wx, (Instr.index 188 (.agg (cells32 (fill32 (words l 64)) 64).toArray) (.int .i64 (k : Int))).run Tryd.prog wx = .ok (.int .u32 (U (fill32 (words l 64) k))) wx :=
                fun wx => run_index_agg Tryd.underlying188 (by kernel_rfl) (by kernel_rfl) (by kernel_rfl) hlt (by simpa using cells32_get (fill32 (words l 64)) 64 k hlt) wx
              have p : 0 ≤ (k : Int) := by omega
              have q4 : (k : Int) < 64 := by omega
              generalize hR : rounds (words l 64) k r = R
              have HRo := Lib.hid hR
              clear hR
              go_wp2_with fail
              clear ix
              replace gc : (w3.drewN q).cell? _ = _ := gc
              obtain ⟨w5, hw5⟩ : ∃ w5, w5 = w3.drewN q := ⟨_, rfl⟩
              have HW5 := Lib.hid hw5
              rw [← hw5] at gc ⊢
              clear hw5
              go_quiet (first | (go_at_call 103; exact Calls.quiet_of_same (right_any _ _ _ (by unfold Turn; decide))))
              go_wp2_with (go_at_call 103; refine (right_any _ _ _ (by unfold Turn; decide)).mono ?_; rintro e w' ⟨rfl, rfl⟩)
              go_roundw
              case rel =>
                have e : rounds (words l 64) (k + 1) r = Sha.step R (consts.getD k 0) ((words l 64).getD k 0) := by rw [rounds, HRo.out]
                refine ⟨k + 1, by omega, by go_num, ?_, ?_, ?_, ?_, ?_, ?_, ?_, ?_, q + nq, by rw [HW5.out, World.drewN_drewN]⟩
                all_goals rw [e]
                all_goals rfl
              case measure => simp [intOf]; omega
            · obtain rfl : k = 64 := by omega
              rw [show ((64 : Nat) : Int) = 64 from rfl]
              have G1 : Hid (blockIs (w3.drewN q) b (pre ++ (cells32 (mix r (rounds (words l 64) 64 r) 0) 8 ++ post)) T) := Lib.hid (F1.out.drewN q)
              have G2 : Hid (But b w (w3.drewN q)) := Lib.hid ((But.of_below F3.out).drewN q)
              obtain ⟨w5, hw5⟩ : ∃ w5, w5 = w3.drewN q := ⟨_, rfl⟩
              rw [← hw5] at G1 G2 ⊢
              clear hw5 F1 F2 F3 GK HK hk hlt
              go_wp2_with fail
              go_loopw [197, 21, 22] (fun i _ _ w6 => ∃ k : Nat, k ≤ 8 ∧ i = .int .i64 k ∧ blockIs w6 b (pre ++ (cells32 (mix r (rounds (words l 64) 64 r) k) 8 ++ post)) T ∧ But b w w6) (fun i _ _ _ => 8 - (intOf i).toNat)
              case atStart => exact ⟨0, by omega, rfl, G1.out, G2.out⟩
              case round =>
                obtain ⟨k, hk, rfl, h1, h2⟩ := hrel
                by_cases hlt : k < 8
                · have c1 : wr.cell? ⟨b, pre.length + k, none⟩ = some (.int .u32 (U (r.list.getD k 0))) := by
                    rw [h1.cell, get_mid _ _ _ _ (by rw [cells32_length]; omega), cells32_get _ _ _ hlt]
                    unfold mix
                    rw [if_neg (by omega)]
                  have c2 : wr.frozen? ⟨b, pre.length + k, none⟩ = false := h1.free _
                  have p : 0 ≤ (k : Int) := by omega
                  have q4 : (k : Int) < 8 := by omega
                  have h1s := h1.set (pre.length + k) (.int .u32 (U (r.list.getD k 0 + (rounds (words l 64) 64 r).list.getD k 0)))
                  rw [set_mid _ _ _ _ (by rw [cells32_length]; omega), cells32_set _ _ _ hlt, mix_succ] at h1s
                  generalize rounds (words l 64) 64 r = R at *
                  have ix : ∀ wx, (Instr.index 132 (.agg #[.int .u32 (U R.a), .int .u32 (U R.b), .int .u32 (U R.c), .int .u32 (U R.d), .int .u32 (U R.e), .int .u32 (U R.f), .int .u32 (U R.g), .int .u32 (U R.h)]) (.int .i64 (k : Int))).run Tryd.prog wx = .ok (.int .u32 (U (R.list.getD k 0))) wx :=
                    fun wx => run_index_agg Tryd.underlying132 (by kernel_rfl) (by kernel_rfl) (by kernel_rfl) hlt (regs_get R k hlt) wx
                  have H1 := Lib.hid h1s
                  have H2 := Lib.hid h2
                  clear h1 h1s h2
                  go_wp2_with fail
                  clear ix
                  go_still_tail 11, (by kernel_rfl)
                  change wpList _ _ _ _ _ wr.drew
                  go_wp2_with fail
                  go_roundw
                  case rel =>
                    exact ⟨k + 1, by omega, by go_num, H1.out, (H2.out.setCell _ _ (Or.inl rfl)).drewN 1⟩
                  case measure => simp [intOf]; omega
                · obtain rfl : k = 8 := by omega
                  rw [show ((8 : Nat) : Int) = 8 from rfl]
                  have H1 := Lib.hid h1
                  have H2 := Lib.hid h2
                  clear h1 h2
                  go_wp2_with fail
                  go_end0
                  exact ⟨rfl, H1.out, H2.out⟩
end Go.Proofs.YtfhlcondnaahiaaDoor
end
