/- The contracts of the functions that turn a word to the right: the program's (by the library's turn to the left) and the document's own. -/
import Derived.Test.YtaohbpmefcdipaaDoorRows
import Derived.Test.YtaohbpmefcdipaaDoorBits
import Derived.WalkKit
import Derived.WalkSpells
import Derived.WalkLawsBesides
import Derived.Deep.QuietTactic
import Derived.BigQuiet
namespace Go.Proofs.YtaohbpmefcdipaaDoor
open Go.RowKit Sha

theorem ret_u32 {a b : Int} (h : a = b) : Ending.returned (.int .u32 a) = .returned (.int .u32 b) := by rw [h]

set_option maxHeartbeats 400000 in
theorem rot2 (x : W) (w : World) :
    Calls Tryd.prog 62 #[.int .u32 (U x), .int .i64 (-2)] w fun e w' => e = .returned (.int .u32 (U (ror x 2))) ∧ w = w' := by
  have e1 : bits BinOp.and IntKind.u64 (IntKind.u64.wrap (-2)) 31 = 30 := by decide +kernel
  have h0 := U_nonneg x
  go_enter Tryd.func62, Tryd.ntmps62
  go_wp2
  go_ret
  exact ⟨ret_u32 (or_ror x 2 _ _ rfl rfl), rfl⟩
set_option maxHeartbeats 400000 in
theorem right2 (x : W) (w : World) :
    Calls Tryd.prog 55 #[.int .u32 (U x), .int .i64 2] w fun e w' => e = .returned (.int .u32 (U (ror x 2))) ∧ w = w' := by
  go_enter Tryd.func55, Tryd.ntmps55
  go_wp2_with (go_at_call 62; refine (rot2 _ _).mono ?_; rintro e w' ⟨rfl, rfl⟩)
  go_ret
  exact ⟨rfl, rfl⟩
set_option maxHeartbeats 400000 in
theorem turn2 (x : W) (w : World) :
    Calls Tryd.prog 39 #[.int .u32 (U x), .int .i64 2] w fun e w' => e = .returned (.int .u32 (U (ror x 2))) ∧ ∃ k, w' = w.drewN k := by
  have h0 := U_nonneg x
  go_enter Tryd.func39, Tryd.ntmps39
  go_wp2
  go_quiet (fail)
  go_wp2
  go_ret
  exact ⟨ret_u32 (ror_or x 2 _ _ rfl rfl), _, rfl⟩

set_option maxHeartbeats 400000 in
theorem rot6 (x : W) (w : World) :
    Calls Tryd.prog 62 #[.int .u32 (U x), .int .i64 (-6)] w fun e w' => e = .returned (.int .u32 (U (ror x 6))) ∧ w = w' := by
  have e1 : bits BinOp.and IntKind.u64 (IntKind.u64.wrap (-6)) 31 = 26 := by decide +kernel
  have h0 := U_nonneg x
  go_enter Tryd.func62, Tryd.ntmps62
  go_wp2
  go_ret
  exact ⟨ret_u32 (or_ror x 6 _ _ rfl rfl), rfl⟩
set_option maxHeartbeats 400000 in
theorem right6 (x : W) (w : World) :
    Calls Tryd.prog 55 #[.int .u32 (U x), .int .i64 6] w fun e w' => e = .returned (.int .u32 (U (ror x 6))) ∧ w = w' := by
  go_enter Tryd.func55, Tryd.ntmps55
  go_wp2_with (go_at_call 62; refine (rot6 _ _).mono ?_; rintro e w' ⟨rfl, rfl⟩)
  go_ret
  exact ⟨rfl, rfl⟩
set_option maxHeartbeats 400000 in
theorem turn6 (x : W) (w : World) :
    Calls Tryd.prog 39 #[.int .u32 (U x), .int .i64 6] w fun e w' => e = .returned (.int .u32 (U (ror x 6))) ∧ ∃ k, w' = w.drewN k := by
  have h0 := U_nonneg x
  go_enter Tryd.func39, Tryd.ntmps39
  go_wp2
  go_quiet (fail)
  go_wp2
  go_ret
  exact ⟨ret_u32 (ror_or x 6 _ _ rfl rfl), _, rfl⟩

set_option maxHeartbeats 400000 in
theorem rot7 (x : W) (w : World) :
    Calls Tryd.prog 62 #[.int .u32 (U x), .int .i64 (-7)] w fun e w' => e = .returned (.int .u32 (U (ror x 7))) ∧ w = w' := by
  have e1 : bits BinOp.and IntKind.u64 (IntKind.u64.wrap (-7)) 31 = 25 := by decide +kernel
  have h0 := U_nonneg x
  go_enter Tryd.func62, Tryd.ntmps62
  go_wp2
  go_ret
  exact ⟨ret_u32 (or_ror x 7 _ _ rfl rfl), rfl⟩
set_option maxHeartbeats 400000 in
theorem right7 (x : W) (w : World) :
    Calls Tryd.prog 55 #[.int .u32 (U x), .int .i64 7] w fun e w' => e = .returned (.int .u32 (U (ror x 7))) ∧ w = w' := by
  go_enter Tryd.func55, Tryd.ntmps55
  go_wp2_with (go_at_call 62; refine (rot7 _ _).mono ?_; rintro e w' ⟨rfl, rfl⟩)
  go_ret
  exact ⟨rfl, rfl⟩
set_option maxHeartbeats 400000 in
theorem turn7 (x : W) (w : World) :
    Calls Tryd.prog 39 #[.int .u32 (U x), .int .i64 7] w fun e w' => e = .returned (.int .u32 (U (ror x 7))) ∧ ∃ k, w' = w.drewN k := by
  have h0 := U_nonneg x
  go_enter Tryd.func39, Tryd.ntmps39
  go_wp2
  go_quiet (fail)
  go_wp2
  go_ret
  exact ⟨ret_u32 (ror_or x 7 _ _ rfl rfl), _, rfl⟩

set_option maxHeartbeats 400000 in
theorem rot11 (x : W) (w : World) :
    Calls Tryd.prog 62 #[.int .u32 (U x), .int .i64 (-11)] w fun e w' => e = .returned (.int .u32 (U (ror x 11))) ∧ w = w' := by
  have e1 : bits BinOp.and IntKind.u64 (IntKind.u64.wrap (-11)) 31 = 21 := by decide +kernel
  have h0 := U_nonneg x
  go_enter Tryd.func62, Tryd.ntmps62
  go_wp2
  go_ret
  exact ⟨ret_u32 (or_ror x 11 _ _ rfl rfl), rfl⟩
set_option maxHeartbeats 400000 in
theorem right11 (x : W) (w : World) :
    Calls Tryd.prog 55 #[.int .u32 (U x), .int .i64 11] w fun e w' => e = .returned (.int .u32 (U (ror x 11))) ∧ w = w' := by
  go_enter Tryd.func55, Tryd.ntmps55
  go_wp2_with (go_at_call 62; refine (rot11 _ _).mono ?_; rintro e w' ⟨rfl, rfl⟩)
  go_ret
  exact ⟨rfl, rfl⟩
set_option maxHeartbeats 400000 in
theorem turn11 (x : W) (w : World) :
    Calls Tryd.prog 39 #[.int .u32 (U x), .int .i64 11] w fun e w' => e = .returned (.int .u32 (U (ror x 11))) ∧ ∃ k, w' = w.drewN k := by
  have h0 := U_nonneg x
  go_enter Tryd.func39, Tryd.ntmps39
  go_wp2
  go_quiet (fail)
  go_wp2
  go_ret
  exact ⟨ret_u32 (ror_or x 11 _ _ rfl rfl), _, rfl⟩

set_option maxHeartbeats 400000 in
theorem rot13 (x : W) (w : World) :
    Calls Tryd.prog 62 #[.int .u32 (U x), .int .i64 (-13)] w fun e w' => e = .returned (.int .u32 (U (ror x 13))) ∧ w = w' := by
  have e1 : bits BinOp.and IntKind.u64 (IntKind.u64.wrap (-13)) 31 = 19 := by decide +kernel
  have h0 := U_nonneg x
  go_enter Tryd.func62, Tryd.ntmps62
  go_wp2
  go_ret
  exact ⟨ret_u32 (or_ror x 13 _ _ rfl rfl), rfl⟩
set_option maxHeartbeats 400000 in
theorem right13 (x : W) (w : World) :
    Calls Tryd.prog 55 #[.int .u32 (U x), .int .i64 13] w fun e w' => e = .returned (.int .u32 (U (ror x 13))) ∧ w = w' := by
  go_enter Tryd.func55, Tryd.ntmps55
  go_wp2_with (go_at_call 62; refine (rot13 _ _).mono ?_; rintro e w' ⟨rfl, rfl⟩)
  go_ret
  exact ⟨rfl, rfl⟩
set_option maxHeartbeats 400000 in
theorem turn13 (x : W) (w : World) :
    Calls Tryd.prog 39 #[.int .u32 (U x), .int .i64 13] w fun e w' => e = .returned (.int .u32 (U (ror x 13))) ∧ ∃ k, w' = w.drewN k := by
  have h0 := U_nonneg x
  go_enter Tryd.func39, Tryd.ntmps39
  go_wp2
  go_quiet (fail)
  go_wp2
  go_ret
  exact ⟨ret_u32 (ror_or x 13 _ _ rfl rfl), _, rfl⟩

set_option maxHeartbeats 400000 in
theorem rot17 (x : W) (w : World) :
    Calls Tryd.prog 62 #[.int .u32 (U x), .int .i64 (-17)] w fun e w' => e = .returned (.int .u32 (U (ror x 17))) ∧ w = w' := by
  have e1 : bits BinOp.and IntKind.u64 (IntKind.u64.wrap (-17)) 31 = 15 := by decide +kernel
  have h0 := U_nonneg x
  go_enter Tryd.func62, Tryd.ntmps62
  go_wp2
  go_ret
  exact ⟨ret_u32 (or_ror x 17 _ _ rfl rfl), rfl⟩
set_option maxHeartbeats 400000 in
theorem right17 (x : W) (w : World) :
    Calls Tryd.prog 55 #[.int .u32 (U x), .int .i64 17] w fun e w' => e = .returned (.int .u32 (U (ror x 17))) ∧ w = w' := by
  go_enter Tryd.func55, Tryd.ntmps55
  go_wp2_with (go_at_call 62; refine (rot17 _ _).mono ?_; rintro e w' ⟨rfl, rfl⟩)
  go_ret
  exact ⟨rfl, rfl⟩
set_option maxHeartbeats 400000 in
theorem turn17 (x : W) (w : World) :
    Calls Tryd.prog 39 #[.int .u32 (U x), .int .i64 17] w fun e w' => e = .returned (.int .u32 (U (ror x 17))) ∧ ∃ k, w' = w.drewN k := by
  have h0 := U_nonneg x
  go_enter Tryd.func39, Tryd.ntmps39
  go_wp2
  go_quiet (fail)
  go_wp2
  go_ret
  exact ⟨ret_u32 (ror_or x 17 _ _ rfl rfl), _, rfl⟩

set_option maxHeartbeats 400000 in
theorem rot18 (x : W) (w : World) :
    Calls Tryd.prog 62 #[.int .u32 (U x), .int .i64 (-18)] w fun e w' => e = .returned (.int .u32 (U (ror x 18))) ∧ w = w' := by
  have e1 : bits BinOp.and IntKind.u64 (IntKind.u64.wrap (-18)) 31 = 14 := by decide +kernel
  have h0 := U_nonneg x
  go_enter Tryd.func62, Tryd.ntmps62
  go_wp2
  go_ret
  exact ⟨ret_u32 (or_ror x 18 _ _ rfl rfl), rfl⟩
set_option maxHeartbeats 400000 in
theorem right18 (x : W) (w : World) :
    Calls Tryd.prog 55 #[.int .u32 (U x), .int .i64 18] w fun e w' => e = .returned (.int .u32 (U (ror x 18))) ∧ w = w' := by
  go_enter Tryd.func55, Tryd.ntmps55
  go_wp2_with (go_at_call 62; refine (rot18 _ _).mono ?_; rintro e w' ⟨rfl, rfl⟩)
  go_ret
  exact ⟨rfl, rfl⟩
set_option maxHeartbeats 400000 in
theorem turn18 (x : W) (w : World) :
    Calls Tryd.prog 39 #[.int .u32 (U x), .int .i64 18] w fun e w' => e = .returned (.int .u32 (U (ror x 18))) ∧ ∃ k, w' = w.drewN k := by
  have h0 := U_nonneg x
  go_enter Tryd.func39, Tryd.ntmps39
  go_wp2
  go_quiet (fail)
  go_wp2
  go_ret
  exact ⟨ret_u32 (ror_or x 18 _ _ rfl rfl), _, rfl⟩

set_option maxHeartbeats 400000 in
theorem rot19 (x : W) (w : World) :
    Calls Tryd.prog 62 #[.int .u32 (U x), .int .i64 (-19)] w fun e w' => e = .returned (.int .u32 (U (ror x 19))) ∧ w = w' := by
  have e1 : bits BinOp.and IntKind.u64 (IntKind.u64.wrap (-19)) 31 = 13 := by decide +kernel
  have h0 := U_nonneg x
  go_enter Tryd.func62, Tryd.ntmps62
  go_wp2
  go_ret
  exact ⟨ret_u32 (or_ror x 19 _ _ rfl rfl), rfl⟩
set_option maxHeartbeats 400000 in
theorem right19 (x : W) (w : World) :
    Calls Tryd.prog 55 #[.int .u32 (U x), .int .i64 19] w fun e w' => e = .returned (.int .u32 (U (ror x 19))) ∧ w = w' := by
  go_enter Tryd.func55, Tryd.ntmps55
  go_wp2_with (go_at_call 62; refine (rot19 _ _).mono ?_; rintro e w' ⟨rfl, rfl⟩)
  go_ret
  exact ⟨rfl, rfl⟩
set_option maxHeartbeats 400000 in
theorem turn19 (x : W) (w : World) :
    Calls Tryd.prog 39 #[.int .u32 (U x), .int .i64 19] w fun e w' => e = .returned (.int .u32 (U (ror x 19))) ∧ ∃ k, w' = w.drewN k := by
  have h0 := U_nonneg x
  go_enter Tryd.func39, Tryd.ntmps39
  go_wp2
  go_quiet (fail)
  go_wp2
  go_ret
  exact ⟨ret_u32 (ror_or x 19 _ _ rfl rfl), _, rfl⟩

set_option maxHeartbeats 400000 in
theorem rot22 (x : W) (w : World) :
    Calls Tryd.prog 62 #[.int .u32 (U x), .int .i64 (-22)] w fun e w' => e = .returned (.int .u32 (U (ror x 22))) ∧ w = w' := by
  have e1 : bits BinOp.and IntKind.u64 (IntKind.u64.wrap (-22)) 31 = 10 := by decide +kernel
  have h0 := U_nonneg x
  go_enter Tryd.func62, Tryd.ntmps62
  go_wp2
  go_ret
  exact ⟨ret_u32 (or_ror x 22 _ _ rfl rfl), rfl⟩
set_option maxHeartbeats 400000 in
theorem right22 (x : W) (w : World) :
    Calls Tryd.prog 55 #[.int .u32 (U x), .int .i64 22] w fun e w' => e = .returned (.int .u32 (U (ror x 22))) ∧ w = w' := by
  go_enter Tryd.func55, Tryd.ntmps55
  go_wp2_with (go_at_call 62; refine (rot22 _ _).mono ?_; rintro e w' ⟨rfl, rfl⟩)
  go_ret
  exact ⟨rfl, rfl⟩
set_option maxHeartbeats 400000 in
theorem turn22 (x : W) (w : World) :
    Calls Tryd.prog 39 #[.int .u32 (U x), .int .i64 22] w fun e w' => e = .returned (.int .u32 (U (ror x 22))) ∧ ∃ k, w' = w.drewN k := by
  have h0 := U_nonneg x
  go_enter Tryd.func39, Tryd.ntmps39
  go_wp2
  go_quiet (fail)
  go_wp2
  go_ret
  exact ⟨ret_u32 (ror_or x 22 _ _ rfl rfl), _, rfl⟩

set_option maxHeartbeats 400000 in
theorem rot25 (x : W) (w : World) :
    Calls Tryd.prog 62 #[.int .u32 (U x), .int .i64 (-25)] w fun e w' => e = .returned (.int .u32 (U (ror x 25))) ∧ w = w' := by
  have e1 : bits BinOp.and IntKind.u64 (IntKind.u64.wrap (-25)) 31 = 7 := by decide +kernel
  have h0 := U_nonneg x
  go_enter Tryd.func62, Tryd.ntmps62
  go_wp2
  go_ret
  exact ⟨ret_u32 (or_ror x 25 _ _ rfl rfl), rfl⟩
set_option maxHeartbeats 400000 in
theorem right25 (x : W) (w : World) :
    Calls Tryd.prog 55 #[.int .u32 (U x), .int .i64 25] w fun e w' => e = .returned (.int .u32 (U (ror x 25))) ∧ w = w' := by
  go_enter Tryd.func55, Tryd.ntmps55
  go_wp2_with (go_at_call 62; refine (rot25 _ _).mono ?_; rintro e w' ⟨rfl, rfl⟩)
  go_ret
  exact ⟨rfl, rfl⟩
set_option maxHeartbeats 400000 in
theorem turn25 (x : W) (w : World) :
    Calls Tryd.prog 39 #[.int .u32 (U x), .int .i64 25] w fun e w' => e = .returned (.int .u32 (U (ror x 25))) ∧ ∃ k, w' = w.drewN k := by
  have h0 := U_nonneg x
  go_enter Tryd.func39, Tryd.ntmps39
  go_wp2
  go_quiet (fail)
  go_wp2
  go_ret
  exact ⟨ret_u32 (ror_or x 25 _ _ rfl rfl), _, rfl⟩

theorem right_any (x : W) (n : Int) (w : World) (hn : Turn n) :
    Calls Tryd.prog 55 #[.int .u32 (U x), .int .i64 n] w fun e w' => e = .returned (.int .u32 (U (ror x n.toNat))) ∧ w' = w := by
  rcases hn with rfl | rfl | rfl | rfl | rfl | rfl | rfl | rfl | rfl | rfl
  · exact (right2 x w).mono fun _ _ h => ⟨h.1, h.2.symm⟩
  · exact (right6 x w).mono fun _ _ h => ⟨h.1, h.2.symm⟩
  · exact (right7 x w).mono fun _ _ h => ⟨h.1, h.2.symm⟩
  · exact (right11 x w).mono fun _ _ h => ⟨h.1, h.2.symm⟩
  · exact (right13 x w).mono fun _ _ h => ⟨h.1, h.2.symm⟩
  · exact (right17 x w).mono fun _ _ h => ⟨h.1, h.2.symm⟩
  · exact (right18 x w).mono fun _ _ h => ⟨h.1, h.2.symm⟩
  · exact (right19 x w).mono fun _ _ h => ⟨h.1, h.2.symm⟩
  · exact (right22 x w).mono fun _ _ h => ⟨h.1, h.2.symm⟩
  · exact (right25 x w).mono fun _ _ h => ⟨h.1, h.2.symm⟩
theorem turn_any (x : W) (n : Int) (w : World) (hn : Turn n) :
    Calls Tryd.prog 39 #[.int .u32 (U x), .int .i64 n] w fun e w' => e = .returned (.int .u32 (U (ror x n.toNat))) ∧ ∃ k, w' = w.drewN k := by
  rcases hn with rfl | rfl | rfl | rfl | rfl | rfl | rfl | rfl | rfl | rfl
  · exact turn2 x w
  · exact turn6 x w
  · exact turn7 x w
  · exact turn11 x w
  · exact turn13 x w
  · exact turn17 x w
  · exact turn18 x w
  · exact turn19 x w
  · exact turn22 x w
  · exact turn25 x w

end Go.Proofs.YtaohbpmefcdipaaDoor
