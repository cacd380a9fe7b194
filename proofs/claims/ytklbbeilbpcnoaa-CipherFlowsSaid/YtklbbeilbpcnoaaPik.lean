/- cipher: its small functions: word, mix, pick, the turns. -/
import Derived.Test.YtklbbeilbpcnoaaRows
import Derived.Test.YtklbbeilbpcnoaaByt
import Derived.Test.YtklbbeilbpcnoaaBlk
import Derived.WalkKit
import Derived.WalkSpells
import Derived.WalkLawsBesides
import Derived.Deep.QuietTactic
import Derived.BigQuiet
namespace Go.Proofs.Ytklbbeilbpcnoaa
open Go.RowKit Sha Aes

theorem ret_u32 {a b : Int} (h : a = b) : Ending.returned (.int .u32 a) = .returned (.int .u32 b) := by rw [h]
theorem ret_u8 {a b : Int} (h : a = b) : Ending.returned (.int .u8 a) = .returned (.int .u8 b) := by rw [h]

set_option maxHeartbeats 400000 in
theorem rotl8 (x : W) (w : World) :
    Calls Try.prog 26 #[.int .u32 (U x), .int .i64 8] w fun e w' => e = .returned (.int .u32 (U (rol x 8))) ∧ w = w' := by
  have h0 := U_nonneg x
  have e1 : bits BinOp.and IntKind.u64 8 31 = 8 := by decide +kernel
  go_enter Try.func26, Try.ntmps26
  go_wp2
  go_ret
  exact ⟨ret_u32 (U_rol x 8 _ _ rfl rfl), rfl⟩
set_option maxHeartbeats 400000 in
theorem rotl16 (x : W) (w : World) :
    Calls Try.prog 26 #[.int .u32 (U x), .int .i64 16] w fun e w' => e = .returned (.int .u32 (U (rol x 16))) ∧ w = w' := by
  have h0 := U_nonneg x
  have e1 : bits BinOp.and IntKind.u64 16 31 = 16 := by decide +kernel
  go_enter Try.func26, Try.ntmps26
  go_wp2
  go_ret
  exact ⟨ret_u32 (U_rol x 16 _ _ rfl rfl), rfl⟩
set_option maxHeartbeats 400000 in
theorem rotl24 (x : W) (w : World) :
    Calls Try.prog 26 #[.int .u32 (U x), .int .i64 24] w fun e w' => e = .returned (.int .u32 (U (rol x 24))) ∧ w = w' := by
  have h0 := U_nonneg x
  have e1 : bits BinOp.and IntKind.u64 24 31 = 24 := by decide +kernel
  go_enter Try.func26, Try.ntmps26
  go_wp2
  go_ret
  exact ⟨ret_u32 (U_rol x 24 _ _ rfl rfl), rfl⟩
set_option maxHeartbeats 400000 in
theorem rotb (x : UInt8) (n : Nat) (hn : n = 1 ∨ n = 2 ∨ n = 3 ∨ n = 4) (w : World) :
    Calls Try.prog 33 #[.int .u8 (V x), .int .i64 n] w fun e w' => e = .returned (.int .u8 (V (rol8 x n))) ∧ w = w' := by
  have h0 := V_nonneg x
  have e1 : bits BinOp.and IntKind.u64 1 7 = 1 := by decide +kernel
  have e2 : bits BinOp.and IntKind.u64 2 7 = 2 := by decide +kernel
  have e3 : bits BinOp.and IntKind.u64 3 7 = 3 := by decide +kernel
  have e4 : bits BinOp.and IntKind.u64 4 7 = 4 := by decide +kernel
  rcases hn with rfl | rfl | rfl | rfl
  all_goals
    go_enter Try.func33, Try.ntmps33
    go_wp2
    go_ret
  · exact ⟨ret_u8 (V_rol x 1 _ _ rfl rfl), rfl⟩
  · exact ⟨ret_u8 (V_rol x 2 _ _ rfl rfl), rfl⟩
  · exact ⟨ret_u8 (V_rol x 3 _ _ rfl rfl), rfl⟩
  · exact ⟨ret_u8 (V_rol x 4 _ _ rfl rfl), rfl⟩
attribute [local go_sem] U_xor U_or U_shlw8 U_shlw16 U_shlw24 U_shl8 U_shl16 U_shl24 V_wrap32 V_mod32 U_and7f U_and01 U_shr7 U_shlw1 U_shl1 U_mul27 U_mulw27 byteOf_24 byteOf_16 byteOf_8 byteOf_w24 byteOf_w16 byteOf_w8

set_option maxHeartbeats 400000 in
theorem word_any (a b c d : UInt8) (w : World) :
    Calls Try.prog 25 #[.int .u8 (V a), .int .u8 (V b), .int .u8 (V c), .int .u8 (V d)] w fun e w' => e = .returned (.int .u32 (U (word a b c d))) ∧ w = w' := by
  have hw : ∀ b : UInt8, IntKind.u32.wrap (V b) = U (ofB b) := V_wrap32
  go_enter Try.func25, Try.ntmps25
  go_wp2_with fail
  go_ret
  exact ⟨rfl, rfl⟩
set_option maxHeartbeats 400000 in
theorem mix_any (x : W) (w : World) :
    Calls Try.prog 28 #[.int .u32 (U x)] w fun e w' => e = .returned (.int .u32 (U (mix x))) ∧ w = w' := by
  have h0 := U_nonneg x
  go_enter Try.func28, Try.ntmps28
  go_wp2_with fail
  refine (rotl8 _ _).mono ?_
  rintro e w1 ⟨rfl, rfl⟩
  go_wp2_with fail
  refine (rotl16 _ _).mono ?_
  rintro e w1 ⟨rfl, rfl⟩
  go_wp2_with fail
  refine (rotl24 _ _).mono ?_
  rintro e w1 ⟨rfl, rfl⟩
  go_wp2_with fail
  go_ret
  exact ⟨rfl, rfl⟩
end Go.Proofs.Ytklbbeilbpcnoaa
