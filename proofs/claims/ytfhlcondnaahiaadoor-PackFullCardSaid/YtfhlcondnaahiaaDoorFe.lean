/- The law PackFull: its walk. -/
import Derived.Test.YtfhlcondnaahiaaDoorFz
import Derived.Test.YtfhlcondnaahiaaDoorPp
import Derived.Test.YtfhlcondnaahiaaDoorRoom
namespace Go.Proofs.YtfhlcondnaahiaaDoor
open Go.RowKit Sha

theorem mk_zeros (n : Nat) (hn : n ≤ 1000000) (w : World) :
    (Instr.makeSlice 30 (.int .i64 (n : Int)) (.int .i64 (n : Int))).run Tryd.prog w = .ok (.slice (some ⟨w.heap.size, 0, none⟩) n n) (w.alloc (.cells (byteCells (List.replicate n 0)).toArray 5 (0, 0))) := by
  obtain ⟨i0, hi, hz0, hz1, hz2⟩ := info_parts info_u8
  have := run_make (P := Tryd.prog) w 30 5 i0 (.int .u8 0) Tryd.underlying30 hi hz0 .i64 .i64 (n : Int) (n : Int) (by omega) (by omega) (by rw [hz2]; omega) (by omega)
  rw [hz1, Int.toNat_natCast, made_zeros] at this
  exact this
/-- A blob's name. -/
def idT (t : Nat) : List UInt8 := hmac (kN 3 3) (2 :: (List.replicate 131071 0 ++ [UInt8.ofNat (t + 1)]))
def id1 (sz : Nat) : List UInt8 := hmac (kN 3 3) (1 :: List.replicate sz 0)
theorem idT_ne (a b : Nat) (ha : a < 8) (hb : b < 8) (h : a ≠ b) : idT a ≠ idT b := by
  have key : ∀ t, t < 8 → idT t = [([136, 218, 30, 147, 179, 79, 255, 223, 57, 66, 57, 148, 140, 46, 11, 28, 63, 128, 207, 223, 155, 9, 108, 171, 92, 25, 70, 221, 77, 50, 11, 121] : List UInt8), [75, 47, 129, 85, 68, 159, 72, 45, 147, 177, 113, 104, 30, 51, 28, 46, 219, 62, 3, 24, 255, 31, 122, 241, 252, 247, 14, 64, 148, 211, 200, 57], [200, 95, 69, 85, 208, 113, 194, 154, 159, 136, 83, 196, 10, 251, 179, 75, 19, 118, 123, 255, 241, 8, 211, 23, 57, 81, 154, 215, 52, 24, 188, 232], [57, 63, 73, 244, 218, 191, 174, 74, 182, 138, 96, 246, 235, 211, 25, 30, 96, 186, 128, 101, 158, 12, 62, 221, 85, 225, 151, 49, 213, 226, 0, 207], [28, 237, 159, 19, 227, 10, 81, 48, 189, 114, 93, 233, 160, 212, 183, 186, 32, 27, 155, 101, 7, 55, 169, 240, 209, 36, 60, 171, 220, 47, 123, 120], [246, 70, 106, 190, 169, 107, 123, 1, 24, 228, 138, 114, 139, 52, 49, 126, 234, 187, 219, 159, 182, 139, 51, 209, 100, 39, 46, 164, 41, 187, 145, 137], [54, 67, 50, 151, 21, 36, 218, 69, 202, 126, 165, 166, 131, 224, 89, 155, 81, 129, 107, 9, 84, 97, 10, 17, 117, 229, 22, 48, 71, 246, 238, 169], [128, 190, 166, 107, 246, 44, 146, 100, 233, 172, 174, 122, 50, 175, 24, 130, 63, 51, 182, 67, 238, 208, 223, 245, 165, 233, 157, 52, 138, 240, 31, 147]].getD t [] := fun t ht => by
    match t, ht with
    | 0, _ => exact hm2_1
    | 1, _ => exact hm2_2
    | 2, _ => exact hm2_3
    | 3, _ => exact hm2_4
    | 4, _ => exact hm2_5
    | 5, _ => exact hm2_6
    | 6, _ => exact hm2_7
    | 7, _ => exact hm2_8
  have dd : ∀ a, a < 8 → ∀ b, b < 8 → a ≠ b → ([136, 75, 200, 57, 28, 246, 54, 128] : List UInt8).getD a 0 ≠ ([136, 75, 200, 57, 28, 246, 54, 128] : List UInt8).getD b 0 := by decide
  have hh : ∀ t, t < 8 → (idT t).headD 0 = ([136, 75, 200, 57, 28, 246, 54, 128] : List UInt8).getD t 0 := fun t ht => by
    rw [key t ht]
    revert t
    decide
  intro e
  have e2 := congrArg (fun l => l.headD 0) e
  rw [hh a ha, hh b hb] at e2
  exact dd a ha b hb h e2
theorem id1_ne (sz b : Nat) (h1 : sz = 131070 ∨ sz = 131071 ∨ sz = 131072) (hb : b < 8) : id1 sz ≠ idT b := by
  have key : ∀ t, t < 8 → idT t = [([136, 218, 30, 147, 179, 79, 255, 223, 57, 66, 57, 148, 140, 46, 11, 28, 63, 128, 207, 223, 155, 9, 108, 171, 92, 25, 70, 221, 77, 50, 11, 121] : List UInt8), [75, 47, 129, 85, 68, 159, 72, 45, 147, 177, 113, 104, 30, 51, 28, 46, 219, 62, 3, 24, 255, 31, 122, 241, 252, 247, 14, 64, 148, 211, 200, 57], [200, 95, 69, 85, 208, 113, 194, 154, 159, 136, 83, 196, 10, 251, 179, 75, 19, 118, 123, 255, 241, 8, 211, 23, 57, 81, 154, 215, 52, 24, 188, 232], [57, 63, 73, 244, 218, 191, 174, 74, 182, 138, 96, 246, 235, 211, 25, 30, 96, 186, 128, 101, 158, 12, 62, 221, 85, 225, 151, 49, 213, 226, 0, 207], [28, 237, 159, 19, 227, 10, 81, 48, 189, 114, 93, 233, 160, 212, 183, 186, 32, 27, 155, 101, 7, 55, 169, 240, 209, 36, 60, 171, 220, 47, 123, 120], [246, 70, 106, 190, 169, 107, 123, 1, 24, 228, 138, 114, 139, 52, 49, 126, 234, 187, 219, 159, 182, 139, 51, 209, 100, 39, 46, 164, 41, 187, 145, 137], [54, 67, 50, 151, 21, 36, 218, 69, 202, 126, 165, 166, 131, 224, 89, 155, 81, 129, 107, 9, 84, 97, 10, 17, 117, 229, 22, 48, 71, 246, 238, 169], [128, 190, 166, 107, 246, 44, 146, 100, 233, 172, 174, 122, 50, 175, 24, 130, 63, 51, 182, 67, 238, 208, 223, 245, 165, 233, 157, 52, 138, 240, 31, 147]].getD t [] := fun t ht => by
    match t, ht with
    | 0, _ => exact hm2_1
    | 1, _ => exact hm2_2
    | 2, _ => exact hm2_3
    | 3, _ => exact hm2_4
    | 4, _ => exact hm2_5
    | 5, _ => exact hm2_6
    | 6, _ => exact hm2_7
    | 7, _ => exact hm2_8
  rw [key b hb]
  clear key
  rcases h1 with rfl | rfl | rfl
  · rw [show id1 131070 = _ from hm1_0]; revert b; decide
  · rw [show id1 131071 = _ from hm1_1]; revert b; decide
  · rw [show id1 131072 = _ from hm1_2]; revert b; decide
theorem four_mod (z : Int) : ∃ d : Nat, d < 4 ∧ IntKind.i64.wrap ((IntKind.u64.wrap z).tmod 4) = (d : Int) := by
  have hw : 0 ≤ IntKind.u64.wrap z := by rw [IntKind.wrap_u64]; omega
  have h1 := Int.emod_lt_of_pos (IntKind.u64.wrap z) (show (0 : Int) < 4 by omega)
  have h0 := Int.emod_nonneg (IntKind.u64.wrap z) (show (4 : Int) ≠ 0 by omega)
  refine ⟨(IntKind.u64.wrap z % 4).toNat, by omega, ?_⟩
  rw [Int.tmod_eq_emod_of_nonneg hw, IntWalk.i64_in _ (by omega)]
  omega
theorem nine_mod (z : Int) : ∃ d : Nat, d < 9 ∧ IntKind.i64.wrap ((IntKind.u64.wrap z).tmod 9) = (d : Int) := by
  have hw : 0 ≤ IntKind.u64.wrap z := by rw [IntKind.wrap_u64]; omega
  have h1 := Int.emod_lt_of_pos (IntKind.u64.wrap z) (show (0 : Int) < 9 by omega)
  have h0 := Int.emod_nonneg (IntKind.u64.wrap z) (show (9 : Int) ≠ 0 by omega)
  refine ⟨(IntKind.u64.wrap z % 9).toNat, by omega, ?_⟩
  rw [Int.tmod_eq_emod_of_nonneg hw, IntWalk.i64_in _ (by omega)]
  omega
end Go.Proofs.YtfhlcondnaahiaaDoor
