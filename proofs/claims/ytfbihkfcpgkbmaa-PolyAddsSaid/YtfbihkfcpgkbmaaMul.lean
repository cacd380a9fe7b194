/- The contract of Mul. -/
import Derived.Test.YtfbihkfcpgkbmaaWd
import Derived.Below
import Derived.ChangeKeysEq
namespace Go.Proofs.Ytfbihkfcpgkbmaa
open Go.RowKit

/-- The sum of two that stand in a new block. -/
theorem add_new (x y : W) (t : TypeId) (w : World) :
    Calls Try.prog 11 #[.slice (some ⟨w.heap.size, 0, none⟩) 2 2] (w.alloc (.cells #[.int .u64 (U x), .int .u64 (U y)] t (0, 0))) fun e w' => e = .returned (.int .u64 (U (x ^^^ y))) ∧ Below w.heap.size w w' := by
  have h : wordsIn (w.alloc (.cells #[.int .u64 (U x), .int .u64 (U y)] t (0, 0))) (some ⟨w.heap.size, 0, none⟩) [x, y] := by
    refine Or.inr ⟨_, _, rfl, fun j hj => ?_⟩
    match j, hj with
    | 0, _ => rw [World.cell?_alloc_at _ _ _ _ rfl]; rfl
    | 1, _ => rw [World.cell?_alloc_at _ _ _ _ rfl]; rfl
  refine (add_any _ [x, y] 2 _ (Nat.le_refl 2) (by simp) h).mono ?_
  rintro e w' ⟨rfl, rfl⟩
  refine ⟨?_, (Below.refl _ _).alloc (Nat.le_refl _) _⟩
  simp [sumAll]

/-- The product, bit by bit: its upper and its lower half. -/
def acc (a b : W) : Nat → W × W
  | 0 => (0, 0)
  | k + 1 => if (b >>> k) &&& 1#64 = 1#64 then ((acc a b k).1 ^^^ (a >>> (64 - k)), (acc a b k).2 ^^^ (a <<< k)) else acc a b k

theorem one_u : (1 : Int) = U 1#64 := rfl
theorem U_shl' (x : W) (n : Nat) : IntKind.u64.wrap (U x * 2 ^ ((n : Int)).toNat) = U (x <<< n) := by rw [Int.toNat_natCast]; exact U_shlw x n
theorem U_and1 (x : W) : bits .and .u64 (U x) 1 = U (x &&& 1#64) := U_and x 1#64
theorem U_beq1 (x : W) : (U x == 1) = decide (x = 1#64) := by
  rw [Bool.eq_iff_iff, beq_iff_eq, decide_eq_true_iff]
  exact ⟨fun h => U_inj (by rw [h]; rfl), fun h => by rw [h]; rfl⟩
attribute [local go_sem] U_xor U_shr U_shlw U_and1
set_option maxHeartbeats 1000000 in
theorem mul_any (a b : W) (w : World) :
    Calls Try.prog 15 #[.int .u64 (U a), .int .u64 (U b)] w fun e w' => e = .returned (.tuple #[.int .u64 (U (acc a b 64).1), .int .u64 (U (acc a b 64).2)]) ∧ Below w.heap.size w w' := by
  go_enter Try.func15, Try.ntmps15
  go_wp2_with fail
  go_loopw [6, 7, 8, 9] (fun h l _ i wr => ∃ k : Nat, k ≤ 64 ∧ i = .int .i64 k ∧ h = .int .u64 (U (acc a b k).1) ∧ l = .int .u64 (U (acc a b k).2) ∧ Below w.heap.size w wr) (fun _ _ _ i _ => 64 - (intOf i).toNat)
  case atStart => exact ⟨0, by omega, rfl, rfl, rfl, Below.refl _ _⟩
  case round =>
    obtain ⟨k, hk, rfl, rfl, rfl, hb⟩ := hrel
    have HB := Lib.hid hb
    clear hb
    by_cases hlt : k < 64
    · have p : 0 ≤ (k : Int) := by omega
      have q : (k : Int) < 64 := by omega
      have e64 : (64 - (k : Int)).toNat = 64 - k := by omega
      by_cases hbit : (b >>> k) &&& 1#64 = 1#64
      · have t1 : (U ((b >>> k) &&& 1#64) == 1) = true := by rw [U_beq1]; simpa using hbit
        have HA : Hid (acc a b (k + 1) = ((acc a b k).1 ^^^ (a >>> (64 - k)), (acc a b k).2 ^^^ (a <<< k))) := Lib.hid (by rw [acc, if_pos hbit])
        clear hbit
        go_wp2_with fail
        refine (add_new _ _ _ _).mono ?_
        rintro e w1 ⟨rfl, hb1⟩
        have HB1 := Lib.hid (HB.out.trans (hb1.mono HB.out.size))
        clear hb1 HB
        go_wp2_with fail
        refine (add_new _ _ _ _).mono ?_
        rintro e w2 ⟨rfl, hb2⟩
        have HB2 := Lib.hid (HB1.out.trans (hb2.mono HB1.out.size))
        clear hb2 HB1
        go_wp2_with fail
        go_roundw
        case rel => exact ⟨k + 1, by omega, by go_num, by rw [HA.out], by rw [HA.out], HB2.out⟩
        case measure => simp [intOf]; omega
      · have t1 : (U ((b >>> k) &&& 1#64) == 1) = false := by rw [U_beq1]; simpa using hbit
        have HA : Hid (acc a b (k + 1) = acc a b k) := Lib.hid (by rw [acc, if_neg hbit])
        clear hbit
        go_wp2_with fail
        go_roundw
        case rel => exact ⟨k + 1, by omega, by go_num, by rw [HA.out], by rw [HA.out], HB.out⟩
        case measure => simp [intOf]; omega
    · obtain rfl : k = 64 := by omega
      go_wp2_with fail
      go_ret2
      exact ⟨rfl, HB.out⟩
end Go.Proofs.Ytfbihkfcpgkbmaa
