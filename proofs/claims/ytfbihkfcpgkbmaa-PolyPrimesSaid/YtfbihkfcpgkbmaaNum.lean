/- The contract of number, at a list of a number's bits; of the document's Deg. -/
import Derived.Test.YtfbihkfcpgkbmaaList
namespace Go.Proofs.Ytfbihkfcpgkbmaa
open Go.RowKit

/-- The lowest k bits as a word. -/
def nw (k x : Nat) : W := BitVec.ofNat 64 (x % 2 ^ k)
theorem U_add (x y : W) : IntKind.u64.wrap (U x + U y) = U (x + y) := by
  rw [IntKind.wrap_u64]; unfold U; rw [BitVec.toNat_add]; omega
theorem nw_bit (k x : Nat) (hk : k < 64) (h : x.testBit k = true) : nw k x + (1#64 <<< k) = nw (k + 1) x := by
  have e1 : (1#64 <<< k).toNat = 2 ^ k := by
    rw [BitVec.toNat_shiftLeft, Nat.shiftLeft_eq]
    simp
    exact Nat.pow_lt_pow_right (by decide) hk
  have hb : x / 2 ^ k % 2 = 1 := by
    rw [Nat.testBit_eq_decide_div_mod_eq] at h
    simpa using h
  have e2 : x % 2 ^ (k + 1) = x % 2 ^ k + 2 ^ k := by
    rw [Nat.pow_succ, Nat.mod_mul, hb, Nat.mul_one]
  have hlt : x % 2 ^ (k + 1) < 2 ^ 64 := Nat.lt_of_lt_of_le (Nat.mod_lt _ (Nat.two_pow_pos _)) (Nat.pow_le_pow_right (by decide) (by omega))
  apply BitVec.eq_of_toNat_eq
  unfold nw
  rw [BitVec.toNat_add, e1, BitVec.toNat_ofNat, BitVec.toNat_ofNat, Nat.mod_eq_of_lt hlt, Nat.mod_eq_of_lt (a := x % 2 ^ k) (by omega), Nat.mod_eq_of_lt (by omega), e2]
theorem nw_no (k x : Nat) (h : x.testBit k = false) : nw (k + 1) x = nw k x := by
  have hb : x / 2 ^ k % 2 = 0 := by
    rw [Nat.testBit_eq_decide_div_mod_eq] at h
    have := Nat.mod_two_eq_zero_or_one (x / 2 ^ k)
    simp at h
    omega
  unfold nw
  rw [Nat.pow_succ, Nat.mod_mul, hb, Nat.mul_zero, Nat.add_zero]

attribute [local go_sem] U_add U_shl1
set_option maxHeartbeats 1000000 in
theorem number_any (a : Option Addr) (c n x : Nat) (w : World) (hl : n ≤ c) (hc : n ≤ 1000000) (h : boolsIn w a (bitsOf n x)) :
    Calls Try.prog 28 #[.slice a n c] w fun e w' => e = .returned (.int .u64 (U (nw (min n 64) x))) ∧ w = w' := by
  have H := Lib.hid h
  clear h
  go_enter Try.func28, Try.ntmps28
  go_wp2_with fail
  go_loop [3, 4] (fun s i => ∃ k : Nat, k ≤ n ∧ k ≤ 64 ∧ i = .int .i64 k ∧ s = .int .u64 (U (nw k x))) (fun _ i => n - (intOf i).toNat)
  case atStart => exact ⟨0, by omega, by omega, rfl, by unfold nw; rw [Nat.pow_zero, Nat.mod_one]; rfl⟩
  case round =>
    obtain ⟨k, hk, hk2, rfl, rfl⟩ := hrel
    have p : 0 ≤ (k : Int) := by omega
    by_cases hlt : k < n
    · by_cases h64 : k < 64
      · have q : (k : Int) < (n : Int) := by omega
        have q2 : (k : Int) < 64 := by omega
        rcases H.out with h0 | ⟨b, o, rfl, hcell⟩
        · have := bitsOf_length n x; rw [h0] at this; simp at this; omega
        have d := hcell k (by rw [bitsOf_length]; exact hlt)
        rw [bitsOf_getD n x k hlt] at d
        clear hcell
        cases hb : x.testBit k with
        | true =>
          rw [hb] at d
          have HB := Lib.hid (nw_bit k x h64 hb)
          clear hb
          go_wp2_with fail
          go_round
          case rel => exact ⟨k + 1, by omega, by omega, by go_num, by rw [HB.out]⟩
          case measure => simp [intOf]; omega
        | false =>
          rw [hb] at d
          have HB := Lib.hid (nw_no k x hb)
          clear hb
          go_wp2_with fail
          go_round
          case rel => exact ⟨k + 1, by omega, by omega, by go_num, by rw [HB.out]⟩
          case measure => simp [intOf]; omega
      · obtain rfl : k = 64 := by omega
        have q : ((64 : Nat) : Int) < (n : Int) := by omega
        go_wp2_with fail
        go_ret
        exact ⟨rfl, rfl⟩
    · obtain rfl : k = n := by omega
      go_wp2_with fail
      go_ret
      exact ⟨rfl, rfl⟩
theorem nw_self (n : Nat) (x : W) (h : x.toNat < 2 ^ n) : nw n x.toNat = x := by
  unfold nw
  rw [Nat.mod_eq_of_lt h]
  simp

set_option maxHeartbeats 1000000 in
theorem refDeg_any (x : W) (w : World) :
    Calls Try.prog 14 #[.int .u64 (U x)] w fun e w' => e = .returned (.int .i64 (dgw x)) ∧ Below w.heap.size w w' := by
  have hle := len_le x.toNat x.isLt
  go_enter Try.func14, Try.ntmps14
  go_wp2_with fail
  refine (list_any x w).mono ?_
  rintro e w1 ⟨a, c, rfl, h1, h2, h3, hb, h4, h5⟩
  have HB := Lib.hid hb
  clear hb h1 h2 h3 h4 h5
  rw [bitsOf_length]
  go_wp2_with fail
  go_ret
  exact ⟨ret_i64 (by unfold dgw deg; first | rfl | omega), HB.out⟩
end Go.Proofs.Ytfbihkfcpgkbmaa
