/- Mul's halves are those of the product; sums go through; rests of sums. -/
import Derived.Test.YtfbihkfcpgkbmaaBits
namespace Go.Proofs.Ytfbihkfcpgkbmaa
open Go.RowKit

theorem xor_div (x y n : Nat) : (x ^^^ y) / 2 ^ n = x / 2 ^ n ^^^ y / 2 ^ n := by
  apply Nat.eq_of_testBit_eq
  intro i
  rw [Nat.testBit_xor, Nat.testBit_div_two_pow, Nat.testBit_div_two_pow, Nat.testBit_div_two_pow, Nat.testBit_xor]
theorem xor_mod (x y n : Nat) : (x ^^^ y) % 2 ^ n = x % 2 ^ n ^^^ y % 2 ^ n := by
  apply Nat.eq_of_testBit_eq
  intro i
  rw [Nat.testBit_xor, Nat.testBit_mod_two_pow, Nat.testBit_mod_two_pow, Nat.testBit_mod_two_pow, Nat.testBit_xor]
  cases decide (i < n) <;> simp
theorem mod_succ (b k : Nat) : b % 2 ^ (k + 1) = b % 2 ^ k ^^^ (if b / 2 ^ k % 2 = 1 then 2 ^ k else 0) := by
  apply Nat.eq_of_testBit_eq
  intro i
  have hb : b.testBit k = decide (b / 2 ^ k % 2 = 1) := Nat.testBit_eq_decide_div_mod_eq
  rw [Nat.testBit_xor, Nat.testBit_mod_two_pow, Nat.testBit_mod_two_pow]
  by_cases hi : i = k
  · subst hi
    by_cases h : b / 2 ^ i % 2 = 1
    · rw [if_pos h, hb]; simp [h, Nat.testBit_two_pow_self]
    · rw [if_neg h, hb]; simp [h]
  · have e : (if b / 2 ^ k % 2 = 1 then 2 ^ k else 0).testBit i = false := by
      split
      · exact Nat.testBit_two_pow_of_ne (by omega)
      · simp
    rw [e, Bool.xor_false]
    by_cases h : i < k
    · simp [h, show i < k + 1 by omega]
    · simp [h, show ¬ i < k + 1 by omega]
theorem acc_spec (a b : W) (k : Nat) (hk : k ≤ 64) :
    (acc a b k).1.toNat = Pm.pm a.toNat (b.toNat % 2 ^ k) / 2 ^ 64 ∧ (acc a b k).2.toNat = Pm.pm a.toNat (b.toNat % 2 ^ k) % 2 ^ 64 := by
  induction k with
  | zero => simp [acc, Nat.mod_one, Pm.zero_pm]
  | succ k ih =>
    obtain ⟨h1, h2⟩ := ih (by omega)
    rw [mod_succ, Pm.pm_add_right, xor_div, xor_mod]
    unfold acc
    by_cases h : (b >>> k) &&& 1#64 = 1#64
    · rw [if_pos h, if_pos ((bit_and b k).1 h), Pm.pm_pow]
      have e1 : a.toNat * 2 ^ k / 2 ^ 64 = (a >>> (64 - k)).toNat := by
        rw [BitVec.toNat_ushiftRight, Nat.shiftRight_eq_div_pow, show (2 : Nat) ^ 64 = 2 ^ (64 - k) * 2 ^ k by rw [← Nat.pow_add]; congr 1; omega]
        exact Nat.mul_div_mul_right _ _ (Nat.two_pow_pos k)
      have e2 : a.toNat * 2 ^ k % 2 ^ 64 = (a <<< k).toNat := by
        rw [BitVec.toNat_shiftLeft, Nat.shiftLeft_eq]
      rw [e1, e2]
      exact ⟨by rw [BitVec.toNat_xor, h1], by rw [BitVec.toNat_xor, h2]⟩
    · rw [if_neg h, if_neg (fun e => h ((bit_and b k).2 e)), Pm.zero_pm]
      simp [h1, h2]
theorem acc_hi (a b : W) : (acc a b 64).1.toNat = Pm.pm a.toNat b.toNat / 2 ^ 64 := by
  have := (acc_spec a b 64 (Nat.le_refl _)).1
  rwa [Nat.mod_eq_of_lt b.isLt] at this
theorem acc_lo (a b : W) : (acc a b 64).2.toNat = Pm.pm a.toNat b.toNat % 2 ^ 64 := by
  have := (acc_spec a b 64 (Nat.le_refl _)).2
  rwa [Nat.mod_eq_of_lt b.isLt] at this
theorem acc_add (p q m : W) : (acc (p ^^^ q) m 64).1 = (acc p m 64).1 ^^^ (acc q m 64).1 ∧ (acc (p ^^^ q) m 64).2 = (acc p m 64).2 ^^^ (acc q m 64).2 := by
  constructor
  · apply BitVec.eq_of_toNat_eq
    rw [BitVec.toNat_xor, acc_hi, acc_hi, acc_hi, BitVec.toNat_xor, Pm.pm_add_left, xor_div]
  · apply BitVec.eq_of_toNat_eq
    rw [BitVec.toNat_xor, acc_lo, acc_lo, acc_lo, BitVec.toNat_xor, Pm.pm_add_left, xor_mod]
theorem acc_comm (a b : W) : acc a b 64 = acc b a 64 := by
  apply Prod.ext
  · apply BitVec.eq_of_toNat_eq; rw [acc_hi, acc_hi, Pm.pm_comm]
  · apply BitVec.eq_of_toNat_eq; rw [acc_lo, acc_lo, Pm.pm_comm]
theorem wR_add (p q m : W) (hm : m ≠ 0) : wR (p ^^^ q) m = wR p m ^^^ wR q m := by
  apply BitVec.eq_of_toNat_eq
  rw [BitVec.toNat_xor, wR_toNat _ _ hm, wR_toNat _ _ hm, wR_toNat _ _ hm, BitVec.toNat_xor, Pm.pr_add _ _ _ (ne_toNat hm)]
theorem wM_one (p m : W) (hm : m ≠ 0) : wM p 1#64 m = wR p m := by
  apply BitVec.eq_of_toNat_eq
  rw [wM_toNat _ _ _ hm, wR_toNat _ _ hm]
  show Pm.pr (Pm.pm p.toNat 1) _ = _
  rw [Pm.one_pm]
end Go.Proofs.Ytfbihkfcpgkbmaa
