/- Numbers of 16 bytes: what is added, and added again. -/
import Derived.Test.YtklbbeilbpcnoaaHde
namespace Go.Proofs.Ytklbbeilbpcnoaa
open Go.RowKit Sha Aes

/-- The number of the last k bytes. -/
def low (N : List UInt8) : Nat → Nat
  | 0 => 0
  | k + 1 => low N k + 256 ^ k * (N.getD (15 - k) 0).toNat
theorem low_div (N : List UInt8) (n k : Nat) : (n + low N (k + 1)) / 256 ^ k = (n + low N k) / 256 ^ k + (N.getD (15 - k) 0).toNat := by
  rw [low, ← Nat.add_assoc, Nat.add_mul_div_left _ _ (Nat.pow_pos (by decide))]
theorem addSt_inv (N : List UInt8) (n : Nat) (hN : N.length = 16) : ∀ k, k ≤ 16 → (addSt N n k).1 = (n + low N k) / 256 ^ k ∧ (∀ j, j < 16 - k → (addSt N n k).2.getD j 0 = N.getD j 0) ∧ (∀ i, i < k → (addSt N n k).2.getD (15 - i) 0 = UInt8.ofNat ((n + low N (i + 1)) / 256 ^ i))
  | 0, _ => ⟨by simp [addSt, low], fun j _ => rfl, fun i hi => absurd hi (Nat.not_lt_zero i)⟩
  | k + 1, h => by
    obtain ⟨h1, h2, h3⟩ := addSt_inv N n hN k (by omega)
    have hl : (addSt N n k).2.length = 16 := by rw [addSt_len, hN]
    have e : (addSt N n k).1 + ((addSt N n k).2.getD (15 - k) 0).toNat = (n + low N (k + 1)) / 256 ^ k := by
      rw [h1, h2 (15 - k) (by omega), low_div]
    refine ⟨?_, fun j hj => ?_, fun i hi => ?_⟩
    · rw [addSt]
      show ((addSt N n k).1 + _) / 256 = _
      rw [e, Nat.div_div_eq_div_mul, ← Nat.pow_succ]
    · rw [addSt]
      show ((addSt N n k).2.set (15 - k) _).getD j 0 = _
      rw [List.getD_eq_getElem?_getD, List.getElem?_set, if_neg (by omega), ← List.getD_eq_getElem?_getD]
      exact h2 j (by omega)
    · rw [addSt]
      show ((addSt N n k).2.set (15 - k) _).getD (15 - i) 0 = _
      rw [e, List.getD_eq_getElem?_getD, List.getElem?_set]
      by_cases hik : i = k
      · subst hik
        rw [if_pos rfl, if_pos (by omega)]
        rfl
      · rw [if_neg (by omega), ← List.getD_eq_getElem?_getD]
        exact h3 i (by omega)
theorem plus_byte (N : List UInt8) (n : Nat) (hN : N.length = 16) (i : Nat) (hi : i < 16) : (plus N n).getD (15 - i) 0 = UInt8.ofNat ((n + low N (i + 1)) / 256 ^ i) :=
  (addSt_inv N n hN 16 (Nat.le_refl _)).2.2 i hi
theorem low_mod (N : List UInt8) (a k : Nat) : (a + low N (k + 1)) % 256 ^ k = (a + low N k) % 256 ^ k := by
  rw [low, ← Nat.add_assoc, Nat.add_mul_mod_self_left]
theorem low_plus (N : List UInt8) (a : Nat) (hN : N.length = 16) : ∀ k, k ≤ 16 → low (plus N a) k = (a + low N k) % 256 ^ k
  | 0, _ => by simp [low, Nat.mod_one]
  | k + 1, h => by
    have ih := low_plus N a hN k (by omega)
    have e : ((plus N a).getD (15 - k) 0).toNat = (a + low N (k + 1)) / 256 ^ k % 256 := by
      rw [plus_byte N a hN k (by omega), UInt8.toNat_ofNat']
    rw [low, ih, e, Nat.pow_succ, Nat.mod_mul, low_mod]
theorem ofNat_congr {a b : Nat} (h : a % 256 = b % 256) : UInt8.ofNat a = UInt8.ofNat b := by
  apply UInt8.toNat_inj.1
  rw [UInt8.toNat_ofNat', UInt8.toNat_ofNat']
  exact h
theorem plus_plus (N : List UInt8) (a b : Nat) (hN : N.length = 16) : plus (plus N a) b = plus N (a + b) := by
  have hl := plus_len N a
  apply List.ext_getElem (by rw [plus_len, plus_len, plus_len])
  intro j h1 h2
  have hj : j < 16 := by rw [plus_len, hN] at h2; exact h2
  have key : (plus (plus N a) b).getD (15 - (15 - j)) 0 = (plus N (a + b)).getD (15 - (15 - j)) 0 := by
    rw [plus_byte _ b (by rw [plus_len, hN]) (15 - j) (by omega), plus_byte N (a + b) hN (15 - j) (by omega), low_plus N a hN (15 - j + 1) (by omega)]
    generalize 15 - j = k
    apply ofNat_congr
    have hp : 0 < 256 ^ k := Nat.pow_pos (by decide)
    have e1 : a + low N (k + 1) = 256 ^ (k + 1) * ((a + low N (k + 1)) / 256 ^ (k + 1)) + (a + low N (k + 1)) % 256 ^ (k + 1) := (Nat.div_add_mod _ _).symm
    rw [show a + b + low N (k + 1) = b + (a + low N (k + 1)) by omega]
    generalize a + low N (k + 1) = s at *
    generalize hq : s / 256 ^ (k + 1) = qq at *
    generalize hr : s % 256 ^ (k + 1) = r at *
    rw [e1, Nat.pow_succ, show b + (256 ^ k * 256 * qq + r) = (b + r) + 256 ^ k * (256 * qq) by rw [Nat.mul_assoc]; omega, Nat.add_mul_div_left _ _ hp, Nat.add_mul_mod_self_left]
  rw [show 15 - (15 - j) = j by omega] at key
  simpa [h1, h2] using key
theorem plus_zero (N : List UInt8) (hN : N.length = 16) : plus N 0 = N := by
  have st : ∀ k, k ≤ 16 → addSt N 0 k = (0, N) := by
    intro k hk
    induction k with
    | zero => rfl
    | succ k ih =>
      have := (N.getD (15 - k) 0).toNat_lt
      rw [addSt, ih (by omega)]
      refine Prod.ext (by show (0 + (N.getD (15 - k) 0).toNat) / 256 = 0; omega) ?_
      show N.set (15 - k) (UInt8.ofNat (0 + (N.getD (15 - k) 0).toNat)) = N
      rw [Nat.zero_add, UInt8.ofNat_toNat]
      apply List.ext_getElem (by simp)
      intro i h1 h2
      rw [List.getElem_set]
      split
      · rename_i e; subst e; simp [h2]
      · rfl
  unfold plus
  rw [st 16 (Nat.le_refl _)]
/-- Where there is no carry left, all stays. -/
theorem addSt_still (N : List UInt8) (n : Nat) (hN : N.length = 16) (k : Nat) (hk : k ≤ 16) (h0 : (addSt N n k).1 = 0) : plus N n = (addSt N n k).2 := by
  have st : ∀ d, k + d ≤ 16 → addSt N n (k + d) = (0, (addSt N n k).2) := by
    intro d hd
    induction d with
    | zero => exact Prod.ext h0 rfl
    | succ d ih =>
      have hl : (addSt N n k).2.length = 16 := by rw [addSt_len, hN]
      rw [← Nat.add_assoc, addSt, ih (by omega)]
      generalize (addSt N n k).2 = M at *
      have := (M.getD (15 - (k + d)) 0).toNat_lt
      refine Prod.ext (by show (0 + (M.getD (15 - (k + d)) 0).toNat) / 256 = 0; omega) ?_
      show M.set (15 - (k + d)) (UInt8.ofNat (0 + (M.getD (15 - (k + d)) 0).toNat)) = M
      rw [Nat.zero_add, UInt8.ofNat_toNat]
      apply List.ext_getElem (by simp)
      intro i h1 h2
      rw [List.getElem_set]
      split
      · rename_i e; subst e; simp [h2]
      · rfl
  have := st (16 - k) (by omega)
  rw [show k + (16 - k) = 16 by omega] at this
  unfold plus
  rw [this]
end Go.Proofs.Ytklbbeilbpcnoaa
