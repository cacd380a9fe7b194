/- Numbers as bytes: plain words. -/
import Derived.Test.YtjgmhaajcglpmaaBase
namespace Go.Proofs.Ytjgmhaajcglpmaa
open Go.RowKit

/-- A number's bytes: seven bits each, the lowest first. -/
def numBytes (n : Nat) : List UInt8 := if _h : n < 128 then [UInt8.ofNat n] else UInt8.ofNat (n % 128 + 128) :: numBytes (n / 128)
termination_by n
decreasing_by omega
theorem numBytes_small {n : Nat} (h : n < 128) : numBytes n = [UInt8.ofNat n] := by rw [numBytes, dif_pos h]
theorem numBytes_big {n : Nat} (h : ¬ n < 128) : numBytes n = UInt8.ofNat (n % 128 + 128) :: numBytes (n / 128) := by rw [numBytes, dif_neg h]
theorem numBytes_pos (n : Nat) : 0 < (numBytes n).length := by
  by_cases h : n < 128
  · rw [numBytes_small h]; simp
  · rw [numBytes_big h]; simp
theorem numBytes_mono (m n : Nat) (h : m ≤ n) : (numBytes m).length ≤ (numBytes n).length := by
  induction n using Nat.strongRecOn generalizing m with
  | ind n ih =>
    by_cases hm : m < 128
    · rw [numBytes_small hm]; exact numBytes_pos n
    · rw [numBytes_big (n := m) hm, numBytes_big (n := n) (by omega), List.length_cons, List.length_cons]
      exact Nat.succ_le_succ (ih (n / 128) (by omega) (m / 128) (Nat.div_le_div_right h))
theorem numBytes_le (k n : Nat) (h : n < 128 ^ (k + 1)) : (numBytes n).length ≤ k + 1 := by
  induction k generalizing n with
  | zero => rw [numBytes_small (by simpa using h)]; simp
  | succ k ih =>
    by_cases hn : n < 128
    · rw [numBytes_small hn]; simp
    · rw [numBytes_big hn, List.length_cons]
      refine Nat.succ_le_succ (ih (n / 128) ?_)
      rw [Nat.pow_succ] at h
      exact Nat.div_lt_of_lt_mul (by rw [Nat.mul_comm]; exact h)
theorem numBytes_nine (n : Nat) (h : n < 4611686018427387904) : (numBytes n).length ≤ 9 := numBytes_le 8 n (by
  have : (4611686018427387904 : Nat) ≤ 128 ^ (8 + 1) := by decide
  omega)
theorem u8_inj {a b : Nat} (ha : a < 256) (hb : b < 256) (h : UInt8.ofNat a = UInt8.ofNat b) : a = b := by
  have := congrArg UInt8.toNat h
  rw [UInt8.toNat_ofNat', UInt8.toNat_ofNat'] at this
  omega
theorem numBytes_inj (m n : Nat) (h : numBytes m = numBytes n) : m = n := by
  induction n using Nat.strongRecOn generalizing m with
  | ind n ih =>
    by_cases hm : m < 128
    · by_cases hn : n < 128
      · rw [numBytes_small hm, numBytes_small hn] at h
        exact u8_inj (by omega) (by omega) (List.cons.inj h).1
      · rw [numBytes_small hm, numBytes_big hn] at h
        have := u8_inj (by omega) (by omega) (List.cons.inj h).1
        omega
    · by_cases hn : n < 128
      · rw [numBytes_big hm, numBytes_small hn] at h
        have := u8_inj (by omega) (by omega) (List.cons.inj h).1
        omega
      · rw [numBytes_big hm, numBytes_big hn] at h
        have h1 := u8_inj (by omega) (by omega) (List.cons.inj h).1
        have h2 := ih (n / 128) (by omega) (m / 128) (List.cons.inj h).2
        omega
/-- What a writer holds behind a number. -/
def outNum (s : List UInt8 × Int) (n : Int) : List UInt8 × Int := if s.2 ≠ 0 then s else if n < 0 ∨ 4611686018427387904 ≤ n then (s.1, 1) else (s.1 ++ numBytes n.toNat, 0)
def outNums (s : List UInt8 × Int) (l : List Int) : List UInt8 × Int := l.foldl outNum s
/-- Behind a text. -/
def outText (s : List UInt8 × Int) (t : List UInt8) : List UInt8 × Int := if s.2 ≠ 0 then s else if 131072 < t.length then (s.1, 4) else (s.1 ++ (numBytes t.length ++ t), 0)
def outTexts (s : List UInt8 × Int) (l : List (List UInt8)) : List UInt8 × Int := l.foldl outText s
def outFlag (s : List UInt8 × Int) (y : Bool) : List UInt8 × Int := outNum s (if y then 1 else 0)
def outFlags (s : List UInt8 × Int) (l : List Bool) : List UInt8 × Int := l.foldl outFlag s
end Go.Proofs.Ytjgmhaajcglpmaa
