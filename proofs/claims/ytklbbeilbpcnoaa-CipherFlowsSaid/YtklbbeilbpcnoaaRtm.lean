/- hypogeumref02.times: the product of two bytes. -/
import Derived.Test.YtklbbeilbpcnoaaRfp
import Derived.Test.YtklbbeilbpcnoaaMkk
import Derived.Laws.BitsAllLaws
namespace Go.Proofs.Ytklbbeilbpcnoaa
open Go.RowKit Sha Aes

theorem i64_and_nat (a b : Nat) (ha : a < 9223372036854775808) (hb : b < 9223372036854775808) : bits .and .i64 (a : Int) (b : Int) = ((a &&& b : Nat) : Int) := by
  have hx : a &&& b < 2 ^ 63 := Nat.and_lt_two_pow _ (by omega)
  show IntKind.i64.wrap ((BitVec.ofInt 64 (a : Int) &&& BitVec.ofInt 64 (b : Int)).toNat : Int) = _
  rw [BitVec.toNat_and, ofInt_u64 a (by omega), ofInt_u64 b (by omega), IntWalk.i64_in _ (by omega)]
theorem i64_xor_nat (a b : Nat) (ha : a < 9223372036854775808) (hb : b < 9223372036854775808) : bits .xor .i64 (a : Int) (b : Int) = ((a ^^^ b : Nat) : Int) := by
  have hx : a ^^^ b < 2 ^ 63 := Nat.xor_lt_two_pow (by omega) (by omega)
  show IntKind.i64.wrap ((BitVec.ofInt 64 (a : Int) ^^^ BitVec.ofInt 64 (b : Int)).toNat : Int) = _
  rw [BitVec.toNat_xor, ofInt_u64 a (by omega), ofInt_u64 b (by omega), IntWalk.i64_in _ (by omega)]
theorem int_shr (a k : Nat) : (a : Int) / 2 ^ k = ((a >>> k : Nat) : Int) := by
  rw [Nat.shiftRight_eq_div_pow, Int.natCast_ediv, Int.natCast_pow]
  rfl
theorem int_shl (a k : Nat) (h : a * 2 ^ k < 9223372036854775808) : IntKind.i64.wrap ((a : Int) * 2 ^ k) = ((a <<< k : Nat) : Int) := by
  have e : (a : Int) * 2 ^ k = ((a * 2 ^ k : Nat) : Int) := by rw [Int.natCast_mul, Int.natCast_pow]; rfl
  rw [Nat.shiftLeft_eq, e]
  generalize a * 2 ^ k = x at *
  exact IntWalk.i64_in _ (by omega)
theorem shl_le (a k m : Nat) (ha : a < 2 ^ m) : a <<< k < 2 ^ (m + k) := by
  rw [Nat.shiftLeft_eq, Nat.pow_add]
  exact Nat.mul_lt_mul_of_pos_right ha (Nat.pow_pos (by decide))
theorem land_one (x : Nat) : x &&& 1 = x % 2 := by rw [Nat.and_one_is_mod]
theorem s1_def (a b k p : Nat) : s1 a b k p = p ^^^ ((b >>> k) % 2) * (a <<< k) := by
  rw [← land_one]; rfl
theorem s2_def (i c q : Nat) : s2 i c q = q ^^^ ((q >>> i) % 2) * c := by
  rw [← land_one]; rfl
theorem tA_lt (a b : Nat) (ha : a < 256) : ∀ k, k ≤ 8 → tA a b k < 2 ^ 16
  | 0, _ => by show 0 < 2 ^ 16; decide
  | k + 1, h => by
    rw [tA, s1_def]
    refine Nat.xor_lt_two_pow (tA_lt a b ha k (by omega)) ?_
    have h1 := shl_le a k 8 ha
    have h2 : 2 ^ (8 + k) ≤ 2 ^ 16 := Nat.pow_le_pow_right (by decide) (by omega)
    rcases Nat.mod_two_eq_zero_or_one (b >>> k) with e | e <;> rw [e] <;> omega
theorem tB_lt (p : Nat) (hp : p < 2 ^ 16) : ∀ k, k ≤ 7 → tB p k < 2 ^ 16
  | 0, _ => hp
  | k + 1, h => by
    rw [tB, s2_def]
    refine Nat.xor_lt_two_pow (tB_lt p hp k (by omega)) ?_
    have h1 : 0x11B <<< (6 - k) < 2 ^ (9 + (6 - k)) := shl_le 0x11B (6 - k) 9 (by decide)
    have h2 : 2 ^ (9 + (6 - k)) ≤ 2 ^ 16 := Nat.pow_le_pow_right (by decide) (by omega)
    have h3 : Nat.shiftLeft 0x11B (6 - k) = 0x11B <<< (6 - k) := rfl
    rw [h3]
    rcases Nat.mod_two_eq_zero_or_one (tB p k >>> (14 - k)) with e | e <;> rw [e] <;> omega

set_option maxRecDepth 100000 in
set_option maxHeartbeats 2000000 in
theorem times_any (a b : Nat) (w : World) (ha : a < 256) (hb : b < 256) :
    Calls Try.prog 30 #[.int .i64 a, .int .i64 b] w fun e w' => e = .returned (.int .i64 (tm a b : Nat)) ∧ w = w' := by
  go_enter Try.func30, Try.ntmps30
  go_wp2_with fail
  go_loopw [6, 5] (fun i p wr => ∃ k : Nat, k ≤ 8 ∧ i = .int .i64 k ∧ p = .int .i64 (tA a b k : Nat) ∧ w = wr) (fun i _ _ => (8 - intOf i).toNat)
  case atStart => exact ⟨0, by omega, rfl, rfl, rfl⟩
  case round =>
    obtain ⟨k, hk, rfl, rfl, rfl⟩ := hrel
    by_cases hlt : k < 8
    · have q : (k : Int) < 8 := by omega
      have HP := Lib.hid (tA_lt a b ha k hk)
      have HN : Hid (tA a b (k + 1) = tA a b k ^^^ ((b >>> k) % 2) * (a <<< k)) := Lib.hid (s1_def a b k _)
      generalize tA a b k = p at *
      have HS := Lib.hid (shl_le a k 8 ha)
      have HS2 : Hid (2 ^ (8 + k) ≤ 2 ^ 16) := Lib.hid (Nat.pow_le_pow_right (by decide) (by omega))
      have HB : Hid (b >>> k < 256) := Lib.hid (Nat.lt_of_le_of_lt (by rw [Nat.shiftRight_eq_div_pow]; exact Nat.div_le_self _ _) hb)
      have e1 : bits .and .i64 ((b : Int) / 2 ^ k) 1 = ((b >>> k % 2 : Nat) : Int) := by
        rw [int_shr, ← land_one]
        exact i64_and_nat _ 1 (by have := HB.out; omega) (by decide)
      have e2 : IntKind.i64.wrap ((a : Int) * 2 ^ k) = ((a <<< k : Nat) : Int) := int_shl a k (by
        have := HS.out; have := HS2.out; rw [Nat.shiftLeft_eq] at *; omega)
      have e3 : bits .xor .i64 (p : Int) ((a <<< k : Nat) : Int) = ((p ^^^ a <<< k : Nat) : Int) := i64_xor_nat _ _ (by have := HP.out; omega) (by have := HS.out; have := HS2.out; omega)
      rcases Nat.mod_two_eq_zero_or_one (b >>> k) with e | e
      · rw [e] at e1 HN
        have HN := HN.out
        rw [Nat.zero_mul, Nat.xor_zero] at HN
        have HN := Lib.hid HN
        clear e2 e3 e
        go_wp2_with fail
        go_roundw
        case rel => exact ⟨k + 1, by omega, by go_num, by rw [HN.out], by trivial⟩
        case measure => simp [intOf]; omega
      · rw [e] at e1 HN
        have HN := HN.out
        rw [Nat.one_mul] at HN
        have HN := Lib.hid HN
        clear e
        generalize a <<< k = s at *
        generalize p ^^^ s = x at *
        go_wp2_with fail
        go_roundw
        case rel => exact ⟨k + 1, by omega, by go_num, by rw [HN.out], by trivial⟩
        case measure => simp [intOf]; omega
    · obtain rfl : k = 8 := by omega
      have HP := Lib.hid (tA_lt a b ha 8 (Nat.le_refl _))
      have HT : Hid (tm a b = tB (tA a b 8) 7) := Lib.hid rfl
      generalize tA a b 8 = P at *
      go_wp2_with fail
      go_loopw [7, 5] (fun i p wr => ∃ n : Nat, 7 ≤ n ∧ n ≤ 14 ∧ i = .int .i64 n ∧ p = .int .i64 (tB P (14 - n) : Nat) ∧ w = wr) (fun i _ _ => (intOf i).toNat)
      case atStart => exact ⟨14, by omega, by omega, rfl, rfl, rfl⟩
      case round =>
        obtain ⟨n, hn7, hn, rfl, rfl, rfl⟩ := hrel
        by_cases hlt : 8 ≤ n
        · have q : 8 ≤ (n : Int) := by omega
          have HQ := Lib.hid (tB_lt P HP.out (14 - n) (by omega))
          have HN : Hid (tB P (14 - (n - 1)) = tB P (14 - n) ^^^ ((tB P (14 - n) >>> n) % 2) * (0x11B <<< (n - 8))) := Lib.hid (by
            rw [show 14 - (n - 1) = (14 - n) + 1 by omega, tB, s2_def, show 14 - (14 - n) = n by omega, show 6 - (14 - n) = n - 8 by omega]; rfl)
          generalize tB P (14 - n) = p at *
          have HS : Hid (0x11B <<< (n - 8) < 2 ^ (9 + (n - 8))) := Lib.hid (shl_le 0x11B (n - 8) 9 (by decide))
          have HS2 : Hid (2 ^ (9 + (n - 8)) ≤ 2 ^ 16) := Lib.hid (Nat.pow_le_pow_right (by decide) (by omega))
          have HB : Hid (p >>> n < 2 ^ 16) := Lib.hid (Nat.lt_of_le_of_lt (by rw [Nat.shiftRight_eq_div_pow]; exact Nat.div_le_self _ _) HQ.out)
          have e1 : bits .and .i64 ((p : Int) / 2 ^ n) 1 = ((p >>> n % 2 : Nat) : Int) := by
            rw [int_shr, ← land_one]
            exact i64_and_nat _ 1 (by have := HB.out; omega) (by decide)
          have t8 : ((n : Int) - 8).toNat = n - 8 := by omega
          have w8 : IntKind.i64.wrap ((n : Int) - 8) = (n : Int) - 8 := IntWalk.i64_in _ (by omega)
          have g8 : 0 ≤ (n : Int) - 8 := by omega
          have w1 : IntKind.i64.wrap ((n : Int) - 1) = (n : Int) - 1 := IntWalk.i64_in _ (by omega)
          have e2 : IntKind.i64.wrap (283 * 2 ^ (n - 8)) = ((0x11B <<< (n - 8) : Nat) : Int) := int_shl 283 (n - 8) (by
            have := HS.out; have := HS2.out; rw [Nat.shiftLeft_eq] at *; omega)
          have e3 : bits .xor .i64 (p : Int) ((0x11B <<< (n - 8) : Nat) : Int) = ((p ^^^ 0x11B <<< (n - 8) : Nat) : Int) := i64_xor_nat _ _ (by have := HQ.out; omega) (by have := HS.out; have := HS2.out; omega)
          rcases Nat.mod_two_eq_zero_or_one (p >>> n) with e | e
          · rw [e] at e1 HN
            have HN := HN.out
            rw [Nat.zero_mul, Nat.xor_zero] at HN
            have HN := Lib.hid HN
            clear e2 e3 e
            go_wp2_with fail
            go_roundw
            case rel => exact ⟨n - 1, by omega, by omega, by go_num; try omega, by rw [HN.out], by trivial⟩
            case measure => simp [intOf]; omega
          · rw [e] at e1 HN
            have HN := HN.out
            rw [Nat.one_mul] at HN
            have HN := Lib.hid HN
            clear e
            generalize 0x11B <<< (n - 8) = s at *
            generalize p ^^^ s = x at *
            go_wp2_with fail
            go_roundw
            case rel => exact ⟨n - 1, by omega, by omega, by go_num; try omega, by rw [HN.out], by trivial⟩
            case measure => simp [intOf]; omega
        · obtain rfl : n = 7 := by omega
          have HT := HT.out
          rw [show 14 - 7 = 7 from rfl]
          generalize tB P 7 = r at *
          go_wp2_with fail
          go_ret
          exact ⟨by rw [HT]; rfl, rfl⟩
end Go.Proofs.Ytklbbeilbpcnoaa
