/- PolySquares: for both words the law returns true, and its arguments read as before. No condition. -/
import Derived.Test.YtfbihkfcpgkbmaaFr
namespace Go.Proofs.Ytfbihkfcpgkbmaa
open Go.RowKit

theorem pm_sq (a : Nat) : Pm.pm a a = (a % 2) ^^^ 4 * Pm.pm (a / 2) (a / 2) := by
  have h1 : Pm.pm a a = Pm.pm ((if a % 2 = 1 then 1 else 0) ^^^ (2 * (a / 2))) ((if a % 2 = 1 then 1 else 0) ^^^ (2 * (a / 2))) := by rw [← Pm.parts]
  rw [h1, Pm.pm_add_left, Pm.pm_add_right, Pm.pm_add_right, Pm.pm_comm (2 * (a / 2)) (if a % 2 = 1 then 1 else 0), Pm.pm_two, Pm.pm_two_right, Pm.pm_two_right, ← Nat.mul_assoc]
  have h2 : ∀ x y z : Nat, (x ^^^ y) ^^^ (y ^^^ z) = x ^^^ z := fun x y z => by
    rw [Nat.xor_assoc, ← Nat.xor_assoc y, Nat.xor_self, Nat.zero_xor]
  rw [h2]
  congr 1
  rcases Nat.mod_two_eq_zero_or_one a with h | h <;> simp [h, Pm.pm_zero, Pm.pm_one]
theorem sq_bits (a i : Nat) : (Pm.pm a a).testBit (2 * i) = a.testBit i ∧ (Pm.pm a a).testBit (2 * i + 1) = false := by
  induction i generalizing a with
  | zero =>
    rw [pm_sq]
    constructor
    · rw [Nat.mul_zero, Nat.testBit_xor, Nat.testBit_zero, Nat.testBit_zero, Nat.testBit_zero]
      have : (4 * Pm.pm (a / 2) (a / 2)) % 2 = 0 := by omega
      simp [this]
    · rw [Nat.mul_zero, Nat.testBit_xor, Nat.testBit_succ, Nat.testBit_succ, Nat.testBit_zero, Nat.testBit_zero, show a % 2 / 2 = 0 by omega, show 4 * Pm.pm (a / 2) (a / 2) / 2 = 2 * Pm.pm (a / 2) (a / 2) by omega]
      simp
  | succ i ih =>
    have h := ih (a / 2)
    have e : ∀ j x y : Nat, x < 2 → (x ^^^ 4 * y).testBit (j + 1 + 1) = y.testBit j := fun j x y hx => by
      rw [Nat.testBit_xor, Nat.testBit_succ, Nat.testBit_succ, Nat.testBit_succ, Nat.testBit_succ, show 4 * y / 2 / 2 = y by omega, show x / 2 / 2 = 0 by omega]
      simp
    rw [pm_sq, show 2 * (i + 1) = 2 * i + 1 + 1 by omega, e _ _ _ (Nat.mod_lt _ (by decide)), show 2 * i + 1 + 1 + 1 = (2 * i + 1) + 1 + 1 by omega, e _ _ _ (Nat.mod_lt _ (by decide)), Nat.testBit_succ]
    exact h
/-- The lower 31 bits. -/
def low (a : W) : W := a % 2147483648#64
theorem low_lt (a : W) : (low a).toNat < 2 ^ 31 := by
  unfold low
  rw [BitVec.toNat_umod]
  exact Nat.mod_lt _ (by decide)
theorem U_low (a : W) : U a % 2147483648 = U (low a) := by
  unfold low U
  rw [BitVec.toNat_umod]
  rfl
theorem U_lowt (a : W) : (U a).tmod 2147483648 = U (low a) := by
  rw [Int.tmod_eq_emod_of_nonneg (U_nonneg a), U_low]
theorem sq_lo (p : W) (hp : p.toNat < 2 ^ 31) : (acc p p 64).2.toNat = Pm.pm p.toNat p.toNat := by
  rw [acc_lo, Nat.mod_eq_of_lt]
  have := Pm.pm_lt (m := 31) (n := 30) hp hp
  exact Nat.lt_of_lt_of_le this (by decide)
theorem sq_add (p q : W) : (acc (p ^^^ q) (p ^^^ q) 64).2 = (acc p p 64).2 ^^^ (acc q q 64).2 := by
  rw [(acc_add p q _).2, acc_comm p, acc_comm q, (acc_add p q p).2, (acc_add p q q).2, acc_comm q p]
  rw [BitVec.xor_assoc, ← BitVec.xor_assoc (acc p q 64).2, BitVec.xor_self, BitVec.zero_xor]
theorem U_bit (x : W) (n : Nat) : U (x >>> n) % 2 = if x.toNat.testBit n then 1 else 0 := by
  unfold U
  rw [BitVec.toNat_ushiftRight, Nat.shiftRight_eq_div_pow, Nat.testBit_eq_decide_div_mod_eq]
  have e : ((x.toNat / 2 ^ n : Nat) : Int) % 2 = ((x.toNat / 2 ^ n % 2 : Nat) : Int) := by omega
  rw [e]
  rcases Nat.mod_two_eq_zero_or_one (x.toNat / 2 ^ n) with h | h <;> rw [h] <;> rfl
theorem sq_even (p : W) (hp : p.toNat < 2 ^ 31) (k : Nat) : U ((acc p p 64).2 >>> (2 * k)) % 2 = U (p >>> k) % 2 := by
  rw [U_bit, U_bit, sq_lo p hp, (sq_bits _ _).1]
theorem sq_odd (p : W) (hp : p.toNat < 2 ^ 31) (k : Nat) : U ((acc p p 64).2 >>> (2 * k + 1)) % 2 = 0 := by
  rw [U_bit, sq_lo p hp, (sq_bits _ _).2]; rfl

attribute [local go_sem] U_low U_lowt U_shr
set_option maxRecDepth 100000 in
set_option maxHeartbeats 2000000 in
theorem law_polySquares (a b : W) (w : World) :
    Calls Try.prog 10 #[.int .u64 (U a), .int .u64 (U b)] w fun e w' => e = .returned (.bool true) ∧ Below w.heap.size w w' := by
  have HP := Lib.hid (low_lt a)
  have ha0 := U_nonneg a
  have hb0 := U_nonneg b
  go_enter Try.func10, Try.ntmps10
  go_wp2_with fail
  have HA := Lib.hid (sq_add (low a) (low b))
  clear ha0 hb0
  generalize low a = p at *
  generalize low b = q at *
  refine (add_new _ _ _ _).mono ?_
  rintro e w1 ⟨rfl, hb⟩
  have H1 := Lib.hid hb
  clear hb
  go_wp2_with fail
  refine (add_new _ _ _ _).mono ?_
  rintro e w2 ⟨rfl, hb⟩
  have H2 := Lib.hid (H1.out.trans (hb.mono H1.out.size))
  clear hb H1
  go_wp2_with fail
  refine (mul_any _ _ _).mono ?_
  rintro e w3 ⟨rfl, hb⟩
  have H3 := Lib.hid (H2.out.trans (hb.mono H2.out.size))
  clear hb H2
  rw [HA.out]
  clear HA
  generalize (acc (p ^^^ q) (p ^^^ q) 64).1 = hx
  go_wp2_with fail
  refine (mul_any _ _ _).mono ?_
  rintro e w4 ⟨rfl, hb⟩
  have H4 := Lib.hid (H3.out.trans (hb.mono H3.out.size))
  clear hb H3
  go_wp2_with fail
  refine (mul_any _ _ _).mono ?_
  rintro e w5 ⟨rfl, hb⟩
  have H5 := Lib.hid (H4.out.trans (hb.mono H4.out.size))
  clear hb H4
  have HE : ∀ k, Hid (U ((acc p p 64).2 >>> (2 * k)) % 2 = U (p >>> k) % 2) := fun k => Lib.hid (sq_even p HP.out k)
  have HO : ∀ k, Hid (U ((acc p p 64).2 >>> (2 * k + 1)) % 2 = 0) := fun k => Lib.hid (sq_odd p HP.out k)
  generalize (acc p p 64).1 = x1 at *
  generalize (acc p p 64).2 = x at *
  generalize (acc q q 64).1 = y1
  generalize (acc q q 64).2 = y
  go_wp2_with fail
  refine (bits_any _).mono ?_
  rintro e w6 ⟨rfl, hb⟩
  have H6 := Lib.hid (H5.out.trans (hb.mono H5.out.size))
  clear hb H5
  have t1 : (U (x ^^^ y) != U (x ^^^ y)) = false := by simp
  go_wp2_with fail
  refine (add_new _ _ _ _).mono ?_
  rintro e w7 ⟨rfl, hb⟩
  have H7 := Lib.hid (H6.out.trans (hb.mono H6.out.size))
  clear hb H6
  go_wp2_with fail
  clear t1
  go_loopw [13] (fun i wd => ∃ k : Nat, k ≤ 31 ∧ i = .int .i64 k ∧ ∃ n, wd = w7.drewN n) (fun i _ => 31 - (intOf i).toNat)
  case atStart => exact ⟨0, by omega, rfl, 0, rfl⟩
  case round =>
    obtain ⟨k, hk, rfl, n, rfl⟩ := hrel
    by_cases hlt : k < 31
    · have p0 : 0 ≤ (k : Int) := by omega
      have q0 : (k : Int) < 31 := by omega
      have e1 : (2 * (k : Int)).toNat = 2 * k := by omega
      have e2 : (2 * (k : Int) + 1).toNat = 2 * k + 1 := by omega
      have g1 : 0 ≤ 2 * (k : Int) := by omega
      have g2 : 0 ≤ 2 * (k : Int) + 1 := by omega
      have g3 : 2 * (k : Int) ≤ 64 := by omega
      have g4 : 2 * (k : Int) + 1 ≤ 64 := by omega
      have i1 : IntKind.i64.wrap (2 * (k : Int)) = 2 * (k : Int) := by rw [IntKind.wrap_i64]; omega
      have i2 : IntKind.i64.wrap (2 * (k : Int) + 1) = 2 * (k : Int) + 1 := by rw [IntKind.wrap_i64]; omega
      have t1 : ((U (x >>> (2 * k))).tmod 2 != (U (p >>> k)).tmod 2) = false := by rw [Int.tmod_eq_emod_of_nonneg (U_nonneg _), Int.tmod_eq_emod_of_nonneg (U_nonneg _), (HE k).out]; simp
      have t2 : ((U (x >>> (2 * k + 1))).tmod 2 != 0) = false := by rw [Int.tmod_eq_emod_of_nonneg (U_nonneg _), (HO k).out]; rfl
      go_wp2_with fail
      go_quiet (fail)
      clear t1 t2
      go_wp2_with fail
      go_roundw
      case rel => exact ⟨k + 1, by omega, by go_num, _, rfl⟩
      case measure => simp [intOf]; omega
    · obtain rfl : k = 31 := by omega
      go_wp2_with fail
      go_ret
      exact ⟨rfl, by have := H7.out; exact ⟨this.os, this.tape, this.output, this.size, this.block⟩⟩

namespace polySquares
open Go.ChangeShapes Go.WideShapes Go.ChangeAt Go.RowKit
set_option maxRecDepth 100000 in
theorem lifted (os : Os) (started : os.Started) (H : Type) (enc : TypeId × Value → H) :
    ReturnsInHanded {} Try.checked os 10 .any (Rows.polySquaresSpec.pre6 enc Try.prog Try.f10 Rows.polySquaresRow.domain false) (Rows.polySquaresSpec.post enc Try.prog Try.f10 false true false false) := by
  refine returnsInHanded_of_change (C := Try.checked) own started (by kernel_rfl) Try.func10
    (ChangeSpec.witness6 (enc := enc) (C := Try.checked) false ⟨#[], #[.int .u64 0, .int .u64 0], []⟩ 8 (by kernel_rfl) (by kernel_rfl) (by kernel_rfl) (by kernel_rfl)) ?_
  intro W base args ds gs before hval0 hW hcnd _
  have hval : ∀ (j : Nat) t v, Try.f10.params[j]? = some t → args[j]? = some v → Value.okWide Try.prog W .any base t v := hval0
  have hW' := hW
  obtain ⟨p, q, hA0, hV, rfl, hfz, hnd⟩ := hW
  have hA : DataW.TrodAll enc Try.prog W 0 (fun _ => true) true Try.f10.params.toList args.toList ds p := hA0
  rw [Try.params10] at hA hval
  obtain ⟨v0, vs0, d0, ds0, p0, q0, hargs, rfl, rfl, h0, r0⟩ := trodAll_cons hA
  obtain ⟨v1, vs1, d1, ds1, p1, q1, rfl, rfl, rfl, h1, r1⟩ := trodAll_cons r0
  obtain ⟨rfl, rfl, rfl⟩ := trodAll_nil r1
  obtain rfl : args = #[v0, v1] := by cases args; simp_all
  obtain ⟨rfl, rfl⟩ := trodVars_none hV
  obtain ⟨a0, rfl, rfl, rfl, w0⟩ := open_int Try.underlying24 (hval 0 24 v0 rfl rfl) h0
  obtain ⟨a1, rfl, rfl, rfl, w1⟩ := open_int Try.underlying24 (hval 1 24 v1 rfl rfl) h1
  clear hA0 hval0
  simp only [List.append_nil] at hW'
  obtain ⟨x0, rfl⟩ := word_of a0 w0
  obtain ⟨x1, rfl⟩ := word_of a1 w1
  refine (law_polySquares x0 x1 W).mono fun e W' ⟨he, hb⟩ => ?_
  subst he
  exact ⟨_, rfl, _, [], _, _, _, _, hW', trodAll_cons_mk (shut_bool Try.underlying4 _) trodAll_mk0, (trodAll_cons_mk (shut_int Try.underlying24 w0) (trodAll_cons_mk (shut_int Try.underlying24 w1) trodAll_mk0)), rfl, hb.frame _, fun h => by cases h⟩

theorem proved : Rows.PolySquaresSaid :=
  OpenClaim.holds_of_wide 10 Try.f10 rfl rfl rfl rfl rfl rfl rfl ⟨rfl, rfl, rfl, rfl, rfl⟩ rfl rfl rfl rfl rfl (by kernel_rfl) Try.func10 (by kernel_rfl)
    (of_decide_eq_true (by kernel_rfl)) (by unfold Func.isWrapper; first | (rw [if_pos (by decide +kernel)]; kernel_rfl) | (rw [if_neg (by decide +kernel)]; exact ⟨rfl, rfl⟩))
    (fun os started H enc _ => lifted os started H enc)
end polySquares
end Go.Proofs.Ytfbihkfcpgkbmaa
