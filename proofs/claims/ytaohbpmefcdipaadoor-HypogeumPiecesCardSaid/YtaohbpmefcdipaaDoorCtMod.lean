/- The contract of MulMod. -/
import Derived.Test.YtaohbpmefcdipaaDoorCtDiv
namespace Go.Proofs.YtaohbpmefcdipaaDoor.Ct
open Go.RowKit

theorem ne_toNat {b : W} (hb : b ≠ 0) : b.toNat ≠ 0 := fun e => hb (BitVec.eq_of_toNat_eq (by simpa using e))
/-- The product's rest, as a word. -/
def wM (a b m : W) : W := BitVec.ofNat 64 (Pm.pr (Pm.pm a.toNat b.toNat) m.toNat)
theorem wM_toNat (a b m : W) (hm : m ≠ 0) : (wM a b m).toNat = Pm.pr (Pm.pm a.toNat b.toNat) m.toNat := by
  unfold wM
  rw [BitVec.toNat_ofNat, Nat.mod_eq_of_lt (pr_lt64 _ _ (ne_toNat hm) m.isLt)]
theorem less_log {m : W} (hm : m ≠ 0) : m.toNat.log2 < 64 := (Nat.log2_lt (ne_toNat hm)).2 m.isLt
theorem shl1_toNat {x m : W} (hm : m ≠ 0) (h : x.toNat < 2 ^ m.toNat.log2) : (x <<< 1).toNat = 2 * x.toNat := by
  rw [BitVec.toNat_shiftLeft, Nat.shiftLeft_eq, Nat.mod_eq_of_lt]
  · omega
  · have h1 := less_log hm
    have : x.toNat < 2 ^ 63 := Nat.lt_of_lt_of_le h (Nat.pow_le_pow_right (by decide) (by omega))
    omega
/-- A round: the rest goes on by a coefficient. -/
theorem mod_step1 {a b m r : W} (hm : m ≠ 0) (k : Nat) (hr : r.toNat = Pm.pr (Pm.pm a.toNat (b.toNat / 2 ^ (k + 1))) m.toNat) (r1 : W)
    (h1 : r1 = if deg (r <<< 1).toNat = deg m.toNat then (r <<< 1) ^^^ m else r <<< 1) : r1.toNat = Pm.pr (Pm.pm a.toNat (2 * (b.toNat / 2 ^ (k + 1)))) m.toNat := by
  have hm' := ne_toNat hm
  have hlt : r.toNat < 2 ^ m.toNat.log2 := by rw [hr]; exact Pm.pr_lt _ _ hm'
  have e := shl1_toNat hm hlt
  have key : Pm.pr (Pm.pm a.toNat (2 * (b.toNat / 2 ^ (k + 1)))) m.toNat = Pm.pr (2 * r.toNat) m.toNat := by
    rw [Pm.pm_two_right, ← Nat.mul_comm _ 2, ← Nat.mul_comm _ 2, ← Nat.pow_one 2, ← Pm.pm_pow, ← Pm.pm_pow, hr, Pm.pr_pm_left _ _ _ hm']
  rw [key, h1]
  rw [e]
  by_cases h0 : r.toNat = 0
  · have hd : ¬ deg (2 * r.toNat) = deg m.toNat := by
      rw [h0, deg_of_ne hm']; unfold deg len; simp <;> omega
    rw [if_neg hd, e, h0, Pm.pr_less _ _ hm' (Or.inl rfl)]
  · have h2 : 2 * r.toNat ≠ 0 := by omega
    have hl : (2 * r.toNat).log2 ≤ m.toNat.log2 := by
      have : 2 * r.toNat < 2 ^ (m.toNat.log2 + 1) := by rw [Nat.pow_succ]; omega
      have := (Nat.log2_lt h2).2 this
      omega
    by_cases hd : deg (2 * r.toNat) = deg m.toNat
    · rw [if_pos hd, BitVec.toNat_xor, e]
      rw [deg_of_ne h2, deg_of_ne hm'] at hd
      have hx : 2 * r.toNat ^^^ m.toNat < 2 ^ m.toNat.log2 := by
        have := Pm.xor_same (Pm.has_of_ne h2) (n := (2 * r.toNat).log2) (y := m.toNat) (by have := Pm.has_of_ne hm'; rwa [show (2 * r.toNat).log2 = m.toNat.log2 by omega])
        rwa [show (2 * r.toNat).log2 = m.toNat.log2 by omega] at this
      have hz : Pm.pr m.toNat m.toNat = 0 := by
        have := Pm.pr_mul 1 m.toNat hm'
        rwa [Pm.pm_one] at this
      rw [← Pm.pr_less _ _ hm' (Pm.less_of_lt hx), Pm.pr_add _ _ _ hm', hz, Nat.xor_zero]
    · rw [if_neg hd, e]
      rw [deg_of_ne h2, deg_of_ne hm'] at hd
      exact (Pm.pr_less _ _ hm' (Or.inr (by omega))).symm
theorem bit_half (b k : Nat) : b / 2 ^ k = (if b / 2 ^ k % 2 = 1 then 1 else 0) ^^^ (2 * (b / 2 ^ (k + 1))) := by
  rw [Nat.pow_succ, ← Nat.div_div_eq_div_mul]
  exact Pm.parts _
theorem bit_and (b : W) (k : Nat) : ((b >>> k) &&& 1#64 = 1#64) ↔ b.toNat / 2 ^ k % 2 = 1 := by
  rw [← BitVec.toNat_inj, BitVec.toNat_and, BitVec.toNat_ushiftRight, Nat.shiftRight_eq_div_pow]
  show (b.toNat / 2 ^ k &&& 1) = 1 ↔ _
  rw [Nat.and_one_is_mod]
theorem mod_step2 {a b m r1 : W} (hm : m ≠ 0) (ha : Pm.Less a.toNat m.toNat) (k : Nat) (h1 : r1.toNat = Pm.pr (Pm.pm a.toNat (2 * (b.toNat / 2 ^ (k + 1)))) m.toNat) (r2 : W)
    (h2 : r2 = if (b >>> k) &&& 1#64 = 1#64 then r1 ^^^ a else r1) : r2.toNat = Pm.pr (Pm.pm a.toNat (b.toNat / 2 ^ k)) m.toNat := by
  have hm' := ne_toNat hm
  rw [bit_half, Pm.pm_add_right, Pm.pr_add _ _ _ hm', ← h1, h2]
  by_cases h : (b >>> k) &&& 1#64 = 1#64
  · rw [if_pos h, if_pos ((bit_and b k).1 h), Pm.one_pm, Pm.pr_less _ _ hm' ha, BitVec.toNat_xor, Nat.xor_comm]
  · rw [if_neg h, if_neg (fun e => h ((bit_and b k).2 e)), Pm.zero_pm, Pm.pr_less _ _ hm' (Or.inl rfl), Nat.zero_xor]

set_option maxRecDepth 100000 in
theorem mod_zero (a b : W) (w : World) :
    Calls Tryd.prog 58 #[.int .u64 (U a), .int .u64 (U b), .int .u64 0] w fun e w' => e = .returned (.tuple #[.int .u64 0, .int .i64 1]) ∧ w = w' := by
  go_enter Tryd.func58, Tryd.ntmps58
  go_wp2_with ((with_reducible refine (div_zero _ _).mono ?_); rintro e w' ⟨rfl, rfl⟩)
  go_ret2
  exact ⟨rfl, rfl⟩

theorem U_dbl (x : W) : IntKind.u64.wrap (U x * 2) = U (x <<< 1) := U_shlw x 1
attribute [local go_sem] U_dbl U_xor U_shr U_shlw U_and1
set_option maxHeartbeats 1000000 in
set_option maxRecDepth 100000 in
theorem mod_any (a b m : W) (w : World) (hm0 : m ≠ 0) :
    Calls Tryd.prog 58 #[.int .u64 (U a), .int .u64 (U b), .int .u64 (U m)] w fun e w' => e = .returned (.tuple #[.int .u64 (U (wM a b m)), .int .i64 0]) ∧ Below w.heap.size w w' := by
  have HM0 := Lib.hid hm0
  clear hm0
  go_enter Tryd.func58, Tryd.ntmps58
  go_wp2_with fail
  refine (div_any a m _ HM0.out).mono ?_
  rintro e w1 ⟨rfl, hb1⟩
  have HB1 := Lib.hid hb1
  clear hb1
  have HA : Hid ((wR a m).toNat = Pm.pr a.toNat m.toNat) := Lib.hid (wR_toNat a m HM0.out)
  go_wp2_with ((with_reducible refine (deg_any _ _).mono ?_); rintro e w' ⟨rfl, rfl⟩)
  generalize hW : wR a m = A at *
  have HW := Lib.hid hW
  clear hW
  go_loopw [10, 11] (fun x i wd => ∃ (r : W) (j : Nat), x = .int .u64 (U r) ∧ i = .int .i64 ((j : Int) - 1) ∧ j ≤ 64 ∧ Hid (r.toNat = Pm.pr (Pm.pm A.toNat (b.toNat / 2 ^ j)) m.toNat) ∧ Below w.heap.size w wd) (fun _ i _ => (intOf i + 1).toNat)
  case atStart => exact ⟨0, len b.toNat, rfl, rfl, len_le _ b.isLt, Lib.hid (by
    have : b.toNat / 2 ^ len b.toNat = 0 := by
      apply Nat.div_eq_of_lt
      unfold len
      split
      · omega
      · exact Nat.lt_log2_self
    rw [this, Pm.zero_pm, Pm.pr_less _ _ (ne_toNat HM0.out) (Or.inl rfl)]; rfl), HB1.out⟩
  case round =>
    obtain ⟨r, j, rfl, rfl, hj, hr, hbel⟩ := hrel
    have HB := Lib.hid hbel
    clear hbel HB1
    cases j with
    | zero =>
      have e0 : (((0 : Nat) : Int) - 1) = -1 := rfl
      rw [e0]
      obtain rfl : r = wM a b m := (by
        apply BitVec.eq_of_toNat_eq
        have h1 := hr.out
        rw [Nat.pow_zero, Nat.div_one, HA.out, Pm.pr_pm_left _ _ _ (ne_toNat HM0.out)] at h1
        rw [h1, wM_toNat _ _ _ HM0.out])
      clear hr
      go_wp2_with fail
      go_ret2
      exact ⟨rfl, HB.out⟩
    | succ k =>
      have e0 : (((k + 1 : Nat) : Int) - 1) = (k : Int) := by omega
      rw [e0]
      have p : 0 ≤ (k : Int) := by omega
      have q : (k : Int) < 64 := by omega
      have HL : Hid (Pm.Less A.toNat m.toNat) := Lib.hid (by rw [HA.out]; exact (Pm.pq_pr _ _ (ne_toNat HM0.out)).2)
      clear e0
      by_cases hd : dgw (r <<< 1) = dgw m
      · have S1 := Lib.hid (mod_step1 HM0.out k hr.out ((r <<< 1) ^^^ m) (if_pos hd).symm)
        have t1 : (dgw (r <<< 1) == dgw m) = true := by simpa using hd
        by_cases hbit : (b >>> k) &&& 1#64 = 1#64
        · have S2 := Lib.hid (mod_step2 HM0.out HL.out k S1.out _ (if_pos hbit).symm)
          have t2 : (U ((b >>> k) &&& 1#64) == 1) = true := by rw [U_beq1]; simpa using hbit
          clear hbit hd S1 hr
          go_wp2_with ((with_reducible refine (deg_any _ _).mono ?_); rintro e w' ⟨rfl, rfl⟩)
          refine (add_new _ _ _ _).mono ?_
          rintro e w2 ⟨rfl, hb2⟩
          have HB2 := Lib.hid (HB.out.trans (hb2.mono HB.out.size))
          clear hb2 HB
          go_wp2_with ((with_reducible refine (deg_any _ _).mono ?_); rintro e w' ⟨rfl, rfl⟩)
          refine (add_new _ _ _ _).mono ?_
          rintro e w3 ⟨rfl, hb2⟩
          have HB3 := Lib.hid (HB2.out.trans (hb2.mono HB2.out.size))
          clear hb2 HB2
          go_wp2_with ((with_reducible refine (deg_any _ _).mono ?_); rintro e w' ⟨rfl, rfl⟩)
          go_roundw
          case rel => exact ⟨_, k, rfl, rfl, by omega, S2, HB3.out⟩
          case measure => simp [intOf] <;> omega
        · have S2 := Lib.hid (mod_step2 HM0.out HL.out k S1.out _ (if_neg hbit).symm)
          have t2 : (U ((b >>> k) &&& 1#64) == 1) = false := by rw [U_beq1]; simpa using hbit
          clear hbit hd S1 hr
          go_wp2_with ((with_reducible refine (deg_any _ _).mono ?_); rintro e w' ⟨rfl, rfl⟩)
          refine (add_new _ _ _ _).mono ?_
          rintro e w2 ⟨rfl, hb2⟩
          have HB2 := Lib.hid (HB.out.trans (hb2.mono HB.out.size))
          clear hb2 HB
          go_wp2_with ((with_reducible refine (deg_any _ _).mono ?_); rintro e w' ⟨rfl, rfl⟩)
          go_roundw
          case rel => exact ⟨_, k, rfl, rfl, by omega, S2, HB2.out⟩
          case measure => simp [intOf] <;> omega
      · have S1 := Lib.hid (mod_step1 HM0.out k hr.out (r <<< 1) (if_neg hd).symm)
        have t1 : (dgw (r <<< 1) == dgw m) = false := by simpa using hd
        by_cases hbit : (b >>> k) &&& 1#64 = 1#64
        · have S2 := Lib.hid (mod_step2 HM0.out HL.out k S1.out _ (if_pos hbit).symm)
          have t2 : (U ((b >>> k) &&& 1#64) == 1) = true := by rw [U_beq1]; simpa using hbit
          clear hbit hd S1 hr
          go_wp2_with ((with_reducible refine (deg_any _ _).mono ?_); rintro e w' ⟨rfl, rfl⟩)
          refine (add_new _ _ _ _).mono ?_
          rintro e w2 ⟨rfl, hb2⟩
          have HB2 := Lib.hid (HB.out.trans (hb2.mono HB.out.size))
          clear hb2 HB
          go_wp2_with ((with_reducible refine (deg_any _ _).mono ?_); rintro e w' ⟨rfl, rfl⟩)
          go_roundw
          case rel => exact ⟨_, k, rfl, rfl, by omega, S2, HB2.out⟩
          case measure => simp [intOf] <;> omega
        · have S2 := Lib.hid (mod_step2 HM0.out HL.out k S1.out _ (if_neg hbit).symm)
          have t2 : (U ((b >>> k) &&& 1#64) == 1) = false := by rw [U_beq1]; simpa using hbit
          clear hbit hd S1 hr
          go_wp2_with ((with_reducible refine (deg_any _ _).mono ?_); rintro e w' ⟨rfl, rfl⟩)
          go_roundw
          case rel => exact ⟨_, k, rfl, rfl, by omega, S2, HB.out⟩
          case measure => simp [intOf] <;> omega
end Go.Proofs.YtaohbpmefcdipaaDoor.Ct
