/- The contract of Div. -/
import Derived.Test.YtaohbpmefcdipaaDoorCtAn
namespace Go.Proofs.YtaohbpmefcdipaaDoor.Ct
open Go.RowKit

theorem Utn (x : W) : (U x).toNat = x.toNat := by unfold U; exact Int.toNat_natCast _
theorem pr_lt64 (a b : Nat) (hb : b ≠ 0) (h : b < 2 ^ 64) : Pm.pr a b < 2 ^ 64 := by
  have h1 := (Nat.log2_lt hb).2 h
  exact Nat.lt_of_lt_of_le (Pm.pr_lt a b hb) (Nat.pow_le_pow_right (by decide) (by omega))
theorem pq_lt64 (a b : Nat) (hb : b ≠ 0) (h : a < 2 ^ 64) (hb64 : b < 2 ^ 64) : Pm.pq a b < 2 ^ 64 := by
  have hs := Pm.pq_pr a b hb
  by_cases hq : Pm.pq a b = 0
  · rw [hq]; decide
  · have hx : Pm.pm (Pm.pq a b) b = a ^^^ Pm.pr a b := by
      have := congrArg (· ^^^ Pm.pr a b) hs.1
      simpa [Nat.xor_assoc] using this
    have hlt : Pm.pm (Pm.pq a b) b < 2 ^ 64 := by
      rw [hx]
      exact Nat.xor_lt_two_pow h (pr_lt64 a b hb hb64)
    have h1 := (Nat.log2_lt (Pm.pm_ne hq hb)).2 hlt
    rw [Pm.pm_log hq hb] at h1
    exact (Nat.log2_lt hq).1 (by omega)
/-- How often; what is left; as words. -/
def wQ (a b : W) : W := BitVec.ofNat 64 (Pm.pq a.toNat b.toNat)
def wR (a b : W) : W := BitVec.ofNat 64 (Pm.pr a.toNat b.toNat)
theorem wQ_toNat (a b : W) (hb : b ≠ 0) : (wQ a b).toNat = Pm.pq a.toNat b.toNat := by
  have hb' : b.toNat ≠ 0 := fun e => hb (BitVec.eq_of_toNat_eq (by simpa using e))
  unfold wQ
  rw [BitVec.toNat_ofNat, Nat.mod_eq_of_lt (pq_lt64 _ _ hb' a.isLt b.isLt)]
theorem wR_toNat (a b : W) (hb : b ≠ 0) : (wR a b).toNat = Pm.pr a.toNat b.toNat := by
  have hb' : b.toNat ≠ 0 := fun e => hb (BitVec.eq_of_toNat_eq (by simpa using e))
  unfold wR
  rw [BitVec.toNat_ofNat, Nat.mod_eq_of_lt (pr_lt64 _ _ hb' b.isLt)]
theorem div_words {a b q r : W} (hb : b ≠ 0) (h : Pm.pm q.toNat b.toNat ^^^ r.toNat = a.toNat) (hr : Pm.Less r.toNat b.toNat) : q = wQ a b ∧ r = wR a b := by
  have hb' : b.toNat ≠ 0 := fun e => hb (BitVec.eq_of_toNat_eq (by simpa using e))
  obtain ⟨h1, h2⟩ := Pm.div_eq hb' h hr
  unfold wQ wR
  rw [← h1, ← h2]
  simp
theorem less_of_deg {a b : Nat} (h : ¬ deg b ≤ deg a) : Pm.Less a b := by
  unfold deg len at h
  by_cases ha : a = 0
  · exact Or.inl ha
  · by_cases hb : b = 0
    · rw [if_neg ha, if_pos hb] at h; omega
    · rw [if_neg ha, if_neg hb] at h
      exact Or.inr (by omega)
theorem deg_of_ne {a : Nat} (h : a ≠ 0) : deg a = (a.log2 : Int) := by unfold deg len; rw [if_neg h]; omega
theorem step_words {a b q r : W} (hb : b ≠ 0) (u : Nat) (hu : deg r.toNat - deg b.toNat = u) (h : Pm.pm q.toNat b.toNat ^^^ r.toNat = a.toNat) :
    Pm.pm (q ^^^ (1#64 <<< u)).toNat b.toNat ^^^ (r ^^^ (b <<< u)).toNat = a.toNat ∧ len (r ^^^ (b <<< u)).toNat < len r.toNat ∧ u < 64 := by
  have hb' : b.toNat ≠ 0 := fun e => hb (BitVec.eq_of_toNat_eq (by simpa using e))
  have db := deg_of_ne hb'
  have hr' : r.toNat ≠ 0 := fun e => by
    rw [db, e] at hu
    unfold deg len at hu
    simp at hu
    omega
  have dr := deg_of_ne hr'
  have hl : b.toNat.log2 + u = r.toNat.log2 := by omega
  have hr64 : r.toNat.log2 < 64 := (Nat.log2_lt hr').2 r.isLt
  have hu64 : u < 64 := by omega
  have e1 : (1#64 <<< u).toNat = 2 ^ u := by
    rw [BitVec.toNat_shiftLeft, Nat.shiftLeft_eq]
    simp
    exact Nat.pow_lt_pow_right (by decide) hu64
  have e2 : (b <<< u).toNat = b.toNat * 2 ^ u := by
    rw [BitVec.toNat_shiftLeft, Nat.shiftLeft_eq]
    apply Nat.mod_eq_of_lt
    have := (Pm.has_shift (k := u) (Pm.has_of_ne hb')).2
    rw [hl] at this
    exact Nat.lt_of_lt_of_le this (Nat.pow_le_pow_right (by decide) (by omega))
  have e3 : u = r.toNat.log2 - b.toNat.log2 := by omega
  rw [BitVec.toNat_xor, BitVec.toNat_xor, e1, e2, Pm.step_sum]
  refine ⟨h, ?_, hu64⟩
  have hs := Pm.div_step hb' hr' (by omega)
  rw [← e3] at hs
  unfold len
  rw [if_neg hr']
  split
  · omega
  · rename_i h0
    have := (Nat.log2_lt h0).2 hs
    omega
theorem U_shl1 (n : Nat) : IntKind.u64.wrap (2 ^ n) = U (1#64 <<< n) := by
  rw [← U_shlw]
  congr 1
  rw [show U 1#64 = 1 from rfl, Int.one_mul]
theorem U_beq0 (x : W) : (U x == 0) = decide (x = 0) := by
  rw [Bool.eq_iff_iff, beq_iff_eq, decide_eq_true_iff]
  exact ⟨fun h => U_inj (by rw [h]; rfl), fun h => by rw [h]; rfl⟩

set_option maxRecDepth 100000 in
theorem div_zero (a : W) (w : World) :
    Calls Tryd.prog 63 #[.int .u64 (U a), .int .u64 0] w fun e w' => e = .returned (.tuple #[.int .u64 0, .int .u64 0, .int .i64 1]) ∧ w = w' := by
  go_enter Tryd.func63, Tryd.ntmps63
  go_wp2_with fail
  exact bodyPost_ret (v := .tuple #[.int .u64 0, .int .u64 0, .int .i64 1]) (by simp [results, Tryd.results63, go_sem]) rfl ⟨rfl, rfl⟩

attribute [local go_sem] U_xor U_shr U_shlw U_shl1
set_option maxHeartbeats 1000000 in
set_option maxRecDepth 100000 in
theorem div_any (a b : W) (w : World) (hb0 : b ≠ 0) :
    Calls Tryd.prog 63 #[.int .u64 (U a), .int .u64 (U b)] w fun e w' => e = .returned (.tuple #[.int .u64 (U (wQ a b)), .int .u64 (U (wR a b)), .int .i64 0]) ∧ Below w.heap.size w w' := by
  have t0 : (U b == 0) = false := by rw [U_beq0]; simpa using hb0
  have HB0 := Lib.hid hb0
  clear hb0
  go_enter Tryd.func63, Tryd.ntmps63
  go_wp2_with fail
  go_loopw [0, 7, 8] (fun x y _ wd => ∃ r q : W, x = .int .u64 (U r) ∧ y = .int .u64 (U q) ∧ Hid (Pm.pm q.toNat b.toNat ^^^ r.toNat = a.toNat) ∧ Below w.heap.size w wd) (fun x _ _ _ => len (intOf x).toNat)
  case atStart => exact ⟨a, 0, rfl, rfl, Lib.hid (by simp [Pm.pm_zero]), Below.refl _ _⟩
  case round =>
    obtain ⟨r, q, rfl, rfl, hrel, hbel⟩ := hrel
    have HB := Lib.hid hbel
    clear hbel
    by_cases hd : dgw b ≤ dgw r
    · obtain ⟨u, hu⟩ : ∃ u : Nat, dgw r - dgw b = (u : Int) := ⟨(dgw r - dgw b).toNat, by omega⟩
      obtain ⟨s1, s2, s3⟩ := step_words HB0.out u hu hrel.out
      have S1 := Lib.hid s1
      have S2 := Lib.hid s2
      clear s1 s2
      have p : 0 ≤ (u : Int) := by omega
      have q1 : (u : Int) < 64 := by omega
      go_wp2_with ((with_reducible refine (deg_any _ _).mono ?_); rintro e w' ⟨rfl, rfl⟩)
      refine (add_new _ _ _ _).mono ?_
      rintro e w1 ⟨rfl, hb1⟩
      have HB1 := Lib.hid (HB.out.trans (hb1.mono HB.out.size))
      clear hb1 HB
      go_wp2_with ((with_reducible refine (deg_any _ _).mono ?_); rintro e w' ⟨rfl, rfl⟩)
      refine (add_new _ _ _ _).mono ?_
      rintro e w2 ⟨rfl, hb2⟩
      have HB2 := Lib.hid (HB1.out.trans (hb2.mono HB1.out.size))
      clear hb2 HB1
      go_wp2_with fail
      go_roundw
      case rel => exact ⟨_, _, rfl, rfl, S1, HB2.out⟩
      case measure =>
        have := S2.out
        simpa [intOf, Utn] using this
    · have td : decide (dgw b ≤ dgw r) = false := by simpa using hd
      obtain ⟨h1, h2⟩ := div_words HB0.out hrel.out (less_of_deg hd)
      subst h1 h2
      clear hd hrel
      go_wp2_with ((with_reducible refine (deg_any _ _).mono ?_); rintro e w' ⟨rfl, rfl⟩)
      exact bodyPost_ret (v := .tuple #[.int .u64 (U (wQ a b)), .int .u64 (U (wR a b)), .int .i64 0]) (by simp [results, Tryd.results63, go_sem]) rfl ⟨rfl, HB.out⟩
end Go.Proofs.YtaohbpmefcdipaaDoor.Ct
