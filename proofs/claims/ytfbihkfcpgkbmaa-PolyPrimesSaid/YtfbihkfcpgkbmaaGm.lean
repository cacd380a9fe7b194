/- Plain mathematics of the greatest common divisor, of degrees of products, of words. -/
import Derived.Test.YtfbihkfcpgkbmaaRef
namespace Go.Proofs.Ytfbihkfcpgkbmaa
open Go.RowKit

/-- x divides y. -/
def Dv (x y : Nat) : Prop := ∃ k, Pm.pm k x = y
theorem Dv.refl (x : Nat) : Dv x x := ⟨1, Pm.pm_one x⟩
theorem Dv.zero (x : Nat) : Dv x 0 := ⟨0, Pm.pm_zero x⟩
theorem Dv.trans {x y z : Nat} (h : Dv x y) (k : Dv y z) : Dv x z := by
  obtain ⟨a, rfl⟩ := h
  obtain ⟨b, rfl⟩ := k
  exact ⟨Pm.pm b a, Pm.pm_assoc b a x⟩
theorem Dv.xor {x y z : Nat} (h : Dv x y) (k : Dv x z) : Dv x (y ^^^ z) := by
  obtain ⟨a, rfl⟩ := h
  obtain ⟨b, rfl⟩ := k
  exact ⟨a ^^^ b, Pm.pm_add_left a b x⟩
theorem Dv.mul {x y : Nat} (h : Dv x y) (k : Nat) : Dv x (Pm.pm k y) := h.trans ⟨k, rfl⟩
theorem Dv.of_zero {y : Nat} (h : Dv 0 y) : y = 0 := by
  obtain ⟨a, rfl⟩ := h
  exact Pm.zero_pm a
theorem Dv.antisymm {x y : Nat} (h : Dv x y) (k : Dv y x) : x = y := by
  by_cases hx : x = 0
  · subst hx; exact h.of_zero.symm
  by_cases hy : y = 0
  · subst hy; exact k.of_zero
  obtain ⟨a, ha⟩ := h
  obtain ⟨b, hb⟩ := k
  have ha0 : a ≠ 0 := fun e => hy (by rw [← ha, e, Pm.pm_zero])
  have hb0 : b ≠ 0 := fun e => hx (by rw [← hb, e, Pm.pm_zero])
  have l1 := Pm.pm_log ha0 hx
  have l2 := Pm.pm_log hb0 hy
  rw [ha] at l1
  rw [hb] at l2
  have : a.log2 = 0 := by omega
  have h2 := (Nat.log2_lt ha0 (k := 1)).1 (by omega)
  have : a = 1 := by omega
  rw [this, Pm.pm_one] at ha
  exact ha
theorem dv_pr {d g p : Nat} (hp : p ≠ 0) (h1 : Dv d p) : Dv d g ↔ Dv d (Pm.pr g p) := by
  have hs := (Pm.pq_pr g p hp).1
  constructor
  · intro h
    have : Pm.pr g p = Pm.pm (Pm.pq g p) p ^^^ g := by
      have := congrArg (Pm.pm (Pm.pq g p) p ^^^ ·) hs
      simpa [← Nat.xor_assoc] using this
    rw [this]
    exact (h1.mul _).xor h
  · intro h
    rw [← hs]
    exact (h1.mul _).xor h
theorem dv_gcd (d g p : Nat) : Dv d (gcd g p) ↔ Dv d g ∧ Dv d p := by
  have main : ∀ n g p, len p ≤ n → (Dv d (gcd g p) ↔ Dv d g ∧ Dv d p) := by
    intro n
    induction n with
    | zero =>
      intro g p hn
      have h0 : p = 0 := by
        by_cases h : p = 0
        · exact h
        · unfold len at hn; rw [if_neg h] at hn; omega
      subst h0
      rw [gcd_zero]
      exact ⟨fun h => ⟨h, Dv.zero d⟩, fun h => h.1⟩
    | succ n ih =>
      intro g p hn
      by_cases h0 : p = 0
      · subst h0
        rw [gcd_zero]
        exact ⟨fun h => ⟨h, Dv.zero d⟩, fun h => h.1⟩
      · have hr := len_lt h0 (Pm.pq_pr g p h0).2
        rw [gcd_step g p h0, ih p _ (by omega)]
        constructor
        · rintro ⟨h1, h2⟩
          exact ⟨(dv_pr h0 h1).2 h2, h1⟩
        · rintro ⟨h1, h2⟩
          exact ⟨h2, (dv_pr h0 h2).1 h1⟩
  exact main _ g p (Nat.le_refl _)
theorem gcd_eq {x y : Nat} (h : ∀ d, Dv d x ↔ Dv d y) : x = y := Dv.antisymm ((h x).1 (Dv.refl x)) ((h y).2 (Dv.refl y))
theorem gcd_left_zero (p : Nat) : gcd 0 p = p := gcd_eq fun d => by
  rw [dv_gcd]
  exact ⟨fun h => h.2, fun h => ⟨Dv.zero d, h⟩⟩
theorem gcd_turn (a b c : Nat) : gcd (gcd c b) a = gcd (gcd a b) c := gcd_eq fun d => by
  rw [dv_gcd, dv_gcd, dv_gcd, dv_gcd]
  constructor
  · rintro ⟨⟨h1, h2⟩, h3⟩; exact ⟨⟨h3, h2⟩, h1⟩
  · rintro ⟨⟨h1, h2⟩, h3⟩; exact ⟨⟨h3, h2⟩, h1⟩
theorem wG_left_zero (p : W) : wG 0 p = p := by
  apply BitVec.eq_of_toNat_eq
  rw [wG_toNat]
  exact gcd_left_zero _
theorem wG_turn (a b c : W) : wG (wG c b) a = wG (wG a b) c := by
  apply BitVec.eq_of_toNat_eq
  rw [wG_toNat, wG_toNat, wG_toNat, wG_toNat]
  exact gcd_turn _ _ _
theorem pr_dv {x g : Nat} (hg : g ≠ 0) (h : Dv g x) : Pm.pr x g = 0 := by
  obtain ⟨k, rfl⟩ := h
  exact Pm.pr_mul k g hg
theorem all_dv (a b c : W) : Dv (wG (wG a b) c).toNat a.toNat ∧ Dv (wG (wG a b) c).toNat b.toNat ∧ Dv (wG (wG a b) c).toNat c.toNat := by
  have h := (dv_gcd (wG (wG a b) c).toNat (wG a b).toNat c.toNat).1 (by rw [wG_toNat]; exact Dv.refl _)
  have h2 := (dv_gcd (wG (wG a b) c).toNat a.toNat b.toNat).1 (by rw [← wG_toNat]; exact h.1)
  exact ⟨h2.1, h2.2, h.2⟩
theorem wR_dv {x g : W} (hg : g ≠ 0) (h : Dv g.toNat x.toNat) : wR x g = 0 := by
  apply BitVec.eq_of_toNat_eq
  rw [wR_toNat _ _ hg]
  exact pr_dv (ne_toNat hg) h
theorem zero_dv {x g : W} (hg : g = 0) (h : Dv g.toNat x.toNat) : x = 0 := by
  subst hg
  apply BitVec.eq_of_toNat_eq
  exact h.of_zero

theorem dgw_ge (p : W) : -1 ≤ dgw p := by unfold dgw deg; omega
theorem wM_comm (a b m : W) : wM a b m = wM b a m := by unfold wM; rw [Pm.pm_comm]
/-- Degrees of products add up. -/
theorem deg_mul {a b : W} (ha : a ≠ 0) (hb : b ≠ 0) (h0 : (acc a b 64).1 = 0) : dgw (acc a b 64).2 = dgw a + dgw b := by
  have e0 := acc_hi a b
  rw [h0] at e0
  have e1 := acc_lo a b
  have hl := Pm.pm_log (ne_toNat ha) (ne_toNat hb)
  have hn := Pm.pm_ne (ne_toNat ha) (ne_toNat hb)
  have hz : Pm.pm a.toNat b.toNat / 2 ^ 64 = 0 := e0.symm
  have e2 : (acc a b 64).2.toNat = Pm.pm a.toNat b.toNat := by omega
  unfold dgw
  rw [e2, deg_of_ne hn, deg_of_ne (ne_toNat ha), deg_of_ne (ne_toNat hb)]
  omega
theorem deg_mul_hi {a b : W} (ha : a ≠ 0) (hb : b ≠ 0) (h0 : (acc a b 64).1 ≠ 0) : 64 + dgw (acc a b 64).1 = dgw a + dgw b := by
  have e0 := acc_hi a b
  have hl := Pm.pm_log (ne_toNat ha) (ne_toNat hb)
  have hn := ne_toNat h0
  have hp : 2 ^ 64 ≤ Pm.pm a.toNat b.toNat := by
    by_cases h : 2 ^ 64 ≤ Pm.pm a.toNat b.toNat
    · exact h
    · rw [e0, Nat.div_eq_of_lt (by omega)] at hn; exact absurd rfl hn
  have := log_div (Pm.pm a.toNat b.toNat) 64 hp
  unfold dgw
  rw [deg_of_ne hn, deg_of_ne (ne_toNat ha), deg_of_ne (ne_toNat hb), e0]
  omega
theorem acc_zero_left (b : W) : acc 0 b 64 = (0, 0) := by
  apply Prod.ext
  · apply BitVec.eq_of_toNat_eq; rw [acc_hi]; show Pm.pm 0 _ / _ = _; rw [Pm.pm_zero]; rfl
  · apply BitVec.eq_of_toNat_eq; rw [acc_lo]; show Pm.pm 0 _ % _ = _; rw [Pm.pm_zero]; rfl
theorem acc_zero_right (a : W) : acc a 0 64 = (0, 0) := by rw [acc_comm, acc_zero_left]
/-- What Div answers makes the first again. -/
theorem div_back (a b : W) (hb : b ≠ 0) : (acc (wQ a b) b 64).1 = 0 ∧ (acc (wQ a b) b 64).2 ^^^ wR a b = a ∧ dgw (wR a b) < dgw b := by
  have hs := Pm.pq_pr a.toNat b.toNat (ne_toNat hb)
  have hx : Pm.pm (Pm.pq a.toNat b.toNat) b.toNat = a.toNat ^^^ Pm.pr a.toNat b.toNat := by
    have := congrArg (· ^^^ Pm.pr a.toNat b.toNat) hs.1
    simpa [Nat.xor_assoc] using this
  have hlt : Pm.pm (Pm.pq a.toNat b.toNat) b.toNat < 2 ^ 64 := by
    rw [hx]
    exact Nat.xor_lt_two_pow a.isLt (pr_lt64 _ _ (ne_toNat hb) b.isLt)
  refine ⟨?_, ?_, ?_⟩
  · apply BitVec.eq_of_toNat_eq
    rw [acc_hi, wQ_toNat _ _ hb, Nat.div_eq_of_lt hlt]; rfl
  · apply BitVec.eq_of_toNat_eq
    rw [BitVec.toNat_xor, acc_lo, wQ_toNat _ _ hb, wR_toNat _ _ hb, Nat.mod_eq_of_lt hlt]
    exact hs.1
  · unfold dgw
    rw [wR_toNat _ _ hb, deg_of_ne (ne_toNat hb)]
    rcases hs.2 with h | h
    · rw [h]; unfold deg len; simp; omega
    · by_cases h0 : Pm.pr a.toNat b.toNat = 0
      · rw [h0]; unfold deg len; simp; omega
      · rw [deg_of_ne h0]; omega
end Go.Proofs.Ytfbihkfcpgkbmaa
