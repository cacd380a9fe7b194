/- What Prime says of products, and of those that it calls prime. -/
import Derived.Test.YtfbihkfcpgkbmaaFerm
namespace Go.Proofs.Ytfbihkfcpgkbmaa
open Go.RowKit

theorem pr_back (y p : Nat) (hp : p ≠ 0) : Dv p (Pm.pr y p ^^^ y) := by
  have hs := (Pm.pq_pr y p hp).1
  refine ⟨Pm.pq y p, ?_⟩
  have this : Pm.pr y p ^^^ (Pm.pm (Pm.pq y p) p ^^^ Pm.pr y p) = Pm.pr y p ^^^ y := congrArg (Pm.pr y p ^^^ ·) hs
  rw [← this, Nat.xor_comm (Pm.pm _ _), ← Nat.xor_assoc, Nat.xor_self, Nat.zero_xor]
theorem frob_dv (p : W) (hp : p ≠ 0) (n : Nat) : Dv p.toNat ((frob p n).toNat ^^^ 2 ^ (2 ^ n)) := by
  induction n with
  | zero => exact ⟨0, by rw [Pm.pm_zero]; show 0 = (2#64 : W).toNat ^^^ 2 ^ 2 ^ 0; decide⟩
  | succ n ih =>
    unfold frob
    rw [wM_toNat _ _ _ hp]
    have h1 := pr_back (Pm.pm (frob p n).toNat (frob p n).toNat) p.toNat (ne_toNat hp)
    have h2 := ih.mul (frob p n).toNat
    have h3 := ih.mul (2 ^ (2 ^ n))
    rw [Pm.pm_add_right] at h2 h3
    rw [Pm.pm_comm (2 ^ 2 ^ n) (frob p n).toNat] at h3
    have e : Pm.pm (2 ^ 2 ^ n) (2 ^ 2 ^ n) = 2 ^ (2 ^ (n + 1)) := by
      rw [Pm.pm_pow, ← Nat.pow_add]; congr 1; rw [Nat.pow_succ]; omega
    rw [e] at h3
    have h4 := (h1.xor h2).xor h3
    have e2 : ∀ a b c d : Nat, ((a ^^^ b) ^^^ (b ^^^ c)) ^^^ (c ^^^ d) = a ^^^ d := by
      intro a b c d
      rw [Nat.xor_assoc a, ← Nat.xor_assoc b, Nat.xor_self, Nat.zero_xor, Nat.xor_assoc, ← Nat.xor_assoc c, Nat.xor_self, Nat.zero_xor]
    rw [e2] at h4
    exact h4
/-- A product of two of degree 1 or more isn't prime. -/
theorem not_prime_le {p : W} {a b : Nat} (h : Pm.pm a b = p.toNat) (ha : 2 ≤ a) (hb : 2 ≤ b) (hl : a.log2 ≤ b.log2) : isPrime p = false := by
  have hp : p ≠ 0 := fun e => by
    rw [e] at h
    exact Pm.pm_ne (show a ≠ 0 by omega) (show b ≠ 0 by omega) h
  obtain ⟨f, hf, hfa⟩ := irr_ex a ha
  have hf0 : f ≠ 0 := by have := hf.1; omega
  have hfp : Dv f p.toNat := by rw [← h, Pm.pm_comm]; exact hfa.mul b
  have h1 : 1 ≤ f.log2 := (Nat.le_log2 hf0).2 hf.1
  have h2 := (hfa.log (by omega)).2
  have h3 := Pm.pm_log (show a ≠ 0 by omega) (show b ≠ 0 by omega)
  rw [h] at h3
  have hd : Dv f ((frob p f.log2).toNat ^^^ 2) := by
    have := (hfp.trans (frob_dv p hp f.log2)).xor (fermat hf)
    rw [Nat.xor_assoc, ← Nat.xor_assoc (2 ^ 2 ^ f.log2), Nat.xor_self, Nat.zero_xor] at this
    exact this
  have hno : coprime p f.log2 = false := by
    cases hc : coprime p f.log2 with
    | false => rfl
    | true =>
      obtain ⟨k, hk⟩ : ∃ k, f.log2 = k + 1 := ⟨f.log2 - 1, by omega⟩
      rw [hk] at hc hd
      unfold coprime at hc
      rw [Bool.and_eq_true, decide_eq_true_iff] at hc
      have hg : Dv f (wG (wG 0 (frob p (k + 1) ^^^ 2#64)) p).toNat := by
        rw [wG_toNat]
        refine (dv_gcd f _ _).2 ⟨?_, hfp⟩
        rw [wG_toNat]
        refine (dv_gcd f _ _).2 ⟨Dv.zero f, ?_⟩
        rw [BitVec.toNat_xor]
        exact hd
      rw [hc.2] at hg
      have := Dv.log hg (by decide)
      have e1 : (1#64).toNat.log2 = 0 := by decide
      omega
  have hdeg : dgw p = (p.toNat.log2 : Int) := by unfold dgw; exact deg_of_ne (ne_toNat hp)
  unfold isPrime
  cases hc : coprime p (dgw p / 2).toNat with
  | false => rw [Bool.and_false]
  | true =>
    have := coprime_mono p f.log2 (dgw p / 2).toNat (by omega) hc
    rw [hno] at this
    exact absurd this (by decide)
theorem not_prime {p : W} {a b : Nat} (h : Pm.pm a b = p.toNat) (ha : 2 ≤ a) (hb : 2 ≤ b) : isPrime p = false := by
  by_cases hl : a.log2 ≤ b.log2
  · exact not_prime_le h ha hb hl
  · exact not_prime_le (by rw [Pm.pm_comm]; exact h) hb ha (by omega)
/-- Nothing up to half its degree divides a prime. -/
theorem prime_no {p : W} (h : isPrime p = true) (q : Nat) (hq : 2 ≤ q) (hl : q.log2 ≤ p.toNat.log2 / 2) : Pm.pr p.toNat q ≠ 0 := by
  intro h0
  have hs := (Pm.pq_pr p.toNat q (by omega)).1
  rw [h0, Nat.xor_zero] at hs
  have hp : 1 ≤ dgw p := by
    unfold isPrime at h
    rw [Bool.and_eq_true, decide_eq_true_iff] at h
    exact h.1
  have hp0 : p.toNat ≠ 0 := fun e => by unfold dgw deg len at hp; rw [e] at hp; simp at hp
  have hd : dgw p = (p.toNat.log2 : Int) := by unfold dgw; exact deg_of_ne hp0
  have hq0 : Pm.pq p.toNat q ≠ 0 := fun e => by rw [e, Pm.pm_zero] at hs; exact hp0 hs.symm
  have h3 := Pm.pm_log hq0 (show q ≠ 0 by omega)
  rw [hs] at h3
  have h4 : 2 ≤ Pm.pq p.toNat q := by
    have := (Nat.le_log2 hq0 (k := 1)).1 (by omega)
    omega
  rw [not_prime hs h4 hq] at h
  exact absurd h (by decide)
end Go.Proofs.Ytfbihkfcpgkbmaa
