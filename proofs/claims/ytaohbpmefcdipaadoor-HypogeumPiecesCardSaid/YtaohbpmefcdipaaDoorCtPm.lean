/- Polynomials whose coefficients are bits, as natural numbers: product, degree, rest; plain mathematics, no program. -/
namespace Go.Proofs.YtaohbpmefcdipaaDoor.Ct.Pm

theorem two_xor (x y : Nat) : 2 * (x ^^^ y) = (2 * x) ^^^ (2 * y) := by
  apply Nat.eq_of_testBit_eq
  intro i
  cases i with
  | zero => simp
  | succ i =>
    rw [Nat.testBit_xor, Nat.testBit_succ, Nat.testBit_succ, Nat.testBit_succ, Nat.mul_div_cancel_left _ (by decide), Nat.mul_div_cancel_left _ (by decide), Nat.mul_div_cancel_left _ (by decide), Nat.testBit_xor]
theorem xor_swap (a b c d : Nat) : (a ^^^ b) ^^^ (c ^^^ d) = (a ^^^ c) ^^^ (b ^^^ d) := by
  rw [Nat.xor_assoc, Nat.xor_assoc, ← Nat.xor_assoc b, Nat.xor_comm b c, Nat.xor_assoc]
theorem xor_half (a b : Nat) : (a ^^^ b) / 2 = a / 2 ^^^ b / 2 := by
  apply Nat.eq_of_testBit_eq
  intro i
  rw [Nat.testBit_xor, ← Nat.testBit_succ, ← Nat.testBit_succ, ← Nat.testBit_succ, Nat.testBit_xor]
theorem xor_odd (a b : Nat) : (a ^^^ b) % 2 = (a % 2 + b % 2) % 2 := by
  have h : ∀ x : Nat, x % 2 = (x.testBit 0).toNat := fun x => by
    rw [Nat.testBit_zero]; rcases Nat.mod_two_eq_zero_or_one x with h | h <;> simp [h]
  rw [h (a ^^^ b), Nat.testBit_xor, h a, h b]
  cases a.testBit 0 <;> cases b.testBit 0 <;> rfl

theorem eq_of_xor {a b : Nat} (h : a ^^^ b = 0) : a = b := by
  rw [← Nat.zero_xor b, ← h, Nat.xor_assoc, Nat.xor_self, Nat.xor_zero]

/-- The product, by a count of steps. -/
def pmf : Nat → Nat → Nat → Nat
  | 0, _, _ => 0
  | n + 1, a, b => (if a % 2 = 1 then b else 0) ^^^ (2 * pmf n (a / 2) b)
/-- The product. -/
def pm (a b : Nat) : Nat := pmf (a.log2 + 1) a b
theorem pmf_zero (n b : Nat) : pmf n 0 b = 0 := by
  induction n with
  | zero => rfl
  | succ n ih => unfold pmf; simp [ih]
theorem pmf_more (n m a b : Nat) (hn : a < 2 ^ n) (hm : a < 2 ^ m) : pmf n a b = pmf m a b := by
  induction n generalizing m a with
  | zero =>
    obtain rfl : a = 0 := by simpa using hn
    rw [pmf_zero, pmf_zero]
  | succ n ih =>
    cases m with
    | zero =>
      obtain rfl : a = 0 := by simpa using hm
      rw [pmf_zero, pmf_zero]
    | succ m =>
      rw [Nat.pow_succ] at hn hm
      unfold pmf
      rw [ih m (a / 2) (by omega) (by omega)]
theorem pm_zero (b : Nat) : pm 0 b = 0 := pmf_zero _ b
theorem pm_step (a b : Nat) : pm a b = (if a % 2 = 1 then b else 0) ^^^ (2 * pm (a / 2) b) := by
  have h : a < 2 ^ (a.log2 + 1) := Nat.lt_log2_self
  unfold pm
  conv => lhs; unfold pmf
  rw [pmf_more a.log2 ((a / 2).log2 + 1) (a / 2) b (by rw [Nat.pow_succ] at h; omega) Nat.lt_log2_self]
theorem pm_one (b : Nat) : pm 1 b = b := by rw [pm_step]; simp [pm_zero]
theorem pm_two (a b : Nat) : pm (2 * a) b = 2 * pm a b := by
  rw [pm_step]; simp
theorem zero_pm (a : Nat) : pm a 0 = 0 := by
  induction a using Nat.strongRecOn with
  | _ a ih =>
    by_cases h : a = 0
    · subst h; exact pm_zero 0
    · rw [pm_step, ih (a / 2) (by omega)]; simp
theorem pm_add_right (a b c : Nat) : pm a (b ^^^ c) = pm a b ^^^ pm a c := by
  induction a using Nat.strongRecOn with
  | _ a ih =>
    by_cases h : a = 0
    · subst h; simp [pm_zero]
    · rw [pm_step, pm_step a b, pm_step a c, ih (a / 2) (by omega), two_xor, xor_swap]
      congr 1
      split <;> simp
theorem pm_add_left (a b c : Nat) : pm (a ^^^ b) c = pm a c ^^^ pm b c := by
  induction a using Nat.strongRecOn generalizing b with
  | _ a ih =>
    by_cases h : a = 0
    · subst h; simp [pm_zero]
    · rw [pm_step, pm_step a c, pm_step b c, xor_half, ih (a / 2) (by omega), two_xor, xor_swap, xor_odd]
      congr 1
      rcases Nat.mod_two_eq_zero_or_one a with h1 | h1 <;> rcases Nat.mod_two_eq_zero_or_one b with h2 | h2 <;> simp [h1, h2]
theorem pm_two_right (a b : Nat) : pm a (2 * b) = 2 * pm a b := by
  induction a using Nat.strongRecOn with
  | _ a ih =>
    by_cases h : a = 0
    · subst h; simp [pm_zero]
    · rw [pm_step, pm_step a b, ih (a / 2) (by omega), two_xor]
      congr 1
      split <;> simp
theorem one_pm (a : Nat) : pm a 1 = a := by
  induction a using Nat.strongRecOn with
  | _ a ih =>
    by_cases h : a = 0
    · subst h; simp [pm_zero]
    · rw [pm_step, ih (a / 2) (by omega)]
      apply Nat.eq_of_testBit_eq
      intro i
      cases i with
      | zero =>
        rw [Nat.testBit_xor, Nat.testBit_zero, Nat.testBit_zero, Nat.testBit_zero]
        rcases Nat.mod_two_eq_zero_or_one a with h1 | h1 <;> simp [h1]
      | succ i =>
        rw [Nat.testBit_xor, Nat.testBit_succ, Nat.testBit_succ, Nat.testBit_succ, Nat.mul_div_cancel_left _ (by decide)]
        split <;> simp
theorem parts (a : Nat) : a = (if a % 2 = 1 then 1 else 0) ^^^ (2 * (a / 2)) := by
  have h := pm_step a 1
  rw [one_pm, one_pm] at h
  exact h
theorem pm_comm (a b : Nat) : pm a b = pm b a := by
  induction a using Nat.strongRecOn with
  | _ a ih =>
    by_cases h : a = 0
    · subst h; rw [pm_zero, zero_pm]
    · conv => rhs; rw [parts a, pm_add_right, pm_two_right, ← ih (a / 2) (by omega)]
      rw [pm_step]
      congr 1
      split
      · rw [one_pm]
      · rw [zero_pm]
theorem pm_assoc (a b c : Nat) : pm (pm a b) c = pm a (pm b c) := by
  induction a using Nat.strongRecOn with
  | _ a ih =>
    by_cases h : a = 0
    · subst h; rw [pm_zero, pm_zero, pm_zero]
    · rw [pm_step a b, pm_add_left, pm_two, ih (a / 2) (by omega), pm_step a (pm b c)]
      congr 1
      split
      · rfl
      · exact pm_zero c
theorem pm_pow (a n : Nat) : pm a (2 ^ n) = a * 2 ^ n := by
  induction n with
  | zero => rw [Nat.pow_zero, one_pm, Nat.mul_one]
  | succ n ih => rw [Nat.pow_succ, Nat.mul_comm (2 ^ n), pm_two_right, ih, Nat.mul_left_comm]
theorem pow_pm (a n : Nat) : pm (2 ^ n) a = a * 2 ^ n := by rw [pm_comm, pm_pow]

/-- a has degree n. -/
def Has (a n : Nat) : Prop := 2 ^ n ≤ a ∧ a < 2 ^ (n + 1)
theorem Has.pos {a n : Nat} (h : Has a n) : 0 < a := Nat.lt_of_lt_of_le (Nat.two_pow_pos n) h.1
theorem has_of_ne {a : Nat} (h : a ≠ 0) : Has a a.log2 := ⟨Nat.log2_self_le h, Nat.lt_log2_self⟩
theorem Has.log {a n : Nat} (h : Has a n) : a.log2 = n := by
  have h0 : a ≠ 0 := Nat.ne_of_gt h.pos
  have h1 := (Nat.le_log2 h0).2 h.1
  have h2 := (Nat.log2_lt h0).2 h.2
  omega
theorem xor_top {x y n : Nat} (hx : x < 2 ^ n) (hy : Has y n) : Has (x ^^^ y) n := by
  have hlt : x ^^^ y < 2 ^ (n + 1) := Nat.xor_lt_two_pow (Nat.lt_of_lt_of_le hx (Nat.pow_le_pow_right (by decide) (by omega))) hy.2
  refine ⟨?_, hlt⟩
  have hb : (x ^^^ y).testBit n = true := by
    rw [Nat.testBit_xor, Nat.testBit_lt_two_pow hx]
    have : y.testBit n = true := by
      have h1 := hy.1
      have h2 := hy.2
      rw [Nat.testBit_eq_decide_div_mod_eq]
      have : y / 2 ^ n = 1 := by
        apply Nat.div_eq_of_lt_le
        · omega
        · rw [Nat.pow_succ] at h2; omega
      simp [this]
    simp [this]
  exact Nat.ge_two_pow_of_testBit hb
theorem xor_same {x y n : Nat} (hx : Has x n) (hy : Has y n) : x ^^^ y < 2 ^ n := by
  have hbit : ∀ {z}, Has z n → z.testBit n = true := fun {z} hz => by
    have h1 := hz.1
    have h2 := hz.2
    rw [Nat.testBit_eq_decide_div_mod_eq]
    have : z / 2 ^ n = 1 := by
      apply Nat.div_eq_of_lt_le
      · omega
      · rw [Nat.pow_succ] at h2; omega
    simp [this]
  have hlt : x ^^^ y < 2 ^ (n + 1) := Nat.xor_lt_two_pow hx.2 hy.2
  apply Nat.lt_pow_two_of_testBit
  intro i hi
  by_cases hn : i = n
  · subst hn; rw [Nat.testBit_xor, hbit hx, hbit hy]; rfl
  · exact Nat.testBit_lt_two_pow (Nat.lt_of_lt_of_le hlt (Nat.pow_le_pow_right (by decide) (by omega)))
theorem pm_has {a b m n : Nat} (ha : Has a m) (hb : Has b n) : Has (pm a b) (m + n) := by
  induction m generalizing a with
  | zero =>
    obtain rfl : a = 1 := by have := ha.1; have := ha.2; simp at *; omega
    rw [pm_one, Nat.zero_add]; exact hb
  | succ m ih =>
    have h1 := ha.1
    have h2 := ha.2
    rw [Nat.pow_succ] at h1 h2
    have hh : Has (a / 2) m := ⟨by omega, by omega⟩
    have hp := ih hh
    rw [pm_step]
    refine xor_top ?_ ?_
    · split
      · exact Nat.lt_of_lt_of_le hb.2 (Nat.pow_le_pow_right (by decide) (by omega))
      · exact Nat.two_pow_pos _
    · have h3 := hp.1
      have h4 := hp.2
      refine ⟨?_, ?_⟩
      · rw [show m + 1 + n = (m + n) + 1 by omega, Nat.pow_succ]; omega
      · rw [show m + 1 + n + 1 = (m + n + 1) + 1 by omega, Nat.pow_succ]; omega
theorem pm_ne {a b : Nat} (ha : a ≠ 0) (hb : b ≠ 0) : pm a b ≠ 0 :=
  Nat.ne_of_gt (pm_has (has_of_ne ha) (has_of_ne hb)).pos
theorem pm_log {a b : Nat} (ha : a ≠ 0) (hb : b ≠ 0) : (pm a b).log2 = a.log2 + b.log2 := (pm_has (has_of_ne ha) (has_of_ne hb)).log
theorem pm_lt {a b m n : Nat} (ha : a < 2 ^ m) (hb : b < 2 ^ (n + 1)) : pm a b < 2 ^ (m + n) := by
  by_cases h0 : a = 0
  · subst h0; rw [pm_zero]; exact Nat.two_pow_pos _
  by_cases h1 : b = 0
  · subst h1; rw [zero_pm]; exact Nat.two_pow_pos _
  have h := (pm_has (has_of_ne h0) (has_of_ne h1)).2
  have g0 := (Nat.log2_lt h0).2 ha
  have g1 := (Nat.log2_lt h1).2 hb
  exact Nat.lt_of_lt_of_le h (Nat.pow_le_pow_right (by decide) (by omega))

/-- a is of lesser degree than b. -/
def Less (a b : Nat) : Prop := a = 0 ∨ a.log2 < b.log2
theorem less_xor {x y b : Nat} (hx : Less x b) (hy : Less y b) : Less (x ^^^ y) b := by
  have hp : ∀ {z}, Less z b → z < 2 ^ b.log2 := fun {z} hz => by
    rcases hz with rfl | hz
    · exact Nat.two_pow_pos _
    · exact Nat.lt_of_lt_of_le Nat.lt_log2_self (Nat.pow_le_pow_right (by decide) hz)
  by_cases h : x ^^^ y = 0
  · exact Or.inl h
  · exact Or.inr ((Nat.log2_lt h).2 (Nat.xor_lt_two_pow (hp hx) (hp hy)))
theorem less_lt {x b : Nat} (hx : Less x b) : x < 2 ^ b.log2 := by
  rcases hx with rfl | hx
  · exact Nat.two_pow_pos _
  · exact Nat.lt_of_lt_of_le Nat.lt_log2_self (Nat.pow_le_pow_right (by decide) hx)
theorem less_of_lt {x b : Nat} (hx : x < 2 ^ b.log2) : Less x b := by
  by_cases h : x = 0
  · exact Or.inl h
  · exact Or.inr ((Nat.log2_lt h).2 hx)
/-- A multiple of b of lesser degree is 0. -/
theorem less_mul {q b : Nat} (hb : b ≠ 0) (h : Less (pm q b) b) : q = 0 := by
  by_cases hq : q = 0
  · exact hq
  · rcases h with h | h
    · exact absurd h (pm_ne hq hb)
    · rw [pm_log hq hb] at h; omega
/-- What is left, and how often, are one. -/
theorem div_unique {q q' r r' b : Nat} (hb : b ≠ 0) (h : pm q b ^^^ r = pm q' b ^^^ r') (hr : Less r b) (hr' : Less r' b) : q = q' ∧ r = r' := by
  have e : pm (q ^^^ q') b = r ^^^ r' := by
    rw [pm_add_left]
    have : pm q b = pm q' b ^^^ r' ^^^ r := by rw [← h]; simp [Nat.xor_assoc]
    rw [this]
    rw [Nat.xor_comm, ← Nat.xor_assoc, ← Nat.xor_assoc, Nat.xor_self, Nat.zero_xor, Nat.xor_comm]
  have z := less_mul hb (show Less (pm (q ^^^ q') b) b by rw [e]; exact less_xor hr hr')
  have hq : q = q' := eq_of_xor z
  refine ⟨hq, ?_⟩
  rw [z, pm_zero] at e
  exact eq_of_xor e.symm

/-- The division, by a count of steps. -/
def pdm : Nat → Nat → Nat → Nat → Nat × Nat
  | 0, q, a, _ => (q, a)
  | n + 1, q, a, b => if a = 0 ∨ a.log2 < b.log2 then (q, a) else pdm n (q ^^^ 2 ^ (a.log2 - b.log2)) (a ^^^ b * 2 ^ (a.log2 - b.log2)) b
/-- How often; what is left. -/
def pq (a b : Nat) : Nat := (pdm (a.log2 + 1) 0 a b).1
def pr (a b : Nat) : Nat := (pdm (a.log2 + 1) 0 a b).2
theorem has_shift {b n k : Nat} (h : Has b n) : Has (b * 2 ^ k) (n + k) := by
  refine ⟨?_, ?_⟩
  · rw [Nat.pow_add]; exact Nat.mul_le_mul_right _ h.1
  · rw [show n + k + 1 = (n + 1) + k by omega, Nat.pow_add]; exact Nat.mul_lt_mul_of_pos_right h.2 (Nat.two_pow_pos _)
/-- A step of the division. -/
theorem div_step {a b : Nat} (hb : b ≠ 0) (ha : a ≠ 0) (h : b.log2 ≤ a.log2) : a ^^^ b * 2 ^ (a.log2 - b.log2) < 2 ^ a.log2 := by
  refine xor_same (has_of_ne ha) ?_
  have := has_shift (k := a.log2 - b.log2) (has_of_ne hb)
  rwa [show b.log2 + (a.log2 - b.log2) = a.log2 by omega] at this
theorem step_sum (q a b k : Nat) : pm (q ^^^ 2 ^ k) b ^^^ (a ^^^ b * 2 ^ k) = pm q b ^^^ a := by
  rw [pm_add_left, pow_pm, Nat.xor_assoc, Nat.xor_comm a, ← Nat.xor_assoc (b * 2 ^ k), Nat.xor_self, Nat.zero_xor]
theorem pdm_spec (n q a b : Nat) (hb : b ≠ 0) (hn : a < 2 ^ n) : pm (pdm n q a b).1 b ^^^ (pdm n q a b).2 = pm q b ^^^ a ∧ Less (pdm n q a b).2 b := by
  induction n generalizing q a with
  | zero =>
    obtain rfl : a = 0 := by simpa using hn
    exact ⟨rfl, Or.inl rfl⟩
  | succ n ih =>
    unfold pdm
    split
    · exact ⟨rfl, ‹_›⟩
    · rename_i h
      have ha : a ≠ 0 := fun e => h (Or.inl e)
      have hl : b.log2 ≤ a.log2 := Nat.le_of_not_lt fun e => h (Or.inr e)
      have hs := div_step hb ha hl
      have := ih (q ^^^ 2 ^ (a.log2 - b.log2)) (a ^^^ b * 2 ^ (a.log2 - b.log2)) (Nat.lt_of_lt_of_le hs (Nat.pow_le_pow_right (by decide) (by have := (Nat.log2_lt ha).2 hn; omega)))
      rw [step_sum] at this
      exact this
theorem pq_pr (a b : Nat) (hb : b ≠ 0) : pm (pq a b) b ^^^ pr a b = a ∧ Less (pr a b) b := by
  have h : a < 2 ^ (a.log2 + 1) := Nat.lt_log2_self
  have := pdm_spec (a.log2 + 1) 0 a b hb h
  rw [pm_zero, Nat.zero_xor] at this
  exact this
theorem div_eq {a b q r : Nat} (hb : b ≠ 0) (h : pm q b ^^^ r = a) (hr : Less r b) : q = pq a b ∧ r = pr a b := by
  have := pq_pr a b hb
  exact div_unique hb (h.trans this.1.symm) hr this.2
theorem pr_lt (a b : Nat) (hb : b ≠ 0) : pr a b < 2 ^ b.log2 := less_lt (pq_pr a b hb).2
theorem pr_add (a c b : Nat) (hb : b ≠ 0) : pr (a ^^^ c) b = pr a b ^^^ pr c b := by
  have h1 := pq_pr a b hb
  have h2 := pq_pr c b hb
  refine (div_eq (q := pq a b ^^^ pq c b) hb ?_ (less_xor h1.2 h2.2)).2.symm
  rw [pm_add_left, xor_swap, h1.1, h2.1]
theorem pr_mul (q b : Nat) (hb : b ≠ 0) : pr (pm q b) b = 0 :=
  (div_eq (q := q) (r := 0) hb (Nat.xor_zero _) (Or.inl rfl)).2.symm
theorem pr_less (a b : Nat) (hb : b ≠ 0) (h : Less a b) : pr a b = a :=
  (div_eq (q := 0) (r := a) hb (by rw [pm_zero, Nat.zero_xor]) h).2.symm
/-- The rest of a product is that of the product of a rest. -/
theorem pr_pm_left (a c b : Nat) (hb : b ≠ 0) : pr (pm (pr a b) c) b = pr (pm a c) b := by
  have h := (pq_pr a b hb).1
  conv => rhs; rw [← h, pm_add_left, pr_add _ _ _ hb, pm_assoc, pm_comm b c, ← pm_assoc, pr_mul _ _ hb, Nat.zero_xor]
theorem pr_pm_right (a c b : Nat) (hb : b ≠ 0) : pr (pm a (pr c b)) b = pr (pm a c) b := by
  rw [pm_comm, pr_pm_left _ _ _ hb, pm_comm]
end Go.Proofs.YtaohbpmefcdipaaDoor.Ct.Pm
