/- An irreducible polynomial of degree e divides x^(2^e) + x: plain mathematics. -/
import Derived.Test.YtfbihkfcpgkbmaaGm
namespace Go.Proofs.Ytfbihkfcpgkbmaa
open Go.RowKit

/-- Nothing but 1 and itself divides f. -/
def Irr (f : Nat) : Prop := 2 ≤ f ∧ ∀ g, Dv g f → g = 1 ∨ g = f
theorem Dv.log {g f : Nat} (h : Dv g f) (hf : f ≠ 0) : g ≠ 0 ∧ g.log2 ≤ f.log2 := by
  obtain ⟨k, rfl⟩ := h
  have hk : k ≠ 0 := fun e => hf (by rw [e, Pm.pm_zero])
  have hg : g ≠ 0 := fun e => hf (by rw [e, Pm.zero_pm])
  exact ⟨hg, by rw [Pm.pm_log hk hg]; omega⟩
theorem Dv.log_eq {g f : Nat} (h : Dv g f) (hf : f ≠ 0) (e : g.log2 = f.log2) : g = f := by
  obtain ⟨k, rfl⟩ := h
  have hk : k ≠ 0 := fun e => hf (by rw [e, Pm.pm_zero])
  have hg : g ≠ 0 := fun e => hf (by rw [e, Pm.zero_pm])
  rw [Pm.pm_log hk hg] at e
  have h0 : k.log2 = 0 := by omega
  have h2 := (Nat.log2_lt hk (k := 1)).1 (by omega)
  have : k = 1 := by omega
  rw [this, Pm.pm_one]
theorem irr_ex (a : Nat) (h : 2 ≤ a) : ∃ f, Irr f ∧ Dv f a := by
  have main : ∀ n a, a.log2 ≤ n → 2 ≤ a → ∃ f, Irr f ∧ Dv f a := by
    intro n
    induction n with
    | zero =>
      intro a hn ha
      have := (Nat.log2_lt (show a ≠ 0 by omega) (k := 1)).1 (by omega)
      omega
    | succ n ih =>
      intro a hn ha
      by_cases hi : Irr a
      · exact ⟨a, hi, Dv.refl a⟩
      · have : ∃ g, Dv g a ∧ g ≠ 1 ∧ g ≠ a := by
          apply Classical.byContradiction
          intro hno
          refine hi ⟨ha, fun g hg => ?_⟩
          apply Classical.byContradiction
          intro hg2
          exact hno ⟨g, hg, fun e => hg2 (Or.inl e), fun e => hg2 (Or.inr e)⟩
        obtain ⟨g, hg, h1, h2⟩ := this
        obtain ⟨hg0, hl⟩ := hg.log (by omega)
        have hne : g.log2 ≠ a.log2 := fun e => h2 (hg.log_eq (by omega) e)
        obtain ⟨f, hf, hfd⟩ := ih g (by omega) (by omega)
        exact ⟨f, hf, hfd.trans hg⟩
  exact main a.log2 a (Nat.le_refl _) h
theorem pr_scale (g p v : Nat) (hp : p ≠ 0) (hv : v ≠ 0) : Pm.pr (Pm.pm g v) (Pm.pm p v) = Pm.pm (Pm.pr g p) v := by
  have hs := Pm.pq_pr g p hp
  refine (Pm.div_eq (q := Pm.pq g p) (r := Pm.pm (Pm.pr g p) v) (Pm.pm_ne hp hv) ?_ ?_).2.symm
  · rw [← Pm.pm_assoc, ← Pm.pm_add_left, hs.1]
  · by_cases h0 : Pm.pr g p = 0
    · rw [h0, Pm.pm_zero]; exact Or.inl rfl
    · right
      rw [Pm.pm_log h0 hv, Pm.pm_log hp hv]
      rcases hs.2 with h | h
      · exact absurd h h0
      · omega
theorem gcd_scale (g p v : Nat) (hv : v ≠ 0) : gcd (Pm.pm g v) (Pm.pm p v) = Pm.pm (gcd g p) v := by
  have main : ∀ n g p, len p ≤ n → gcd (Pm.pm g v) (Pm.pm p v) = Pm.pm (gcd g p) v := by
    intro n
    induction n with
    | zero =>
      intro g p hn
      have h0 : p = 0 := by
        by_cases h : p = 0
        · exact h
        · unfold len at hn; rw [if_neg h] at hn; omega
      subst h0
      rw [Pm.pm_zero, gcd_zero, gcd_zero]
    | succ n ih =>
      intro g p hn
      by_cases h0 : p = 0
      · subst h0
        rw [Pm.pm_zero, gcd_zero, gcd_zero]
      · have hr := len_lt h0 (Pm.pq_pr g p h0).2
        rw [gcd_step _ _ (Pm.pm_ne h0 hv), gcd_step g p h0, pr_scale g p v h0 hv]
        exact ih p _ (by omega)
  exact main _ g p (Nat.le_refl _)
/-- Who divides a product divides one of both. -/
theorem Irr.split {f u v : Nat} (hf : Irr f) (h : Dv f (Pm.pm u v)) : Dv f u ∨ Dv f v := by
  by_cases hv : v = 0
  · right; rw [hv]; exact Dv.zero f
  have hg := (dv_gcd (gcd u f) u f).1 (Dv.refl _)
  rcases hf.2 _ hg.2 with h1 | h1
  · right
    have h2 : Dv f (gcd (Pm.pm u v) (Pm.pm f v)) := (dv_gcd f _ _).2 ⟨h, by rw [Pm.pm_comm]; exact ⟨v, rfl⟩⟩
    rw [gcd_scale u f v hv, h1, Pm.pm_one] at h2
    exact h2
  · left
    rw [← h1]
    exact hg.1
/-- The product of all. -/
def pprod (l : List Nat) : Nat := l.foldr Pm.pm 1
theorem pprod_perm {l m : List Nat} (h : l.Perm m) : pprod l = pprod m := by
  induction h with
  | nil => rfl
  | cons x _ ih => show Pm.pm x _ = Pm.pm x _; exact congrArg _ ih
  | swap x y l => show Pm.pm y (Pm.pm x _) = Pm.pm x (Pm.pm y _); rw [← Pm.pm_assoc, Pm.pm_comm y x, Pm.pm_assoc]
  | trans _ _ h1 h2 => exact h1.trans h2
theorem Irr.notin {f : Nat} (hf : Irr f) (l : List Nat) (h : ∀ r, r ∈ l → ¬ Dv f r) : ¬ Dv f (pprod l) := by
  induction l with
  | nil =>
    intro h1
    have h2 : (pprod []).log2 = 0 := by decide
    have h3 := (Dv.log h1 (by decide)).2
    have h4 : f = pprod [] := Dv.log_eq h1 (by decide) (by omega)
    have h5 := hf.1
    rw [h4] at h5
    exact absurd h5 (by decide)
  | cons a l ih =>
    intro h1
    rcases hf.split h1 with h2 | h2
    · exact h a (List.mem_cons_self) h2
    · exact ih (fun r hr => h r (List.mem_cons_of_mem _ hr)) h2
/-- Twice, by f. -/
def twice (f r : Nat) : Nat := if 2 * r < 2 ^ f.log2 then 2 * r else 2 * r ^^^ f
def halve (f r : Nat) : Nat := if r % 2 = 1 then (r ^^^ f) / 2 else r / 2
theorem twice_dv (f r : Nat) : Dv f (twice f r ^^^ 2 * r) := by
  unfold twice
  split
  · rw [Nat.xor_self]; exact Dv.zero f
  · rw [Nat.xor_comm, ← Nat.xor_assoc, Nat.xor_self, Nat.zero_xor]; exact Dv.refl f
theorem xor_even (a b : Nat) (h : b % 2 = 1) : (2 * a ^^^ b) % 2 = 1 := by rw [Pm.xor_odd]; omega
theorem halve_twice (f r : Nat) (ho : f % 2 = 1) : halve f (twice f r) = r := by
  unfold halve twice
  by_cases h : 2 * r < 2 ^ f.log2
  · rw [if_pos h, if_neg (by omega)]; omega
  · rw [if_neg h, if_pos (xor_even r f ho), Nat.xor_assoc, Nat.xor_self, Nat.xor_zero]; omega
theorem twice_lt (f r : Nat) (hf : f ≠ 0) (h : r < 2 ^ f.log2) : twice f r < 2 ^ f.log2 := by
  unfold twice
  split
  · assumption
  · rename_i h1
    exact Pm.xor_same (n := f.log2) ⟨by omega, by rw [Nat.pow_succ]; omega⟩ (Pm.has_of_ne hf)
theorem halve_lt (f r : Nat) (hf : f ≠ 0) (h1 : 1 ≤ f.log2) (h : r < 2 ^ f.log2) : halve f r < 2 ^ f.log2 := by
  have hp : 2 ^ f.log2 = 2 * 2 ^ (f.log2 - 1) := by
    rw [Nat.mul_comm, ← Nat.pow_succ]; congr 1; omega
  unfold halve
  split
  · have hx := (Pm.xor_top h (Pm.has_of_ne hf)).2
    rw [Nat.pow_succ] at hx
    omega
  · omega
theorem twice_halve (f r : Nat) (hf : f ≠ 0) (ho : f % 2 = 1) (h : r < 2 ^ f.log2) : twice f (halve f r) = r := by
  unfold halve twice
  by_cases hr : r % 2 = 1
  · rw [if_pos hr]
    have hx := (Pm.xor_top h (Pm.has_of_ne hf)).1
    have he : (r ^^^ f) % 2 = 0 := by rw [Pm.xor_odd]; omega
    have e2 : 2 * ((r ^^^ f) / 2) = r ^^^ f := by omega
    rw [e2, if_neg (by omega), Nat.xor_assoc, Nat.xor_self, Nat.xor_zero]
  · rw [if_neg hr]
    have e2 : 2 * (r / 2) = r := by omega
    rw [e2, if_pos h]
/-- All residues but 0. -/
def res (e : Nat) : List Nat := List.range' 1 (2 ^ e - 1)
theorem mem_res (e r : Nat) : r ∈ res e ↔ r ≠ 0 ∧ r < 2 ^ e := by
  unfold res
  rw [List.mem_range'_1]
  have := Nat.two_pow_pos e
  omega
theorem twice_perm (f : Nat) (hf : f ≠ 0) (ho : f % 2 = 1) (h1 : 1 ≤ f.log2) : ((res f.log2).map (twice f)).Perm (res f.log2) := by
  have nd : (res f.log2).Nodup := List.nodup_range'
  refine (List.perm_ext_iff_of_nodup ?_ nd).2 fun r => ?_
  · rw [List.Nodup, List.pairwise_map]
    refine List.Pairwise.imp ?_ nd
    intro a b hab e
    exact hab (by rw [← halve_twice f a ho, e, halve_twice f b ho])
  · rw [List.mem_map]
    constructor
    · rintro ⟨s, hs, rfl⟩
      rw [mem_res] at hs ⊢
      refine ⟨fun e => ?_, twice_lt f s hf hs.2⟩
      have := halve_twice f s ho
      rw [e] at this
      unfold halve at this
      simp at this
      exact hs.1 this.symm
    · intro hr
      rw [mem_res] at hr
      refine ⟨halve f r, (mem_res _ _).2 ⟨fun e => ?_, halve_lt f r hf h1 hr.2⟩, twice_halve f r hf ho hr.2⟩
      have := twice_halve f r hf ho hr.2
      rw [e] at this
      unfold twice at this
      rw [if_pos (by have := Nat.two_pow_pos f.log2; omega)] at this
      exact hr.1 (by omega)
/-- The doubled ones' product. -/
theorem pprod_twice (f : Nat) (l : List Nat) : Dv f (pprod (l.map (twice f)) ^^^ Pm.pm (2 ^ l.length) (pprod l)) := by
  induction l with
  | nil => exact ⟨0, by rw [Pm.pm_zero]; show 0 = 1 ^^^ Pm.pm 1 1; rw [Pm.pm_one]; rfl⟩
  | cons a l ih =>
    show Dv f (Pm.pm (twice f a) (pprod (l.map (twice f))) ^^^ Pm.pm (2 ^ (l.length + 1)) (Pm.pm a (pprod l)))
    have e : Pm.pm (2 ^ (l.length + 1)) (Pm.pm a (pprod l)) = Pm.pm (2 * a) (Pm.pm (2 ^ l.length) (pprod l)) := by
      rw [Nat.pow_succ, Nat.mul_comm, Pm.pm_two, Pm.pm_two, ← Pm.pm_assoc, ← Pm.pm_assoc, Pm.pm_comm (2 ^ l.length) a]
    rw [e]
    have h1 : Dv f (Pm.pm (twice f a ^^^ 2 * a) (pprod (l.map (twice f)))) := by
      rw [Pm.pm_comm]; exact (twice_dv f a).mul _
    have h2 : Dv f (Pm.pm (2 * a) (pprod (l.map (twice f)) ^^^ Pm.pm (2 ^ l.length) (pprod l))) := ih.mul _
    have := h1.xor h2
    rw [Pm.pm_add_left, Pm.pm_add_right, Nat.xor_assoc, ← Nat.xor_assoc (Pm.pm (2 * a) _), Nat.xor_self, Nat.zero_xor] at this
    exact this
/-- Fermat: an odd irreducible f of degree e divides x^(2^e - 1) + 1. -/
theorem fermat_odd {f : Nat} (hf : Irr f) (ho : f % 2 = 1) : Dv f (2 ^ (2 ^ f.log2 - 1) ^^^ 1) := by
  have h0 : f ≠ 0 := by have := hf.1; omega
  have h1 : 1 ≤ f.log2 := (Nat.le_log2 h0).2 hf.1
  have hp := pprod_twice f (res f.log2)
  rw [pprod_perm (twice_perm f h0 ho h1)] at hp
  have hl : (res f.log2).length = 2 ^ f.log2 - 1 := by simp [res]
  rw [hl] at hp
  have e : pprod (res f.log2) ^^^ Pm.pm (2 ^ (2 ^ f.log2 - 1)) (pprod (res f.log2)) = Pm.pm (2 ^ (2 ^ f.log2 - 1) ^^^ 1) (pprod (res f.log2)) := by
    rw [Pm.pm_add_left, Pm.pm_one, Nat.xor_comm]
  rw [e] at hp
  rcases hf.split hp with h | h
  · exact h
  · refine absurd h (hf.notin _ fun r hr hd => ?_)
    rw [mem_res] at hr
    have hl := hd.log hr.1
    have := (Nat.log2_lt hr.1).2 hr.2
    omega
/-- An irreducible f of degree e divides x^(2^e) + x. -/
theorem fermat {f : Nat} (hf : Irr f) : Dv f (2 ^ (2 ^ f.log2) ^^^ 2) := by
  by_cases ho : f % 2 = 1
  · have h := (fermat_odd hf ho).mul 2
    rw [Pm.pm_add_right, Pm.one_pm, Pm.pm_pow] at h
    have hp := Nat.two_pow_pos f.log2
    have e : 2 * 2 ^ (2 ^ f.log2 - 1) = 2 ^ (2 ^ f.log2) := by
      rw [Nat.mul_comm, ← Nat.pow_succ]; congr 1; omega
    rw [e] at h
    exact h
  · have h2 : Dv 2 f := ⟨f / 2, by rw [show (2 : Nat) = 2 ^ 1 from rfl, Pm.pm_pow]; omega⟩
    rcases hf.2 2 h2 with h | h
    · omega
    · subst h
      exact ⟨3, by decide⟩
end Go.Proofs.Ytfbihkfcpgkbmaa
