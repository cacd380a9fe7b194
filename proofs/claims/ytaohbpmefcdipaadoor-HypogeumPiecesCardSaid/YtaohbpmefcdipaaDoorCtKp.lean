/- Where bytes are cut: plain words. -/
import Derived.Test.YtaohbpmefcdipaaDoorCtRoll
namespace Go.Proofs.YtaohbpmefcdipaaDoor.Ct
open Go.RowKit

/-- A rule. -/
structure Rl where
  least : Nat
  most : Nat
  bits : Nat
  poly : W
structure Rl.ok (r : Rl) : Prop where
  h1 : 64 ≤ r.least
  h2 : r.least ≤ r.most
  h3 : r.most ≤ 65536
  h4 : 1 ≤ r.bits
  h5 : r.bits ≤ 20
  h6 : 24 ≤ dgw r.poly
def Rl.ones (r : Rl) : W := (1#64 <<< r.bits) - 1#64
def Rl.hit (r : Rl) (s : W) : Bool := decide (s &&& r.ones = r.ones)
/-- Does a piece of these bytes end? -/
def Rl.stop (r : Rl) (p : List UInt8) : Bool := decide (r.most ≤ p.length) || (decide (r.least ≤ p.length) && r.hit (ofW r.poly (p.drop (p.length - 64))))
/-- Behind p: how many of the bytes go to the piece; is it whole? -/
def Rl.reach (r : Rl) : List UInt8 → List UInt8 → Nat × Bool
  | _, [] => (0, false)
  | p, x :: b => if r.stop (p ++ [x]) then (1, true) else ((Rl.reach r (p ++ [x]) b).1 + 1, (Rl.reach r (p ++ [x]) b).2)
/-- None of the first k ends it. -/
def Rl.goes (r : Rl) (p b : List UInt8) (k : Nat) : Prop := ∀ j, j < k → r.stop (p ++ b.take (j + 1)) = false
theorem Rl.reach_hit (r : Rl) (p b : List UInt8) (k : Nat) (hk : k < b.length) (hg : r.goes p b k) (hs : r.stop (p ++ b.take (k + 1)) = true) : r.reach p b = (k + 1, true) := by
  induction b generalizing p k with
  | nil => simp at hk
  | cons x b ih =>
    cases k with
    | zero =>
      have : r.stop (p ++ [x]) = true := by simpa using hs
      simp [Rl.reach, this]
    | succ k =>
      have h0 : r.stop (p ++ [x]) = false := by simpa using hg 0 (by omega)
      have := ih (p ++ [x]) k (by simpa using hk) (fun j hj => by simpa using hg (j + 1) (by omega)) (by simpa using hs)
      simp [Rl.reach, h0, this]
theorem Rl.reach_end (r : Rl) (p b : List UInt8) (hg : r.goes p b b.length) : r.reach p b = (b.length, false) := by
  induction b generalizing p with
  | nil => rfl
  | cons x b ih =>
    have h0 : r.stop (p ++ [x]) = false := by simpa using hg 0 (by simp)
    have := ih (p ++ [x]) (fun j hj => by simpa using hg (j + 1) (by simpa using hj))
    simp [Rl.reach, h0, this]
/-- What is reached, told by its own words. -/
theorem Rl.reach_cases (r : Rl) (p b : List UInt8) : (∃ k, k < b.length ∧ r.goes p b k ∧ r.stop (p ++ b.take (k + 1)) = true ∧ r.reach p b = (k + 1, true)) ∨ (r.goes p b b.length ∧ r.reach p b = (b.length, false)) := by
  induction b generalizing p with
  | nil => exact Or.inr ⟨fun j hj => by simp at hj, rfl⟩
  | cons x b ih =>
    by_cases h0 : r.stop (p ++ [x]) = true
    · refine Or.inl ⟨0, by simp, fun j hj => by omega, by simpa using h0, by simp [Rl.reach, h0]⟩
    · have h0 : r.stop (p ++ [x]) = false := by simpa using h0
      rcases ih (p ++ [x]) with ⟨k, hk, hg, hs, he⟩ | ⟨hg, he⟩
      · refine Or.inl ⟨k + 1, by simpa using hk, ?_, by simpa using hs, by simp [Rl.reach, h0, he]⟩
        intro j hj
        cases j with
        | zero => simpa using h0
        | succ j => simpa using hg j (by omega)
      · refine Or.inr ⟨?_, by simp [Rl.reach, h0, he]⟩
        intro j hj
        cases j with
        | zero => simpa using h0
        | succ j => simpa using hg j (by simpa using hj)
/-- How many bytes the first piece has; all pieces. -/
def Rl.first (r : Rl) (b : List UInt8) : Nat := (r.reach [] b).1
theorem Rl.first_le (r : Rl) (b : List UInt8) : r.first b ≤ b.length := by
  unfold Rl.first
  rcases r.reach_cases [] b with ⟨k, hk, _, _, he⟩ | ⟨_, he⟩ <;> rw [he] <;> simp <;> omega
theorem Rl.first_pos (r : Rl) (b : List UInt8) (h : b ≠ []) : 1 ≤ r.first b := by
  have : 0 < b.length := List.length_pos_iff.2 h
  unfold Rl.first
  rcases r.reach_cases [] b with ⟨k, hk, _, _, he⟩ | ⟨_, he⟩ <;> rw [he] <;> simp <;> omega
def Rl.sizesF (r : Rl) : Nat → List UInt8 → List Nat
  | 0, _ => []
  | n + 1, b => if b = [] then [] else r.first b :: Rl.sizesF r n (b.drop (r.first b))
def Rl.sizes (r : Rl) (b : List UInt8) : List Nat := r.sizesF b.length b
theorem Rl.sizesF_eq (r : Rl) (n m : Nat) (b : List UInt8) (hn : b.length ≤ n) (hm : b.length ≤ m) : r.sizesF n b = r.sizesF m b := by
  induction n generalizing m b with
  | zero =>
    have : b = [] := List.eq_nil_of_length_eq_zero (by omega)
    subst this
    cases m <;> simp [Rl.sizesF]
  | succ n ih =>
    cases m with
    | zero =>
      have : b = [] := List.eq_nil_of_length_eq_zero (by omega)
      subst this
      simp [Rl.sizesF]
    | succ m =>
      by_cases h : b = []
      · simp [Rl.sizesF, h]
      · have h1 := r.first_pos b h
        simp only [Rl.sizesF, h, if_false]
        rw [ih m (b.drop (r.first b)) (by simp; omega) (by simp; omega)]
theorem Rl.sizes_nil (r : Rl) : r.sizes [] = [] := rfl
theorem Rl.sizes_cons (r : Rl) (b : List UInt8) (h : b ≠ []) : r.sizes b = r.first b :: r.sizes (b.drop (r.first b)) := by
  have hl : 0 < b.length := List.length_pos_iff.2 h
  obtain ⟨n, hn⟩ : ∃ n, b.length = n + 1 := ⟨b.length - 1, by omega⟩
  have h1 := r.first_pos b h
  unfold Rl.sizes
  rw [hn]
  simp only [Rl.sizesF, h, if_false]
  rw [r.sizesF_eq n (b.drop (r.first b)).length _ (by simp; omega) (Nat.le_refl _)]
theorem Rl.sizes_sum (r : Rl) (b : List UInt8) : (r.sizes b).sum = b.length := by
  generalize hn : b.length = n
  induction n using Nat.strongRecOn generalizing b with
  | ind n ih =>
    by_cases h : b = []
    · subst h; simp [Rl.sizes_nil] at hn ⊢; exact hn
    · have h1 := r.first_pos b h
      have h2 := r.first_le b
      rw [r.sizes_cons b h, List.sum_cons, ih (b.drop (r.first b)).length (by simp; omega) _ rfl]
      simp
      omega
theorem Rl.sizes_ne (r : Rl) (b : List UInt8) (h : b ≠ []) : r.sizes b ≠ [] := by
  rw [r.sizes_cons b h]; simp
/-- The pieces from the i-th on are those of what is left. -/
theorem Rl.sizes_drop (r : Rl) (b : List UInt8) (i : Nat) : (r.sizes b).drop i = r.sizes (b.drop ((r.sizes b).take i).sum) := by
  induction i generalizing b with
  | zero => simp
  | succ i ih =>
    by_cases h : b = []
    · subst h; simp [Rl.sizes_nil]
    · rw [r.sizes_cons b h, List.drop_succ_cons, ih, List.take_succ_cons, List.sum_cons, List.drop_drop]
theorem Rl.stop_append (r : Rl) (hr : r.ok) (a : List UInt8) : r.stop a = r.stop a := rfl
/-- A first piece that isn't all hangs on its own bytes alone. -/
theorem Rl.first_local (r : Rl) (b c : List UInt8) (h : r.first b < b.length) (e : b.take (r.first b) = c.take (r.first b)) (hc : r.first b ≤ c.length) : r.first c = r.first b := by
  rcases r.reach_cases [] b with ⟨k, hk, hg, hs, he⟩ | ⟨_, he⟩
  · have hf : r.first b = k + 1 := by unfold Rl.first; rw [he]
    rw [hf] at e hc ⊢
    have et : ∀ j, j ≤ k + 1 → b.take j = c.take j := fun j hj => by
      have := congrArg (List.take j) e
      rwa [List.take_take, List.take_take, Nat.min_eq_left hj] at this
    unfold Rl.first
    rw [r.reach_hit [] c k (by omega) (fun j hj => by rw [List.nil_append, ← et _ (by omega)]; exact hg j hj) (by rw [List.nil_append, ← et _ (Nat.le_refl _)]; exact hs)]
  · have hf : r.first b = b.length := by unfold Rl.first; rw [he]
    omega
/-- A whole piece, even if it is all, hangs on its own bytes alone. -/
theorem Rl.first_whole (r : Rl) (b c : List UInt8) (h : (r.reach [] b).2 = true) (e : b.take (r.first b) = c.take (r.first b)) (hc : r.first b ≤ c.length) : r.first c = r.first b := by
  rcases r.reach_cases [] b with ⟨k, hk, hg, hs, he⟩ | ⟨_, he⟩
  · have hf : r.first b = k + 1 := by unfold Rl.first; rw [he]
    rw [hf] at e hc ⊢
    have et : ∀ j, j ≤ k + 1 → b.take j = c.take j := fun j hj => by
      have := congrArg (List.take j) e
      rwa [List.take_take, List.take_take, Nat.min_eq_left hj] at this
    unfold Rl.first
    rw [r.reach_hit [] c k (by omega) (fun j hj => by rw [List.nil_append, ← et _ (by omega)]; exact hg j hj) (by rw [List.nil_append, ← et _ (Nat.le_refl _)]; exact hs)]
  · rw [he] at h; cases h
theorem Rl.first_most (r : Rl) (hr : r.ok) (b : List UInt8) : r.first b ≤ r.most := by
  have := hr.h1
  have := hr.h2
  rcases r.reach_cases [] b with ⟨k, hk, hg, hs, he⟩ | ⟨hg, he⟩
  · have hf : r.first b = k + 1 := by unfold Rl.first; rw [he]
    rw [hf]
    rcases Nat.lt_or_ge r.most (k + 1) with h | h
    · have h2 := hg (k - 1) (by omega)
      have hl : (b.take (k - 1 + 1)).length = k := by rw [List.length_take]; omega
      simp only [Rl.stop, List.nil_append, hl, Bool.or_eq_false_iff, decide_eq_false_iff_not] at h2
      omega
    · exact h
  · have hf : r.first b = b.length := by unfold Rl.first; rw [he]
    rw [hf]
    rcases Nat.lt_or_ge r.most b.length with h | h
    · have h2 := hg (b.length - 1) (by omega)
      have hl : (b.take (b.length - 1 + 1)).length = b.length := by rw [List.length_take]; omega
      simp only [Rl.stop, List.nil_append, hl, Bool.or_eq_false_iff, decide_eq_false_iff_not] at h2
      omega
    · exact h
theorem Rl.first_least (r : Rl) (hr : r.ok) (b : List UInt8) (h : r.first b < b.length) : r.least ≤ r.first b := by
  have := hr.h2
  rcases r.reach_cases [] b with ⟨k, hk, hg, hs, he⟩ | ⟨hg, he⟩
  · have hf : r.first b = k + 1 := by unfold Rl.first; rw [he]
    have hl : (b.take (k + 1)).length = k + 1 := by rw [List.length_take]; omega
    simp only [Rl.stop, List.nil_append, hl, Bool.or_eq_true, Bool.and_eq_true, decide_eq_true_iff] at hs
    omega
  · have hf : r.first b = b.length := by unfold Rl.first; rw [he]
    omega
/-- Bytes that end with a whole piece change nothing of what stands behind them. -/
theorem Rl.sizes_behind (r : Rl) (a b : List UInt8) : r.sizes (a.take ((r.sizes a).dropLast).sum ++ b) = (r.sizes a).dropLast ++ r.sizes b := by
  generalize hn : a.length = n
  induction n using Nat.strongRecOn generalizing a with
  | ind n ih =>
    by_cases h : a = []
    · subst h; simp [Rl.sizes_nil]
    · have h1 := r.first_pos a h
      have h2 := r.first_le a
      by_cases h3 : r.first a = a.length
      · rw [r.sizes_cons a h, h3, List.drop_length, Rl.sizes_nil]; simp
      · have hd : a.drop (r.first a) ≠ [] := by
          intro e
          have := congrArg List.length e
          simp at this
          omega
        have hne := r.sizes_ne _ hd
        have ihh := ih (a.drop (r.first a)).length (by simp; omega) (a.drop (r.first a)) rfl
        rw [r.sizes_cons a h, List.dropLast_cons_of_ne_nil hne, List.sum_cons, List.cons_append, ← ihh]
        generalize hs : ((r.sizes (a.drop (r.first a))).dropLast).sum = s
        have e1 : a.take (r.first a + s) = a.take (r.first a) ++ (a.drop (r.first a)).take s := by rw [← List.take_add]
        rw [e1, List.append_assoc]
        generalize (a.drop (r.first a)).take s ++ b = X
        have hl : (a.take (r.first a)).length = r.first a := by rw [List.length_take]; omega
        have e2 : r.first (a.take (r.first a) ++ X) = r.first a := r.first_local a _ (by omega) (by rw [List.take_append_of_le_length (by omega), List.take_take, Nat.min_self]) (by simp; omega)
        have hne2 : a.take (r.first a) ++ X ≠ [] := by
          intro e
          have := congrArg List.length e
          rw [List.length_append, hl, List.length_nil] at this
          omega
        rw [r.sizes_cons _ hne2, e2]
        have e3 : (a.take (r.first a) ++ X).drop (r.first a) = X := by
          rw [List.drop_append, List.drop_of_length_le (by omega), List.nil_append, hl, Nat.sub_self, List.drop_zero]
        rw [e3]

/-- L is what a window of 64 bytes has behind P: the last ones of P, and whatever came ahead. -/
def fitW (L P : List UInt8) : Prop := L.length = 64 ∧ ∃ X : List UInt8, 64 ≤ X.length ∧ L = (X ++ P).drop ((X ++ P).length - 64)
theorem fitW_new : fitW (List.replicate 64 0) [] := ⟨by simp, List.replicate 64 0, by simp, by simp⟩
theorem fitW_nil {L P : List UInt8} (h : fitW L P) : fitW L [] := by
  obtain ⟨h1, X, h2, h3⟩ := h
  exact ⟨h1, X ++ P, by simp; omega, by simpa using h3⟩
theorem fitW_slide {L P : List UInt8} (h : fitW L P) (x : UInt8) : fitW (slide L x) (P ++ [x]) := by
  obtain ⟨h1, X, h2, h3⟩ := h
  refine ⟨by rw [slide_length _ _ (by omega)]; exact h1, X, h2, ?_⟩
  have e : ∀ Y : List UInt8, 64 ≤ Y.length → (Y.drop (Y.length - 64)).tail ++ [x] = (Y ++ [x]).drop ((Y ++ [x]).length - 64) := by
    intro Y hY
    rw [List.tail_drop, List.length_append, List.length_singleton, List.drop_append_of_le_length (by omega)]
    congr 2
    omega
  unfold slide
  rw [h3, e _ (by simp; omega), List.append_assoc]
theorem fitW_whole {L P : List UInt8} (h : fitW L P) (hp : 64 ≤ P.length) : L = P.drop (P.length - 64) := by
  obtain ⟨h1, X, h2, h3⟩ := h
  rw [h3, List.length_append, List.drop_append, List.drop_of_length_le (by omega), List.nil_append]
  congr 1
  omega
theorem stop_of_window (r : Rl) (hr : r.ok) {L P : List UInt8} (h : fitW L P) : (decide (r.most ≤ P.length) || (decide (r.least ≤ P.length) && r.hit (ofW r.poly L))) = r.stop P := by
  unfold Rl.stop
  by_cases hp : r.least ≤ P.length
  · rw [fitW_whole h (by have := hr.h1; omega)]
  · simp [hp]
end Go.Proofs.YtaohbpmefcdipaaDoor.Ct
