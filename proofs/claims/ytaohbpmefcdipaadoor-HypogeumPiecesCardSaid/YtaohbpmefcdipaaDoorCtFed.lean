/- What a knife is fed: plain words. -/
import Derived.Test.YtaohbpmefcdipaaDoorCtCuts
namespace Go.Proofs.YtaohbpmefcdipaaDoor.Ct
open Go.RowKit

/-- Behind p: the pieces that are whole now, and what is left. -/
def Rl.fed (r : Rl) : List UInt8 → List UInt8 → List (List UInt8) × List UInt8
  | p, [] => ([], p)
  | p, x :: b => if r.stop (p ++ [x]) then ((p ++ [x]) :: (Rl.fed r [] b).1, (Rl.fed r [] b).2) else Rl.fed r (p ++ [x]) b
theorem Rl.fed_append (r : Rl) (p a b : List UInt8) : r.fed p (a ++ b) = ((r.fed p a).1 ++ (r.fed (r.fed p a).2 b).1, (r.fed (r.fed p a).2 b).2) := by
  induction a generalizing p with
  | nil => rfl
  | cons x a ih =>
    rw [List.cons_append]
    by_cases h : r.stop (p ++ [x]) = true
    · simp [Rl.fed, h, ih]
    · have h : r.stop (p ++ [x]) = false := by simpa using h
      simp [Rl.fed, h, ih]
theorem Rl.fed_hit (r : Rl) (p b : List UInt8) (k : Nat) (hk : k < b.length) (hg : r.goes p b k) (hs : r.stop (p ++ b.take (k + 1)) = true) : r.fed p b = ((p ++ b.take (k + 1)) :: (r.fed [] (b.drop (k + 1))).1, (r.fed [] (b.drop (k + 1))).2) := by
  induction b generalizing p k with
  | nil => simp at hk
  | cons x b ih =>
    cases k with
    | zero =>
      have : r.stop (p ++ [x]) = true := by simpa using hs
      simp [Rl.fed, this]
    | succ k =>
      have h0 : r.stop (p ++ [x]) = false := by simpa using hg 0 (by omega)
      have := ih (p ++ [x]) k (by simpa using hk) (fun j hj => by simpa using hg (j + 1) (by omega)) (by simpa using hs)
      simp [Rl.fed, h0, this]
theorem Rl.fed_end (r : Rl) (p b : List UInt8) (hg : r.goes p b b.length) : r.fed p b = ([], p ++ b) := by
  induction b generalizing p with
  | nil => simp [Rl.fed]
  | cons x b ih =>
    have h0 : r.stop (p ++ [x]) = false := by simpa using hg 0 (by simp)
    have := ih (p ++ [x]) (fun j hj => by simpa using hg (j + 1) (by simpa using hj))
    simp [Rl.fed, h0, this]
/-- By what is reached. -/
theorem Rl.fed_reach (r : Rl) (p b : List UInt8) : ((r.reach p b).2 = true ∧ 0 < (r.reach p b).1 ∧ (r.reach p b).1 ≤ b.length ∧ r.fed p b = ((p ++ b.take (r.reach p b).1) :: (r.fed [] (b.drop (r.reach p b).1)).1, (r.fed [] (b.drop (r.reach p b).1)).2)) ∨ (r.reach p b = (b.length, false) ∧ r.fed p b = ([], p ++ b)) := by
  rcases r.reach_cases p b with ⟨k, hk, hg, hs, he⟩ | ⟨hg, he⟩
  · refine Or.inl ?_
    rw [he]
    exact ⟨rfl, Nat.succ_pos _, hk, r.fed_hit p b k hk hg hs⟩
  · exact Or.inr ⟨he, r.fed_end p b hg⟩
theorem Rl.fed_all (r : Rl) (p b : List UInt8) : (r.fed p b).1.flatten ++ (r.fed p b).2 = p ++ b := by
  induction b generalizing p with
  | nil => simp [Rl.fed]
  | cons x b ih =>
    by_cases h : r.stop (p ++ [x]) = true
    · simp [Rl.fed, h, ih]
    · have h : r.stop (p ++ [x]) = false := by simpa using h
      simp [Rl.fed, h, ih]
/-- A piece that becomes whole has bytes more than what was there. -/
theorem Rl.fed_longer (r : Rl) (p b s : List UInt8) (l : List (List UInt8)) (h : (r.fed p b).1 = s :: l) : p.length < s.length := by
  induction b generalizing p with
  | nil => simp [Rl.fed] at h
  | cons x b ih =>
    by_cases h0 : r.stop (p ++ [x]) = true
    · simp only [Rl.fed, h0, if_true] at h
      injection h with h1 h2
      rw [← h1]; simp
    · have h0 : r.stop (p ++ [x]) = false := by simpa using h0
      simp only [Rl.fed, h0, Bool.false_eq_true, if_false] at h
      have := ih _ h
      simp at this
      omega
theorem Rl.fed_pos (r : Rl) (p b : List UInt8) : ∀ s ∈ (r.fed p b).1, 1 ≤ s.length := by
  induction b generalizing p with
  | nil => simp [Rl.fed]
  | cons x b ih =>
    by_cases h : r.stop (p ++ [x]) = true
    · simp only [Rl.fed, h, if_true]
      intro s hs
      rcases List.mem_cons.1 hs with rfl | hs
      · simp
      · exact ih _ s hs
    · have h : r.stop (p ++ [x]) = false := by simpa using h
      simp only [Rl.fed, h, Bool.false_eq_true, if_false]
      exact ih _
/-- The pieces that are told, held against what is fed. -/
theorem Rl.sizes_fed (r : Rl) (b : List UInt8) : r.sizes b = (r.fed [] b).1.map List.length ++ if (r.fed [] b).2 = [] then [] else [(r.fed [] b).2.length] := by
  generalize hn : b.length = n
  induction n using Nat.strongRecOn generalizing b with
  | ind n ih =>
    by_cases h : b = []
    · subst h; simp [Rl.sizes_nil, Rl.fed]
    · rw [r.sizes_cons b h]
      rcases r.fed_reach [] b with ⟨h1, h2, h3, h4⟩ | ⟨h1, h2⟩
      · have e : r.first b = (r.reach [] b).1 := rfl
        rw [← e] at h2 h3 h4
        rw [h4, ih (b.drop (r.first b)).length (by rw [List.length_drop]; omega) _ rfl]
        simp only [List.nil_append, List.map_cons, List.cons_append, List.length_take]
        rw [Nat.min_eq_left h3]
      · have e : r.first b = b.length := by unfold Rl.first; rw [h1]
        rw [h2, e, List.drop_length, Rl.sizes_nil]
        simp [h]
end Go.Proofs.YtaohbpmefcdipaaDoor.Ct
