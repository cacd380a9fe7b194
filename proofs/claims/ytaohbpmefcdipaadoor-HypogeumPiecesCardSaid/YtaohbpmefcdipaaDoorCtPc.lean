/- Bytes put into a row: which pieces stay; plain words. -/
import Derived.Test.YtaohbpmefcdipaaDoorCtFm
namespace Go.Proofs.YtaohbpmefcdipaaDoor.Ct
open Go.RowKit

theorem Rl.at_first (r : Rl) (b : List UInt8) (i : Nat) (hi : i < (r.sizes b).length) : (r.sizes b).getD i 0 = r.first (b.drop ((r.sizes b).take i).sum) := (r.sizes_at b i hi).2
/-- Ahead of what was put in the pieces are the same. -/
theorem Rl.ahead_take (r : Rl) (b c : List UInt8) (k : Nat) (hk : k ≤ b.length) (he : b.take k = c.take k) (hck : k ≤ c.length) : ∀ i, i ≤ (r.sizes c).length → ((r.sizes c).take i).sum ≤ k → ((r.sizes c).take i).sum < c.length → (r.sizes b).take i = (r.sizes c).take i ∧ i ≤ (r.sizes b).length := by
  intro i
  induction i with
  | zero => intro _ _ _; exact ⟨by simp, Nat.zero_le _⟩
  | succ i ih =>
    intro hi hs hc
    have hlt : i < (r.sizes c).length := hi
    have e1 := sum_take (r.sizes c) i hlt
    obtain ⟨hne, hf⟩ := r.sizes_at c i hlt
    have hpos := r.first_pos _ hne
    obtain ⟨ih1, ih2⟩ := ih (by omega) (by omega) (by omega)
    generalize hat : ((r.sizes c).take i).sum = a at *
    generalize hx : (r.sizes c).getD i 0 = x at *
    have hdrop : ∀ n, a + n ≤ k → (b.drop a).take n = (c.drop a).take n := fun n hn => by
      have h1 : ∀ l : List UInt8, (l.drop a).take n = ((l.take k).drop a).take n := fun l => by
        rw [List.drop_take, List.take_take, Nat.min_eq_left (by omega)]
      rw [h1 b, h1 c, he]
    have hfl : r.first (b.drop a) = x := by
      have := r.first_local (c.drop a) (b.drop a) (by rw [← hf, List.length_drop]; omega) (by rw [← hf]; exact (hdrop x (by omega)).symm) (by rw [← hf, List.length_drop]; omega)
      rw [this, hf]
    have hbne : b.drop a ≠ [] := by
      intro h
      have := congrArg List.length h
      rw [List.length_drop, List.length_nil] at this
      omega
    have hsum : ((r.sizes b).take i).sum = a := by rw [ih1, hat]
    have hd := r.sizes_drop b i
    rw [hsum, r.sizes_cons _ hbne, hfl] at hd
    have hib : i < (r.sizes b).length := by
      rcases Nat.lt_or_ge i (r.sizes b).length with h | h
      · exact h
      · rw [List.drop_of_length_le h] at hd
        cases hd
    have hbi : (r.sizes b)[i] = x := by
      rw [List.drop_eq_getElem_cons hib] at hd
      exact (List.cons.inj hd).1
    have hci : (r.sizes c)[i] = x := by rw [← hx]; simp [hlt]
    refine ⟨?_, hib⟩
    rw [List.take_succ_eq_append_getElem hib, List.take_succ_eq_append_getElem hlt, ih1, hbi, hci]
/-- The i-th piece. -/
def Rl.piece (r : Rl) (b : List UInt8) (i : Nat) : List UInt8 := (b.take (((r.sizes b).take i).sum + (r.sizes b).getD i 0)).drop ((r.sizes b).take i).sum
theorem Rl.ahead_piece (r : Rl) (b c : List UInt8) (k : Nat) (hk : k ≤ b.length) (he : b.take k = c.take k) (hck : k ≤ c.length) (i : Nat) (hi : i < (r.sizes c).length) (h1 : ((r.sizes c).take i).sum + (r.sizes c).getD i 0 ≤ k) (h2 : ((r.sizes c).take i).sum + (r.sizes c).getD i 0 < c.length) : i < (r.sizes b).length ∧ r.piece b i = r.piece c i := by
  have e1 := sum_take (r.sizes c) i hi
  obtain ⟨h3, h4⟩ := r.ahead_take b c k hk he hck (i + 1) hi (by omega) (by omega)
  have e2 := sum_take (r.sizes b) i h4
  have h5 : (r.sizes b).take i = (r.sizes c).take i := by
    have := congrArg (List.take i) h3
    rwa [List.take_take, List.take_take, Nat.min_eq_left (Nat.le_succ i)] at this
  refine ⟨h4, ?_⟩
  unfold Rl.piece
  rw [← e1, ← e2, h3, h5]
  have h6 : ((r.sizes c).take (i + 1)).sum ≤ k := by omega
  have h7 : ∀ l : List UInt8, l.take ((r.sizes c).take (i + 1)).sum = (l.take k).take ((r.sizes c).take (i + 1)).sum := fun l => by rw [List.take_take, Nat.min_eq_left h6]
  rw [h7 b, h7 c, he]
/-- Behind a place at which both rows have an end. -/
def Rl.metAt (r : Rl) (b c : List UInt8) (k p i : Nat) : Prop := ∃ j, j ≤ (r.sizes b).length ∧ ((r.sizes b).take j).sum + p = ((r.sizes c).take i).sum ∧ k + p ≤ ((r.sizes c).take i).sum
theorem Rl.met_drop (r : Rl) (b q : List UInt8) (k i j : Nat) (hk : k ≤ b.length) (h1 : ((r.sizes b).take j).sum + q.length = ((r.sizes (b.take k ++ q ++ b.drop k)).take i).sum) (h2 : k + q.length ≤ ((r.sizes (b.take k ++ q ++ b.drop k)).take i).sum) : (r.sizes (b.take k ++ q ++ b.drop k)).drop i = (r.sizes b).drop j ∧ (b.take k ++ q ++ b.drop k).drop ((r.sizes (b.take k ++ q ++ b.drop k)).take i).sum = b.drop ((r.sizes b).take j).sum := by
  have e : (b.take k ++ q ++ b.drop k).drop ((r.sizes (b.take k ++ q ++ b.drop k)).take i).sum = b.drop ((r.sizes b).take j).sum := by
    rw [← h1]
    have hl : (b.take k ++ q).length = k + q.length := by rw [List.length_append, List.length_take, Nat.min_eq_left hk]
    obtain ⟨d, hd⟩ : ∃ d, ((r.sizes b).take j).sum = k + d := ⟨((r.sizes b).take j).sum - k, by omega⟩
    rw [hd, show k + d + q.length = (b.take k ++ q).length + d by omega, ← List.drop_drop, List.drop_left, List.drop_drop]
  refine ⟨?_, e⟩
  rw [r.sizes_drop, r.sizes_drop, e]
theorem piece_of (b : List UInt8) (a x : Nat) : (b.take (a + x)).drop a = (b.drop a).take x := by
  rw [List.drop_take, Nat.add_sub_cancel_left]
theorem Rl.met_step (r : Rl) (b q : List UInt8) (k i : Nat) (hk : k ≤ b.length) (hi : i < (r.sizes (b.take k ++ q ++ b.drop k)).length) (h : r.metAt b (b.take k ++ q ++ b.drop k) k q.length i) : (∃ j, j < (r.sizes b).length ∧ r.piece b j = r.piece (b.take k ++ q ++ b.drop k) i) ∧ r.metAt b (b.take k ++ q ++ b.drop k) k q.length (i + 1) := by
  obtain ⟨j, hj, h1, h2⟩ := h
  obtain ⟨h3, h4⟩ := r.met_drop b q k i j hk h1 h2
  generalize b.take k ++ q ++ b.drop k = c at *
  have hjl : j < (r.sizes b).length := by
    rcases Nat.lt_or_ge j (r.sizes b).length with h | h
    · exact h
    · rw [List.drop_of_length_le h] at h3
      have := congrArg List.length h3
      rw [List.length_drop, List.length_nil] at this
      omega
  rw [List.drop_eq_getElem_cons hi, List.drop_eq_getElem_cons hjl] at h3
  have h5 := (List.cons.inj h3).1
  have g1 : (r.sizes c).getD i 0 = (r.sizes c)[i] := by simp [hi]
  have g2 : (r.sizes b).getD j 0 = (r.sizes b)[j] := by simp [hjl]
  have s1 := sum_take (r.sizes c) i hi
  have s2 := sum_take (r.sizes b) j hjl
  refine ⟨⟨j, hjl, ?_⟩, ⟨j + 1, hjl, ?_, ?_⟩⟩
  · unfold Rl.piece
    rw [piece_of, piece_of, h4, g1, g2, h5]
  · rw [s1, s2, g1, g2, h5]
    omega
  · rw [s1]
    omega
end Go.Proofs.YtaohbpmefcdipaaDoor.Ct
