/- The list that the law lays out: in plain words. -/
import Derived.Test.YtfbekpkagncblaaLq
namespace Go.Proofs.Ytfbekpkagncblaa
open Go.RowKit

theorem str_toList (l : List UInt8) : (str l).toList = l := by
  rw [ByteArray.toList_eq]; simp [str]
theorem str_eqb (a b : List UInt8) : ((str a).toList == (str b).toList) = decide (a = b) := by
  rw [str_toList, str_toList]
  by_cases h : a = b <;> simp [h]
theorem str_lessb (a b : List UInt8) : Op.bytesLess (str a).toList (str b).toList = Op.bytesLess a b := by rw [str_toList, str_toList]
theorem textsIn.cell {w : World} {a : Option Addr} {c : Nat} {L : List (List UInt8)} (h : textsIn w (.slice a L.length c) L) (j : Nat) (hj : j < L.length) : ∃ b o, a = some ⟨b, o, none⟩ ∧ w.cell? ⟨b, o + j, none⟩ = some (.string (str L[j])) := by
  obtain ⟨a', c', e, -, -, -, h5⟩ := h
  cases e
  obtain ⟨b, o, e, hc⟩ := h5.at j (by rw [txs_length]; exact hj)
  rw [txs_get L j hj] at hc
  exact ⟨b, o, e, hc⟩
theorem risen_put {W : List (List UInt8)} (h : risen W) {p : Nat} (nm : List UInt8) (h1 : ∀ q (hq : q < W.length), q < p → Op.bytesLess W[q] nm = true)
    (h2 : ∀ hp : p < W.length, Op.bytesLess W[p] nm = false ∧ W[p] ≠ nm) : risen ((W.take p ++ [nm]) ++ W.drop p) := by
  have hlt : ∀ a ∈ W.take p, Op.bytesLess a nm = true := fun a ha => by
    obtain ⟨q, hq, rfl⟩ := List.mem_iff_getElem.1 ha
    rw [List.length_take] at hq
    rw [List.getElem_take]
    exact h1 q (by omega) (by omega)
  have hgt : ∀ b ∈ W.drop p, Op.bytesLess nm b = true := fun b hb => by
    by_cases hp : p < W.length
    · obtain ⟨g1, g2⟩ := h2 hp
      have g3 := less_total _ _ g2 g1
      have hd : W.drop p = W[p] :: W.drop (p + 1) := by rw [← List.drop_eq_getElem_cons hp]
      have hs : risen (W.drop p) := h.sublist (List.drop_sublist p W)
      rw [hd] at hb hs
      rcases List.mem_cons.1 hb with rfl | hb
      · exact g3
      · exact less_trans _ _ _ g3 ((List.pairwise_cons.1 hs).1 b hb)
    · rw [List.drop_eq_nil_of_le (by omega)] at hb
      exact absurd hb List.not_mem_nil
  have hw : risen (W.take p ++ W.drop p) := by rw [List.take_append_drop]; exact h
  obtain ⟨w1, w2, w3⟩ := List.pairwise_append.1 hw
  refine List.pairwise_append.2 ⟨List.pairwise_append.2 ⟨w1, by simp, fun a ha b hb => ?_⟩, w2, fun a ha b hb => ?_⟩
  · rw [List.mem_singleton.1 hb]
    exact hlt a ha
  · rcases List.mem_append.1 ha with ha | ha
    · exact w3 a ha b hb
    · rw [List.mem_singleton.1 ha]
      exact hgt b hb
/-- The names laid out behind n files. -/
def WantI (E : List NmE) (n : Nat) (W : List (List UInt8)) : Prop := risen W ∧ (∀ x, x ∈ W ↔ (x ∈ (E.take n).map Prod.fst ∧ x ∉ goneL E)) ∧ W.length ≤ n
theorem WantI.start (E : List NmE) : WantI E 0 [] := ⟨List.Pairwise.nil, (fun x => by simp), Nat.le_refl _⟩
theorem WantI.skip {E : List NmE} {n : Nat} {W : List (List UInt8)} (h : WantI E n W) (hn : n < E.length) (hg : E[n].1 ∈ goneL E ∨ E[n].1 ∈ W) : WantI E (n + 1) W := by
  refine ⟨h.1, fun x => ?_, Nat.le_succ_of_le h.2.2⟩
  rw [h.2.1 x, names_take E n hn, List.mem_append, List.mem_singleton]
  refine ⟨fun q => ⟨Or.inl q.1, q.2⟩, fun q => ⟨?_, q.2⟩⟩
  rcases q.1 with q1 | rfl
  · exact q1
  · rcases hg with hg | hg
    · exact absurd hg q.2
    · exact ((h.2.1 _).1 hg).1
theorem WantI.put {E : List NmE} {n : Nat} {W : List (List UInt8)} (h : WantI E n W) (hn : n < E.length) (hg : E[n].1 ∉ goneL E) {p : Nat} (h1 : ∀ q (hq : q < W.length), q < p → Op.bytesLess W[q] E[n].1 = true)
    (h2 : ∀ hp : p < W.length, Op.bytesLess W[p] E[n].1 = false ∧ W[p] ≠ E[n].1) : WantI E (n + 1) ((W.take p ++ [E[n].1]) ++ W.drop p) := by
  refine ⟨risen_put h.1 _ h1 h2, fun x => ?_, ?_⟩
  · have e : x ∈ (W.take p ++ [E[n].1]) ++ W.drop p ↔ x ∈ W ∨ x = E[n].1 := by
      have e2 : x ∈ W ↔ x ∈ W.take p ∨ x ∈ W.drop p := by rw [← List.mem_append, List.take_append_drop]
      rw [e2, List.mem_append, List.mem_append, List.mem_singleton]
      exact ⟨fun q => by rcases q with (q | q) | q <;> simp [q], fun q => by rcases q with (q | q) | q <;> simp [q]⟩
    rw [e, h.2.1 x, names_take E n hn, List.mem_append, List.mem_singleton]
    refine ⟨fun q => ?_, fun q => ?_⟩
    · rcases q with q | rfl
      · exact ⟨Or.inl q.1, q.2⟩
      · exact ⟨Or.inr rfl, hg⟩
    · rcases q.1 with q1 | q1
      · exact Or.inl ⟨q1, q.2⟩
      · exact Or.inr q1
  · have := h.2.2
    rw [List.length_append, List.length_append, List.length_take, List.length_drop]
    simp
    omega
theorem WantI.same {E : List NmE} {W L : List (List UInt8)} (h : WantI E E.length W) (hl : LivesIs E L) : L = W :=
  risen_unique L W hl.1 h.1 fun x => by
    rw [hl.2.1 x, h.2.1 x, List.take_length]
    exact Iff.rfl
end Go.Proofs.Ytfbekpkagncblaa
