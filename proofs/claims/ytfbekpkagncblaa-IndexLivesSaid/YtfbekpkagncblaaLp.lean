/- Names in their order; which files live: in plain words. -/
import Derived.Test.YtfbekpkagncblaaLc
import Derived.Lib.Bytealg
namespace Go.Proofs.Ytfbekpkagncblaa
open Go.RowKit

theorem less_irr : ∀ x : List UInt8, Op.bytesLess x x = false
  | [] => rfl
  | a :: x => by
    rw [Op.bytesLess, less_irr x]
    simp
theorem cmp_less : ∀ a b : List UInt8, decide (Lib.compareBytes a b < 0) = Op.bytesLess a b
  | [], [] => rfl
  | [], _ :: _ => rfl
  | _ :: _, [] => rfl
  | a :: x, b :: y => by
    rw [Lib.compareBytes, Op.bytesLess]
    by_cases h : a < b
    · simp [h]
    · by_cases h2 : b < a
      · have : a ≠ b := fun e => by subst e; exact h h2
        simp [h, h2, this]
      · have e : a = b := UInt8.le_antisymm (UInt8.not_lt.1 h2) (UInt8.not_lt.1 h)
        rw [if_neg h, if_neg h2, cmp_less x y]
        simp [h, e]
theorem less_trans : ∀ x y z : List UInt8, Op.bytesLess x y = true → Op.bytesLess y z = true → Op.bytesLess x z = true
  | [], [], _, h, _ => by simp [Op.bytesLess] at h
  | [], _ :: _, [], _, h => by simp [Op.bytesLess] at h
  | [], _ :: _, _ :: _, _, _ => rfl
  | _ :: _, [], _, h, _ => by simp [Op.bytesLess] at h
  | _ :: _, _ :: _, [], _, h => by simp [Op.bytesLess] at h
  | a :: x, b :: y, c :: z, h, g => by
    simp only [Op.bytesLess, Bool.or_eq_true, Bool.and_eq_true, decide_eq_true_eq, beq_iff_eq] at h g ⊢
    rcases h with h | ⟨rfl, h⟩
    · rcases g with g | ⟨rfl, g⟩
      · exact Or.inl (UInt8.lt_trans h g)
      · exact Or.inl h
    · rcases g with g | ⟨rfl, g⟩
      · exact Or.inl g
      · exact Or.inr ⟨rfl, less_trans x y z h g⟩
theorem less_total : ∀ x y : List UInt8, x ≠ y → Op.bytesLess x y = false → Op.bytesLess y x = true
  | [], [], h, _ => absurd rfl h
  | [], _ :: _, _, h => by simp [Op.bytesLess] at h
  | _ :: _, [], _, _ => rfl
  | a :: x, b :: y, h, q => by
    simp only [Op.bytesLess, Bool.or_eq_false_iff, Bool.and_eq_false_iff, decide_eq_false_iff_not, beq_eq_false_iff_ne] at q
    simp only [Op.bytesLess, Bool.or_eq_true, Bool.and_eq_true, decide_eq_true_eq, beq_iff_eq]
    by_cases e : a = b
    · subst e
      refine Or.inr ⟨rfl, less_total x y (fun e => h (by rw [e])) ?_⟩
      rcases q.2 with q | q
      · exact absurd rfl q
      · exact q
    · refine Or.inl ?_
      have h1 : b ≤ a := UInt8.not_lt.1 q.1
      exact UInt8.lt_of_le_of_ne h1 (fun e2 => e e2.symm)
theorem less_asymm (x y : List UInt8) (h : Op.bytesLess x y = true) : Op.bytesLess y x = false := by
  cases q : Op.bytesLess y x with
  | false => rfl
  | true => have := less_trans x y x h q; rw [less_irr] at this; cases this
theorem less_ntrans (x y z : List UInt8) (h : Op.bytesLess x y = false) (g : Op.bytesLess y z = false) : Op.bytesLess x z = false := by
  cases q : Op.bytesLess x z with
  | false => rfl
  | true =>
    by_cases e : y = z
    · subst e; rw [h] at q; cases q
    · have h1 := less_total y z e g
      by_cases e2 : x = y
      · subst e2; rw [g] at q; cases q
      · have h2 := less_total x y e2 h
        have h3 := less_trans y x z h2 q
        rw [g] at h3; cases h3
def risen (L : List (List UInt8)) : Prop := L.Pairwise fun a b => Op.bytesLess a b = true
theorem risen_unique : ∀ L M : List (List UInt8), risen L → risen M → (∀ x, x ∈ L ↔ x ∈ M) → L = M
  | [], [], _, _, _ => rfl
  | [], m :: M, _, _, h => absurd ((h m).2 (by simp)) List.not_mem_nil
  | l :: L, [], _, _, h => absurd ((h l).1 (by simp)) List.not_mem_nil
  | l :: L, m :: M, hl, hm, h => by
    obtain ⟨l1, l2⟩ := List.pairwise_cons.1 hl
    obtain ⟨m1, m2⟩ := List.pairwise_cons.1 hm
    have e : l = m := by
      by_cases e : l = m
      · exact e
      · have a1 : l ∈ M := by
          rcases List.mem_cons.1 ((h l).1 (by simp)) with h | h
          · exact absurd h e
          · exact h
        have a2 : m ∈ L := by
          rcases List.mem_cons.1 ((h m).2 (by simp)) with h | h
          · exact absurd h.symm e
          · exact h
        have h1 := less_asymm _ _ (l1 m a2)
        rw [m1 l a1] at h1
        cases h1
    subst e
    refine congrArg _ (risen_unique L M l2 m2 fun x => ⟨fun hx => ?_, fun hx => ?_⟩)
    · rcases List.mem_cons.1 ((h x).1 (by simp [hx])) with rfl | h2
      · have := l1 x hx
        rw [less_irr] at this
        cases this
      · exact h2
    · rcases List.mem_cons.1 ((h x).2 (by simp [hx])) with rfl | h2
      · have := m1 x hx
        rw [less_irr] at this
        cases this
      · exact h2
/-- A file's name, and which others it replaces. -/
abbrev NmE := List UInt8 × List (List UInt8)
def goneL (E : List NmE) : List (List UInt8) := E.flatMap (·.2)
/-- Those that are answered: not gone, each once. -/
def alive (E : List NmE) (n : List UInt8) : Prop := n ∈ E.map Prod.fst ∧ n ∉ goneL E
end Go.Proofs.Ytfbekpkagncblaa
