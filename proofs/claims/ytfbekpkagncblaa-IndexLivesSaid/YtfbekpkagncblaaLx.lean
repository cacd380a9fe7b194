/- Slices of texts, resliced. -/
import Derived.Test.YtfbekpkagncblaaLw
namespace Go.Proofs.Ytfbekpkagncblaa
open Go.RowKit

set_option maxHeartbeats 1000000 in
theorem sl_take {w : World} {a : Option Addr} {c : Nat} {L : List (List UInt8)} (h : textsIn w (.slice a L.length c) L) (p : Nat) (hp : p ≤ L.length) :
    (∀ wx, (Instr.slice 22 (.slice a L.length c) none (some (.int .i64 (p : Int))) none).run Try.prog wx = .ok (.slice a p c) wx) ∧ textsIn w (.slice a p c) (L.take p) := by
  obtain ⟨a', c', e, h1, h2, h3, h4⟩ := h
  cases e
  have hl : (L.take p).length = p := by rw [List.length_take]; omega
  refine ⟨fun wx => ?_, a, c, by rw [hl], by omega, h2, h3, ?_⟩
  · have q1 : (p : Int) ≤ (c : Int) := by omega
    have q2 : 0 ≤ (p : Int) := by omega
    have q3 := Try.underlying22
    go_simp
  · have := valsIn.take h4 p
    rwa [show (txs L).take p = txs (L.take p) by simp [txs, List.map_take]] at this
set_option maxHeartbeats 1000000 in
theorem sl_drop {w : World} {a : Option Addr} {c : Nat} {L : List (List UInt8)} (h : textsIn w (.slice a L.length c) L) (p : Nat) (hp : p ≤ L.length) :
    ∃ v, (∀ wx, (Instr.slice 22 (.slice a L.length c) (some (.int .i64 (p : Int))) none none).run Try.prog wx = .ok v wx) ∧ textsIn w v (L.drop p) := by
  obtain ⟨a', c', e, h1, h2, h3, h4⟩ := h
  cases e
  have hl : (L.drop p).length = L.length - p := by rw [List.length_drop]
  refine ⟨.slice (if c = p then a else a.map (·.add p)) (L.length - p) (c - p), fun wx => ?_, _, c - p, by rw [hl], by omega, by omega, fun e => ?_, ?_⟩
  · have q1 : (p : Int) ≤ (L.length : Int) := by omega
    have q2 : 0 ≤ (p : Int) := by omega
    have q3 := Try.underlying22
    go_simp
  · split at e
    · omega
    · cases a with
      | none => have := h3 rfl; omega
      | some ad => simp at e
  · have e1 : (txs L).drop p = txs (L.drop p) := by simp [txs, List.map_drop]
    rw [← e1]
    by_cases hc : c = p
    · have : L.length = p := by omega
      left
      rw [List.drop_eq_nil_of_le (by rw [txs_length]; omega)]
    · rw [if_neg hc]
      exact valsIn.drop h4 p
theorem texts_one {w : World} {g : Nat} {n : List UInt8} (h : blockIs w g [.string (str n)] 9) : textsIn w (.slice (some ⟨g, 0, none⟩) 1 1) [n] := by
  refine ⟨some ⟨g, 0, none⟩, 1, rfl, Nat.le_refl _, by decide, (fun h => by cases h), Or.inr ⟨g, 0, rfl, fun j hj => ?_⟩⟩
  rw [Nat.zero_add, h.cell]
  rfl
end Go.Proofs.Ytfbekpkagncblaa
