/- The document's lists of coefficients: bits of a number as a list; the contracts of list, number and Deg. -/
import Derived.Test.YtaohbpmefcdipaaDoorCtMod
import Derived.ProofKit
import Derived.OpenShut
import Derived.Laws.OwnMore
import Derived.OwnWalk
namespace Go.Proofs.YtaohbpmefcdipaaDoor.Ct
open Go.RowKit

theorem U_bit (x : W) (n : Nat) : U (x >>> n) % 2 = if x.toNat.testBit n then 1 else 0 := by
  unfold U
  rw [BitVec.toNat_ushiftRight, Nat.shiftRight_eq_div_pow, Nat.testBit_eq_decide_div_mod_eq]
  have e : ((x.toNat / 2 ^ n : Nat) : Int) % 2 = ((x.toNat / 2 ^ n % 2 : Nat) : Int) := by omega
  rw [e]
  rcases Nat.mod_two_eq_zero_or_one (x.toNat / 2 ^ n) with h | h <;> rw [h] <;> rfl
/-- The lowest n bits. -/
def bitsOf (n x : Nat) : List Bool := (List.range n).map fun i => x.testBit i
theorem bitsOf_length (n x : Nat) : (bitsOf n x).length = n := by simp [bitsOf]
theorem bitsOf_getD (n x j : Nat) (h : j < n) : (bitsOf n x).getD j false = x.testBit j := by simp [bitsOf, h]
theorem bitsOf_succ (n x : Nat) : bitsOf (n + 1) x = bitsOf n x ++ [x.testBit n] := by simp [bitsOf, List.range_succ]
/-- A slice's cells hold these bools. -/
def boolsIn (w : World) (a : Option Addr) (l : List Bool) : Prop := l = [] ∨ ∃ b o, a = some ⟨b, o, none⟩ ∧ ∀ j, j < l.length → w.cell? ⟨b, o + j, none⟩ = some (.bool (l.getD j false))
theorem boolsIn.below {w w' : World} {a : Option Addr} {l : List Bool} (h : boolsIn w a l) {B : Nat} (hb : Below B w w') (hB : w.heap.size ≤ B) : boolsIn w' a l := by
  rcases h with h | ⟨bb, bo, h1, h3⟩
  · exact Or.inl h
  · exact Or.inr ⟨bb, bo, h1, fun j hj => (hb.cell (p := ⟨bb, bo + j, none⟩) (Nat.lt_of_lt_of_le (block_lt_of_cell (h3 j hj)) hB)).trans (h3 j hj)⟩
theorem boolsIn.of_own {w : World} {base : Nat} {e : TypeId} {v : Value} {n : Nat} {l : List Bool} (h : w.ownsRow base e 1 v n (l.map Value.bool)) :
    ∃ a c, v = .slice a l.length c ∧ l.length ≤ c ∧ c ≤ maxLen ∧ boolsIn w a l ∧ ∀ ad, a = some ad → base ≤ ad.block := by
  have hl : l.length = n := by simpa using h.1
  rcases h.2 with ⟨rfl, h0⟩ | ⟨g, cap, cur, rfl, hb, hh, hn, hc, hs, ht⟩
  · have : l = [] := List.eq_nil_of_length_eq_zero (by omega)
    subst this
    exact ⟨none, 0, rfl, by simp, by simp, Or.inl rfl, fun _ h => by cases h⟩
  · refine ⟨some ⟨g, 0, none⟩, cap, by rw [hl], by omega, hc, Or.inr ⟨g, 0, rfl, fun j hj => ?_⟩, fun _ h => by cases h; exact hb⟩
    rw [Nat.zero_add, h.cellAt j (by omega)]
    simp [hj]
/-- A list comes back in new memory. -/
def Bools (l : List Bool) (w : World) (e : Ending) (w' : World) : Prop := ∃ a c, e = .returned (.slice a l.length c) ∧ l.length ≤ c ∧ c ≤ maxLen ∧ boolsIn w' a l ∧ Below w.heap.size w w' ∧ (∀ ad, a = some ad → w.heap.size ≤ ad.block) ∧ (l.length = 0 → a = none ∧ c = 0)
theorem own_below {w wr w' : World} {v : Value} {base : Nat} {e : TypeId} {n : Nat} {xs : List Value} (h : Below base w wr) (hown : wr.ownsRow base e 1 v n xs) (hg : wr.grownBy w' v.ownBlock) (hB : base ≤ wr.heap.size) : Below base w w' :=
  h.grown hg hB fun k hk => (hown.lt k hk).1

theorem U_half (x : W) (k : Nat) : U (x >>> k) / 2 = U (x >>> (k + 1)) := by
  rw [← U_shr, ← U_shr, Int.pow_succ, ← Int.ediv_ediv_of_nonneg (by exact Int.pow_nonneg (by decide))]
theorem U_odd (x : W) (k : Nat) : (U (x >>> k) % 2 == 1) = x.toNat.testBit k := by
  rw [U_bit]
  cases x.toNat.testBit k <;> rfl
theorem len_pos (x : W) (k : Nat) : 0 < U (x >>> k) ↔ k < len x.toNat := by
  unfold U
  rw [BitVec.toNat_ushiftRight, Nat.shiftRight_eq_div_pow]
  have e : (0 < ((x.toNat / 2 ^ k : Nat) : Int)) ↔ 0 < x.toNat / 2 ^ k := by omega
  rw [e, Nat.div_pos_iff]
  unfold len
  by_cases h : x.toNat = 0
  · rw [if_pos h, h]
    have := Nat.two_pow_pos k
    omega
  · rw [if_neg h]
    constructor
    · intro h1
      have := (Nat.le_log2 h).2 h1.2
      omega
    · intro h1
      exact ⟨Nat.two_pow_pos k, (Nat.le_log2 h).1 (by omega)⟩

theorem info_bool : (Tryd.prog.info? 4).map (fun i => (i.zero, i.size, i.bytes)) = some (some (.bool false), 1, 1) := by kernel_rfl
theorem len_mono (x : W) (k : Nat) (h : k < len x.toNat) : len (U (x >>> (k + 1))).toNat < len (U (x >>> k)).toNat := by
  have h0 := (len_pos x k).2 h
  rw [Utn, Utn]
  have hn : (x >>> k).toNat ≠ 0 := fun e => by unfold U at h0; omega
  have hh : (x >>> (k + 1)).toNat = (x >>> k).toNat / 2 := by
    rw [BitVec.toNat_ushiftRight, BitVec.toNat_ushiftRight, Nat.shiftRight_eq_div_pow, Nat.shiftRight_eq_div_pow, Nat.pow_succ, Nat.div_div_eq_div_mul]
  rw [hh]
  unfold len
  rw [if_neg hn]
  split
  · omega
  · rename_i h2
    have : ((x >>> k).toNat / 2).log2 + 1 = (x >>> k).toNat.log2 := log_div _ 1 (by omega)
    omega
end Go.Proofs.YtaohbpmefcdipaaDoor.Ct
