/- The contract of the document's division of lists. -/
import Derived.Test.YtfbihkfcpgkbmaaProd
import Derived.Laws.AppendOwnNone
namespace Go.Proofs.Ytfbihkfcpgkbmaa
open Go.RowKit

/-- Block g holds the lowest n bits of x in front, none of it frozen. -/
def bitRow (w : World) (g n x : Nat) : Prop := ∃ cur : Array Value, w.heap[g]? = some (.cells cur 4 (0, 0)) ∧ n ≤ cur.size ∧ ∀ j, j < n → cur[j]? = some (.bool (x.testBit j))
theorem bitRow.lt {w : World} {g n x : Nat} (h : bitRow w g n x) : g < w.heap.size := by
  obtain ⟨cur, h1, _⟩ := h
  exact (Array.getElem?_eq_some_iff.1 h1).1
theorem bitRow.cell {w : World} {g n x : Nat} (h : bitRow w g n x) (j : Nat) (hj : j < n) : w.cell? ⟨g, j, none⟩ = some (.bool (x.testBit j)) := by
  obtain ⟨cur, h1, _, h3⟩ := h
  rw [cell_of_row w g j _ 4 (0, 0) h1, h3 j hj]
theorem bitRow.free {w : World} {g n x : Nat} (h : bitRow w g n x) (j : Nat) : w.frozen? ⟨g, j, none⟩ = false := by
  obtain ⟨cur, h1, _⟩ := h
  exact frozen_of_row w g j _ 4 h1
theorem bitRow.below {B : Nat} {w w' : World} (hb : Below B w w') {g n x : Nat} (h : bitRow w g n x) (hB : g < B) : bitRow w' g n x := by
  obtain ⟨cur, h1, h2⟩ := h
  exact ⟨cur, by rw [hb.block g hB]; exact h1, h2⟩
theorem bitRow.set {w : World} {g n x : Nat} (h : bitRow w g n x) (j y : Nat) (v : Bool) (hv : v = y.testBit j) (ho : ∀ i, i ≠ j → x.testBit i = y.testBit i) : bitRow (w.setCell ⟨g, j, none⟩ (.bool v)) g n y := by
  obtain ⟨cur, h1, h2, h3⟩ := h
  refine ⟨cur.setIfInBounds j (.bool v), heap_setCell_same w g j _ 4 _ h1, by simpa using h2, fun i hi => ?_⟩
  rw [Array.getElem?_setIfInBounds]
  by_cases h : j = i
  · subst h
    rw [if_pos rfl, if_pos (by omega), hv]
  · rw [if_neg h, h3 i hi, ho i (fun e => h e.symm)]
theorem bitRow.other {w : World} {g n x : Nat} (h : bitRow w g n x) (a : Addr) (v : Value) (hb : g ≠ a.block) : bitRow (w.setCell a v) g n x := by
  obtain ⟨cur, h1, h2⟩ := h
  exact ⟨cur, by rw [heap_setCell_other w a g v hb]; exact h1, h2⟩
theorem bitRow.made (w : World) (n : Nat) : bitRow (w.alloc (.cells (noBits n) 4)) w.heap.size n 0 :=
  ⟨noBits n, heap_alloc_new w _, by simp [noBits, bitsOf], fun j hj => by simp [noBits, bitsOf, hj]⟩
theorem bitRow.bools {w : World} {g n x : Nat} (h : bitRow w g n x) : boolsIn w (some ⟨g, 0, none⟩) (bitsOf n x) :=
  Or.inr ⟨g, 0, rfl, fun j hj => by
    rw [bitsOf_length] at hj
    rw [Nat.zero_add, h.cell j hj, bitsOf_getD n x j hj]⟩
/-- A row of bits behind an address, in a block from base on; a row of none may lie nowhere. -/
def rowAt (w : World) (base : Nat) (a : Option Addr) (n x : Nat) : Prop := n = 0 ∨ ∃ g, a = some ⟨g, 0, none⟩ ∧ base ≤ g ∧ bitRow w g n x
theorem rowAt.of_own {w : World} {base : Nat} {v : Value} {n x : Nat} (h : w.ownsRow base 4 1 v n ((bitsOf n x).map Value.bool)) : ∃ a c, v = .slice a n c ∧ n ≤ c ∧ rowAt w base a n x := by
  rcases h.2 with ⟨rfl, h0⟩ | ⟨g, cap, cur, rfl, hb, hh, hn, hc, hs, ht⟩
  · subst h0
    exact ⟨none, 0, rfl, Nat.le_refl _, Or.inl rfl⟩
  · refine ⟨some ⟨g, 0, none⟩, cap, rfl, hn, Or.inr ⟨g, rfl, hb, cur, hh, by omega, fun j hj => ?_⟩⟩
    have h1 : (cur.toList.take (n * 1))[j]? = some (Value.bool (x.testBit j)) := by
      rw [ht]
      simp [bitsOf, hj]
    rw [List.getElem?_take] at h1
    rw [if_pos (by omega)] at h1
    simpa using h1
theorem rowAt.bools {w : World} {base : Nat} {a : Option Addr} {n x : Nat} (h : rowAt w base a n x) : boolsIn w a (bitsOf n x) := by
  rcases h with rfl | ⟨g, rfl, _, h⟩
  · exact Or.inl rfl
  · exact h.bools

/-- Bits are put behind nothing: a new row. -/
theorem append_bits {w : World} {ops : Array Oper} {rest : List Oper} {o : Oper} {a : Act} {Q : Exit → Act → World → Prop} (hgd : o.guard = none) (s x : Operand)
    (ho : o.op = .call { callee := .builtin .append, args := #[s, x], argTypes := #[48, 48] })
    (base : Nat) (v : Value) (hs : a.eval s = v) (hown : w.ownsRow base 4 1 v 0 []) (A : Option Addr) (n c X B : Nat) (hx : a.eval x = .slice A n c)
    (hz : n = 0 → A = none ∧ c = 0) (hb : boolsB w B A n X) (hn : n ≤ 1000000) (hbase : base ≤ w.heap.size)
    (h : ∀ v' w', w'.ownsRow base 4 1 v' n ((bitsOf n X).map Value.bool) → w.grownBy w' v.ownBlock → wpList Try.prog ops Q rest (a.put o.dst v') w') : wpList Try.prog ops Q (o :: rest) a w := by
  obtain ⟨i0, hi, hz0, hz1, hz2⟩ := info_parts info_bool
  by_cases h0 : n = 0
  · subst h0
    obtain ⟨rfl, rfl⟩ := hz rfl
    exact wpList_append_own_none hgd s x 48 ho base 4 i0 1 Try.underlying48 hi v 0 [] hs hown hx (h v w hown (World.grownBy.refl w _))
  · rcases hb with h1 | ⟨b, o', rfl, _, hc⟩
    · exact absurd h1 h0
    refine wpList_append_own w hgd s x 48 ho base 4 i0 (.bool false) 1 1 Try.underlying48 hi hz0 hz1 hz2 rfl (by decide) v 0 [] hs hown ⟨b, o', none⟩ n c ((bitsOf n X).map Value.bool) hx (by simp [bitsOf]) ?_ ?_ ?_ ?_ hbase ?_
    · intro j u hj
      have hjn : j < n := by
        have := (List.getElem?_eq_some_iff.1 hj).1
        simpa [bitsOf] using this
      rw [Addr.add_lit, hc j hjn, ← hj]
      simp [bitsOf, hjn]
    · intro u hu
      obtain ⟨q, _, rfl⟩ := List.mem_map.1 hu
      rfl
    · unfold maxLen; omega
    · omega
    · intro v' w' h1 h2 _
      rw [List.nil_append, Nat.zero_add] at h1
      exact h v' w' h1 h2
end Go.Proofs.Ytfbihkfcpgkbmaa
