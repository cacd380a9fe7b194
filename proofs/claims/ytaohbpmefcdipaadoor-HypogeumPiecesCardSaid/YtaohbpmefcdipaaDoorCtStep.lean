/- append as one step of a region that draws. -/
import Derived.Test.YtaohbpmefcdipaaDoorCtCuts
import Derived.Deep.RegionLaw
namespace Go.Proofs.YtaohbpmefcdipaaDoor.Ct
open Go.RowKit

theorem step_append_bytes {w : World} {ops : Array Oper} {o : Oper} {a : Act} {K : Act → World → Prop} {Q : Exit → Act → World → Prop} {E : Prop} (hgd : o.guard = none) (s x : Operand)
    (ho : o.op = .call { callee := .builtin .append, args := #[s, x], argTypes := #[22, 22] })
    (base : Nat) (v : Value) (xs : List UInt8) (hs : a.eval s = v) (hown : rowIs w base v xs) (A : Option Addr) (n c : Nat) (l : List UInt8) (hnl : n = l.length) (hx : a.eval x = .slice A n c)
    (hz : A = none → c = 0) (hb : bytesIn w A l) (hn : xs.length + l.length ≤ 1000000) (hbase : base ≤ w.heap.size)
    (h : ∀ v' w', rowIs w' base v' (xs ++ l) → w.grownBy w' v.ownBlock → K (a.put o.dst v') w') : if Region.wanted o (yielded ops a.tmps) = true then Oper.wp Tryd.prog o a w K Q else E := by
  have hw : Region.wanted o (yielded ops a.tmps) = true := by simp [Region.wanted, hgd]
  rw [if_pos hw]
  subst hnl
  obtain ⟨i0, hi, hz0, hz1, hz2⟩ := info_parts info_u8
  cases A with
  | none =>
    have hl : l = [] := by
      rcases hb with h0 | ⟨b, o', h1, _⟩
      · exact h0
      · cases h1
    subst hl
    obtain rfl := hz rfl
    have hrun := run_append_owned_none (P := Tryd.prog) (w := w) base 22 o.type 5 i0 1 Tryd.underlying22 hi v _ _ hown
    unfold Oper.wp
    simp [execOp, ho, resolve, invoke, builtin, hs, hx, hrun, Result.andThen]
    exact h v w (by simpa using hown) (World.grownBy.refl w _)
  | some ad =>
    refine wp_append_own w s x 22 ho base 5 i0 (.int .u8 0) 1 1 Tryd.underlying22 hi hz0 hz1 hz2 rfl (by decide) v _ _ hs hown ad l.length c (bvals l) hx (by simp [bvals]) ?_ ?_ ?_ ?_ hbase ?_
    · intro j u hj
      have hjn : j < l.length := by
        have := (List.getElem?_eq_some_iff.1 hj).1
        simpa [bvals] using this
      rcases hb with h0 | ⟨b, o', h1, hc⟩
      · rw [h0] at hjn; simp at hjn
      · cases h1
        rw [Addr.add_lit, hc j hjn, ← hj]
        simp [bvals, hjn]
    · intro u hu
      obtain ⟨q, _, rfl⟩ := List.mem_map.1 hu
      rfl
    · unfold maxLen; omega
    · omega
    · intro v' w' h1 h2 _
      refine h v' w' ?_ h2
      unfold rowIs
      rw [List.length_append, bvals_append]
      exact h1
/-- As append_vals; the operation may be guarded. -/
theorem append_vals_if {w : World} {ops : Array Oper} {rest : List Oper} {o : Oper} {a : Act} {Q : Exit → Act → World → Prop} (hw : Region.wanted o (yielded ops a.tmps) = true) (s x : Operand) (t e : TypeId)
    (ho : o.op = .call { callee := .builtin .append, args := #[s, x], argTypes := #[t, t] })
    (ht : Tryd.prog.underlying t = some (.slice e)) (z : Value) (bytes : Nat) (hi : (Tryd.prog.info? e).map (fun i => (i.zero, i.size, i.bytes)) = some (some z, 1, bytes)) (hz1 : z.cells.size = 1) (hby : bytes ≤ 1000)
    (base : Nat) (v : Value) (xs : List Value) (hs : a.eval s = v) (hown : rowV w base e v xs) (A : Option Addr) (n c : Nat) (l : List Value) (hnl : n = l.length) (hx : a.eval x = .slice A n c)
    (hz : A = none → c = 0) (hb : valsIn w A l) (hl1 : ∀ u ∈ l, u.oneCell' = true) (hn : xs.length + l.length ≤ 1000000) (hbase : base ≤ w.heap.size)
    (h : ∀ v' w', rowV w' base e v' (xs ++ l) → w.grownBy w' v.ownBlock → wpList Tryd.prog ops Q rest (a.put o.dst v') w') : wpList Tryd.prog ops Q (o :: rest) a w := by
  subst hnl
  obtain ⟨i0, hi, hz0, hz1', hz2⟩ := info_parts hi
  refine wpList_step fun K hK => ?_
  rw [if_pos hw]
  cases A with
  | none =>
    have hl : l = [] := by
      rcases hb with h0 | ⟨b, o', h1, _⟩
      · exact h0
      · cases h1
    subst hl
    obtain rfl := hz rfl
    have hrun := run_append_owned_none (P := Tryd.prog) (w := w) base t o.type e i0 1 ht hi v _ _ hown
    unfold Oper.wp
    simp [execOp, ho, resolve, invoke, builtin, hs, hx, hrun, Result.andThen]
    exact hK _ _ (h v w (by simpa using hown) (World.grownBy.refl w _))
  | some ad =>
    refine wp_append_own w s x t ho base e i0 z 1 bytes ht hi hz0 hz1' hz2 hz1 (by decide) v _ _ hs hown ad l.length c l hx (by simp) ?_ hl1 ?_ ?_ hbase ?_
    · intro j u hj
      have hjn : j < l.length := (List.getElem?_eq_some_iff.1 hj).1
      rcases hb with h0 | ⟨b, o', h1, hc⟩
      · rw [h0] at hjn; simp at hjn
      · cases h1
        rw [Addr.add_lit, hc j hjn, ← hj]
    · unfold maxLen; omega
    · have : (xs.length + l.length) * bytes ≤ 1000000 * 1000 := Nat.mul_le_mul hn hby
      omega
    · intro v' w' h1 h2 _
      refine hK _ _ (h v' w' ?_ h2)
      unfold rowV
      rw [List.length_append]
      exact h1
theorem rowV.past {w w' : World} {base : Nat} {e : TypeId} {v v0 : Value} {xs : List Value} (h : rowV w base e v xs) (hg : w.grownBy w' v0.ownBlock) (h0 : ∀ k, v0.ownBlock = some k → k < base) : rowV w' base e v xs := by
  rcases h.2 with ⟨rfl, h0⟩ | ⟨g', cap, cur, rfl, hba, hh, hn, hc, hs, ht⟩
  · exact ⟨h.1, Or.inl ⟨rfl, h0⟩⟩
  · refine ⟨h.1, Or.inr ⟨g', cap, cur, rfl, hba, ?_, hn, hc, hs, ht⟩⟩
    rw [hg.block g' (Array.getElem?_eq_some_iff.1 hh).1 (fun e => by have := h0 g' e.symm; omega)]
    exact hh
theorem rowV.of {w : World} {base : Nat} {e : TypeId} {a : Option Addr} {n c : Nat} {xs : List Value} (h : rowV w base e (.slice a n c) xs) : n = xs.length ∧ xs.length ≤ c ∧ valsIn w a xs ∧ (a = none → c = 0) := by
  obtain ⟨a', c', e1, h1, h2, h3⟩ := h.vals
  cases e1
  exact ⟨rfl, h1, h2, h3⟩
theorem rowV.own_lt {w : World} {base : Nat} {e : TypeId} {v : Value} {xs : List Value} (h : rowV w base e v xs) : ∀ k, v.ownBlock = some k → k < w.heap.size := fun k hk => (World.ownsRow.lt h k hk).2
theorem rowIs.grew {w w' : World} {base : Nat} {v : Value} {xs : List UInt8} (h : rowIs w base v xs) (hB : base ≤ w.heap.size) (hg : w.grownBy w' v.ownBlock) : Below base w w' :=
  own_below (Below.refl base w) h hg hB
theorem rowIs.empty (w : World) (base : Nat) (hb : base ≤ w.heap.size) : rowIs (w.alloc (.cells #[] 5 (0, 0))) base (.slice (some ⟨w.heap.size, 0, none⟩) 0 0) [] :=
  rowIs.lit w base [] #[] rfl 0 rfl hb (by simp)
theorem rowIs.mono {w : World} {base base' : Nat} {v : Value} {xs : List UInt8} (h : rowIs w base v xs) (hb : base' ≤ base) : rowIs w base' v xs := by
  rcases h.2 with ⟨rfl, h0⟩ | ⟨g', cap, cur, rfl, hba, hh, hn, hc, hs, ht⟩
  · exact ⟨h.1, Or.inl ⟨rfl, h0⟩⟩
  · exact ⟨h.1, Or.inr ⟨g', cap, cur, rfl, by omega, hh, hn, hc, hs, ht⟩⟩
end Go.Proofs.YtaohbpmefcdipaaDoor.Ct
