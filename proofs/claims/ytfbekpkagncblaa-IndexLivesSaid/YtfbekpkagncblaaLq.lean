/- Lists of named files of one's own; lists of texts that came in. -/
import Derived.Test.YtfbekpkagncblaaLv
namespace Go.Proofs.Ytfbekpkagncblaa
open Go.RowKit

abbrev FlE := NmE × Value
def flD (Q : List FlE) : List LvE := Q.map fun q => (q.1.1, q.2)
theorem flD_length (Q : List FlE) : (flD Q).length = Q.length := by simp [flD]
/-- A list of files, and the lists of those that each replaces: all of one's own. -/
def flIn (base : Nat) (w : World) (v : Value) (Q : List FlE) : Prop := w.ownsRow base 29 3 v Q.length (lvCells (flD Q)) ∧ ∀ q ∈ Q, w.ownsRow base 9 1 q.2 q.1.2.length (txs q.1.2)
theorem flIn.nil (base : Nat) (w : World) : flIn base w (.slice none 0 0) [] := ⟨World.ownsRow_nil _ _ _ _, fun q hq => absurd hq List.not_mem_nil⟩
theorem flIn.below {base B : Nat} {w w' : World} {v : Value} {Q : List FlE} (h : flIn base w v Q) (hb : Below B w w') (hB : w.heap.size ≤ B) : flIn base w' v Q :=
  ⟨row_below h.1 hb hB, fun q hq => row_below (h.2 q hq) hb hB⟩
theorem flIn.drew {base : Nat} {w : World} {v : Value} {Q : List FlE} (h : flIn base w v Q) : flIn base w.drew v Q := ⟨h.1.drew, fun q hq => (h.2 q hq).drew⟩
theorem block_range {w : World} {b : Nat} {cs : List Value} {t : TypeId} (h : blockIs w b cs t) : w.rangeAt b 0 cs := by
  intro j v hj
  rw [Nat.zero_add, h.cell]
  exact hj
/-- None of its blocks is k. -/
def flOff (k : Nat) (v : Value) (Q : List FlE) : Prop := v.ownBlock ≠ some k ∧ ∀ q ∈ Q, q.2.ownBlock ≠ some k
theorem flIn.off {base : Nat} {w : World} {v : Value} {Q : List FlE} (h : flIn base w v Q) {k : Nat} (hk : w.heap.size ≤ k) : flOff k v Q :=
  ⟨fun e => by have := (h.1.lt k e).2; omega, fun q hq e => by have := ((h.2 q hq).lt k e).2; omega⟩
theorem row_setCell {w : World} {base n sz k j : Nat} {t : TypeId} {v u : Value} {xs : List Value} (h : w.ownsRow base t sz v n xs) (hk : v.ownBlock ≠ some k) : (w.setCell ⟨k, j, none⟩ u).ownsRow base t sz v n xs :=
  ownsRow_setCell_other h (a := ⟨k, j, none⟩) hk u
theorem flIn.set {base k j : Nat} {w : World} {v u : Value} {Q : List FlE} (h : flIn base w v Q) (ho : flOff k v Q) : flIn base (w.setCell ⟨k, j, none⟩ u) v Q :=
  ⟨row_setCell h.1 ho.1, fun q hq => row_setCell (h.2 q hq) (ho.2 q hq)⟩
theorem rows_apart {w : World} {b1 b2 n1 n2 s1 s2 : Nat} {t1 t2 : TypeId} {v1 v2 : Value} {x1 x2 : List Value} (h1 : w.ownsRow b1 t1 s1 v1 n1 x1) (h2 : w.ownsRow b2 t2 s2 v2 n2 x2) (ht : t1 ≠ t2) : v1.ownBlock = none ∨ v1.ownBlock ≠ v2.ownBlock := by
  rcases h1.2 with ⟨rfl, -⟩ | ⟨g, cap, cur, rfl, -, hh, -⟩
  · exact Or.inl rfl
  · refine Or.inr fun e => ?_
    rcases h2.2 with ⟨rfl, -⟩ | ⟨g2, cap2, cur2, rfl, -, hh2, -⟩
    · cases e
    · cases e
      rw [hh] at hh2
      cases hh2
      exact ht rfl
theorem flIn.grown {base : Nat} {w w' : World} {v v' : Value} {Q : List FlE} {q : FlE} (h : flIn base w v Q) (hq : w.ownsRow base 9 1 q.2 q.1.2.length (txs q.1.2))
    (h1 : w'.ownsRow base 29 3 v' (flD Q ++ [(q.1.1, q.2)]).length (lvCells (flD Q ++ [(q.1.1, q.2)]))) (hg : w.grownBy w' v.ownBlock) : flIn base w' v' (Q ++ [q]) := by
  refine ⟨?_, fun p hp => ?_⟩
  · have e : flD (Q ++ [q]) = flD Q ++ [(q.1.1, q.2)] := by simp [flD]
    rw [← flD_length, e]
    exact h1
  · have hr : w.ownsRow base 9 1 p.2 p.1.2.length (txs p.1.2) := by
      rcases List.mem_append.1 hp with hp | hp
      · exact h.2 p hp
      · rw [List.mem_singleton.1 hp]; exact hq
    exact hr.kept hg (rows_apart hr h.1 (by decide))
theorem lv_get : ∀ (D : List LvE) (i r : Nat) (h : i < D.length) (_ : r < 3), (lvCells D)[i * 3 + r]? = (nmCells D[i].1 D[i].2)[r]?
  | d :: D, 0, r, _, hr => by
    rw [lvCells, List.flatMap_cons, List.getElem?_append_left (by show 0 * 3 + r < 3; omega), Nat.zero_mul, Nat.zero_add]
    rfl
  | d :: D, i + 1, r, h, hr => by
    rw [lvCells, List.flatMap_cons, List.getElem?_append_right (by show 3 ≤ (i + 1) * 3 + r; omega), show (i + 1) * 3 + r - (nmCells d.1 d.2).length = i * 3 + r by show (i + 1) * 3 + r - 3 = _; omega]
    exact lv_get D i r (by simpa using h) hr
theorem row_range {w : World} {base g cap : Nat} {D : List LvE} (h : w.ownsRow base 29 3 (.slice (some ⟨g, 0, none⟩) D.length cap) D.length (lvCells D)) (i : Nat) (hi : i < D.length) : w.rangeAt g (i * 3) (nmCells D[i].1 D[i].2) := by
  intro j u hj
  have hj3 : j < 3 := (List.getElem?_eq_some_iff.1 hj).1
  rw [← lv_get D i j hi hj3] at hj
  rcases h.2 with ⟨e, -⟩ | ⟨g', cap', cur, e, hba, hh, hn, hc, hs, ht⟩
  · cases e
  · cases e
    rw [cell_of_row w g (i * 3 + j) cur 29 (0, 0) hh]
    have h1 : (cur.toList.take (D.length * 3))[i * 3 + j]? = (lvCells D)[i * 3 + j]? := by rw [ht]
    rw [List.getElem?_take_of_lt (by omega)] at h1
    rw [← Array.getElem?_toList, h1, hj]
/-- As Live wants them. -/
theorem flIn.nm {base : Nat} {w : World} {v : Value} {Q : List FlE} (h : flIn base w v Q) : ∃ a c, v = .slice a Q.length c ∧ Q.length ≤ c ∧ c ≤ 9223372036854775807 ∧ nmIn w a (Q.map Prod.fst) := by
  have h1 := h.1
  rcases h1.2 with ⟨rfl, h0⟩ | ⟨g, cap, cur, rfl, hba, hh, hn, hc, hs, ht⟩
  · obtain rfl : Q = [] := List.eq_nil_of_length_eq_zero h0
    exact ⟨none, 0, rfl, Nat.le_refl _, by decide, Or.inl rfl⟩
  · refine ⟨_, cap, rfl, hn, by unfold maxLen at hc; omega, Or.inr ⟨g, 0, rfl, fun i hi => ?_⟩⟩
    have hi' : i < Q.length := by simpa using hi
    have hid : i < (flD Q).length := by rw [flD_length]; exact hi'
    rw [← flD_length] at h1
    have hr := row_range h1 i hid
    refine ⟨Q[i].2, ?_, ?_⟩
    · have := own_texts (h.2 Q[i] (List.getElem_mem hi'))
      simpa using this
    · rw [Nat.zero_add]
      simpa [flD] using hr
theorem valsIn.take {w : World} {a : Option Addr} {xs : List Value} (h : valsIn w a xs) (k : Nat) : valsIn w a (xs.take k) := by
  rcases h with h | ⟨b, o, e, h⟩
  · subst h; exact Or.inl (by simp)
  · refine Or.inr ⟨b, o, e, fun j hj => ?_⟩
    rw [List.length_take] at hj
    rw [List.getElem?_take_of_lt (by omega)]
    exact h j (by omega)
/-- The files that the law makes of what came in. -/
def entsL (N : List (List UInt8)) (O : List (List (List UInt8))) : List NmE := (N.take 20).zipIdx.map fun p => (p.1, (O.getD p.2 []).take 10)
theorem entsL_length (N : List (List UInt8)) (O : List (List (List UInt8))) : (entsL N O).length = min 20 N.length := by simp [entsL]
theorem entsL_get (N : List (List UInt8)) (O : List (List (List UInt8))) (i : Nat) (h : i < (entsL N O).length) (hn : i < N.length) : (entsL N O)[i] = (N[i], (O.getD i []).take 10) := by
  simp [entsL]
theorem entsL_short (N : List (List UInt8)) (O : List (List (List UInt8))) : ∀ e ∈ entsL N O, e.2.length ≤ 10 := fun e he => by
  obtain ⟨p, -, rfl⟩ := List.mem_map.1 he
  show (List.take 10 _).length ≤ 10
  rw [List.length_take]
  omega
/-- Lists of texts. -/
def oldsIn (w : World) (v : Value) (O : List (List (List UInt8))) : Prop := ∃ a c, v = .slice a O.length c ∧ O.length ≤ c ∧ c ≤ 9223372036854775807 ∧ (O = [] ∨ ∃ b o, a = some ⟨b, o, none⟩ ∧ ∀ i (h : i < O.length), ∃ u, w.cell? ⟨b, o + i, none⟩ = some u ∧ textsIn w u O[i])
theorem build_nm1 (n : List UInt8) (w : World) : (Instr.build 29 #[(0, .string (str n))]).run Try.prog w = .ok (.agg (nmCells n (.slice none 0 0)).toArray) w := by kernel_rfl
section
variable {w : World} {ops : Array Oper} {rest : List Oper} {o : Oper} {a : Act} {K : Act → World → Prop} {Q : Exit → Act → World → Prop} {E : Prop}
theorem build_nml (hw : Region.wanted o (yielded ops a.tmps) = true) (x : Operand) (ho : o.op = .buildSlice 24 1 #[(0, x)]) (cs : List Value) (hc : cs.length = 3) (hx : a.eval x = .agg cs.toArray)
    (h : wpList Try.prog ops Q rest (a.put o.dst (.slice (some ⟨w.heap.size, 0, none⟩) 1 1)) (w.alloc (.cells cs.toArray 29))) : wpList Try.prog ops Q (o :: rest) a w :=
  wpList_step fun _ hK => step_build_nm hw x ho cs hc hx (hK _ _ h)
theorem append_nml (hw : Region.wanted o (yielded ops a.tmps) = true) (s x : Operand) (ho : o.op = .call { callee := .builtin .append, args := #[s, x], argTypes := #[24, 24] })
    (base : Nat) (v : Value) (Qs : List FlE) (hs : a.eval s = v) (hown : flIn base w v Qs) (g c : Nat) (q : FlE) (hx : a.eval x = .slice (some ⟨g, 0, none⟩) 1 c) (hb : blockIs w g (nmCells q.1.1 q.2) 29)
    (hr : w.ownsRow base 9 1 q.2 q.1.2.length (txs q.1.2)) (hn : Qs.length ≤ 1000000) (hbase : base ≤ w.heap.size)
    (h : ∀ v' w', Hid (flIn base w' v' (Qs ++ [q])) → Hid (Below base w w') → wpList Try.prog ops Q rest (a.put o.dst v') w') : wpList Try.prog ops Q (o :: rest) a w :=
  wpList_step fun _ hK => step_append_nm hw s x ho base v (flD Qs) hs (by rw [flD_length]; exact hown.1) g c q.1.1 q.2 (own_one hr) hx hb (by rw [flD_length]; exact hn) hbase (fun v' w' h1 h2 h3 => hK _ _ (h v' w' (Lib.hid (hown.grown hr h1.out h2.out)) h3))
/-- Texts, put behind a row of one's own, in a drawn region. -/
theorem step_append_txs (hw : Region.wanted o (yielded ops a.tmps) = true) (s x : Operand) (ho : o.op = .call { callee := .builtin .append, args := #[s, x], argTypes := #[22, 22] })
    (base : Nat) (v : Value) (P0 P : List (List UInt8)) (hs : a.eval s = v) (hown : w.ownsRow base 9 1 v P0.length (txs P0)) (pv : Value) (hx : a.eval x = pv) (hid : textsIn w pv P) (hn : P0.length + P.length ≤ 100000000) (hbase : base ≤ w.heap.size)
    (h : ∀ v' w', Hid (w'.ownsRow base 9 1 v' (P0 ++ P).length (txs (P0 ++ P))) → Hid (w.grownBy w' v.ownBlock) → Hid (Below base w w') → K (a.put o.dst v') w') : if Region.wanted o (yielded ops a.tmps) = true then Oper.wp Try.prog o a w K Q else E := by
  rw [if_pos hw]
  obtain ⟨i0, hi, hz0, hz1, hz2⟩ := info_parts info_str
  obtain ⟨A, c, rfl, g1, g2, g3, g5⟩ := hid
  have e1 : txs (P0 ++ P) = txs P0 ++ txs P := by simp [txs]
  cases A with
  | none =>
    obtain rfl : P = [] := by
      rcases g5 with h | ⟨b, o, e, -⟩
      · have := congrArg List.length h
        rw [txs_length] at this
        exact List.eq_nil_of_length_eq_zero this
      · cases e
    obtain rfl := g3 rfl
    have hrun := run_append_owned_none (P := Try.prog) (w := w) base 22 o.type 9 i0 1 Try.underlying22 hi v _ _ hown
    have hx' : a.eval x = .slice none 0 0 := hx
    unfold Oper.wp
    simp [execOp, ho, resolve, invoke, builtin, hs, hx', hrun, Result.andThen]
    exact h v w (Lib.hid (by rw [List.append_nil]; exact hown)) (Lib.hid (World.grownBy.refl w _)) (Lib.hid (Below.refl _ _))
  | some ad =>
    refine wp_append_own w s x 22 ho base 9 i0 _ 1 16 Try.underlying22 hi hz0 hz1 hz2 (by simp [Value.cells]) (by decide) v P0.length (txs P0) hs hown ad P.length c (txs P) hx (by rw [txs_length]; omega) (fun j u hj => ?_) (txs_one P) (by unfold maxLen; omega) (by omega) hbase (fun v' w' r1 r2 _ => h v' w' (Lib.hid ?_) (Lib.hid r2) (Lib.hid (own_grown hown r2 hbase)))
    · have hjn := (List.getElem?_eq_some_iff.1 hj).1
      rcases g5 with h | ⟨b, o', e, hc⟩
      · rw [h] at hjn; simp at hjn
      · cases e
        rw [Addr.add_lit, hc j hjn]
        exact hj
    · rw [e1, List.length_append]
      exact r1
end
end Go.Proofs.Ytfbekpkagncblaa
