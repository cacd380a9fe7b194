/- Rows of nodes of one's own; a slice of one node; append. -/
import Derived.Test.YtjgmhaajcglpmaaNe
namespace Go.Proofs.Ytjgmhaajcglpmaa
open Go.RowKit

/-- The two types of nodes. -/
structure NT (t ts : TypeId) : Prop where
  und : Try.prog.underlying ts = some (.slice t)
  info : (Try.prog.info? t).map (fun i => (i.zero, i.size, i.bytes)) = some (some (.agg (zeroNd.cells (.slice none 0 0)).toArray), 39, 120)
  ne : t ≠ 24
theorem ntN : NT 33 27 := ⟨Try.underlying27, by kernel_rfl, by decide⟩
theorem ntR : NT 26 29 := ⟨Try.underlying29, by kernel_rfl, by decide⟩
theorem info_ids : (Try.prog.info? 24).map (fun i => (i.zero, i.size, i.bytes)) = some (some (.agg (bvals noughts).toArray), 32, 32) := by kernel_rfl
/-- What a slice points to is older than base, or holds names of blobs. -/
def safe (w : World) (base : Nat) (v : Value) : Prop := ∀ b o s n c, v = .slice (some ⟨b, o, s⟩) n c → n = 0 ∨ b < base ∨ ∃ cur fz, w.heap[b]? = some (.cells cur 24 fz)
theorem safe.below {w w' : World} {base : Nat} {v : Value} (h : safe w base v) (hb : Below w.heap.size w w') : safe w' base v := fun b o s n c e => by
  rcases h b o s n c e with h | h | ⟨cur, fz, h⟩
  · exact Or.inl h
  · exact Or.inr (Or.inl h)
  · exact Or.inr (Or.inr ⟨cur, fz, by rw [hb.block b (Array.getElem?_eq_some_iff.1 h).1]; exact h⟩)
theorem old_safe {w : World} {v : Value} {P : List (List UInt8)} (h : idsIn w v P) {base : Nat} (hb : w.heap.size ≤ base) : ∀ w', safe w' base v := fun w' b o s n c e => by
  obtain ⟨a, c', e', -, -, -, h32, h5⟩ := h
  rw [e] at e'
  injection e' with e1 e2 e3
  subst e1 e2
  by_cases h0 : P.length = 0
  · exact Or.inl h0
  · refine Or.inr (Or.inl ?_)
    have hl := idcells_length P h32
    rcases h5 with h5 | ⟨b', o', e4, h5⟩
    · rw [h5] at hl; simp at hl; omega
    · cases e4
      have := h5 0 (by omega)
      rw [List.getElem?_eq_getElem (by omega)] at this
      have := block_lt_of_cell this
      have : b < w.heap.size := this
      omega
theorem own_not {w : World} {base : Nat} {t : TypeId} {u : Value} {n : Nat} {cs : List Value} (hown : w.ownsRow base t 39 u n cs) (ht : t ≠ 24) {b : Nat} (hb : b < base ∨ ∃ cur fz, w.heap[b]? = some (.cells cur 24 fz)) : u.ownBlock ≠ some b := by
  intro e
  rcases hown.2 with ⟨rfl, h0⟩ | ⟨g, cap, cur, rfl, hba, hh, -⟩
  · cases e
  · cases e
    rcases hb with hb | ⟨cur', fz, hb⟩
    · have : g < base := hb
      omega
    · rw [hb] at hh
      cases hh
      exact ht rfl
theorem own_grown {w w' : World} {base n sz : Nat} {t : TypeId} {v : Value} {xs : List Value} (h : w.ownsRow base t sz v n xs) (hg : w.grownBy w' v.ownBlock) (hB : base ≤ w.heap.size) : Below base w w' :=
  (Below.refl base w).grown hg hB fun k hk => (h.lt k hk).1
theorem ids_grown {w w' : World} {base : Nat} {t : TypeId} {u v : Value} {n : Nat} {cs : List Value} {P : List (List UInt8)} (h : idsIn w v P) (hs : safe w base v) (hown : w.ownsRow base t 39 u n cs) (ht : t ≠ 24) (hg : w.grownBy w' u.ownBlock) :
    idsIn w' v P ∧ safe w' base v := by
  have key : ∀ b o s n c, v = .slice (some ⟨b, o, s⟩) n c → n ≠ 0 → b < w.heap.size → w'.heap[b]? = w.heap[b]? := fun b o s n c e hn hb =>
    hg.block b hb (fun e2 => own_not hown ht ((hs b o s n c e).resolve_left hn) e2.symm)
  refine ⟨?_, fun b o s n c e => ?_⟩
  · obtain ⟨a, c, e, h1, h2, h3, h4, h5⟩ := h
    refine ⟨a, c, e, h1, h2, h3, h4, ?_⟩
    rcases h5 with h5 | ⟨b, o, e2, h5⟩
    · exact Or.inl h5
    · refine Or.inr ⟨b, o, e2, fun j hj => ?_⟩
      have hc := h5 j hj
      rw [← hc]
      refine World.cell?_of_block (w := w) (key b o none _ _ (by rw [e, e2]) (fun h0 => by rw [List.eq_nil_of_length_eq_zero h0] at hj; simp [idcells] at hj) ?_)
      rw [List.getElem?_eq_getElem hj] at hc
      exact block_lt_of_cell hc
  · rcases hs b o s n c e with h | h | ⟨cur, fz, h⟩
    · exact Or.inl h
    · exact Or.inr (Or.inl h)
    · by_cases hn : n = 0
      · exact Or.inl hn
      · exact Or.inr (Or.inr ⟨cur, fz, by rw [key b o s n c e hn (Array.getElem?_eq_some_iff.1 h).1]; exact h⟩)
def qcells (Q : List (Nd × Value)) : List Value := Q.flatMap fun q => q.1.cells q.2
theorem qcells_length (Q : List (Nd × Value)) (h : ∀ q ∈ Q, q.1.tree.length = 32) : (qcells Q).length = Q.length * 39 := by
  induction Q with
  | nil => rfl
  | cons q Q ih =>
    rw [qcells, List.flatMap_cons, List.length_append, Nd.cells_length _ _ (h q (by simp)), List.length_cons]
    have := ih (fun m hm => h m (by simp [hm]))
    rw [qcells] at this
    omega
theorem qcells_get : ∀ (Q : List (Nd × Value)), (∀ q ∈ Q, q.1.tree.length = 32) → ∀ (n : Nat) (hn : n < Q.length) (j : Nat), j < 39 → (qcells Q)[n * 39 + j]? = (Q[n].1.cells Q[n].2)[j]?
  | [], _, n, hn, _, _ => absurd hn (Nat.not_lt_zero n)
  | q :: Q, h, n, hn, j, hj => by
    have hp := Nd.cells_length q.1 q.2 (h q (by simp))
    rw [qcells, List.flatMap_cons]
    cases n with
    | zero =>
      rw [List.getElem?_append_left (by omega)]
      simp
    | succ n =>
      rw [List.getElem?_append_right (by omega)]
      have := qcells_get Q (fun m hm => h m (by simp [hm])) n (by simpa using hn) j hj
      rw [qcells] at this
      rw [show (n + 1) * 39 + j - (q.1.cells q.2).length = n * 39 + j by omega]
      simpa using this
/-- A row of nodes of one's own. -/
def ownQ (w : World) (base : Nat) (t : TypeId) (v : Value) (Q : List (Nd × Value)) : Prop := w.ownsRow base t 39 v Q.length (qcells Q) ∧ ∀ q ∈ Q, q.1.Wf ∧ idsIn w q.2 q.1.parts ∧ safe w base q.2
def ownN (w : World) (base : Nat) (t : TypeId) (v : Value) (L : List Nd) : Prop := ∃ Q, Q.map Prod.fst = L ∧ ownQ w base t v Q
theorem ownN.nil (w : World) (base : Nat) (t : TypeId) : ownN w base t (.slice none 0 0) [] := ⟨[], rfl, World.ownsRow_nil _ _ _ _, fun q hq => absurd hq List.not_mem_nil⟩
theorem ownN.row {w : World} {base : Nat} {t : TypeId} {v : Value} {L : List Nd} (h : ownN w base t v L) : ∃ a c, v = .slice a L.length c ∧ L.length ≤ c ∧ c ≤ 9223372036854775807 ∧ (a = none → c = 0) ∧ rowN w a L := by
  obtain ⟨Q, rfl, h1, h2⟩ := h
  rcases h1.2 with ⟨rfl, h0⟩ | ⟨g, cap, cur, rfl, hba, hh, hn, hc, -⟩
  · have : Q = [] := List.eq_nil_of_length_eq_zero h0
    subst this
    exact ⟨none, 0, rfl, Nat.le_refl _, by decide, fun _ => rfl, Or.inl rfl⟩
  · refine ⟨some ⟨g, 0, none⟩, cap, by rw [List.length_map], by rw [List.length_map]; exact hn, by unfold maxLen at hc; omega, fun e => by (cases e), Or.inr ⟨g, 0, rfl, fun i hi => ?_⟩⟩
    rw [List.length_map] at hi
    have hq := List.getElem_mem hi
    obtain ⟨q1, q2, q3⟩ := h2 _ hq
    rw [List.getElem_map]
    refine ⟨q1, Q[i].2, q2, fun j u hu => ?_⟩
    have hl := Nd.cells_length Q[i].1 Q[i].2 q1.tree
    have hj := (List.getElem?_eq_some_iff.1 hu).1
    have e := qcells_get Q (fun q hq => (h2 q hq).1.tree) i hi j (by omega)
    have := World.ownsRow.cells h1 (g := g) rfl (i * 39 + j) u (e.trans hu)
    rw [Addr.add_lit, Nat.zero_add] at this
    rw [Nat.zero_add]
    exact this
theorem ownN.below {w w' : World} {base : Nat} {t : TypeId} {v : Value} {L : List Nd} (h : ownN w base t v L) (hb : Below w.heap.size w w') : ownN w' base t v L := by
  obtain ⟨Q, e, h1, h2⟩ := h
  have hg : w.grownBy w' none := ⟨hb.os, hb.tape, hb.output, hb.size, fun k hk _ => hb.block k hk⟩
  refine ⟨Q, e, World.ownsRow.kept h1 hg ?_, fun q hq => ?_⟩
  · cases v.ownBlock with
    | none => exact Or.inl rfl
    | some g => exact Or.inr (by simp)
  · obtain ⟨q1, q2, q3⟩ := h2 q hq
    exact ⟨q1, q2.below hb (Nat.le_refl _), q3.below hb⟩
theorem ownN.mem_len {w : World} {base : Nat} {t : TypeId} {v : Value} {L : List Nd} (h : ownN w base t v L) : ∃ Q, Q.map Prod.fst = L ∧ w.ownsRow base t 39 v L.length (qcells Q) := by
  obtain ⟨Q, rfl, h1, h2⟩ := h
  exact ⟨Q, rfl, by rw [List.length_map]; exact h1.1, by rw [List.length_map]; exact h1.2⟩
theorem fill_one (t ts : TypeId) (nt : NT t ts) (cs : List Value) (hc : cs.length = 39) (w : World) : (Instr.buildSlice ts 1 #[(0, .agg cs.toArray)]).run Try.prog w = .ok (.slice (some ⟨w.heap.size, 0, none⟩) 1 1) (w.alloc (.cells cs.toArray t)) := by
  obtain ⟨i0, hi, hz0, hz1, hz2⟩ := info_parts nt.info
  have hzl := zeroNd.cells_length (.slice none 0 0) rfl
  generalize zeroNd.cells (.slice none 0 0) = zs at *
  have h := Great.fill_whole (s := 39) (by decide) [.agg cs.toArray] ((Array.range (1 * 39)).map ((Value.agg zs.toArray).cells[· % (Value.agg zs.toArray).cells.size]!)) (fun v hv => by rw [List.mem_singleton.1 hv]; simp [Value.cells, hc]) (by simp)
  have e : (List.flatMap (fun v => v.cells.toList) [Value.agg cs.toArray]).toArray = cs.toArray := by simp [Value.cells]
  refine run_buildSlice w _ _ 1 _ _ i0 _ nt.und hi hz0 (by rw [hz1]; decide) (by rw [hz1]; decide) ?_
  rw [hz1]
  rw [e] at h
  exact h
section
variable {w : World} {ops : Array Oper} {rest : List Oper} {o : Oper} {a : Act} {K : Act → World → Prop} {Q : Exit → Act → World → Prop} {E : Prop}
theorem build_one (hw : Region.wanted o (yielded ops a.tmps) = true) (t ts : TypeId) (nt : NT t ts) (x : Operand) (ho : o.op = .buildSlice ts 1 #[(0, x)]) (cs : List Value) (hc : cs.length = 39) (hx : a.eval x = .agg cs.toArray)
    (h : wpList Try.prog ops Q rest (a.put o.dst (.slice (some ⟨w.heap.size, 0, none⟩) 1 1)) (w.alloc (.cells cs.toArray t))) : wpList Try.prog ops Q (o :: rest) a w :=
  BigFrame.wpList_want hw fun _ hK => by
    have e : (#[((0 : Nat), x)].map fun (i, x) => (i, a.eval x)) = #[(0, .agg cs.toArray)] := by simp [hx]
    unfold Oper.wp execOp
    simp only [ho, Sem.run_bind, e, fill_one t ts nt cs hc, Result.andThen_ok]
    exact hK _ _ h
/-- One node put behind. -/
theorem step_append_nd (hw : Region.wanted o (yielded ops a.tmps) = true) (t ts : TypeId) (nt : NT t ts) (s x : Operand) (ho : o.op = .call { callee := .builtin .append, args := #[s, x], argTypes := #[ts, ts] })
    (base : Nat) (v : Value) (L : List Nd) (hs : a.eval s = v) (hown : ownN w base t v L) (g c : Nat) (n : Nd) (pv : Value) (hx : a.eval x = .slice (some ⟨g, 0, none⟩) 1 c) (hb : blockIs w g (n.cells pv) t)
    (hwf : n.Wf) (hid : idsIn w pv n.parts) (hsf : safe w base pv) (hp1 : pv.oneCell' = true) (hn : L.length ≤ 1000000) (hbase : base ≤ w.heap.size)
    (h : ∀ v' w', Hid (ownN w' base t v' (L ++ [n])) → Hid (w.grownBy w' v.ownBlock) → Hid (Below base w w') → K (a.put o.dst v') w') : if Region.wanted o (yielded ops a.tmps) = true then Oper.wp Try.prog o a w K Q else E := by
  rw [if_pos hw]
  obtain ⟨i0, hi, hz0, hz1, hz2⟩ := info_parts nt.info
  obtain ⟨q, rfl, h1, h2⟩ := hown
  have hl := n.cells_length pv hwf.tree
  rw [List.length_map] at hn
  refine wp_append_own w s x ts ho base t i0 _ 39 120 nt.und hi hz0 hz1 hz2 (by simp [Value.cells, Nd.cells_length zeroNd (.slice none 0 0) rfl]) (by decide) v q.length (qcells q) hs h1 ⟨g, 0, none⟩ 1 c (n.cells pv) hx (by omega) (fun j u hj => ?_) (cells_one n pv hp1) (by unfold maxLen; omega) (by omega) hbase (fun v' w' r1 r2 _ => h v' w' (Lib.hid ?_) (Lib.hid r2) (Lib.hid (own_grown h1 r2 hbase)))
  · rw [Addr.add_lit, Nat.zero_add, hb.cell]
    exact hj
  · refine ⟨q ++ [(n, pv)], by simp, ?_, fun p hp => ?_⟩
    · rw [List.length_append, show qcells (q ++ [(n, pv)]) = qcells q ++ n.cells pv by simp [qcells]]
      exact r1
    · rcases List.mem_append.1 hp with hp | hp
      · obtain ⟨p1, p2, p3⟩ := h2 p hp
        exact ⟨p1, ids_grown p2 p3 h1 nt.ne r2⟩
      · rw [List.mem_singleton.1 hp]
        exact ⟨hwf, ids_grown hid hsf h1 nt.ne r2⟩
theorem append_nd (hw : Region.wanted o (yielded ops a.tmps) = true) (t ts : TypeId) (nt : NT t ts) (s x : Operand) (ho : o.op = .call { callee := .builtin .append, args := #[s, x], argTypes := #[ts, ts] })
    (base : Nat) (v : Value) (L : List Nd) (hs : a.eval s = v) (hown : ownN w base t v L) (g c : Nat) (n : Nd) (pv : Value) (hx : a.eval x = .slice (some ⟨g, 0, none⟩) 1 c) (hb : blockIs w g (n.cells pv) t)
    (hwf : n.Wf) (hid : idsIn w pv n.parts) (hsf : safe w base pv) (hp1 : pv.oneCell' = true) (hn : L.length ≤ 1000000) (hbase : base ≤ w.heap.size)
    (h : ∀ v' w', Hid (ownN w' base t v' (L ++ [n])) → Hid (w.grownBy w' v.ownBlock) → Hid (Below base w w') → wpList Try.prog ops Q rest (a.put o.dst v') w') : wpList Try.prog ops Q (o :: rest) a w :=
  wpList_step fun K hK => step_append_nd hw t ts nt s x ho base v L hs hown g c n pv hx hb hwf hid hsf hp1 hn hbase (fun v' w' h1 h2 h3 => hK _ _ (h v' w' h1 h2 h3))
/-- Names of blobs, copied into a row of one's own. -/
theorem step_append_ids (hw : Region.wanted o (yielded ops a.tmps) = true) (s x : Operand) (ho : o.op = .call { callee := .builtin .append, args := #[s, x], argTypes := #[22, 22] })
    (base : Nat) (v : Value) (P0 P : List (List UInt8)) (hs : a.eval s = v) (hown : w.ownsRow base 24 32 v P0.length (idcells P0)) (h0 : ∀ p ∈ P0, p.length = 32) (pv : Value) (hx : a.eval x = pv) (hid : idsIn w pv P) (hn : (P0.length + P.length) * 32 ≤ 140737488355328) (hbase : base ≤ w.heap.size)
    (h : ∀ v' w', Hid (w'.ownsRow base 24 32 v' (P0 ++ P).length (idcells (P0 ++ P))) → Hid (w.grownBy w' v.ownBlock) → Hid (Below base w w') → K (a.put o.dst v') w') : if Region.wanted o (yielded ops a.tmps) = true then Oper.wp Try.prog o a w K Q else E := by
  rw [if_pos hw]
  obtain ⟨i0, hi, hz0, hz1, hz2⟩ := info_parts info_ids
  obtain ⟨A, c, rfl, g1, g2, g3, g4, g5⟩ := hid
  have e1 : idcells (P0 ++ P) = idcells P0 ++ idcells P := by simp [idcells]
  have hl := idcells_length P g4
  cases A with
  | none =>
    obtain rfl : P = [] := by
      rcases g5 with h | ⟨b, o, e, -⟩
      · rw [h] at hl
        exact List.eq_nil_of_length_eq_zero (by simp at hl; omega)
      · cases e
    obtain rfl := g3 rfl
    have hrun := run_append_owned_none (P := Try.prog) (w := w) base 22 o.type 24 i0 32 Try.underlying22 hi v _ _ hown
    have hx' : a.eval x = .slice none 0 0 := hx
    unfold Oper.wp
    simp [execOp, ho, resolve, invoke, builtin, hs, hx', hrun, Result.andThen]
    exact h v w (Lib.hid (by rw [List.append_nil]; exact hown)) (Lib.hid (World.grownBy.refl w _)) (Lib.hid (Below.refl _ _))
  | some ad =>
    refine wp_append_own w s x 22 ho base 24 i0 _ 32 32 Try.underlying22 hi hz0 hz1 hz2 (by simp [Value.cells, bvals, noughts]) (by decide) v P0.length (idcells P0) hs hown ad P.length c (idcells P) hx (by omega) (fun j u hj => ?_) (fun u hu => ?_) (by unfold maxLen; omega) hn hbase (fun v' w' r1 r2 _ => h v' w' (Lib.hid ?_) (Lib.hid r2) (Lib.hid (own_grown hown r2 hbase)))
    · have hjn := (List.getElem?_eq_some_iff.1 hj).1
      rcases g5 with h | ⟨b, o', e, hc⟩
      · rw [h] at hjn; simp at hjn
      · cases e
        rw [Addr.add_lit, hc j hjn]
        exact hj
    · obtain ⟨p, -, hp⟩ := List.mem_flatMap.1 hu
      exact bvals_one p u hp
    · rw [e1, List.length_append]
      exact r1
end
/-- A row of names of blobs of one's own is a slice of them. -/
theorem own_ids {w : World} {base : Nat} {v : Value} {P : List (List UInt8)} (h : w.ownsRow base 24 32 v P.length (idcells P)) (h32 : ∀ p ∈ P, p.length = 32) (base' : Nat) : idsIn w v P ∧ safe w base' v ∧ v.oneCell' = true := by
  have hl := idcells_length P h32
  rcases h.2 with ⟨rfl, h0⟩ | ⟨g, cap, cur, rfl, hba, hh, hn, hc, hs, ht⟩
  · have : P = [] := List.eq_nil_of_length_eq_zero h0
    subst this
    exact ⟨⟨none, 0, rfl, Nat.le_refl _, by decide, fun _ => rfl, h32, Or.inl rfl⟩, fun b o s n c e => (by cases e), rfl⟩
  · refine ⟨⟨some ⟨g, 0, none⟩, cap, rfl, hn, by unfold maxLen at hc; omega, fun e => (by cases e), h32, Or.inr ⟨g, 0, rfl, fun j hj => ?_⟩⟩, fun b o s n c e => ?_, rfl⟩
    · rw [Nat.zero_add]
      exact World.ownsRow.cellAt h j (by omega)
    · cases e
      exact Or.inr (Or.inr ⟨_, _, hh⟩)
end Go.Proofs.Ytjgmhaajcglpmaa
