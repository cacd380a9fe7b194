/- pack.Writer in memory: entries, what is its own, what stays. -/
import Derived.Test.YtfhlcondnaahiaaDoorPm
import Derived.Test.YtfhlcondnaahiaaDoorKpw
import Derived.Maps.AppendAt
import Derived.Great.BuildSlice
namespace Go.Proofs.YtfhlcondnaahiaaDoor
open Go.RowKit Sha

/-- What stays: all blocks but some. -/
structure Kp (f : Nat → Prop) (w w' : World) : Prop where
  os : w'.os = w.os
  tape : w'.tape = w.tape
  output : w'.output = w.output
  size : w.heap.size ≤ w'.heap.size
  block : ∀ k, k < w.heap.size → ¬ f k → w'.heap[k]? = w.heap[k]?
theorem Kp.refl (f : Nat → Prop) (w : World) : Kp f w w := ⟨rfl, rfl, rfl, Nat.le_refl _, fun _ _ _ => rfl⟩
theorem Kp.trans {f g : Nat → Prop} {x y z : World} (h : Kp f x y) (k : Kp g y z) (hg : ∀ i, g i → f i ∨ x.heap.size ≤ i) : Kp f x z :=
  ⟨k.os.trans h.os, k.tape.trans h.tape, k.output.trans h.output, Nat.le_trans h.size k.size, fun i hi hf => (k.block i (Nat.lt_of_lt_of_le hi h.size) fun q => (hg i q).elim hf fun q => absurd hi (by omega)).trans (h.block i hi hf)⟩
theorem Kp.but {f : Nat → Prop} {b : Nat} {w w' : World} (h : But b w w') (hf : f b ∨ w.heap.size ≤ b) : Kp f w w' :=
  ⟨h.os, h.tape, h.output, h.size, fun k hk hn => h.block k hk fun e => hf.elim (fun q => hn (e ▸ q)) fun q => by omega⟩
theorem Kp.below {f : Nat → Prop} {w w' : World} (h : Below w.heap.size w w') : Kp f w w' := ⟨h.os, h.tape, h.output, h.size, fun k hk _ => h.block k hk⟩
theorem Kp.grown {f : Nat → Prop} {w w' : World} {o : Option Nat} (h : w.grownBy w' o) (hf : ∀ k, o = some k → f k ∨ w.heap.size ≤ k) : Kp f w w' :=
  ⟨h.os, h.tape, h.output, h.size, fun k hk hn => h.block k hk fun e => (hf k (by first | exact e | exact e.symm)).elim hn fun q => by omega⟩
theorem Kp.mono {f g : Nat → Prop} {w w' : World} (h : Kp f w w') (hf : ∀ k, f k → g k ∨ w.heap.size ≤ k) : Kp g w w' :=
  ⟨h.os, h.tape, h.output, h.size, fun k hk hn => h.block k hk fun q => (hf k q).elim hn fun q => by omega⟩
theorem Kp.is {f : Nat → Prop} {w w' : World} (h : Kp f w w') {k : Nat} {cs : List Value} {t : TypeId} (hk : blockIs w k cs t) (hf : ¬ f k) : blockIs w' k cs t := by
  unfold blockIs
  rw [h.block k hk.lt hf]
  exact hk
theorem Kp.cell {f : Nat → Prop} {w w' : World} (h : Kp f w w') {p : Addr} {v : Value} (hp : w.cell? p = some v) (hf : ¬ f p.block) : w'.cell? p = some v := by
  rw [← hp]
  exact World.cell?_of_block (w := w) (h.block p.block (block_lt_of_cell hp) hf)
theorem Kp.low {f : Nat → Prop} {w w' : World} {B : Nat} (h : Kp f w w') (hf : ∀ k, f k → B ≤ k) (hs : B ≤ w.heap.size) : Below B w w' :=
  ⟨h.os, h.tape, h.output, h.size, fun k hk => h.block k (by omega) fun q => by have := hf k q; omega⟩
/-- A row of one's own lies in no block of another type, and in no map. -/
theorem row_type {w : World} {base sz n g : Nat} {e t : TypeId} {v : Value} {xs : List Value} {cs : Array Value} {z : Nat × Nat} (h : w.ownsRow base e sz v n xs) (hk : w.heap[g]? = some (.cells cs t z)) (hne : t ≠ e) : v.ownBlock ≠ some g := by
  rcases h.2 with ⟨rfl, h0⟩ | ⟨q, cap, cur, rfl, hba, hh, hn, hc, hs, ht⟩
  · intro q; cases q
  · intro q
    simp only [Value.ownBlock] at q
    cases q
    rw [hh] at hk
    injection hk with hk
    injection hk with _ h2 _
    exact hne h2.symm
theorem row_map {w : World} {base sz n g : Nat} {e : TypeId} {v : Value} {xs : List Value} {L : List (List UInt8)} (h : w.ownsRow base e sz v n xs) (hk : setIs w g L) : v.ownBlock ≠ some g := by
  rcases h.2 with ⟨rfl, h0⟩ | ⟨q, cap, cur, rfl, hba, hh, hn, hc, hs, ht⟩
  · intro q; cases q
  · intro q
    simp only [Value.ownBlock] at q
    cases q
    exact hk.ne_cells hh rfl
theorem row_kp {f : Nat → Prop} {w w' : World} {base sz n : Nat} {e : TypeId} {v : Value} {xs : List Value} (h : w.ownsRow base e sz v n xs) (k : Kp f w w') (hf : ∀ g, v.ownBlock = some g → ¬ f g) : w'.ownsRow base e sz v n xs := by
  rcases h.2 with ⟨rfl, h0⟩ | ⟨q, cap, cur, rfl, hba, hh, hr⟩
  · exact ⟨h.1, Or.inl ⟨rfl, h0⟩⟩
  · refine ⟨h.1, Or.inr ⟨q, cap, cur, rfl, hba, ?_, hr⟩⟩
    rw [k.block q (Array.getElem?_eq_some_iff.1 hh).1 (hf q rfl)]
    exact hh
theorem set_kp {f : Nat → Prop} {w w' : World} {g : Nat} {L : List (List UInt8)} (h : setIs w g L) (k : Kp f w w') (hf : ¬ f g) : setIs w' g L := h.of_block (k.block g h.lt hf)

/-- An entry: its name, its kind, where it is, how long it is. -/
structure En where
  id : List UInt8
  kind : Int
  off : Nat
  len : Nat
def En.cells (x : En) : List Value := byteCells x.id ++ [.int .i64 x.kind, .int .i64 (x.off : Int), .int .i64 (x.len : Int)]
def enCells (L : List En) : List Value := L.flatMap En.cells
abbrev En.ok (x : En) : Prop := x.id.length = 32
theorem En.len35 {x : En} (h : x.ok) : x.cells.length = 35 := by
  simp [En.cells, byteCells_length, h]
theorem enCells_append (L R : List En) : enCells (L ++ R) = enCells L ++ enCells R := by simp [enCells]
theorem En.one (x : En) : ∀ v ∈ x.cells, v.oneCell' = true := fun v hv => by
  rcases List.mem_append.1 hv with hv | hv
  · exact byteCells_one _ v hv
  · simp only [List.mem_cons, List.not_mem_nil, or_false] at hv
    rcases hv with rfl | rfl | rfl <;> rfl
theorem info_en : (Tryd.prog.info? 66).map (·.size) = some 35 := by kernel_rfl
theorem info_en3 : (Tryd.prog.info? 66).map (fun i => (i.zero, i.size, i.bytes)) = some (some (.agg (zeros 32 ++ [Value.int .i64 0, Value.int .i64 0, Value.int .i64 0]).toArray), 35, 56) := by kernel_rfl
theorem info_parts {t : TypeId} {z : Value} {s b : Nat} (h : (Tryd.prog.info? t).map (fun i => (i.zero, i.size, i.bytes)) = some (some z, s, b)) : ∃ i, Tryd.prog.info? t = some i ∧ i.zero = some z ∧ i.size = s ∧ i.bytes = b := by
  obtain ⟨i, h1, h2⟩ := Option.map_eq_some_iff.1 h
  simp only [Prod.mk.injEq] at h2
  exact ⟨i, h1, h2.1, h2.2.1, h2.2.2⟩
theorem zeroEn_size : (Value.agg (zeros 32 ++ [Value.int .i64 0, Value.int .i64 0, Value.int .i64 0]).toArray).cells.size = 35 := by simp [Value.cells, zeros]
theorem fill_en (cs : List Value) (hc : cs.length = 35) (w : World) : (Instr.buildSlice 31 1 #[(0, .agg cs.toArray)]).run Tryd.prog w = .ok (.slice (some ⟨w.heap.size, 0, none⟩) 1 1) (w.alloc (.cells cs.toArray 66)) := by
  obtain ⟨i0, hi, hz0, hz1, hz2⟩ := info_parts info_en3
  generalize zeros 32 ++ [Value.int .i64 0, Value.int .i64 0, Value.int .i64 0] = zs at *
  have h := Great.fill_whole (s := 35) (by decide) [.agg cs.toArray] ((Array.range (1 * 35)).map ((Value.agg zs.toArray).cells[· % (Value.agg zs.toArray).cells.size]!)) (fun v hv => by rw [List.mem_singleton.1 hv]; simp [Value.cells, hc]) (by simp)
  have e : (List.flatMap (fun v => v.cells.toList) [Value.agg cs.toArray]).toArray = cs.toArray := by simp [Value.cells]
  refine run_buildSlice w _ _ 1 _ _ i0 _ Tryd.underlying31 hi hz0 (by rw [hz1]; decide) (by rw [hz1]; decide) ?_
  rw [hz1]
  rw [e] at h
  exact h
theorem splice_set {α : Type} (cur : List α) (off : Nat) (v : α) (h : off < cur.length) : splice cur off [v] = cur.set off v := by
  rw [List.set_eq_take_append_cons_drop, if_pos h]
  simp [splice]
theorem run_storeVar_cell {P : Program} (w : World) (g off : Nat) (ty : TypeId) (cur : List Value) (v : Value) (t : TypeId) (hg : blockIs w g cur t) (hi : (P.info? ty).map (·.size) = some 1) (hfit : off < cur.length) (hv : v.cells = #[v]) (h1 : v.oneCell' = true) :
    (storeVar ty ⟨g, off, none⟩ v).run P w = .ok () (w.setRow g (splice cur off [v]).toArray) := by
  have := run_storeCells_at P g off t [v] 0 cur.toArray w hg (by simp; omega) (by simpa using h1)
  cases hq : P.info? ty with
  | none => simp [hq] at hi
  | some i =>
    have hs : i.size = 1 := by simpa [hq] using hi
    simp [storeVar, sizeOf, typeInfo, hq, hv, hs, this, splice]
/-- A value of one cell, stored into a block that is known whole. -/
theorem wpList_store_cell {P : Program} {ops : Array Oper} {rest : List Oper} {o : Oper} {a : Act} {w : World} {Q : Exit → Act → World → Prop} (hgd : o.guard = none) (ty : TypeId) (x y : Operand) (ho : o.op = .store ty x y)
    (g off : Nat) (v : Value) (hx : a.eval x = .pointer (some ⟨g, off, none⟩)) (hy : a.eval y = v) (cur : List Value) (t : TypeId) (hg : blockIs w g cur t)
    (hi : (P.info? ty).map (·.size) = some 1) (hfit : off < cur.length) (hv : v.cells = #[v]) (h1 : v.oneCell' = true)
    (h : ∀ w', Hid (blockIs w' g (cur.set off v) t) → Hid (But g w w') → Hid (w'.heap.size = w.heap.size) → wpList P ops Q rest (a.put o.dst undef) w') : wpList P ops Q (o :: rest) a w := by
  refine wpList_plain hgd fun K hK => ?_
  unfold Oper.wp execOp
  simp only [ho, hx, hy, Instr.storeAt, Instr.sureAddr, Sem.run_bind, Sem.run_pure, Result.andThen_ok, run_storeVar_cell w g off ty cur v t hg hi hfit hv h1]
  exact hK _ _ (h _ (by rw [← splice_set _ _ _ hfit]; show _ = _; simpa using setRow_heap w g _ _ t _ hg) ⟨rfl, rfl, rfl, by simp [World.setRow], fun k _ hk => setRow_other w g k _ hk⟩ (by
      show (w.setRow g _).heap.size = _
      simp))
theorem step_store_cell {P : Program} {ops : Array Oper} {o : Oper} {a : Act} {w : World} {K : Act → World → Prop} {Q : Exit → Act → World → Prop} {E : Prop} (hgd : o.guard = none) (ty : TypeId) (x y : Operand) (ho : o.op = .store ty x y)
    (g off : Nat) (v : Value) (hx : a.eval x = .pointer (some ⟨g, off, none⟩)) (hy : a.eval y = v) (cur : List Value) (t : TypeId) (hg : blockIs w g cur t)
    (hi : (P.info? ty).map (·.size) = some 1) (hfit : off < cur.length) (hv : v.cells = #[v]) (h1 : v.oneCell' = true)
    (h : ∀ w', Hid (blockIs w' g (cur.set off v) t) → Hid (But g w w') → Hid (w'.heap.size = w.heap.size) → K (a.put o.dst undef) w') :
    if Region.wanted o (yielded ops a.tmps) = true then Oper.wp P o a w K Q else E := by
  have hw : Region.wanted o (yielded ops a.tmps) = true := by simp [Region.wanted, hgd]
  rw [if_pos hw]
  unfold Oper.wp execOp
  simp only [ho, hx, hy, Instr.storeAt, Instr.sureAddr, Sem.run_bind, Sem.run_pure, Result.andThen_ok, run_storeVar_cell w g off ty cur v t hg hi hfit hv h1]
  exact h _ (by rw [← splice_set _ _ _ hfit]; show _ = _; simpa using setRow_heap w g _ _ t _ hg) ⟨rfl, rfl, rfl, by simp [World.setRow], fun k _ hk => setRow_other w g k _ hk⟩ (by
      show (w.setRow g _).heap.size = _
      simp)
/-- The three fields of a writer behind its pen. -/
theorem set97 {PC : List Value} (h : PC.length = 97) (a b c z : Value) : (PC ++ [a, b, c]).set 97 z = PC ++ [z, b, c] := by
  rw [List.set_append_right _ _ (by omega)]; simp [h]
theorem set98 {PC : List Value} (h : PC.length = 97) (a b c z : Value) : (PC ++ [a, b, c]).set 98 z = PC ++ [a, z, c] := by
  rw [List.set_append_right _ _ (by omega)]; simp [h]
theorem set99 {PC : List Value} (h : PC.length = 97) (a b c z : Value) : (PC ++ [a, b, c]).set 99 z = PC ++ [a, b, z] := by
  rw [List.set_append_right _ _ (by omega)]; simp [h]
theorem get97 {X : World} {wb : Nat} {PC : List Value} {t : TypeId} (h : PC.length = 97) {a b c : Value} (hb : blockIs X wb (PC ++ [a, b, c]) t) : X.cell? ⟨wb, 97, none⟩ = some a := by
  rw [hb.cell, List.getElem?_append_right (by omega), h]; rfl
theorem get98 {X : World} {wb : Nat} {PC : List Value} {t : TypeId} (h : PC.length = 97) {a b c : Value} (hb : blockIs X wb (PC ++ [a, b, c]) t) : X.cell? ⟨wb, 98, none⟩ = some b := by
  rw [hb.cell, List.getElem?_append_right (by omega), h]; rfl
theorem get99 {X : World} {wb : Nat} {PC : List Value} {t : TypeId} (h : PC.length = 97) {a b c : Value} (hb : blockIs X wb (PC ++ [a, b, c]) t) : X.cell? ⟨wb, 99, none⟩ = some c := by
  rw [hb.cell, List.getElem?_append_right (by omega), h]; rfl
theorem info_sl8 : (Tryd.prog.info? 30).map (·.size) = some 1 := by kernel_rfl
theorem info_slE : (Tryd.prog.info? 31).map (·.size) = some 1 := by kernel_rfl
section
variable {w : World} {ops : Array Oper} {o : Oper} {a : Act} {K : Act → World → Prop} {Q : Exit → Act → World → Prop} {E : Prop}
theorem step_build_en (hw : Region.wanted o (yielded ops a.tmps) = true) (x : Operand) (ho : o.op = .buildSlice 31 1 #[(0, x)]) (cs : List Value) (hc : cs.length = 35) (hx : a.eval x = .agg cs.toArray)
    (h : K (a.put o.dst (.slice (some ⟨w.heap.size, 0, none⟩) 1 1)) (w.alloc (.cells cs.toArray 66))) : if Region.wanted o (yielded ops a.tmps) = true then Oper.wp Tryd.prog o a w K Q else E := by
  rw [if_pos hw]
  have e : (#[((0 : Nat), x)].map fun (i, x) => (i, a.eval x)) = #[(0, .agg cs.toArray)] := by simp [hx]
  unfold Oper.wp execOp
  simp only [ho, Sem.run_bind, e, fill_en cs hc, Result.andThen_ok]
  exact h
/-- One entry more, behind. -/
theorem step_append_en (hw : Region.wanted o (yielded ops a.tmps) = true) (s x : Operand) (ho : o.op = .call { callee := .builtin .append, args := #[s, x], argTypes := #[31, 31] })
    (base : Nat) (v : Value) (L : List En) (hs : a.eval s = v) (hown : w.ownsRow base 66 35 v L.length (enCells L)) (g c : Nat) (n : En) (hok : n.ok) (hx : a.eval x = .slice (some ⟨g, 0, none⟩) 1 c) (hb : blockIs w g n.cells 66)
    (hn : L.length ≤ 100000) (hbase : base ≤ w.heap.size)
    (h : ∀ v' w', Hid (w'.ownsRow base 66 35 v' (L ++ [n]).length (enCells (L ++ [n]))) → Hid (w.grownBy w' v.ownBlock) → Hid (v'.ownBlock = v.ownBlock ∨ v'.ownBlock = some w.heap.size) → K (a.put o.dst v') w') : if Region.wanted o (yielded ops a.tmps) = true then Oper.wp Tryd.prog o a w K Q else E := by
  rw [if_pos hw]
  obtain ⟨i0, hi, hz0, hz1, hz2⟩ := info_parts info_en3
  have hcell : ∀ j u, n.cells[j]? = some u → w.cell? ((⟨g, 0, none⟩ : Addr).add j) = some u := fun j u hj => by
    rw [Addr.add_lit, Nat.zero_add, hb.cell]
    exact hj
  obtain ⟨v', w', hr, h2, h3, h4, h5⟩ := run_append_own_at (P := Tryd.prog) w base 31 o.type 66 i0 _ 35 56 Tryd.underlying31 hi hz0 hz1 hz2 zeroEn_size (by decide) v L.length (enCells L) hown ⟨g, 0, none⟩ 1 c n.cells (by rw [En.len35 hok]) hcell n.one (by unfold maxLen; omega) (by omega) hbase
  unfold Oper.wp execOp
  simp only [ho, resolve, invoke, builtin, Sem.run_bind, Sem.run_pure, Result.andThen_ok, List.map_toArray, List.map_cons, List.map_nil, hs, hx, hr]
  refine h v' w' (Lib.hid ?_) (Lib.hid h3) (Lib.hid h5)
  rw [List.length_append, enCells_append, show enCells [n] = n.cells by simp [enCells]]
  exact h2
/-- A name more in a set. -/
theorem step_put (hw : Region.wanted o (yielded ops a.tmps) = true) (x y z : Operand) (hop : o.op = Op.mapUpdate 78 x y z) (g : Nat) (L : List (List UInt8)) (n : List UInt8)
    (hx : a.eval x = .map (some g)) (hy : a.eval y = keyV n) (hz : a.eval z = .agg #[]) (h : setIs w g L) (hn : n.length = 32) (hni : n ∉ L)
    (hK : ∀ w', Hid (setIs w' g (L ++ [n])) → Hid (But g w w') → K (a.put o.dst undef) w') : if Region.wanted o (yielded ops a.tmps) = true then Oper.wp Tryd.prog o a w K Q else E := by
  rw [if_pos hw]
  obtain ⟨es, clock, hrun, h2⟩ := run_put h n hn hni
  obtain ⟨o', hb⟩ : ∃ o', w.heap[g]? = some o' := by
    obtain ⟨es0, c0, h1, _⟩ := h
    exact ⟨_, h1⟩
  unfold Oper.wp
  simp [execOp, hop, hx, hy, hz, hrun, Result.andThen]
  exact hK _ (Lib.hid h2) (Lib.hid (but_setBlock hb))
end
end Go.Proofs.YtfhlcondnaahiaaDoor
