/- Blocks of bytes: plain laws of memory. -/
import Derived.Test.YtklbbeilbpcnoaaMem
import Derived.Laws.CopyOwn
import Derived.Deep.MidRow
import Derived.Deep.RegionLaw
import Derived.Lib.SmallJoins
import Derived.Lib.ConvBytes
import Derived.OwnWalk
namespace Go.Proofs.Ytklbbeilbpcnoaa
open Go.RowKit Sha

theorem getD_take {α : Type} (l : List α) (n j : Nat) (d : α) (h : j < n) : (l.take n).getD j d = l.getD j d := by
  simp [h]
/-- Bytes, as cells. -/
def byteCells (l : List UInt8) : List Value := l.map fun b => .int .u8 (V b)
theorem byteCells_length (l : List UInt8) : (byteCells l).length = l.length := by simp [byteCells]
theorem byteCells_get (l : List UInt8) (j : Nat) (h : j < l.length) : (byteCells l)[j]? = some (.int .u8 (V (l.getD j 0))) := by
  simp [byteCells, h]
theorem byteCells_one (l : List UInt8) : ∀ v ∈ byteCells l, v.oneCell' = true := by
  intro v hv
  obtain ⟨_, _, rfl⟩ := List.mem_map.1 hv
  rfl
/-- copy into the middle of a block that is known whole, from somewhere else. -/
theorem wpList_copy_but {P : Program} {w : World} {ops : Array Oper} {rest : List Oper} {o : Oper} {a : Act} {Q : Exit → Act → World → Prop} (hgd : o.guard = none) (d s : Operand) (dT sT : TypeId)
    (ho : o.op = .call { callee := .builtin .copy, args := #[d, s], argTypes := #[dT, sT] }) (elem : TypeId) (hu : P.underlying dT = some (.slice elem)) (hsz : (P.info? elem).map (·.size) = some 1)
    (dp sp : Option Addr) (dLen dCap sLen sCap : Nat) (hd : a.eval d = .slice dp dLen dCap) (hs : a.eval s = .slice sp sLen sCap)
    (g off : Nat) (cur : List Value) (t : TypeId) (hg : blockIs w g cur t) (cs : List Value) (hn : cs.length = Nat.min sLen dLen)
    (hpos : 0 < cs.length → dp = some ⟨g, off, none⟩ ∧ ∃ ad, sp = some ad ∧ ∀ j v, cs[j]? = some v → w.cell? (ad.add j) = some v)
    (hfit : off + cs.length ≤ cur.length) (h1 : ∀ v ∈ cs, v.oneCell' = true)
    (h : ∀ w', Hid (blockIs w' g (splice cur off cs) t) → Hid (But g w w') → Hid (w'.heap.size = w.heap.size) → wpList P ops Q rest (a.put o.dst (goInt cs.length)) w') :
    wpList P ops Q (o :: rest) a w := by
  by_cases h0 : cs.length = 0
  · obtain rfl : cs = [] := List.eq_nil_of_length_eq_zero h0
    refine wpList_copy_nothing hgd d s dT sT ho elem hu hsz dp sp dLen dCap sLen sCap hd hs (by simpa using hn.symm) ?_
    exact h w (by rw [show splice cur off [] = cur by simp [splice]]; exact hg) (But.refl _ _) rfl
  · obtain ⟨rfl, ad, rfl, hsrc⟩ := hpos (by omega)
    refine wpList_copy_own hgd d s dT sT ho elem hu hsz g off dLen dCap ad sLen sCap hd hs cur.toArray t hg cs hn hsrc (by simpa using hfit) h1 ?_
    refine h _ (show _ = _ by simpa [splice] using setRow_heap w g _ _ t _ hg) ⟨rfl, rfl, rfl, by simp [World.setRow], fun k _ hk => setRow_other w g k _ hk⟩ (by
      show (w.setRow g _).heap.size = _
      simp)
/-- A value of many cells, stored into a block that is known whole. -/
theorem run_storeVar_block {P : Program} (w : World) (g off : Nat) (ty : TypeId) (cur cs : List Value) (t : TypeId) (hg : blockIs w g cur t) (hi : (P.info? ty).map (·.size) = some cs.length) (hfit : off + cs.length ≤ cur.length) (h1 : ∀ v ∈ cs, v.oneCell' = true) :
    (storeVar ty ⟨g, off, none⟩ (.agg cs.toArray)).run P w = .ok () (w.setRow g (splice cur off cs).toArray) := by
  have := run_storeCells_at P g off t cs 0 cur.toArray w hg (by simpa using hfit) h1
  cases hq : P.info? ty with
  | none => simp [hq] at hi
  | some i =>
    have hs : cs.length = i.size := by simp [hq] at hi; omega
    simp [storeVar, sizeOf, typeInfo, hq, Value.cells, hs, this, splice]
theorem wpList_store_block {P : Program} {ops : Array Oper} {rest : List Oper} {o : Oper} {a : Act} {w : World} {Q : Exit → Act → World → Prop} (hgd : o.guard = none) (ty : TypeId) (x y : Operand) (ho : o.op = .store ty x y)
    (g off : Nat) (cs : List Value) (hx : a.eval x = .pointer (some ⟨g, off, none⟩)) (hy : a.eval y = .agg cs.toArray) (cur : List Value) (t : TypeId) (hg : blockIs w g cur t)
    (hi : (P.info? ty).map (·.size) = some cs.length) (hfit : off + cs.length ≤ cur.length) (h1 : ∀ v ∈ cs, v.oneCell' = true)
    (h : ∀ w', Hid (blockIs w' g (splice cur off cs) t) → Hid (But g w w') → Hid (w'.heap.size = w.heap.size) → wpList P ops Q rest (a.put o.dst undef) w') : wpList P ops Q (o :: rest) a w := by
  refine wpList_plain hgd fun K hK => ?_
  unfold Oper.wp execOp
  simp only [ho, hx, hy, Instr.storeAt, Instr.sureAddr, Sem.run_bind, Sem.run_pure, Result.andThen_ok, run_storeVar_block w g off ty cur cs t hg hi hfit h1]
  exact hK _ _ (h _ (show _ = _ by simpa using setRow_heap w g _ _ t _ hg) ⟨rfl, rfl, rfl, by simp [World.setRow], fun k _ hk => setRow_other w g k _ hk⟩ (by
      show (w.setRow g _).heap.size = _
      simp))
/-- A value of many cells, loaded out of a block that is known whole. -/
theorem rangeAt_block {w : World} {g : Nat} {p cs q : List Value} {t : TypeId} (hg : blockIs w g (p ++ (cs ++ q)) t) : w.rangeAt g p.length cs := by
  intro j v hj
  rw [hg.cell, get_mid _ _ _ _ (List.getElem?_eq_some_iff.1 hj).1]
  exact hj
theorem splice_all {α : Type} (x y : List α) (h : x.length = y.length) : splice x 0 y = y := by
  simp [splice, ← h]
/-- Bytes that lie somewhere. -/
def bytesIn (w : World) (a : Option Addr) (l : List UInt8) : Prop :=
  l = [] ∨ ∃ bb bo, a = some ⟨bb, bo, none⟩ ∧ ∀ j, j < l.length → w.cell? ⟨bb, bo + j, none⟩ = some (.int .u8 (V (l.getD j 0)))
theorem range_of {w : World} {g : Nat} {cs : List Value} {t : TypeId} (hg : blockIs w g cs t) : w.rangeAt g 0 cs := by
  intro j v hj
  rw [Nat.zero_add, hg.cell]
  exact hj
def zeros (n : Nat) : List Value := List.replicate n (.int .u8 0)
theorem splice_get (cells v : List Value) (off k : Nat) (hfit : off + v.length ≤ cells.length) : (splice cells off v)[k]? = if off ≤ k ∧ k < off + v.length then v[k - off]? else cells[k]? := by
  have h1 : (cells.take off).length = off := by rw [List.length_take]; omega
  unfold splice
  by_cases a : k < off
  · rw [if_neg (by omega), List.getElem?_append_left (by omega), List.getElem?_take, if_pos a]
  · rw [List.getElem?_append_right (by omega), h1]
    by_cases b : k - off < v.length
    · rw [if_pos (by omega), List.getElem?_append_left b]
    · rw [if_neg (by omega), List.getElem?_append_right (by omega), List.getElem?_drop]
      congr 1
      omega
theorem splice_keep {x y : List Value} {o : Nat} (h : o + y.length ≤ x.length) : (splice x o y).length = x.length := by
  simp only [splice, List.length_append, List.length_take, List.length_drop]
  omega
theorem wpList_build {P : Program} {ops : Array Oper} {rest : List Oper} {o : Oper} {a : Act} {w : World} {Q : Exit → Act → World → Prop} (hgd : o.guard = none) (ty : TypeId) (ps : Array (Nat × Operand)) (ho : o.op = .build ty ps)
    (qs : Array (Nat × Value)) (v : Value) (hrun : (Instr.build ty qs).run P w = .ok v w) (hq : (ps.toList.map fun p => (p.1, a.eval p.2)) = qs.toList) (h : wpList P ops Q rest (a.put o.dst v) w) : wpList P ops Q (o :: rest) a w := by
  refine wpList_plain hgd fun K hK => ?_
  have e : (ps.map fun (i, x) => (i, a.eval x)) = qs := by
    apply Array.toList_inj.1
    rw [Array.toList_map, ← hq]
  unfold Oper.wp execOp
  simp only [ho, Sem.run_bind, e, hrun, Result.andThen_ok, Sem.run_pure]
  exact hK _ _ h
theorem step_store_block {P : Program} {ops : Array Oper} {o : Oper} {a : Act} {w : World} {K : Act → World → Prop} {Q : Exit → Act → World → Prop} {E : Prop} (hgd : o.guard = none) (ty : TypeId) (x y : Operand) (ho : o.op = .store ty x y)
    (g off : Nat) (cs : List Value) (hx : a.eval x = .pointer (some ⟨g, off, none⟩)) (hy : a.eval y = .agg cs.toArray) (cur : List Value) (t : TypeId) (hg : blockIs w g cur t)
    (hi : (P.info? ty).map (·.size) = some cs.length) (hfit : off + cs.length ≤ cur.length) (h1 : ∀ v ∈ cs, v.oneCell' = true)
    (h : ∀ w', Hid (blockIs w' g (splice cur off cs) t) → Hid (But g w w') → Hid (w'.heap.size = w.heap.size) → K (a.put o.dst undef) w') :
    if Region.wanted o (yielded ops a.tmps) = true then Oper.wp P o a w K Q else E := by
  have hw : Region.wanted o (yielded ops a.tmps) = true := by simp [Region.wanted, hgd]
  rw [if_pos hw]
  unfold Oper.wp execOp
  simp only [ho, hx, hy, Instr.storeAt, Instr.sureAddr, Sem.run_bind, Sem.run_pure, Result.andThen_ok, run_storeVar_block w g off ty cur cs t hg hi hfit h1]
  exact h _ (show _ = _ by simpa using setRow_heap w g _ _ t _ hg) ⟨rfl, rfl, rfl, by simp [World.setRow], fun k _ hk => setRow_other w g k _ hk⟩ (by
    show (w.setRow g _).heap.size = _
    simp)
theorem wpList_load_mid_if {P : Program} {ops : Array Oper} {rest : List Oper} {op : Oper} {a : Act} {w : World} {Q : Exit → Act → World → Prop} (hw : Region.wanted op (yielded ops a.tmps) = true) (ty : TypeId) (x : Operand) (ho : op.op = .load ty x)
    (b o : Nat) (hx : a.eval x = .pointer (some ⟨b, o, none⟩)) (cs : List Value) (d : TypeDesc) (hc : w.rangeAt b o cs)
    (hu : P.underlying ty = some d) (hd : d.isRow = true) (hi : (P.info? ty).map (·.size) = some cs.length)
    (h : wpList P ops Q rest (a.put op.dst (.agg cs.toArray)) w) : wpList P ops Q (op :: rest) a w :=
  BigFrame.wpList_want hw fun _ hK => wp_load_mid ty x ho b o hx cs d hc hu hd hi (hK _ _ h)
theorem zeros_bytes (n : Nat) : zeros n = byteCells (List.replicate n 0) := by
  simp [zeros, byteCells]
  right
  rfl
theorem bytesIn.but {w w' : World} {g b o : Nat} {l : List UInt8} (h : bytesIn w (some ⟨b, o, none⟩) l) (hb : But g w w') (hn : b ≠ g) : bytesIn w' (some ⟨b, o, none⟩) l := by
  rcases h with h | ⟨bb, bo, he, h⟩
  · exact Or.inl h
  · cases he
    exact Or.inr ⟨b, o, rfl, fun j hj => hb.cell (h j hj) hn⟩
theorem below_drewN' {B : Nat} {a w : World} (h : Below B a w) (n : Nat) : Below B a (w.drewN n) := ⟨h.os, h.tape, h.output, h.size, h.block⟩
/-- Bytes as a string. -/
def str (l : List UInt8) : ByteArray := ⟨l.toArray⟩
theorem bytesIn.below {w w' : World} {a : Option Addr} {l : List UInt8} (h : bytesIn w a l) (hb : Below w.heap.size w w') : bytesIn w' a l := by
  rcases h with h | ⟨bb, bo, h1, h3⟩
  · exact Or.inl h
  · exact Or.inr ⟨bb, bo, h1, fun j hj => (hb.cell (p := ⟨bb, bo + j, none⟩) (block_lt_of_cell (h3 j hj))).trans (h3 j hj)⟩
theorem bytesIn.take {w : World} {a : Option Addr} {l : List UInt8} (h : bytesIn w a l) (n : Nat) : bytesIn w a (l.take n) := by
  rcases h with rfl | ⟨pb, po, h1, h2⟩
  · left; simp
  · right
    refine ⟨pb, po, h1, fun j hj => ?_⟩
    rw [List.length_take] at hj
    rw [h2 j (by omega), getD_take _ _ _ _ (by omega)]
theorem str_size (l : List UInt8) : (str l).size = l.length := by simp [str, ByteArray.size]
theorem alloc_below (w : World) (o : Obj) : Below w.heap.size w (w.alloc o) := (Below.refl _ _).alloc (Nat.le_refl _) _
theorem below_alloc' {W X : World} (h : Below W.heap.size W X) (o : Obj) : Below W.heap.size W (X.alloc o) := h.alloc h.size o
theorem below_drew' {W X : World} (h : Below W.heap.size W X) : Below W.heap.size W X.drew := below_drewN' h 1
theorem cut_in {w : World} {a : Option Addr} {l : List UInt8} (h : bytesIn w a l) (c i : Nat) (hc : l.length ≤ c) : bytesIn w (if c = i then a else a.map (fun x => x.add i)) (l.drop i) := by
  by_cases e : c = i
  · left
    rw [List.drop_eq_nil_iff]
    omega
  · rw [if_neg e]
    rcases h with h | ⟨bb, bo, rfl, h2⟩
    · exact Or.inl (by rw [h, List.drop_nil])
    · refine Or.inr ⟨bb, bo + i, by show some (Addr.add _ i) = _; rw [Addr.add_lit], fun j hj => ?_⟩
      rw [List.length_drop] at hj
      rw [show bo + i + j = bo + (i + j) by omega, h2 (i + j) (by omega)]
      simp [List.getD_eq_getElem?_getD, List.getElem?_drop]
end Go.Proofs.Ytklbbeilbpcnoaa
