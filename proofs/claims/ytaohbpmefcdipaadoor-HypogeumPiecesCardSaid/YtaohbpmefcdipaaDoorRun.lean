/- A sum under way, in memory: the register, 64 bytes, and how many bytes came. And copies into the middle of a block. -/
import Derived.Test.YtaohbpmefcdipaaDoorWork
import Derived.Test.YtaohbpmefcdipaaDoorLaws
import Derived.Laws.CopyOwn
import Derived.Deep.MidRow
namespace Go.Proofs.YtaohbpmefcdipaaDoor
open Go.RowKit Sha

/-- Bytes, as cells. -/
def byteCells (l : List UInt8) : List Value := l.map fun b => .int .u8 (V b)
theorem byteCells_length (l : List UInt8) : (byteCells l).length = l.length := by simp [byteCells]
theorem byteCells_get (l : List UInt8) (j : Nat) (h : j < l.length) : (byteCells l)[j]? = some (.int .u8 (V (l.getD j 0))) := by
  simp [byteCells, h]
theorem byteCells_one (l : List UInt8) : ∀ v ∈ byteCells l, v.oneCell' = true := by
  intro v hv
  obtain ⟨_, _, rfl⟩ := List.mem_map.1 hv
  rfl

/-- The cells of a sum under way. -/
def runCells (r : Reg) (s : List UInt8) (n : Nat) : List Value := regCells r ++ (byteCells s ++ [.int .i64 (n : Int)])
theorem regCells_length (r : Reg) : (regCells r).length = 8 := rfl
theorem runCells_length (r : Reg) (s : List UInt8) (n : Nat) (h : s.length = 64) : (runCells r s n).length = 73 := by
  simp [runCells, regCells_length, byteCells_length, h]

/-- Block b holds, from place pre.length on, a sum under way that took m. -/
def runIs (w : World) (b : Nat) (pre post : List Value) (T : TypeId) (m : List UInt8) : Prop :=
  ∃ s : List UInt8, s.length = 64 ∧ s.take (m.length % 64) = m.drop (m.length - m.length % 64) ∧ blockIs w b (pre ++ (runCells (regAfter m) s m.length ++ post)) T

theorem runIs.but {b g : Nat} {w w' : World} {pre post : List Value} {T : TypeId} {m : List UInt8} (h : runIs w b pre post T m) (hb : But g w w') (hg : b ≠ g) : runIs w' b pre post T m := by
  obtain ⟨s, h1, h2, h3⟩ := h
  exact ⟨s, h1, h2, hb.is h3 hg⟩
theorem runIs.alloc {b : Nat} {w : World} {pre post : List Value} {T : TypeId} {m : List UInt8} (h : runIs w b pre post T m) (o : Obj) : runIs (w.alloc o) b pre post T m := by
  obtain ⟨s, h1, h2, h3⟩ := h
  exact ⟨s, h1, h2, h3.alloc o⟩

/-- A slice's address: its bytes lie there, and not in block b. -/
def bytesAt (w : World) (b : Nat) (a : Option Addr) (l : List UInt8) : Prop :=
  l = [] ∨ ∃ bb bo, a = some ⟨bb, bo, none⟩ ∧ bb ≠ b ∧ ∀ j, j < l.length → w.cell? ⟨bb, bo + j, none⟩ = some (.int .u8 (V (l.getD j 0)))
theorem bytesAt.but {b : Nat} {w w' : World} {a : Option Addr} {l : List UInt8} (h : bytesAt w b a l) (hb : But b w w') : bytesAt w' b a l := by
  rcases h with h | ⟨bb, bo, h1, h2, h3⟩
  · exact Or.inl h
  · exact Or.inr ⟨bb, bo, h1, h2, fun j hj => hb.cell (h3 j hj) h2⟩

/-- The bytes of 's[k:]': the address as the walk writes it. -/
theorem bytesAt_rest {w : World} {b bb bo : Nat} {l : List UInt8} (hbb : bb ≠ b) (h : ∀ j, j < l.length → w.cell? ⟨bb, bo + j, none⟩ = some (.int .u8 (V (l.getD j 0)))) (c k : Nat) (hk : k ≤ l.length) (hc : l.length ≤ c) :
    bytesAt w b (if c = k then some ⟨bb, bo, none⟩ else some ⟨bb, bo + k, none⟩) (l.drop k) := by
  by_cases hl : k = l.length
  · left
    subst hl
    simp
  · right
    have hck : ¬ c = k := by omega
    refine ⟨bb, bo + k, if_neg hck, hbb, fun j hj => ?_⟩
    rw [List.length_drop] at hj
    rw [Nat.add_assoc, h (k + j) (by omega)]
    simp [List.getD]

/-- copy into the middle of a block that is known whole, from somewhere else. -/
theorem wpList_copy_but {P : Program} {w : World} {ops : Array Oper} {rest : List Oper} {o : Oper} {a : Act} {Q : Exit → Act → World → Prop} (hgd : o.guard = none) (d s : Operand) (dT sT : TypeId)
    (ho : o.op = .call { callee := .builtin .copy, args := #[d, s], argTypes := #[dT, sT] }) (elem : TypeId) (hu : P.underlying dT = some (.slice elem)) (hsz : (P.info? elem).map (·.size) = some 1)
    (dp sp : Option Addr) (dLen dCap sLen sCap : Nat) (hd : a.eval d = .slice dp dLen dCap) (hs : a.eval s = .slice sp sLen sCap)
    (g off : Nat) (cur : List Value) (t : TypeId) (hg : blockIs w g cur t) (cs : List Value) (hn : cs.length = Nat.min sLen dLen)
    (hpos : 0 < cs.length → dp = some ⟨g, off, none⟩ ∧ ∃ ad, sp = some ad ∧ ∀ j v, cs[j]? = some v → w.cell? (ad.add j) = some v)
    (hfit : off + cs.length ≤ cur.length) (h1 : ∀ v ∈ cs, v.oneCell' = true)
    (h : ∀ w', Hid (blockIs w' g (splice cur off cs) t) → Hid (But g w w') → Hid (w'.heap.size = w.heap.size) → wpList P ops Q rest (a.put o.dst (goInt cs.length)) w') :
    wpList P ops Q (o :: rest) a w := by
  by_cases h0 : cs.length = 0
  · obtain rfl : cs = [] := List.eq_nil_of_length_eq_zero h0
    refine wpList_copy_nothing hgd d s dT sT ho elem hu hsz dp sp dLen dCap sLen sCap hd hs (by simpa using hn.symm) ?_
    exact h w (by rw [show splice cur off [] = cur by simp [splice]]; exact hg) (But.refl _ _) rfl
  · obtain ⟨rfl, ad, rfl, hsrc⟩ := hpos (by omega)
    refine wpList_copy_own hgd d s dT sT ho elem hu hsz g off dLen dCap ad sLen sCap hd hs cur.toArray t hg cs hn hsrc (by simpa using hfit) h1 ?_
    refine h _ (show _ = _ by simpa [splice] using setRow_heap w g _ _ t _ hg) ⟨rfl, rfl, rfl, by simp [World.setRow], fun k _ hk => setRow_other w g k _ hk⟩ (by
      show (w.setRow g _).heap.size = _
      simp)

/-- A value of many cells, stored into a block that is known whole. -/
theorem run_storeVar_block {P : Program} (w : World) (g off : Nat) (ty : TypeId) (cur cs : List Value) (t : TypeId) (hg : blockIs w g cur t) (hi : (P.info? ty).map (·.size) = some cs.length) (hfit : off + cs.length ≤ cur.length) (h1 : ∀ v ∈ cs, v.oneCell' = true) :
    (storeVar ty ⟨g, off, none⟩ (.agg cs.toArray)).run P w = .ok () (w.setRow g (splice cur off cs).toArray) := by
  have := run_storeCells_at P g off t cs 0 cur.toArray w hg (by simpa using hfit) h1
  cases hq : P.info? ty with
  | none => simp [hq] at hi
  | some i =>
    have hs : cs.length = i.size := by simp [hq] at hi; omega
    simp [storeVar, sizeOf, typeInfo, hq, Value.cells, hs, this, splice]
theorem wpList_store_block {P : Program} {ops : Array Oper} {rest : List Oper} {o : Oper} {a : Act} {w : World} {Q : Exit → Act → World → Prop} (hgd : o.guard = none) (ty : TypeId) (x y : Operand) (ho : o.op = .store ty x y)
    (g off : Nat) (cs : List Value) (hx : a.eval x = .pointer (some ⟨g, off, none⟩)) (hy : a.eval y = .agg cs.toArray) (cur : List Value) (t : TypeId) (hg : blockIs w g cur t)
    (hi : (P.info? ty).map (·.size) = some cs.length) (hfit : off + cs.length ≤ cur.length) (h1 : ∀ v ∈ cs, v.oneCell' = true)
    (h : ∀ w', Hid (blockIs w' g (splice cur off cs) t) → Hid (But g w w') → Hid (w'.heap.size = w.heap.size) → wpList P ops Q rest (a.put o.dst undef) w') : wpList P ops Q (o :: rest) a w := by
  refine wpList_plain hgd fun K hK => ?_
  unfold Oper.wp execOp
  simp only [ho, hx, hy, Instr.storeAt, Instr.sureAddr, Sem.run_bind, Sem.run_pure, Result.andThen_ok, run_storeVar_block w g off ty cur cs t hg hi hfit h1]
  exact hK _ _ (h _ (show _ = _ by simpa using setRow_heap w g _ _ t _ hg) ⟨rfl, rfl, rfl, by simp [World.setRow], fun k _ hk => setRow_other w g k _ hk⟩ (by
      show (w.setRow g _).heap.size = _
      simp))
/-- A value of many cells, loaded out of a block that is known whole. -/
theorem rangeAt_block {w : World} {g : Nat} {p cs q : List Value} {t : TypeId} (hg : blockIs w g (p ++ (cs ++ q)) t) : w.rangeAt g p.length cs := by
  intro j v hj
  rw [hg.cell, get_mid _ _ _ _ (List.getElem?_eq_some_iff.1 hj).1]
  exact hj
theorem splice_all {α : Type} (x y : List α) (h : x.length = y.length) : splice x 0 y = y := by
  simp [splice, ← h]

/-- What is copied over the middle of a block. -/
theorem splice_mid {α : Type} (p x q : List α) (k : Nat) (cs : List α) (h : k + cs.length ≤ x.length) : splice (p ++ (x ++ q)) (p.length + k) cs = p ++ (splice x k cs ++ q) := by
  unfold splice
  rw [List.take_append, List.take_of_length_le (by omega), List.drop_append, List.drop_of_length_le (by omega)]
  rw [show p.length + k - p.length = k by omega, show p.length + k + cs.length - p.length = k + cs.length by omega]
  rw [List.take_append_of_le_length (by omega), List.drop_append_of_le_length (by omega)]
  simp
theorem splice_bytes (s cs : List UInt8) (k : Nat) : splice (byteCells s) k (byteCells cs) = byteCells (splice s k cs) := by
  simp [splice, byteCells]

/-- Bytes of a list, as the cells of a slice's memory. -/
theorem bytesAt.cells {w : World} {b : Nat} {a : Option Addr} {l : List UInt8} (h : bytesAt w b a l) (n : Nat) (hn : 0 < (byteCells (l.take n)).length) : ∃ ad, a = some ad ∧ ∀ j v, (byteCells (l.take n))[j]? = some v → w.cell? (ad.add j) = some v := by
  rcases h with rfl | ⟨bb, bo, rfl, h2, h3⟩
  · simp [byteCells] at hn
  · refine ⟨_, rfl, fun j v hj => ?_⟩
    have hlt := (List.getElem?_eq_some_iff.1 hj).1
    rw [byteCells_length, List.length_take] at hlt
    rw [byteCells_get _ _ (by rw [List.length_take]; omega)] at hj
    have e : (⟨bb, bo, none⟩ : Addr).add j = ⟨bb, bo + j, none⟩ := by unfold Addr.add; split <;> simp_all
    rw [e, h3 j (by omega), ← hj, getD_take _ _ _ _ (by omega)]

theorem bytesAt.all {w : World} {b : Nat} {a : Option Addr} {l : List UInt8} (h : bytesAt w b a l) (hn : 0 < (byteCells l).length) : ∃ ad, a = some ad ∧ ∀ j v, (byteCells l)[j]? = some v → w.cell? (ad.add j) = some v := by
  have := h.cells l.length
  rw [List.take_length] at this
  exact this hn

/-- A block with a run in it, whatever stands in the count's place. -/
def runRow (pre post : List Value) (r : Reg) (s : List UInt8) (v : Value) : List Value := pre ++ (regCells r ++ ((byteCells s ++ [v]) ++ post))
theorem runRow_length (pre post : List Value) (r : Reg) (s : List UInt8) (v : Value) (hs : s.length = 64) : (runRow pre post r s v).length = pre.length + 73 + post.length := by
  simp [runRow, regCells_length, byteCells_length, hs]; omega

/-- What a copy over a run's 64 bytes makes of the block. -/
theorem splice_run (pre post : List Value) (r : Reg) (s cs : List UInt8) (v : Value) (k : Nat) (hs : s.length = 64) (h : k + cs.length ≤ 64) :
    splice (runRow pre post r s v) (pre.length + 8 + k) (byteCells cs) = runRow pre post r (splice s k cs) v := by
  unfold runRow
  have e : pre ++ (regCells r ++ ((byteCells s ++ [v]) ++ post)) = (pre ++ regCells r) ++ (byteCells s ++ ([v] ++ post)) := by simp
  rw [e, show pre.length + 8 + k = (pre ++ regCells r).length + k by simp [regCells_length], splice_mid _ _ _ _ _ (by rw [byteCells_length, byteCells_length]; omega), splice_bytes]
  simp
theorem splice_len (s cs : List UInt8) (k : Nat) (hs : s.length = 64) (h : k + cs.length ≤ 64) : (splice s k cs).length = 64 := by
  rw [length_splice _ _ _ (by omega), hs]

/-- The run behind the last bytes, which don't fill a block. -/
theorem runIs_of {w : World} {b : Nat} {pre post : List Value} {T : TypeId} {m l y d s : List UInt8} (hyd : l = y ++ d) (hy : (m ++ y).length % 64 = 0) (hd : d.length < 64) (hs : s.length = 64) (hr : blockIs w b (runRow pre post (regAfter (m ++ y)) (splice s 0 d) (.int .i64 ((m.length : Int) + l.length))) T) :
    runIs w b pre post T (m ++ l) := by
  subst hyd
  have hlen : (m ++ (y ++ d)).length = (m ++ y).length + d.length := by simp only [List.length_append]; omega
  have hmod : (m ++ (y ++ d)).length % 64 = d.length := by omega
  refine ⟨splice s 0 d, splice_len _ _ _ hs (by omega), ?_, ?_⟩
  · rw [hmod, hlen, show (m ++ y).length + d.length - d.length = (m ++ y).length by omega, ← List.append_assoc m, List.drop_left]
    simp [splice]
  · rw [← List.append_assoc m, regAfter_short _ _ (by omega)]
    unfold runCells
    rw [List.append_assoc]
    have e : (((m ++ y ++ d).length : Nat) : Int) = (m.length : Int) + ((y ++ d).length : Nat) := by simp only [List.length_append]; omega
    rw [e]
    exact hr

end Go.Proofs.YtaohbpmefcdipaaDoor
