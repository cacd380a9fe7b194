/- Blocks of memory, known whole: what a block holds is a list of values. -/
import Derived.Test.YtaohbpmefcdipaaDoorCtList
import Derived.Laws.CopyOwn
import Derived.Deep.MidRow
import Derived.StillTailTactics
import Derived.Deep.RegionLaw
import Derived.Deep.RegionHeld3
import Derived.Below
import Derived.Lib.Hide
import Derived.Deep.QuietTactic
import Derived.ChangeKeysEq
namespace Go.Proofs.YtaohbpmefcdipaaDoor.Ct
open Go.RowKit

/-- Block b holds these cells, and none of them is frozen. -/
def blockIs (w : World) (b : Nat) (cs : List Value) (t : TypeId) : Prop := w.heap[b]? = some (.cells cs.toArray t (0, 0))

theorem blockIs.cell {w : World} {b : Nat} {cs : List Value} {t : TypeId} (h : blockIs w b cs t) (j : Nat) : w.cell? ⟨b, j, none⟩ = cs[j]? := by
  rw [cell_of_row w b j cs.toArray t (0, 0) h]; simp
theorem blockIs.at {w : World} {b : Nat} {cs : List Value} {t : TypeId} (h : blockIs w b cs t) (j : Nat) (hj : j < cs.length) : w.cell? ⟨b, j, none⟩ = some cs[j] := by
  rw [h.cell, List.getElem?_eq_getElem hj]
theorem blockIs.free {w : World} {b : Nat} {cs : List Value} {t : TypeId} (h : blockIs w b cs t) (j : Nat) : w.frozen? ⟨b, j, none⟩ = false := frozen_of_row w b j _ t h
theorem blockIs.lt {w : World} {b : Nat} {cs : List Value} {t : TypeId} (h : blockIs w b cs t) : b < w.heap.size := by
  unfold blockIs at h
  exact (Array.getElem?_eq_some_iff.1 h).1
theorem blockIs.set {w : World} {b : Nat} {cs : List Value} {t : TypeId} (h : blockIs w b cs t) (j : Nat) (v : Value) : blockIs (w.setCell ⟨b, j, none⟩ v) b (cs.set j v) t := by
  unfold blockIs
  rw [heap_setCell_same w b j _ t v h]
  simp
theorem blockIs.other {w : World} {b : Nat} {cs : List Value} {t : TypeId} (h : blockIs w b cs t) (a : Addr) (v : Value) (hb : b ≠ a.block) : blockIs (w.setCell a v) b cs t := by
  unfold blockIs
  rw [heap_setCell_other w a b v hb]
  exact h
theorem blockIs.drewN {w : World} {b : Nat} {cs : List Value} {t : TypeId} (h : blockIs w b cs t) (n : Nat) : blockIs (w.drewN n) b cs t := h
theorem blockIs.alloc {w : World} {b : Nat} {cs : List Value} {t : TypeId} (h : blockIs w b cs t) (o : Obj) : blockIs (w.alloc o) b cs t := by
  unfold blockIs
  rw [Below.heap_alloc w o b h.lt]
  exact h
theorem blockIs.new (w : World) (cs : List Value) (t : TypeId) : blockIs (w.alloc (.cells cs.toArray t (0, 0))) w.heap.size cs t := heap_alloc_new w _
theorem blockIs.last (w : World) (cs : List Value) (t : TypeId) (g : Nat) (h : g = w.heap.size) : blockIs (w.alloc (.cells cs.toArray t (0, 0))) g cs t := by
  subst h
  exact blockIs.new w cs t
theorem blockIs.below {B : Nat} {w w' : World} (hb : Below B w w') {b : Nat} {cs : List Value} {t : TypeId} (h : blockIs w b cs t) (hB : b < B) : blockIs w' b cs t := by
  unfold blockIs
  rw [hb.block b hB]
  exact h

/-- All that w holds is in w', but block b may be another one, and there may be new blocks. -/
structure But (b : Nat) (w w' : World) : Prop where
  os : w'.os = w.os
  tape : w'.tape = w.tape
  output : w'.output = w.output
  size : w.heap.size ≤ w'.heap.size
  block : ∀ k, k < w.heap.size → k ≠ b → w'.heap[k]? = w.heap[k]?

theorem But.refl (b : Nat) (w : World) : But b w w := ⟨rfl, rfl, rfl, Nat.le_refl _, fun _ _ _ => rfl⟩
theorem But.trans {b : Nat} {x y z : World} (h : But b x y) (k : But b y z) : But b x z :=
  ⟨k.os.trans h.os, k.tape.trans h.tape, k.output.trans h.output, Nat.le_trans h.size k.size, fun i hi hn => (k.block i (Nat.lt_of_lt_of_le hi h.size) hn).trans (h.block i hi hn)⟩
theorem But.drewN {b : Nat} {x y : World} (h : But b x y) (n : Nat) : But b x (y.drewN n) := ⟨h.os, h.tape, h.output, h.size, h.block⟩
theorem But.alloc {b : Nat} {x y : World} (h : But b x y) (o : Obj) : But b x (y.alloc o) :=
  h.trans ⟨rfl, rfl, rfl, by simp, fun k hk _ => Below.heap_alloc y o k hk⟩
/-- A store into block b, or into a block that is new. -/
theorem But.setCell {b : Nat} {x y : World} (h : But b x y) (a : Addr) (v : Value) (ha : a.block = b ∨ x.heap.size ≤ a.block) : But b x (y.setCell a v) :=
  ⟨h.os, h.tape, h.output, by simpa [World.setCell] using h.size, fun k hk hn => by
    rw [heap_setCell_other y a k v (by rcases ha with rfl | ha <;> omega)]
    exact h.block k hk hn⟩
theorem But.of_below {b : Nat} {w w' : World} (h : Below w.heap.size w w') : But b w w' := ⟨h.os, h.tape, h.output, h.size, fun k hk _ => h.block k hk⟩
theorem But.below {b B : Nat} {w w' : World} (h : But b w w') (hB : B ≤ b) (hs : B ≤ w.heap.size) : Below B w w' := ⟨h.os, h.tape, h.output, h.size, fun k hk => h.block k (by omega) (by omega)⟩
theorem But.is {b : Nat} {w w' : World} (h : But b w w') {k : Nat} {cs : List Value} {t : TypeId} (hk : blockIs w k cs t) (hn : k ≠ b) : blockIs w' k cs t := by
  unfold blockIs
  rw [h.block k hk.lt hn]
  exact hk
theorem But.cell {b : Nat} {w w' : World} (h : But b w w') {p : Addr} {v : Value} (hp : w.cell? p = some v) (hn : p.block ≠ b) : w'.cell? p = some v := by
  rw [← hp]
  exact World.cell?_of_block (w := w) (h.block p.block (block_lt_of_cell hp) hn)

/-- A byte's number. -/
def V (b : UInt8) : Int := (b.toNat : Int)
theorem V_nonneg (b : UInt8) : 0 ≤ V b := Int.natCast_nonneg _
theorem V_lt (b : UInt8) : V b < 256 := by unfold V; have := b.toNat_lt; omega
/-- Words, as cells. -/
def cellsW (f : Nat → W) (n : Nat) : List Value := (List.range n).map fun j => .int .u64 (U (f j))
def cells8 (f : Nat → UInt8) (n : Nat) : List Value := (List.range n).map fun j => .int .u8 (V (f j))
theorem cellsW_length (f : Nat → W) (n : Nat) : (cellsW f n).length = n := by simp [cellsW]
theorem cells8_length (f : Nat → UInt8) (n : Nat) : (cells8 f n).length = n := by simp [cells8]
theorem cellsW_get (f : Nat → W) (n k : Nat) (h : k < n) : (cellsW f n)[k]? = some (.int .u64 (U (f k))) := by
  simp [cellsW, h]
theorem cells8_get (f : Nat → UInt8) (n k : Nat) (h : k < n) : (cells8 f n)[k]? = some (.int .u8 (V (f k))) := by
  simp [cells8, h]
theorem cellsW_one (f : Nat → W) (n : Nat) : ∀ v ∈ cellsW f n, v.oneCell' = true := by
  intro v hv
  obtain ⟨_, _, rfl⟩ := List.mem_map.1 hv
  rfl
theorem range_set {α : Type} (f : Nat → α) (n k : Nat) (h : k < n) (x : α) : ((List.range n).map f).set k x = (List.range n).map (fun j => if j = k then x else f j) := by
  apply List.ext_getElem?
  intro i
  rw [List.getElem?_set]
  by_cases hi : i < n
  · by_cases e : k = i
    · subst e; simp [h]
    · have e' : ¬ i = k := fun h => e h.symm
      simp [hi, e, e']
  · have e : ¬ k = i := by omega
    simp [hi, e]
theorem cellsW_set (f : Nat → W) (n k : Nat) (h : k < n) (x : W) : (cellsW f n).set k (.int .u64 (U x)) = cellsW (fun j => if j = k then x else f j) n := by
  unfold cellsW
  rw [range_set _ _ _ h]
  apply List.map_congr_left
  intro j _
  by_cases e : j = k <;> simp [e]
theorem cells8_set (f : Nat → UInt8) (n k : Nat) (h : k < n) (x : UInt8) : (cells8 f n).set k (.int .u8 (V x)) = cells8 (fun j => if j = k then x else f j) n := by
  unfold cells8
  rw [range_set _ _ _ h]
  apply List.map_congr_left
  intro j _
  by_cases e : j = k <;> simp [e]

/-- A cell in the middle of a block. -/
theorem get_mid {α : Type} (p x q : List α) (k : Nat) (h : k < x.length) : (p ++ (x ++ q))[p.length + k]? = x[k]? := by
  rw [List.getElem?_append_right (by omega), List.getElem?_append_left (by omega)]
  simp
theorem set_mid {α : Type} (p x q : List α) (k : Nat) (h : k < x.length) (v : α) : (p ++ (x ++ q)).set (p.length + k) v = p ++ (x.set k v ++ q) := by
  rw [List.set_append_right _ _ (by omega), List.set_append_left _ _ (by omega)]
  simp

/-- An element of an array by value. -/
theorem run_index_agg {P : Program} {t e : TypeId} {n i : Nat} {cs : Array Value} {v : Value} (h : P.underlying t = some (.array n e)) (he : P.plainKey e = true) (hi : (P.info? e).isSome = true) (hc : P.cellsOf e = 1) (hk : i < n) (hv : cs[i]? = some v) (w : World) :
    (Instr.index t (.agg cs) (.int .i64 (i : Int))).run P w = .ok v w := by
  have h1 : 0 ≤ (i : Int) ∧ (i : Int) < (n : Int) := by omega
  have h2 : (i : Int).toNat = i := by omega
  obtain ⟨inf, hj⟩ := Option.isSome_iff_exists.1 hi
  have hp : (part e cs i).run P w = .ok v w := run_part_plain w he hv
  simp [Instr.index, run_underlying h, asIntOf, hk, h2, run_sizeOf w hj, hc, hp]
/-- A value of many cells, stored into a block that is known whole. -/
theorem run_storeVar_block {P : Program} (w : World) (g off : Nat) (ty : TypeId) (cur cs : List Value) (t : TypeId) (hg : blockIs w g cur t) (hi : (P.info? ty).map (·.size) = some cs.length) (hfit : off + cs.length ≤ cur.length) (h1 : ∀ v ∈ cs, v.oneCell' = true) :
    (storeVar ty ⟨g, off, none⟩ (.agg cs.toArray)).run P w = .ok () (w.setRow g (splice cur off cs).toArray) := by
  have := run_storeCells_at P g off t cs 0 cur.toArray w hg (by simpa using hfit) h1
  cases hq : P.info? ty with
  | none => simp [hq] at hi
  | some i =>
    have hs : cs.length = i.size := by simp [hq] at hi; omega
    simp [storeVar, sizeOf, typeInfo, hq, Value.cells, hs, this, splice]
theorem wpList_store_block {P : Program} {ops : Array Oper} {rest : List Oper} {o : Oper} {a : Act} {w : World} {Q : Exit → Act → World → Prop} (hgd : o.guard = none) (ty : TypeId) (x y : Operand) (ho : o.op = .store ty x y)
    (g off : Nat) (cs : List Value) (hx : a.eval x = .pointer (some ⟨g, off, none⟩)) (hy : a.eval y = .agg cs.toArray) (cur : List Value) (t : TypeId) (hg : blockIs w g cur t)
    (hi : (P.info? ty).map (·.size) = some cs.length) (hfit : off + cs.length ≤ cur.length) (h1 : ∀ v ∈ cs, v.oneCell' = true)
    (h : ∀ w', Hid (blockIs w' g (splice cur off cs) t) → Hid (But g w w') → Hid (w'.heap.size = w.heap.size) → wpList P ops Q rest (a.put o.dst undef) w') : wpList P ops Q (o :: rest) a w := by
  refine wpList_plain hgd fun K hK => ?_
  unfold Oper.wp execOp
  simp only [ho, hx, hy, Instr.storeAt, Instr.sureAddr, Sem.run_bind, Sem.run_pure, Result.andThen_ok, run_storeVar_block w g off ty cur cs t hg hi hfit h1]
  exact hK _ _ (h _ (show _ = _ by simpa using setRow_heap w g _ _ t _ hg) ⟨rfl, rfl, rfl, by simp [World.setRow], fun k _ hk => setRow_other w g k _ hk⟩ (by
      show (w.setRow g _).heap.size = _
      simp))
/-- A value of many cells, loaded out of a block that is known whole. -/
theorem rangeAt_block {w : World} {g : Nat} {p cs q : List Value} {t : TypeId} (hg : blockIs w g (p ++ (cs ++ q)) t) : w.rangeAt g p.length cs := by
  intro j v hj
  rw [hg.cell, get_mid _ _ _ _ (List.getElem?_eq_some_iff.1 hj).1]
  exact hj
theorem splice_all {α : Type} (x y : List α) (h : x.length = y.length) : splice x 0 y = y := by
  simp [splice, ← h]


end Go.Proofs.YtaohbpmefcdipaaDoor.Ct
