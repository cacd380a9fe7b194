/- What all texts of a seat rest on: memory, rows of the call's own, append, arguments. Nothing of it speaks of one program. -/
import Derived.Test.YtfhlcondnaahiaaDoorRows
import Derived.WalkKit
import Derived.WalkSpells
import Derived.WalkLawsBesides
import Derived.Laws.BitsAllLaws
import Derived.Deep.QuietTactic
import Derived.BigQuiet
import Derived.Lib.BitFns
import Derived.Lib.Hide
import Derived.Lib.Walk
import Derived.Lib.Small
import Derived.Lib.SmallJoins
import Derived.Below
import Derived.ChangeKeysEq
import Derived.ProofKit
import Derived.OpenShut
import Derived.Laws.OwnMore
import Derived.OwnWalk
import Derived.Laws.CopyOwn
import Derived.Laws.MakeOwn
import Derived.Laws.AppendOwnNone
import Derived.Deep.MidRow
import Derived.StillTailTactics
import Derived.Deep.RegionLaw
import Derived.Deep.RegionHeld3
import Derived.Deep.AppendLies
import Derived.Deep.DeepCutAuto
import Derived.Carry
import Derived.SizedLaws
namespace Go.Proofs.YtfhlcondnaahiaaDoor.Gl
open Go.RowKit


/-- Block b holds these cells, and none of them is frozen. -/
def blockIs (w : World) (b : Nat) (cs : List Value) (t : TypeId) : Prop := w.heap[b]? = some (.cells cs.toArray t (0, 0))

theorem blockIs.cell {w : World} {b : Nat} {cs : List Value} {t : TypeId} (h : blockIs w b cs t) (j : Nat) : w.cell? ⟨b, j, none⟩ = cs[j]? := by
  rw [cell_of_row w b j cs.toArray t (0, 0) h]; simp
theorem blockIs.at {w : World} {b : Nat} {cs : List Value} {t : TypeId} (h : blockIs w b cs t) (j : Nat) (hj : j < cs.length) : w.cell? ⟨b, j, none⟩ = some cs[j] := by
  rw [h.cell, List.getElem?_eq_getElem hj]
theorem blockIs.free {w : World} {b : Nat} {cs : List Value} {t : TypeId} (h : blockIs w b cs t) (j : Nat) : w.frozen? ⟨b, j, none⟩ = false := frozen_of_row w b j _ t h
theorem blockIs.lt {w : World} {b : Nat} {cs : List Value} {t : TypeId} (h : blockIs w b cs t) : b < w.heap.size := by
  unfold blockIs at h
  exact (Array.getElem?_eq_some_iff.1 h).1
theorem blockIs.set {w : World} {b : Nat} {cs : List Value} {t : TypeId} (h : blockIs w b cs t) (j : Nat) (v : Value) : blockIs (w.setCell ⟨b, j, none⟩ v) b (cs.set j v) t := by
  unfold blockIs
  rw [heap_setCell_same w b j _ t v h]
  simp
theorem blockIs.other {w : World} {b : Nat} {cs : List Value} {t : TypeId} (h : blockIs w b cs t) (a : Addr) (v : Value) (hb : b ≠ a.block) : blockIs (w.setCell a v) b cs t := by
  unfold blockIs
  rw [heap_setCell_other w a b v hb]
  exact h
theorem blockIs.drewN {w : World} {b : Nat} {cs : List Value} {t : TypeId} (h : blockIs w b cs t) (n : Nat) : blockIs (w.drewN n) b cs t := h
theorem blockIs.alloc {w : World} {b : Nat} {cs : List Value} {t : TypeId} (h : blockIs w b cs t) (o : Obj) : blockIs (w.alloc o) b cs t := by
  unfold blockIs
  rw [Below.heap_alloc w o b h.lt]
  exact h
theorem blockIs.new (w : World) (cs : List Value) (t : TypeId) : blockIs (w.alloc (.cells cs.toArray t (0, 0))) w.heap.size cs t := heap_alloc_new w _
theorem blockIs.last (w : World) (cs : List Value) (t : TypeId) (g : Nat) (h : g = w.heap.size) : blockIs (w.alloc (.cells cs.toArray t (0, 0))) g cs t := by
  subst h
  exact blockIs.new w cs t
theorem blockIs.below {B : Nat} {w w' : World} (hb : Below B w w') {b : Nat} {cs : List Value} {t : TypeId} (h : blockIs w b cs t) (hB : b < B) : blockIs w' b cs t := by
  unfold blockIs
  rw [hb.block b hB]
  exact h

/-- All that w holds is in w', but block b may be another one, and there may be new blocks. -/
structure But (b : Nat) (w w' : World) : Prop where
  os : w'.os = w.os
  tape : w'.tape = w.tape
  output : w'.output = w.output
  size : w.heap.size ≤ w'.heap.size
  block : ∀ k, k < w.heap.size → k ≠ b → w'.heap[k]? = w.heap[k]?

theorem But.refl (b : Nat) (w : World) : But b w w := ⟨rfl, rfl, rfl, Nat.le_refl _, fun _ _ _ => rfl⟩
theorem But.trans {b : Nat} {x y z : World} (h : But b x y) (k : But b y z) : But b x z :=
  ⟨k.os.trans h.os, k.tape.trans h.tape, k.output.trans h.output, Nat.le_trans h.size k.size, fun i hi hn => (k.block i (Nat.lt_of_lt_of_le hi h.size) hn).trans (h.block i hi hn)⟩
theorem But.drewN {b : Nat} {x y : World} (h : But b x y) (n : Nat) : But b x (y.drewN n) := ⟨h.os, h.tape, h.output, h.size, h.block⟩
theorem But.alloc {b : Nat} {x y : World} (h : But b x y) (o : Obj) : But b x (y.alloc o) :=
  h.trans ⟨rfl, rfl, rfl, by simp, fun k hk _ => Below.heap_alloc y o k hk⟩
/-- A store into block b, or into a block that is new. -/
theorem But.setCell {b : Nat} {x y : World} (h : But b x y) (a : Addr) (v : Value) (ha : a.block = b ∨ x.heap.size ≤ a.block) : But b x (y.setCell a v) :=
  ⟨h.os, h.tape, h.output, by simpa [World.setCell] using h.size, fun k hk hn => by
    rw [heap_setCell_other y a k v (by rcases ha with rfl | ha <;> omega)]
    exact h.block k hk hn⟩
theorem But.of_below {b : Nat} {w w' : World} (h : Below w.heap.size w w') : But b w w' := ⟨h.os, h.tape, h.output, h.size, fun k hk _ => h.block k hk⟩
theorem But.below {b B : Nat} {w w' : World} (h : But b w w') (hB : B ≤ b) (hs : B ≤ w.heap.size) : Below B w w' := ⟨h.os, h.tape, h.output, h.size, fun k hk => h.block k (by omega) (by omega)⟩
theorem But.is {b : Nat} {w w' : World} (h : But b w w') {k : Nat} {cs : List Value} {t : TypeId} (hk : blockIs w k cs t) (hn : k ≠ b) : blockIs w' k cs t := by
  unfold blockIs
  rw [h.block k hk.lt hn]
  exact hk
theorem But.cell {b : Nat} {w w' : World} (h : But b w w') {p : Addr} {v : Value} (hp : w.cell? p = some v) (hn : p.block ≠ b) : w'.cell? p = some v := by
  rw [← hp]
  exact World.cell?_of_block (w := w) (h.block p.block (block_lt_of_cell hp) hn)

/-- A byte's number. -/
def V (b : UInt8) : Int := (b.toNat : Int)
theorem V_nonneg (b : UInt8) : 0 ≤ V b := Int.natCast_nonneg _
theorem V_lt (b : UInt8) : V b < 256 := by unfold V; have := b.toNat_lt; omega
/-- A cell in the middle of a block. -/
theorem get_mid {α : Type} (p x q : List α) (k : Nat) (h : k < x.length) : (p ++ (x ++ q))[p.length + k]? = x[k]? := by
  rw [List.getElem?_append_right (by omega), List.getElem?_append_left (by omega)]
  simp
theorem set_mid {α : Type} (p x q : List α) (k : Nat) (h : k < x.length) (v : α) : (p ++ (x ++ q)).set (p.length + k) v = p ++ (x.set k v ++ q) := by
  rw [List.set_append_right _ _ (by omega), List.set_append_left _ _ (by omega)]
  simp

/-- An element of an array by value. -/
theorem run_index_agg {P : Program} {t e : TypeId} {n i : Nat} {cs : Array Value} {v : Value} (h : P.underlying t = some (.array n e)) (he : P.plainKey e = true) (hi : (P.info? e).isSome = true) (hc : P.cellsOf e = 1) (hk : i < n) (hv : cs[i]? = some v) (w : World) :
    (Instr.index t (.agg cs) (.int .i64 (i : Int))).run P w = .ok v w := by
  have h1 : 0 ≤ (i : Int) ∧ (i : Int) < (n : Int) := by omega
  have h2 : (i : Int).toNat = i := by omega
  obtain ⟨inf, hj⟩ := Option.isSome_iff_exists.1 hi
  have hp : (part e cs i).run P w = .ok v w := run_part_plain w he hv
  simp [Instr.index, run_underlying h, asIntOf, hk, h2, run_sizeOf w hj, hc, hp]
/-- A value of many cells, stored into a block that is known whole. -/
theorem run_storeVar_block {P : Program} (w : World) (g off : Nat) (ty : TypeId) (cur cs : List Value) (t : TypeId) (hg : blockIs w g cur t) (hi : (P.info? ty).map (·.size) = some cs.length) (hfit : off + cs.length ≤ cur.length) (h1 : ∀ v ∈ cs, v.oneCell' = true) :
    (storeVar ty ⟨g, off, none⟩ (.agg cs.toArray)).run P w = .ok () (w.setRow g (splice cur off cs).toArray) := by
  have := run_storeCells_at P g off t cs 0 cur.toArray w hg (by simpa using hfit) h1
  cases hq : P.info? ty with
  | none => simp [hq] at hi
  | some i =>
    have hs : cs.length = i.size := by simp [hq] at hi; omega
    simp [storeVar, sizeOf, typeInfo, hq, Value.cells, hs, this, splice]
theorem wpList_store_block {P : Program} {ops : Array Oper} {rest : List Oper} {o : Oper} {a : Act} {w : World} {Q : Exit → Act → World → Prop} (hgd : o.guard = none) (ty : TypeId) (x y : Operand) (ho : o.op = .store ty x y)
    (g off : Nat) (cs : List Value) (hx : a.eval x = .pointer (some ⟨g, off, none⟩)) (hy : a.eval y = .agg cs.toArray) (cur : List Value) (t : TypeId) (hg : blockIs w g cur t)
    (hi : (P.info? ty).map (·.size) = some cs.length) (hfit : off + cs.length ≤ cur.length) (h1 : ∀ v ∈ cs, v.oneCell' = true)
    (h : ∀ w', Hid (blockIs w' g (splice cur off cs) t) → Hid (But g w w') → Hid (w'.heap.size = w.heap.size) → wpList P ops Q rest (a.put o.dst undef) w') : wpList P ops Q (o :: rest) a w := by
  refine wpList_plain hgd fun K hK => ?_
  unfold Oper.wp execOp
  simp only [ho, hx, hy, Instr.storeAt, Instr.sureAddr, Sem.run_bind, Sem.run_pure, Result.andThen_ok, run_storeVar_block w g off ty cur cs t hg hi hfit h1]
  exact hK _ _ (h _ (show _ = _ by simpa using setRow_heap w g _ _ t _ hg) ⟨rfl, rfl, rfl, by simp [World.setRow], fun k _ hk => setRow_other w g k _ hk⟩ (by
      show (w.setRow g _).heap.size = _
      simp))
/-- A value of many cells, loaded out of a block that is known whole. -/
theorem rangeAt_block {w : World} {g : Nat} {p cs q : List Value} {t : TypeId} (hg : blockIs w g (p ++ (cs ++ q)) t) : w.rangeAt g p.length cs := by
  intro j v hj
  rw [hg.cell, get_mid _ _ _ _ (List.getElem?_eq_some_iff.1 hj).1]
  exact hj
theorem splice_all {α : Type} (x y : List α) (h : x.length = y.length) : splice x 0 y = y := by
  simp [splice, ← h]


theorem own_below {w wr w' : World} {v : Value} {base : Nat} {e : TypeId} {n : Nat} {xs : List Value} (h : Below base w wr) (hown : wr.ownsRow base e 1 v n xs) (hg : wr.grownBy w' v.ownBlock) (hB : base ≤ wr.heap.size) : Below base w w' :=
  h.grown hg hB fun k hk => (hown.lt k hk).1

/-- A slice's cells hold these bytes. -/
def bytesIn (w : World) (a : Option Addr) (l : List UInt8) : Prop := l = [] ∨ ∃ b o, a = some ⟨b, o, none⟩ ∧ ∀ j, j < l.length → w.cell? ⟨b, o + j, none⟩ = some (.int .u8 (V (l.getD j 0)))
theorem bytesIn.below {w w' : World} {a : Option Addr} {l : List UInt8} (h : bytesIn w a l) {B : Nat} (hb : Below B w w') (hB : w.heap.size ≤ B) : bytesIn w' a l := by
  rcases h with h | ⟨bb, bo, h1, h3⟩
  · exact Or.inl h
  · exact Or.inr ⟨bb, bo, h1, fun j hj => (hb.cell (p := ⟨bb, bo + j, none⟩) (Nat.lt_of_lt_of_le (block_lt_of_cell (h3 j hj)) hB)).trans (h3 j hj)⟩

/-- Bytes as cells. -/
def bvals (l : List UInt8) : List Value := l.map fun x => .int .u8 (V x)
theorem bvals_append (l m : List UInt8) : bvals (l ++ m) = bvals l ++ bvals m := by simp [bvals]
theorem info_u8 : (Tryd.prog.info? 5).map (fun i => (i.zero, i.size, i.bytes)) = some (some (.int .u8 0), 1, 1) := by kernel_rfl
/-- A row of bytes of the call's own. -/
def rowIs (w : World) (base : Nat) (v : Value) (l : List UInt8) : Prop := w.ownsRow base 5 1 v l.length (bvals l)
theorem rowIs.bytes {w : World} {base : Nat} {v : Value} {l : List UInt8} (h : rowIs w base v l) : ∃ a c, v = .slice a l.length c ∧ l.length ≤ c ∧ bytesIn w a l ∧ (a = none → c = 0) := by
  rcases h.2 with ⟨rfl, h0⟩ | ⟨g, cap, cur, rfl, hb, hh, hn, hc, hs, ht⟩
  · have : l = [] := List.eq_nil_of_length_eq_zero h0
    subst this
    exact ⟨none, 0, rfl, Nat.le_refl _, Or.inl rfl, fun _ => rfl⟩
  · refine ⟨some ⟨g, 0, none⟩, cap, rfl, hn, Or.inr ⟨g, 0, rfl, fun j hj => ?_⟩, fun h => by cases h⟩
    rw [Nat.zero_add, World.ownsRow.cellAt h j (by omega)]
    simp [bvals, hj]
theorem rowIs.below {w w' : World} {base : Nat} {v : Value} {l : List UInt8} (h : rowIs w base v l) {B : Nat} (hb : Below B w w') (hB : w.heap.size ≤ B) : rowIs w' base v l := by
  have hg : w.grownBy w' none := ⟨hb.os, hb.tape, hb.output, hb.size, fun k hk _ => hb.block k (by omega)⟩
  refine World.ownsRow.kept h hg ?_
  cases v.ownBlock with
  | none => exact Or.inl rfl
  | some g => exact Or.inr (by simp)
theorem rowIs.lit (w : World) (base : Nat) (l : List UInt8) (cs : Array Value) (hcs : cs = (bvals l).toArray) (n : Nat) (hn : n = l.length) (hb : base ≤ w.heap.size) (hl : l.length ≤ 1000000) : rowIs (w.alloc (.cells cs 5)) base (.slice (some ⟨w.heap.size, 0, none⟩) n n) l := by
  subst hcs hn
  have := World.ownsRow_lit (base := base) (e := 5) (size := 1) w (bvals l).toArray l.length hb (by unfold maxLen; omega) (by simp [bvals])
  simpa [rowIs] using this
/-- Bytes put behind a row of the call's own. -/
theorem append_bytes {w : World} {ops : Array Oper} {rest : List Oper} {o : Oper} {a : Act} {Q : Exit → Act → World → Prop} (hgd : o.guard = none) (s x : Operand)
    (ho : o.op = .call { callee := .builtin .append, args := #[s, x], argTypes := #[30, 30] })
    (base : Nat) (v : Value) (xs : List UInt8) (hs : a.eval s = v) (hown : rowIs w base v xs) (A : Option Addr) (n c : Nat) (l : List UInt8) (hnl : n = l.length) (hx : a.eval x = .slice A n c)
    (hz : A = none → c = 0) (hb : bytesIn w A l) (hn : xs.length + l.length ≤ 1000000000) (hbase : base ≤ w.heap.size)
    (h : ∀ v' w', rowIs w' base v' (xs ++ l) → w.grownBy w' v.ownBlock → wpList Tryd.prog ops Q rest (a.put o.dst v') w') : wpList Tryd.prog ops Q (o :: rest) a w := by
  subst hnl
  obtain ⟨i0, hi, hz0, hz1, hz2⟩ := info_parts info_u8
  cases A with
  | none =>
    have hl : l = [] := by
      rcases hb with h0 | ⟨b, o', h1, _⟩
      · exact h0
      · cases h1
    subst hl
    obtain rfl := hz rfl
    exact wpList_append_own_none hgd s x 30 ho base 5 i0 1 Tryd.underlying30 hi v _ _ hs hown hx (h v w (by simpa using hown) (World.grownBy.refl w _))
  | some ad =>
    refine wpList_append_own w hgd s x 30 ho base 5 i0 (.int .u8 0) 1 1 Tryd.underlying30 hi hz0 hz1 hz2 rfl (by decide) v _ _ hs hown ad l.length c (bvals l) hx (by simp [bvals]) ?_ ?_ ?_ ?_ hbase ?_
    · intro j u hj
      have hjn : j < l.length := by
        have := (List.getElem?_eq_some_iff.1 hj).1
        simpa [bvals] using this
      rcases hb with h0 | ⟨b, o', h1, hc⟩
      · rw [h0] at hjn; simp at hjn
      · cases h1
        rw [Addr.add_lit, hc j hjn, ← hj]
        simp [bvals, hjn]
    · intro u hu
      obtain ⟨q, _, rfl⟩ := List.mem_map.1 hu
      rfl
    · unfold maxLen; omega
    · omega
    · intro v' w' h1 h2 _
      refine h v' w' ?_ h2
      unfold rowIs
      rw [List.length_append, bvals_append]
      exact h1
theorem bytesIn.take {w : World} {a : Option Addr} {l : List UInt8} (h : bytesIn w a l) (n : Nat) : bytesIn w a (l.take n) := by
  rcases h with rfl | ⟨pb, po, h1, h2⟩
  · left; simp
  · right
    refine ⟨pb, po, h1, fun j hj => ?_⟩
    rw [List.length_take] at hj
    rw [h2 j (by omega), List.getD_eq_getElem?_getD, List.getD_eq_getElem?_getD, List.getElem?_take, if_pos (by omega)]

/- Arguments. -/
open Go.ChangeShapes Go.WideShapes Go.ChangeAt
theorem own : ownKnob Tryd.prog.godebug = none := by kernel_rfl
section
variable {H : Type} {enc : TypeId × Value → H} {w : World} {base : Nat}
end
def lenOf : Value → Nat
  | .slice _ n _ => n
  | _ => 0
theorem bytesIn.drop {w : World} {a : Option Addr} {l : List UInt8} (h : bytesIn w a l) (k : Nat) : bytesIn w (a.map fun x => x.add k) (l.drop k) := by
  rcases h with h | ⟨bb, bo, rfl, h2⟩
  · exact Or.inl (by rw [h, List.drop_nil])
  · refine Or.inr ⟨bb, bo + k, by show some (Addr.add _ k) = _; rw [Addr.add_lit], fun j hj => ?_⟩
    rw [List.length_drop] at hj
    rw [show bo + k + j = bo + (k + j) by omega, h2 (k + j) (by omega)]
    simp [List.getD_eq_getElem?_getD, List.getElem?_drop]
theorem blockIs.but {g b : Nat} {w w' : World} (hb : But g w w') {cs : List Value} {t : TypeId} (h : blockIs w b cs t) (e : b ≠ g) : blockIs w' b cs t := by
  unfold blockIs at *
  rw [← h]
  exact hb.block b (by
    have := (Array.getElem?_eq_some_iff.1 h).1
    exact this) e

/-- A slice's cells hold these values. -/
def valsIn (w : World) (a : Option Addr) (xs : List Value) : Prop := xs = [] ∨ ∃ b o, a = some ⟨b, o, none⟩ ∧ ∀ j, j < xs.length → w.cell? ⟨b, o + j, none⟩ = xs[j]?
theorem valsIn.below {w w' : World} {a : Option Addr} {xs : List Value} (h : valsIn w a xs) {B : Nat} (hb : Below B w w') (hB : w.heap.size ≤ B) : valsIn w' a xs := by
  rcases h with h | ⟨bb, bo, h1, h3⟩
  · exact Or.inl h
  · refine Or.inr ⟨bb, bo, h1, fun j hj => ?_⟩
    have e := h3 j hj
    rw [List.getElem?_eq_getElem hj] at e ⊢
    exact (hb.cell (p := ⟨bb, bo + j, none⟩) (Nat.lt_of_lt_of_le (block_lt_of_cell e) hB)).trans e
theorem valsIn.at {w : World} {a : Option Addr} {xs : List Value} (h : valsIn w a xs) (j : Nat) (hj : j < xs.length) : ∃ b o, a = some ⟨b, o, none⟩ ∧ w.cell? ⟨b, o + j, none⟩ = some xs[j] := by
  rcases h with h | ⟨bb, bo, h1, h3⟩
  · subst h; simp at hj
  · exact ⟨bb, bo, h1, by rw [h3 j hj, List.getElem?_eq_getElem hj]⟩
/-- A row of the call's own. -/
def rowV (w : World) (base : Nat) (e : TypeId) (v : Value) (xs : List Value) : Prop := w.ownsRow base e 1 v xs.length xs
theorem rowV.nil (w : World) (base : Nat) (e : TypeId) : rowV w base e (.slice none 0 0) [] := World.ownsRow_nil w base e 1
theorem rowV.vals {w : World} {base : Nat} {e : TypeId} {v : Value} {xs : List Value} (h : rowV w base e v xs) : ∃ a c, v = .slice a xs.length c ∧ xs.length ≤ c ∧ valsIn w a xs ∧ (a = none → c = 0) := by
  rcases h.2 with ⟨rfl, h0⟩ | ⟨g, cap, cur, rfl, hb, hh, hn, hc, hs, ht⟩
  · have : xs = [] := List.eq_nil_of_length_eq_zero h0
    subst this
    exact ⟨none, 0, rfl, Nat.le_refl _, Or.inl rfl, fun _ => rfl⟩
  · refine ⟨some ⟨g, 0, none⟩, cap, rfl, hn, Or.inr ⟨g, 0, rfl, fun j hj => ?_⟩, fun h => by cases h⟩
    rw [Nat.zero_add, World.ownsRow.cellAt h j (by omega)]
theorem rowV.below {w w' : World} {base : Nat} {e : TypeId} {v : Value} {xs : List Value} (h : rowV w base e v xs) {B : Nat} (hb : Below B w w') (hB : w.heap.size ≤ B) : rowV w' base e v xs := by
  have hg : w.grownBy w' none := ⟨hb.os, hb.tape, hb.output, hb.size, fun k hk _ => hb.block k (by omega)⟩
  refine World.ownsRow.kept h hg ?_
  cases v.ownBlock with
  | none => exact Or.inl rfl
  | some g => exact Or.inr (by simp)
theorem rowV.mono {w : World} {base base' : Nat} {e : TypeId} {v : Value} {xs : List Value} (h : rowV w base e v xs) (hb : base' ≤ base) : rowV w base' e v xs := by
  rcases h.2 with ⟨rfl, h0⟩ | ⟨g', cap, cur, rfl, hba, hh, hn, hc, hs, ht⟩
  · exact ⟨h.1, Or.inl ⟨rfl, h0⟩⟩
  · exact ⟨h.1, Or.inr ⟨g', cap, cur, rfl, by omega, hh, hn, hc, hs, ht⟩⟩
theorem rowV.grew {w w' : World} {base : Nat} {e : TypeId} {v : Value} {xs : List Value} (h : rowV w base e v xs) (hB : base ≤ w.heap.size) (hg : w.grownBy w' v.ownBlock) : Below base w w' :=
  own_below (Below.refl base w) h hg hB
theorem rowV.past {w w' : World} {base : Nat} {e : TypeId} {v v0 : Value} {xs : List Value} (h : rowV w base e v xs) (hg : w.grownBy w' v0.ownBlock) (h0 : ∀ k, v0.ownBlock = some k → k < base) : rowV w' base e v xs := by
  rcases h.2 with ⟨rfl, h0⟩ | ⟨g', cap, cur, rfl, hba, hh, hn, hc, hs, ht⟩
  · exact ⟨h.1, Or.inl ⟨rfl, h0⟩⟩
  · refine ⟨h.1, Or.inr ⟨g', cap, cur, rfl, hba, ?_, hn, hc, hs, ht⟩⟩
    rw [hg.block g' (Array.getElem?_eq_some_iff.1 hh).1 (fun e => by have := h0 g' e.symm; omega)]
    exact hh
theorem rowV.of {w : World} {base : Nat} {e : TypeId} {a : Option Addr} {n c : Nat} {xs : List Value} (h : rowV w base e (.slice a n c) xs) : n = xs.length ∧ xs.length ≤ c ∧ valsIn w a xs ∧ (a = none → c = 0) := by
  obtain ⟨a', c', e1, h1, h2, h3⟩ := h.vals
  cases e1
  exact ⟨rfl, h1, h2, h3⟩
theorem rowIs.grew {w w' : World} {base : Nat} {v : Value} {xs : List UInt8} (h : rowIs w base v xs) (hB : base ≤ w.heap.size) (hg : w.grownBy w' v.ownBlock) : Below base w w' :=
  own_below (Below.refl base w) h hg hB
theorem rowIs.empty (w : World) (base : Nat) (hb : base ≤ w.heap.size) : rowIs (w.alloc (.cells #[] 5 (0, 0))) base (.slice (some ⟨w.heap.size, 0, none⟩) 0 0) [] :=
  rowIs.lit w base [] #[] rfl 0 rfl hb (by simp)
theorem rowIs.mono {w : World} {base base' : Nat} {v : Value} {xs : List UInt8} (h : rowIs w base v xs) (hb : base' ≤ base) : rowIs w base' v xs := by
  rcases h.2 with ⟨rfl, h0⟩ | ⟨g', cap, cur, rfl, hba, hh, hn, hc, hs, ht⟩
  · exact ⟨h.1, Or.inl ⟨rfl, h0⟩⟩
  · exact ⟨h.1, Or.inr ⟨g', cap, cur, rfl, by omega, hh, hn, hc, hs, ht⟩⟩
theorem rowIs.other {w : World} {base : Nat} {v : Value} {l : List UInt8} (h : rowIs w base v l) {a : Addr} (ha : a.block < base) (u : Value) : rowIs (w.setCell a u) base v l := ownsRow_setCell_below h ha u
theorem rowIs.form {w : World} {base : Nat} {v : Value} {l : List UInt8} (h : rowIs w base v l) (hl : l ≠ []) : ∃ g c, v = .slice (some ⟨g, 0, none⟩) l.length c ∧ base ≤ g ∧ g < w.heap.size ∧ l.length ≤ c ∧ ∀ j, j < l.length → w.cell? ⟨g, j, none⟩ = some (.int .u8 (V (l.getD j 0))) ∧ w.frozen? ⟨g, j, none⟩ = false := by
  have hp : 0 < l.length := List.length_pos_iff.2 hl
  obtain ⟨g, c, rfl, h1, h2⟩ := World.ownsRow.form h hp
  obtain ⟨a', c', e, h3, h4, _⟩ := rowIs.bytes h
  cases e
  refine ⟨g, c, rfl, h1, h2, h3, fun j hj => ⟨?_, World.ownsRow.frozenAt h j⟩⟩
  rcases h4 with h4 | ⟨bb, bo, e, h5⟩
  · exact absurd h4 hl
  · cases e
    have := h5 j hj
    rwa [Nat.zero_add] at this
theorem rowIs.stored {w : World} {base g c n : Nat} {l : List UInt8} (h : rowIs w base (.slice (some ⟨g, 0, none⟩) n c) l) (j : Nat) (x : UInt8) : rowIs (w.setCell ⟨g, j, none⟩ (.int .u8 (V x))) base (.slice (some ⟨g, 0, none⟩) n c) (l.set j x) := by
  obtain ⟨a', c', e, h3, h4, _⟩ := rowIs.bytes h
  cases e
  have := (World.ownsRow.stored h j (.int .u8 (V x))).1
  unfold rowIs
  rw [List.length_set]
  unfold bvals at this ⊢
  rw [List.map_set]
  exact this
theorem valsIn.drop {w : World} {a : Option Addr} {xs : List Value} (h : valsIn w a xs) (k : Nat) : valsIn w (a.map fun x => x.add k) (xs.drop k) := by
  rcases h with h | ⟨bb, bo, rfl, h2⟩
  · exact Or.inl (by rw [h, List.drop_nil])
  · refine Or.inr ⟨bb, bo + k, by show some (Addr.add _ k) = _; rw [Addr.add_lit], fun j hj => ?_⟩
    rw [List.length_drop] at hj
    rw [show bo + k + j = bo + (k + j) by omega, h2 (k + j) (by omega), List.getElem?_drop]
end Go.Proofs.YtfhlcondnaahiaaDoor.Gl
