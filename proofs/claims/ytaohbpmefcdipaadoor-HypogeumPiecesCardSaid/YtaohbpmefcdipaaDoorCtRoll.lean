/- A roll in memory; what its window says. -/
import Derived.Test.YtaohbpmefcdipaaDoorCtRow
import Derived.Laws.MakeOwn
namespace Go.Proofs.YtaohbpmefcdipaaDoor.Ct
open Go.RowKit

/-- The cells of a roll. -/
def rollTail (wb n at_ : Nat) (s : W) : List Value := [.slice (some ⟨wb, 0, none⟩) n n, .int .i64 (at_ : Int), .int .u64 (U s)]
def rollCells (m lead : W) (wb n at_ : Nat) (s : W) : List Value := modCells m ++ (cellsW (tab lead m) 256 ++ rollTail wb n at_ s)
def noTail : List Value := [.slice none 0 0, .int .i64 0, .int .u64 0]
def noRoll : List Value := noMod ++ (noughts 256 ++ noTail)
theorem zero_roll (w : World) : (zeroValue 111).run Tryd.prog w = .ok (.agg noRoll.toArray) w := by kernel_rfl
theorem info_roll : (Tryd.prog.info? 111).map (·.size) = some 516 := by kernel_rfl
/-- A roll that was just laid. -/
def newCells (m : W) (wb n : Nat) : List Value := modCells m ++ (noughts 256 ++ rollTail wb n 0 0)
theorem build_roll (m : W) (wb n : Nat) (w : World) : (Instr.build 111 #[(0, .agg (modCells m).toArray), (2, .slice (some ⟨wb, 0, none⟩) n n)]).run Tryd.prog w = .ok (.agg (newCells m wb n).toArray) w := by kernel_rfl
/-- Memory turns in blocks g and b alone, of those that were there. -/
structure But2 (g b : Nat) (w w' : World) : Prop where
  os : w'.os = w.os
  tape : w'.tape = w.tape
  output : w'.output = w.output
  size : w.heap.size ≤ w'.heap.size
  block : ∀ k, k < w.heap.size → k ≠ g → k ≠ b → w'.heap[k]? = w.heap[k]?
theorem But2.refl (g b : Nat) (w : World) : But2 g b w w := ⟨rfl, rfl, rfl, Nat.le_refl _, fun _ _ _ _ => rfl⟩
theorem But2.trans {g b : Nat} {x y z : World} (h : But2 g b x y) (k : But2 g b y z) : But2 g b x z :=
  ⟨k.os.trans h.os, k.tape.trans h.tape, k.output.trans h.output, Nat.le_trans h.size k.size, fun i hi h1 h2 => (k.block i (Nat.lt_of_lt_of_le hi h.size) h1 h2).trans (h.block i hi h1 h2)⟩
theorem But2.of_below {g b : Nat} {x y : World} (h : Below x.heap.size x y) : But2 g b x y := ⟨h.os, h.tape, h.output, h.size, fun k hk _ _ => h.block k hk⟩
theorem But2.drew {g b : Nat} {x y : World} (h : But2 g b x y) : But2 g b x y.drew := ⟨h.os, h.tape, h.output, h.size, h.block⟩
theorem But2.drewN {g b : Nat} {x y : World} (h : But2 g b x y) (n : Nat) : But2 g b x (y.drewN n) := ⟨h.os, h.tape, h.output, h.size, h.block⟩
theorem But2.setCell {g b : Nat} {x y : World} (h : But2 g b x y) (a : Addr) (v : Value) (ha : a.block = g ∨ a.block = b) : But2 g b x (y.setCell a v) :=
  ⟨h.os, h.tape, h.output, by simpa [World.setCell] using h.size, fun k hk h1 h2 => by
    rw [heap_setCell_other y a k v (by rcases ha with e | e <;> omega)]
    exact h.block k hk h1 h2⟩
theorem But2.alloc {g b : Nat} {x y : World} (h : But2 g b x y) (o : Obj) : But2 g b x (y.alloc o) :=
  h.trans (But2.of_below ((Below.refl _ _).alloc (Nat.le_refl _) o))
theorem But2.below {g b B : Nat} {x y : World} (h : But2 g b x y) (hg : B ≤ g) (hb : B ≤ b) (hB : B ≤ x.heap.size) : Below B x y :=
  ⟨h.os, h.tape, h.output, h.size, fun k hk => h.block k (by omega) (by omega) (by omega)⟩
/-- A slice's bytes, none of them in blocks g or b. -/
def bytesOff (w : World) (g b : Nat) (a : Option Addr) (l : List UInt8) : Prop := l = [] ∨ ∃ bb bo, a = some ⟨bb, bo, none⟩ ∧ bb ≠ g ∧ bb ≠ b ∧ ∀ j, j < l.length → w.cell? ⟨bb, bo + j, none⟩ = some (.int .u8 (V (l.getD j 0)))
theorem bytesOff.but {w w' : World} {g b : Nat} {a : Option Addr} {l : List UInt8} (h : bytesOff w g b a l) (hb : But2 g b w w') : bytesOff w' g b a l := by
  rcases h with h | ⟨bb, bo, h1, h2, h3, h4⟩
  · exact Or.inl h
  · exact Or.inr ⟨bb, bo, h1, h2, h3, fun j hj => (World.cell?_of_block (w := w) (hb.block bb (block_lt_of_cell (h4 j hj)) h2 h3)).trans (h4 j hj)⟩

/-- Blocks g and b hold a roll whose window's bytes are L, the eldest first. -/
structure RollAt (w : World) (g b : Nat) (m : W) (L : List UInt8) (lead : W) (at_ : Nat) (ring : List UInt8) : Prop where
  hm : 8 ≤ dgw m
  ne : b ≠ g
  cells : blockIs w g (rollCells m lead b L.length at_ (ofW m L)) 111
  bytes : blockIs w b (bvals ring) 5
  len : ring.length = L.length
  lt : at_ < ring.length
  win : L = ring.drop at_ ++ ring.take at_
  lead_ : lead.toNat = Pm.pr (2 ^ (8 * (L.length - 1))) m.toNat
  short : L.length ≤ 1024
def rollIs (w : World) (g b : Nat) (m : W) (L : List UInt8) : Prop := ∃ lead at_ ring, RollAt w g b m L lead at_ ring
/-- A byte more: the eldest goes. -/
def slide (L : List UInt8) (x : UInt8) : List UInt8 := L.tail ++ [x]
theorem slide_length (L : List UInt8) (x : UInt8) (h : 0 < L.length) : (slide L x).length = L.length := by
  unfold slide
  rw [List.length_append, List.length_tail]
  simp
  omega
def slides (L l : List UInt8) : List UInt8 := l.foldl slide L
theorem slides_take (L l : List UInt8) (k : Nat) (h : k < l.length) : slides L (l.take (k + 1)) = slide (slides L (l.take k)) (l.getD k 0) := by
  unfold slides
  rw [List.take_succ_eq_append_getElem h, List.foldl_append]
  simp [h]
theorem slides_length (L l : List UInt8) (h : 0 < L.length) : (slides L l).length = L.length := by
  induction l generalizing L with
  | nil => rfl
  | cons x l ih =>
    show (slides (slide L x) l).length = _
    rw [ih _ (by rw [slide_length _ _ h]; exact h), slide_length _ _ h]
/-- The sum without the eldest byte. -/
def restW (m lead : W) (L : List UInt8) : W := ofW m L ^^^ tab lead m (L.headD 0).toNat
theorem rest_val (m lead : W) (L : List UInt8) (hm : 8 ≤ dgw m) (h : 0 < L.length) (hl : lead.toNat = Pm.pr (2 ^ (8 * (L.length - 1))) m.toNat) : (restW m lead L).toNat = Pm.pr (bv L.tail) m.toNat := by
  have hm0 := ne_of_deg hm
  have hm' := ne_toNat hm0
  cases L with
  | nil => simp at h
  | cons b L =>
    unfold restW
    rw [BitVec.toNat_xor, of_val m hm, bv_cons]
    show _ ^^^ (tab lead m b.toNat).toNat = Pm.pr (bv L) _
    rw [tab_toNat _ _ hm0 _ b.toNat_lt, hl, Pm.pr_pm_right _ _ _ hm', Pm.pm_pow, Pm.pr_add _ _ _ hm', List.length_cons, Nat.add_sub_cancel, Nat.xor_comm, ← Nat.xor_assoc, Nat.xor_self, Nat.zero_xor]
theorem push_val (m lead : W) (L : List UInt8) (x : UInt8) (hm : 8 ≤ dgw m) (h : 0 < L.length) (hl : lead.toNat = Pm.pr (2 ^ (8 * (L.length - 1))) m.toNat) : onW m (restW m lead L) x = ofW m (slide L x) := by
  have hm' := ne_toNat (ne_of_deg hm)
  have e := rest_val m lead L hm h hl
  apply BitVec.eq_of_toNat_eq
  rw [onW_toNat m _ x hm (by rw [e]; exact Pm.pr_lt _ _ hm'), e, pr_shift _ _ _ _ hm', of_val m hm]
  unfold slide
  rw [bv_snoc]
/-- The ring goes on. -/
theorem ring_head (ring : List UInt8) (k : Nat) (h : k < ring.length) : (ring.drop k ++ ring.take k).headD 0 = ring.getD k 0 := by
  rw [List.drop_eq_getElem_cons h]
  simp [h]
theorem ring_slide (ring : List UInt8) (k : Nat) (h : k < ring.length) (x : UInt8) : slide (ring.drop k ++ ring.take k) x = (if k + 1 = ring.length then ring.set k x else (ring.set k x).drop (k + 1) ++ (ring.set k x).take (k + 1)) := by
  unfold slide
  have e1 : (ring.drop k ++ ring.take k).tail = ring.drop (k + 1) ++ ring.take k := by
    rw [List.drop_eq_getElem_cons h, List.cons_append, List.tail_cons]
  have e2 : (ring.set k x).take (k + 1) = ring.take k ++ [x] := by
    rw [List.take_succ_eq_append_getElem (by simpa using h), List.take_set_of_le (Nat.le_refl _)]
    simp
  have e3 : (ring.set k x).drop (k + 1) = ring.drop (k + 1) := List.drop_set_of_lt (by omega)
  rw [e1]
  by_cases hk : k + 1 = ring.length
  · rw [if_pos hk, hk, List.drop_length, List.nil_append, ← e2, List.take_of_length_le (by simp; omega)]
  · rw [if_neg hk, e2, e3, List.append_assoc]
theorem slides_append (L a b : List UInt8) : slides L (a ++ b) = slides (slides L a) b := by unfold slides; rw [List.foldl_append]
theorem slides_eq (L l : List UInt8) (h : 0 < L.length) : slides L l = (L ++ l).drop l.length := by
  induction l generalizing L with
  | nil => simp [slides]
  | cons x l ih =>
    cases L with
    | nil => simp at h
    | cons y L =>
      show slides (slide (y :: L) x) l = _
      rw [ih _ (by rw [slide_length _ _ h]; exact h)]
      show ((L ++ [x]) ++ l).drop l.length = (y :: (L ++ x :: l)).drop (l.length + 1)
      rw [List.drop_succ_cons, List.append_assoc]
      rfl
theorem slides_same (L l : List UInt8) (h : 0 < L.length) (e : l.length = L.length) : slides L l = l := by
  rw [slides_eq L l h, e, List.drop_left]
/-- Of a new roll the sum is that of the last ones. -/
theorem slides_new (m : W) (hm : 8 ≤ dgw m) (n : Nat) (h : 0 < n) (l : List UInt8) : ofW m (slides (List.replicate n 0) l) = ofW m (l.drop (l.length - n)) := by
  rw [slides_eq _ _ (by rw [List.length_replicate]; exact h), List.drop_append, List.length_replicate, List.drop_replicate, of_zeros m hm]
end Go.Proofs.YtaohbpmefcdipaaDoor.Ct
