/- A store in memory, and the contracts of its small calls. -/
import Derived.Test.YthefledeoiegjaaMp
namespace Go.Proofs.Ythefledeoiegjaa
open Go.RowKit Go.MapKept
open Go.ChangeMaps (setBlock)

/-- A store's state. -/
structure Sh where
  room : Int
  objs : List Ent
  steps : Int
  off : Bool
  armed : Bool
  left : Int
def shCells (s : Sh) (m : Option Nat) : List Value := [.int .i64 s.room, .map m, .int .i64 s.steps, .bool s.off, .bool s.armed, .int .i64 s.left]
/-- Numbers that a store has. -/
structure ShOk (s : Sh) : Prop where
  room : 0 ≤ s.room ∧ s.room ≤ 1073741824
  steps : 0 ≤ s.steps ∧ s.steps ≤ 1000000000
  left : 0 ≤ s.left ∧ s.left ≤ 9223372036854775807
/-- Block k is a store; its map, if it has one, is block m. -/
structure ShAt (w : World) (B k : Nat) (m : Option Nat) (s : Sh) : Prop where
  lo : B ≤ k
  is : blockIs w k (shCells s m) 50
  nil : m = none → s.objs = []
  map : ∀ g, m = some g → B ≤ g ∧ mapIs w g s.objs
/-- All is as it was, but block k and the map m; a new map is a new block. -/
structure Step (k : Nat) (m : Option Nat) (w : World) (m' : Option Nat) (w' : World) : Prop where
  os : w'.os = w.os
  tape : w'.tape = w.tape
  output : w'.output = w.output
  size : w.heap.size ≤ w'.heap.size
  block : ∀ j, j < w.heap.size → j ≠ k → m ≠ some j → w'.heap[j]? = w.heap[j]?
  new : m' = m ∨ ∀ g, m' = some g → w.heap.size ≤ g
theorem Step.refl (k : Nat) (m : Option Nat) (w : World) : Step k m w m w := ⟨rfl, rfl, rfl, Nat.le_refl _, fun _ _ _ _ => rfl, Or.inl rfl⟩
theorem Step.trans {k : Nat} {m m1 m2 : Option Nat} {x y z : World} (h : Step k m x m1 y) (g : Step k m1 y m2 z) : Step k m x m2 z :=
  ⟨g.os.trans h.os, g.tape.trans h.tape, g.output.trans h.output, Nat.le_trans h.size g.size, fun j hj hk hm => by
    have h1 : m1 ≠ some j := by
      rcases h.new with rfl | hb
      · exact hm
      · intro e
        have := hb j e
        omega
    exact (g.block j (Nat.lt_of_lt_of_le hj h.size) hk h1).trans (h.block j hj hk hm), by
    rcases g.new with rfl | hb
    · exact h.new
    · exact Or.inr fun b e => Nat.le_trans h.size (hb b e)⟩
theorem Step.of_below {k : Nat} {m : Option Nat} {w w' : World} (h : Below w.heap.size w w') : Step k m w m w' := ⟨h.os, h.tape, h.output, h.size, fun j hj _ _ => h.block j hj, Or.inl rfl⟩
theorem Step.setCell {k : Nat} {m m1 : Option Nat} {x y : World} (h : Step k m x m1 y) (o : Nat) (v : Value) : Step k m x m1 (y.setCell ⟨k, o, none⟩ v) :=
  ⟨h.os, h.tape, h.output, by simpa [World.setCell] using h.size, fun j hj hk hm => by
    rw [heap_setCell_other y ⟨k, o, none⟩ j v hk]
    exact h.block j hj hk hm, h.new⟩
theorem Step.drewN {k : Nat} {m m1 : Option Nat} {x y : World} (h : Step k m x m1 y) (n : Nat) : Step k m x m1 (y.drewN n) := ⟨h.os, h.tape, h.output, h.size, h.block, h.new⟩
theorem Step.alloc {k : Nat} {m m1 : Option Nat} {x y : World} (h : Step k m x m1 y) (o : Obj) : Step k m x m1 (y.alloc o) :=
  ⟨h.os, h.tape, h.output, Nat.le_trans h.size (by simp), fun j hj hk hm => by
    rw [Below.heap_alloc y o j (Nat.lt_of_lt_of_le hj h.size)]
    exact h.block j hj hk hm, h.new⟩
theorem Step.toBelow {k B : Nat} {m m' : Option Nat} {w w' : World} (h : Step k m w m' w') (hk : B ≤ k) (hm : ∀ g, m = some g → B ≤ g) (hs : B ≤ w.heap.size) : Below B w w' :=
  ⟨h.os, h.tape, h.output, h.size, fun j hj => h.block j (by omega) (by omega) (fun e => by have := hm j e; omega)⟩
theorem ShAt.below {w w' : World} {B k : Nat} {m : Option Nat} {s : Sh} (h : ShAt w B k m s) (hb : Below w.heap.size w w') : ShAt w' B k m s :=
  ⟨h.lo, h.is.below hb h.is.lt, h.nil, fun g e => ⟨(h.map g e).1, (h.map g e).2.of_block (hb.block g (h.map g e).2.lt)⟩⟩
theorem ShAt.mono {w : World} {B B' k : Nat} {m : Option Nat} {s : Sh} (h : ShAt w B k m s) (hB : B' ≤ B) : ShAt w B' k m s :=
  ⟨by have := h.lo; omega, h.is, h.nil, fun g e => ⟨by have := (h.map g e).1; omega, (h.map g e).2⟩⟩
theorem ShAt.step_below {w w' : World} {B k : Nat} {m m' : Option Nat} {s : Sh} (h : ShAt w B k m s) (hs : Step k m w m' w') : Below B w w' :=
  hs.toBelow h.lo (fun g e => (h.map g e).1) (by have := h.lo; have := h.is.lt; omega)
/-- Another block of cells stays. -/
theorem ShAt.keeps {w w' : World} {B k : Nat} {m m' : Option Nat} {s : Sh} (h : ShAt w B k m s) (hs : Step k m w m' w') {b : Nat} {cs : List Value} {t : TypeId} (hb : blockIs w b cs t) (hn : b ≠ k) : blockIs w' b cs t := by
  have e := hs.block b hb.lt hn (fun e => (h.map b e).2.ne_block hb rfl)
  unfold blockIs at hb ⊢
  rw [e, hb]
theorem ShAt.keeps_cell {w w' : World} {B k : Nat} {m m' : Option Nat} {s : Sh} (h : ShAt w B k m s) (hs : Step k m w m' w') {p : Addr} {v : Value} (hp : w.cell? p = some v) (hn : p.block ≠ k) : w'.cell? p = some v := by
  rw [← hp]
  refine World.cell?_of_block (w := w) (hs.block p.block (block_lt_of_cell hp) hn fun e => ?_)
  obtain ⟨es, clock, h1, _⟩ := (h.map _ e).2
  obtain ⟨b, o, spot⟩ := p
  have hq : w.cell? ⟨b, o, spot⟩ = none := by simp [World.cell?, h1]
  rw [hq] at hp
  cases hp
theorem ShAt.c0 {w : World} {B k : Nat} {m : Option Nat} {s : Sh} (h : ShAt w B k m s) : w.cell? ⟨k, 0, none⟩ = some (.int .i64 s.room) := by rw [h.is.cell]; rfl
theorem ShAt.c1 {w : World} {B k : Nat} {m : Option Nat} {s : Sh} (h : ShAt w B k m s) : w.cell? ⟨k, 1, none⟩ = some (.map m) := by rw [h.is.cell]; rfl
theorem ShAt.c2 {w : World} {B k : Nat} {m : Option Nat} {s : Sh} (h : ShAt w B k m s) : w.cell? ⟨k, 2, none⟩ = some (.int .i64 s.steps) := by rw [h.is.cell]; rfl
theorem ShAt.c3 {w : World} {B k : Nat} {m : Option Nat} {s : Sh} (h : ShAt w B k m s) : w.cell? ⟨k, 3, none⟩ = some (.bool s.off) := by rw [h.is.cell]; rfl
theorem ShAt.c4 {w : World} {B k : Nat} {m : Option Nat} {s : Sh} (h : ShAt w B k m s) : w.cell? ⟨k, 4, none⟩ = some (.bool s.armed) := by rw [h.is.cell]; rfl
theorem ShAt.c5 {w : World} {B k : Nat} {m : Option Nat} {s : Sh} (h : ShAt w B k m s) : w.cell? ⟨k, 5, none⟩ = some (.int .i64 s.left) := by rw [h.is.cell]; rfl
theorem ShAt.free {w : World} {B k : Nat} {m : Option Nat} {s : Sh} (h : ShAt w B k m s) (j : Nat) : w.frozen? ⟨k, j, none⟩ = false := h.is.free j
theorem mapIs.setCell {w : World} {g : Nat} {L : List Ent} (h : mapIs w g L) {a : Addr} (ha : g ≠ a.block) (v : Value) : mapIs (w.setCell a v) g L := h.of_block (heap_setCell_other w a g v ha)
/-- A store into a block of cells that isn't the store's own. -/
theorem ShAt.below_set {w : World} {B k c : Nat} {m : Option Nat} {s : Sh} (h : ShAt w B k m s) (hn : c ≠ k) {o : Nat} (v : Value) (hc : ∀ es clock, w.heap[c]? ≠ some (.map es clock)) : ShAt (w.setCell ⟨c, o, none⟩ v) B k m s :=
  ⟨h.lo, blockIs.other h.is _ _ (fun e => hn e.symm), h.nil, fun g e => ⟨(h.map g e).1, (h.map g e).2.setCell (fun q => by
    obtain ⟨es, clock, h1, _⟩ := (h.map g e).2
    exact hc es clock (by rw [← h1]; exact congrArg _ q.symm)) v⟩⟩
/-- A store into one of its cells. -/
theorem ShAt.put {w : World} {B k : Nat} {m : Option Nat} {s : Sh} (h : ShAt w B k m s) (j : Nat) (v : Value) (s' : Sh) (hs : (shCells s m).set j v = shCells s' m) (ho : s'.objs = s.objs) : ShAt (w.setCell ⟨k, j, none⟩ v) B k m s' := by
  refine ⟨h.lo, ?_, fun e => by rw [ho]; exact h.nil e, fun g e => ⟨(h.map g e).1, by rw [ho]; exact (h.map g e).2.setCell ((h.map g e).2.ne_block h.is) v⟩⟩
  have := h.is.set j v
  rw [hs] at this
  exact this
theorem ShAt.setSteps {w : World} {B k : Nat} {m : Option Nat} {s : Sh} (h : ShAt w B k m s) (n : Int) : ShAt (w.setCell ⟨k, 2, none⟩ (.int .i64 n)) B k m { s with steps := n } := h.put 2 _ _ rfl rfl
theorem ShAt.setOff {w : World} {B k : Nat} {m : Option Nat} {s : Sh} (h : ShAt w B k m s) (n : Bool) : ShAt (w.setCell ⟨k, 3, none⟩ (.bool n)) B k m { s with off := n } := h.put 3 _ _ rfl rfl
theorem ShAt.setArmed {w : World} {B k : Nat} {m : Option Nat} {s : Sh} (h : ShAt w B k m s) (n : Bool) : ShAt (w.setCell ⟨k, 4, none⟩ (.bool n)) B k m { s with armed := n } := h.put 4 _ _ rfl rfl
theorem ShAt.setLeft {w : World} {B k : Nat} {m : Option Nat} {s : Sh} (h : ShAt w B k m s) (n : Int) : ShAt (w.setCell ⟨k, 5, none⟩ (.int .i64 n)) B k m { s with left := n } := h.put 5 _ _ rfl rfl

/-- A store without anything. -/
def newSh (room : Int) : Sh := ⟨room, [], 0, false, false, 0⟩
set_option maxRecDepth 100000 in
set_option maxHeartbeats 1000000 in
theorem new_any (room : Int) (w : World) (h0 : 0 ≤ room) (h1 : room ≤ 1073741824) :
    Calls Try.prog 5 #[.int .i64 room] w fun e w' => ∃ k, e = .returned (.tuple #[.pointer (some ⟨k, 0, none⟩), .int .i64 0]) ∧ ShAt w' w.heap.size k none (newSh room) ∧ Below w.heap.size w w' := by
  go_enter Try.func5, Try.ntmps5
  go_wp2_with fail
  go_ret2
  refine ⟨w.heap.size, rfl, ⟨Nat.le_refl _, ?_, fun _ => rfl, fun g e => by cases e⟩, (Below.refl _ _).alloc (Nat.le_refl _) _⟩
  exact blockIs.new w (shCells (newSh room) none) _
set_option maxRecDepth 100000 in
theorem ready_any (B k : Nat) (m : Option Nat) (s : Sh) (w : World) (h : ShAt w B k m s) :
    Calls Try.prog 18 #[.pointer (some ⟨k, 0, none⟩)] w fun e w' => e = .returned (.int .i64 (if s.off then 9 else 0)) ∧ w = w' := by
  have c3 := h.c3
  clear h
  generalize s.off = o at *
  cases o
  all_goals
    go_enter Try.func18, Try.ntmps18
    go_wp2_with fail
    go_ret
    exact ⟨rfl, rfl⟩
set_option maxRecDepth 100000 in
theorem off_any (B k : Nat) (m : Option Nat) (s : Sh) (w : World) (h : ShAt w B k m s) :
    Calls Try.prog 14 #[.pointer (some ⟨k, 0, none⟩)] w fun e w' => e = .returned (.bool s.off) ∧ w = w' := by
  have c3 := h.c3
  clear h
  generalize s.off = o at *
  go_enter Try.func14, Try.ntmps14
  go_wp2_with fail
  go_ret
  exact ⟨rfl, rfl⟩
/-- A change that nothing stands against. -/
def spent (s : Sh) : Sh := if s.armed then (if s.left = 0 then { s with off := true } else { s with left := s.left - 1, steps := s.steps + 1 }) else { s with steps := s.steps + 1 }
def spentE (s : Sh) : Int := if s.armed = true ∧ s.left = 0 then 9 else 0
set_option maxRecDepth 100000 in
set_option maxHeartbeats 1000000 in
theorem spend_any (B k : Nat) (m : Option Nat) (s : Sh) (w : World) (h : ShAt w B k m s) (ok : ShOk s) :
    Calls Try.prog 21 #[.pointer (some ⟨k, 0, none⟩)] w fun e w' => e = .returned (.int .i64 (spentE s)) ∧ ShAt w' B k m (spent s) ∧ Step k m w m w' := by
  have H := Lib.hid h
  have c2 := h.c2
  have c3 := h.c3
  have c4 := h.c4
  have c5 := h.c5
  have f2 := h.free 2
  have f3 := h.free 3
  have f5 := h.free 5
  obtain ⟨⟨r1, r2⟩, ⟨s1, s2⟩, ⟨l1, l2⟩⟩ := ok
  clear h
  obtain ⟨room, objs, steps, off, armed, left⟩ := s
  dsimp only at *
  cases armed with
  | false =>
    go_enter Try.func21, Try.ntmps21
    go_wp2_with fail
    go_ret
    exact ⟨rfl, H.out.setSteps _, (Step.refl _ _ _).setCell _ _⟩
  | true =>
    by_cases h0 : left = 0
    · subst h0
      go_enter Try.func21, Try.ntmps21
      go_wp2_with fail
      go_ret
      exact ⟨rfl, H.out.setOff _, (Step.refl _ _ _).setCell _ _⟩
    · have e1 : spentE ⟨room, objs, steps, off, true, left⟩ = 0 := by simp [spentE, h0]
      have e2 : spent ⟨room, objs, steps, off, true, left⟩ = ⟨room, objs, steps + 1, off, true, left - 1⟩ := by simp [spent, h0]
      rw [e1, e2]
      clear e1 e2
      have t1 : (left == 0) = false := by simpa using h0
      go_enter Try.func21, Try.ntmps21
      go_wp2_with fail
      go_ret
      exact ⟨rfl, (H.out.setLeft _).setSteps _, ((Step.refl _ _ _).setCell _ _).setCell _ _⟩
theorem ShOk.spent {s : Sh} (h : ShOk s) (hs : s.steps < 1000000000) : ShOk (spent s) := by
  obtain ⟨⟨r1, r2⟩, ⟨s1, s2⟩, ⟨l1, l2⟩⟩ := h
  unfold Go.Proofs.Ythefledeoiegjaa.spent
  split
  · split
    · exact ⟨⟨r1, r2⟩, ⟨s1, s2⟩, ⟨l1, l2⟩⟩
    · exact ⟨⟨r1, r2⟩, ⟨by show 0 ≤ s.steps + 1; omega, by show s.steps + 1 ≤ _; omega⟩, ⟨by show 0 ≤ s.left - 1; omega, by show s.left - 1 ≤ _; omega⟩⟩
  · exact ⟨⟨r1, r2⟩, ⟨by show 0 ≤ s.steps + 1; omega, by show s.steps + 1 ≤ _; omega⟩, ⟨l1, l2⟩⟩
/-- A change that changes nothing. -/
def nudged (s : Sh) : Sh := if s.off then s else spent s
def nudgedE (s : Sh) : Int := if s.off then 9 else spentE s
/-- Armed. -/
def armedSh (s : Sh) (n : Int) : Sh := { s with armed := true, left := max n 0 }
set_option maxRecDepth 100000 in
set_option maxHeartbeats 1000000 in
theorem arm_any (B k : Nat) (m : Option Nat) (s : Sh) (n : Int) (w : World) (h : ShAt w B k m s) (_hn : (Lit.int .i64 n).wf = true) :
    Calls Try.prog 7 #[.pointer (some ⟨k, 0, none⟩), .int .i64 n] w fun e w' => e = .returned (.tuple #[]) ∧ ShAt w' B k m (armedSh s n) ∧ Step k m w m w' := by
  have H := Lib.hid h
  have c4 := h.c4
  have c5 := h.c5
  have f4 := h.free 4
  have f5 := h.free 5
  clear h
  go_enter Try.func7, Try.ntmps7
  go_wp2_with fail
  go_end0
  exact ⟨rfl, (H.out.setArmed true).setLeft _, ((Step.refl _ _ _).setCell _ _).setCell _ _⟩
end Go.Proofs.Ythefledeoiegjaa
