/- All but two blocks are as they were. -/
import Derived.Test.YtjkhokholcchfaaDoorLkw
import Derived.Test.YtjkhokholcchfaaDoorKpw
import Derived.Test.YtjkhokholcchfaaDoorGk
import Derived.Test.YtjkhokholcchfaaDoorTdt
import Derived.Test.YtjkhokholcchfaaDoorGp
namespace Go.Proofs.YtjkhokholcchfaaDoor
open Go.RowKit Sha

structure But2 (a b : Nat) (w w' : World) : Prop where
  os : w'.os = w.os
  tape : w'.tape = w.tape
  output : w'.output = w.output
  size : w.heap.size ≤ w'.heap.size
  block : ∀ k, k < w.heap.size → k ≠ a → k ≠ b → w'.heap[k]? = w.heap[k]?
theorem But2.refl (a b : Nat) (w : World) : But2 a b w w := ⟨rfl, rfl, rfl, Nat.le_refl _, fun _ _ _ _ => rfl⟩
theorem But2.trans {a b : Nat} {x y z : World} (h : But2 a b x y) (k : But2 a b y z) : But2 a b x z :=
  ⟨k.os.trans h.os, k.tape.trans h.tape, k.output.trans h.output, Nat.le_trans h.size k.size, fun i hi h1 h2 => (k.block i (Nat.lt_of_lt_of_le hi h.size) h1 h2).trans (h.block i hi h1 h2)⟩
theorem But2.left {a b : Nat} {w w' : World} (h : But a w w') : But2 a b w w' := ⟨h.os, h.tape, h.output, h.size, fun k hk h1 _ => h.block k hk h1⟩
theorem But2.right {a b : Nat} {w w' : World} (h : But b w w') : But2 a b w w' := ⟨h.os, h.tape, h.output, h.size, fun k hk _ h2 => h.block k hk h2⟩
theorem But2.of_below {a b : Nat} {w w' : World} (h : Below w.heap.size w w') : But2 a b w w' := ⟨h.os, h.tape, h.output, h.size, fun k hk _ _ => h.block k hk⟩
theorem But2.below {a b B : Nat} {w w' : World} (h : But2 a b w w') (h1 : B ≤ a) (h2 : B ≤ b) (hs : B ≤ w.heap.size) : Below B w w' := ⟨h.os, h.tape, h.output, h.size, fun k hk => h.block k (by omega) (by omega) (by omega)⟩
theorem But2.is {a b : Nat} {w w' : World} (h : But2 a b w w') {k : Nat} {cs : List Value} {t : TypeId} (hk : blockIs w k cs t) (h1 : k ≠ a) (h2 : k ≠ b) : blockIs w' k cs t := by
  unfold blockIs
  rw [h.block k hk.lt h1 h2]
  exact hk
theorem But2.cell {a b : Nat} {w w' : World} (h : But2 a b w w') {p : Addr} {v : Value} (hp : w.cell? p = some v) (h1 : p.block ≠ a) (h2 : p.block ≠ b) : w'.cell? p = some v := by
  rw [← hp]
  exact World.cell?_of_block (w := w) (h.block p.block (block_lt_of_cell hp) h1 h2)
theorem But2.drewN {a b : Nat} {x y : World} (h : But2 a b x y) (n : Nat) : But2 a b x (y.drewN n) := ⟨h.os, h.tape, h.output, h.size, h.block⟩
theorem But2.ok0 {X Y : World} {p : Pt} {a b : Nat} (h : p.ok0 X) (h1 : X.heap.size ≤ a) (h2 : X.heap.size ≤ b) (k : But2 a b X Y) : p.ok0 Y :=
  h.below (k.below h1 h2 (Nat.le_refl _))
theorem tables.but2 {X Y : World} {a b : Nat} (h : tables X) (k : But2 a b X Y) (ha : 1 ≠ a ∧ 0 ≠ a) (hb : 1 ≠ b ∧ 0 ≠ b) : tables Y :=
  ⟨fun j hj => k.cell (h.1 j hj) ha.1 hb.1, fun j x hj => k.cell (h.2.1 j x hj) ha.2 hb.2, Nat.lt_of_lt_of_le h.2.2.1 k.size, Nat.lt_of_lt_of_le h.2.2.2 k.size⟩
/-- The rows that came in, whatever becomes of two new blocks. -/
theorem partsW.two {X : World} {a : Option Addr} {ls : List (List UInt8)} {tb ub : Nat} (h : partsW X a ls) (ht : X.heap.size ≤ tb) (hu : X.heap.size ≤ ub) (j : Nat) (hj : j < ls.length) :
    ∃ pb po, a = some ⟨pb, po, none⟩ ∧ ∃ aj cj, ∀ Y, But2 tb ub X Y → Y.cell? ⟨pb, po + j, none⟩ = some (.slice aj (ls.getD j []).length cj) ∧ Pt.ok0 Y ⟨aj, cj, ls.getD j []⟩ := by
  rcases h with h | ⟨pb, po, h1, h2⟩
  · rw [h] at hj; exact absurd hj (Nat.not_lt_zero _)
  · obtain ⟨aj, cj, g1, g2, g3, g4, g5⟩ := h2 j hj
    have hl := block_lt_of_cell g1
    exact ⟨pb, po, h1, aj, cj, fun Y k => ⟨k.cell g1 (Nat.ne_of_lt (Nat.lt_of_lt_of_le hl ht)) (Nat.ne_of_lt (Nat.lt_of_lt_of_le hl hu)), But2.ok0 (p := ⟨aj, cj, ls.getD j []⟩) ⟨⟨g2, g3, g5⟩, g4⟩ ht hu k⟩⟩
/-- A tape's bytes don't lie where another tape is. -/
theorem tapeAt.far {X : World} {tb ub : Nat} {fa ga : Option Addr} {fc gc : Nat} {F G : List UInt8} {t u : Nat} (h : tapeAt X tb fa fc F t) (k : tapeAt X ub ga gc G u) : G = [] ∨ ∀ x, ga = some x → x.block ≠ tb := by
  rcases k.row with e | ⟨b, o, rfl, hc⟩
  · exact .inl e
  · by_cases h0 : G = []
    · exact .inl h0
    · right
      rintro x ⟨rfl⟩
      show b ≠ tb
      intro e
      have c := hc 0 (List.length_pos_iff.2 h0)
      rw [e, h.is.cell, Nat.add_zero] at c
      match o, c with
      | 0, c => cases c
      | 1, c => cases c
      | (n + 2), c => cases c
theorem tapeAt.other2 {X Y : World} {tb g : Nat} {fa : Option Addr} {fc : Nat} {F : List UInt8} {told : Nat} (h : tapeAt X tb fa fc F told) (k : But g X Y) (h1 : tb ≠ g) (h2 : F = [] ∨ ∀ x, fa = some x → x.block ≠ g) : tapeAt Y tb fa fc F told := by
  refine ⟨k.is h.is h1, ?_, h.apart, h.len, h.cap, h.most⟩
  rcases h2 with e | h2
  · exact .inl e
  rcases h.row with e | ⟨b, o, rfl, hc⟩
  · exact .inl e
  · exact .inr ⟨b, o, rfl, fun j hj => k.cell (hc j hj) (show b ≠ g from h2 ⟨b, o, none⟩ rfl)⟩
/-- What holds in a region while one of two tapes is told. -/
structure TwS (w : World) (a b : Nat) (X : World) : Prop where
  b : But2 a b w X
theorem TwS.size {w X : World} {a b : Nat} (_h : TwS w a b X) : X.heap.size ≤ X.heap.size := Nat.le_refl _
theorem TwS.trans {w X Y : World} {a b : Nat} (h : TwS w a b X) (k : Below X.heap.size X Y) : TwS w a b Y := ⟨h.b.trans (But2.of_below k)⟩
theorem TwS.drew {w X : World} {a b : Nat} (h : TwS w a b X) : TwS w a b X.drew := ⟨h.b.drewN 1⟩
theorem sealR_ok (H M : List UInt8) (kd : UInt8) (N b : List UInt8) (hN : N.length = 16) : (sealR H M kd [110] N b).2 = 0 ∧ (sealR H M kd [110] N b).1 ≠ [] ∧ (sealR H M kd [110] N b).1.length = b.length + 48 := by
  have e : sealR H M kd [110] N b = (wseal H M kd [110] N b, 0) := by
    unfold sealR
    rw [if_neg (by simp)]
  have hl := wseal_length H M kd [110] N b hN
  rw [e]
  exact ⟨rfl, fun h => by rw [show wseal H M kd [110] N b = [] from h] at hl; simp at hl, hl⟩
theorem str_n : str [110] = ⟨#[110]⟩ := rfl
theorem buildPenNil (R : List UInt8) (hR : R.length = 96) (w : World) : (Instr.build 60 #[(0, .agg (byteCells R).toArray)]).run Tryd.prog w = .ok (.agg (byteCells R ++ [Value.pointer none]).toArray) w := by
  refine Ci.run_build_struct w _ (Tryd.prog.fieldsOf 60) #[(0, 96), (96, 1)] (.agg (zeros 96 ++ [Value.pointer none]).toArray) _ _ (by kernel_rfl) (by kernel_rfl) (by kernel_rfl) ?_
  show Instr.fill _ (zeros 96 ++ [Value.pointer none]).toArray [(0, .agg (byteCells R).toArray)] = _
  have h1 : (byteCells R).length = 96 := by rw [byteCells_length, hR]
  have hz : (zeros 96 ++ [Value.pointer none]).length = 97 := by simp [zeros]
  rw [Ci.fill_cells _ (zeros 96 ++ [Value.pointer none]) 0 _ (byteCells R) rfl _ 0 (by rw [h1]; rfl) (by rw [h1, hz]; omega)]
  show some (splice (zeros 96 ++ [Value.pointer none]) 0 (byteCells R)).toArray = _
  unfold splice
  rw [h1]
  simp [zeros]
theorem rkeys_at {X : World} {b tb : Nat} {t : TypeId} {PC : List Value} {RG : List UInt8} (e0 : PC = penCells RG tb) (h : blockIs X b PC t) : X.rangeAt b 0 (byteCells RG) := by
  rw [e0] at h
  exact Ci.rangeAt_block (p := []) h
theorem penNil_one (R : List UInt8) : ∀ v ∈ byteCells R ++ [Value.pointer none], v.oneCell' = true := by
  intro v hv
  rcases List.mem_append.1 hv with h | h
  · exact byteCells_one _ v h
  · obtain rfl := List.mem_singleton.1 h
    rfl
theorem build16 (w : World) : (Instr.build 28 #[]).run Tryd.prog w = .ok (.agg (byteCells (List.replicate 16 0)).toArray) w := by kernel_rfl
end Go.Proofs.YtjkhokholcchfaaDoor
