/- Two rolls beside each other; bytes that lie apart from a roll. -/
import Derived.Test.YtiimblfmiiemgaaLpu
namespace Go.Proofs.Ytiimblfmiiemgaa
open Go.RowKit

theorem rollIs.but {w w' : World} {g b g' b' : Nat} {m : W} {L : List UInt8} (h : rollIs w g b m L) (hb : But2 g' b' w w') (h1 : g ≠ g') (h2 : g ≠ b') (h3 : b ≠ g') (h4 : b ≠ b') : rollIs w' g b m L := by
  obtain ⟨ld, p, rg, hr⟩ := h
  exact ⟨ld, p, rg, hr.hm, hr.ne, (hb.block g hr.cells.lt h1 h2).trans hr.cells, (hb.block b hr.bytes.lt h3 h4).trans hr.bytes, hr.len, hr.lt, hr.win, hr.lead_, hr.short⟩
theorem bytesIn.off {w w' : World} {g b : Nat} {a : Option Addr} {l : List UInt8} (h : bytesIn w a l) (hg : w.heap.size ≤ g) (hb : w.heap.size ≤ b) (hB : Below w.heap.size w w') : bytesOff w' g b a l := by
  rcases (h.below hB (Nat.le_refl _)) with h0 | ⟨bb, bo, h1, h2⟩
  · exact Or.inl h0
  · rcases h with h0 | ⟨cb, co, h3, h4⟩
    · exact Or.inl h0
    · by_cases hl : l = []
      · exact Or.inl hl
      · have h5 : 0 < l.length := List.length_pos_iff.2 hl
        have h6 : cb < w.heap.size := block_lt_of_cell (h4 0 h5)
        rw [h1] at h3
        cases h3
        exact Or.inr ⟨bb, bo, h1, by omega, by omega, h2⟩
theorem bytesIn.drop {w : World} {bb bo : Nat} {l : List UInt8} (h : bytesIn w (some ⟨bb, bo, none⟩) l) (k : Nat) : bytesIn w (some ⟨bb, bo + k, none⟩) (l.drop k) := by
  rcases h with rfl | ⟨pb, po, h1, h2⟩
  · left; simp
  · cases h1
    right
    refine ⟨bb, bo + k, rfl, fun j hj => ?_⟩
    rw [List.length_drop] at hj
    rw [Nat.add_assoc, h2 (k + j) (by omega), List.getD_eq_getElem?_getD, List.getD_eq_getElem?_getD, List.getElem?_drop]
theorem dgw_lt (m x : W) (hm : 8 ≤ dgw m) (h : x.toNat < 2 ^ m.toNat.log2) : dgw x < dgw m := by
  have hd := dgw_log (ne_of_deg hm)
  by_cases h0 : x = 0
  · subst h0
    have : dgw (0 : W) = -1 := by decide
    omega
  · have := dgw_log h0
    have hl : x.toNat.log2 < m.toNat.log2 := (Nat.log2_lt (ne_toNat h0)).2 h
    omega
theorem dgw_of_lt (m : W) (hm : 8 ≤ dgw m) (l : List UInt8) : dgw (ofW m l) < dgw m := dgw_lt m _ hm (of_lt m hm l)
/-- A pair of bytes in a new block, apart from a roll. -/
theorem pair_off {w : World} {g b : Nat} (h1 : g < w.heap.size) (h2 : b < w.heap.size) {x y : UInt8} {vx vy : Int} (t : TypeId) (hx : vx = V x) (hy : vy = V y) : bytesOff (w.alloc (.cells #[.int .u8 vx, .int .u8 vy] t (0, 0))) g b (some ⟨w.heap.size, 0, none⟩) [x, y] := by
  subst hx hy
  refine Or.inr ⟨w.heap.size, 0, rfl, by omega, by omega, fun j hj => ?_⟩
  match j, hj with
  | 0, _ => exact (World.cell?_alloc_at (w := w) #[.int .u8 (V x), .int .u8 (V y)] t _ 0 rfl).trans rfl
  | 1, _ => exact (World.cell?_alloc_at (w := w) #[.int .u8 (V x), .int .u8 (V y)] t _ 1 rfl).trans rfl
theorem bytesOff.swap {w w' : World} {g b g' b' : Nat} {a : Option Addr} {l : List UInt8} (h1 : bytesOff w g b a l) (h2 : bytesOff w g' b' a l) (hb : But2 g b w w') : bytesOff w' g' b' a l := by
  rcases h1.but hb with h0 | ⟨bb, bo, rfl, h3, h4, h5⟩
  · exact Or.inl h0
  · rcases h2 with h0 | ⟨cb, co, h6, h7, h8, h9⟩
    · exact Or.inl h0
    · cases h6
      exact Or.inr ⟨bb, bo, rfl, h7, h8, h5⟩
theorem pair_fst {w : World} {g b : Nat} (h1 : g < w.heap.size) (h2 : b < w.heap.size) {x y : UInt8} {vx vy : Int} (t : TypeId) (o : Obj) (hx : vx = V x) (hy : vy = V y) : bytesOff ((w.alloc (.cells #[.int .u8 vx, .int .u8 vy] t (0, 0))).alloc o) g b (some ⟨w.heap.size, 0, none⟩) [x, y] :=
  (pair_off h1 h2 t hx hy).but ((But2.refl _ _ _).alloc o)
theorem pair_snd {w : World} {g b : Nat} (h1 : g < w.heap.size) (h2 : b < w.heap.size) {x y : UInt8} {vx vy : Int} (t : TypeId) (o : Obj) (hx : vx = V x) (hy : vy = V y) : bytesOff ((w.alloc o).alloc (.cells #[.int .u8 vx, .int .u8 vy] t (0, 0))) g b (some ⟨w.heap.size + 1, 0, none⟩) [x, y] := by
  have := pair_off (w := w.alloc o) (g := g) (b := b) (by simp; omega) (by simp; omega) (x := x) (y := y) t hx hy
  simpa using this
end Go.Proofs.Ytiimblfmiiemgaa
