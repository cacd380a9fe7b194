/- Bytes as a string; rows of bytes and of such rows behind a world that has grown, cut short. -/
import Derived.Test.YtaohbpmefcdipaaDoorOf
import Derived.Deep.RegionLaw
import Derived.Deep.RegionHeld3
namespace Go.Proofs.YtaohbpmefcdipaaDoor
open Go.RowKit Sha

/-- Bytes as a string. -/
def str (l : List UInt8) : ByteArray := ⟨l.toArray⟩
theorem str_inj {a b : List UInt8} (h : str a = str b) : a = b := by
  unfold str at h
  simpa using h
theorem str_beq (f L : List UInt8) : ((str f).toList == (str L).toList) = (L == f) := by
  have h : ∀ l, (str l).toList = l := fun l => by rw [ByteArray.toList_eq]; rfl
  rw [h, h, Bool.eq_iff_iff, beq_iff_eq, beq_iff_eq]
  exact ⟨Eq.symm, Eq.symm⟩
theorem bytesIn.below {w w' : World} {a : Option Addr} {l : List UInt8} (h : bytesIn w a l) (hb : Below w.heap.size w w') : bytesIn w' a l := by
  rcases h with h | ⟨bb, bo, h1, h3⟩
  · exact Or.inl h
  · exact Or.inr ⟨bb, bo, h1, fun j hj => (hb.cell (p := ⟨bb, bo + j, none⟩) (block_lt_of_cell (h3 j hj))).trans (h3 j hj)⟩
theorem partsIn.below {w w' : World} {a : Option Addr} {ls : List (List UInt8)} (h : partsIn w a ls) (hb : Below w.heap.size w w') : partsIn w' a ls := by
  rcases h with h | ⟨pb, po, h1, h3⟩
  · exact Or.inl h
  · refine Or.inr ⟨pb, po, h1, fun j hj => ?_⟩
    obtain ⟨aj, cj, g1, g2, g3, g4⟩ := h3 j hj
    exact ⟨aj, cj, (hb.cell (p := ⟨pb, po + j, none⟩) (block_lt_of_cell g1)).trans g1, g2, g3, g4.below hb⟩
theorem conv_string (w : World) (a : Option Addr) (l : List UInt8) (c : Nat) (h : bytesIn w a l) : (convert 22 9 (.slice a l.length c)).run Tryd.prog w = .ok (.string (str l)) w := by
  cases a with
  | none =>
    rcases h with rfl | ⟨_, _, h, _⟩
    · rw [run_convert_bytes_nil w 22 5 Tryd.underlying22 Tryd.underlying5 _ _ 9 Tryd.underlying9]
      rfl
    · cases h
  | some ad =>
    rw [run_convert_bytes_string w 22 9 5 _ _ _ Tryd.underlying22 Tryd.underlying5 Tryd.underlying9]
    have hl : (loadCells ad l.length).run Tryd.prog w = .ok ((l.map fun b => (V b)).map (Value.int .u8)).toArray w := by
      have := run_loadCells_list (P := Tryd.prog) w ad ((l.map fun b => (V b)).map (Value.int .u8)) (fun j v hj => by
        rcases h with rfl | ⟨bb, bo, h1, h2⟩
        · simp at hj
        · cases h1
          have hjl : j < l.length := by
            have := (List.getElem?_eq_some_iff.1 hj).1
            simpa using this
          rw [Addr.add_lit, h2 j hjl, ← hj]
          simp [hjl])
      simpa using this
    rw [run_bytesToString w ad l.length c (l.map fun b => (V b)) hl, foldl_push_bytes]
    congr 2
    unfold str
    simp only [V, ByteArray.empty, ByteArray.emptyWithCapacity, List.map_map]
    have e : ((fun n : Int => UInt8.ofNat n.toNat) ∘ fun b : UInt8 => (b.toNat : Int)) = id := by funext b; simp
    rw [e]
    simp
    rfl

theorem partsIn.take {w : World} {a : Option Addr} {ls : List (List UInt8)} (h : partsIn w a ls) (n : Nat) : partsIn w a (ls.take n) := by
  rcases h with rfl | ⟨pb, po, h1, h2⟩
  · left; simp
  · right
    refine ⟨pb, po, h1, fun j hj => ?_⟩
    rw [List.length_take] at hj
    have := h2 j (by omega)
    rwa [show (ls.take n).getD j [] = ls.getD j [] from getD_take _ _ _ _ (by omega)]
theorem bytesIn.take {w : World} {a : Option Addr} {l : List UInt8} (h : bytesIn w a l) (n : Nat) : bytesIn w a (l.take n) := by
  rcases h with rfl | ⟨pb, po, h1, h2⟩
  · left; simp
  · right
    refine ⟨pb, po, h1, fun j hj => ?_⟩
    rw [List.length_take] at hj
    rw [h2 j (by omega), getD_take _ _ _ _ (by omega)]
end Go.Proofs.YtaohbpmefcdipaaDoor
