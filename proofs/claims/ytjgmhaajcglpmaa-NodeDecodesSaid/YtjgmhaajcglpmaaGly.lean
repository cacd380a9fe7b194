/- The contract of glyphs; literals as arguments. -/
import Derived.Test.YtjgmhaajcglpmaaByt
namespace Go.Proofs.Ytjgmhaajcglpmaa
open Go.RowKit

/-- A literal of things that aren't bytes is there, whatever the writer does. -/
theorem lit_kept {B k : Nat} {w : World} {vs : List Value} {t : TypeId} (hk : k < w.heap.size) (ht : t ≠ 5) : ∀ w', Below B (w.alloc (.cells vs.toArray t (0, 0))) w' → KeptT k (w.alloc (.cells vs.toArray t (0, 0))) w' → valsIn w' (some ⟨w.heap.size, 0, none⟩) vs := fun w' _ h => by
  have hb := h.is (blockIs.new w vs t) (by omega) ht
  refine Or.inr ⟨_, _, rfl, fun j hj => ?_⟩
  rw [Nat.zero_add]
  exact hb.cell j
theorem OutAt.alloc {w : World} {B k : Nat} {s : List UInt8 × Int} (h : OutAt w B k s) (o : Obj) : OutAt (w.alloc o) B k s := h.below ((Below.refl _ _).alloc (Nat.le_refl _) _)
theorem begin_c (x : UInt8) (n : Int) (h : n = V x) (w : World) :
    Calls Try.prog 33 #[.int .u8 n] w fun e w' => ∃ k, e = .returned (.pointer (some ⟨k, 0, none⟩)) ∧ OutAt w' w.heap.size k ([72, 89, x], 0) ∧ Below w.heap.size w w' := by
  subst h
  exact begin_any x w
theorem num1 (B k : Nat) (s : List UInt8 × Int) (x : Int) (w : World) (h : OutAt w B k s) (hx : (Lit.int .i64 x).wf = true) (hl : s.1.length ≤ 100000000) :
    Calls Try.prog 34 #[.pointer (some ⟨k, 0, none⟩), .slice (some ⟨w.heap.size, 0, none⟩) 1 1] (w.alloc (.cells #[.int .i64 x] 3)) fun e w' => e = .returned (.pointer (some ⟨k, 0, none⟩)) ∧ OutAt w' B k (outNum s x) ∧ Below B w w' := by
  have P := nums_any B k s (some ⟨w.heap.size, 0, none⟩) [x] 1 (w.alloc (.cells #[.int .i64 x] 3)) (h.alloc _) (fun z hz => by rw [List.mem_singleton.1 hz]; exact hx) hl (by simp) (lit_kept (vs := [.int .i64 x]) (t := 3) h.lt.2 (by decide))
  refine P.mono ?_
  rintro e w' ⟨he, ho, hb, -⟩
  exact ⟨he, ho, ((Below.refl B w).alloc (Nat.le_trans h.lt.1 (Nat.le_of_lt h.lt.2)) _).trans hb⟩
theorem text1 (B k : Nat) (s : List UInt8 × Int) (l : List UInt8) (w : World) (h : OutAt w B k s) (hs : s.1.length ≤ 100000000) (hl : l.length ≤ 200000) :
    Calls Try.prog 52 #[.pointer (some ⟨k, 0, none⟩), .slice (some ⟨w.heap.size, 0, none⟩) 1 1] (w.alloc (.cells #[.string (str l)] 9)) fun e w' => e = .returned (.pointer (some ⟨k, 0, none⟩)) ∧ OutAt w' B k (outText s l) ∧ Below B w w' := by
  have P := texts_any B k s (some ⟨w.heap.size, 0, none⟩) [l] 1 (w.alloc (.cells #[.string (str l)] 9)) 200000 (fun z hz => by rw [List.mem_singleton.1 hz]; exact hl) (by decide) (by simp; omega) (h.alloc _) (lit_kept (vs := [.string (str l)]) (t := 9) h.lt.2 (by decide))
  refine P.mono ?_
  rintro e w' ⟨he, ho, hb, -⟩
  exact ⟨he, ho, ((Below.refl B w).alloc (Nat.le_trans h.lt.1 (Nat.le_of_lt h.lt.2)) _).trans hb⟩
theorem glyph_ex : outFlag (outText (outNum ([72, 89, 7], 0) 300) [97, 98]) true = ([72, 89, 7, 172, 2, 2, 97, 98, 1], 0) := by
  have e1 : numBytes 300 = [172, 2] := by rw [numBytes_big (by decide), numBytes_small (by decide)]; rfl
  have e2 : numBytes 2 = [2] := by rw [numBytes_small (by decide)]; rfl
  have e3 : numBytes 1 = [1] := by rw [numBytes_small (by decide)]; rfl
  simp [outFlag, outText, outNum, e1, e2, e3]
end Go.Proofs.Ytjgmhaajcglpmaa
