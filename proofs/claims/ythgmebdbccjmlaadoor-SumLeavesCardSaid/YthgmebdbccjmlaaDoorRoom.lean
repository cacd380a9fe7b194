/- make with room, and append into that room: the block is known whole. -/
import Derived.Test.YthgmebdbccjmlaaDoorZer
import Derived.Laws.MakeOwn
namespace Go.Proofs.YthgmebdbccjmlaaDoor
open Go.RowKit Sha

theorem made_zeros (n : Nat) : madeCells (Value.int .u8 0).cells (n * 1) = (byteCells (List.replicate n 0)).toArray := by
  apply Array.ext
  · simp [madeCells, byteCells]
  · intro j h1 h2
    simp [madeCells, byteCells, Value.cells, Nat.mod_one]
    rfl
theorem make_room (n : Nat) (w : World) (hn : n ≤ 1000000) :
    (Instr.makeSlice 22 (.int .i64 0) (.int .i64 (n : Int))).run Tryd.prog w = .ok (.slice (some ⟨w.heap.size, 0, none⟩) 0 n) (w.alloc (.cells (byteCells (List.replicate n 0)).toArray 5 (0, 0))) := by
  obtain ⟨i0, hi, hz0, hz1, hz2⟩ := info_parts info_u8
  have := run_make (P := Tryd.prog) w 22 5 i0 (.int .u8 0) Tryd.underlying22 hi hz0 .i64 .i64 0 (n : Int) (by omega) (by omega) (by rw [hz2]; omega) (by omega)
  rw [hz1, Int.toNat_natCast, made_zeros] at this
  exact this
/-- Bytes put into a row's room. -/
theorem append_room {w : World} {ops : Array Oper} {rest : List Oper} {o : Oper} {a : Act} {Q : Exit → Act → World → Prop} (hgd : o.guard = none) (s x : Operand)
    (ho : o.op = .call { callee := .builtin .append, args := #[s, x], argTypes := #[22, 22] })
    (g cap : Nat) (cur : List Value) (hs : a.eval s = .slice (some ⟨g, 0, none⟩) 0 cap) (hg : blockIs w g cur 5) (hcur : cur.length = cap) (A : Option Addr) (n c : Nat) (l : List UInt8) (hnl : n = l.length) (hx : a.eval x = .slice A n c)
    (hb : bytesIn w A l) (hn : l.length ≤ cap)
    (h : ∀ w', Hid (blockIs w' g (byteCells l ++ cur.drop l.length) 5) → Hid (But g w w') → Hid (w'.heap.size = w.heap.size) → wpList Tryd.prog ops Q rest (a.put o.dst (.slice (some ⟨g, 0, none⟩) l.length cap)) w') : wpList Tryd.prog ops Q (o :: rest) a w := by
  subst hnl
  by_cases h0 : l.length = 0
  · obtain rfl : l = [] := List.eq_nil_of_length_eq_zero h0
    exact Lib.wpList_append_run w hgd s x _ _ ho _ _ hs hx _ _ (run_append_nought w (some ⟨g, 0, none⟩) 0 cap (Nat.zero_le _) A c o.type) (h w (Lib.hid (by simpa [byteCells] using hg)) (Lib.hid (But.refl _ _)) (Lib.hid rfl))
  · obtain ⟨i, hi, hz0, hz1, hz2⟩ := info_parts info_u8
    rcases hb with rfl | ⟨bb, bo, rfl, hc⟩
    · simp at h0
    · have hr := run_append_room (P := Tryd.prog) w 22 o.type 5 i Tryd.underlying22 hi g 0 cap cur.toArray hg ⟨bb, bo, none⟩ l.length c (byteCells l) (by rw [hz1, byteCells_length, Nat.mul_one]) (fun j u hj => by
        have hjn : j < l.length := by rw [← byteCells_length l]; exact (List.getElem?_eq_some_iff.1 hj).1
        rw [Addr.add_lit, hc j hjn, ← hj, byteCells_get _ _ hjn]) (byteCells_one _) (by omega) (by rw [hz1, byteCells_length]; simp; omega)
      rw [hz1, byteCells_length] at hr
      simp only [Nat.zero_mul, List.take_zero, List.nil_append, Nat.zero_add] at hr
      refine Lib.wpList_append_run w hgd s x _ _ ho _ _ hs hx _ _ hr (h _ (Lib.hid ?_) (Lib.hid ⟨rfl, rfl, rfl, by simp [World.setRow], fun k _ hk => setRow_other w g k _ hk⟩) (Lib.hid (by show (w.setRow g _).heap.size = _; simp)))
      show (w.setRow g _).heap[g]? = _
      exact setRow_heap w g _ _ 5 _ hg
end Go.Proofs.YthgmebdbccjmlaaDoor
