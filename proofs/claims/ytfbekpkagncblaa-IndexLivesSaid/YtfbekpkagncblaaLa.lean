/- Rows of named files: one of them, appended. -/
import Derived.Test.YtfbekpkagncblaaLp
import Derived.Great.BuildSlice
import Derived.Deep.RegionHeld3
namespace Go.Proofs.Ytfbekpkagncblaa
open Go.RowKit

theorem info_nm : (Try.prog.info? 29).map (·.size) = some 3 := by kernel_rfl
theorem info_nm3 : (Try.prog.info? 29).map (fun i => (i.zero, i.size, i.bytes)) = some (some (.agg #[.string ⟨#[]⟩, .slice none 0 0, .slice none 0 0]), 3, 64) := by kernel_rfl
theorem own_grown {w w' : World} {base n sz : Nat} {t : TypeId} {v : Value} {xs : List Value} (h : w.ownsRow base t sz v n xs) (hg : w.grownBy w' v.ownBlock) (hB : base ≤ w.heap.size) : Below base w w' :=
  (Below.refl base w).grown hg hB fun k hk => (h.lt k hk).1
def nmCells (n : List UInt8) (ov : Value) : List Value := [.string (str n), .slice none 0 0, ov]
/-- Files that live: their names, and the lists of those that they replace. -/
abbrev LvE := List UInt8 × Value
def lvCells (D : List LvE) : List Value := D.flatMap fun d => nmCells d.1 d.2
theorem lvCells_length (D : List LvE) : (lvCells D).length = D.length * 3 := by
  induction D with
  | nil => rfl
  | cons d D ih => rw [lvCells, List.flatMap_cons, List.length_append]; show 3 + (lvCells D).length = _; rw [ih, List.length_cons]; omega
theorem lvCells_append (D D' : List LvE) : lvCells (D ++ D') = lvCells D ++ lvCells D' := by simp [lvCells]
theorem fill_nm (cs : List Value) (hc : cs.length = 3) (w : World) : (Instr.buildSlice 24 1 #[(0, .agg cs.toArray)]).run Try.prog w = .ok (.slice (some ⟨w.heap.size, 0, none⟩) 1 1) (w.alloc (.cells cs.toArray 29)) := by
  obtain ⟨i0, hi, hz0, hz1, hz2⟩ := info_parts info_nm3
  have h := Great.fill_whole (s := 3) (by decide) [.agg cs.toArray] ((Array.range (1 * 3)).map ((Value.agg #[.string ⟨#[]⟩, .slice none 0 0, .slice none 0 0]).cells[· % (Value.agg #[.string ⟨#[]⟩, .slice none 0 0, .slice none 0 0]).cells.size]!)) (fun v hv => by rw [List.mem_singleton.1 hv]; simp [Value.cells, hc]) (by simp)
  have e : (List.flatMap (fun v => v.cells.toList) [Value.agg cs.toArray]).toArray = cs.toArray := by simp [Value.cells]
  refine run_buildSlice w _ _ 1 _ _ i0 _ Try.underlying24 hi hz0 (by rw [hz1]; decide) (by rw [hz1]; decide) ?_
  rw [hz1]
  rw [e] at h
  exact h
section
variable {w : World} {ops : Array Oper} {o : Oper} {a : Act} {K : Act → World → Prop} {Q : Exit → Act → World → Prop} {E : Prop}
theorem step_build_nm (hw : Region.wanted o (yielded ops a.tmps) = true) (x : Operand) (ho : o.op = .buildSlice 24 1 #[(0, x)]) (cs : List Value) (hc : cs.length = 3) (hx : a.eval x = .agg cs.toArray)
    (h : K (a.put o.dst (.slice (some ⟨w.heap.size, 0, none⟩) 1 1)) (w.alloc (.cells cs.toArray 29))) : if Region.wanted o (yielded ops a.tmps) = true then Oper.wp Try.prog o a w K Q else E := by
  rw [if_pos hw]
  have e : (#[((0 : Nat), x)].map fun (i, x) => (i, a.eval x)) = #[(0, .agg cs.toArray)] := by simp [hx]
  unfold Oper.wp execOp
  simp only [ho, Sem.run_bind, e, fill_nm cs hc, Result.andThen_ok]
  exact h
/-- One more, behind. -/
theorem step_append_nm (hw : Region.wanted o (yielded ops a.tmps) = true) (s x : Operand) (ho : o.op = .call { callee := .builtin .append, args := #[s, x], argTypes := #[24, 24] })
    (base : Nat) (v : Value) (D : List LvE) (hs : a.eval s = v) (hown : w.ownsRow base 29 3 v D.length (lvCells D)) (g c : Nat) (n : List UInt8) (ov : Value) (h1 : ov.oneCell' = true) (hx : a.eval x = .slice (some ⟨g, 0, none⟩) 1 c) (hb : blockIs w g (nmCells n ov) 29)
    (hn : D.length ≤ 1000000) (hbase : base ≤ w.heap.size)
    (h : ∀ v' w', Hid (w'.ownsRow base 29 3 v' (D ++ [(n, ov)]).length (lvCells (D ++ [(n, ov)]))) → Hid (w.grownBy w' v.ownBlock) → Hid (Below base w w') → K (a.put o.dst v') w') : if Region.wanted o (yielded ops a.tmps) = true then Oper.wp Try.prog o a w K Q else E := by
  rw [if_pos hw]
  obtain ⟨i0, hi, hz0, hz1, hz2⟩ := info_parts info_nm3
  refine wp_append_own w s x 24 ho base 29 i0 _ 3 64 Try.underlying24 hi hz0 hz1 hz2 (by simp [Value.cells]) (by decide) v D.length (lvCells D) hs hown ⟨g, 0, none⟩ 1 c (nmCells n ov) hx (by rfl) (fun j u hj => ?_) (fun u hu => ?_) (by unfold maxLen; omega) (by omega) hbase (fun v' w' r1 r2 _ => h v' w' (Lib.hid ?_) (Lib.hid r2) (Lib.hid (own_grown hown r2 hbase)))
  · rw [Addr.add_lit, Nat.zero_add, hb.cell]
    exact hj
  · simp only [nmCells, List.mem_cons, List.not_mem_nil, or_false] at hu
    rcases hu with rfl | rfl | rfl
    · rfl
    · rfl
    · exact h1
  · rw [List.length_append, lvCells_append, show lvCells [(n, ov)] = nmCells n ov by simp [lvCells]]
    exact r1
end
end Go.Proofs.Ytfbekpkagncblaa
