/- One cell stored. -/
import Derived.Test.YtklbbeilbpcnoaaMkk
namespace Go.Proofs.Ytklbbeilbpcnoaa
open Go.RowKit Sha Aes

/-- One cell, stored into a block that is known whole. -/
theorem run_storeVar_cell {P : Program} (w : World) (g j : Nat) (ty : TypeId) (cur : List Value) (v : Value) (t : TypeId) (hg : blockIs w g cur t) (hi : (P.info? ty).map (·.size) = some 1) (hj : j < cur.length) (hc : v.cells = #[v]) (h1 : v.oneCell' = true) :
    (storeVar ty ⟨g, j, none⟩ v).run P w = .ok () (w.setRow g (cur.set j v).toArray) := by
  have := run_storeCells_at P g j t [v] 0 cur.toArray w hg (by simp; omega) (by simpa using h1)
  have e : cur.set j v = cur.take j ++ v :: cur.drop (j + 1) := by rw [List.set_eq_take_append_cons_drop, if_pos hj]
  cases hq : P.info? ty with
  | none => simp [hq] at hi
  | some i =>
    have hs : i.size = 1 := by simpa [hq] using hi
    simp only [Nat.add_zero, List.length_cons, List.length_nil, Nat.zero_add, List.append_assoc, List.singleton_append] at this
    simp [storeVar, sizeOf, typeInfo, hq, hc, hs, this, e]
theorem wpList_store_cell {P : Program} {ops : Array Oper} {rest : List Oper} {o : Oper} {a : Act} {w : World} {Q : Exit → Act → World → Prop} (hgd : o.guard = none) (ty : TypeId) (x y : Operand) (ho : o.op = .store ty x y)
    (g j : Nat) (v : Value) (hx : a.eval x = .pointer (some ⟨g, j, none⟩)) (hy : a.eval y = v) (cur : List Value) (t : TypeId) (hg : blockIs w g cur t) (hj : j < cur.length)
    (hi : (P.info? ty).map (·.size) = some 1) (hc : v.cells = #[v]) (h1 : v.oneCell' = true)
    (h : ∀ w', Hid (blockIs w' g (cur.set j v) t) → Hid (But g w w') → Hid (w'.heap.size = w.heap.size) → wpList P ops Q rest (a.put o.dst undef) w') : wpList P ops Q (o :: rest) a w := by
  refine wpList_plain hgd fun K hK => ?_
  unfold Oper.wp execOp
  simp only [ho, hx, hy, Instr.storeAt, Instr.sureAddr, Sem.run_bind, Sem.run_pure, Result.andThen_ok, run_storeVar_cell w g j ty cur v t hg hi hj hc h1]
  exact hK _ _ (h _ (show _ = _ by simpa using setRow_heap w g _ _ t _ hg) ⟨rfl, rfl, rfl, by simp [World.setRow], fun k _ hk => setRow_other w g k _ hk⟩ (by
    show (w.setRow g _).heap.size = _
    simp))
end Go.Proofs.Ytklbbeilbpcnoaa
