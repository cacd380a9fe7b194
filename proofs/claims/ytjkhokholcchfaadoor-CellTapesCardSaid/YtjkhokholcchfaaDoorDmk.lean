/- The document's own Make. -/
import Derived.Test.YtjkhokholcchfaaDoorBld
import Derived.Test.YtjkhokholcchfaaDoorRst
namespace Go.Proofs.YtjkhokholcchfaaDoor
open Go.RowKit Sha

set_option maxRecDepth 100000 in
/-- copy of a text into a block that is known whole. -/
theorem wpList_copy_text {P : Program} {w : World} {ops : Array Oper} {rest : List Oper} {o : Oper} {a : Act} {Q : Exit → Act → World → Prop} (hgd : o.guard = none) (d s : Operand) (dT sT : TypeId)
    (ho : o.op = .call { callee := .builtin .copy, args := #[d, s], argTypes := #[dT, sT] }) (elem : TypeId) (hu : P.underlying dT = some (.slice elem)) (hsz : (P.info? elem).map (·.size) = some 1)
    (g off dLen dCap : Nat) (hd : a.eval d = .slice (some ⟨g, off, none⟩) dLen dCap) (l : List UInt8) (hs : a.eval s = .string (str l)) (cur : List Value) (t : TypeId) (hg : blockIs w g cur t) (hn : l.length ≤ dLen)
    (hfit : off + l.length ≤ cur.length)
    (h : ∀ w', Hid (blockIs w' g (splice cur off (byteCells l)) t) → Hid (But g w w') → Hid (w'.heap.size = w.heap.size) → wpList P ops Q rest (a.put o.dst (goInt l.length)) w') :
    wpList P ops Q (o :: rest) a w := by
  have hst := run_storeCells_at P g off t (byteCells l) 0 cur.toArray w hg (by simpa [byteCells_length] using hfit) (byteCells_one l)
  have hz : ∀ w, (Go.sizeOf elem).run P w = .ok 1 w := fun w => by
    cases hq : P.info? elem with
    | none => simp [hq] at hsz
    | some i =>
      have : i.size = 1 := by simpa [hq] using hsz
      simp [sizeOf, typeInfo, hq, this]
  have hmin : Nat.min (str l).size dLen = l.length := by rw [str_size]; exact Nat.min_eq_left hn
  have hcs : ((str l).data.toList.map fun x => Value.int .u8 (x.toNat : Int)) = byteCells l := rfl
  have hrun : (Builtin.copy_ #[dT, sT] o.type #[.slice (some ⟨g, off, none⟩) dLen dCap, .string (str l)]).run P w = .ok (goInt l.length) (w.setRow g (splice cur off (byteCells l)).toArray) := by
    simp only [Nat.add_zero] at hst
    simp [Builtin.copy_, run_underlying hu, Builtin.lenOf, Builtin.firstCells, hz, hmin]
    rw [hcs, List.take_of_length_le (by rw [byteCells_length]; exact Nat.le_refl _), hst]
    simp [splice]
  refine wpList_plain hgd fun K hK => ?_
  unfold Oper.wp
  simp [execOp, ho, resolve, invoke, builtin, hd, hs, hrun, Result.andThen]
  refine hK _ _ (h _ (show _ = _ by simpa using setRow_heap w g _ _ t _ hg) ⟨rfl, rfl, rfl, by simp [World.setRow], fun k _ hk => setRow_other w g k _ hk⟩ (by
      show (w.setRow g _).heap.size = _
      simp))

set_option maxRecDepth 100000 in
theorem keyed_txt (X : World) (s l : List UInt8) (hs : s.length = 32) (hl : l.length = 4) :
    Calls Tryd.prog 61 #[.string (str s), .string (str l)] X fun e w' => e = .returned (.string (str (hmac s l))) ∧ Below X.heap.size X w' :=
  rky_any s l X (by omega) (by omega)

end Go.Proofs.YtjkhokholcchfaaDoor
