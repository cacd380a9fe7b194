/- A row of sums of one's own. -/
import Derived.Test.YtaohbpmefcdipaaDoorEq
import Derived.OwnWalk
import Derived.Great.BuildSlice
namespace Go.Proofs.YtaohbpmefcdipaaDoor
open Go.RowKit Sha

def sumCells (S : List (List UInt8)) : List Value := S.flatMap byteCells
theorem sumCells_length (S : List (List UInt8)) (h : ∀ l ∈ S, l.length = 32) : (sumCells S).length = S.length * 32 := by
  induction S with
  | nil => rfl
  | cons l S ih =>
    rw [sumCells, List.flatMap_cons, List.length_append, byteCells_length, h l (by simp), List.length_cons]
    have := ih (fun m hm => h m (by simp [hm]))
    rw [sumCells] at this
    omega
theorem sumCells_get (S : List (List UInt8)) (h : ∀ l ∈ S, l.length = 32) : ∀ (n : Nat) (hn : n < S.length) (j : Nat), j < 32 → (sumCells S)[n * 32 + j]? = (byteCells S[n])[j]? := by
  induction S with
  | nil => intro n hn; exact absurd hn (Nat.not_lt_zero _)
  | cons p S ih =>
    intro n hn j hj
    have hp : (byteCells p).length = 32 := by rw [byteCells_length, h p (by simp)]
    rw [sumCells, List.flatMap_cons]
    cases n with
    | zero =>
      rw [List.getElem?_append_left (by omega)]
      simp
    | succ n =>
      rw [List.getElem?_append_right (by omega)]
      have := ih (fun m hm => h m (by simp [hm])) n (by simpa using hn) j hj
      rw [sumCells] at this
      rw [show (n + 1) * 32 + j - (byteCells p).length = n * 32 + j by omega]
      simpa using this
theorem sumCells_snoc (S : List (List UInt8)) (l : List UInt8) : sumCells (S ++ [l]) = sumCells S ++ byteCells l := by simp [sumCells]
def rowS (w : World) (base : Nat) (v : Value) (S : List (List UInt8)) : Prop := w.ownsRow base 43 32 v S.length (sumCells S)
theorem info_sum : (Tryd.prog.info? 43).map (fun i => (i.zero, i.size, i.bytes)) = some (some (.agg (zeros 32).toArray), 32, 32) := by kernel_rfl
theorem rowS.nil (w : World) (base : Nat) : rowS w base (.slice none 0 0) [] := World.ownsRow_nil _ _ _ _
theorem rowS.below {w w' : World} {base : Nat} {v : Value} {S : List (List UInt8)} (h : rowS w base v S) {B : Nat} (hb : Below B w w') (hB : w.heap.size ≤ B) : rowS w' base v S := by
  have hg : w.grownBy w' none := ⟨hb.os, hb.tape, hb.output, hb.size, fun k hk _ => hb.block k (by omega)⟩
  refine World.ownsRow.kept h hg ?_
  cases v.ownBlock with
  | none => exact Or.inl rfl
  | some g => exact Or.inr (by simp)
theorem rowS.form {w : World} {B : Nat} {v : Value} {S : List (List UInt8)} (h : rowS w B v S) : ∃ a c, v = .slice a S.length c ∧ S.length ≤ c := by
  rcases h.2 with ⟨rfl, h0⟩ | ⟨g, cap, cur, rfl, _, _, hn, _⟩
  · exact ⟨none, 0, by rw [h0], by omega⟩
  · exact ⟨some ⟨g, 0, none⟩, cap, rfl, hn⟩
theorem rowS.at {w : World} {B n c : Nat} {a : Option Addr} {S : List (List UInt8)} (h : rowS w B (.slice a n c) S) (h32 : ∀ l ∈ S, l.length = 32) (j : Nat) (hj : j < S.length) :
    ∃ g, a = some ⟨g, 0, none⟩ ∧ w.rangeAt g (j * 32) (byteCells S[j]) := by
  have hk : ∃ g, a = some ⟨g, 0, none⟩ := by
    rcases h.2 with ⟨hv, h0⟩ | ⟨g, cap, cur, hv, _⟩
    · omega
    · injection hv with hv
      exact ⟨g, hv⟩
  obtain ⟨g, rfl⟩ := hk
  have hc := World.ownsRow.cells h (g := g) rfl
  refine ⟨g, rfl, fun t u hu => ?_⟩
  have hl : (byteCells S[j]).length = 32 := by rw [byteCells_length, h32 _ (List.getElem_mem hj)]
  have ht := (List.getElem?_eq_some_iff.1 hu).1
  have e := sumCells_get S h32 j hj t (by omega)
  have := hc (j * 32 + t) u (e.trans hu)
  rw [Addr.add_lit, Nat.zero_add] at this
  exact this
theorem append_sum {w : World} {ops : Array Oper} {rest : List Oper} {o : Oper} {a : Act} {Q : Exit → Act → World → Prop} (hgd : o.guard = none) (s x : Operand)
    (ho : o.op = .call { callee := .builtin .append, args := #[s, x], argTypes := #[42, 42] })
    (base : Nat) (v : Value) (S : List (List UInt8)) (hs : a.eval s = v) (hown : rowS w base v S) (g c : Nat) (p : List UInt8) (hp : p.length = 32) (hx : a.eval x = .slice (some ⟨g, 0, none⟩) 1 c) (hb : blockIs w g (byteCells p) 43)
    (hn : S.length ≤ 1000000) (hbase : base ≤ w.heap.size)
    (h : ∀ v' w', Hid (rowS w' base v' (S ++ [p])) → Hid (w.grownBy w' v.ownBlock) → wpList Tryd.prog ops Q rest (a.put o.dst v') w') : wpList Tryd.prog ops Q (o :: rest) a w := by
  obtain ⟨i0, hi, hz0, hz1, hz2⟩ := info_parts info_sum
  have hpl : (byteCells p).length = 32 := by rw [byteCells_length, hp]
  refine wpList_append_own w hgd s x 42 ho base 43 i0 _ 32 32 Tryd.underlying42 hi hz0 hz1 hz2 (by simp [Value.cells, zeros]) (by decide) v S.length (sumCells S) hs hown ⟨g, 0, none⟩ 1 c (byteCells p) hx (by omega) (fun j u hj => ?_) (fun u hu => byteCells_one _ u hu) (by unfold maxLen; omega) (by omega) hbase (fun v' w' r1 r2 _ => h v' w' (Lib.hid ?_) (Lib.hid r2))
  · rw [Addr.add_lit, Nat.zero_add, hb.cell]
    exact hj
  · unfold rowS
    rw [List.length_append, sumCells_snoc]
    exact r1
set_option maxRecDepth 100000 in
theorem build_sum (p : List UInt8) (hp : p.length = 32) (w : World) : (Instr.buildSlice 42 1 #[(0, .agg (byteCells p).toArray)]).run Tryd.prog w = .ok (.slice (some ⟨w.heap.size, 0, none⟩) 1 1) (w.alloc (.cells (byteCells p).toArray 43)) := by
  obtain ⟨i0, hi, hz0, hz1, hz2⟩ := info_parts info_sum
  have hpl : (byteCells p).length = 32 := by rw [byteCells_length, hp]
  have h := Great.fill_whole (s := 32) (by decide) [.agg (byteCells p).toArray] ((Array.range (1 * 32)).map ((Value.agg (zeros 32).toArray).cells[· % (Value.agg (zeros 32).toArray).cells.size]!)) (fun v hv => by rw [List.mem_singleton.1 hv]; simp [Value.cells, hpl]) (by simp)
  have e : (List.flatMap (fun v => v.cells.toList) [Value.agg (byteCells p).toArray]).toArray = (byteCells p).toArray := by simp [Value.cells]
  refine run_buildSlice w _ _ 1 _ _ i0 _ Tryd.underlying42 hi hz0 (by rw [hz1]; decide) (by rw [hz1]; decide) ?_
  rw [hz1]
  rw [e] at h
  exact h
theorem wpList_build_sum {w : World} {ops : Array Oper} {rest : List Oper} {o : Oper} {a : Act} {Q : Exit → Act → World → Prop} (hg : o.guard = none) (x : Operand) (ho : o.op = .buildSlice 42 1 #[(0, x)]) (p : List UInt8) (hp : p.length = 32) (hx : a.eval x = .agg (byteCells p).toArray)
    (h : wpList Tryd.prog ops Q rest (a.put o.dst (.slice (some ⟨w.heap.size, 0, none⟩) 1 1)) (w.alloc (.cells (byteCells p).toArray 43))) : wpList Tryd.prog ops Q (o :: rest) a w :=
  wpList_plain hg fun _ hK => by
    have e : (#[((0 : Nat), x)].map fun (i, x) => (i, a.eval x)) = #[(0, .agg (byteCells p).toArray)] := by simp [hx]
    unfold Oper.wp execOp
    simp only [ho, Sem.run_bind, e, build_sum p hp, Result.andThen_ok]
    exact hK _ _ h
theorem eql_op2 (a : Act) (o : Oper) (x y : Operand) (l m : List UInt8) (ho : o.op = .binOp .eql 43 x y 43) (hx : a.eval x = .agg (byteCells l).toArray) (hy : a.eval y = .agg (byteCells m).toArray) (hl : l.length = 32) (hm : m.length = 32) (w : World) :
    (execOp a.eval o).run Tryd.prog w = .ok (.value (.bool (l == m))) w := by
  have e : (binOp .eql 43 (.agg (byteCells l).toArray) (.agg (byteCells m).toArray)).run Tryd.prog w = .ok (.bool (l == m)) w := by
    rw [run_eql_struct, eq_sums l m hl hm]
    rfl
  unfold execOp
  simp only [ho, hx, hy, Sem.run_bind, e, run_eqGuard_agg _ _ _ _ _ _ _ egt28, Result.andThen_ok, Sem.run_pure]
end Go.Proofs.YtaohbpmefcdipaaDoor
