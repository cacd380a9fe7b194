/- Ranging over a store's map: names in their order, how many bytes there are. -/
import Derived.Test.YthefledeoiegjaaSt
import Derived.Test.YthefledeoiegjaaShelf
import Derived.Maps.RangeWalk
import Derived.Sort.OwnSorted
import Derived.Sort.KeysCollected
namespace Go.Proofs.Ythefledeoiegjaa
open Go.RowKit Go.MapKept
open Go.ChangeMaps (setBlock heap_setBlock_same heap_setBlock_other)

/-- Block r is an iterator over the map m; these entries are still to come. -/
def rangeAt (w : World) (r : Nat) (m : Option Nat) (R : List Ent) : Prop :=
  match m with
  | none => (∃ s c seen, w.heap[r]? = some (.mapIter none s seen c)) ∧ R = []
  | some g => ∃ es clock since seen c0, w.heap[g]? = some (.map es clock) ∧ w.heap[r]? = some (.mapIter (some g) since seen c0) ∧ (∀ x ∈ es.toList, x.born < since) ∧ since ≤ c0 ∧ since ≤ clock ∧ (es.toList.map (·.born)).Nodup ∧ (leftOf es seen).toList.map (fun e => (e.key, e.val)) = R.map pairV
theorem rangeAt.of_blocks {w w' : World} {r : Nat} {m : Option Nat} {R : List Ent} (h : rangeAt w r m R) (hr : w'.heap[r]? = w.heap[r]?) (hm : ∀ g, m = some g → w'.heap[g]? = w.heap[g]?) : rangeAt w' r m R := by
  cases m with
  | none =>
    obtain ⟨⟨s, c, seen, h1⟩, h2⟩ := h
    exact ⟨⟨s, c, seen, hr.trans h1⟩, h2⟩
  | some g =>
    obtain ⟨es, clock, since, seen, c0, h1, h2, h3⟩ := h
    exact ⟨es, clock, since, seen, c0, (hm g rfl).trans h1, hr.trans h2, h3⟩
theorem rangeAt.lt {w : World} {r : Nat} {m : Option Nat} {R : List Ent} (h : rangeAt w r m R) : r < w.heap.size ∧ ∀ g, m = some g → g < w.heap.size := by
  cases m with
  | none =>
    obtain ⟨⟨s, c, seen, h1⟩, h2⟩ := h
    exact ⟨(Array.getElem?_eq_some_iff.1 h1).1, fun g e => by cases e⟩
  | some g =>
    obtain ⟨es, clock, since, seen, c0, h1, h2, h3⟩ := h
    exact ⟨(Array.getElem?_eq_some_iff.1 h2).1, fun g' e => by cases e; exact (Array.getElem?_eq_some_iff.1 h1).1⟩
theorem rangeAt.below {w w' : World} {r : Nat} {m : Option Nat} {R : List Ent} (h : rangeAt w r m R) (hb : Below w.heap.size w w') : rangeAt w' r m R :=
  h.of_blocks (hb.block r h.lt.1) (fun g e => hb.block g (h.lt.2 g e))
/-- Not a block of cells. -/
theorem rangeAt.no_cells {w : World} {r : Nat} {m : Option Nat} {R : List Ent} (h : rangeAt w r m R) : (∀ cs t f, w.heap[r]? ≠ some (.cells cs t f)) ∧ ∀ g, m = some g → ∀ cs t f, w.heap[g]? ≠ some (.cells cs t f) := by
  cases m with
  | none =>
    obtain ⟨⟨s, c, seen, h1⟩, h2⟩ := h
    exact ⟨(fun cs t f e => by rw [h1] at e; cases e), (fun g e => by cases e)⟩
  | some g =>
    obtain ⟨es, clock, since, seen, c0, h1, h2, h3⟩ := h
    exact ⟨(fun cs t f e => by rw [h2] at e; cases e), (fun g' e cs t f e2 => by cases e; rw [h1] at e2; cases e2)⟩
theorem rangeAt.grown {w w' : World} {r : Nat} {m : Option Nat} {R : List Ent} (h : rangeAt w r m R) {B : Nat} {e : TypeId} {v : Value} {xs : List Value} (hv : rowV w B e v xs) (hg : w.grownBy w' v.ownBlock) : rangeAt w' r m R := by
  have key : ∀ b, b < w.heap.size → (∀ cs t f, w.heap[b]? ≠ some (.cells cs t f)) → w'.heap[b]? = w.heap[b]? := fun b hb hc => hg.block b hb fun e => by
    rcases hv.2 with ⟨rfl, h0⟩ | ⟨g', cap, cur, rfl, hba, hh, -⟩
    · cases e
    · cases e
      exact hc _ _ _ hh
  exact h.of_blocks (key r h.lt.1 h.no_cells.1) (fun g e => key g (h.lt.2 g e) (h.no_cells.2 g e))
theorem row_but {w w1 : World} {B r : Nat} {e : TypeId} {v : Value} {xs : List Value} (h : rowV w B e v xs) (hb : But r w w1) (hr : ∀ cs t f, w.heap[r]? ≠ some (.cells cs t f)) : rowV w1 B e v xs := by
  refine World.ownsRow.kept h ⟨hb.os, hb.tape, hb.output, hb.size, fun j hj hne => hb.block j hj (fun e => hne (by rw [e]))⟩ (row := some r) ?_
  rcases h.2 with ⟨rfl, h0⟩ | ⟨g', cap, cur, rfl, hba, hh, -⟩
  · exact Or.inl rfl
  · refine Or.inr (fun e => ?_)
    have e' : g' = r := by simpa [Value.ownBlock] using e
    subst e'
    exact hr _ _ _ hh
theorem run_range_any {w : World} {m : Option Nat} {L : List Ent} (h0 : m = none → L = []) (h1 : ∀ g, m = some g → mapIs w g L) :
    ∃ w', (Instr.range 48 (.map m)).run Try.prog w = .ok (.pointer (some ⟨w.heap.size, 0, none⟩)) w' ∧ rangeAt w' w.heap.size m L ∧ Below w.heap.size w w' := by
  cases m with
  | none =>
    refine ⟨w.alloc (.mapIter none 0 #[] 0), ?_, ⟨⟨_, _, _, (MapKept.heap_alloc w _).1⟩, h0 rfl⟩, (Below.refl _ _).alloc (Nat.le_refl _) _⟩
    simp [Instr.range, run_underlying Try.underlying48, Result.andThen]
  | some g =>
    obtain ⟨es, clock, hb, hs, hl⟩ := h1 g rfl
    refine ⟨w.alloc (.mapIter (some g) clock #[] clock), ?_, ⟨es, clock, clock, #[], clock, ?_, (MapKept.heap_alloc w _).1, hs.1, Nat.le_refl _, Nat.le_refl _, hs.2.1, ?_⟩, (Below.refl _ _).alloc (Nat.le_refl _) _⟩
    · simp [Instr.range, run_underlying Try.underlying48, MapKept.run_getObj_map hb, Result.andThen]
    · rw [(MapKept.heap_alloc w _).2 g (Array.getElem?_eq_some_iff.1 hb).1]
      exact hb
    · rw [← hl]
      simp [leftOf]
      rw [show es.toList.filter (fun _ => true) = es.toList from List.filter_eq_self.2 (by simp)]
theorem perm_erase {α : Type} : ∀ (l : List α) (j : Nat) (h : j < l.length), (l[j] :: l.eraseIdx j).Perm l
  | [], j, h => by simp at h
  | x :: r, 0, h => by simp
  | x :: r, j + 1, h => by
    have := perm_erase r j (by simpa using h)
    simp only [List.getElem_cons_succ, List.eraseIdx_cons_succ]
    exact (List.Perm.swap _ _ _).trans (this.cons x)
theorem left_push {es : Array MapEntry} {seen : Array Nat} (hn : (es.toList.map (·.born)).Nodup) {j : Nat} {e : MapEntry} (hj : (leftOf es seen).toList[j]? = some e) : (leftOf es (seen.push e.born)).toList = (leftOf es seen).toList.eraseIdx j := by
  have h1 : (leftOf es (seen.push e.born)).toList = (leftOf es seen).toList.filter (fun x => x.born != e.born) := by
    unfold leftOf
    simp only [Array.toList_filter, List.filter_filter]
    refine List.filter_congr fun x _ => ?_
    by_cases hx : x.born = e.born
    · simp [hx]
    · simp [hx]
  have h2 : ((leftOf es seen).toList.map (·.born)).Nodup := by
    unfold leftOf
    rw [Array.toList_filter]
    exact (List.filter_sublist.map _).nodup hn
  rw [h1]
  generalize (leftOf es seen).toList = l at *
  clear h1 hn
  induction l generalizing j with
  | nil => simp at hj
  | cons x r ih =>
    rw [List.map_cons, List.nodup_cons] at h2
    cases j with
    | zero =>
      simp only [List.getElem?_cons_zero, Option.some.injEq] at hj
      subst hj
      simp only [List.eraseIdx_zero, List.tail_cons, List.filter_cons, bne_self_eq_false, Bool.false_eq_true, if_false]
      rw [List.filter_eq_self]
      intro y hy
      simp only [bne_iff_ne, ne_eq]
      intro e
      exact h2.1 (List.mem_map.2 ⟨y, hy, e⟩)
    | succ j =>
      simp only [List.getElem?_cons_succ] at hj
      have hm : e ∈ r := List.mem_of_getElem? hj
      have hne : (x.born != e.born) = true := by
        simp only [bne_iff_ne, ne_eq]
        intro q
        exact h2.1 (List.mem_map.2 ⟨e, hm, q.symm⟩)
      simp only [List.eraseIdx_cons_succ, List.filter_cons, hne, if_true]
      rw [ih hj h2.2]
theorem run_next_any {w : World} {r : Nat} {m : Option Nat} {R : List Ent} (h : rangeAt w r m R) (ty : TypeId) :
    (R = [] ∧ (Instr.next (.pointer (some ⟨r, 0, none⟩)) false ty).run Try.prog w = .ok (.tuple #[.bool false]) w) ∨
    ∃ p R' w', R.Perm (p :: R') ∧ (Instr.next (.pointer (some ⟨r, 0, none⟩)) false ty).run Try.prog w = .ok (.tuple #[.bool true, .string (str p.1), objV p.2]) w' ∧ rangeAt w' r m R' ∧ But r w w' ∧ w'.heap.size = w.heap.size ∧
      (Instr.entry (.pointer (some ⟨r, 0, none⟩))).run Try.prog w' = .ok (.tuple #[.string (str p.1), objV p.2]) w' := by
  cases m with
  | none =>
    obtain ⟨⟨s, c, seen, h1⟩, rfl⟩ := h
    refine Or.inl ⟨rfl, ?_⟩
    simp [Instr.next, getObj, Sem.run, h1, Result.andThen]
  | some g =>
    obtain ⟨es, clock, since, seen, c0, h1, h2, h3, h4, h4', h5, h6⟩ := h
    rcases run_next_at (P := Try.prog) w ty r g since c0 seen es clock h2 h1 h3 h4 with ⟨hz, hrun⟩ | ⟨e, he, w1, hw1, hrun⟩
    · refine Or.inl ⟨?_, hrun⟩
      have : (leftOf es seen).toList = [] := List.eq_nil_of_length_eq_zero (by simpa using hz)
      rw [this] at h6
      exact (List.map_eq_nil_iff.1 h6.symm)
    · obtain ⟨j, hj⟩ := List.getElem?_of_mem he
      have hr1 : w1.heap[r]? = some (.mapIter (some g) since seen c0) := by rcases hw1 with rfl | rfl <;> exact h2
      have hg1 : w1.heap[g]? = some (.map es clock) := by rcases hw1 with rfl | rfl <;> exact h1
      have hlt : r < w1.heap.size := (Array.getElem?_eq_some_iff.1 hr1).1
      have hgr : g ≠ r := fun e => by rw [e, h2] at h1; cases h1
      have hjR : j < R.length := by
        have a1 := congrArg List.length h6
        rw [List.length_map, List.length_map] at a1
        have a2 := (List.getElem?_eq_some_iff.1 hj).1
        omega
      have hp : (e.key, e.val) = pairV R[j] := by
        have a1 := congrArg (fun l => l[j]?) h6
        simpa [hj, hjR] using a1
      have hk : e.key = .string (str R[j].1) := congrArg Prod.fst hp
      have hv : e.val = objV R[j].2 := congrArg Prod.snd hp
      have hsame : (setBlock w1 r (.mapIter (some g) since (seen.push e.born) clock)).heap[r]? = some (.mapIter (some g) since (seen.push e.born) clock) := by simp [setBlock, hlt]
      have hoth : ∀ i, i ≠ r → (setBlock w1 r (.mapIter (some g) since (seen.push e.born) clock)).heap[i]? = w1.heap[i]? := fun i hi => by simp [setBlock, Ne.symm hi]
      have hes : e ∈ es.toList := by
        have : e ∈ (leftOf es seen).toList := he
        unfold leftOf at this
        rw [Array.toList_filter] at this
        exact (List.mem_filter.1 this).1
      have hw : w1.os = w.os ∧ w1.tape = w.tape ∧ w1.output = w.output ∧ w1.heap = w.heap := by rcases hw1 with rfl | rfl <;> exact ⟨rfl, rfl, rfl, rfl⟩
      refine Or.inr ⟨R[j], R.eraseIdx j, _, ?_, by rw [← hk, ← hv]; exact hrun, ⟨es, clock, since, seen.push e.born, clock, (hoth g hgr).trans hg1, hsame, h3, h4', h4', h5, ?_⟩, ⟨hw.1, hw.2.1, hw.2.2.1, ?_, fun i hi hn => ?_⟩, ?_, ?_⟩
      · exact (perm_erase R j hjR).symm
      · rw [left_push h5 hj, Go.ChangeMaps.map_eraseIdx, h6, Go.ChangeMaps.map_eraseIdx]
      · simp [setBlock, hw.2.2.2]
      · rw [hoth i hn, hw.2.2.2]
      · simp [setBlock, hw.2.2.2]
      · have := run_entry_at (P := Try.prog) (setBlock w1 r (.mapIter (some g) since (seen.push e.born) clock)) r g since seen es clock e hsame ((hoth g hgr).trans hg1) hes h5
        rw [← hk, ← hv]
        exact this
theorem rangeAt.left {w : World} {r g : Nat} {R : List Ent} (h : rangeAt w r (some g) R) : w.rangeLeft g r = R.length := by
  obtain ⟨es, clock, since, seen, c0, h1, h2, h3, h4, h4', h5, h6⟩ := h
  simp only [World.rangeLeft, h1, h2]
  simpa using congrArg List.length h6
/-- How many are still to come. -/
def restOf (w : World) (r : Nat) (m : Option Nat) : Nat := w.rangeLeft (m.getD 0) r
theorem rangeAt.rest {w w' : World} {r : Nat} {m : Option Nat} {R R' : List Ent} {p : Ent} (h : rangeAt w r m R) (h' : rangeAt w' r m R') (hp : R.Perm (p :: R')) : restOf w' r m < restOf w r m := by
  cases m with
  | none =>
    obtain ⟨_, rfl⟩ := h
    have := hp.length_eq
    simp at this
  | some g =>
    show w'.rangeLeft g r < w.rangeLeft g r
    rw [h.left, h'.left, hp.length_eq]
    simp
section
variable {w : World} {ops : Array Oper} {rest : List Oper} {o : Oper} {a : Act} {Q : Exit → Act → World → Prop}
theorem at_rng (hg : o.guard = none) (x : Operand) (hop : o.op = Op.range 48 x) (m : Option Nat) (L : List Ent) (hm : a.eval x = .map m) (h0 : m = none → L = []) (h1 : ∀ g, m = some g → mapIs w g L)
    (hK : ∀ w', rangeAt w' w.heap.size m L → Below w.heap.size w w' → wpList Try.prog ops Q rest (a.put o.dst (.pointer (some ⟨w.heap.size, 0, none⟩))) w') : wpList Try.prog ops Q (o :: rest) a w := by
  refine wpList_plain hg fun K' hK' => ?_
  obtain ⟨w', hrun, r1, r2⟩ := run_range_any (w := w) h0 h1
  unfold Oper.wp
  simp [execOp, hop, hm, hrun, Result.andThen]
  exact hK' _ _ (hK w' r1 r2)
theorem at_nxt (hg : o.guard = none) (it : Operand) (hop : o.op = Op.next it false) (r : Nat) (m : Option Nat) (R : List Ent) (hit : a.eval it = .pointer (some ⟨r, 0, none⟩)) (h : rangeAt w r m R)
    (hDone : Hid (R = []) → wpList Try.prog ops Q rest (a.put o.dst (.tuple #[.bool false])) w)
    (hMore : ∀ n b f R' w', Hid (R.Perm ((n, (b, f)) :: R')) → Hid (rangeAt w' r m R') → Hid (But r w w') → (Instr.entry (.pointer (some ⟨r, 0, none⟩))).run Try.prog w' = .ok (.tuple #[.string (str n), .agg #[.string (str b), .bool f]]) w' →
      wpList Try.prog ops Q rest (a.put o.dst (.tuple #[.bool true, .string (str n), .agg #[.string (str b), .bool f]])) w') : wpList Try.prog ops Q (o :: rest) a w := by
  refine wpList_plain hg fun K' hK' => ?_
  unfold Oper.wp
  rcases run_next_any h o.type with ⟨h0, hrun⟩ | ⟨⟨n, b, f⟩, R', w', hp, hrun, h1, h2, h3, h4⟩
  · simp [execOp, hop, hit, hrun, Result.andThen]
    exact hK' _ _ (hDone (Lib.hid h0))
  · simp only [objV] at hrun h4
    simp [execOp, hop, hit, hrun, Result.andThen]
    exact hK' _ _ (hMore n b f R' w' (Lib.hid hp) (Lib.hid h1) (Lib.hid h2) h4)
end
end Go.Proofs.Ythefledeoiegjaa
