/- Sets of names: maps whose keys are names of 32 bytes. -/
import Derived.Test.YtfhlcondnaahiaaDoorGa
import Derived.Test.YtfhlcondnaahiaaDoorGc
import Derived.Maps.RangeRun
import Derived.MapKept
import Derived.WideKeyArr
namespace Go.Proofs.YtfhlcondnaahiaaDoor
open Go.RowKit Sha Go.MapKept Go.WideMaps
open Go.ChangeMaps (setBlock)

def keyV (l : List UInt8) : Value := .agg (byteCells l).toArray
theorem byteCells_inj {a b : List UInt8} (h : byteCells a = byteCells b) : a = b := by
  induction a generalizing b with
  | nil => cases b with
    | nil => rfl
    | cons y b => cases h
  | cons x a ih => cases b with
    | nil => cases h
    | cons y b =>
      simp only [byteCells, List.map_cons, List.cons.injEq, Value.int.injEq, true_and] at h
      rw [V_inj h.1, ih h.2]
theorem keyV_inj {a b : List UInt8} (h : keyV a = keyV b) : a = b := by
  unfold keyV at h
  injection h with h
  exact byteCells_inj (by simpa using h)
theorem arrKey : ArrKey Tryd.prog 24 5 32 := ⟨Tryd.underlying24, by kernel_rfl, by kernel_rfl, by kernel_rfl⟩
theorem mapM_all {α β : Type} {f : α → Option β} {g : α → β} (L : List α) (h : ∀ i ∈ L, f i = some (g i)) : L.mapM f = some (L.map g) := by
  induction L with
  | nil => rfl
  | cons a L ih => simp [List.mapM_cons, h a (List.mem_cons_self ..), ih fun i hi => h i (List.mem_cons_of_mem _ hi)]
theorem keyOf_id (l : List UInt8) (hl : l.length = 32) : ∃ k, keyOf Tryd.prog 24 (keyV l) = some k := by
  obtain ⟨m, hm⟩ : ∃ m, Tryd.prog.types.size = m + 1 := ⟨Tryd.prog.types.size - 1, by kernel_rfl⟩
  have hkt := arrKey.keyType ⟨m, hm⟩
  have hs : (byteCells l).toArray.size = 32 := by simp [byteCells_length, hl]
  refine ⟨.string (keyBytes (List.flatten ((List.range 32).map fun i => [Lit.int .u8 (V (l.getD i 0))]))), ?_⟩
  unfold keyOf keyV
  simp only [arrKey.hu]
  rw [if_pos (by simp [hkt, Value.formed, arrKey.hu, arrKey.size, byteCells_length, hl]), hm]
  unfold Program.keyLits
  simp only [arrKey.hu, Value.cells]
  rw [if_pos (by rw [arrKey.size]; simp [byteCells_length, hl]), arrKey.one, mapM_all (g := fun i => [Lit.int .u8 (V (l.getD i 0))]) _ (fun i hi => ?_)]
  · rfl
  · have hi := List.mem_range.1 hi
    have e : ((byteCells l).toArray.toList.drop (i * 1)).take 1 = [.int .u8 (V (l.getD i 0))] := by
      have := byteCells_get l i (by omega)
      rw [List.toList_toArray, Nat.mul_one]
      apply List.ext_getElem?
      intro j
      cases j with
      | zero => simpa using this
      | succ j => simp; omega
    rw [e]
    unfold Program.keyLits
    have hu : Tryd.prog.underlying 5 = some (.int .u8) := Tryd.underlying5
    simp only [hu]
    have hw : (Lit.int .u8 (V (l.getD i 0))).wf = true := by
      have h0 := V_nonneg (l.getD i 0)
      have h1 := V_lt (l.getD i 0)
      generalize V (l.getD i 0) = z at *
      simp only [Lit.wf, Bool.and_eq_true, decide_eq_true_eq]
      exact ⟨h0, by show z ≤ 255; omega⟩
    rw [if_pos ⟨trivial, hw⟩]
/-- Block g is a set of these names, in the order in which they came. -/
def setIs (w : World) (g : Nat) (L : List (List UInt8)) : Prop :=
  ∃ es clock, w.heap[g]? = some (.map es clock) ∧ Stamped es clock ∧ es.toList.map (fun e => (e.key, e.val)) = L.map (fun l => (keyV l, Value.agg #[])) ∧ ∀ l ∈ L, l.length = 32
theorem setIs.lt {w : World} {g : Nat} {L : List (List UInt8)} (h : setIs w g L) : g < w.heap.size := by
  obtain ⟨es, clock, hb, _⟩ := h
  exact (Array.getElem?_eq_some_iff.1 hb).1
theorem setIs.of_block {w w' : World} {g : Nat} {L : List (List UInt8)} (h : setIs w g L) (hb : w'.heap[g]? = w.heap[g]?) : setIs w' g L := by
  obtain ⟨es, clock, h1, h2⟩ := h
  exact ⟨es, clock, hb.trans h1, h2⟩
theorem setIs.new (w : World) : setIs (w.alloc (.map #[] 0)) w.heap.size [] :=
  ⟨#[], 0, (MapKept.heap_alloc w _).1, stamped_empty 0, rfl, by simp⟩
theorem setIs.ne_cells {w : World} {g k : Nat} {L : List (List UInt8)} {cs : Array Value} {t : TypeId} {z : Nat × Nat} (h : setIs w g L) (hb : w.heap[k]? = some (.cells cs t z)) : g ≠ k := by
  intro e
  subst e
  obtain ⟨es, clock, h1, _⟩ := h
  rw [h1] at hb
  cases hb
theorem find_id (w : World) {es : List MapEntry} {L : List (List UInt8)} (h : es.map (fun e => (e.key, e.val)) = L.map (fun l => (keyV l, Value.agg #[]))) (h32 : ∀ l ∈ L, l.length = 32) (n : List UInt8) (hn : n.length = 32) :
    ((Instr.findKey 24 (keyV n) es).run Tryd.prog w = .ok none w ∧ n ∉ L) ∨ ∃ j, (Instr.findKey 24 (keyV n) es).run Tryd.prog w = .ok (some (j, .agg #[])) w ∧ n ∈ L := by
  have hm : ∀ e ∈ es, ∃ l ∈ L, e.key = keyV l ∧ e.val = .agg #[] := fun e he => by
    have : (e.key, e.val) ∈ L.map (fun l => (keyV l, Value.agg #[])) := by rw [← h]; exact List.mem_map.2 ⟨e, he, rfl⟩
    obtain ⟨l, hl, e1⟩ := List.mem_map.1 this
    exact ⟨l, hl, (congrArg Prod.fst e1).symm, (congrArg Prod.snd e1).symm⟩
  obtain ⟨k, hk⟩ := keyOf_id n hn
  rcases arrKey.law.find w hk es (fun e he => by obtain ⟨l, hl, e1, -⟩ := hm e he; rw [e1]; exact keyOf_id l (h32 l hl)) with ⟨h1, h2⟩ | ⟨j, e, h1, h2, h3⟩
  · refine .inl ⟨h1, fun hin => ?_⟩
    have : (keyV n, Value.agg #[]) ∈ es.map (fun e => (e.key, e.val)) := by rw [h]; exact List.mem_map.2 ⟨n, hin, rfl⟩
    obtain ⟨e, he, e1⟩ := List.mem_map.1 this
    exact h2 e he (congrArg Prod.fst e1)
  · obtain ⟨l, hl, e1, e2⟩ := hm e (List.mem_of_getElem? h2)
    rw [e2] at h1
    exact .inr ⟨j, h1, by rw [keyV_inj (h3.symm.trans e1)]; exact hl⟩
theorem zero_unit (w : World) : (zeroValue 81).run Tryd.prog w = .ok (.agg #[]) w := by kernel_rfl
/-- A look-up. -/
theorem run_look {w : World} {g : Nat} {L : List (List UInt8)} (h : setIs w g L) (n : List UInt8) (hn : n.length = 32) :
    (Instr.lookup 78 (.map (some g)) (keyV n) true).run Tryd.prog w = .ok (.tuple #[.agg #[], .bool (decide (n ∈ L))]) w := by
  obtain ⟨es, clock, hb, hs, hl, h32⟩ := h
  obtain ⟨k, hk⟩ := keyOf_id n hn
  have hc := arrKey.law.check w es.isEmpty hk
  rcases find_id w hl h32 n hn with ⟨h1, h2⟩ | ⟨j, h1, h2⟩
  · simp [Instr.lookup, run_underlying Tryd.underlying78, MapKept.run_getObj_map hb, hc, h1, Result.andThen, h2, zero_unit]
  · simp [Instr.lookup, run_underlying Tryd.underlying78, MapKept.run_getObj_map hb, hc, h1, Result.andThen, h2]
theorem run_look_nil (w : World) (n : List UInt8) (hn : n.length = 32) :
    (Instr.lookup 78 (.map none) (keyV n) true).run Tryd.prog w = .ok (.tuple #[.agg #[], .bool false]) w := by
  obtain ⟨k, hk⟩ := keyOf_id n hn
  have hc := arrKey.law.check w true hk
  rcases find_id w (es := []) (L := []) rfl (by simp) n hn with ⟨h1, h2⟩ | ⟨j, h1, h2⟩
  · simp [Instr.lookup, run_underlying Tryd.underlying78, hc, h1, Result.andThen, zero_unit]
  · exact absurd h2 (List.not_mem_nil)
/-- A store of a name that isn't there. -/
theorem run_put {w : World} {g : Nat} {L : List (List UInt8)} (h : setIs w g L) (n : List UInt8) (hn : n.length = 32) (hni : n ∉ L) :
    ∃ es' clock', (Instr.mapUpdate 78 (.map (some g)) (keyV n) (.agg #[])).run Tryd.prog w = .ok () (setBlock w g (.map es' clock')) ∧ setIs (setBlock w g (.map es' clock')) g (L ++ [n]) := by
  obtain ⟨es, clock, hb, hs, hl, h32⟩ := h
  obtain ⟨k, hk⟩ := keyOf_id n hn
  have hc := arrKey.law.check w false hk
  rcases find_id w hl h32 n hn with ⟨h1, h2⟩ | ⟨j, h1, h2⟩
  · refine ⟨es.push { key := keyV n, val := .agg #[], born := clock }, clock + 1, ?_, _, _, (MapKept.heap_set hb).1, ?_, ?_, ?_⟩
    · simp [Instr.mapUpdate, run_underlying Tryd.underlying78, MapKept.run_getObj_map hb, hc, h1, MapKept.run_setObj_map _ hb, Result.andThen, setBlock]
    · refine stamped_push hs fun x hx e => ?_
      have hm : (x.key, x.val) ∈ L.map (fun l => (keyV l, Value.agg #[])) := by rw [← hl]; exact List.mem_map.2 ⟨x, hx, rfl⟩
      obtain ⟨l, hl, e2⟩ := List.mem_map.1 hm
      have e3 : keyV l = x.key := congrArg Prod.fst e2
      rw [e] at e3
      exact h2 (keyV_inj e3 ▸ hl)
    · simp [hl]
    · intro l hin
      rcases List.mem_append.1 hin with hin | hin
      · exact h32 l hin
      · rw [List.mem_singleton.1 hin]; exact hn
  · exact absurd h2 hni
theorem but_setBlock {w : World} {g : Nat} {o o' : Obj} (_h : w.heap[g]? = some o) : But g w (setBlock w g o') :=
  ⟨rfl, rfl, rfl, by simp [setBlock], fun k _ hk => by simp [setBlock, Ne.symm hk]⟩
end Go.Proofs.YtfhlcondnaahiaaDoor
