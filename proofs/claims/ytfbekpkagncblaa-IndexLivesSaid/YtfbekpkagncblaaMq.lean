/- Sets of texts: their blocks, and what look-up and store do to them. -/
import Derived.Test.YtfbekpkagncblaaBase
import Derived.Maps.RangeRun
import Derived.MapKept
namespace Go.Proofs.Ytfbekpkagncblaa
open Go.RowKit Go.MapKept
open Go.ChangeMaps (setBlock)

/-- A text. -/
def str (l : List UInt8) : ByteArray := ⟨l.toArray⟩
theorem str_inj {a b : List UInt8} (h : str a = str b) : a = b := by
  have := congrArg (fun x => x.data.toList) h
  simpa [str] using this
theorem str_data (s : ByteArray) : s = str s.data.toList := by simp [str]
theorem str_size (l : List UInt8) : (str l).size = l.length := by simp [str, ByteArray.size]
/-- An object: its bytes, and whether it is synced. -/
abbrev Ob := Unit
abbrev Ent := List UInt8 × Ob
def objV (_ : Ob) : Value := .agg #[]
def pairV (p : Ent) : Value × Value := (.string (str p.1), objV p.2)
def get : List Ent → List UInt8 → Option Ob
  | [], _ => none
  | p :: r, n => if p.1 = n then some p.2 else get r n
def put : List Ent → List UInt8 → Ob → List Ent
  | [], n, o => [(n, o)]
  | p :: r, n, o => if p.1 = n then (n, o) :: r else p :: put r n o
def del : List Ent → List UInt8 → List Ent
  | [], _ => []
  | p :: r, n => if p.1 = n then r else p :: del r n
def has (L : List Ent) (n : List UInt8) : Bool := (get L n).isSome
/-- Block g is a map of these entries, in the order in which they came. -/
def mapIs (w : World) (g : Nat) (L : List Ent) : Prop :=
  ∃ es clock, w.heap[g]? = some (.map es clock) ∧ Stamped es clock ∧ es.toList.map (fun e => (e.key, e.val)) = L.map pairV
theorem mapIs.lt {w : World} {g : Nat} {L : List Ent} (h : mapIs w g L) : g < w.heap.size := by
  obtain ⟨es, clock, hb, _⟩ := h
  exact (Array.getElem?_eq_some_iff.1 hb).1
theorem mapIs.of_block {w w' : World} {g : Nat} {L : List Ent} (h : mapIs w g L) (hb : w'.heap[g]? = w.heap[g]?) : mapIs w' g L := by
  obtain ⟨es, clock, h1, h2, h3⟩ := h
  exact ⟨es, clock, hb.trans h1, h2, h3⟩
theorem mapIs.new (w : World) : mapIs (w.alloc (.map #[] 0)) w.heap.size [] :=
  ⟨#[], 0, (MapKept.heap_alloc w _).1, stamped_empty 0, rfl⟩
theorem mapIs.ne_block {w : World} {g k : Nat} {L : List Ent} {cs : List Value} {t : TypeId} (h : mapIs w g L) (hb : blockIs w k cs t) : g ≠ k := by
  intro e
  subst e
  obtain ⟨es, clock, h1, _⟩ := h
  unfold blockIs at hb
  rw [h1] at hb
  cases hb
/-- What findNow tells, in the list's words. -/
theorem find_list (n : List UInt8) : ∀ (l : List MapEntry) (L : List Ent) (i : Nat), l.map (fun e => (e.key, e.val)) = L.map pairV →
    (Instr.findNow .string (.string (str n)) l i = some none ∧ get L n = none ∧ put L n = (fun o => L ++ [(n, o)]) ∧ del L n = L) ∨
    ∃ j o, Instr.findNow .string (.string (str n)) l i = some (some (i + j, objV o)) ∧ j < L.length ∧ L[j]? = some (n, o) ∧ get L n = some o ∧ put L n = (fun o' => L.set j (n, o')) ∧ del L n = L.eraseIdx j
  | [], [], i, _ => .inl ⟨rfl, rfl, rfl, rfl⟩
  | e :: es, p :: r, i, h => by
    simp only [List.map_cons, List.cons.injEq] at h
    obtain ⟨h1, h2⟩ := h
    have hk : e.key = .string (str p.1) := congrArg Prod.fst h1
    have hv : e.val = objV p.2 := congrArg Prod.snd h1
    by_cases hn : p.1 = n
    · subst hn
      refine .inr ⟨0, p.2, ?_, by simp, rfl, by simp [get], by funext o; simp [put], by simp [del]⟩
      simp [Instr.findNow, Instr.sameNow, hk, hv, (bytes_beq _ _).2 rfl]
    · have hb : (str n == str p.1) = false := by
        cases hq : (str n == str p.1)
        · rfl
        · exact absurd (str_inj ((bytes_beq _ _).1 hq)).symm hn
      rcases find_list n es r (i + 1) h2 with ⟨g1, g2, g3, g4⟩ | ⟨j, o, g1, g2, g3, g4, g5, g6⟩
      · refine .inl ⟨by simp [Instr.findNow, Instr.sameNow, hk, hb, g1], by simp [get, hn, g2], ?_, by simp [del, hn, g4]⟩
        funext o
        simp [put, hn, g3]
      · refine .inr ⟨j + 1, o, ?_, by simp; omega, by simpa using g3, by simp [get, hn, g4], ?_, by simp [del, hn, g6]⟩
        · simp [Instr.findNow, Instr.sameNow, hk, hb, g1]
          omega
        · funext o'
          simp [put, hn, g5]
  | [], p :: r, i, h => by simp at h
  | e :: es, [], i, h => by simp at h
theorem isKey_str (n : List UInt8) : IsKey .string (.string (str n)) := by simp [IsKey]
theorem entry_get {es : List MapEntry} {L : List Ent} (h : es.map (fun e => (e.key, e.val)) = L.map pairV) {j : Nat} {p : Ent} (hj : L[j]? = some p) : ∃ e, es[j]? = some e ∧ e.key = .string (str p.1) ∧ e.val = objV p.2 := by
  have h1 := congrArg (fun l => l[j]?) h
  simp only [List.getElem?_map, hj, Option.map_some] at h1
  cases he : es[j]? with
  | none => simp [he] at h1
  | some e =>
    simp only [he, Option.map_some, Option.some.injEq] at h1
    exact ⟨e, rfl, congrArg Prod.fst h1, congrArg Prod.snd h1⟩
def obOr (_ : Option Ob) : Ob := ()
theorem zero_obj (w : World) : (zeroValue 35).run Try.prog w = .ok (objV ()) w := by
  have : (zeroValue 35).run Try.prog w = .ok (.agg #[]) w := by kernel_rfl
  exact this
/-- A look-up. -/
theorem run_look (c : Bool) {w : World} {g : Nat} {L : List Ent} (h : mapIs w g L) (n : List UInt8) :
    (Instr.lookup 34 (.map (some g)) (.string (str n)) c).run Try.prog w = .ok (if c then .tuple #[objV (obOr (get L n)), .bool (has L n)] else objV (obOr (get L n))) w := by
  obtain ⟨es, clock, hb, hs, hl⟩ := h
  rcases find_list n es.toList L 0 hl with ⟨h1, h2, -, -⟩ | ⟨j, o, h1, -, -, h2, -, -⟩
  · simp [Instr.lookup, run_underlying Try.underlying34, MapKept.run_getObj_map hb, MapKept.run_checkKey Try.underlying9 (isKey_str n), MapKept.run_findKey Try.underlying9 h1, Result.andThen, has, h2, obOr]
    rfl
  · simp [Instr.lookup, run_underlying Try.underlying34, MapKept.run_getObj_map hb, MapKept.run_checkKey Try.underlying9 (isKey_str n), MapKept.run_findKey Try.underlying9 h1, Result.andThen, has, h2, obOr]
theorem run_look_nil (c : Bool) (w : World) (n : List UInt8) :
    (Instr.lookup 34 (.map none) (.string (str n)) c).run Try.prog w = .ok (if c then .tuple #[objV (), .bool false] else objV ()) w := by
  have h1 : Instr.findNow .string (.string (str n)) [] 0 = some none := rfl
  simp [Instr.lookup, run_underlying Try.underlying34, MapKept.run_checkKey Try.underlying9 (isKey_str n), MapKept.run_findKey Try.underlying9 h1, Result.andThen]
  rfl
theorem toList_modify (es : Array MapEntry) (j : Nat) (f : MapEntry → MapEntry) : (es.modify j f).toList = es.toList.modify j f := by simp
/-- A store. -/
theorem run_put {w : World} {g : Nat} {L : List Ent} (h : mapIs w g L) (n : List UInt8) (o : Ob) :
    ∃ es' clock', (Instr.mapUpdate 34 (.map (some g)) (.string (str n)) (objV o)).run Try.prog w = .ok () (setBlock w g (.map es' clock')) ∧ mapIs (setBlock w g (.map es' clock')) g (put L n o) := by
  obtain ⟨es, clock, hb, hs, hl⟩ := h
  rcases find_list n es.toList L 0 hl with ⟨h1, h2, h3, -⟩ | ⟨j, o1, h1, hj, hx, h2, h3, -⟩
  · refine ⟨es.push { key := .string (str n), val := objV o, born := clock }, clock + 1, ?_, _, _, (MapKept.heap_set hb).1, ?_, ?_⟩
    · simp [Instr.mapUpdate, run_underlying Try.underlying34, MapKept.run_getObj_map hb, MapKept.run_checkKey Try.underlying9 (isKey_str n), MapKept.run_findKey Try.underlying9 h1, MapKept.run_setObj_map _ hb, Result.andThen, setBlock]
    · refine stamped_push hs fun x hx e => ?_
      have hm : (x.key, x.val) ∈ L.map pairV := by rw [← hl]; exact List.mem_map.2 ⟨x, hx, rfl⟩
      obtain ⟨p, hp, e2⟩ := List.mem_map.1 hm
      have e3 : Value.string (str p.1) = x.key := congrArg Prod.fst e2
      rw [e] at e3
      have e4 : p.1 = n := str_inj (by injection e3)
      have hh : ∀ (M : List Ent), p ∈ M → p.1 = n → get M n ≠ none := by
        intro M
        induction M with
        | nil => intro h; cases h
        | cons q r ih =>
          intro h e
          unfold get
          split
          · simp
          · rcases List.mem_cons.1 h with rfl | h
            · contradiction
            · exact ih h e
      exact hh L hp e4 h2
    · rw [h3]
      simp [hl, pairV]
  · obtain ⟨e, he, hk, hv⟩ := entry_get hl hx
    have hje : es[j]? = some e := by simpa using he
    have hf : ∀ e', es[j]? = some e' → ({ e' with key := .string (str n), val := objV o } : MapEntry).key = e'.key := fun e' he' => by rw [hje] at he'; cases he'; exact hk.symm
    refine ⟨es.modify j fun e => { e with key := .string (str n), val := objV o }, clock, ?_, _, _, (MapKept.heap_set hb).1, stamped_modify hs _ _ (fun _ _ => rfl) (fun e' _ he' => hf e' he'), ?_⟩
    · simp [Instr.mapUpdate, run_underlying Try.underlying34, MapKept.run_getObj_map hb, MapKept.run_checkKey Try.underlying9 (isKey_str n), MapKept.run_findKey Try.underlying9 h1, hje, hk, MapKept.run_keyThatStays (isKey_str n), MapKept.run_setObj_map _ hb, Result.andThen, setBlock]
    · rw [h3, toList_modify]
      apply List.ext_getElem?
      intro i
      have hi := congrArg (fun l => l[i]?) hl
      simp only [List.getElem?_map] at hi
      simp only [List.getElem?_map, List.getElem?_modify, List.getElem?_set]
      by_cases hij : j = i
      · subst hij
        simp [he, hj, pairV]
      · simp only [if_neg hij]
        rw [← hi]
        cases es.toList[i]? <;> rfl
theorem but_setBlock {w : World} {g : Nat} {o o' : Obj} (_h : w.heap[g]? = some o) : But g w (setBlock w g o') :=
  ⟨rfl, rfl, rfl, by simp [setBlock], fun k _ hk => by simp [setBlock, Ne.symm hk]⟩
section
variable {w : World} {ops : Array Oper} {rest : List Oper} {o : Oper} {a : Act} {Q : Exit → Act → World → Prop}
theorem at_put (hg : o.guard = none) (x y z : Operand) (hop : o.op = Op.mapUpdate 34 x y z) (g : Nat) (L : List Ent) (n : List UInt8) (ob : Ob)
    (hx : a.eval x = .map (some g)) (hy : a.eval y = .string (str n)) (hz : a.eval z = .agg #[]) (h : mapIs w g L)
    (hK : ∀ w', Hid (mapIs w' g (put L n ob)) → Hid (But g w w') → wpList Try.prog ops Q rest (a.put o.dst undef) w') : wpList Try.prog ops Q (o :: rest) a w := by
  refine wpList_plain hg fun K' hK' => ?_
  obtain ⟨es, clock, hrun, h2⟩ := run_put h n ob
  have hb : ∃ o', w.heap[g]? = some o' := by
    obtain ⟨es0, c0, h1, _⟩ := h
    exact ⟨_, h1⟩
  obtain ⟨o', hb⟩ := hb
  simp only [objV] at hrun
  unfold Oper.wp
  simp [execOp, hop, hx, hy, hz, hrun, Result.andThen]
  exact hK' _ _ (hK _ (Lib.hid h2) (Lib.hid (but_setBlock hb)))
end
end Go.Proofs.Ytfbekpkagncblaa
