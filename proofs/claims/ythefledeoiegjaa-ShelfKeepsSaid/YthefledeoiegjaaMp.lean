/- Maps from texts to texts with a flag: their blocks, and what look-up, store, delete and len do to them. -/
import Derived.Test.YthefledeoiegjaaBase
import Derived.Maps.RangeRun
import Derived.MapKept
namespace Go.Proofs.Ythefledeoiegjaa
open Go.RowKit Go.MapKept
open Go.ChangeMaps (setBlock)

/-- A text. -/
def str (l : List UInt8) : ByteArray := ⟨l.toArray⟩
theorem str_inj {a b : List UInt8} (h : str a = str b) : a = b := by
  have := congrArg (fun x => x.data.toList) h
  simpa [str] using this
theorem str_data (s : ByteArray) : s = str s.data.toList := by simp [str]
theorem str_size (l : List UInt8) : (str l).size = l.length := by simp [str, ByteArray.size]
/-- An object: its bytes, and whether it is synced. -/
abbrev Ob := List UInt8 × Bool
abbrev Ent := List UInt8 × Ob
def objV (o : Ob) : Value := .agg #[.string (str o.1), .bool o.2]
def pairV (p : Ent) : Value × Value := (.string (str p.1), objV p.2)
theorem objV_inj {a b : Ob} (h : objV a = objV b) : a = b := by
  unfold objV at h
  simp at h
  obtain ⟨h1, h2⟩ := h
  exact Prod.ext (str_inj h1) h2
def get : List Ent → List UInt8 → Option Ob
  | [], _ => none
  | p :: r, n => if p.1 = n then some p.2 else get r n
def put : List Ent → List UInt8 → Ob → List Ent
  | [], n, o => [(n, o)]
  | p :: r, n, o => if p.1 = n then (n, o) :: r else p :: put r n o
def del : List Ent → List UInt8 → List Ent
  | [], _ => []
  | p :: r, n => if p.1 = n then r else p :: del r n
def has (L : List Ent) (n : List UInt8) : Bool := (get L n).isSome
/-- Block g is a map of these entries, in the order in which they came. -/
def mapIs (w : World) (g : Nat) (L : List Ent) : Prop :=
  ∃ es clock, w.heap[g]? = some (.map es clock) ∧ Stamped es clock ∧ es.toList.map (fun e => (e.key, e.val)) = L.map pairV
theorem mapIs.lt {w : World} {g : Nat} {L : List Ent} (h : mapIs w g L) : g < w.heap.size := by
  obtain ⟨es, clock, hb, _⟩ := h
  exact (Array.getElem?_eq_some_iff.1 hb).1
theorem mapIs.of_block {w w' : World} {g : Nat} {L : List Ent} (h : mapIs w g L) (hb : w'.heap[g]? = w.heap[g]?) : mapIs w' g L := by
  obtain ⟨es, clock, h1, h2, h3⟩ := h
  exact ⟨es, clock, hb.trans h1, h2, h3⟩
theorem mapIs.new (w : World) : mapIs (w.alloc (.map #[] 0)) w.heap.size [] :=
  ⟨#[], 0, (MapKept.heap_alloc w _).1, stamped_empty 0, rfl⟩
theorem mapIs.ne_block {w : World} {g k : Nat} {L : List Ent} {cs : List Value} {t : TypeId} (h : mapIs w g L) (hb : blockIs w k cs t) : g ≠ k := by
  intro e
  subst e
  obtain ⟨es, clock, h1, _⟩ := h
  unfold blockIs at hb
  rw [h1] at hb
  cases hb
/-- What findNow tells, in the list's words. -/
theorem find_list (n : List UInt8) : ∀ (l : List MapEntry) (L : List Ent) (i : Nat), l.map (fun e => (e.key, e.val)) = L.map pairV →
    (Instr.findNow .string (.string (str n)) l i = some none ∧ get L n = none ∧ put L n = (fun o => L ++ [(n, o)]) ∧ del L n = L) ∨
    ∃ j o, Instr.findNow .string (.string (str n)) l i = some (some (i + j, objV o)) ∧ j < L.length ∧ L[j]? = some (n, o) ∧ get L n = some o ∧ put L n = (fun o' => L.set j (n, o')) ∧ del L n = L.eraseIdx j
  | [], [], i, _ => .inl ⟨rfl, rfl, rfl, rfl⟩
  | e :: es, p :: r, i, h => by
    simp only [List.map_cons, List.cons.injEq] at h
    obtain ⟨h1, h2⟩ := h
    have hk : e.key = .string (str p.1) := congrArg Prod.fst h1
    have hv : e.val = objV p.2 := congrArg Prod.snd h1
    by_cases hn : p.1 = n
    · subst hn
      refine .inr ⟨0, p.2, ?_, by simp, rfl, by simp [get], by funext o; simp [put], by simp [del]⟩
      simp [Instr.findNow, Instr.sameNow, hk, hv, (bytes_beq _ _).2 rfl]
    · have hb : (str n == str p.1) = false := by
        cases hq : (str n == str p.1)
        · rfl
        · exact absurd (str_inj ((bytes_beq _ _).1 hq)).symm hn
      rcases find_list n es r (i + 1) h2 with ⟨g1, g2, g3, g4⟩ | ⟨j, o, g1, g2, g3, g4, g5, g6⟩
      · refine .inl ⟨by simp [Instr.findNow, Instr.sameNow, hk, hb, g1], by simp [get, hn, g2], ?_, by simp [del, hn, g4]⟩
        funext o
        simp [put, hn, g3]
      · refine .inr ⟨j + 1, o, ?_, by simp; omega, by simpa using g3, by simp [get, hn, g4], ?_, by simp [del, hn, g6]⟩
        · simp [Instr.findNow, Instr.sameNow, hk, hb, g1]
          omega
        · funext o'
          simp [put, hn, g5]
  | [], p :: r, i, h => by simp at h
  | e :: es, [], i, h => by simp at h
theorem isKey_str (n : List UInt8) : IsKey .string (.string (str n)) := by simp [IsKey]
theorem entry_get {es : List MapEntry} {L : List Ent} (h : es.map (fun e => (e.key, e.val)) = L.map pairV) {j : Nat} {p : Ent} (hj : L[j]? = some p) : ∃ e, es[j]? = some e ∧ e.key = .string (str p.1) ∧ e.val = objV p.2 := by
  have h1 := congrArg (fun l => l[j]?) h
  simp only [List.getElem?_map, hj, Option.map_some] at h1
  cases he : es[j]? with
  | none => simp [he] at h1
  | some e =>
    simp only [he, Option.map_some, Option.some.injEq] at h1
    exact ⟨e, rfl, congrArg Prod.fst h1, congrArg Prod.snd h1⟩
def obOr (o : Option Ob) : Ob := o.getD ([], false)
theorem zero_obj (w : World) : (zeroValue 58).run Try.prog w = .ok (objV ([], false)) w := by
  have : (zeroValue 58).run Try.prog w = .ok (.agg #[.string ⟨#[]⟩, .bool false]) w := by kernel_rfl
  exact this
/-- A look-up. -/
theorem run_look (c : Bool) {w : World} {g : Nat} {L : List Ent} (h : mapIs w g L) (n : List UInt8) :
    (Instr.lookup 48 (.map (some g)) (.string (str n)) c).run Try.prog w = .ok (if c then .tuple #[objV (obOr (get L n)), .bool (has L n)] else objV (obOr (get L n))) w := by
  obtain ⟨es, clock, hb, hs, hl⟩ := h
  rcases find_list n es.toList L 0 hl with ⟨h1, h2, -, -⟩ | ⟨j, o, h1, -, -, h2, -, -⟩
  · simp [Instr.lookup, run_underlying Try.underlying48, MapKept.run_getObj_map hb, MapKept.run_checkKey Try.underlying9 (isKey_str n), MapKept.run_findKey Try.underlying9 h1, Result.andThen, has, h2, obOr]
    rfl
  · simp [Instr.lookup, run_underlying Try.underlying48, MapKept.run_getObj_map hb, MapKept.run_checkKey Try.underlying9 (isKey_str n), MapKept.run_findKey Try.underlying9 h1, Result.andThen, has, h2, obOr]
theorem run_look_nil (c : Bool) (w : World) (n : List UInt8) :
    (Instr.lookup 48 (.map none) (.string (str n)) c).run Try.prog w = .ok (if c then .tuple #[objV ([], false), .bool false] else objV ([], false)) w := by
  have h1 : Instr.findNow .string (.string (str n)) [] 0 = some none := rfl
  simp [Instr.lookup, run_underlying Try.underlying48, MapKept.run_checkKey Try.underlying9 (isKey_str n), MapKept.run_findKey Try.underlying9 h1, Result.andThen]
  rfl
theorem toList_modify (es : Array MapEntry) (j : Nat) (f : MapEntry → MapEntry) : (es.modify j f).toList = es.toList.modify j f := by simp
/-- A store. -/
theorem run_put {w : World} {g : Nat} {L : List Ent} (h : mapIs w g L) (n : List UInt8) (o : Ob) :
    ∃ es' clock', (Instr.mapUpdate 48 (.map (some g)) (.string (str n)) (objV o)).run Try.prog w = .ok () (setBlock w g (.map es' clock')) ∧ mapIs (setBlock w g (.map es' clock')) g (put L n o) := by
  obtain ⟨es, clock, hb, hs, hl⟩ := h
  rcases find_list n es.toList L 0 hl with ⟨h1, h2, h3, -⟩ | ⟨j, o1, h1, hj, hx, h2, h3, -⟩
  · refine ⟨es.push { key := .string (str n), val := objV o, born := clock }, clock + 1, ?_, _, _, (MapKept.heap_set hb).1, ?_, ?_⟩
    · simp [Instr.mapUpdate, run_underlying Try.underlying48, MapKept.run_getObj_map hb, MapKept.run_checkKey Try.underlying9 (isKey_str n), MapKept.run_findKey Try.underlying9 h1, MapKept.run_setObj_map _ hb, Result.andThen, setBlock]
    · refine stamped_push hs fun x hx e => ?_
      have hm : (x.key, x.val) ∈ L.map pairV := by rw [← hl]; exact List.mem_map.2 ⟨x, hx, rfl⟩
      obtain ⟨p, hp, e2⟩ := List.mem_map.1 hm
      have e3 : Value.string (str p.1) = x.key := congrArg Prod.fst e2
      rw [e] at e3
      have e4 : p.1 = n := str_inj (by injection e3)
      have hh : ∀ (M : List Ent), p ∈ M → p.1 = n → get M n ≠ none := by
        intro M
        induction M with
        | nil => intro h; cases h
        | cons q r ih =>
          intro h e
          unfold get
          split
          · simp
          · rcases List.mem_cons.1 h with rfl | h
            · contradiction
            · exact ih h e
      exact hh L hp e4 h2
    · rw [h3]
      simp [hl, pairV]
  · obtain ⟨e, he, hk, hv⟩ := entry_get hl hx
    have hje : es[j]? = some e := by simpa using he
    have hf : ∀ e', es[j]? = some e' → ({ e' with key := .string (str n), val := objV o } : MapEntry).key = e'.key := fun e' he' => by rw [hje] at he'; cases he'; exact hk.symm
    refine ⟨es.modify j fun e => { e with key := .string (str n), val := objV o }, clock, ?_, _, _, (MapKept.heap_set hb).1, stamped_modify hs _ _ (fun _ _ => rfl) (fun e' _ he' => hf e' he'), ?_⟩
    · simp [Instr.mapUpdate, run_underlying Try.underlying48, MapKept.run_getObj_map hb, MapKept.run_checkKey Try.underlying9 (isKey_str n), MapKept.run_findKey Try.underlying9 h1, hje, hk, MapKept.run_keyThatStays (isKey_str n), MapKept.run_setObj_map _ hb, Result.andThen, setBlock]
    · rw [h3, toList_modify]
      apply List.ext_getElem?
      intro i
      have hi := congrArg (fun l => l[i]?) hl
      simp only [List.getElem?_map] at hi
      simp only [List.getElem?_map, List.getElem?_modify, List.getElem?_set]
      by_cases hij : j = i
      · subst hij
        simp [he, hj, pairV]
      · simp only [if_neg hij]
        rw [← hi]
        cases es.toList[i]? <;> rfl
/-- A delete. -/
theorem run_del {w : World} {g : Nat} {L : List Ent} (h : mapIs w g L) (n : List UInt8) (ty : TypeId) :
    ∃ es' clock', (Builtin.delete_ #[48, 9] ty #[.map (some g), .string (str n)]).run Try.prog w = .ok (.tuple #[]) (setBlock w g (.map es' clock')) ∧ mapIs (setBlock w g (.map es' clock')) g (del L n) := by
  obtain ⟨es, clock, hb, hs, hl⟩ := h
  rcases find_list n es.toList L 0 hl with ⟨h1, h2, -, h3⟩ | ⟨j, o1, h1, hj, hx, h2, -, h3⟩
  · refine ⟨es, clock, ?_, _, _, (MapKept.heap_set hb).1, hs, by rw [h3]; exact hl⟩
    simp [Builtin.delete_, run_underlying Try.underlying48, MapKept.run_getObj_map hb, MapKept.run_checkKey Try.underlying9 (isKey_str n), MapKept.run_findKey Try.underlying9 h1, MapKept.run_setObj_map _ hb, Result.andThen, setBlock]
  · refine ⟨es.eraseIdxIfInBounds j, clock, ?_, _, _, (MapKept.heap_set hb).1, stamped_erase hs j, ?_⟩
    · simp [Builtin.delete_, run_underlying Try.underlying48, MapKept.run_getObj_map hb, MapKept.run_checkKey Try.underlying9 (isKey_str n), MapKept.run_findKey Try.underlying9 h1, MapKept.run_setObj_map _ hb, Result.andThen, setBlock]
    · have hlen : es.toList.length = L.length := by simpa using congrArg List.length hl
      rw [h3]
      have hjs : j < es.size := by simpa using (show j < es.toList.length by omega)
      simp only [Array.eraseIdxIfInBounds, hjs, dite_true, Array.toList_eraseIdx]
      rw [Go.ChangeMaps.map_eraseIdx, hl, Go.ChangeMaps.map_eraseIdx]
theorem run_del_nil (w : World) (n : List UInt8) (ty : TypeId) :
    (Builtin.delete_ #[48, 9] ty #[.map none, .string (str n)]).run Try.prog w = .ok (.tuple #[]) w := by
  simp [Builtin.delete_, run_underlying Try.underlying48, MapKept.run_checkKey Try.underlying9 (isKey_str n), Result.andThen]
/-- How many. -/
theorem run_len_map {w : World} {g : Nat} {L : List Ent} (h : mapIs w g L) (ty : TypeId) : (Builtin.len_ #[48] ty #[.map (some g)]).run Try.prog w = .ok (.int .i64 (L.length : Int)) w := by
  obtain ⟨es, clock, hb, hs, hl⟩ := h
  have e : es.size = L.length := by simpa using congrArg List.length hl
  simp [Builtin.len_, run_underlying Try.underlying48, MapKept.run_getObj_map hb, goInt, Result.andThen, e]
theorem run_len_map_nil (w : World) (ty : TypeId) : (Builtin.len_ #[48] ty #[.map none]).run Try.prog w = .ok (.int .i64 0) w := by
  simp [Builtin.len_, run_underlying Try.underlying48, goInt, Result.andThen]
end Go.Proofs.Ythefledeoiegjaa
