/- Rows of values of one cell each, of the call's own. -/
import Derived.Test.YtaohbpmefcdipaaDoorCtReach
namespace Go.Proofs.YtaohbpmefcdipaaDoor.Ct
open Go.RowKit

theorem below_drewN {B : Nat} {x y : World} (h : Below B x y) (n : Nat) : Below B x (y.drewN n) := ⟨h.os, h.tape, h.output, h.size, h.block⟩
/-- A slice's cells hold these values. -/
def valsIn (w : World) (a : Option Addr) (xs : List Value) : Prop := xs = [] ∨ ∃ b o, a = some ⟨b, o, none⟩ ∧ ∀ j, j < xs.length → w.cell? ⟨b, o + j, none⟩ = xs[j]?
theorem valsIn.below {w w' : World} {a : Option Addr} {xs : List Value} (h : valsIn w a xs) {B : Nat} (hb : Below B w w') (hB : w.heap.size ≤ B) : valsIn w' a xs := by
  rcases h with h | ⟨bb, bo, h1, h3⟩
  · exact Or.inl h
  · refine Or.inr ⟨bb, bo, h1, fun j hj => ?_⟩
    have e := h3 j hj
    rw [List.getElem?_eq_getElem hj] at e ⊢
    exact (hb.cell (p := ⟨bb, bo + j, none⟩) (Nat.lt_of_lt_of_le (block_lt_of_cell e) hB)).trans e
theorem valsIn.at {w : World} {a : Option Addr} {xs : List Value} (h : valsIn w a xs) (j : Nat) (hj : j < xs.length) : ∃ b o, a = some ⟨b, o, none⟩ ∧ w.cell? ⟨b, o + j, none⟩ = some xs[j] := by
  rcases h with h | ⟨bb, bo, h1, h3⟩
  · subst h; simp at hj
  · exact ⟨bb, bo, h1, by rw [h3 j hj, List.getElem?_eq_getElem hj]⟩
/-- A row of the call's own. -/
def rowV (w : World) (base : Nat) (e : TypeId) (v : Value) (xs : List Value) : Prop := w.ownsRow base e 1 v xs.length xs
theorem rowV.nil (w : World) (base : Nat) (e : TypeId) : rowV w base e (.slice none 0 0) [] := World.ownsRow_nil w base e 1
theorem rowV.vals {w : World} {base : Nat} {e : TypeId} {v : Value} {xs : List Value} (h : rowV w base e v xs) : ∃ a c, v = .slice a xs.length c ∧ xs.length ≤ c ∧ valsIn w a xs ∧ (a = none → c = 0) := by
  rcases h.2 with ⟨rfl, h0⟩ | ⟨g, cap, cur, rfl, hb, hh, hn, hc, hs, ht⟩
  · have : xs = [] := List.eq_nil_of_length_eq_zero h0
    subst this
    exact ⟨none, 0, rfl, Nat.le_refl _, Or.inl rfl, fun _ => rfl⟩
  · refine ⟨some ⟨g, 0, none⟩, cap, rfl, hn, Or.inr ⟨g, 0, rfl, fun j hj => ?_⟩, fun h => by cases h⟩
    rw [Nat.zero_add, World.ownsRow.cellAt h j (by omega)]
theorem rowV.kept {w w' : World} {base : Nat} {e : TypeId} {v : Value} {xs : List Value} (h : rowV w base e v xs) {g b : Nat} (hb : But2 g b w w') (hg : g < base) (hb2 : b < base) : rowV w' base e v xs := by
  rcases h.2 with ⟨rfl, h0⟩ | ⟨g', cap, cur, rfl, hba, hh, hn, hc, hs, ht⟩
  · exact ⟨h.1, Or.inl ⟨rfl, h0⟩⟩
  · refine ⟨h.1, Or.inr ⟨g', cap, cur, rfl, hba, ?_, hn, hc, hs, ht⟩⟩
    rw [hb.block g' (Array.getElem?_eq_some_iff.1 hh).1 (by omega) (by omega)]
    exact hh
theorem rowV.below {w w' : World} {base : Nat} {e : TypeId} {v : Value} {xs : List Value} (h : rowV w base e v xs) {B : Nat} (hb : Below B w w') (hB : w.heap.size ≤ B) : rowV w' base e v xs := by
  have hg : w.grownBy w' none := ⟨hb.os, hb.tape, hb.output, hb.size, fun k hk _ => hb.block k (by omega)⟩
  refine World.ownsRow.kept h hg ?_
  cases v.ownBlock with
  | none => exact Or.inl rfl
  | some g => exact Or.inr (by simp)
theorem rowV.mono {w : World} {base base' : Nat} {e : TypeId} {v : Value} {xs : List Value} (h : rowV w base e v xs) (hb : base' ≤ base) : rowV w base' e v xs := by
  rcases h.2 with ⟨rfl, h0⟩ | ⟨g', cap, cur, rfl, hba, hh, hn, hc, hs, ht⟩
  · exact ⟨h.1, Or.inl ⟨rfl, h0⟩⟩
  · exact ⟨h.1, Or.inr ⟨g', cap, cur, rfl, by omega, hh, hn, hc, hs, ht⟩⟩
theorem rowV.grew {w w' : World} {base : Nat} {e : TypeId} {v : Value} {xs : List Value} (h : rowV w base e v xs) (hB : base ≤ w.heap.size) (hg : w.grownBy w' v.ownBlock) : Below base w w' :=
  own_below (Below.refl base w) h hg hB
theorem KnifeAt.belowB {w w' : World} {k g b : Nat} {r : Rl} {pv : Value} {L : List UInt8} (h : KnifeAt w k g b r pv L) {B : Nat} (hb : Below B w w') (h1 : k < B) (h2 : g < B) (h3 : b < B) : KnifeAt w' k g b r pv L := by
  obtain ⟨ld, p, rg, hr⟩ := h.roll
  exact ⟨h.ok, h.kn.below hb h1, ⟨ld, p, rg, hr.hm, hr.ne, hr.cells.below hb h2, hr.bytes.below hb h3, hr.len, hr.lt, hr.win, hr.lead_, hr.short⟩, h.kg, h.kb⟩
/-- Values put behind a row of the call's own. -/
theorem append_vals {w : World} {ops : Array Oper} {rest : List Oper} {o : Oper} {a : Act} {Q : Exit → Act → World → Prop} (hgd : o.guard = none) (s x : Operand) (t e : TypeId)
    (ho : o.op = .call { callee := .builtin .append, args := #[s, x], argTypes := #[t, t] })
    (ht : Tryd.prog.underlying t = some (.slice e)) (z : Value) (bytes : Nat) (hi : (Tryd.prog.info? e).map (fun i => (i.zero, i.size, i.bytes)) = some (some z, 1, bytes)) (hz1 : z.cells.size = 1) (hby : bytes ≤ 1000)
    (base : Nat) (v : Value) (xs : List Value) (hs : a.eval s = v) (hown : rowV w base e v xs) (A : Option Addr) (n c : Nat) (l : List Value) (hnl : n = l.length) (hx : a.eval x = .slice A n c)
    (hz : A = none → c = 0) (hb : valsIn w A l) (hl1 : ∀ u ∈ l, u.oneCell' = true) (hn : xs.length + l.length ≤ 1000000) (hbase : base ≤ w.heap.size)
    (h : ∀ v' w', rowV w' base e v' (xs ++ l) → w.grownBy w' v.ownBlock → wpList Tryd.prog ops Q rest (a.put o.dst v') w') : wpList Tryd.prog ops Q (o :: rest) a w := by
  subst hnl
  obtain ⟨i0, hi, hz0, hz1', hz2⟩ := info_parts hi
  cases A with
  | none =>
    have hl : l = [] := by
      rcases hb with h0 | ⟨b, o', h1, _⟩
      · exact h0
      · cases h1
    subst hl
    obtain rfl := hz rfl
    exact wpList_append_own_none hgd s x t ho base e i0 1 ht hi v _ _ hs hown hx (h v w (by simpa using hown) (World.grownBy.refl w _))
  | some ad =>
    refine wpList_append_own w hgd s x t ho base e i0 z 1 bytes ht hi hz0 hz1' hz2 hz1 (by decide) v _ _ hs hown ad l.length c l hx (by simp) ?_ hl1 ?_ ?_ hbase ?_
    · intro j u hj
      have hjn : j < l.length := (List.getElem?_eq_some_iff.1 hj).1
      rcases hb with h0 | ⟨b, o', h1, hc⟩
      · rw [h0] at hjn; simp at hjn
      · cases h1
        rw [Addr.add_lit, hc j hjn, ← hj]
    · unfold maxLen; omega
    · have : (xs.length + l.length) * bytes ≤ 1000000 * 1000 := Nat.mul_le_mul hn hby
      omega
    · intro v' w' h1 h2 _
      refine h v' w' ?_ h2
      unfold rowV
      rw [List.length_append]
      exact h1
def ivals (l : List Nat) : List Value := l.map fun (n : Nat) => Value.int .i64 (n : Int)
theorem ivals_append (l m : List Nat) : ivals (l ++ m) = ivals l ++ ivals m := by simp [ivals]
theorem ivals_length (l : List Nat) : (ivals l).length = l.length := by simp [ivals]
theorem ivals_get (l : List Nat) (j : Nat) (h : j < l.length) : (ivals l)[j]? = some (.int .i64 ((l.getD j 0 : Nat) : Int)) := by simp [ivals, h]
theorem ivals_one (l : List Nat) : ∀ u ∈ ivals l, u.oneCell' = true := by
  intro u hu
  obtain ⟨_, _, rfl⟩ := List.mem_map.1 hu
  rfl
theorem info_int : (Tryd.prog.info? 3).map (fun i => (i.zero, i.size, i.bytes)) = some (some (.int .i64 0), 1, 8) := by kernel_rfl
theorem vals_one {w : World} (v : Value) (t : TypeId) : valsIn (w.alloc (.cells #[v] t (0, 0))) (some ⟨w.heap.size, 0, none⟩) [v] := by
  refine Or.inr ⟨_, _, rfl, fun j hj => ?_⟩
  match j, hj with
  | 0, _ => rw [World.cell?_alloc_at _ _ _ _ rfl]; rfl
end Go.Proofs.YtaohbpmefcdipaaDoor.Ct
