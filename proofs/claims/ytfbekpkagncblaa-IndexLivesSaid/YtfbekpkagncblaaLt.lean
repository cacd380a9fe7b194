/- Rows of texts: cloned, compared; a file without packs, cloned. -/
import Derived.Test.YtfbekpkagncblaaMq
import Derived.WalkSpells
namespace Go.Proofs.Ytfbekpkagncblaa
open Go.RowKit

theorem alloc_below (w : World) (o : Obj) : Below w.heap.size w (w.alloc o) := (Below.refl _ w).alloc (Nat.le_refl _) o
def txs (L : List (List UInt8)) : List Value := L.map fun s => .string (str s)
theorem txs_length (L : List (List UInt8)) : (txs L).length = L.length := by simp [txs]
theorem txs_get (L : List (List UInt8)) (j : Nat) (h : j < L.length) : (txs L)[j]'(by rw [txs_length]; exact h) = .string (str L[j]) := by simp [txs]
theorem txs_one (L : List (List UInt8)) : ∀ v ∈ txs L, v.oneCell' = true := fun v hv => by
  obtain ⟨s, -, rfl⟩ := List.mem_map.1 hv
  rfl
/-- A slice of texts. -/
def textsIn (w : World) (v : Value) (L : List (List UInt8)) : Prop := ∃ a c, v = .slice a L.length c ∧ L.length ≤ c ∧ c ≤ 9223372036854775807 ∧ (a = none → c = 0) ∧ valsIn w a (txs L)
theorem textsIn.below {w w' : World} {v : Value} {L : List (List UInt8)} (h : textsIn w v L) {B : Nat} (hb : Below B w w') (hB : w.heap.size ≤ B) : textsIn w' v L := by
  obtain ⟨a, c, e, h1, h2, h3, h4⟩ := h
  exact ⟨a, c, e, h1, h2, h3, h4.below hb hB⟩
theorem info_str : (Try.prog.info? 9).map (fun i => (i.zero, i.size, i.bytes)) = some (some (.string ⟨#[]⟩), 1, 16) := by kernel_rfl
theorem own_texts {w : World} {base : Nat} {v : Value} {L : List (List UInt8)} (h : w.ownsRow base 9 1 v L.length (txs L)) : textsIn w v L := by
  rcases h.2 with ⟨rfl, h0⟩ | ⟨g, cap, cur, rfl, hba, hh, hn, hc, hs, ht⟩
  · have : L = [] := List.eq_nil_of_length_eq_zero h0
    subst this
    exact ⟨none, 0, rfl, Nat.le_refl _, by decide, fun _ => rfl, Or.inl rfl⟩
  · refine ⟨some ⟨g, 0, none⟩, cap, rfl, hn, by unfold maxLen at hc; omega, (fun h => by cases h), ?_⟩
    by_cases h0 : txs L = []
    · exact Or.inl h0
    · refine Or.inr ⟨g, 0, rfl, fun j hj => ?_⟩
      have hjc : j < L.length * 1 := by rw [txs_length] at hj; omega
      rw [cell_of_row w g (0 + j) cur 9 (0, 0) hh, ← ht, Nat.zero_add, List.getElem?_take, if_pos hjc]
      simp
section
variable {w : World} {ops : Array Oper} {rest : List Oper} {o : Oper} {a : Act} {Q : Exit → Act → World → Prop}
/-- Texts, put behind a row of one's own. -/
theorem append_txs (hgd : o.guard = none) (s x : Operand) (ho : o.op = .call { callee := .builtin .append, args := #[s, x], argTypes := #[22, 22] })
    (base : Nat) (v : Value) (P0 P : List (List UInt8)) (hs : a.eval s = v) (hown : w.ownsRow base 9 1 v P0.length (txs P0)) (pv : Value) (hx : a.eval x = pv) (hid : textsIn w pv P) (hn : P0.length + P.length ≤ 100000000) (hbase : base ≤ w.heap.size)
    (h : ∀ v' w', Hid (w'.ownsRow base 9 1 v' (P0 ++ P).length (txs (P0 ++ P))) → Hid (w.grownBy w' v.ownBlock) → wpList Try.prog ops Q rest (a.put o.dst v') w') : wpList Try.prog ops Q (o :: rest) a w := by
  obtain ⟨i0, hi, hz0, hz1, hz2⟩ := info_parts info_str
  obtain ⟨A, c, rfl, g1, g2, g3, g5⟩ := hid
  have e1 : txs (P0 ++ P) = txs P0 ++ txs P := by simp [txs]
  cases A with
  | none =>
    obtain rfl : P = [] := by
      rcases g5 with h | ⟨b, o, e, -⟩
      · have := congrArg List.length h
        rw [txs_length] at this
        exact List.eq_nil_of_length_eq_zero this
      · cases e
    obtain rfl := g3 rfl
    exact wpList_append_own_none hgd s x 22 ho base 9 i0 1 Try.underlying22 hi v _ _ hs hown hx (h v w (Lib.hid (by simpa using hown)) (Lib.hid (World.grownBy.refl w _)))
  | some ad =>
    refine wpList_append_own w hgd s x 22 ho base 9 i0 _ 1 16 Try.underlying22 hi hz0 hz1 hz2 (by simp [Value.cells]) (by decide) v P0.length (txs P0) hs hown ad P.length c (txs P) hx (by rw [txs_length]; omega) (fun j u hj => ?_) (txs_one P) (by unfold maxLen; omega) (by omega) hbase (fun v' w' r1 r2 _ => h v' w' (Lib.hid ?_) (Lib.hid r2))
    · have hjn := (List.getElem?_eq_some_iff.1 hj).1
      rcases g5 with h | ⟨b, o', e, hc⟩
      · rw [h] at hjn; simp at hjn
      · cases e
        rw [Addr.add_lit, hc j hjn]
        exact hj
    · rw [e1, List.length_append]
      exact r1
end
set_option maxRecDepth 100000 in
theorem clone_txs (pv : Value) (P : List (List UInt8)) (w : World) (h : textsIn w pv P) (hb : P.length ≤ 10000000) :
    Calls Try.prog 11 #[pv] w fun e w' => (∃ v, e = .returned v ∧ w'.ownsRow w.heap.size 9 1 v P.length (txs P)) ∧ Below w.heap.size w w' := by
  obtain ⟨a, c, rfl, h1, h2, h3, h5⟩ := h
  have q := fun (w : World) (a : Option Addr) (n c n' c' : Nat) => Go.Lib.run_eql_slice_nil (P := Try.prog) w 22 _ a n c n' c' Try.underlying22
  have H5 := Lib.hid h5
  cases a with
  | none =>
    obtain rfl := h3 rfl
    obtain rfl : P = [] := List.eq_nil_of_length_eq_zero (by omega)
    clear h5
    go_enter Try.func11, Try.ntmps11
    go_wp2_with fail
    go_ret
    exact ⟨⟨_, rfl, World.ownsRow_nil _ _ _ _⟩, Below.refl _ _⟩
  | some ad =>
    have HI : Hid (textsIn w (.slice (some ad) P.length c) P) := Lib.hid ⟨some ad, c, rfl, h1, h2, h3, H5.out⟩
    have A0 := alloc_below w (.cells #[] 9 (0, 0))
    have HI2 := Lib.hid (HI.out.below A0 (Nat.le_refl _))
    have HO : Hid ((w.alloc (.cells #[] 9 (0, 0))).ownsRow w.heap.size 9 1 (.slice (some ⟨w.heap.size, 0, none⟩) 0 0) ([] : List (List UInt8)).length (txs [])) := Lib.hid (World.ownsRow_lit w #[] 0 (Nat.le_refl _) (by decide) (by simp))
    have HS := Lib.hid A0.size
    have HA := Lib.hid A0
    clear h5 A0
    go_enter Try.func11, Try.ntmps11
    go_wp2_with (refine append_txs rfl _ _ rfl w.heap.size _ [] P rfl HO.out _ rfl HI2.out (by simp; omega) HS.out ?_)
    intro v' w' r1 g1
    have hb := World.ownsRow.lt HO.out
    have B1 := Lib.hid (HA.out.trans ((Below.refl w.heap.size _).grown g1.out HS.out (fun k hk => (hb k hk).1)))
    go_wp2_with fail
    go_ret
    exact ⟨⟨_, rfl, r1.out⟩, B1.out⟩
end Go.Proofs.Ytfbekpkagncblaa
